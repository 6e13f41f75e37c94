/-
  Contract of spec.l02Text (by the node).
-/
import Derived.Test.YtgmpenchojnihaaGreatTermX
import Derived.Test.YtgmpenchojnihaaGreatNumA
namespace Go.Proofs.YtgmpenchojnihaaGreat
open Go.RowKit
open Go Go.Deep

theorem node_keptZ {w w2 : World} {c : Array Value} {T : TypeId} (hb : Below (w.alloc (.cells c T)).heap.size (w.alloc (.cells c T)) w2) (k : Nat) : w2.cell? ⟨w.heap.size, k, none⟩ = c[k]? := by
  rw [hb.cell (p := ⟨w.heap.size, k, none⟩) (by simp), World.cell?_alloc_at _ _ _ _ rfl]

theorem specSmall_any (n : Int) (w : World) (h : n = 0 ∨ n = 1 ∨ n = 2) : Calls Tryz.prog 118 #[.int .i64 n] w fun e w' => e = .returned (.string (str [UInt8.ofNat (48 + n.toNat)])) ∧ Below w.heap.size w w' := by
  rcases h with rfl | rfl | rfl
  · have e := dec_last (k := 0) (by decide) []
    have := specFormat_pos 0 w (by decide)
    rw [List.append_nil] at e
    rw [e] at this
    exact this
  · have e := dec_last (k := 1) (by decide) []
    have := specFormat_pos 1 w (by decide)
    rw [List.append_nil] at e
    rw [e] at this
    exact this
  · have e := dec_last (k := 2) (by decide) []
    have := specFormat_pos 2 w (by decide)
    rw [List.append_nil] at e
    rw [e] at this
    exact this

set_option maxRecDepth 100000 in
set_option maxHeartbeats 16000000 in
theorem specText_any (xs : List Nd) (v : Value) (hn : nodesOk xs = true) : ∀ (m i : Nat) (w : World), i < m → i < xs.length → Ns w v xs → (tmAt xs i).size ≤ 100 →
    Calls Tryz.prog 117 #[v, .int .i64 i] w fun e w' => e = .returned (.string (str (txt (tmAt xs i)))) ∧ Below w.heap.size w w' := by
  have HN := Lib.hid hn
  clear hn
  intro m
  induction m with
  | zero => intro i w hi; omega
  | succ m ih =>
    intro i w hi hl hr hs
    have hok := nodesOk_at HN.out hl
    have hp := okAt_parts hok
    rw [tmAt_eq HN.out hl] at hs ⊢
    obtain ⟨a, cap, rfl, h1, h2, h3⟩ := hr.parts
    obtain ⟨b, o, rfl, hb, c0, c1, c2, c3⟩ := h3 i hl
    clear h3 hok
    have HR := Lib.hid hr
    clear hr
    generalize hx : xs.getD i default = x at *
    obtain ⟨op, n, xa, xb⟩ := x
    simp only [] at c0 c1 c2 c3 hp hs ⊢
    clear hx
    unfold maxLen at h2
    have IH := Lib.hid ih
    clear ih
    rcases op_kinds hp.1.1 hp.1.2.1 with ⟨ho, hu⟩ | ⟨ho, hu⟩ | ⟨ho, hu⟩ | ⟨ho, hu⟩
    · rw [mkTm_leaf ho, show txt (Tm.leaf op n) = headB op n from rfl]
      rcases ho with rfl | rfl
      · have hn4 : n = 0 ∨ n = 1 ∨ n = 2 ∨ n = 3 := by have := hp.1.2.2; have : limN 1 = 4 := rfl; omega
        clear hu hp hs
        rcases hn4 with rfl | rfl | rfl | rfl
        · have hcv := run_bytes_one (P := Tryz.prog) Tryz.underlying51 Tryz.underlying5 Tryz.underlying9 (w.alloc (.cells #[.int .i64 1, .int .i64 0, .int .i64 xa, .int .i64 xb] 70)) 97
          simp only [World.size_alloc] at hcv
          go_enter Tryz.func117, Tryz.ntmps117
          go_wp2
          go_ret
          exact ⟨ret_str rfl, ((Below.refl _ _).alloc (Nat.le_refl _) _).alloc (by simp) _⟩
        · have hcv := run_bytes_one (P := Tryz.prog) Tryz.underlying51 Tryz.underlying5 Tryz.underlying9 (w.alloc (.cells #[.int .i64 1, .int .i64 1, .int .i64 xa, .int .i64 xb] 70)) 98
          simp only [World.size_alloc] at hcv
          go_enter Tryz.func117, Tryz.ntmps117
          go_wp2
          go_ret
          exact ⟨ret_str rfl, ((Below.refl _ _).alloc (Nat.le_refl _) _).alloc (by simp) _⟩
        · have hcv := run_bytes_one (P := Tryz.prog) Tryz.underlying51 Tryz.underlying5 Tryz.underlying9 (w.alloc (.cells #[.int .i64 1, .int .i64 2, .int .i64 xa, .int .i64 xb] 70)) 99
          simp only [World.size_alloc] at hcv
          go_enter Tryz.func117, Tryz.ntmps117
          go_wp2
          go_ret
          exact ⟨ret_str rfl, ((Below.refl _ _).alloc (Nat.le_refl _) _).alloc (by simp) _⟩
        · have hcv := run_bytes_one (P := Tryz.prog) Tryz.underlying51 Tryz.underlying5 Tryz.underlying9 (w.alloc (.cells #[.int .i64 1, .int .i64 3, .int .i64 xa, .int .i64 xb] 70)) 100
          simp only [World.size_alloc] at hcv
          go_enter Tryz.func117, Tryz.ntmps117
          go_wp2
          go_ret
          exact ⟨ret_str rfl, ((Below.refl _ _).alloc (Nat.le_refl _) _).alloc (by simp) _⟩
      · clear hu hp hs
        go_enter Tryz.func117, Tryz.ntmps117
        go_wp2
        go_ret
        exact ⟨ret_str rfl, (Below.refl _ _).alloc (Nat.le_refl _) _⟩
    · subst ho
      rw [mkTm_deny] at hs ⊢
      have ha := hp.2.1 (by omega)
      obtain ⟨k, rfl⟩ : ∃ k : Nat, xa = k := ⟨xa.toNat, by omega⟩
      rw [Int.toNat_natCast] at hs ⊢
      have hka : k < m := by omega
      have hkl : k < xs.length := by omega
      have hks : (tmAt xs k).size ≤ 100 := by simp only [Tm.size] at hs; omega
      have z2 : (str (txt (tmAt xs k))).size ≤ 200 := by have := (txt_len (tmAt xs k)).2; rw [str_size]; omega
      have KD := Lib.hid (fun W (h : Below w.heap.size w W) => IH.out k W hka hkl (HR.out.below h (Nat.le_refl _)) hks)
      rw [show str (txt (Tm.deny (tmAt xs k))) = ⟨#[45]⟩ ++ str (txt (tmAt xs k)) from (str_app [45] _).symm]
      clear hu hp hs ha hks hka hkl
      generalize str (txt (tmAt xs k)) = s2 at *
      have hadd := fun W => run_string_add_sum (P := Tryz.prog) W ⟨#[45]⟩ s2 (by have : (⟨#[45]⟩ : ByteArray).size = 1 := rfl; omega)
      go_enter Tryz.func117, Tryz.ntmps117
      go_wp2_with fail
      refine (KD.out _ ((Below.refl _ _).alloc (Nat.le_refl _) _)).mono ?_
      rintro e w2 ⟨rfl, hb2⟩
      have B2 := Lib.hid (((Below.refl w.heap.size w).alloc (Nat.le_refl _) _).trans (hb2.mono (by simp)))
      clear hb2 c0 c1 c2 c3
      go_wp2
      go_ret
      exact ⟨rfl, B2.out⟩
    · rw [mkTm_know ho] at hs ⊢
      have ha := hp.2.1 (by omega)
      obtain ⟨k, rfl⟩ : ∃ k : Nat, xa = k := ⟨xa.toNat, by omega⟩
      rw [Int.toNat_natCast] at hs ⊢
      have hka : k < m := by omega
      have hkl : k < xs.length := by omega
      have hks : (tmAt xs k).size ≤ 100 := by simp only [Tm.size] at hs; omega
      have z2 : (str (txt (tmAt xs k))).size ≤ 200 := by have := (txt_len (tmAt xs k)).2; rw [str_size]; omega
      have KD := Lib.hid (fun W (h : Below w.heap.size w W) => IH.out k W hka hkl (HR.out.below h (Nat.le_refl _)) hks)
      have hop : op = 5 ∨ op = 6 ∨ op = 7 ∨ op = 8 := ho
      rcases hop with rfl | rfl | rfl | rfl
      · have KF := Lib.hid (fun W => specSmall_any n W (by have := hp.1.2.2; have : limN 5 = 3 := rfl; omega))
        rw [show str (txt (Tm.know 5 n (tmAt xs k))) = ⟨#[75]⟩ ++ str [UInt8.ofNat (48 + n.toNat)] ++ str (txt (tmAt xs k)) by
          rw [show (⟨#[75]⟩ : ByteArray) = str [75] from rfl, str_app, str_app]; rfl]
        clear hu hp hs ha hks hka hkl ho
        generalize str (txt (tmAt xs k)) = s2 at *
        have z1 : (str [UInt8.ofNat (48 + n.toNat)]).size ≤ 1 := Nat.le_refl _
        generalize str [UInt8.ofNat (48 + n.toNat)] = s1 at *
        have hadd := fun W => run_string_add_sum (P := Tryz.prog) W ⟨#[75]⟩ s1 (by have : (⟨#[75]⟩ : ByteArray).size = 1 := rfl; omega)
        have hadd' := fun W => run_string_add_sum (P := Tryz.prog) W (⟨#[75]⟩ ++ s1) s2 (by rw [ByteArray.size_append]; have : (⟨#[75]⟩ : ByteArray).size = 1 := rfl; omega)
        go_enter Tryz.func117, Tryz.ntmps117
        go_wp2
        go_region_held3 (fun w' => w'.cell? ⟨w.heap.size, 1, none⟩ = some (.int .i64 n) ∧ w'.cell? ⟨w.heap.size, 2, none⟩ = some (.int .i64 k) ∧ Below w.heap.size w w' ∧ w.heap.size < w'.heap.size)
          (first
            | exact ⟨by simp, by simp, ((Below.refl _ _).alloc (Nat.le_refl _) _).drew, by simp⟩
            | go_keep
            | (go_split_ands
               exact ⟨by rw [hb1.cell (p := ⟨w.heap.size, 1, none⟩) (by show w.heap.size < _; omega)]; assumption, by rw [hb1.cell (p := ⟨w.heap.size, 2, none⟩) (by show w.heap.size < _; omega)]; assumption, Below.trans (by assumption) (hb1.mono (by omega)), by have := hb1.size; omega⟩))
          ((first
            | (go_at_call 118; refine (KF.out _).mono ?_; rintro e w1 ⟨rfl, hb1⟩)
            | (go_at_call 117; refine (KD.out _ (by first | assumption | (go_split_ands; assumption))).mono ?_; rintro e w1 ⟨rfl, hb1⟩)))
        all_goals
          go_wp2
          go_ret
          exact ⟨rfl, by first | assumption | (go_split_ands; assumption)⟩
      · have KF := Lib.hid (fun W => specSmall_any n W (by have := hp.1.2.2; have : limN 6 = 3 := rfl; omega))
        rw [show str (txt (Tm.know 6 n (tmAt xs k))) = ⟨#[87]⟩ ++ str [UInt8.ofNat (48 + n.toNat)] ++ str (txt (tmAt xs k)) by
          rw [show (⟨#[87]⟩ : ByteArray) = str [87] from rfl, str_app, str_app]; rfl]
        clear hu hp hs ha hks hka hkl ho
        generalize str (txt (tmAt xs k)) = s2 at *
        have z1 : (str [UInt8.ofNat (48 + n.toNat)]).size ≤ 1 := Nat.le_refl _
        generalize str [UInt8.ofNat (48 + n.toNat)] = s1 at *
        have hadd := fun W => run_string_add_sum (P := Tryz.prog) W ⟨#[87]⟩ s1 (by have : (⟨#[87]⟩ : ByteArray).size = 1 := rfl; omega)
        have hadd' := fun W => run_string_add_sum (P := Tryz.prog) W (⟨#[87]⟩ ++ s1) s2 (by rw [ByteArray.size_append]; have : (⟨#[87]⟩ : ByteArray).size = 1 := rfl; omega)
        go_enter Tryz.func117, Tryz.ntmps117
        go_wp2
        go_region_held3 (fun w' => w'.cell? ⟨w.heap.size, 1, none⟩ = some (.int .i64 n) ∧ w'.cell? ⟨w.heap.size, 2, none⟩ = some (.int .i64 k) ∧ Below w.heap.size w w' ∧ w.heap.size < w'.heap.size)
          (first
            | exact ⟨by simp, by simp, ((Below.refl _ _).alloc (Nat.le_refl _) _).drew, by simp⟩
            | go_keep
            | (go_split_ands
               exact ⟨by rw [hb1.cell (p := ⟨w.heap.size, 1, none⟩) (by show w.heap.size < _; omega)]; assumption, by rw [hb1.cell (p := ⟨w.heap.size, 2, none⟩) (by show w.heap.size < _; omega)]; assumption, Below.trans (by assumption) (hb1.mono (by omega)), by have := hb1.size; omega⟩))
          ((first
            | (go_at_call 118; refine (KF.out _).mono ?_; rintro e w1 ⟨rfl, hb1⟩)
            | (go_at_call 117; refine (KD.out _ (by first | assumption | (go_split_ands; assumption))).mono ?_; rintro e w1 ⟨rfl, hb1⟩)))
        all_goals
          go_wp2
          go_ret
          exact ⟨rfl, by first | assumption | (go_split_ands; assumption)⟩
      · rw [show str (txt (Tm.know 7 n (tmAt xs k))) = ⟨#[69]⟩ ++ str (txt (tmAt xs k)) from (str_app [69] _).symm]
        clear hu hp hs ha hks hka hkl ho
        generalize str (txt (tmAt xs k)) = s2 at *
        have hadd := fun W => run_string_add_sum (P := Tryz.prog) W ⟨#[69]⟩ s2 (by have : (⟨#[69]⟩ : ByteArray).size = 1 := rfl; omega)
        go_enter Tryz.func117, Tryz.ntmps117
        go_wp2_with fail
        refine (KD.out _ ((Below.refl _ _).alloc (Nat.le_refl _) _)).mono ?_
        rintro e w2 ⟨rfl, hb2⟩
        have B2 := Lib.hid (((Below.refl w.heap.size w).alloc (Nat.le_refl _) _).trans (hb2.mono (by simp)))
        clear hb2 c0 c1 c2 c3
        go_wp2
        go_ret
        exact ⟨rfl, B2.out⟩
      · rw [show str (txt (Tm.know 8 n (tmAt xs k))) = ⟨#[67]⟩ ++ str (txt (tmAt xs k)) from (str_app [67] _).symm]
        clear hu hp hs ha hks hka hkl ho
        generalize str (txt (tmAt xs k)) = s2 at *
        have hadd := fun W => run_string_add_sum (P := Tryz.prog) W ⟨#[67]⟩ s2 (by have : (⟨#[67]⟩ : ByteArray).size = 1 := rfl; omega)
        go_enter Tryz.func117, Tryz.ntmps117
        go_wp2_with fail
        refine (KD.out _ ((Below.refl _ _).alloc (Nat.le_refl _) _)).mono ?_
        rintro e w2 ⟨rfl, hb2⟩
        have B2 := Lib.hid (((Below.refl w.heap.size w).alloc (Nat.le_refl _) _).trans (hb2.mono (by simp)))
        clear hb2 c0 c1 c2 c3
        go_wp2
        go_ret
        exact ⟨rfl, B2.out⟩
    · rw [mkTm_joint ho] at hs ⊢
      have ha := hp.2.1 (by omega)
      have hb' := hp.2.2.1 hu
      obtain ⟨k, rfl⟩ : ∃ k : Nat, xa = k := ⟨xa.toNat, by omega⟩
      obtain ⟨k', rfl⟩ : ∃ k : Nat, xb = k := ⟨xb.toNat, by omega⟩
      rw [Int.toNat_natCast, Int.toNat_natCast] at hs ⊢
      have hka : k < m := by omega
      have hkl : k < xs.length := by omega
      have hkb : k' < m := by omega
      have hkl' : k' < xs.length := by omega
      have hks : (tmAt xs k).size ≤ 100 := by simp only [Tm.size] at hs; omega
      have hks' : (tmAt xs k').size ≤ 100 := by simp only [Tm.size] at hs; omega
      have z2 : (str (txt (tmAt xs k))).size ≤ 200 := by have := (txt_len (tmAt xs k)).2; rw [str_size]; omega
      have z3 : (str (txt (tmAt xs k'))).size ≤ 200 := by have := (txt_len (tmAt xs k')).2; rw [str_size]; omega
      have KD := Lib.hid (fun W (h : Below w.heap.size w W) => IH.out k W hka hkl (HR.out.below h (Nat.le_refl _)) hks)
      have KE := Lib.hid (fun W (h : Below w.heap.size w W) => IH.out k' W hkb hkl' (HR.out.below h (Nat.le_refl _)) hks')
      clear hp hs ha hb' hks hka hkl hks' hkb hkl' hu
      rcases ho with rfl | rfl
      · rw [show str (txt (Tm.joint 4 (tmAt xs k) (tmAt xs k'))) = ⟨#[38]⟩ ++ str (txt (tmAt xs k)) ++ str (txt (tmAt xs k')) by
          rw [show (⟨#[38]⟩ : ByteArray) = str [38] from rfl, str_app, str_app]; rfl]
        generalize str (txt (tmAt xs k)) = s2 at *
        generalize str (txt (tmAt xs k')) = s3 at *
        have hadd := fun W => run_string_add_sum (P := Tryz.prog) W ⟨#[38]⟩ s2 (by have : (⟨#[38]⟩ : ByteArray).size = 1 := rfl; omega)
        have hadd' := fun W => run_string_add_sum (P := Tryz.prog) W (⟨#[38]⟩ ++ s2) s3 (by rw [ByteArray.size_append]; have : (⟨#[38]⟩ : ByteArray).size = 1 := rfl; omega)
        go_enter Tryz.func117, Tryz.ntmps117
        go_wp2
        go_region_held3 (fun w' => w'.cell? ⟨w.heap.size, 2, none⟩ = some (.int .i64 k) ∧ w'.cell? ⟨w.heap.size, 3, none⟩ = some (.int .i64 k') ∧ Below w.heap.size w w' ∧ w.heap.size < w'.heap.size)
          (first
            | exact ⟨by simp, by simp, ((Below.refl _ _).alloc (Nat.le_refl _) _).drew, by simp⟩
            | go_keep
            | (go_split_ands
               exact ⟨by rw [hb1.cell (p := ⟨w.heap.size, 2, none⟩) (by show w.heap.size < _; omega)]; assumption, by rw [hb1.cell (p := ⟨w.heap.size, 3, none⟩) (by show w.heap.size < _; omega)]; assumption, Below.trans (by assumption) (hb1.mono (by omega)), by have := hb1.size; omega⟩))
          ((first
            | (go_at_call_of 117 (Value.int .i64 (k : Int)); refine (KD.out _ (by first | assumption | (go_split_ands; assumption))).mono ?_; rintro e w1 ⟨rfl, hb1⟩)
            | (go_at_call_of 117 (Value.int .i64 (k' : Int)); refine (KE.out _ (by first | assumption | (go_split_ands; assumption))).mono ?_; rintro e w1 ⟨rfl, hb1⟩)))
        all_goals
          go_wp2
          go_ret
          exact ⟨rfl, by first | assumption | (go_split_ands; assumption)⟩
      · rw [show str (txt (Tm.joint 9 (tmAt xs k) (tmAt xs k'))) = ⟨#[33]⟩ ++ str (txt (tmAt xs k)) ++ str (txt (tmAt xs k')) by
          rw [show (⟨#[33]⟩ : ByteArray) = str [33] from rfl, str_app, str_app]; rfl]
        generalize str (txt (tmAt xs k)) = s2 at *
        generalize str (txt (tmAt xs k')) = s3 at *
        have hadd := fun W => run_string_add_sum (P := Tryz.prog) W ⟨#[33]⟩ s2 (by have : (⟨#[33]⟩ : ByteArray).size = 1 := rfl; omega)
        have hadd' := fun W => run_string_add_sum (P := Tryz.prog) W (⟨#[33]⟩ ++ s2) s3 (by rw [ByteArray.size_append]; have : (⟨#[33]⟩ : ByteArray).size = 1 := rfl; omega)
        go_enter Tryz.func117, Tryz.ntmps117
        go_wp2
        go_region_held3 (fun w' => w'.cell? ⟨w.heap.size, 2, none⟩ = some (.int .i64 k) ∧ w'.cell? ⟨w.heap.size, 3, none⟩ = some (.int .i64 k') ∧ Below w.heap.size w w' ∧ w.heap.size < w'.heap.size)
          (first
            | exact ⟨by simp, by simp, ((Below.refl _ _).alloc (Nat.le_refl _) _).drew, by simp⟩
            | go_keep
            | (go_split_ands
               exact ⟨by rw [hb1.cell (p := ⟨w.heap.size, 2, none⟩) (by show w.heap.size < _; omega)]; assumption, by rw [hb1.cell (p := ⟨w.heap.size, 3, none⟩) (by show w.heap.size < _; omega)]; assumption, Below.trans (by assumption) (hb1.mono (by omega)), by have := hb1.size; omega⟩))
          ((first
            | (go_at_call_of 117 (Value.int .i64 (k : Int)); refine (KD.out _ (by first | assumption | (go_split_ands; assumption))).mono ?_; rintro e w1 ⟨rfl, hb1⟩)
            | (go_at_call_of 117 (Value.int .i64 (k' : Int)); refine (KE.out _ (by first | assumption | (go_split_ands; assumption))).mono ?_; rintro e w1 ⟨rfl, hb1⟩)))
        all_goals
          go_wp2
          go_ret
          exact ⟨rfl, by first | assumption | (go_split_ands; assumption)⟩
end Go.Proofs.YtgmpenchojnihaaGreat
