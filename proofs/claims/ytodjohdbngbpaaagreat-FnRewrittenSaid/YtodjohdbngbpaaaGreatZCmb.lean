/-
  Several texts in one: NumA TermZ Texts Comb. Conditions: as each theorem says.
-/
import Derived.Test.YtodjohdbngbpaaaGreatRows
import Derived.Test.YtodjohdbngbpaaaGreatZLib
import Derived.Lib.ItoaNum
import Derived.Lib.ItoaMem
import Derived.Deep.RegionHeld3
import Derived.WalkSpells
import Derived.Deep.RegionWith
import Derived.IntWalk
import Derived.Test.YtodjohdbngbpaaaGreatZTmx
import Derived.Test.YtodjohdbngbpaaaGreatLayA
/-
  Contracts of spec.FormatInt and impl.FormatInt: both return the decimal numeral. The second reads a table of the library's, which is a premise.
-/
namespace Go.Proofs.YtodjohdbngbpaaaGreat
open Go.RowKit
open Go

theorem ofNat48 (k : Nat) : UInt8.ofNat (48 + k) = 48 + UInt8.ofNat k := by
  rw [UInt8.ofNat_add]; rfl
theorem dec_step {k : Nat} (h : 9 < k) (l : List UInt8) : Lib.decDigits k ++ l = Lib.decDigits (k / 10) ++ ((48 + UInt8.ofNat (k % 10)) :: l) := by
  conv => lhs; rw [Lib.decDigits, dif_neg (by omega)]
  rw [ofNat48]; simp
theorem dec_last {k : Nat} (h : k ≤ 9) (l : List UInt8) : Lib.decDigits k ++ l = (48 + UInt8.ofNat k) :: l := by
  rw [Lib.decDigits, dif_pos (by omega), ofNat48]; rfl

set_option maxRecDepth 100000 in
set_option maxHeartbeats 1000000 in
theorem specFormat_pos (k0 : Nat) (w : World) (hk : k0 ≤ 9223372036854775807) :
    Calls Tryz.prog 135 #[.int .i64 k0] w fun e w' => e = .returned (.string ⟨(Lib.decDigits k0).toArray⟩) ∧ Below w.heap.size w w' := by
  go_enter Tryz.func135, Tryz.ntmps135
  go_wp2
  go_loopw [0, 3] (fun kv out wr => ∃ (k : Nat) (l : List UInt8), kv = .int .i64 k ∧ k ≤ 9223372036854775807 ∧ out = .string ⟨l.toArray⟩ ∧ (l.length = 0 ∨ k + l.length + 8 ≤ 9223372036854775807) ∧ Hid (Lib.decDigits k ++ l = Lib.decDigits k0) ∧ Hid (Below w.heap.size w wr) ∧ w.heap.size ≤ wr.heap.size) (fun kv _ _ => (intOf kv).toNat)
  case atStart => exact ⟨k0, [], rfl, hk, rfl, .inl rfl, Lib.hid (by simp), Lib.hid (Below.refl _ _), Nat.le_refl _⟩
  case round =>
    obtain ⟨k, l, rfl, hkm, rfl, hkl, HD, HB, hsz⟩ := hrel
    have hl1 : l.length + 1 ≤ 9223372036854775807 := by omega
    by_cases hlt : 9 < k
    · have hmod : (k : Int) % 10 < 10 := by omega
      have hmod0 : 0 ≤ (k : Int) % 10 := by omega
      have hcv := run_bytes_one (P := Tryz.prog) Tryz.underlying22 Tryz.underlying5 Tryz.underlying9 wr (48 + (k : Int) % 10)
      go_wp2
      go_roundw
      case rel =>
        refine ⟨k / 10, (48 + UInt8.ofNat (k % 10)) :: l, by simp, by omega, ?_, .inr (by simp; omega), Lib.hid ?_, Lib.hid (HB.out.alloc hsz _), by simp; omega⟩
        · rw [ByteArray.mk_append_lists]
        · rw [← HD.out, dec_step hlt]
      case measure => simp [intOf]; omega
    · have hcv := run_bytes_one (P := Tryz.prog) Tryz.underlying22 Tryz.underlying5 Tryz.underlying9 wr (48 + (k : Int))
      go_wp2
      go_ret
      exact ⟨ret_str (by rw [← HD.out, dec_last (by omega)]; rw [ByteArray.mk_append_lists]), HB.out.alloc hsz _⟩

end Go.Proofs.YtodjohdbngbpaaaGreat

/-
  Contract of spec.l02Text (by the node).
-/
namespace Go.Proofs.YtodjohdbngbpaaaGreat
open Go.RowKit
open Go Go.Deep

theorem node_keptZ {w w2 : World} {c : Array Value} {T : TypeId} (hb : Below (w.alloc (.cells c T)).heap.size (w.alloc (.cells c T)) w2) (k : Nat) : w2.cell? ⟨w.heap.size, k, none⟩ = c[k]? := by
  rw [hb.cell (p := ⟨w.heap.size, k, none⟩) (by simp), World.cell?_alloc_at _ _ _ _ rfl]

theorem specSmall_any (n : Int) (w : World) (h : n = 0 ∨ n = 1 ∨ n = 2) : Calls Tryz.prog 135 #[.int .i64 n] w fun e w' => e = .returned (.string (str [UInt8.ofNat (48 + n.toNat)])) ∧ Below w.heap.size w w' := by
  rcases h with rfl | rfl | rfl
  · have e := dec_last (k := 0) (by decide) []
    have := specFormat_pos 0 w (by decide)
    rw [List.append_nil] at e
    rw [e] at this
    exact this
  · have e := dec_last (k := 1) (by decide) []
    have := specFormat_pos 1 w (by decide)
    rw [List.append_nil] at e
    rw [e] at this
    exact this
  · have e := dec_last (k := 2) (by decide) []
    have := specFormat_pos 2 w (by decide)
    rw [List.append_nil] at e
    rw [e] at this
    exact this

set_option maxRecDepth 100000 in
set_option maxHeartbeats 16000000 in
theorem specText_any (xs : List Nd) (v : Value) (hn : nodesOk xs = true) : ∀ (m i : Nat) (w : World), i < m → i < xs.length → Ns w v xs → (tmAt xs i).size ≤ 100 →
    Calls Tryz.prog 156 #[v, .int .i64 i] w fun e w' => e = .returned (.string (str (txt (tmAt xs i)))) ∧ Below w.heap.size w w' := by
  have HN := Lib.hid hn
  clear hn
  intro m
  induction m with
  | zero => intro i w hi; omega
  | succ m ih =>
    intro i w hi hl hr hs
    have hok := nodesOk_at HN.out hl
    have hp := okAt_parts hok
    rw [tmAt_eq HN.out hl] at hs ⊢
    obtain ⟨a, cap, rfl, h1, h2, h3⟩ := hr.parts
    obtain ⟨b, o, rfl, hb, c0, c1, c2, c3⟩ := h3 i hl
    clear h3 hok
    have HR := Lib.hid hr
    clear hr
    generalize hx : xs.getD i default = x at *
    obtain ⟨op, n, xa, xb⟩ := x
    simp only [] at c0 c1 c2 c3 hp hs ⊢
    clear hx
    unfold maxLen at h2
    have IH := Lib.hid ih
    clear ih
    rcases op_kinds hp.1.1 hp.1.2.1 with ⟨ho, hu⟩ | ⟨ho, hu⟩ | ⟨ho, hu⟩ | ⟨ho, hu⟩
    · rw [mkTm_leaf ho, show txt (Tm.leaf op n) = headB op n from rfl]
      rcases ho with rfl | rfl
      · have hn4 : n = 0 ∨ n = 1 ∨ n = 2 ∨ n = 3 := by have := hp.1.2.2; have : limN 1 = 4 := rfl; omega
        clear hu hp hs
        rcases hn4 with rfl | rfl | rfl | rfl
        · have hcv := run_bytes_one (P := Tryz.prog) Tryz.underlying22 Tryz.underlying5 Tryz.underlying9 (w.alloc (.cells #[.int .i64 1, .int .i64 0, .int .i64 xa, .int .i64 xb] 112)) 97
          simp only [World.size_alloc] at hcv
          go_enter Tryz.func156, Tryz.ntmps156
          go_wp2
          go_ret
          exact ⟨ret_str rfl, ((Below.refl _ _).alloc (Nat.le_refl _) _).alloc (by simp) _⟩
        · have hcv := run_bytes_one (P := Tryz.prog) Tryz.underlying22 Tryz.underlying5 Tryz.underlying9 (w.alloc (.cells #[.int .i64 1, .int .i64 1, .int .i64 xa, .int .i64 xb] 112)) 98
          simp only [World.size_alloc] at hcv
          go_enter Tryz.func156, Tryz.ntmps156
          go_wp2
          go_ret
          exact ⟨ret_str rfl, ((Below.refl _ _).alloc (Nat.le_refl _) _).alloc (by simp) _⟩
        · have hcv := run_bytes_one (P := Tryz.prog) Tryz.underlying22 Tryz.underlying5 Tryz.underlying9 (w.alloc (.cells #[.int .i64 1, .int .i64 2, .int .i64 xa, .int .i64 xb] 112)) 99
          simp only [World.size_alloc] at hcv
          go_enter Tryz.func156, Tryz.ntmps156
          go_wp2
          go_ret
          exact ⟨ret_str rfl, ((Below.refl _ _).alloc (Nat.le_refl _) _).alloc (by simp) _⟩
        · have hcv := run_bytes_one (P := Tryz.prog) Tryz.underlying22 Tryz.underlying5 Tryz.underlying9 (w.alloc (.cells #[.int .i64 1, .int .i64 3, .int .i64 xa, .int .i64 xb] 112)) 100
          simp only [World.size_alloc] at hcv
          go_enter Tryz.func156, Tryz.ntmps156
          go_wp2
          go_ret
          exact ⟨ret_str rfl, ((Below.refl _ _).alloc (Nat.le_refl _) _).alloc (by simp) _⟩
      · clear hu hp hs
        go_enter Tryz.func156, Tryz.ntmps156
        go_wp2
        go_ret
        exact ⟨ret_str rfl, (Below.refl _ _).alloc (Nat.le_refl _) _⟩
    · subst ho
      rw [mkTm_deny] at hs ⊢
      have ha := hp.2.1 (by omega)
      obtain ⟨k, rfl⟩ : ∃ k : Nat, xa = k := ⟨xa.toNat, by omega⟩
      rw [Int.toNat_natCast] at hs ⊢
      have hka : k < m := by omega
      have hkl : k < xs.length := by omega
      have hks : (tmAt xs k).size ≤ 100 := by simp only [Tm.size] at hs; omega
      have z2 : (str (txt (tmAt xs k))).size ≤ 200 := by have := (txt_len (tmAt xs k)).2; rw [str_size]; omega
      have KD := Lib.hid (fun W (h : Below w.heap.size w W) => IH.out k W hka hkl (HR.out.below h (Nat.le_refl _)) hks)
      rw [show str (txt (Tm.deny (tmAt xs k))) = ⟨#[45]⟩ ++ str (txt (tmAt xs k)) from (str_app [45] _).symm]
      clear hu hp hs ha hks hka hkl
      generalize str (txt (tmAt xs k)) = s2 at *
      have hadd := fun W => run_string_add_sum (P := Tryz.prog) W ⟨#[45]⟩ s2 (by have : (⟨#[45]⟩ : ByteArray).size = 1 := rfl; omega)
      go_enter Tryz.func156, Tryz.ntmps156
      go_wp2_with fail
      refine (KD.out _ ((Below.refl _ _).alloc (Nat.le_refl _) _)).mono ?_
      rintro e w2 ⟨rfl, hb2⟩
      have B2 := Lib.hid (((Below.refl w.heap.size w).alloc (Nat.le_refl _) _).trans (hb2.mono (by simp)))
      clear hb2 c0 c1 c2 c3
      go_wp2
      go_ret
      exact ⟨rfl, B2.out⟩
    · rw [mkTm_know ho] at hs ⊢
      have ha := hp.2.1 (by omega)
      obtain ⟨k, rfl⟩ : ∃ k : Nat, xa = k := ⟨xa.toNat, by omega⟩
      rw [Int.toNat_natCast] at hs ⊢
      have hka : k < m := by omega
      have hkl : k < xs.length := by omega
      have hks : (tmAt xs k).size ≤ 100 := by simp only [Tm.size] at hs; omega
      have z2 : (str (txt (tmAt xs k))).size ≤ 200 := by have := (txt_len (tmAt xs k)).2; rw [str_size]; omega
      have KD := Lib.hid (fun W (h : Below w.heap.size w W) => IH.out k W hka hkl (HR.out.below h (Nat.le_refl _)) hks)
      have hop : op = 5 ∨ op = 6 ∨ op = 7 ∨ op = 8 := ho
      rcases hop with rfl | rfl | rfl | rfl
      · have KF := Lib.hid (fun W => specSmall_any n W (by have := hp.1.2.2; have : limN 5 = 3 := rfl; omega))
        rw [show str (txt (Tm.know 5 n (tmAt xs k))) = ⟨#[75]⟩ ++ str [UInt8.ofNat (48 + n.toNat)] ++ str (txt (tmAt xs k)) by
          rw [show (⟨#[75]⟩ : ByteArray) = str [75] from rfl, str_app, str_app]; rfl]
        clear hu hp hs ha hks hka hkl ho
        generalize str (txt (tmAt xs k)) = s2 at *
        have z1 : (str [UInt8.ofNat (48 + n.toNat)]).size ≤ 1 := Nat.le_refl _
        generalize str [UInt8.ofNat (48 + n.toNat)] = s1 at *
        have hadd := fun W => run_string_add_sum (P := Tryz.prog) W ⟨#[75]⟩ s1 (by have : (⟨#[75]⟩ : ByteArray).size = 1 := rfl; omega)
        have hadd' := fun W => run_string_add_sum (P := Tryz.prog) W (⟨#[75]⟩ ++ s1) s2 (by rw [ByteArray.size_append]; have : (⟨#[75]⟩ : ByteArray).size = 1 := rfl; omega)
        go_enter Tryz.func156, Tryz.ntmps156
        go_wp2
        go_region_held3 (fun w' => w'.cell? ⟨w.heap.size, 1, none⟩ = some (.int .i64 n) ∧ w'.cell? ⟨w.heap.size, 2, none⟩ = some (.int .i64 k) ∧ Below w.heap.size w w' ∧ w.heap.size < w'.heap.size)
          (first
            | exact ⟨by simp, by simp, ((Below.refl _ _).alloc (Nat.le_refl _) _).drew, by simp⟩
            | go_keep
            | (go_split_ands
               exact ⟨by rw [hb1.cell (p := ⟨w.heap.size, 1, none⟩) (by show w.heap.size < _; omega)]; assumption, by rw [hb1.cell (p := ⟨w.heap.size, 2, none⟩) (by show w.heap.size < _; omega)]; assumption, Below.trans (by assumption) (hb1.mono (by omega)), by have := hb1.size; omega⟩))
          ((first
            | (go_at_call 135; refine (KF.out _).mono ?_; rintro e w1 ⟨rfl, hb1⟩)
            | (go_at_call 156; refine (KD.out _ (by first | assumption | (go_split_ands; assumption))).mono ?_; rintro e w1 ⟨rfl, hb1⟩)))
        all_goals
          go_wp2
          go_ret
          exact ⟨rfl, by first | assumption | (go_split_ands; assumption)⟩
      · have KF := Lib.hid (fun W => specSmall_any n W (by have := hp.1.2.2; have : limN 6 = 3 := rfl; omega))
        rw [show str (txt (Tm.know 6 n (tmAt xs k))) = ⟨#[87]⟩ ++ str [UInt8.ofNat (48 + n.toNat)] ++ str (txt (tmAt xs k)) by
          rw [show (⟨#[87]⟩ : ByteArray) = str [87] from rfl, str_app, str_app]; rfl]
        clear hu hp hs ha hks hka hkl ho
        generalize str (txt (tmAt xs k)) = s2 at *
        have z1 : (str [UInt8.ofNat (48 + n.toNat)]).size ≤ 1 := Nat.le_refl _
        generalize str [UInt8.ofNat (48 + n.toNat)] = s1 at *
        have hadd := fun W => run_string_add_sum (P := Tryz.prog) W ⟨#[87]⟩ s1 (by have : (⟨#[87]⟩ : ByteArray).size = 1 := rfl; omega)
        have hadd' := fun W => run_string_add_sum (P := Tryz.prog) W (⟨#[87]⟩ ++ s1) s2 (by rw [ByteArray.size_append]; have : (⟨#[87]⟩ : ByteArray).size = 1 := rfl; omega)
        go_enter Tryz.func156, Tryz.ntmps156
        go_wp2
        go_region_held3 (fun w' => w'.cell? ⟨w.heap.size, 1, none⟩ = some (.int .i64 n) ∧ w'.cell? ⟨w.heap.size, 2, none⟩ = some (.int .i64 k) ∧ Below w.heap.size w w' ∧ w.heap.size < w'.heap.size)
          (first
            | exact ⟨by simp, by simp, ((Below.refl _ _).alloc (Nat.le_refl _) _).drew, by simp⟩
            | go_keep
            | (go_split_ands
               exact ⟨by rw [hb1.cell (p := ⟨w.heap.size, 1, none⟩) (by show w.heap.size < _; omega)]; assumption, by rw [hb1.cell (p := ⟨w.heap.size, 2, none⟩) (by show w.heap.size < _; omega)]; assumption, Below.trans (by assumption) (hb1.mono (by omega)), by have := hb1.size; omega⟩))
          ((first
            | (go_at_call 135; refine (KF.out _).mono ?_; rintro e w1 ⟨rfl, hb1⟩)
            | (go_at_call 156; refine (KD.out _ (by first | assumption | (go_split_ands; assumption))).mono ?_; rintro e w1 ⟨rfl, hb1⟩)))
        all_goals
          go_wp2
          go_ret
          exact ⟨rfl, by first | assumption | (go_split_ands; assumption)⟩
      · rw [show str (txt (Tm.know 7 n (tmAt xs k))) = ⟨#[69]⟩ ++ str (txt (tmAt xs k)) from (str_app [69] _).symm]
        clear hu hp hs ha hks hka hkl ho
        generalize str (txt (tmAt xs k)) = s2 at *
        have hadd := fun W => run_string_add_sum (P := Tryz.prog) W ⟨#[69]⟩ s2 (by have : (⟨#[69]⟩ : ByteArray).size = 1 := rfl; omega)
        go_enter Tryz.func156, Tryz.ntmps156
        go_wp2_with fail
        refine (KD.out _ ((Below.refl _ _).alloc (Nat.le_refl _) _)).mono ?_
        rintro e w2 ⟨rfl, hb2⟩
        have B2 := Lib.hid (((Below.refl w.heap.size w).alloc (Nat.le_refl _) _).trans (hb2.mono (by simp)))
        clear hb2 c0 c1 c2 c3
        go_wp2
        go_ret
        exact ⟨rfl, B2.out⟩
      · rw [show str (txt (Tm.know 8 n (tmAt xs k))) = ⟨#[67]⟩ ++ str (txt (tmAt xs k)) from (str_app [67] _).symm]
        clear hu hp hs ha hks hka hkl ho
        generalize str (txt (tmAt xs k)) = s2 at *
        have hadd := fun W => run_string_add_sum (P := Tryz.prog) W ⟨#[67]⟩ s2 (by have : (⟨#[67]⟩ : ByteArray).size = 1 := rfl; omega)
        go_enter Tryz.func156, Tryz.ntmps156
        go_wp2_with fail
        refine (KD.out _ ((Below.refl _ _).alloc (Nat.le_refl _) _)).mono ?_
        rintro e w2 ⟨rfl, hb2⟩
        have B2 := Lib.hid (((Below.refl w.heap.size w).alloc (Nat.le_refl _) _).trans (hb2.mono (by simp)))
        clear hb2 c0 c1 c2 c3
        go_wp2
        go_ret
        exact ⟨rfl, B2.out⟩
    · rw [mkTm_joint ho] at hs ⊢
      have ha := hp.2.1 (by omega)
      have hb' := hp.2.2.1 hu
      obtain ⟨k, rfl⟩ : ∃ k : Nat, xa = k := ⟨xa.toNat, by omega⟩
      obtain ⟨k', rfl⟩ : ∃ k : Nat, xb = k := ⟨xb.toNat, by omega⟩
      rw [Int.toNat_natCast, Int.toNat_natCast] at hs ⊢
      have hka : k < m := by omega
      have hkl : k < xs.length := by omega
      have hkb : k' < m := by omega
      have hkl' : k' < xs.length := by omega
      have hks : (tmAt xs k).size ≤ 100 := by simp only [Tm.size] at hs; omega
      have hks' : (tmAt xs k').size ≤ 100 := by simp only [Tm.size] at hs; omega
      have z2 : (str (txt (tmAt xs k))).size ≤ 200 := by have := (txt_len (tmAt xs k)).2; rw [str_size]; omega
      have z3 : (str (txt (tmAt xs k'))).size ≤ 200 := by have := (txt_len (tmAt xs k')).2; rw [str_size]; omega
      have KD := Lib.hid (fun W (h : Below w.heap.size w W) => IH.out k W hka hkl (HR.out.below h (Nat.le_refl _)) hks)
      have KE := Lib.hid (fun W (h : Below w.heap.size w W) => IH.out k' W hkb hkl' (HR.out.below h (Nat.le_refl _)) hks')
      clear hp hs ha hb' hks hka hkl hks' hkb hkl' hu
      rcases ho with rfl | rfl
      · rw [show str (txt (Tm.joint 4 (tmAt xs k) (tmAt xs k'))) = ⟨#[38]⟩ ++ str (txt (tmAt xs k)) ++ str (txt (tmAt xs k')) by
          rw [show (⟨#[38]⟩ : ByteArray) = str [38] from rfl, str_app, str_app]; rfl]
        generalize str (txt (tmAt xs k)) = s2 at *
        generalize str (txt (tmAt xs k')) = s3 at *
        have hadd := fun W => run_string_add_sum (P := Tryz.prog) W ⟨#[38]⟩ s2 (by have : (⟨#[38]⟩ : ByteArray).size = 1 := rfl; omega)
        have hadd' := fun W => run_string_add_sum (P := Tryz.prog) W (⟨#[38]⟩ ++ s2) s3 (by rw [ByteArray.size_append]; have : (⟨#[38]⟩ : ByteArray).size = 1 := rfl; omega)
        go_enter Tryz.func156, Tryz.ntmps156
        go_wp2
        go_region_held3 (fun w' => w'.cell? ⟨w.heap.size, 2, none⟩ = some (.int .i64 k) ∧ w'.cell? ⟨w.heap.size, 3, none⟩ = some (.int .i64 k') ∧ Below w.heap.size w w' ∧ w.heap.size < w'.heap.size)
          (first
            | exact ⟨by simp, by simp, ((Below.refl _ _).alloc (Nat.le_refl _) _).drew, by simp⟩
            | go_keep
            | (go_split_ands
               exact ⟨by rw [hb1.cell (p := ⟨w.heap.size, 2, none⟩) (by show w.heap.size < _; omega)]; assumption, by rw [hb1.cell (p := ⟨w.heap.size, 3, none⟩) (by show w.heap.size < _; omega)]; assumption, Below.trans (by assumption) (hb1.mono (by omega)), by have := hb1.size; omega⟩))
          ((first
            | (go_at_call_of 156 (Value.int .i64 (k : Int)); refine (KD.out _ (by first | assumption | (go_split_ands; assumption))).mono ?_; rintro e w1 ⟨rfl, hb1⟩)
            | (go_at_call_of 156 (Value.int .i64 (k' : Int)); refine (KE.out _ (by first | assumption | (go_split_ands; assumption))).mono ?_; rintro e w1 ⟨rfl, hb1⟩)))
        all_goals
          go_wp2
          go_ret
          exact ⟨rfl, by first | assumption | (go_split_ands; assumption)⟩
      · rw [show str (txt (Tm.joint 9 (tmAt xs k) (tmAt xs k'))) = ⟨#[33]⟩ ++ str (txt (tmAt xs k)) ++ str (txt (tmAt xs k')) by
          rw [show (⟨#[33]⟩ : ByteArray) = str [33] from rfl, str_app, str_app]; rfl]
        generalize str (txt (tmAt xs k)) = s2 at *
        generalize str (txt (tmAt xs k')) = s3 at *
        have hadd := fun W => run_string_add_sum (P := Tryz.prog) W ⟨#[33]⟩ s2 (by have : (⟨#[33]⟩ : ByteArray).size = 1 := rfl; omega)
        have hadd' := fun W => run_string_add_sum (P := Tryz.prog) W (⟨#[33]⟩ ++ s2) s3 (by rw [ByteArray.size_append]; have : (⟨#[33]⟩ : ByteArray).size = 1 := rfl; omega)
        go_enter Tryz.func156, Tryz.ntmps156
        go_wp2
        go_region_held3 (fun w' => w'.cell? ⟨w.heap.size, 2, none⟩ = some (.int .i64 k) ∧ w'.cell? ⟨w.heap.size, 3, none⟩ = some (.int .i64 k') ∧ Below w.heap.size w w' ∧ w.heap.size < w'.heap.size)
          (first
            | exact ⟨by simp, by simp, ((Below.refl _ _).alloc (Nat.le_refl _) _).drew, by simp⟩
            | go_keep
            | (go_split_ands
               exact ⟨by rw [hb1.cell (p := ⟨w.heap.size, 2, none⟩) (by show w.heap.size < _; omega)]; assumption, by rw [hb1.cell (p := ⟨w.heap.size, 3, none⟩) (by show w.heap.size < _; omega)]; assumption, Below.trans (by assumption) (hb1.mono (by omega)), by have := hb1.size; omega⟩))
          ((first
            | (go_at_call_of 156 (Value.int .i64 (k : Int)); refine (KD.out _ (by first | assumption | (go_split_ands; assumption))).mono ?_; rintro e w1 ⟨rfl, hb1⟩)
            | (go_at_call_of 156 (Value.int .i64 (k' : Int)); refine (KE.out _ (by first | assumption | (go_split_ands; assumption))).mono ?_; rintro e w1 ⟨rfl, hb1⟩)))
        all_goals
          go_wp2
          go_ret
          exact ⟨rfl, by first | assumption | (go_split_ands; assumption)⟩
end Go.Proofs.YtodjohdbngbpaaaGreat

/-
  Contracts of termOf and of FormatFormula and DepthOf of both sides.
-/
namespace Go.Proofs.YtodjohdbngbpaaaGreat
open Go.RowKit
open Go Go.Deep

/-- the term of a formula -/
def termOfL (xs : List Nd) : Tm := tmAt xs (xs.length - 1)
theorem termOfL_wf {xs : List Nd} (h : formOk xs = true) : (termOfL xs).wf := form_wf h
theorem termOfL_size {xs : List Nd} (h : formOk xs = true) : (termOfL xs).size ≤ 40 := by
  have := form_size h
  have := (formOk_parts h).2.1
  unfold termOfL; omega
/-- the text of a formula -/
def textL (xs : List Nd) : ByteArray := if formOk xs then str (txt (termOfL xs)) else ByteArray.mk #[]
theorem lastIx {xs : List Nd} (h : 1 ≤ xs.length) : ((xs.length - 1 : Nat) : Int) = (xs.length : Int) - 1 := by omega

set_option maxRecDepth 100000 in
set_option maxHeartbeats 4000000 in
theorem termOf_yes (xs : List Nd) (v : Value) (w : World) (hf : formOk xs = true) (hr : Ns w v xs) :
    Calls Tryz.prog 57 #[v] w fun e w' => e = .returned (.tuple #[tv (termOfL xs), .bool true]) ∧ Below w.heap.size w w' := by
  have K := Lib.hid (fun W h => implForm_any v xs W h)
  rw [hf] at K
  have hp := formOk_parts hf
  have KT := Lib.hid (fun W (h : Below w.heap.size w W) => termAt_any xs v hp.2.2.1 _ (xs.length - 1) W (Nat.lt_succ_self _) (by omega) (hr.below h (Nat.le_refl _)))
  rw [lastIx hp.1] at KT
  have HR := Lib.hid hr
  obtain ⟨a, cap, rfl, h1, h2, h3⟩ := hr
  unfold maxLen at h2
  have hl := hp.1
  clear h3 hp hf
  unfold termOfL
  generalize tv (tmAt xs (xs.length - 1)) = R at *
  go_enter Tryz.func57, Tryz.ntmps57
  go_wp2_with fail
  refine (K.out _ HR.out).mono ?_
  rintro e w1 ⟨rfl, hb1⟩
  have B1 := Lib.hid hb1; clear hb1
  go_wp2_with fail
  refine (KT.out _ B1.out).mono ?_
  rintro e w2 ⟨rfl, hb2⟩
  have B2 := Lib.hid (B1.out.trans (hb2.mono B1.out.size)); clear hb2
  go_wp2
  go_returns
  exact ⟨rfl, B2.out⟩
set_option maxHeartbeats 4000000 in
theorem termOf_no (xs : List Nd) (v : Value) (w : World) (hf : formOk xs = false) (hr : Ns w v xs) :
    Calls Tryz.prog 57 #[v] w fun e w' => e = .returned (.tuple #[.nilIface, .bool false]) ∧ Below w.heap.size w w' := by
  have K := Lib.hid (fun W h => implForm_any v xs W h)
  rw [hf] at K
  have HR := Lib.hid hr
  clear hf hr
  go_enter Tryz.func57, Tryz.ntmps57
  go_wp2_with fail
  refine (K.out _ HR.out).mono ?_
  rintro e w1 ⟨rfl, hb1⟩
  have B1 := Lib.hid hb1; clear hb1
  go_wp2
  go_returns
  exact ⟨rfl, B1.out⟩

set_option maxHeartbeats 4000000 in
theorem implFormat_any (xs : List Nd) (v : Value) (w : World) (hr : Ns w v xs) :
    Calls Tryz.prog 15 #[v] w fun e w' => e = .returned (.string (textL xs)) ∧ Below w.heap.size w w' := by
  cases hf : formOk xs with
  | false =>
    rw [show textL xs = ByteArray.mk #[] by unfold textL; rw [hf]; rfl]
    have K := Lib.hid (fun W h => termOf_no xs v W hf h)
    have HR := Lib.hid hr
    clear hf hr
    go_enter Tryz.func15, Tryz.ntmps15
    go_wp2_with fail
    refine (K.out _ HR.out).mono ?_
    rintro e w1 ⟨rfl, hb1⟩
    have B1 := Lib.hid hb1; clear hb1
    go_wp2
    go_ret
    exact ⟨rfl, B1.out⟩
  | true =>
    rw [show textL xs = str (txt (termOfL xs)) by unfold textL; rw [hf]; rfl]
    have K := Lib.hid (fun W h => termOf_yes xs v W hf h)
    have KT := Lib.hid (fun W => textOf_any (termOfL xs) W (termOfL_wf hf) (by have := termOfL_size hf; omega))
    have HR := Lib.hid hr
    clear hf hr
    generalize str (txt (termOfL xs)) = R at *
    go_enter Tryz.func15, Tryz.ntmps15
    go_wp2_with fail
    refine (K.out _ HR.out).mono ?_
    rintro e w1 ⟨rfl, hb1⟩
    have B1 := Lib.hid hb1; clear hb1
    go_wp2_with fail
    refine (KT.out _).mono ?_
    rintro e w2 ⟨rfl, hb2⟩
    have B2 := Lib.hid (B1.out.trans (hb2.mono B1.out.size)); clear hb2
    go_wp2
    go_ret
    exact ⟨rfl, B2.out⟩

set_option maxRecDepth 100000 in
set_option maxHeartbeats 4000000 in
theorem specFormat2_any (xs : List Nd) (v : Value) (w : World) (hr : Ns w v xs) :
    Calls Tryz.prog 134 #[v] w fun e w' => e = .returned (.string (textL xs)) ∧ Below w.heap.size w w' := by
  have K := Lib.hid (fun W h => specForm_any v xs W h)
  cases hf : formOk xs with
  | false =>
    rw [show textL xs = ByteArray.mk #[] by unfold textL; rw [hf]; rfl]
    rw [hf] at K
    have HR := Lib.hid hr
    clear hf hr
    go_enter Tryz.func134, Tryz.ntmps134
    go_wp2_with fail
    refine (K.out _ HR.out).mono ?_
    rintro e w1 ⟨rfl, hb1⟩
    have B1 := Lib.hid hb1; clear hb1
    go_wp2
    go_ret
    exact ⟨rfl, B1.out⟩
  | true =>
    rw [show textL xs = str (txt (termOfL xs)) by unfold textL; rw [hf]; rfl]
    rw [hf] at K
    have hp := formOk_parts hf
    have hsz := termOfL_size hf
    have KT := Lib.hid (fun W (h : Below w.heap.size w W) => specText_any xs v hp.2.2.1 _ (xs.length - 1) W (Nat.lt_succ_self _) (by omega) (hr.below h (Nat.le_refl _)) (by unfold termOfL at hsz; omega))
    rw [lastIx hp.1] at KT
    have HR := Lib.hid hr
    obtain ⟨a, cap, rfl, h1, h2, h3⟩ := hr
    unfold maxLen at h2
    have hl := hp.1
    clear h3 hp hf hsz
    unfold termOfL
    generalize str (txt (tmAt xs (xs.length - 1))) = R at *
    go_enter Tryz.func134, Tryz.ntmps134
    go_wp2_with fail
    refine (K.out _ HR.out).mono ?_
    rintro e w1 ⟨rfl, hb1⟩
    have B1 := Lib.hid hb1; clear hb1
    go_wp2_with fail
    refine (KT.out _ B1.out).mono ?_
    rintro e w2 ⟨rfl, hb2⟩
    have B2 := Lib.hid (B1.out.trans (hb2.mono B1.out.size)); clear hb2
    go_wp2
    go_ret
    exact ⟨rfl, B2.out⟩

end Go.Proofs.YtodjohdbngbpaaaGreat

/-
  Contracts of formulaOf, combine, and impl.Negate, Conjoin, Known, After.
-/
namespace Go.Proofs.YtodjohdbngbpaaaGreat
open Go.RowKit
open Go Go.Deep

/-- an answer that is a list of nodes and a bool -/
def Ans (w : World) (r : Option (List Nd)) (e : Ending) (w' : World) : Prop :=
  ∃ v, e = .returned (.tuple #[v, .bool r.isSome]) ∧ w'.ownsRow w.heap.size 112 4 v (r.getD []).length (ndCells (r.getD [])) ∧ Below w.heap.size w w'
theorem Ans.none_of {w w' : World} (h : Below w.heap.size w w') : Ans w none (.returned (.tuple #[.slice none 0 0, .bool false])) w' := ⟨_, rfl, World.ownsRow_nil _ _ _ _, h⟩
/-- an answer given in a later world -/
theorem Ans.later {w w1 w' : World} {r : Option (List Nd)} {e : Ending} (hb : Below w.heap.size w w1) (h : Ans w1 r e w') : Ans w r e w' := by
  obtain ⟨v, he, ho, hb'⟩ := h
  exact ⟨v, he, own_mono ho hb.size, hb.trans (hb'.mono hb.size)⟩

/-- the formula of a term, if it is one -/
def combL (t : Tm) : Option (List Nd) := if formOk (lay 0 t) then some (lay 0 t) else none
theorem combL_wf {t : Tm} (h : t.wf) : combL t = parsed (txt t) := by
  unfold combL
  by_cases hs : t.size ≤ 40
  · rw [if_pos (lay_formOk h hs), parsed_txt h hs]
  · rw [parsed_big h (by omega), if_neg (by rw [lay_formNot (by omega)]; decide)]

set_option maxRecDepth 100000 in
set_option maxHeartbeats 4000000 in
theorem formulaOf_any (t : Tm) (w : World) (hs : t.size ≤ 199) :
    Calls Tryz.prog 56 #[tv t] w (Ans w (combL t)) := by
  have KL := Lib.hid (fun W => layOut_any t W (.slice none 0 0) 0 [] W.heap.size (by omega) (World.ownsRow_nil _ _ _ _) (Nat.le_refl _))
  have KO := Lib.hid (fun v W h => implForm_any v (lay 0 t) W h)
  have hl := lay_len 0 t
  cases hf : formOk (lay 0 t) with
  | false =>
    rw [show combL t = none by unfold combL; rw [hf]; rfl]
    rw [hf] at KO
    clear hf hs hl
    go_enter Tryz.func56, Tryz.ntmps56
    go_wp2_with fail
    refine (KL.out _).mono ?_
    rintro e w1 ⟨v1, rfl, ho, hb1, _⟩
    rw [List.nil_append] at ho
    have N1 := Lib.hid (Ns.of_own ho)
    have B1 := Lib.hid hb1
    clear ho hb1
    go_wp2_with fail
    refine (KO.out _ _ N1.out).mono ?_
    rintro e w2 ⟨rfl, hb2⟩
    have B2 := Lib.hid (B1.out.trans (hb2.mono B1.out.size)); clear hb2
    go_wp2
    go_returns
    exact Ans.none_of B2.out
  | true =>
    rw [show combL t = some (lay 0 t) by unfold combL; rw [hf]; rfl]
    rw [hf] at KO
    clear hf hs
    have HL := Lib.hid hl
    clear hl
    go_enter Tryz.func56, Tryz.ntmps56
    go_wp2_with fail
    refine (KL.out _).mono ?_
    rintro e w1 ⟨v1, rfl, ho, hb1, _⟩
    rw [List.nil_append] at ho
    have O1 := Lib.hid ho
    have N1 := Lib.hid (Ns.of_own ho)
    have B1 := Lib.hid hb1
    clear ho hb1
    go_wp2_with fail
    refine (KO.out _ _ N1.out).mono ?_
    rintro e w2 ⟨rfl, hb2⟩
    have O2 := Lib.hid (own_below O1.out hb2 (Nat.le_refl _))
    have B2 := Lib.hid (B1.out.trans (hb2.mono B1.out.size)); clear hb2
    go_wp2
    go_returns
    refine ⟨_, rfl, ?_, B2.out⟩
    have := O2.out
    rw [Nat.zero_add, ← HL.out] at this
    exact this

set_option maxRecDepth 100000 in
set_option maxHeartbeats 4000000 in
theorem combine_one (op n : Int) (T : Tm → Tm) (hT : ∀ a, (T a).size = a.size + 1) (hN : ∀ a v W, Rs W v [tv a] → Calls Tryz.prog 103 #[.int .i64 op, .int .i64 n, v] W fun e w' => e = .returned (tv (T a)) ∧ W = w')
    (xs : List Nd) (u : Value) (g : Nat) (w : World) (hg : w.cell? ⟨g, 0, none⟩ = some u) (hu : Ns w u xs) :
    Calls Tryz.prog 54 #[.int .i64 op, .int .i64 n, .slice (some ⟨g, 0, none⟩) 1 1] w (Ans w (if formOk xs then combL (T (termOfL xs)) else none)) := by
  obtain ⟨ua, uc, hue, _⟩ : ∃ ua uc, u = .slice ua xs.length uc ∧ True := by
    obtain ⟨a, c, h, _⟩ := hu
    exact ⟨a, c, h, trivial⟩
  have hz0 : (0 : Nat) + 1 ≤ maxLen := by decide
  have hz1 : (0 + 1) * 16 ≤ 140737488355328 := by decide
  have HU := Lib.hid hu
  clear hu
  subst hue
  cases hf : formOk xs with
  | false =>
    rw [if_neg (by decide)]
    have KT := Lib.hid (fun W h => termOf_no xs (.slice ua xs.length uc) W hf h)
    clear hf hN hT
    go_enter Tryz.func54, Tryz.ntmps54
    go_wp2
    refine wp_loop_rounds 2 ?_
    rw [rounds_succ]
    go_wp2_with fail
    refine (KT.out _ HU.out).mono ?_
    rintro e w1 ⟨rfl, hb1⟩
    have B1 := Lib.hid hb1; clear hb1
    go_wp2
    go_returns
    exact Ans.none_of B1.out
  | true =>
    rw [if_pos rfl]
    have KT := Lib.hid (fun W h => termOf_yes xs (.slice ua xs.length uc) W hf h)
    have hsz := termOfL_size hf
    clear hf
    generalize termOfL xs = A at *
    have KN := Lib.hid (hN A)
    have KF := Lib.hid (fun W => formulaOf_any (T A) W (by rw [hT]; omega))
    clear hN hT hsz
    generalize tv (T A) = R at *
    obtain ⟨ty, pv, hx⟩ := tv_form A
    rw [hx] at KT KN
    clear hx
    go_enter Tryz.func54, Tryz.ntmps54
    go_wp2
    refine wp_loop_rounds 2 ?_
    rw [rounds_succ]
    go_wp2_with fail
    refine (KT.out _ HU.out).mono ?_
    rintro e w1 ⟨rfl, hb1⟩
    have B1 := Lib.hid hb1; clear hb1 hg
    go_wp2_with (at_builtin; refine wpList_push rfl _ _ 123 rfl 75 .nilIface 16 Tryz.underlying123 Tryz.infoTm rfl w1.heap.size w1 (.iface ty pv) (.slice none 0 0) 0 [] (World.ownsRow_nil _ _ _ _) rfl rfl rfl hz0 hz1 (Nat.le_refl _) ?_; intro v' w4 hown hbp _; have HO := Lib.hid hown; have BP := Lib.hid hbp; clear hown hbp)
    have B4 := Lib.hid (B1.out.trans (BP.out.mono B1.out.size))
    rw [rounds_succ]
    go_wp2_with fail
    refine (KN.out _ _ (Rs.of_own HO.out)).mono ?_
    rintro e w' ⟨rfl, rfl⟩
    go_wp2_with fail
    refine (KF.out _).mono ?_
    rintro e w5 ⟨v5, rfl, ho5, hb5⟩
    have O5 := Lib.hid ho5; have B5 := Lib.hid hb5; clear ho5 hb5
    go_wp2
    go_returns
    exact Ans.later B4.out ⟨_, rfl, O5.out, B5.out⟩

set_option maxRecDepth 100000 in
set_option maxHeartbeats 8000000 in
theorem combine_two (op n : Int) (ho : op = 4 ∨ op = 9) (xs ys : List Nd) (u v : Value) (g : Nat) (w : World) (hgl : g < w.heap.size) (hg : w.cell? ⟨g, 0, none⟩ = some u) (hg' : w.cell? ⟨g, 1, none⟩ = some v) (hu : Ns w u xs) (hv : Ns w v ys) :
    Calls Tryz.prog 54 #[.int .i64 op, .int .i64 n, .slice (some ⟨g, 0, none⟩) 2 2] w (Ans w (if formOk xs && formOk ys then combL (.joint op (termOfL xs) (termOfL ys)) else none)) := by
  obtain ⟨ua, uc, hue, _⟩ : ∃ ua uc, u = .slice ua xs.length uc ∧ True := by
    obtain ⟨a, c, h, _⟩ := hu
    exact ⟨a, c, h, trivial⟩
  obtain ⟨va, vc, hve, _⟩ : ∃ va vc, v = .slice va ys.length vc ∧ True := by
    obtain ⟨a, c, h, _⟩ := hv
    exact ⟨a, c, h, trivial⟩
  have hz0 : (0 : Nat) + 1 ≤ maxLen := by decide
  have hz1 : (0 + 1) * 16 ≤ 140737488355328 := by decide
  have hy0 : (1 : Nat) + 1 ≤ maxLen := by decide
  have hy1 : (1 + 1) * 16 ≤ 140737488355328 := by decide
  have HU := Lib.hid hu
  have HV := Lib.hid hv
  clear hu hv
  subst hue hve
  cases hf : formOk xs with
  | false =>
    rw [Bool.false_and, if_neg (by decide)]
    have KT := Lib.hid (fun W h => termOf_no xs (.slice ua xs.length uc) W hf h)
    clear hf
    go_enter Tryz.func54, Tryz.ntmps54
    go_wp2
    refine wp_loop_rounds 3 ?_
    rw [rounds_succ]
    go_wp2_with fail
    refine (KT.out _ HU.out).mono ?_
    rintro e w1 ⟨rfl, hb1⟩
    have B1 := Lib.hid hb1; clear hb1
    go_wp2
    go_returns
    exact Ans.none_of B1.out
  | true =>
    rw [Bool.true_and]
    have KT := Lib.hid (fun W h => termOf_yes xs (.slice ua xs.length uc) W hf h)
    have hsz := termOfL_size hf
    clear hf
    generalize termOfL xs = A at *
    cases hf : formOk ys with
    | false =>
      rw [if_neg (by decide)]
      have KS := Lib.hid (fun W h => termOf_no ys (.slice va ys.length vc) W hf h)
      clear hf hsz ho
      obtain ⟨ty, pv, hx⟩ := tv_form A
      rw [hx] at KT
      clear hx
      go_enter Tryz.func54, Tryz.ntmps54
      go_wp2
      refine wp_loop_rounds 3 ?_
      rw [rounds_succ]
      go_wp2_with fail
      refine (KT.out _ HU.out).mono ?_
      rintro e w1 ⟨rfl, hb1⟩
      have B1 := Lib.hid hb1; clear hb1 hg
      go_wp2_with (at_builtin; refine wpList_push rfl _ _ 123 rfl 75 .nilIface 16 Tryz.underlying123 Tryz.infoTm rfl w1.heap.size w1 (.iface ty pv) (.slice none 0 0) 0 [] (World.ownsRow_nil _ _ _ _) rfl rfl rfl hz0 hz1 (Nat.le_refl _) ?_; intro v' w4 hown hbp _; have HO := Lib.hid hown; have BP := Lib.hid hbp; clear hown hbp)
      have B4 := Lib.hid (B1.out.trans (BP.out.mono B1.out.size))
      rw [← B4.out.cell (p := ⟨g, 1, none⟩) hgl] at hg'
      rw [rounds_succ]
      go_wp2_with fail
      refine (KS.out _ (HV.out.below B4.out (Nat.le_refl _))).mono ?_
      rintro e w5 ⟨rfl, hb5⟩
      have B5 := Lib.hid (B4.out.trans (hb5.mono B4.out.size)); clear hb5
      go_wp2
      go_returns
      exact Ans.none_of B5.out
    | true =>
      rw [if_pos rfl]
      have KS := Lib.hid (fun W h => termOf_yes ys (.slice va ys.length vc) W hf h)
      have hsz' := termOfL_size hf
      clear hf
      generalize termOfL ys = D at *
      have KN := Lib.hid (fun v W h => newTerm_2 op n v A D W ho h)
      have KF := Lib.hid (fun W => formulaOf_any (.joint op A D) W (by simp only [Tm.size]; omega))
      clear hsz hsz' ho
      generalize tv (Tm.joint op A D) = R at *
      obtain ⟨ty, pv, hx⟩ := tv_form A
      rw [hx] at KT KN
      clear hx
      obtain ⟨ty', pv', hx⟩ := tv_form D
      rw [hx] at KS KN
      clear hx
      go_enter Tryz.func54, Tryz.ntmps54
      go_wp2
      refine wp_loop_rounds 3 ?_
      rw [rounds_succ]
      go_wp2_with fail
      refine (KT.out _ HU.out).mono ?_
      rintro e w1 ⟨rfl, hb1⟩
      have B1 := Lib.hid hb1; clear hb1 hg
      go_wp2_with (at_builtin; refine wpList_push rfl _ _ 123 rfl 75 .nilIface 16 Tryz.underlying123 Tryz.infoTm rfl w1.heap.size w1 (.iface ty pv) (.slice none 0 0) 0 [] (World.ownsRow_nil _ _ _ _) rfl rfl rfl hz0 hz1 (Nat.le_refl _) ?_; intro v' w4 hown hbp _; have HO := Lib.hid hown; have BP := Lib.hid hbp; clear hown hbp)
      have B4 := Lib.hid (B1.out.trans (BP.out.mono B1.out.size))
      have hz14 := BP.out.size
      rw [← B4.out.cell (p := ⟨g, 1, none⟩) hgl] at hg'
      rw [rounds_succ]
      go_wp2_with fail
      refine (KS.out _ (HV.out.below B4.out (Nat.le_refl _))).mono ?_
      rintro e w5 ⟨rfl, hb5⟩
      have HO5 := Lib.hid (own_below HO.out hb5 (Nat.le_refl _))
      have B5 := Lib.hid (B4.out.trans (hb5.mono B4.out.size))
      have hz15 : w1.heap.size ≤ w5.heap.size := Nat.le_trans hz14 hb5.size
      clear hb5 hg'
      go_wp2_with (at_builtin; refine wpList_push rfl _ _ 123 rfl 75 .nilIface 16 Tryz.underlying123 Tryz.infoTm rfl w1.heap.size w5 (.iface ty' pv') (v') 1 [.iface ty pv] (HO5.out) rfl rfl rfl hy0 hy1 hz15 ?_; intro v'' w6 hown hbp _; have HO6 := Lib.hid hown; have BP6 := Lib.hid hbp; clear hown hbp)
      have B6 := Lib.hid (B5.out.trans (BP6.out.mono B1.out.size))
      rw [rounds_succ]
      go_wp2_with fail
      refine (KN.out _ _ (Rs.of_own HO6.out)).mono ?_
      rintro e w7 ⟨rfl, hb7⟩
      have B7 := Lib.hid (B6.out.trans (hb7.mono B6.out.size)); clear hb7
      go_wp2_with fail
      refine (KF.out _).mono ?_
      rintro e w8 ⟨v8, rfl, ho8, hb8⟩
      have O8 := Lib.hid ho8; have B8 := Lib.hid hb8; clear ho8 hb8
      go_wp2
      go_returns
      exact Ans.later B7.out ⟨_, rfl, O8.out, B8.out⟩

set_option maxRecDepth 100000 in
set_option maxHeartbeats 4000000 in
theorem implNegate_any (u : Value) (xs : List Nd) (w : World) (hu : Ns w u xs) :
    Calls Tryz.prog 13 #[u] w (Ans w (if formOk xs then combL (Tm.deny (termOfL xs)) else none)) := by
  obtain ⟨ua, uc, hue, _⟩ : ∃ ua uc, u = .slice ua xs.length uc ∧ True := by
    obtain ⟨a, c, h, _⟩ := hu
    exact ⟨a, c, h, trivial⟩
  have KC := Lib.hid (fun W hg (h : Below w.heap.size w W) => combine_one 3 0 (Tm.deny) (fun _ => rfl) (fun a v W h => newTerm_3 0 v a W h) xs u w.heap.size W hg (hu.below h (Nat.le_refl _)))
  clear hu
  subst hue
  generalize (if formOk xs then combL (Tm.deny (termOfL xs)) else none) = r at *
  go_enter Tryz.func13, Tryz.ntmps13
  go_wp2_with fail
  refine (KC.out _ (by rw [World.cell?_alloc_at _ _ _ _ rfl]; rfl) ((Below.refl _ _).alloc (Nat.le_refl _) _)).mono ?_
  rintro e w1 ⟨v1, rfl, ho1, hb1⟩
  have O1 := Lib.hid ho1; have B1 := Lib.hid hb1; clear ho1 hb1
  go_wp2
  go_returns
  exact Ans.later ((Below.refl _ _).alloc (Nat.le_refl _) _) ⟨_, rfl, O1.out, B1.out⟩

set_option maxRecDepth 100000 in
set_option maxHeartbeats 4000000 in
theorem implKnown_any (k : Int) (u : Value) (xs : List Nd) (w : World) (hu : Ns w u xs) :
    Calls Tryz.prog 12 #[.int .i64 k, u] w (Ans w (if formOk xs then combL (Tm.know 5 k (termOfL xs)) else none)) := by
  obtain ⟨ua, uc, hue, _⟩ : ∃ ua uc, u = .slice ua xs.length uc ∧ True := by
    obtain ⟨a, c, h, _⟩ := hu
    exact ⟨a, c, h, trivial⟩
  have KC := Lib.hid (fun W hg (h : Below w.heap.size w W) => combine_one 5 k (Tm.know 5 k) (fun _ => rfl) (fun a v W h => newTerm_1 5 k v a W (by decide) h) xs u w.heap.size W hg (hu.below h (Nat.le_refl _)))
  clear hu
  subst hue
  generalize (if formOk xs then combL (Tm.know 5 k (termOfL xs)) else none) = r at *
  go_enter Tryz.func12, Tryz.ntmps12
  go_wp2_with fail
  refine (KC.out _ (by rw [World.cell?_alloc_at _ _ _ _ rfl]; rfl) ((Below.refl _ _).alloc (Nat.le_refl _) _)).mono ?_
  rintro e w1 ⟨v1, rfl, ho1, hb1⟩
  have O1 := Lib.hid ho1; have B1 := Lib.hid hb1; clear ho1 hb1
  go_wp2
  go_returns
  exact Ans.later ((Below.refl _ _).alloc (Nat.le_refl _) _) ⟨_, rfl, O1.out, B1.out⟩

set_option maxRecDepth 100000 in
set_option maxHeartbeats 4000000 in
theorem implConjoin_any (u v : Value) (xs ys : List Nd) (w : World) (hu : Ns w u xs) (hv : Ns w v ys) :
    Calls Tryz.prog 21 #[u, v] w (Ans w (if formOk xs && formOk ys then combL (.joint 4 (termOfL xs) (termOfL ys)) else none)) := by
  obtain ⟨ua, uc, hue, _⟩ : ∃ ua uc, u = .slice ua xs.length uc ∧ True := by
    obtain ⟨a, c, h, _⟩ := hu
    exact ⟨a, c, h, trivial⟩
  obtain ⟨va, vc, hve, _⟩ : ∃ va vc, v = .slice va ys.length vc ∧ True := by
    obtain ⟨a, c, h, _⟩ := hv
    exact ⟨a, c, h, trivial⟩
  have KC := Lib.hid (fun W hl hg hg' (h : Below w.heap.size w W) => combine_two 4 0 (by decide) xs ys u v w.heap.size W hl hg hg' (hu.below h (Nat.le_refl _)) (hv.below h (Nat.le_refl _)))
  clear hu hv
  subst hue hve
  generalize (if formOk xs && formOk ys then combL (.joint 4 (termOfL xs) (termOfL ys)) else none) = r at *
  go_enter Tryz.func21, Tryz.ntmps21
  go_wp2_with fail
  refine (KC.out _ (by simp) (by rw [World.cell?_alloc_at _ _ _ _ rfl]; rfl) (by rw [World.cell?_alloc_at _ _ _ _ rfl]; rfl) ((Below.refl _ _).alloc (Nat.le_refl _) _)).mono ?_
  rintro e w1 ⟨v1, rfl, ho1, hb1⟩
  have O1 := Lib.hid ho1; have B1 := Lib.hid hb1; clear ho1 hb1
  go_wp2
  go_returns
  exact Ans.later ((Below.refl _ _).alloc (Nat.le_refl _) _) ⟨_, rfl, O1.out, B1.out⟩

set_option maxRecDepth 100000 in
set_option maxHeartbeats 4000000 in
theorem implAfter_any (u v : Value) (xs ys : List Nd) (w : World) (hu : Ns w u xs) (hv : Ns w v ys) :
    Calls Tryz.prog 20 #[u, v] w (Ans w (if formOk xs && formOk ys then combL (.joint 9 (termOfL xs) (termOfL ys)) else none)) := by
  obtain ⟨ua, uc, hue, _⟩ : ∃ ua uc, u = .slice ua xs.length uc ∧ True := by
    obtain ⟨a, c, h, _⟩ := hu
    exact ⟨a, c, h, trivial⟩
  obtain ⟨va, vc, hve, _⟩ : ∃ va vc, v = .slice va ys.length vc ∧ True := by
    obtain ⟨a, c, h, _⟩ := hv
    exact ⟨a, c, h, trivial⟩
  have KC := Lib.hid (fun W hl hg hg' (h : Below w.heap.size w W) => combine_two 9 0 (by decide) xs ys u v w.heap.size W hl hg hg' (hu.below h (Nat.le_refl _)) (hv.below h (Nat.le_refl _)))
  clear hu hv
  subst hue hve
  generalize (if formOk xs && formOk ys then combL (.joint 9 (termOfL xs) (termOfL ys)) else none) = r at *
  go_enter Tryz.func20, Tryz.ntmps20
  go_wp2_with fail
  refine (KC.out _ (by simp) (by rw [World.cell?_alloc_at _ _ _ _ rfl]; rfl) (by rw [World.cell?_alloc_at _ _ _ _ rfl]; rfl) ((Below.refl _ _).alloc (Nat.le_refl _) _)).mono ?_
  rintro e w1 ⟨v1, rfl, ho1, hb1⟩
  have O1 := Lib.hid ho1; have B1 := Lib.hid hb1; clear ho1 hb1
  go_wp2
  go_returns
  exact Ans.later ((Below.refl _ _).alloc (Nat.le_refl _) _) ⟨_, rfl, O1.out, B1.out⟩
end Go.Proofs.YtodjohdbngbpaaaGreat
