/-
  Contracts of spec.l08Simple and spec.Simplify. Condition of the first: the nodes are a formula's.
-/
import Derived.Test.YtnpfnfenkklocaaRwm
import Derived.Test.YtnpfnfenkklocaaSpecR
namespace Go.Proofs.Ytnpfnfenkklocaa
open Go.RowKit Go.WideShapes
open Go Go.Deep
set_option linter.unusedSimpArgs false

theorem str_list (l : List UInt8) : (str l).toList = l := by rw [ByteArray.toList_eq]; simp [str]
/-- the text is T exactly for the truth -/
theorem txt_T {t : Tm} (h : t.wf) : isTopT t = decide (txt t = [84]) := by
  rw [Bool.eq_iff_iff, decide_eq_true_iff]
  constructor
  · intro ht; rw [top_eq h ht]; rfl
  · intro ht
    have hs : t.size ≤ 1 := by have := (txt_len t).1; rw [ht] at this; simpa using this
    have h1 : txt t = txt (.leaf 2 0) := ht
    rw [txt_one (y := .leaf 2 0) h ⟨.inr rfl, by decide, by decide⟩ (by omega) (by simp [Tm.size]) h1]; rfl
/-- the first sign of a text -/
theorem txt_first {t : Tm} (h : t.wf) : (∃ c, t = .deny c ∧ txt t = 45 :: txt c) ∨ (unDeny t = .deny t ∧ ∃ u r, txt t = u :: r ∧ ¬ u = 45) := by
  cases t with
  | deny c => exact .inl ⟨c, rfl, rfl⟩
  | leaf op n =>
    refine .inr ⟨rfl, ?_⟩
    obtain ⟨ho, h1, h2⟩ := h
    rcases ho with rfl | rfl
    · have hn : n = 0 ∨ n = 1 ∨ n = 2 ∨ n = 3 := by have : limN 1 = 4 := rfl; omega
      rcases hn with rfl | rfl | rfl | rfl <;> exact ⟨_, [], rfl, by decide⟩
    · exact ⟨84, [], rfl, by decide⟩
  | know op n a =>
    refine .inr ⟨rfl, ?_⟩
    rcases h.1 with rfl | rfl | rfl | rfl
    · exact ⟨75, _, rfl, by decide⟩
    · exact ⟨87, _, rfl, by decide⟩
    · exact ⟨69, _, rfl, by decide⟩
    · exact ⟨67, _, rfl, by decide⟩
  | joint op a b =>
    refine .inr ⟨rfl, ?_⟩
    rcases h.1 with rfl | rfl
    · exact ⟨38, _, rfl, by decide⟩
    · exact ⟨33, _, rfl, by decide⟩

set_option maxRecDepth 100000 in
set_option maxHeartbeats 32000000 in
theorem specSimple_any (xs : List Nd) (v : Value) (hf : formOk xs = true) : ∀ (m i : Nat) (w : World), i < m → i < xs.length → Ns w v xs →
    Calls Try.prog 39 #[v, .int .i64 i] w fun e w' => e = .returned (.string (str (txt (simpT (tmAt xs i))))) ∧ Below w.heap.size w w' := by
  obtain ⟨f1, f2, hn, _⟩ := formOk_parts hf
  have HN := Lib.hid hn
  have HSW := Lib.hid (fun j (hj : j < xs.length) => simp_wf (tmAt xs j) (tmAt_wf hn _ j (Nat.le_refl _) hj))
  have HSZ := Lib.hid (fun j (hj : j < xs.length) => sub_small hf hj)
  clear hn hf f1 f2
  intro m
  induction m with
  | zero => intro i w hi; omega
  | succ m ih =>
    intro i w hi hl hr
    have hok := nodesOk_at HN.out hl
    have hp := okAt_parts hok
    have KX := Lib.hid (fun W (h : Below w.heap.size w W) => specText_any xs v HN.out _ i W (Nat.lt_succ_self _) hl (hr.below h (Nat.le_refl _)) (by have := HSZ.out i hl; omega))
    rw [tmAt_eq HN.out hl] at KX ⊢
    obtain ⟨ra, cap, rfl, h1, h2, h3⟩ := hr.parts
    obtain ⟨b, o, rfl, hb, c0, c1, c2, c3⟩ := h3 i hl
    clear h3 hok
    have HR := Lib.hid hr
    clear hr
    generalize hx : xs.getD i default = x at *
    obtain ⟨op, n, xa, xb⟩ := x
    simp only [] at c0 c1 c2 c3 hp KX ⊢
    clear hx
    unfold maxLen at h2
    have IH := Lib.hid ih
    clear ih
    have KU := Lib.hid (fun W => l02Uses_in op W hp.1.1 hp.1.2.1)
    rcases op_kinds hp.1.1 hp.1.2.1 with ⟨ho, hu⟩ | ⟨ho, hu⟩ | ⟨ho, hu⟩ | ⟨ho, hu⟩
    · rw [mkTm_leaf ho] at KX ⊢
      rw [show simpT (.leaf op n) = .leaf op n from rfl]
      rw [hu] at KU
      clear hu hp HSW HSZ IH
      generalize txt (Tm.leaf op n) = tx at *
      rcases ho with rfl | rfl
      all_goals
        go_enter Try.func39, Try.ntmps39
        go_wp2_with fail
        refine (KU.out _).mono ?_
        rintro e w' ⟨rfl, rfl⟩
        go_wp2_with fail
        refine (KX.out _ ((Below.refl _ _).alloc (Nat.le_refl _) _)).mono ?_
        rintro e w2 ⟨rfl, hb2⟩
        have B2 := Lib.hid (((Below.refl w.heap.size w).alloc (Nat.le_refl _) _).trans (hb2.mono (by simp)))
        clear hb2 c0 c1 c2 c3
        go_wp2
        go_ret
        exact ⟨rfl, B2.out⟩
    · subst ho
      rw [mkTm_deny]
      rw [show simpT (.deny (tmAt xs xa.toNat)) = unDeny (simpT (tmAt xs xa.toNat)) from rfl]
      have ha' := hp.2.1 (by omega)
      obtain ⟨k, rfl⟩ : ∃ k : Nat, xa = k := ⟨xa.toNat, by omega⟩
      rw [Int.toNat_natCast] at *
      have hka : k < m := by omega
      have hkl : k < xs.length := by omega
      have KD := Lib.hid (fun W (h : Below w.heap.size w W) => IH.out k W hka hkl (HR.out.below h (Nat.le_refl _)))
      obtain ⟨hw, hz⟩ := HSW.out k hkl
      have hsz := HSZ.out k hkl
      rw [hu] at KU
      generalize simpT (tmAt xs k) = s at *
      have hl2 := (txt_len s).2
      have zs : (str (txt s)).size ≤ 80 := by rw [str_size]; omega
      have hz0 : (0 : Int) ≤ ((str (txt s)).size : Int) := Int.natCast_nonneg _
      rcases txt_first hw with ⟨c, rfl, hc⟩ | ⟨hud, u, r, hc, hne⟩
      · rw [show unDeny (.deny c) = c from rfl]
        rw [hc] at KD zs
        clear hu hp ha' hka hkl KX hw hz hsz hl2 hc HSW HSZ hz0
        generalize txt c = r at *
        have hsz1 : (str (45 :: r)).size = r.length + 1 := rfl
        have hb0 : ∀ h, (str (45 :: r))[0]'h = 45 := fun _ => rfl
        have hex : (str (45 :: r)).extract 1 (r.length + 1) = str r := by
          apply ByteArray.ext
          simp [str, ByteArray.data_extract]
        rw [hsz1] at zs
        go_enter Try.func39, Try.ntmps39
        go_wp2_with fail
        refine (KU.out _).mono ?_
        rintro e w' ⟨rfl, rfl⟩
        go_wp2_with fail
        refine (KD.out _ ((Below.refl _ _).alloc (Nat.le_refl _) _)).mono ?_
        rintro e w2 ⟨rfl, hb2⟩
        have B2 := Lib.hid (((Below.refl w.heap.size w).alloc (Nat.le_refl _) _).trans (hb2.mono (by simp)))
        have hz2 : w.heap.size < w2.heap.size := by have := hb2.size; simp at this; omega
        have n0 := node_keptZ hb2 0
        have n1 := node_keptZ hb2 1
        have n3 := node_keptZ hb2 3
        simp at n0 n1 n3
        clear hb2 c0 c1 c2 c3
        go_wp2
        go_ret
        exact ⟨rfl, B2.out⟩
      · rw [hud]
        clear hu hp ha' hka hkl KX hw hz hsz HSW HSZ hud hz0
        rw [hc] at KD zs hl2
        have HT : Hid (⟨#[45]⟩ ++ str (u :: r) = str (txt (.deny s))) := Lib.hid (by
          rw [← hc, show (⟨#[45]⟩ : ByteArray) = str [45] from rfl, str_app]; rfl)
        clear hc hl2
        have hsz1 : (str (u :: r)).size = r.length + 1 := rfl
        have hb0 : ∀ h, (str (u :: r))[0]'h = u := fun _ => rfl
        have hne' : ((u.toNat : Int) == 45) = false := by
          rw [beq_eq_false_iff_ne]; intro h; apply hne; have h2 : u.toNat = 45 := by omega
          exact UInt8.toNat_inj.1 h2
        have hadd := fun W => run_string_add_sum (P := Try.prog) W ⟨#[45]⟩ (str (u :: r)) (by have : (⟨#[45]⟩ : ByteArray).size = 1 := rfl; omega)
        rw [hsz1] at zs
        clear hne
        go_enter Try.func39, Try.ntmps39
        go_wp2_with fail
        refine (KU.out _).mono ?_
        rintro e w' ⟨rfl, rfl⟩
        go_wp2_with fail
        refine (KD.out _ ((Below.refl _ _).alloc (Nat.le_refl _) _)).mono ?_
        rintro e w2 ⟨rfl, hb2⟩
        have B2 := Lib.hid (((Below.refl w.heap.size w).alloc (Nat.le_refl _) _).trans (hb2.mono (by simp)))
        have hz2 : w.heap.size < w2.heap.size := by have := hb2.size; simp at this; omega
        have n0 := node_keptZ hb2 0
        have n1 := node_keptZ hb2 1
        have n3 := node_keptZ hb2 3
        simp at n0 n1 n3
        clear hb2 c0 c1 c2 c3
        go_wp2
        go_ret
        exact ⟨ret_str HT.out, B2.out⟩
    · rw [mkTm_know ho]
      rw [show simpT (.know op n (tmAt xs xa.toNat)) = if isTopT (simpT (tmAt xs xa.toNat)) then .leaf 2 0 else .know op n (simpT (tmAt xs xa.toNat)) from rfl]
      have ha' := hp.2.1 (by omega)
      obtain ⟨k, rfl⟩ : ∃ k : Nat, xa = k := ⟨xa.toNat, by omega⟩
      rw [Int.toNat_natCast] at *
      have hka : k < m := by omega
      have hkl : k < xs.length := by omega
      have KD := Lib.hid (fun W (h : Below w.heap.size w W) => IH.out k W hka hkl (HR.out.below h (Nat.le_refl _)))
      obtain ⟨hw, hz⟩ := HSW.out k hkl
      have hsz := HSZ.out k hkl
      rw [hu] at KU
      rw [txt_T hw]
      generalize simpT (tmAt xs k) = s at *
      have hl2 := (txt_len s).2
      have zs : (str (txt s)).size ≤ 80 := by rw [str_size]; omega
      by_cases htop : txt s = [84]
      · rw [decide_eq_true htop, if_pos rfl]
        rw [htop, show str [84] = (⟨#[84]⟩ : ByteArray) from rfl] at KD
        clear hp ha' hka hkl KX hw hz hsz HSW HSZ htop hl2 hu zs
        rcases ho with rfl | rfl | rfl | rfl
        all_goals
          go_enter Try.func39, Try.ntmps39
          go_wp2_with fail
          refine (KU.out _).mono ?_
          rintro e w' ⟨rfl, rfl⟩
          go_wp2_with fail
          refine (KD.out _ ((Below.refl _ _).alloc (Nat.le_refl _) _)).mono ?_
          rintro e w2 ⟨rfl, hb2⟩
          have B2 := Lib.hid (((Below.refl w.heap.size w).alloc (Nat.le_refl _) _).trans (hb2.mono (by simp)))
          have hz2 : w.heap.size < w2.heap.size := by have := hb2.size; simp at this; omega
          have n0 := node_keptZ hb2 0
          have n1 := node_keptZ hb2 1
          have n3 := node_keptZ hb2 3
          simp at n0 n1 n3
          clear hb2 c0 c1 c2 c3
          go_wp2
          go_ret
          exact ⟨rfl, B2.out⟩
      · rw [decide_eq_false htop, if_neg (by decide)]
        have hT : ((str (txt s)).toList == [84]) = false := by rw [str_list]; simpa using htop
        clear ha' hka hkl KX hw hz hsz HSW HSZ htop hu
        rcases ho with rfl | rfl | rfl | rfl
        · have KF := Lib.hid (fun W => specSmall_any n W (by have := hp.1.2.2; have : limN 5 = 3 := rfl; omega))
          have zn : (str [UInt8.ofNat (48 + n.toNat)]).size ≤ 1 := Nat.le_refl _
          have HT : Hid (⟨#[75]⟩ ++ str [UInt8.ofNat (48 + n.toNat)] ++ str (txt s) = str (txt (.know 5 n s))) := Lib.hid (by
            rw [show (⟨#[75]⟩ : ByteArray) = str [75] from rfl, str_app, str_app]
            first | rfl | (congr 1; simp [txt, headT, headB, Tm.op, Tm.num, letterI, letters]))
          have zl0 : (⟨#[75]⟩ : ByteArray).size = 1 := rfl
          have hadd0 := fun W => run_string_add_sum (P := Try.prog) W (⟨#[75]⟩) (str [UInt8.ofNat (48 + n.toNat)]) (by first | omega | (simp only [ByteArray.size_append]; omega))
          have hadd1 := fun W => run_string_add_sum (P := Try.prog) W (⟨#[75]⟩ ++ str [UInt8.ofNat (48 + n.toNat)]) (str (txt s)) (by first | omega | (simp only [ByteArray.size_append]; omega))
          clear hp hl2
          generalize str (txt s) = ss at *
          generalize str [UInt8.ofNat (48 + n.toNat)] = sn at *
          clear zs zl0 zn
          go_enter Try.func39, Try.ntmps39
          go_wp2_with fail
          refine (KU.out _).mono ?_
          rintro e w' ⟨rfl, rfl⟩
          go_wp2_with fail
          refine (KD.out _ ((Below.refl _ _).alloc (Nat.le_refl _) _)).mono ?_
          rintro e w2 ⟨rfl, hb2⟩
          have B2 := Lib.hid (((Below.refl w.heap.size w).alloc (Nat.le_refl _) _).trans (hb2.mono (by simp)))
          have hz2 : w.heap.size < w2.heap.size := by have := hb2.size; simp at this; omega
          have n0 := node_keptZ hb2 0
          have n1 := node_keptZ hb2 1
          have n3 := node_keptZ hb2 3
          simp at n0 n1 n3
          clear hb2 c0 c1 c2 c3
          go_wp2_with fail
          refine (KF.out _).mono ?_
          rintro e w3 ⟨rfl, hb3⟩
          have B3 := Lib.hid (B2.out.trans (hb3.mono B2.out.size))
          clear hb3 n0 n1 n3
          go_wp2
          go_ret
          exact ⟨ret_str HT.out, B3.out⟩
        · have KF := Lib.hid (fun W => specSmall_any n W (by have := hp.1.2.2; have : limN 6 = 3 := rfl; omega))
          have zn : (str [UInt8.ofNat (48 + n.toNat)]).size ≤ 1 := Nat.le_refl _
          have HT : Hid (⟨#[87]⟩ ++ str [UInt8.ofNat (48 + n.toNat)] ++ str (txt s) = str (txt (.know 6 n s))) := Lib.hid (by
            rw [show (⟨#[87]⟩ : ByteArray) = str [87] from rfl, str_app, str_app]
            first | rfl | (congr 1; simp [txt, headT, headB, Tm.op, Tm.num, letterI, letters]))
          have zl0 : (⟨#[87]⟩ : ByteArray).size = 1 := rfl
          have hadd0 := fun W => run_string_add_sum (P := Try.prog) W (⟨#[87]⟩) (str [UInt8.ofNat (48 + n.toNat)]) (by first | omega | (simp only [ByteArray.size_append]; omega))
          have hadd1 := fun W => run_string_add_sum (P := Try.prog) W (⟨#[87]⟩ ++ str [UInt8.ofNat (48 + n.toNat)]) (str (txt s)) (by first | omega | (simp only [ByteArray.size_append]; omega))
          clear hp hl2
          generalize str (txt s) = ss at *
          generalize str [UInt8.ofNat (48 + n.toNat)] = sn at *
          clear zs zl0 zn
          go_enter Try.func39, Try.ntmps39
          go_wp2_with fail
          refine (KU.out _).mono ?_
          rintro e w' ⟨rfl, rfl⟩
          go_wp2_with fail
          refine (KD.out _ ((Below.refl _ _).alloc (Nat.le_refl _) _)).mono ?_
          rintro e w2 ⟨rfl, hb2⟩
          have B2 := Lib.hid (((Below.refl w.heap.size w).alloc (Nat.le_refl _) _).trans (hb2.mono (by simp)))
          have hz2 : w.heap.size < w2.heap.size := by have := hb2.size; simp at this; omega
          have n0 := node_keptZ hb2 0
          have n1 := node_keptZ hb2 1
          have n3 := node_keptZ hb2 3
          simp at n0 n1 n3
          clear hb2 c0 c1 c2 c3
          go_wp2_with fail
          refine (KF.out _).mono ?_
          rintro e w3 ⟨rfl, hb3⟩
          have B3 := Lib.hid (B2.out.trans (hb3.mono B2.out.size))
          clear hb3 n0 n1 n3
          go_wp2
          go_ret
          exact ⟨ret_str HT.out, B3.out⟩
        · have HT : Hid (⟨#[69]⟩ ++ str (txt s) = str (txt (.know 7 n s))) := Lib.hid (by
            rw [show (⟨#[69]⟩ : ByteArray) = str [69] from rfl, str_app]
            first | rfl | (congr 1; simp [txt, headT, headB, Tm.op, Tm.num, letterI, letters]))
          have zl0 : (⟨#[69]⟩ : ByteArray).size = 1 := rfl
          have hadd0 := fun W => run_string_add_sum (P := Try.prog) W (⟨#[69]⟩) (str (txt s)) (by first | omega | (simp only [ByteArray.size_append]; omega))
          clear hp hl2
          generalize str (txt s) = ss at *
          clear zs zl0
          go_enter Try.func39, Try.ntmps39
          go_wp2_with fail
          refine (KU.out _).mono ?_
          rintro e w' ⟨rfl, rfl⟩
          go_wp2_with fail
          refine (KD.out _ ((Below.refl _ _).alloc (Nat.le_refl _) _)).mono ?_
          rintro e w2 ⟨rfl, hb2⟩
          have B2 := Lib.hid (((Below.refl w.heap.size w).alloc (Nat.le_refl _) _).trans (hb2.mono (by simp)))
          have hz2 : w.heap.size < w2.heap.size := by have := hb2.size; simp at this; omega
          have n0 := node_keptZ hb2 0
          have n1 := node_keptZ hb2 1
          have n3 := node_keptZ hb2 3
          simp at n0 n1 n3
          clear hb2 c0 c1 c2 c3
          go_wp2
          go_ret
          exact ⟨ret_str HT.out, B2.out⟩
        · have HT : Hid (⟨#[67]⟩ ++ str (txt s) = str (txt (.know 8 n s))) := Lib.hid (by
            rw [show (⟨#[67]⟩ : ByteArray) = str [67] from rfl, str_app]
            first | rfl | (congr 1; simp [txt, headT, headB, Tm.op, Tm.num, letterI, letters]))
          have zl0 : (⟨#[67]⟩ : ByteArray).size = 1 := rfl
          have hadd0 := fun W => run_string_add_sum (P := Try.prog) W (⟨#[67]⟩) (str (txt s)) (by first | omega | (simp only [ByteArray.size_append]; omega))
          clear hp hl2
          generalize str (txt s) = ss at *
          clear zs zl0
          go_enter Try.func39, Try.ntmps39
          go_wp2_with fail
          refine (KU.out _).mono ?_
          rintro e w' ⟨rfl, rfl⟩
          go_wp2_with fail
          refine (KD.out _ ((Below.refl _ _).alloc (Nat.le_refl _) _)).mono ?_
          rintro e w2 ⟨rfl, hb2⟩
          have B2 := Lib.hid (((Below.refl w.heap.size w).alloc (Nat.le_refl _) _).trans (hb2.mono (by simp)))
          have hz2 : w.heap.size < w2.heap.size := by have := hb2.size; simp at this; omega
          have n0 := node_keptZ hb2 0
          have n1 := node_keptZ hb2 1
          have n3 := node_keptZ hb2 3
          simp at n0 n1 n3
          clear hb2 c0 c1 c2 c3
          go_wp2
          go_ret
          exact ⟨ret_str HT.out, B2.out⟩
    · rw [mkTm_joint ho]
      have ha' := hp.2.1 (by omega)
      have hb' := hp.2.2.1 hu
      obtain ⟨k, rfl⟩ : ∃ k : Nat, xa = k := ⟨xa.toNat, by omega⟩
      obtain ⟨k', rfl⟩ : ∃ k : Nat, xb = k := ⟨xb.toNat, by omega⟩
      rw [Int.toNat_natCast, Int.toNat_natCast] at *
      have hka : k < m := by omega
      have hkl : k < xs.length := by omega
      have hkb : k' < m := by omega
      have hkl' : k' < xs.length := by omega
      have KD := Lib.hid (fun W (h : Below w.heap.size w W) => IH.out k W hka hkl (HR.out.below h (Nat.le_refl _)))
      have KE := Lib.hid (fun W (h : Below w.heap.size w W) => IH.out k' W hkb hkl' (HR.out.below h (Nat.le_refl _)))
      obtain ⟨hw, hz⟩ := HSW.out k hkl
      obtain ⟨hw', hz'⟩ := HSW.out k' hkl'
      have hsz := HSZ.out k hkl
      have hsz' := HSZ.out k' hkl'
      rw [hu] at KU
      rw [show simpT (.joint op (tmAt xs k) (tmAt xs k')) = if op = 4 then simpAnd (simpT (tmAt xs k)) (simpT (tmAt xs k')) else .joint op (simpT (tmAt xs k)) (simpT (tmAt xs k')) from rfl]
      generalize simpT (tmAt xs k) = s at *
      generalize simpT (tmAt xs k') = s' at *
      have hl2 := (txt_len s).2
      have hl2' := (txt_len s').2
      have zs : (str (txt s)).size ≤ 80 := by rw [str_size]; omega
      have zs' : (str (txt s')).size ≤ 80 := by rw [str_size]; omega
      have htx := txt_T hw
      have hty := txt_T hw'
      clear hu hp ha' hb' hka hkl hkb hkl' KX hw hz hw' hz' hsz hsz' hl2 hl2' HSW HSZ
      rcases ho with rfl | rfl
      · rw [if_pos rfl]
        unfold simpAnd
        rw [htx, hty]
        have e1 : ((str (txt s)).toList == [84]) = decide (txt s = [84]) := by rw [str_list, Bool.eq_iff_iff, beq_iff_eq, decide_eq_true_iff]
        have e2 : ((str (txt s')).toList == [84]) = decide (txt s' = [84]) := by rw [str_list, Bool.eq_iff_iff, beq_iff_eq, decide_eq_true_iff]
        have e3 : ((str (txt s)).toList == (str (txt s')).toList) = decide (txt s = txt s') := by rw [str_list, str_list, Bool.eq_iff_iff, beq_iff_eq, decide_eq_true_iff]
        have e4 : ((str (txt s')).toList != [84]) = !decide (txt s' = [84]) := by rw [← e2]; rfl
        have HT : Hid (⟨#[38]⟩ ++ str (txt s) ++ str (txt s') = str (txt (.joint 4 s s'))) := Lib.hid (by
          rw [show (⟨#[38]⟩ : ByteArray) = str [38] from rfl, str_app, str_app]
          first | rfl | (congr 1; simp [txt, headT, headB, Tm.op, Tm.num, letterI, letters]))
        have zl0 : (⟨#[38]⟩ : ByteArray).size = 1 := rfl
        have hadd0 := fun W => run_string_add_sum (P := Try.prog) W (⟨#[38]⟩) (str (txt s)) (by first | omega | (simp only [ByteArray.size_append]; omega))
        have hadd1 := fun W => run_string_add_sum (P := Try.prog) W (⟨#[38]⟩ ++ str (txt s)) (str (txt s')) (by first | omega | (simp only [ByteArray.size_append]; omega))
        clear htx hty
        by_cases hy : txt s' = [84]
        · have hif : (if (decide (txt s = [84]) && !decide (txt s' = [84])) = true then s' else if (decide (txt s' = [84]) || decide (txt s = txt s')) = true then s else Tm.joint 4 s s') = s := by rw [hy]; simp
          rw [hif]
          rw [decide_eq_true hy] at e2 e4
          clear hif hy HT e3
          have e4 : ((str (txt s')).toList != [84]) = false := e4
          by_cases hx : txt s = [84]
          · rw [decide_eq_true hx] at e1
            clear hx
            generalize str (txt s) = ss at *
            generalize str (txt s') = ss' at *
            clear zs zs' zl0
            go_enter Try.func39, Try.ntmps39
            go_wp2_with fail
            refine (KU.out _).mono ?_
            rintro e w' ⟨rfl, rfl⟩
            go_wp2_with fail
            refine (KD.out _ ((Below.refl _ _).alloc (Nat.le_refl _) _)).mono ?_
            rintro e w2 ⟨rfl, hb2⟩
            have B2 := Lib.hid (((Below.refl w.heap.size w).alloc (Nat.le_refl _) _).trans (hb2.mono (by simp)))
            have hz2 : w.heap.size < w2.heap.size := by have := hb2.size; simp at this; omega
            have n0 := node_keptZ hb2 0
            have n1 := node_keptZ hb2 1
            have n3 := node_keptZ hb2 3
            simp at n0 n1 n3
            clear hb2 c0 c1 c2 c3
            go_wp2_with fail
            refine (KE.out _ B2.out).mono ?_
            rintro e w3 ⟨rfl, hb3⟩
            have B3 := Lib.hid (B2.out.trans (hb3.mono B2.out.size))
            clear hb3 n0 n1 n3
            go_wp2
            go_ret
            exact ⟨rfl, B3.out⟩
          · rw [decide_eq_false hx] at e1
            clear hx
            generalize str (txt s) = ss at *
            generalize str (txt s') = ss' at *
            clear zs zs' zl0
            go_enter Try.func39, Try.ntmps39
            go_wp2_with fail
            refine (KU.out _).mono ?_
            rintro e w' ⟨rfl, rfl⟩
            go_wp2_with fail
            refine (KD.out _ ((Below.refl _ _).alloc (Nat.le_refl _) _)).mono ?_
            rintro e w2 ⟨rfl, hb2⟩
            have B2 := Lib.hid (((Below.refl w.heap.size w).alloc (Nat.le_refl _) _).trans (hb2.mono (by simp)))
            have hz2 : w.heap.size < w2.heap.size := by have := hb2.size; simp at this; omega
            have n0 := node_keptZ hb2 0
            have n1 := node_keptZ hb2 1
            have n3 := node_keptZ hb2 3
            simp at n0 n1 n3
            clear hb2 c0 c1 c2 c3
            go_wp2_with fail
            refine (KE.out _ B2.out).mono ?_
            rintro e w3 ⟨rfl, hb3⟩
            have B3 := Lib.hid (B2.out.trans (hb3.mono B2.out.size))
            clear hb3 n0 n1 n3
            go_wp2
            go_ret
            exact ⟨rfl, B3.out⟩
        · rw [decide_eq_false hy] at e2 e4
          have e4 : ((str (txt s')).toList != [84]) = true := e4
          by_cases hx : txt s = [84]
          · have hif : (if (decide (txt s = [84]) && !decide (txt s' = [84])) = true then s' else if (decide (txt s' = [84]) || decide (txt s = txt s')) = true then s else Tm.joint 4 s s') = s' := by simp [hx, hy]
            rw [hif]
            rw [decide_eq_true hx] at e1
            clear hif hx hy HT e3
            generalize str (txt s) = ss at *
            generalize str (txt s') = ss' at *
            clear zs zs' zl0
            go_enter Try.func39, Try.ntmps39
            go_wp2_with fail
            refine (KU.out _).mono ?_
            rintro e w' ⟨rfl, rfl⟩
            go_wp2_with fail
            refine (KD.out _ ((Below.refl _ _).alloc (Nat.le_refl _) _)).mono ?_
            rintro e w2 ⟨rfl, hb2⟩
            have B2 := Lib.hid (((Below.refl w.heap.size w).alloc (Nat.le_refl _) _).trans (hb2.mono (by simp)))
            have hz2 : w.heap.size < w2.heap.size := by have := hb2.size; simp at this; omega
            have n0 := node_keptZ hb2 0
            have n1 := node_keptZ hb2 1
            have n3 := node_keptZ hb2 3
            simp at n0 n1 n3
            clear hb2 c0 c1 c2 c3
            go_wp2_with fail
            refine (KE.out _ B2.out).mono ?_
            rintro e w3 ⟨rfl, hb3⟩
            have B3 := Lib.hid (B2.out.trans (hb3.mono B2.out.size))
            clear hb3 n0 n1 n3
            go_wp2
            go_ret
            exact ⟨rfl, B3.out⟩
          · rw [decide_eq_false hx] at e1
            by_cases hxy : txt s = txt s'
            · have hif : (if (decide (txt s = [84]) && !decide (txt s' = [84])) = true then s' else if (decide (txt s' = [84]) || decide (txt s = txt s')) = true then s else Tm.joint 4 s s') = s := by rw [decide_eq_false hx, decide_eq_true hxy]; simp
              rw [hif]
              rw [decide_eq_true hxy] at e3
              clear hif hx hy hxy HT
              generalize str (txt s) = ss at *
              generalize str (txt s') = ss' at *
              clear zs zs' zl0
              go_enter Try.func39, Try.ntmps39
              go_wp2_with fail
              refine (KU.out _).mono ?_
              rintro e w' ⟨rfl, rfl⟩
              go_wp2_with fail
              refine (KD.out _ ((Below.refl _ _).alloc (Nat.le_refl _) _)).mono ?_
              rintro e w2 ⟨rfl, hb2⟩
              have B2 := Lib.hid (((Below.refl w.heap.size w).alloc (Nat.le_refl _) _).trans (hb2.mono (by simp)))
              have hz2 : w.heap.size < w2.heap.size := by have := hb2.size; simp at this; omega
              have n0 := node_keptZ hb2 0
              have n1 := node_keptZ hb2 1
              have n3 := node_keptZ hb2 3
              simp at n0 n1 n3
              clear hb2 c0 c1 c2 c3
              go_wp2_with fail
              refine (KE.out _ B2.out).mono ?_
              rintro e w3 ⟨rfl, hb3⟩
              have B3 := Lib.hid (B2.out.trans (hb3.mono B2.out.size))
              clear hb3 n0 n1 n3
              go_wp2
              go_ret
              exact ⟨rfl, B3.out⟩
            · have hif : (if (decide (txt s = [84]) && !decide (txt s' = [84])) = true then s' else if (decide (txt s' = [84]) || decide (txt s = txt s')) = true then s else Tm.joint 4 s s') = .joint 4 s s' := by rw [decide_eq_false hx, decide_eq_false hy, decide_eq_false hxy]; simp
              rw [hif]
              rw [decide_eq_false hxy] at e3
              clear hif hx hy hxy
              generalize str (txt s) = ss at *
              generalize str (txt s') = ss' at *
              clear zs zs' zl0
              go_enter Try.func39, Try.ntmps39
              go_wp2_with fail
              refine (KU.out _).mono ?_
              rintro e w' ⟨rfl, rfl⟩
              go_wp2_with fail
              refine (KD.out _ ((Below.refl _ _).alloc (Nat.le_refl _) _)).mono ?_
              rintro e w2 ⟨rfl, hb2⟩
              have B2 := Lib.hid (((Below.refl w.heap.size w).alloc (Nat.le_refl _) _).trans (hb2.mono (by simp)))
              have hz2 : w.heap.size < w2.heap.size := by have := hb2.size; simp at this; omega
              have n0 := node_keptZ hb2 0
              have n1 := node_keptZ hb2 1
              have n3 := node_keptZ hb2 3
              simp at n0 n1 n3
              clear hb2 c0 c1 c2 c3
              go_wp2_with fail
              refine (KE.out _ B2.out).mono ?_
              rintro e w3 ⟨rfl, hb3⟩
              have B3 := Lib.hid (B2.out.trans (hb3.mono B2.out.size))
              clear hb3 n0 n1 n3
              go_wp2
              go_ret
              exact ⟨ret_str HT.out, B3.out⟩
      · rw [if_neg (by decide)]
        have HT : Hid (⟨#[33]⟩ ++ str (txt s) ++ str (txt s') = str (txt (.joint 9 s s'))) := Lib.hid (by
          rw [show (⟨#[33]⟩ : ByteArray) = str [33] from rfl, str_app, str_app]
          first | rfl | (congr 1; simp [txt, headT, headB, Tm.op, Tm.num, letterI, letters]))
        have zl0 : (⟨#[33]⟩ : ByteArray).size = 1 := rfl
        have hadd0 := fun W => run_string_add_sum (P := Try.prog) W (⟨#[33]⟩) (str (txt s)) (by first | omega | (simp only [ByteArray.size_append]; omega))
        have hadd1 := fun W => run_string_add_sum (P := Try.prog) W (⟨#[33]⟩ ++ str (txt s)) (str (txt s')) (by first | omega | (simp only [ByteArray.size_append]; omega))
        clear htx hty
        generalize str (txt s) = ss at *
        generalize str (txt s') = ss' at *
        clear zs zs' zl0
        go_enter Try.func39, Try.ntmps39
        go_wp2_with fail
        refine (KU.out _).mono ?_
        rintro e w' ⟨rfl, rfl⟩
        go_wp2_with fail
        refine (KD.out _ ((Below.refl _ _).alloc (Nat.le_refl _) _)).mono ?_
        rintro e w2 ⟨rfl, hb2⟩
        have B2 := Lib.hid (((Below.refl w.heap.size w).alloc (Nat.le_refl _) _).trans (hb2.mono (by simp)))
        have hz2 : w.heap.size < w2.heap.size := by have := hb2.size; simp at this; omega
        have n0 := node_keptZ hb2 0
        have n1 := node_keptZ hb2 1
        have n3 := node_keptZ hb2 3
        simp at n0 n1 n3
        clear hb2 c0 c1 c2 c3
        go_wp2_with fail
        refine (KE.out _ B2.out).mono ?_
        rintro e w3 ⟨rfl, hb3⟩
        have B3 := Lib.hid (B2.out.trans (hb3.mono B2.out.size))
        clear hb3 n0 n1 n3
        go_wp2
        go_ret
        exact ⟨ret_str HT.out, B3.out⟩

set_option maxHeartbeats 8000000 in
theorem specSimplify_any (u : Value) (xs : List Nd) (w : World) (hr : Ns w u xs) :
    Calls Try.prog 19 #[u] w (Ans w (simpL xs)) := by
  have HR := Lib.hid hr
  have KO := Lib.hid (fun W h => specForm_any u xs W h)
  obtain ⟨ua, uc, rfl, -⟩ := hr
  cases hf : formOk xs with
  | false =>
    have HA : Hid (simpL xs = none) := Lib.hid (by unfold simpL; rw [hf]; rfl)
    rw [hf] at KO
    clear hf
    go_enter Try.func19, Try.ntmps19
    go_wp2_with fail
    refine (KO.out _ HR.out).mono ?_
    rintro e w1 ⟨rfl, hb1⟩
    have B1 := Lib.hid hb1; clear hb1
    go_wp2
    go_returns
    rw [HA.out]
    exact Ans.none_of B1.out
  | true =>
    rw [hf] at KO
    obtain ⟨q1, q2, -⟩ := formOk_parts hf
    have KN := Lib.hid (fun W h => specSimple_any xs (.slice ua xs.length uc) hf _ (xs.length - 1) W (Nat.lt_succ_self _) (by omega) h)
    rw [lastIx q1] at KN
    have KP := Lib.hid (fun W => parse_str (txt (simpT (tmAt xs (xs.length - 1)))) W)
    have HA : Hid (parsed (txt (simpT (tmAt xs (xs.length - 1)))) = simpL xs) := Lib.hid (by
      obtain ⟨hw, hz⟩ := simp_wf _ (termOfL_wf hf)
      have hs := termOfL_size hf
      unfold simpL
      rw [hf, if_pos rfl]
      exact parsed_txt (T := simpT (termOfL xs)) hw (by omega))
    rw [HA.out] at KP
    unfold Ans at KP
    have hl1 : (1 : Int) ≤ (xs.length : Int) := by omega
    have hl2 : (xs.length : Int) ≤ 40 := by omega
    clear hf q1 q2 HA
    generalize str (txt (simpT (tmAt xs (xs.length - 1)))) = sn at *
    go_enter Try.func19, Try.ntmps19
    go_wp2_with fail
    refine (KO.out _ HR.out).mono ?_
    rintro e w1 ⟨rfl, hb1⟩
    have B1 := Lib.hid hb1; clear hb1
    go_wp2_with fail
    refine (KN.out _ (HR.out.below B1.out (Nat.le_refl _))).mono ?_
    rintro e w3 ⟨rfl, hb3⟩
    have B3 := Lib.hid (B1.out.trans (hb3.mono B1.out.size)); clear hb3
    go_wp2_with fail
    refine (KP.out _).mono ?_
    rintro e w4 ⟨v4, rfl, ho4, hb4⟩
    have O4 := Lib.hid ho4; have B4 := Lib.hid hb4; clear ho4 hb4
    go_wp2
    go_returns
    exact Ans.later B3.out ⟨_, rfl, O4.out, B4.out⟩
end Go.Proofs.Ytnpfnfenkklocaa
