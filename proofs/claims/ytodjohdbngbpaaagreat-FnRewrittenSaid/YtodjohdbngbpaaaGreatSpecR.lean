/-
  Contracts of spec.ParseFormula, Negate, Conjoin, Known, After.
-/
import Derived.Test.YtodjohdbngbpaaaGreatZSpe
import Derived.Test.YtodjohdbngbpaaaGreatZCmb
namespace Go.Proofs.YtodjohdbngbpaaaGreat
open Go.RowKit
open Go Go.Deep

set_option maxRecDepth 100000 in
set_option maxHeartbeats 8000000 in
theorem specParse_text (S : ByteArray) (w : World) :
    Calls Tryz.prog 70 #[.string S] w (Ans w (parsed S.data.toList)) := by
  have hL : S.data.toList.length = S.size := rfl
  have hsec := parsed_second (l := S.data.toList) (f := S.size + 1) (by omega)
  by_cases hbig : 80 < S.size
  · have hp : parsed S.data.toList = none := by
      rcases hsec with ⟨h, _⟩ | ⟨_, h⟩
      · omega
      · exact h
    rw [hp]
    clear hsec hp hL
    go_enter Tryz.func70, Tryz.ntmps70
    go_wp2
    go_returns
    exact Ans.none_of (Below.refl _ _)
  have KP := fun W v (ho : W.ownsRow w.heap.size 112 4 v ([] : List Nd).length (ndCells [])) hb => specParseAt_any S (by omega) (S.size + 1) 0 W v [] w.heap.size (Nat.zero_le _) (by omega) (Nat.le_refl _) ho hb
  rw [List.drop_zero] at KP
  have hown : Hid ((w.alloc (.cells #[] 112)).ownsRow w.heap.size 112 4 (.slice (some ⟨w.heap.size, 0, none⟩) 0 0) 0 []) :=
    Lib.hid ⟨rfl, .inr ⟨w.heap.size, 0, #[], rfl, Nat.le_refl _, heap_alloc_new w _, Nat.le_refl _, by decide, rfl, rfl⟩⟩
  have hsn : (S.size : Int) ≤ 80 := by omega
  cases hr : sP (S.size + 1) [] S.data.toList with
  | none =>
    have hp : parsed S.data.toList = none := by
      rcases hsec with ⟨_, ys, h, _⟩ | ⟨_, h⟩
      · rw [hr] at h; cases h
      · exact h
    rw [hp]
    rw [hr] at KP
    have KP := Lib.hid KP
    clear hsec hp hL hr hbig
    go_enter Tryz.func70, Tryz.ntmps70
    go_wp2_with fail
    refine (KP.out _ _ hown.out (by simp)).mono ?_
    intro e w1 h1
    obtain ⟨v1, rfl, hb1⟩ := h1
    have B1 := Lib.hid (((Below.refl w.heap.size w).alloc (Nat.le_refl _) _).trans hb1)
    clear hb1
    have hne : ((-1 : Int) == (S.size : Int)) = false := by simp <;> omega
    have hne' : ((-1 : Int) != (S.size : Int)) = true := by simp <;> omega
    go_wp2
    go_returns
    exact Ans.none_of B1.out
  | some p =>
    obtain ⟨ys, l'⟩ := p
    rw [hr] at KP
    have KP := Lib.hid KP
    have KO := fun v W (h : Ns W v ys) => specForm_any v ys W h
    by_cases hl : l' = []
    · subst hl
      cases hf : formOk ys with
      | false =>
        have hp : parsed S.data.toList = none := by
          rcases hsec with ⟨_, zs, h, hz, _⟩ | ⟨_, h⟩
          · rw [hr] at h
            simp only [Option.some.injEq, Prod.mk.injEq, and_true] at h
            rw [h, hz] at hf; cases hf
          · exact h
        rw [hp]
        rw [hf] at KO
        have KO := Lib.hid KO
        clear hsec hp hr hbig hf
        go_enter Tryz.func70, Tryz.ntmps70
        go_wp2_with fail
        refine (KP.out _ _ hown.out (by simp)).mono ?_
        intro e w1 h1
        obtain ⟨v1, a1, rfl, hd1, ha1, _, _, ho1, hg1⟩ := h1
        have hae : a1 = S.size := by
          have := congrArg List.length hd1
          rw [List.length_drop, hL] at this
          simp at this
          omega
        subst hae
        have N1 := Lib.hid (Ns.of_own ho1)
        have B1 := Lib.hid (((Below.refl w.heap.size w).alloc (Nat.le_refl _) _).trans (hg1.below (by simp) (fun k hk => (hown.out.lt k hk).1)))
        clear hd1 ho1 hg1 hL
        go_wp2_with fail
        refine (KO.out _ _ N1.out).mono ?_
        rintro e w2 ⟨rfl, hb2⟩
        have B2 := Lib.hid (B1.out.trans (hb2.mono B1.out.size)); clear hb2
        go_wp2
        go_returns
        exact Ans.none_of B2.out
      | true =>
        have hp : parsed S.data.toList = some ys := by
          rcases hsec with ⟨_, zs, h, hz, h'⟩ | ⟨h, _⟩
          · rw [hr] at h
            simp only [Option.some.injEq, Prod.mk.injEq, and_true] at h
            rw [h', h]
          · rcases h with h | h
            · omega
            · rw [h ys hr] at hf; cases hf
        rw [hp]
        rw [hf] at KO
        have KO := Lib.hid KO
        clear hsec hp hr hbig hf
        go_enter Tryz.func70, Tryz.ntmps70
        go_wp2_with fail
        refine (KP.out _ _ hown.out (by simp)).mono ?_
        intro e w1 h1
        obtain ⟨v1, a1, rfl, hd1, ha1, _, _, ho1, hg1⟩ := h1
        have hae : a1 = S.size := by
          have := congrArg List.length hd1
          rw [List.length_drop, hL] at this
          simp at this
          omega
        subst hae
        have O1 := Lib.hid ho1
        have N1 := Lib.hid (Ns.of_own ho1)
        have B1 := Lib.hid (((Below.refl w.heap.size w).alloc (Nat.le_refl _) _).trans (hg1.below (by simp) (fun k hk => (hown.out.lt k hk).1)))
        clear hd1 ho1 hg1 hL
        go_wp2_with fail
        refine (KO.out _ _ N1.out).mono ?_
        rintro e w2 ⟨rfl, hb2⟩
        have O2 := Lib.hid (own_below O1.out hb2 (Nat.le_refl _))
        have B2 := Lib.hid (B1.out.trans (hb2.mono B1.out.size)); clear hb2
        go_wp2
        go_returns
        exact ⟨_, rfl, O2.out, B2.out⟩
    · have hp : parsed S.data.toList = none := by
        rcases hsec with ⟨_, zs, h, _⟩ | ⟨_, h⟩
        · rw [hr] at h
          simp only [Option.some.injEq, Prod.mk.injEq] at h
          exact absurd h.2 hl
        · exact h
      rw [hp]
      clear hsec hp hr hbig KO
      go_enter Tryz.func70, Tryz.ntmps70
      go_wp2_with fail
      refine (KP.out _ _ hown.out (by simp)).mono ?_
      intro e w1 h1
      obtain ⟨v1, a1, rfl, hd1, ha1, _, _, ho1, hg1⟩ := h1
      have hae : a1 ≠ S.size := by
        intro h
        subst h
        rw [List.drop_of_length_le (by rw [hL]; exact Nat.le_refl _)] at hd1
        exact hl hd1.symm
      have hne : ((a1 : Int) == (S.size : Int)) = false := by simp; omega
      have hne' : ((a1 : Int) != (S.size : Int)) = true := by simp; omega
      have B1 := Lib.hid (((Below.refl w.heap.size w).alloc (Nat.le_refl _) _).trans (hg1.below (by simp) (fun k hk => (hown.out.lt k hk).1)))
      clear hd1 ho1 hg1 hL hae hl
      go_wp2
      go_returns
      exact Ans.none_of B1.out

theorem parse_str (l : List UInt8) (w : World) : Calls Tryz.prog 70 #[.string (str l)] w (Ans w (parsed l)) := specParse_text (str l) w

set_option maxRecDepth 100000 in
set_option maxHeartbeats 4000000 in
theorem specAfter_any (u v : Value) (xs ys : List Nd) (w : World) (hu : Ns w u xs) (hv : Ns w v ys) :
    Calls Tryz.prog 96 #[u, v] w (Ans w (if formOk xs && formOk ys then combL (.joint 9 (termOfL xs) (termOfL ys)) else none)) := by
  have K1 := Lib.hid (fun W (h : Below w.heap.size w W) => specForm_any u xs W (hu.below h (Nat.le_refl _)))
  have K2 := Lib.hid (fun W (h : Below w.heap.size w W) => specFormat2_any xs u W (hu.below h (Nat.le_refl _)))
  have J1 := Lib.hid (fun W (h : Below w.heap.size w W) => specForm_any v ys W (hv.below h (Nat.le_refl _)))
  have J2 := Lib.hid (fun W (h : Below w.heap.size w W) => specFormat2_any ys v W (hv.below h (Nat.le_refl _)))
  clear hu hv
  cases hf : formOk xs with
  | false =>
    rw [Bool.false_and, if_neg (by decide)]
    rw [hf] at K1
    clear hf K2 J1 J2
    go_enter Tryz.func96, Tryz.ntmps96
    go_wp2_with fail
    refine (K1.out _ (Below.refl _ _)).mono ?_
    rintro e w1 ⟨rfl, hb1⟩
    have B1 := Lib.hid hb1; clear hb1
    go_wp2
    go_returns
    exact Ans.none_of B1.out
  | true =>
    rw [Bool.true_and]
    rw [show textL xs = str (txt (termOfL xs)) by unfold textL; rw [hf]; rfl] at K2
    rw [hf] at K1
    have hw := termOfL_wf hf
    have hsz := termOfL_size hf
    clear hf
    generalize termOfL xs = T at *
    cases hf : formOk ys with
    | false =>
      rw [if_neg (by decide)]
      rw [hf] at J1
      clear hf K2 J2 hw hsz
      go_enter Tryz.func96, Tryz.ntmps96
      go_wp2_with fail
      refine (K1.out _ (Below.refl _ _)).mono ?_
      rintro e w1 ⟨rfl, hb1⟩
      have B1 := Lib.hid hb1; clear hb1
      go_wp2_with fail
      refine (J1.out _ B1.out).mono ?_
      rintro e w2 ⟨rfl, hb2⟩
      have B2 := Lib.hid (B1.out.trans (hb2.mono B1.out.size)); clear hb2
      go_wp2
      go_returns
      exact Ans.none_of B2.out
    | true =>
      rw [if_pos rfl]
      rw [show textL ys = str (txt (termOfL ys)) by unfold textL; rw [hf]; rfl] at J2
      rw [hf] at J1
      have hw' := termOfL_wf hf
      have hsz' := termOfL_size hf
      clear hf
      generalize termOfL ys = U at *
      rw [combL_wf (t := .joint 9 T U) ⟨by decide, hw, hw'⟩]
      have KP := fun W => parse_str (txt (Tm.joint 9 T U)) W
      rw [show str (txt (Tm.joint 9 T U)) = ⟨#[33]⟩ ++ str (txt T) ++ str (txt U) by
        rw [show (⟨#[33]⟩ : ByteArray) = str [33] from rfl, str_app, str_app]; rfl] at KP
      have KP := Lib.hid KP
      have hz : (str (txt T)).size ≤ 100 := by have := (txt_len T).2; rw [str_size]; omega
      have hz' : (str (txt U)).size ≤ 100 := by have := (txt_len U).2; rw [str_size]; omega
      clear hw hsz hw' hsz'
      generalize parsed (txt (Tm.joint 9 T U)) = r at *
      generalize str (txt T) = s at *
      generalize str (txt U) = t at *
      have hadd := fun W => run_string_add_sum (P := Tryz.prog) W ⟨#[33]⟩ s (by have : (⟨#[33]⟩ : ByteArray).size = 1 := rfl; omega)
      have hadd' := fun W => run_string_add_sum (P := Tryz.prog) W (⟨#[33]⟩ ++ s) t (by rw [ByteArray.size_append]; have : (⟨#[33]⟩ : ByteArray).size = 1 := rfl; omega)
      go_enter Tryz.func96, Tryz.ntmps96
      go_wp2_with fail
      refine (K1.out _ (Below.refl _ _)).mono ?_
      rintro e w1 ⟨rfl, hb1⟩
      have B1 := Lib.hid hb1; clear hb1
      go_wp2_with fail
      refine (J1.out _ B1.out).mono ?_
      rintro e w2 ⟨rfl, hb2⟩
      have B2 := Lib.hid (B1.out.trans (hb2.mono B1.out.size)); clear hb2
      go_wp2_with fail
      refine (K2.out _ B2.out).mono ?_
      rintro e w3 ⟨rfl, hb3⟩
      have B3 := Lib.hid (B2.out.trans (hb3.mono B2.out.size)); clear hb3
      go_wp2_with fail
      refine (J2.out _ B3.out).mono ?_
      rintro e w4 ⟨rfl, hb4⟩
      have B4 := Lib.hid (B3.out.trans (hb4.mono B3.out.size)); clear hb4
      go_wp2_with fail
      refine (KP.out _).mono ?_
      rintro e w5 ⟨v5, rfl, ho5, hb5⟩
      have O5 := Lib.hid ho5; have B5 := Lib.hid hb5; clear ho5 hb5
      go_wp2
      go_returns
      exact Ans.later B4.out ⟨_, rfl, O5.out, B5.out⟩

end Go.Proofs.YtodjohdbngbpaaaGreat
