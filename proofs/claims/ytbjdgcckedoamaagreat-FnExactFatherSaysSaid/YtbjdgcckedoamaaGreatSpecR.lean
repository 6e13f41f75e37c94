/-
  Contracts of spec.ParseFormula, Negate, Conjoin, Known, After.
-/
import Derived.Test.YtbjdgcckedoamaaGreatZSpe
import Derived.Test.YtbjdgcckedoamaaGreatZCmb
namespace Go.Proofs.YtbjdgcckedoamaaGreat
open Go.RowKit
open Go Go.Deep

set_option maxRecDepth 100000 in
set_option maxHeartbeats 8000000 in
theorem specParse_text (S : ByteArray) (w : World) :
    Calls Tryz.prog 13 #[.string S] w (Ans w (parsed S.data.toList)) := by
  have hL : S.data.toList.length = S.size := rfl
  have hsec := parsed_second (l := S.data.toList) (f := S.size + 1) (by omega)
  by_cases hbig : 80 < S.size
  · have hp : parsed S.data.toList = none := by
      rcases hsec with ⟨h, _⟩ | ⟨_, h⟩
      · omega
      · exact h
    rw [hp]
    clear hsec hp hL
    go_enter Tryz.func13, Tryz.ntmps13
    go_wp2
    go_returns
    exact Ans.none_of (Below.refl _ _)
  have KP := fun W v (ho : W.ownsRow w.heap.size 78 4 v ([] : List Nd).length (ndCells [])) hb => specParseAt_any S (by omega) (S.size + 1) 0 W v [] w.heap.size (Nat.zero_le _) (by omega) (Nat.le_refl _) ho hb
  rw [List.drop_zero] at KP
  have hown : Hid ((w.alloc (.cells #[] 78)).ownsRow w.heap.size 78 4 (.slice (some ⟨w.heap.size, 0, none⟩) 0 0) 0 []) :=
    Lib.hid ⟨rfl, .inr ⟨w.heap.size, 0, #[], rfl, Nat.le_refl _, heap_alloc_new w _, Nat.le_refl _, by decide, rfl, rfl⟩⟩
  have hsn : (S.size : Int) ≤ 80 := by omega
  cases hr : sP (S.size + 1) [] S.data.toList with
  | none =>
    have hp : parsed S.data.toList = none := by
      rcases hsec with ⟨_, ys, h, _⟩ | ⟨_, h⟩
      · rw [hr] at h; cases h
      · exact h
    rw [hp]
    rw [hr] at KP
    have KP := Lib.hid KP
    clear hsec hp hL hr hbig
    go_enter Tryz.func13, Tryz.ntmps13
    go_wp2_with fail
    refine (KP.out _ _ hown.out (by simp)).mono ?_
    intro e w1 h1
    obtain ⟨v1, rfl, hb1⟩ := h1
    have B1 := Lib.hid (((Below.refl w.heap.size w).alloc (Nat.le_refl _) _).trans hb1)
    clear hb1
    have hne : ((-1 : Int) == (S.size : Int)) = false := by simp <;> omega
    have hne' : ((-1 : Int) != (S.size : Int)) = true := by simp <;> omega
    go_wp2
    go_returns
    exact Ans.none_of B1.out
  | some p =>
    obtain ⟨ys, l'⟩ := p
    rw [hr] at KP
    have KP := Lib.hid KP
    have KO := fun v W (h : Ns W v ys) => specForm_any v ys W h
    by_cases hl : l' = []
    · subst hl
      cases hf : formOk ys with
      | false =>
        have hp : parsed S.data.toList = none := by
          rcases hsec with ⟨_, zs, h, hz, _⟩ | ⟨_, h⟩
          · rw [hr] at h
            simp only [Option.some.injEq, Prod.mk.injEq, and_true] at h
            rw [h, hz] at hf; cases hf
          · exact h
        rw [hp]
        rw [hf] at KO
        have KO := Lib.hid KO
        clear hsec hp hr hbig hf
        go_enter Tryz.func13, Tryz.ntmps13
        go_wp2_with fail
        refine (KP.out _ _ hown.out (by simp)).mono ?_
        intro e w1 h1
        obtain ⟨v1, a1, rfl, hd1, ha1, _, _, ho1, hg1⟩ := h1
        have hae : a1 = S.size := by
          have := congrArg List.length hd1
          rw [List.length_drop, hL] at this
          simp at this
          omega
        subst hae
        have N1 := Lib.hid (Ns.of_own ho1)
        have B1 := Lib.hid (((Below.refl w.heap.size w).alloc (Nat.le_refl _) _).trans (hg1.below (by simp) (fun k hk => (hown.out.lt k hk).1)))
        clear hd1 ho1 hg1 hL
        go_wp2_with fail
        refine (KO.out _ _ N1.out).mono ?_
        rintro e w2 ⟨rfl, hb2⟩
        have B2 := Lib.hid (B1.out.trans (hb2.mono B1.out.size)); clear hb2
        go_wp2
        go_returns
        exact Ans.none_of B2.out
      | true =>
        have hp : parsed S.data.toList = some ys := by
          rcases hsec with ⟨_, zs, h, hz, h'⟩ | ⟨h, _⟩
          · rw [hr] at h
            simp only [Option.some.injEq, Prod.mk.injEq, and_true] at h
            rw [h', h]
          · rcases h with h | h
            · omega
            · rw [h ys hr] at hf; cases hf
        rw [hp]
        rw [hf] at KO
        have KO := Lib.hid KO
        clear hsec hp hr hbig hf
        go_enter Tryz.func13, Tryz.ntmps13
        go_wp2_with fail
        refine (KP.out _ _ hown.out (by simp)).mono ?_
        intro e w1 h1
        obtain ⟨v1, a1, rfl, hd1, ha1, _, _, ho1, hg1⟩ := h1
        have hae : a1 = S.size := by
          have := congrArg List.length hd1
          rw [List.length_drop, hL] at this
          simp at this
          omega
        subst hae
        have O1 := Lib.hid ho1
        have N1 := Lib.hid (Ns.of_own ho1)
        have B1 := Lib.hid (((Below.refl w.heap.size w).alloc (Nat.le_refl _) _).trans (hg1.below (by simp) (fun k hk => (hown.out.lt k hk).1)))
        clear hd1 ho1 hg1 hL
        go_wp2_with fail
        refine (KO.out _ _ N1.out).mono ?_
        rintro e w2 ⟨rfl, hb2⟩
        have O2 := Lib.hid (own_below O1.out hb2 (Nat.le_refl _))
        have B2 := Lib.hid (B1.out.trans (hb2.mono B1.out.size)); clear hb2
        go_wp2
        go_returns
        exact ⟨_, rfl, O2.out, B2.out⟩
    · have hp : parsed S.data.toList = none := by
        rcases hsec with ⟨_, zs, h, _⟩ | ⟨_, h⟩
        · rw [hr] at h
          simp only [Option.some.injEq, Prod.mk.injEq] at h
          exact absurd h.2 hl
        · exact h
      rw [hp]
      clear hsec hp hr hbig KO
      go_enter Tryz.func13, Tryz.ntmps13
      go_wp2_with fail
      refine (KP.out _ _ hown.out (by simp)).mono ?_
      intro e w1 h1
      obtain ⟨v1, a1, rfl, hd1, ha1, _, _, ho1, hg1⟩ := h1
      have hae : a1 ≠ S.size := by
        intro h
        subst h
        rw [List.drop_of_length_le (by rw [hL]; exact Nat.le_refl _)] at hd1
        exact hl hd1.symm
      have hne : ((a1 : Int) == (S.size : Int)) = false := by simp; omega
      have hne' : ((a1 : Int) != (S.size : Int)) = true := by simp; omega
      have B1 := Lib.hid (((Below.refl w.heap.size w).alloc (Nat.le_refl _) _).trans (hg1.below (by simp) (fun k hk => (hown.out.lt k hk).1)))
      clear hd1 ho1 hg1 hL hae hl
      go_wp2
      go_returns
      exact Ans.none_of B1.out

theorem parse_str (l : List UInt8) (w : World) : Calls Tryz.prog 13 #[.string (str l)] w (Ans w (parsed l)) := specParse_text (str l) w

end Go.Proofs.YtbjdgcckedoamaaGreat
