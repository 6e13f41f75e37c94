/-
  Contract of impl.ParseFormula and the walk of the law FnExactParseFormula. No condition on the law.
-/
import Derived.Test.YtcdccdcalmnocaaReadT
import Derived.Test.YtcdccdcalmnocaaSpecR
namespace Go.Proofs.Ytcdccdcalmnocaa
open Go.RowKit
open Go Go.Deep

theorem Rd.start (w : World) (l : List UInt8) : Rd (w.alloc (.cells #[.string (str l), .int .i64 0] 61)) w.heap.size l 0 :=
  World.rowIs_alloc w #[.string (str l), .int .i64 0] 61 _ (fun i hi => by
    have hi : i < 2 := hi
    have : i = 0 ∨ i = 1 := by omega
    rcases this with rfl | rfl <;> rfl)
theorem parsed_none {l : List UInt8} (h : iP 41 0 l = none) : parsed l = none := by unfold parsed readAll; rw [h]; rfl
theorem parsed_more {l r : List UInt8} {t : Tm} {k : Nat} (h : iP 41 0 l = some (t, r, k)) (hr : r ≠ []) : parsed l = none := by
  unfold parsed readAll
  rw [h]
  cases r with
  | nil => exact absurd rfl hr
  | cons a r => rfl
theorem parsed_all {l : List UInt8} {t : Tm} {k : Nat} (h : iP 41 0 l = some (t, [], k)) : parsed l = combL t ∧ t.size ≤ 40 := by
  obtain ⟨h1, h2, h3, h4⟩ := iP_some _ _ _ _ _ _ (by omega) h
  rw [List.append_nil] at h2
  subst h2
  exact ⟨(combL_wf h1).symm, by omega⟩
theorem str_list (S : ByteArray) : str S.data.toList = S := by
  apply ByteArray.ext
  simp [str]

set_option maxRecDepth 100000 in
set_option maxHeartbeats 4000000 in
theorem implParseF_any (l : List UInt8) (w : World) (hl : l.length ≤ maxLen) : Calls Try.prog 21 #[.string (str l)] w (Ans w (parsed l)) := by
  have KR := fun W h => readTerm_any 41 w.heap.size 0 l W h hl (by omega) (by omega)
  have R0 := Lib.hid (Rd.start w l)
  cases hi : iP 41 0 l with
  | none =>
    rw [parsed_none hi]
    rw [hi] at KR
    have KR := Lib.hid KR
    clear hi hl
    go_enter Try.func21, Try.ntmps21
    go_wp2_with fail
    refine (KR.out _ R0.out).mono ?_
    rintro e w1 ⟨l1, k1, hr1, hg1, rfl⟩
    have B1 := Lib.hid (((Below.refl w.heap.size w).alloc (Nat.le_refl _) _).grown hg1 (by simp) (fun k hk => by cases hk; exact Nat.le_refl _))
    obtain ⟨c0, c1, f0, f1⟩ := hr1.cells
    clear hr1 hg1
    go_wp2
    go_returns
    exact Ans.none_of B1.out
  | some p =>
    obtain ⟨t, r, k⟩ := p
    rw [hi] at KR
    have KR := Lib.hid KR
    cases r with
    | nil =>
      obtain ⟨hp, hs⟩ := parsed_all hi
      rw [hp]
      have KF := Lib.hid (fun W => formulaOf_any t W (by omega))
      have hx : (str []).toList = [] := by simp [str]
      have hx2 : (str []).toList.isEmpty = true := by simp [str]
      clear hi hl hp hs
      generalize combL t = r at *
      go_enter Try.func21, Try.ntmps21
      go_wp2_with fail
      refine (KR.out _ R0.out).mono ?_
      rintro e w1 ⟨l1, k1, hr1, hg1, rfl, rfl, rfl⟩
      have B1 := Lib.hid (((Below.refl w.heap.size w).alloc (Nat.le_refl _) _).grown hg1 (by simp) (fun k hk => by cases hk; exact Nat.le_refl _))
      obtain ⟨c0, c1, f0, f1⟩ := hr1.cells
      clear hr1 hg1
      go_wp2_with fail
      refine (KF.out _).mono ?_
      rintro e w2 ⟨v2, rfl, ho2, hb2⟩
      have O2 := Lib.hid ho2; have B2 := Lib.hid hb2; clear ho2 hb2
      go_wp2
      go_returns
      exact Ans.later B1.out ⟨_, rfl, O2.out, B2.out⟩
    | cons c r =>
      rw [parsed_more hi (by simp)]
      have hx : (str (c :: r)).toList.isEmpty = false := by simp [str]
      have hx' : ¬ (str (c :: r)).toList = [] := by simp [str]
      clear hi hl
      go_enter Try.func21, Try.ntmps21
      go_wp2_with fail
      refine (KR.out _ R0.out).mono ?_
      rintro e w1 ⟨l1, k1, hr1, hg1, rfl, rfl, rfl⟩
      have B1 := Lib.hid (((Below.refl w.heap.size w).alloc (Nat.le_refl _) _).grown hg1 (by simp) (fun k hk => by cases hk; exact Nat.le_refl _))
      obtain ⟨c0, c1, f0, f1⟩ := hr1.cells
      clear hr1 hg1
      go_wp2
      go_returns
      exact Ans.none_of B1.out

set_option maxRecDepth 100000 in
set_option maxHeartbeats 8000000 in
theorem walk_FnExactParseFormula (a0 : ByteArray) (w : World) (_w0 : a0.size ≤ maxLen) :
    Calls Try.prog 5 #[.string a0] w fun e w' => e = .returned (.bool true) ∧ Below w.heap.size w w' := by
  by_cases h : 1048576 < a0.size
  · go_enter Try.func5, Try.ntmps5
    go_wp2
    go_ret
    exact ⟨rfl, Below.refl _ _⟩
  have KS := fun W => specParse_text a0 W
  have KI := fun W => implParseF_any a0.data.toList W _w0
  rw [str_list] at KI
  have hr : ((parsed a0.data.toList).getD []).length ≤ 40 := by
    unfold parsed
    cases hra : readAll a0.data.toList with
    | none => simp
    | some T =>
      have := (readAll_some hra).2.2
      simp only [Option.map_some, Option.getD_some, lay_len]; omega
  generalize parsed a0.data.toList = r at *
  have KS := Lib.hid KS
  have KI := Lib.hid KI
  go_enter Try.func5, Try.ntmps5
  go_wp2_with fail
  refine (KS.out _).mono ?_
  rintro e w2 ⟨v2, rfl, ho2, hb2⟩
  have N2 := Lib.hid (Ns.of_own ho2)
  have B2 := Lib.hid hb2; clear hb2 ho2
  go_wp2_with fail
  refine (KI.out _).mono ?_
  rintro e w4 ⟨v4, rfl, ho4, hb4⟩
  have O4 := Lib.hid ho4
  have C4 := Lib.hid hb4; have B4 := Lib.hid (B2.out.trans (hb4.mono B2.out.size)); clear ho4 hb4
  go_wp2_with fail
  refine (eqNodeS_same _ _ _ _ (Ns.of_own O4.out) (N2.out.below C4.out (Nat.le_refl _))).mono ?_
  rintro e w5 ⟨rfl, hb5⟩
  have O5 := Lib.hid (own_below O4.out hb5 (Nat.le_refl _))
  have C5 := Lib.hid (C4.out.trans (hb5.mono C4.out.size)); have B5 := Lib.hid (B4.out.trans (hb5.mono B4.out.size)); clear hb5
  go_wp2_with fail
  refine (markNodeS_own w2.heap.size _ _ _ 1 _ (by omega) (by omega) (by omega) O5.out).mono ?_
  rintro e w10 ⟨rfl, ho10, hb10⟩
  have N10 := Lib.hid (Ns.of_own ho10)
  have C10 := Lib.hid (C5.out.trans hb10); have B10 := Lib.hid (B5.out.trans (hb10.mono B2.out.size)); clear ho10 hb10
  go_wp2_with fail
  refine (heldNodeS_any _ _ 1 _ (by omega) (by omega) (by omega) N10.out).mono ?_
  rintro e w' ⟨rfl, rfl⟩
  go_wp2_with fail
  refine (KI.out _).mono ?_
  rintro e w12 ⟨v12, rfl, ho12, hb12⟩
  have O12 := Lib.hid ho12
  have N12 := Lib.hid (N10.out.below hb12 (Nat.le_refl _))
  have C12 := Lib.hid (C10.out.trans (hb12.mono C10.out.size)); have B12 := Lib.hid (B10.out.trans (hb12.mono B10.out.size)); clear ho12 hb12
  go_wp2_with fail
  refine (eqNodeS_same _ _ _ _ (Ns.of_own O12.out) (N2.out.below C12.out (Nat.le_refl _))).mono ?_
  rintro e w13 ⟨rfl, hb13⟩
  have N13 := Lib.hid (N12.out.below hb13 (Nat.le_refl _))
  have B13 := Lib.hid (B12.out.trans (hb13.mono B12.out.size)); clear hb13
  go_wp2_with fail
  refine (heldNodeS_any _ _ 1 _ (by omega) (by omega) (by omega) N13.out).mono ?_
  rintro e w' ⟨rfl, rfl⟩
  go_wp2
  go_ret
  exact ⟨rfl, B13.out⟩
end Go.Proofs.Ytcdccdcalmnocaa
