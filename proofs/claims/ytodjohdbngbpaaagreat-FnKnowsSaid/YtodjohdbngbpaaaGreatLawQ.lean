/-
  Contract of impl.ParseFormula and the walk of the law FnExactParseFormula. No condition on the law.
-/
import Derived.Test.YtodjohdbngbpaaaGreatReadT
import Derived.Test.YtodjohdbngbpaaaGreatSpecR
namespace Go.Proofs.YtodjohdbngbpaaaGreat
open Go.RowKit
open Go Go.Deep

theorem Rd.start (w : World) (l : List UInt8) : Rd (w.alloc (.cells #[.string (str l), .int .i64 0] 73)) w.heap.size l 0 :=
  World.rowIs_alloc w #[.string (str l), .int .i64 0] 73 _ (fun i hi => by
    have hi : i < 2 := hi
    have : i = 0 ∨ i = 1 := by omega
    rcases this with rfl | rfl <;> rfl)
theorem parsed_none {l : List UInt8} (h : iP 41 0 l = none) : parsed l = none := by unfold parsed readAll; rw [h]; rfl
theorem parsed_more {l r : List UInt8} {t : Tm} {k : Nat} (h : iP 41 0 l = some (t, r, k)) (hr : r ≠ []) : parsed l = none := by
  unfold parsed readAll
  rw [h]
  cases r with
  | nil => exact absurd rfl hr
  | cons a r => rfl
theorem parsed_all {l : List UInt8} {t : Tm} {k : Nat} (h : iP 41 0 l = some (t, [], k)) : parsed l = combL t ∧ t.size ≤ 40 := by
  obtain ⟨h1, h2, h3, h4⟩ := iP_some _ _ _ _ _ _ (by omega) h
  rw [List.append_nil] at h2
  subst h2
  exact ⟨(combL_wf h1).symm, by omega⟩
set_option maxRecDepth 100000 in
set_option maxHeartbeats 4000000 in
theorem implParseF_any (l : List UInt8) (w : World) (hl : l.length ≤ maxLen) : Calls Tryz.prog 14 #[.string (str l)] w (Ans w (parsed l)) := by
  have KR := fun W h => readTerm_any 41 w.heap.size 0 l W h hl (by omega) (by omega)
  have R0 := Lib.hid (Rd.start w l)
  cases hi : iP 41 0 l with
  | none =>
    rw [parsed_none hi]
    rw [hi] at KR
    have KR := Lib.hid KR
    clear hi hl
    go_enter Tryz.func14, Tryz.ntmps14
    go_wp2_with fail
    refine (KR.out _ R0.out).mono ?_
    rintro e w1 ⟨l1, k1, hr1, hg1, rfl⟩
    have B1 := Lib.hid (((Below.refl w.heap.size w).alloc (Nat.le_refl _) _).grown hg1 (by simp) (fun k hk => by cases hk; exact Nat.le_refl _))
    obtain ⟨c0, c1, f0, f1⟩ := hr1.cells
    clear hr1 hg1
    go_wp2
    go_returns
    exact Ans.none_of B1.out
  | some p =>
    obtain ⟨t, r, k⟩ := p
    rw [hi] at KR
    have KR := Lib.hid KR
    cases r with
    | nil =>
      obtain ⟨hp, hs⟩ := parsed_all hi
      rw [hp]
      have KF := Lib.hid (fun W => formulaOf_any t W (by omega))
      have hx : (str []).toList = [] := by simp [str]
      have hx2 : (str []).toList.isEmpty = true := by simp [str]
      clear hi hl hp hs
      generalize combL t = r at *
      go_enter Tryz.func14, Tryz.ntmps14
      go_wp2_with fail
      refine (KR.out _ R0.out).mono ?_
      rintro e w1 ⟨l1, k1, hr1, hg1, rfl, rfl, rfl⟩
      have B1 := Lib.hid (((Below.refl w.heap.size w).alloc (Nat.le_refl _) _).grown hg1 (by simp) (fun k hk => by cases hk; exact Nat.le_refl _))
      obtain ⟨c0, c1, f0, f1⟩ := hr1.cells
      clear hr1 hg1
      go_wp2_with fail
      refine (KF.out _).mono ?_
      rintro e w2 ⟨v2, rfl, ho2, hb2⟩
      have O2 := Lib.hid ho2; have B2 := Lib.hid hb2; clear ho2 hb2
      go_wp2
      go_returns
      exact Ans.later B1.out ⟨_, rfl, O2.out, B2.out⟩
    | cons c r =>
      rw [parsed_more hi (by simp)]
      have hx : (str (c :: r)).toList.isEmpty = false := by simp [str]
      have hx' : ¬ (str (c :: r)).toList = [] := by simp [str]
      clear hi hl
      go_enter Tryz.func14, Tryz.ntmps14
      go_wp2_with fail
      refine (KR.out _ R0.out).mono ?_
      rintro e w1 ⟨l1, k1, hr1, hg1, rfl, rfl, rfl⟩
      have B1 := Lib.hid (((Below.refl w.heap.size w).alloc (Nat.le_refl _) _).grown hg1 (by simp) (fun k hk => by cases hk; exact Nat.le_refl _))
      obtain ⟨c0, c1, f0, f1⟩ := hr1.cells
      clear hr1 hg1
      go_wp2
      go_returns
      exact Ans.none_of B1.out

end Go.Proofs.YtodjohdbngbpaaaGreat
