/-
  The nearest false world by distances; each world of the least chain is the first that is one step nearer: in mathematics. No program but its types' numbers.
-/
import Derived.Test.YthjfanhhindjlaaGreatBal
import Derived.Test.YthjfanhhindjlaaGreatFst
namespace Go.Proofs.YthjfanhhindjlaaGreat
open Go.RowKit Go.WideShapes
open Go Go.Deep
set_option linter.unusedSimpArgs false

/-- the number of steps to the nearest world where p is false, or -1 -/
def falseI (m : Md) (p : Nat → Bool) (u : Nat) : Int := match falseK m p u with | some k => (k : Int) | none => -1
def bestJ (m : Md) (p : Nat → Bool) (u : Nat) : Nat → Int
  | 0 => -1
  | j + 1 => if 0 ≤ (spreadR m u).getD j 0 ∧ p j = false ∧ (bestJ m p u j < 0 ∨ (spreadR m u).getD j 0 < bestJ m p u j) then (spreadR m u).getD j 0 else bestJ m p u j
theorem spread_at {m : Md} {u w : Nat} (hw : w < m.facts.length) : (spreadR m u).getD w 0 = match distB m u w with | some k => (k : Int) | none => -1 := by
  unfold spreadR; rw [List.getD_eq_getElem?_getD, List.getElem?_map, List.getElem?_range hw]; rfl
/-- what the best so far is -/
def bestGood (m : Md) (p : Nat → Bool) (u j : Nat) (b : Int) : Prop :=
  (b = -1 ∧ ∀ w, w < j → p w = false → distB m u w = none) ∨ ∃ k : Nat, b = (k : Int) ∧ (∃ w, w < j ∧ p w = false ∧ distB m u w = some k) ∧ ∀ w, w < j → p w = false → ∀ d, distB m u w = some d → k ≤ d
theorem best_good {m : Md} {p : Nat → Bool} {u : Nat} : ∀ j, j ≤ m.facts.length → bestGood m p u j (bestJ m p u j)
  | 0, _ => .inl ⟨rfl, fun w hw => absurd hw (Nat.not_lt_zero _)⟩
  | j + 1, hj => by
    have ih := best_good (m := m) (p := p) (u := u) j (by omega)
    have hs := spread_at (m := m) (u := u) (show j < m.facts.length by omega)
    unfold bestJ
    generalize (spreadR m u).getD j 0 = s at *
    generalize bestJ m p u j = b at *
    have hsplit : ∀ w, w < j + 1 → w < j ∨ w = j := fun w hw => by omega
    cases hd : distB m u j with
    | none =>
      rw [hd] at hs
      have hs' : s = -1 := hs
      rw [if_neg (by omega)]
      rcases ih with ⟨h1, h2⟩ | ⟨k, h1, ⟨w, hw, hp, hdw⟩, h3⟩
      · refine .inl ⟨h1, fun w hw hp => ?_⟩
        rcases hsplit w hw with h | rfl
        · exact h2 w h hp
        · exact hd
      · refine .inr ⟨k, h1, ⟨w, by omega, hp, hdw⟩, fun w' hw' hp' d hd' => ?_⟩
        rcases hsplit w' hw' with h | rfl
        · exact h3 w' h hp' d hd'
        · rw [hd] at hd'; cases hd'
    | some e =>
      rw [hd] at hs
      have hs' : s = (e : Int) := hs
      by_cases hp0 : p j = false
      · rcases ih with ⟨h1, h2⟩ | ⟨k, h1, ⟨w, hw, hp, hdw⟩, h3⟩
        · rw [if_pos ⟨by omega, hp0, .inl (by omega)⟩]
          refine .inr ⟨e, hs', ⟨j, by omega, hp0, hd⟩, fun w' hw' hp' d hd' => ?_⟩
          rcases hsplit w' hw' with h | rfl
          · rw [h2 w' h hp'] at hd'; cases hd'
          · rw [hd] at hd'; cases hd'; exact Nat.le_refl _
        · by_cases hlt : s < b
          · rw [if_pos ⟨by omega, hp0, .inr hlt⟩]
            refine .inr ⟨e, hs', ⟨j, by omega, hp0, hd⟩, fun w' hw' hp' d hd' => ?_⟩
            rcases hsplit w' hw' with h | rfl
            · have := h3 w' h hp' d hd'
              omega
            · rw [hd] at hd'; cases hd'; exact Nat.le_refl _
          · rw [if_neg (fun h => by rcases h.2.2 with h | h <;> omega)]
            refine .inr ⟨k, h1, ⟨w, by omega, hp, hdw⟩, fun w' hw' hp' d hd' => ?_⟩
            rcases hsplit w' hw' with h | rfl
            · exact h3 w' h hp' d hd'
            · rw [hd] at hd'; cases hd'; omega
      · rw [if_neg (fun h => hp0 h.2.1)]
        rcases ih with ⟨h1, h2⟩ | ⟨k, h1, ⟨w, hw, hp, hdw⟩, h3⟩
        · refine .inl ⟨h1, fun w hw hp => ?_⟩
          rcases hsplit w hw with h | rfl
          · exact h2 w h hp
          · exact absurd hp hp0
        · refine .inr ⟨k, h1, ⟨w, by omega, hp, hdw⟩, fun w' hw' hp' d hd' => ?_⟩
          rcases hsplit w' hw' with h | rfl
          · exact h3 w' h hp' d hd'
          · exact absurd hp' hp0
theorem dist_le {m : Md} (hm : mdOk m = true) {u v k : Nat} (hu : u < m.facts.length) (h : ballB m k u v = true) : ∃ d, distB m u v = some d ∧ d ≤ k := by
  cases hd : distB m u v with
  | none =>
    have := leastK_none.1 hd (m.facts.length - 1) (by omega)
    rw [ball_ends hm hu h] at this
    cases this
  | some d =>
    obtain ⟨_, _, h3⟩ := leastK_some.1 hd
    refine ⟨d, rfl, ?_⟩
    rcases Nat.lt_or_ge k d with h4 | h4
    · rw [h3 k h4] at h; cases h
    · exact h4
theorem best_false {m : Md} (hm : mdOk m = true) {p : Nat → Bool} {u : Nat} (hu : u < m.facts.length) : bestJ m p u m.facts.length = falseI m p u := by
  unfold falseI
  rcases best_good (p := p) (u := u) m.facts.length (Nat.le_refl _) with ⟨h1, h2⟩ | ⟨k, h1, ⟨w, hw, hp, hdw⟩, h3⟩
  · rw [h1, (falseK_none hm hu).2 fun k => (everyK_iff hu).2 fun v hv => by
      cases e : p v with
      | true => rfl
      | false =>
        obtain ⟨d, hd, _⟩ := dist_le hm hu hv
        rw [h2 v (ball_in hu hv) e] at hd
        cases hd]
  · have hb := (leastK_some.1 hdw).2.1
    have hk : everyK m p k u = false := by
      cases e : everyK m p k u with
      | false => rfl
      | true =>
        have := (everyK_iff hu).1 e w hb
        rw [hp] at this; cases this
    rw [h1, falseK_of hm hu hk fun j hj => (everyK_iff hu).2 fun v hv => by
      cases e : p v with
      | true => rfl
      | false =>
        obtain ⟨d, hd, hdj⟩ := dist_le hm hu hv
        have := h3 v (ball_in hu hv) e d hd
        omega]
/-- each next world of the chain is the first near one that is one step nearer to a false one -/
theorem chain_step {m : Md} (hm : mdOk m = true) {p : Nat → Bool} : ∀ {k u : Nat}, u < m.facts.length → falseK m p u = some k → ∀ i, i < k →
    (chainK m p k u).getD i 0 < m.facts.length ∧ falseK m p ((chainK m p k u).getD i 0) = some (k - i) ∧ (chainK m p k u).getD (i + 1) 0 < m.facts.length ∧
      nearM m ((chainK m p k u).getD i 0) ((chainK m p k u).getD (i + 1) 0) = true ∧ falseK m p ((chainK m p k u).getD (i + 1) 0) = some (k - i - 1) ∧
      ∀ y, y < (chainK m p k u).getD (i + 1) 0 → (nearM m ((chainK m p k u).getD i 0) y && decide (falseK m p y = some (k - i - 1))) = false
  | 0, _, _, _, i, hi => absurd hi (Nat.not_lt_zero _)
  | k + 1, u, hu, h, i, hi => by
    obtain ⟨x, e, hx, hn, hf⟩ := chain_next hm hu h
    have h4 := (chain_good hm hx hf).2.2.2
    have hc : chainK m p (k + 1) u = u :: chainK m p k x := by
      show u :: chainK m p k ((List.find? (fun x => nearM m u x && decide (falseK m p x = some k)) (List.range m.facts.length)).getD 0) = _
      rw [e]; rfl
    rw [hc]
    cases i with
    | zero =>
      rw [List.getD_cons_zero, List.getD_cons_succ, h4]
      refine ⟨hu, h, hx, hn, hf, fun y hy => ?_⟩
      have := (List.find?_range_eq_some.1 e).2.2 y hy
      rw [Bool.not_eq_true'] at this
      exact this
    | succ i =>
      rw [List.getD_cons_succ, List.getD_cons_succ]
      have := chain_step hm hx hf i (by omega)
      rw [show k + 1 - (i + 1) = k - i by omega]
      exact this
/-- the same by what all know: among near worlds the first where it is false within so many steps -/
theorem chain_first {m : Md} (hm : mdOk m = true) {p : Nat → Bool} {k u : Nat} (hu : u < m.facts.length) (h : falseK m p u = some k) {i : Nat} (hi : i < k) {q : Nat → Bool}
    (hq : ∀ x, x < m.facts.length → q x = (!(everyK m p (k - i - 1) x) && nearM m ((chainK m p k u).getD i 0) x)) (hqn : ∀ x, q x = true → x < m.facts.length) : headL q = (chainK m p k u).getD (i + 1) 0 ∧ q ((chainK m p k u).getD (i + 1) 0) = true := by
  obtain ⟨h1, h2, h3, h4, h5, h6⟩ := chain_step hm hu h i hi
  have hn16 := (mdOk_parts hm).2.1
  generalize (chainK m p k u).getD i 0 = c at *
  generalize (chainK m p k u).getD (i + 1) 0 = y at *
  have hy : q y = true := by rw [hq y h3, h4, (falseK_some hm h3 h5).1]; rfl
  refine ⟨?_, hy⟩
  obtain ⟨a1, a2, a3⟩ := headL_at (by omega : y < 16) hy
  rcases Nat.lt_trichotomy (headL q) y with e | e | e
  · have hzn := hqn _ a2
    have hz := a2
    rw [hq _ hzn, Bool.and_eq_true, Bool.not_eq_true'] at hz
    have h7 := h6 _ e
    rw [hz.2, Bool.true_and, decide_eq_false_iff_not] at h7
    cases hfz : falseK m p (headL q) with
    | none => rw [(falseK_none hm hzn).1 hfz] at hz; exact absurd hz.1 (by decide)
    | some j =>
      have hj1 : k - i - 1 ≤ j := (falseK_step hm h1 (show falseK m p c = some (k - i - 1 + 1) by rw [h2]; congr 1; omega)).2 _ hzn hz.2 j hfz
      have hj2 : j ≤ k - i - 1 := by
        rcases Nat.lt_or_ge (k - i - 1) j with h8 | h8
        · rw [(falseK_some hm hzn hfz).2.1 _ h8] at hz; exact absurd hz.1 (by decide)
        · exact h8
      exact absurd (by rw [hfz]; congr 1; omega) h7
  · exact e
  · rw [a3 y e] at hy; cases hy
end Go.Proofs.YthjfanhhindjlaaGreat
