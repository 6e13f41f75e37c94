/-
  What is known is true and known to be known, what is not known is known not to be known: in mathematics, with the counts of the worlds. No program but its types' numbers.
-/
import Derived.Test.YtodjohdbngbpaaaGreatTwm
import Derived.Test.YtodjohdbngbpaaaGreatFmm
namespace Go.Proofs.YtodjohdbngbpaaaGreat
open Go.RowKit Go.WideShapes
open Go Go.Deep
set_option linter.unusedSimpArgs false

/-- the worlds in which agent k knows p -/
def knowB (m : Md) (k : Nat) (p : Nat → Bool) : Nat → Bool := cut m.facts.length fun w => subB (blkB m.blocks m.facts.length k w) p
def denyB (m : Md) (p : Nat → Bool) : Nat → Bool := cut m.facts.length fun i => !p i
theorem evI_whether (m : Md) (k : Int) (t : Tm) : evI (.know 6 k t) m = cut m.facts.length fun w => subB (blkB m.blocks m.facts.length k.toNat w) (evI t m) || subB (blkB m.blocks m.facts.length k.toNat w) (denyB m (evI t m)) := rfl
theorem subB_iff {p q : Nat → Bool} : subB p q = true ↔ ∀ i, i < 16 → p i = true → q i = true := by
  unfold subB
  rw [List.all_eq_true]
  constructor
  · intro h i hi hp
    have := h i (List.mem_range.2 hi)
    rw [hp] at this
    simpa using this
  · intro h i hi
    cases hp : p i with
    | false => rfl
    | true => rw [h i (List.mem_range.1 hi) hp]; rfl
theorem blkB_self {m : Md} {k i : Nat} (hi : i < m.facts.length) : blkB m.blocks m.facts.length k i i = true := by unfold blkB; rw [cut_at hi]; simp
theorem blkB_same {m : Md} {k i j : Nat} (hj : blkB m.blocks m.facts.length k i j = true) : blkB m.blocks m.facts.length k j = blkB m.blocks m.facts.length k i := by
  unfold blkB cut at *
  simp only [Bool.and_eq_true, decide_eq_true_eq, beq_iff_eq] at hj
  rw [hj.2]
theorem know_true {m : Md} (hn : m.facts.length ≤ 16) {k i : Nat} {p : Nat → Bool} (h : knowB m k p i = true) : p i = true := by
  have hi := cut_in h
  unfold knowB at h
  rw [cut_at hi] at h
  exact subB_iff.1 h i (by omega) (blkB_self hi)
theorem know_same {m : Md} {k i j : Nat} {p : Nat → Bool} (hi : i < m.facts.length) (hj : blkB m.blocks m.facts.length k i j = true) : knowB m k p j = knowB m k p i := by
  have hjn : j < m.facts.length := cut_in hj
  unfold knowB
  rw [cut_at hi, cut_at hjn, blkB_same hj]
/-- what is the same in each block is known where it is true -/
theorem know_of_same {m : Md} (hn : m.facts.length ≤ 16) {k : Nat} {q : Nat → Bool} (hq : ∀ i, q i = true → i < m.facts.length) (hs : ∀ i j, i < m.facts.length → blkB m.blocks m.facts.length k i j = true → q j = q i) : ∀ i, knowB m k q i = q i := by
  intro i
  rw [Bool.eq_iff_iff]
  constructor
  · exact fun h => know_true hn h
  · intro h
    have hi := hq i h
    unfold knowB
    rw [cut_at hi, subB_iff]
    exact fun j _ hj => by rw [hs i j hi hj]; exact h
theorem know_know {m : Md} (hn : m.facts.length ≤ 16) (k : Nat) (p : Nat → Bool) : eqB (knowB m k p) (knowB m k (knowB m k p)) = true := by
  unfold eqB
  rw [List.all_eq_true]
  intro i _
  rw [know_of_same hn (q := knowB m k p) (fun i h => cut_in h) (fun i j hi hj => know_same hi hj) i]
  simp
theorem not_known {m : Md} (hn : m.facts.length ≤ 16) (k : Nat) (p : Nat → Bool) : eqB (denyB m (knowB m k p)) (knowB m k (denyB m (knowB m k p))) = true := by
  unfold eqB
  rw [List.all_eq_true]
  intro i _
  rw [know_of_same hn (q := denyB m (knowB m k p)) (fun i h => cut_in h) (fun i j hi hj => by
    have hjn : j < m.facts.length := cut_in hj
    unfold denyB
    rw [cut_at hi, cut_at hjn, know_same hi hj]) i]
  simp
theorem lst_or {a b c : Nat → Bool} (h : ∀ i, c i = (a i || b i)) (h2 : ∀ i, (a i && b i) = false) : ∀ k, (lst c k).length = (lst a k).length + (lst b k).length
  | 0 => rfl
  | k + 1 => by
    have ih := lst_or h h2 k
    have h1 := h k
    have h3 := h2 k
    rw [lst_succ, lst_succ, lst_succ, List.length_append, List.length_append, List.length_append, ih, h1]
    cases ha : a k <;> cases hb : b k <;> simp_all <;> omega
theorem count_deny {m : Md} (hn : m.facts.length ≤ 16) {p : Nat → Bool} (hp : ∀ i, p i = true → i < m.facts.length) : (lst p 16).length + (lst (denyB m p) 16).length = m.facts.length := by
  rw [← lst_or (c := fun i => decide (i < m.facts.length)) (a := p) (b := denyB m p) (fun i => ?_) (fun i => ?_) 16, lst_all hn, List.length_range]
  · unfold denyB cut
    cases hpi : p i with
    | false => simp [hpi]
    | true => simp [hp i hpi, hpi]
  · unfold denyB cut
    cases hpi : p i <;> simp [hpi]
theorem count_whether {m : Md} (hn : m.facts.length ≤ 16) (k : Int) (t : Tm) :
    (lst (evI (.know 6 k t) m) 16).length = (lst (knowB m k.toNat (evI t m)) 16).length + (lst (knowB m k.toNat (denyB m (evI t m))) 16).length := by
  refine lst_or (fun i => ?_) (fun i => ?_) 16
  · rw [evI_whether]
    unfold knowB cut
    cases decide (i < m.facts.length) <;> simp
  · cases h : knowB m k.toNat (evI t m) i with
    | false => rfl
    | true =>
      have h1 := know_true hn h
      cases h2 : knowB m k.toNat (denyB m (evI t m)) i with
      | false => rfl
      | true =>
        have h3 := know_true hn h2
        unfold denyB cut at h3
        simp [h1] at h3
end Go.Proofs.YtodjohdbngbpaaaGreat
