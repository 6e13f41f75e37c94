/-
  A list of hands that ascends is an announcement; it tells the second player just when no hand of his leaves two. Mathematics; no program text.
-/
import Derived.Test.YteahjnobnbafiaaDoorCdw
namespace Go.Proofs.YteahjnobnbafiaaDoor

/-- how many hands of a list have no card of b -/
def fitsN (l : List Int) (b : Nat) : Nat := (l.filter (fun h => andI h b == 0)).length
/-- no hand of the second player fits two -/
def toldB (d : Dl) (l : List Int) : Bool := (List.range (2 ^ d.n)).all (fun b => !(pop b == d.b.toNat) || decide (fitsN l b ≤ 1))

theorem annL_ok {all : List Int} : ∀ (l : List Int) (p : Option Int), l.Pairwise (· < ·) → (∀ x ∈ l, x ∈ all) → (∀ q, p = some q → ∀ x ∈ l, q < x) → annL all p l = true
  | [], _, _, _, _ => rfl
  | h :: r, p, h1, h2, h3 => by
    rw [List.pairwise_cons] at h1
    have := annL_ok r (some h) h1.2 (fun x hx => h2 x (List.mem_cons_of_mem _ hx)) (fun q e x hx => by injection e with e; subst e; exact h1.1 x hx)
    unfold annL
    rw [this, Bool.and_true, Bool.and_eq_true]
    refine ⟨hasI_iff.2 (h2 h List.mem_cons_self), ?_⟩
    cases p with
    | none => rfl
    | some q => exact decide_eq_true (h3 q rfl h List.mem_cons_self)
theorem tellL_iff {t : Int} : ∀ (l pre : List Int), tellL t pre l = true ↔ (∀ x ∈ pre, ∀ h ∈ l, (pop (andI h x) : Int) < t) ∧ l.Pairwise (fun x h => (pop (andI h x) : Int) < t)
  | [], pre => by simp [tellL]
  | h :: r, pre => by
    unfold tellL
    rw [Bool.and_eq_true, tellL_iff r, List.all_eq_true, List.pairwise_cons]
    constructor
    · rintro ⟨h1, h2, h3⟩
      refine ⟨fun x hx y hy => ?_, fun y hy => h2 h (by simp) y hy, h3⟩
      rcases List.mem_cons.1 hy with rfl | hy
      · exact of_decide_eq_true (h1 x hx)
      · exact h2 x (by simp [hx]) y hy
    · rintro ⟨h1, h2, h3⟩
      refine ⟨fun x hx => decide_eq_true (h1 x hx h List.mem_cons_self), fun x hx y hy => ?_, h3⟩
      rcases List.mem_append.1 hx with hx | hx
      · exact h1 x hx y (List.mem_cons_of_mem _ hy)
      · rw [List.mem_singleton] at hx; subst hx; exact h2 y hy
theorem fit_iff {p : Int → Bool} : ∀ (l : List Int), (l.filter p).length ≤ 1 ↔ l.Pairwise (fun x y => ¬(p x = true ∧ p y = true))
  | [] => by simp
  | h :: r => by
    rw [List.pairwise_cons, ← fit_iff r]
    cases hp : p h with
    | false => rw [List.filter_cons_of_neg (by simp [hp])]; simp
    | true =>
      rw [List.filter_cons_of_pos hp, List.length_cons]
      constructor
      · intro h1
        have h0 : (r.filter p).length = 0 := by omega
        refine ⟨fun y hy hc => ?_, by omega⟩
        rw [List.length_eq_zero_iff, List.filter_eq_nil_iff] at h0
        exact h0 y hy hc.2
      · rintro ⟨h1, -⟩
        have : r.filter p = [] := List.filter_eq_nil_iff.2 (fun y hy hc => h1 y hy ⟨rfl, hc⟩)
        rw [this]; exact Nat.le_refl _
theorem deals_asc : ∀ d ∈ dealsL, (handsR d).Pairwise (· < ·) := by decide +kernel
theorem deals_two : ∀ d ∈ dealsL, ∀ x ∈ handsR d, ∀ h ∈ handsR d, x < h → ((pop (andI h x) : Int) < d.a - d.c ↔ ∀ b < 2 ^ d.n, pop b = d.b.toNat → ¬((andI x b == 0) = true ∧ (andI h b == 0) = true)) := by decide +kernel
theorem deals_ok : ∀ d ∈ dealsL, dealR d = true := by decide +kernel
theorem deals_pop : ∀ d ∈ dealsL, ∀ h ∈ handsR d, pop h.toNat = d.a.toNat ∧ 0 < h ∧ h ≤ 127 := by decide +kernel
theorem told_ann {d : Dl} (hd : d ∈ dealsL) {l : List Int} (hl : l.Sublist (handsR d)) (hn : l ≠ []) : annR d l = true := by
  unfold annR
  rw [deals_ok d hd, annL_ok l none ((deals_asc d hd).sublist hl) (fun x hx => hl.subset hx) (fun q e => by cases e)]
  cases l with
  | nil => exact absurd rfl hn
  | cons => rfl
theorem told_iff {d : Dl} (hd : d ∈ dealsL) {l : List Int} (hl : l.Sublist (handsR d)) (hn : l ≠ []) : tellR d l = toldB d l := by
  unfold tellR
  rw [told_ann hd hl hn, Bool.true_and, Bool.eq_iff_iff, tellL_iff, List.pairwise_iff_forall_sublist]
  unfold toldB
  rw [List.all_eq_true]
  have asc := (deals_asc d hd).sublist hl
  rw [List.pairwise_iff_forall_sublist] at asc
  constructor
  · rintro ⟨-, h⟩ b hb
    rw [List.mem_range] at hb
    by_cases hp : pop b = d.b.toNat
    · rw [Bool.or_eq_true]
      refine Or.inr (decide_eq_true ((fit_iff l).2 ?_))
      rw [List.pairwise_iff_forall_sublist]
      intro x y hxy
      have hx := hl.subset (hxy.subset (List.mem_cons_self))
      have hy := hl.subset (hxy.subset (List.mem_cons_of_mem _ List.mem_cons_self))
      exact (deals_two d hd x hx y hy (asc hxy)).1 (h hxy) b hb hp
    · rw [beq_false_of_ne hp]; rfl
  · intro h
    refine ⟨fun x hx => (List.not_mem_nil hx).elim, fun {x y} hxy => ?_⟩
    have hx := hl.subset (hxy.subset (List.mem_cons_self))
    have hy := hl.subset (hxy.subset (List.mem_cons_of_mem _ List.mem_cons_self))
    refine (deals_two d hd x hx y hy (asc hxy)).2 (fun b hb hp => ?_)
    have := h b (List.mem_range.2 hb)
    rw [hp, beq_self_eq_true, Bool.not_true, Bool.false_or, decide_eq_true_eq] at this
    have h2 := (fit_iff l).1 this
    rw [List.pairwise_iff_forall_sublist] at h2
    exact h2 hxy
/-- no hand of the second player below m fits two -/
def toldTo (d : Dl) (l : List Int) : Nat → Bool
  | 0 => true
  | b + 1 => toldTo d l b && (!(pop b == d.b.toNat) || decide (fitsN l b ≤ 1))
theorem toldTo_eq (d : Dl) (l : List Int) : ∀ m, toldTo d l m = (List.range m).all (fun b => !(pop b == d.b.toNat) || decide (fitsN l b ≤ 1))
  | 0 => rfl
  | m + 1 => by
    rw [List.range_succ, List.all_append, ← toldTo_eq d l m]
    simp [toldTo]
theorem toldTo_all (d : Dl) (l : List Int) : toldTo d l (2 ^ d.n) = toldB d l := toldTo_eq d l _
theorem toldTo_no {d : Dl} {l : List Int} {b : Nat} (h : pop b ≠ d.b.toNat) : toldTo d l (b + 1) = toldTo d l b := by
  show (toldTo d l b && (!(pop b == d.b.toNat) || _)) = _
  rw [beq_false_of_ne h]; simp
theorem toldTo_yes {d : Dl} {l : List Int} {b : Nat} (h : pop b = d.b.toNat) : toldTo d l (b + 1) = (toldTo d l b && decide (fitsN l b ≤ 1)) := by
  show (toldTo d l b && (!(pop b == d.b.toNat) || _)) = _
  rw [h]; simp
/-- how many of the first k hands of a list have no card of b -/
def fitTo (l : List Int) (b k : Nat) : Nat := fitsN (l.take k) b
theorem fitTo_all (l : List Int) (b : Nat) : fitTo l b l.length = fitsN l b := by unfold fitTo; rw [List.take_of_length_le (Nat.le_refl _)]
theorem fitTo_le (l : List Int) (b k : Nat) : fitTo l b k ≤ k := by
  unfold fitTo fitsN
  exact Nat.le_trans (List.length_filter_le _ _) (by rw [List.length_take]; omega)
theorem fitTo_step {l : List Int} {b k X : Nat} (hk : k < l.length) (hX : l.getD k 0 = (X : Int)) : fitTo l b (k + 1) = fitTo l b k + (if X &&& b = 0 then 1 else 0) := by
  have e : l.take (k + 1) = l.take k ++ [l.getD k 0] := by
    rw [List.take_add_one, List.getElem?_eq_getElem hk, List.getD_eq_getElem?_getD, List.getElem?_eq_getElem hk]; rfl
  unfold fitTo fitsN
  rw [e, hX, List.filter_append, List.length_append]
  congr 1
  by_cases h : X &&& b = 0
  · rw [if_pos h, List.filter_cons_of_pos (by unfold andI; simpa using h)]; rfl
  · rw [if_neg h, List.filter_cons_of_neg (by unfold andI; simpa using h)]; rfl
end Go.Proofs.YteahjnobnbafiaaDoor
