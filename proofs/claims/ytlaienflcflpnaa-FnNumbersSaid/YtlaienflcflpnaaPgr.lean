/-
  Groups of pairs by the number that a person sees: at most two different ones are kept for each. Mathematics; no program text.
-/
import Derived.Test.YtlaienflcflpnaaPrm
namespace Go.Proofs.Ytlaienflcflpnaa
open Go

/-- the number of a pair that a person sees -/
def keyP (f : Bool) (p : Pr) : Int := if f then p.b else p.a
def grpStep (g : List Pr) (p : Pr) : List Pr := if decide (g.length < 2) && !hasP g p then g ++ [p] else g
def grpP (f : Bool) (k : Int) (xs : List Pr) : List Pr := xs.foldl (fun g p => if keyP f p = k then grpStep g p else g) []
theorem grpP_nil (f : Bool) (k : Int) : grpP f k [] = [] := rfl
theorem grpP_snoc (f : Bool) (k : Int) (xs : List Pr) (p : Pr) : grpP f k (xs ++ [p]) = if keyP f p = k then grpStep (grpP f k xs) p else grpP f k xs := by
  unfold grpP; rw [List.foldl_append]; rfl
theorem hasP_iff {xs : List Pr} {p : Pr} : hasP xs p = true ↔ p ∈ xs := by
  unfold hasP; rw [List.any_eq_true]
  constructor
  · rintro ⟨x, hx, e⟩; rw [beq_iff_eq] at e; exact e ▸ hx
  · exact fun h => ⟨p, h, beq_self_eq_true p⟩
structure GrpI (f : Bool) (k : Int) (xs G : List Pr) : Prop where
  mem : ∀ x ∈ G, x ∈ xs ∧ keyP f x = k
  le : G.length ≤ 2
  all : G.length < 2 → ∀ x ∈ xs, keyP f x = k → x ∈ G
  nodup : G.Nodup
theorem GrpI.step {f : Bool} {k : Int} {xs G : List Pr} (h : GrpI f k xs G) (p : Pr) : GrpI f k (xs ++ [p]) (if keyP f p = k then grpStep G p else G) := by
  by_cases hk : keyP f p = k
  · rw [if_pos hk]
    unfold grpStep
    by_cases hc : (decide (G.length < 2) && !hasP G p) = true
    · rw [if_pos hc]
      rw [Bool.and_eq_true, Bool.not_eq_true', decide_eq_true_eq] at hc
      have hnm : p ∉ G := fun hm => by rw [hasP_iff.2 hm] at hc; cases hc.2
      refine ⟨fun x hx => ?_, by rw [List.length_append]; simp; omega, fun _ x hx hkx => ?_, ?_⟩
      · rcases List.mem_append.1 hx with hx | hx
        · exact ⟨List.mem_append_left _ (h.mem x hx).1, (h.mem x hx).2⟩
        · rw [List.mem_singleton] at hx; subst hx; exact ⟨List.mem_append_right _ (List.mem_singleton_self _), hk⟩
      · rcases List.mem_append.1 hx with hx | hx
        · exact List.mem_append_left _ (h.all hc.1 x hx hkx)
        · exact List.mem_append_right _ hx
      · rw [List.nodup_append]
        refine ⟨h.nodup, by simp, fun a ha b hb e => ?_⟩
        rw [List.mem_singleton] at hb; subst hb e; exact hnm ha
    · rw [if_neg hc]
      refine ⟨fun x hx => ⟨List.mem_append_left _ (h.mem x hx).1, (h.mem x hx).2⟩, h.le, fun hl x hx hkx => ?_, h.nodup⟩
      rcases List.mem_append.1 hx with hx | hx
      · exact h.all hl x hx hkx
      · rw [List.mem_singleton] at hx; subst hx
        rw [decide_eq_true hl, Bool.true_and, Bool.not_eq_true', Bool.not_eq_false] at hc
        exact hasP_iff.1 hc
  · rw [if_neg hk]
    refine ⟨fun x hx => ⟨List.mem_append_left _ (h.mem x hx).1, (h.mem x hx).2⟩, h.le, fun hl x hx hkx => ?_, h.nodup⟩
    rcases List.mem_append.1 hx with hx | hx
    · exact h.all hl x hx hkx
    · rw [List.mem_singleton] at hx; subst hx; exact absurd hkx hk
theorem grpI_go (f : Bool) (k : Int) : ∀ (ys xs G : List Pr), GrpI f k xs G → GrpI f k (xs ++ ys) (ys.foldl (fun g p => if keyP f p = k then grpStep g p else g) G)
  | [], xs, G, h => by rw [List.append_nil]; exact h
  | y :: ys, xs, G, h => by
    have := grpI_go f k ys (xs ++ [y]) _ (h.step y)
    rw [List.append_assoc] at this
    exact this
theorem grpI (f : Bool) (k : Int) (xs : List Pr) : GrpI f k xs (grpP f k xs) := by
  have := grpI_go f k xs [] [] ⟨fun _ h => (by cases h), Nat.zero_le _, fun _ _ h => (by cases h), List.nodup_nil⟩
  exact this
theorem grpP_le (f : Bool) (k : Int) (xs : List Pr) : (grpP f k xs).length ≤ 2 := (grpI f k xs).le
theorem clashP_iff {p : Pr} {f : Bool} {x : Pr} : clashP p f x = true ↔ keyP f x = keyP f p ∧ x ≠ p := by
  unfold clashP keyP
  rw [Bool.and_eq_true, Bool.not_eq_true', beq_eq_false_iff_ne]
  cases f <;> simp
theorem ownP_iff {xs : List Pr} {p : Pr} {f : Bool} : ownP xs p f = true ↔ p ∈ xs ∧ ∀ x ∈ xs, keyP f x = keyP f p → x = p := by
  unfold ownP
  rw [Bool.and_eq_true, hasP_iff, Bool.not_eq_true', Bool.eq_false_iff, Ne, List.any_eq_true]
  constructor
  · rintro ⟨h1, h2⟩
    refine ⟨h2, fun x hx e => ?_⟩
    rcases Decidable.em (x = p) with h | h
    · exact h
    · exact absurd ⟨x, hx, clashP_iff.2 ⟨e, h⟩⟩ h1
  · rintro ⟨h1, h2⟩
    refine ⟨fun ⟨x, hx, e⟩ => ?_, h1⟩
    obtain ⟨e1, e2⟩ := clashP_iff.1 e
    exact e2 (h2 x hx e1)
theorem grp_own {xs : List Pr} {p : Pr} {f : Bool} : grpP f (keyP f p) xs = [p] ↔ ownP xs p f = true := by
  have h := grpI f (keyP f p) xs
  rw [ownP_iff]
  generalize grpP f (keyP f p) xs = G at h
  constructor
  · rintro rfl
    refine ⟨(h.mem p (List.mem_singleton_self _)).1, fun x hx e => ?_⟩
    exact List.mem_singleton.1 (h.all (by simp) x hx e)
  · rintro ⟨h1, h2⟩
    have hall : ∀ x ∈ G, x = p := fun x hx => h2 x (h.mem x hx).1 (h.mem x hx).2
    match G, h, hall with
    | [], h, _ => have := h.all (by simp) p h1 rfl; cases this
    | [a], _, hall => rw [hall a (List.mem_singleton_self _)]
    | a :: b :: r, h, hall =>
      have ha := hall a (by simp)
      have hb := hall b (by simp)
      have := h.nodup
      subst ha
      simp [hb] at this
/-- the pair is the only one of its group -/
theorem sure_eq (xs : List Pr) (p : Pr) (f : Bool) : ownP xs p f = (decide ((grpP f (keyP f p) xs).length = 1) && ((grpP f (keyP f p) xs).getD 0 default == p)) := by
  rw [Bool.eq_iff_iff, ← grp_own, Bool.and_eq_true, decide_eq_true_eq, beq_iff_eq]
  generalize grpP f (keyP f p) xs = G
  constructor
  · rintro rfl; exact ⟨rfl, rfl⟩
  · rintro ⟨h1, h2⟩
    match G, h1 with
    | [a], _ => simp at h2; rw [h2]
theorem WfP.key {xs : List Pr} (h : WfP xs) {x : Pr} (hx : x ∈ xs) (f : Bool) : (Lit.int .i64 (keyP f x)).wf = true := by
  unfold keyP; cases f
  · exact (h x hx).1
  · exact (h x hx).2
theorem keyP_wf {p : Pr} (h : (Lit.int .i64 p.a).wf = true ∧ (Lit.int .i64 p.b).wf = true) (f : Bool) : (Lit.int .i64 (keyP f p)).wf = true := by
  unfold keyP; cases f
  · exact h.1
  · exact h.2
theorem WfP.after {xs : List Pr} (h : WfP xs) (f kn : Bool) : WfP (afterP xs f kn) := fun x hx => h x (List.mem_filter.1 hx).1
theorem wfS (a : Int) (h : 0 ≤ a) (h2 : a ≤ 1000000) : (Lit.int .i64 a).wf = true := WalkArith.wf_i64 (by omega)
theorem allTo_mem {M : Nat} : ∀ {a : Nat} {x : Pr}, x ∈ allTo M a → 0 ≤ x.a ∧ x.a < a ∧ 0 ≤ x.b ∧ x.b ≤ a ∧ (x.a ≤ M → x.b ≤ M)
  | 0, x, h => by cases h
  | a + 1, x, h => by
    rcases List.mem_append.1 (show x ∈ allTo M a ++ allAt M a from h) with h | h
    · have := allTo_mem h; omega
    · unfold allAt at h
      rcases List.mem_append.1 h with h | h
      · split at h
        · rw [List.mem_singleton] at h; subst h; simp only; omega
        · cases h
      · split at h
        · rw [List.mem_singleton] at h; subst h; simp only; omega
        · cases h
theorem allR_wf (most : Int) : WfP (allR most) := fun x hx => by
  unfold allR at hx
  split at hx
  · have := allTo_mem hx
    exact ⟨wfS _ (by omega) (by omega), wfS _ (by omega) (by omega)⟩
  · cases hx
end Go.Proofs.Ytlaienflcflpnaa
