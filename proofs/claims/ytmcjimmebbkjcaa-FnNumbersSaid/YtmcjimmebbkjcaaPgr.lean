/-
  Groups of pairs by the number that a person sees: at most two different ones are kept for each. Mathematics; no program text.
-/
import Derived.Test.YtmcjimmebbkjcaaPrm
import Derived.Test.YtmcjimmebbkjcaaPsm
namespace Go.Proofs.Ytmcjimmebbkjcaa
open Go

/-- the number of a pair that a person sees -/
def keyP (f : Bool) (p : Pr) : Int := if f then p.b else p.a
def grpStep (g : List Pr) (p : Pr) : List Pr := if decide (g.length < 2) && !hasP g p then g ++ [p] else g
def grpP (κ : Pr → Int) (k : Int) (xs : List Pr) : List Pr := xs.foldl (fun g p => if κ p = k then grpStep g p else g) []
theorem grpP_nil (κ : Pr → Int) (k : Int) : grpP κ k [] = [] := rfl
theorem grpP_snoc (κ : Pr → Int) (k : Int) (xs : List Pr) (p : Pr) : grpP κ k (xs ++ [p]) = if κ p = k then grpStep (grpP κ k xs) p else grpP κ k xs := by
  unfold grpP; rw [List.foldl_append]; rfl
theorem hasP_iff {xs : List Pr} {p : Pr} : hasP xs p = true ↔ p ∈ xs := by
  unfold hasP; rw [List.any_eq_true]
  constructor
  · rintro ⟨x, hx, e⟩; rw [beq_iff_eq] at e; exact e ▸ hx
  · exact fun h => ⟨p, h, beq_self_eq_true p⟩
structure GrpI (κ : Pr → Int) (k : Int) (xs G : List Pr) : Prop where
  mem : ∀ x ∈ G, x ∈ xs ∧ κ x = k
  le : G.length ≤ 2
  all : G.length < 2 → ∀ x ∈ xs, κ x = k → x ∈ G
  nodup : G.Nodup
theorem GrpI.step {κ : Pr → Int} {k : Int} {xs G : List Pr} (h : GrpI κ k xs G) (p : Pr) : GrpI κ k (xs ++ [p]) (if κ p = k then grpStep G p else G) := by
  by_cases hk : κ p = k
  · rw [if_pos hk]
    unfold grpStep
    by_cases hc : (decide (G.length < 2) && !hasP G p) = true
    · rw [if_pos hc]
      rw [Bool.and_eq_true, Bool.not_eq_true', decide_eq_true_eq] at hc
      have hnm : p ∉ G := fun hm => by rw [hasP_iff.2 hm] at hc; cases hc.2
      refine ⟨fun x hx => ?_, by rw [List.length_append]; simp; omega, fun _ x hx hkx => ?_, ?_⟩
      · rcases List.mem_append.1 hx with hx | hx
        · exact ⟨List.mem_append_left _ (h.mem x hx).1, (h.mem x hx).2⟩
        · rw [List.mem_singleton] at hx; subst hx; exact ⟨List.mem_append_right _ (List.mem_singleton_self _), hk⟩
      · rcases List.mem_append.1 hx with hx | hx
        · exact List.mem_append_left _ (h.all hc.1 x hx hkx)
        · exact List.mem_append_right _ hx
      · rw [List.nodup_append]
        refine ⟨h.nodup, by simp, fun a ha b hb e => ?_⟩
        rw [List.mem_singleton] at hb; subst hb e; exact hnm ha
    · rw [if_neg hc]
      refine ⟨fun x hx => ⟨List.mem_append_left _ (h.mem x hx).1, (h.mem x hx).2⟩, h.le, fun hl x hx hkx => ?_, h.nodup⟩
      rcases List.mem_append.1 hx with hx | hx
      · exact h.all hl x hx hkx
      · rw [List.mem_singleton] at hx; subst hx
        rw [decide_eq_true hl, Bool.true_and, Bool.not_eq_true', Bool.not_eq_false] at hc
        exact hasP_iff.1 hc
  · rw [if_neg hk]
    refine ⟨fun x hx => ⟨List.mem_append_left _ (h.mem x hx).1, (h.mem x hx).2⟩, h.le, fun hl x hx hkx => ?_, h.nodup⟩
    rcases List.mem_append.1 hx with hx | hx
    · exact h.all hl x hx hkx
    · rw [List.mem_singleton] at hx; subst hx; exact absurd hkx hk
theorem grpI_go (κ : Pr → Int) (k : Int) : ∀ (ys xs G : List Pr), GrpI κ k xs G → GrpI κ k (xs ++ ys) (ys.foldl (fun g p => if κ p = k then grpStep g p else g) G)
  | [], xs, G, h => by rw [List.append_nil]; exact h
  | y :: ys, xs, G, h => by
    have := grpI_go κ k ys (xs ++ [y]) _ (h.step y)
    rw [List.append_assoc] at this
    exact this
theorem grpI (κ : Pr → Int) (k : Int) (xs : List Pr) : GrpI κ k xs (grpP κ k xs) := by
  have := grpI_go κ k xs [] [] ⟨fun _ h => (by cases h), Nat.zero_le _, fun _ _ h => (by cases h), List.nodup_nil⟩
  exact this
theorem grpP_le (κ : Pr → Int) (k : Int) (xs : List Pr) : (grpP κ k xs).length ≤ 2 := (grpI κ k xs).le
theorem clashP_eq {p : Pr} {f : Bool} {x : Pr} : clashP p f x = clashW (keyP f) p x := by unfold clashP clashW keyP; cases f <;> rfl
theorem own_uniq (xs : List Pr) (p : Pr) (f : Bool) : ownP xs p f = uniqW (keyP f) xs p := by
  unfold ownP uniqW
  rw [show clashP p f = clashW (keyP f) p from funext fun x => clashP_eq]
theorem clashW_iff {κ : Pr → Int} {p x : Pr} : clashW κ p x = true ↔ κ x = κ p ∧ x ≠ p := by
  unfold clashW
  rw [Bool.and_eq_true, Bool.not_eq_true', beq_eq_false_iff_ne, beq_iff_eq]
theorem uniqW_iff {κ : Pr → Int} {xs : List Pr} {p : Pr} : uniqW κ xs p = true ↔ p ∈ xs ∧ ∀ x ∈ xs, κ x = κ p → x = p := by
  unfold uniqW
  rw [Bool.and_eq_true, hasP_iff, Bool.not_eq_true', Bool.eq_false_iff, Ne, List.any_eq_true]
  constructor
  · rintro ⟨h1, h2⟩
    refine ⟨h2, fun x hx e => ?_⟩
    rcases Decidable.em (x = p) with h | h
    · exact h
    · exact absurd ⟨x, hx, clashW_iff.2 ⟨e, h⟩⟩ h1
  · rintro ⟨h1, h2⟩
    refine ⟨fun ⟨x, hx, e⟩ => ?_, h1⟩
    obtain ⟨e1, e2⟩ := clashW_iff.1 e
    exact e2 (h2 x hx e1)
theorem ownP_iff {xs : List Pr} {p : Pr} {f : Bool} : ownP xs p f = true ↔ p ∈ xs ∧ ∀ x ∈ xs, keyP f x = keyP f p → x = p := by rw [own_uniq]; exact uniqW_iff
/-- a pair of the list is the only one of its number just if its group has one -/
theorem grp_one {κ : Pr → Int} {xs : List Pr} {p : Pr} (hp : p ∈ xs) : uniqW κ xs p = decide ((grpP κ (κ p) xs).length = 1) := by
  have h := grpI κ (κ p) xs
  rw [Bool.eq_iff_iff, uniqW_iff, decide_eq_true_eq]
  generalize grpP κ (κ p) xs = G at h
  constructor
  · rintro ⟨h1, h2⟩
    have hall : ∀ x ∈ G, x = p := fun x hx => h2 x (h.mem x hx).1 (h.mem x hx).2
    match G, h, hall with
    | [], h, _ => have := h.all (by simp) p h1 rfl; cases this
    | [a], _, _ => rfl
    | a :: b :: r, h, hall =>
      have ha := hall a (by simp)
      have hb := hall b (by simp)
      have := h.nodup
      subst ha
      simp [hb] at this
  · intro hl
    refine ⟨hp, fun x hx e => ?_⟩
    match G, h, hl with
    | [a], h, _ =>
      have h1 := List.mem_singleton.1 (h.all (by simp) x hx e)
      have h2 := List.mem_singleton.1 (h.all (by simp) p hp rfl)
      rw [h1, h2]
/-- the pairs in which a person answers so -/
def answK (κ : Pr → Int) (kn : Bool) (xs : List Pr) : List Pr := xs.filter (fun p => uniqW κ xs p == kn)
theorem after_answ (xs : List Pr) (f kn : Bool) : afterP xs f kn = answK (keyP f) kn xs := by
  unfold afterP answK
  congr 1
  funext p
  rw [own_uniq]
theorem now_answ (κ : Pr → Int) (xs : List Pr) : nowR κ xs = answK κ true xs := by
  unfold nowR answK
  congr 1
  funext p
  cases uniqW κ xs p <;> rfl
theorem answK_len (κ : Pr → Int) (kn : Bool) (xs : List Pr) : (answK κ kn xs).length ≤ xs.length := List.length_filter_le _ _
theorem WfP.key {xs : List Pr} (h : WfP xs) {x : Pr} (hx : x ∈ xs) (f : Bool) : (Lit.int .i64 (keyP f x)).wf = true := by
  unfold keyP; cases f
  · exact (h x hx).1
  · exact (h x hx).2
theorem keyP_wf {p : Pr} (h : (Lit.int .i64 p.a).wf = true ∧ (Lit.int .i64 p.b).wf = true) (f : Bool) : (Lit.int .i64 (keyP f p)).wf = true := by
  unfold keyP; cases f
  · exact h.1
  · exact h.2
theorem WfP.after {xs : List Pr} (h : WfP xs) (f kn : Bool) : WfP (afterP xs f kn) := fun x hx => h x (List.mem_filter.1 hx).1
theorem wfS (a : Int) (h : 0 ≤ a) (h2 : a ≤ 1000000) : (Lit.int .i64 a).wf = true := WalkArith.wf_i64 (by omega)
theorem allTo_mem {M : Nat} : ∀ {a : Nat} {x : Pr}, x ∈ allTo M a → 0 ≤ x.a ∧ x.a < a ∧ 0 ≤ x.b ∧ x.b ≤ a ∧ (x.a ≤ M → x.b ≤ M)
  | 0, x, h => by cases h
  | a + 1, x, h => by
    rcases List.mem_append.1 (show x ∈ allTo M a ++ allAt M a from h) with h | h
    · have := allTo_mem h; omega
    · unfold allAt at h
      rcases List.mem_append.1 h with h | h
      · split at h
        · rw [List.mem_singleton] at h; subst h; simp only; omega
        · cases h
      · split at h
        · rw [List.mem_singleton] at h; subst h; simp only; omega
        · cases h
theorem allR_wf (most : Int) : WfP (allR most) := fun x hx => by
  unfold allR at hx
  split at hx
  · have := allTo_mem hx
    exact ⟨wfS _ (by omega) (by omega), wfS _ (by omega) (by omega)⟩
  · cases hx
end Go.Proofs.Ytmcjimmebbkjcaa
