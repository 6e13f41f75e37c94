/-
  Steps between worlds, in mathematics: what is reached in k steps, distances, what all know k times, the nearest world where something is false, the chain to it. No program but its types' numbers.
-/
import Derived.Test.YthjfanhhindjlaaGreatTou
namespace Go.Proofs.YthjfanhhindjlaaGreat
open Go.RowKit Go.WideShapes
open Go Go.Deep
set_option linter.unusedSimpArgs false

/-- some agent cannot tell two worlds apart -/
def nearM (m : Md) (v w : Nat) : Bool := near m.blocks m.blocks.length v w
theorem nearM_refl {m : Md} (hm : mdOk m = true) (v : Nat) : nearM m v v = true := near_refl (mdOk_parts hm).2.2.1
theorem nearM_iff {m : Md} {v w : Nat} : nearM m v w = true ↔ ∃ k, k < m.blocks.length ∧ sameW m k v w = true := by
  unfold nearM; rw [near_same, List.any_eq_true]
  exact ⟨fun ⟨k, hk, h⟩ => ⟨k, List.mem_range.1 hk, h⟩, fun ⟨k, hk, h⟩ => ⟨k, List.mem_range.2 hk, h⟩⟩
theorem nearM_symm {m : Md} {v w : Nat} (h : nearM m v w = true) : nearM m w v = true := by
  obtain ⟨k, hk, e⟩ := nearM_iff.1 h
  exact nearM_iff.2 ⟨k, hk, by rw [sameW_comm]; exact e⟩
/-- reached in at most k steps -/
def ballB (m : Md) : Nat → Nat → Nat → Bool
  | 0, u, v => decide (u = v)
  | k + 1, u, v => decide (v < m.facts.length) && (List.range m.facts.length).any fun x => ballB m k u x && nearM m x v
theorem ball_succ {m : Md} {k u v : Nat} : ballB m (k + 1) u v = true ↔ v < m.facts.length ∧ ∃ x, x < m.facts.length ∧ ballB m k u x = true ∧ nearM m x v = true := by
  rw [ballB, Bool.and_eq_true, decide_eq_true_eq, List.any_eq_true]
  constructor
  · rintro ⟨h, x, hx, e⟩
    rw [Bool.and_eq_true] at e
    exact ⟨h, x, List.mem_range.1 hx, e.1, e.2⟩
  · rintro ⟨h, x, hx, e1, e2⟩
    exact ⟨h, x, List.mem_range.2 hx, by rw [e1, e2]; rfl⟩
theorem ball_in {m : Md} {u : Nat} (hu : u < m.facts.length) : ∀ {k v : Nat}, ballB m k u v = true → v < m.facts.length
  | 0, v, h => by have : u = v := of_decide_eq_true h
                  omega
  | k + 1, v, h => (ball_succ.1 h).1
theorem ball_up {m : Md} (hm : mdOk m = true) {u k v : Nat} (hu : u < m.facts.length) (h : ballB m k u v = true) : ballB m (k + 1) u v = true :=
  ball_succ.2 ⟨ball_in hu h, v, ball_in hu h, h, nearM_refl hm v⟩
theorem ball_le {m : Md} (hm : mdOk m = true) {u v : Nat} (hu : u < m.facts.length) {j k : Nat} (hjk : j ≤ k) (h : ballB m j u v = true) : ballB m k u v = true := by
  obtain ⟨d, rfl⟩ : ∃ d, k = j + d := ⟨k - j, by omega⟩
  clear hjk
  induction d with
  | zero => exact h
  | succ d ih => exact ball_up hm hu ih
theorem ball_self (m : Md) (u : Nat) : ballB m 0 u u = true := decide_eq_true rfl
/-- the first step can be taken off as well as the last one -/
theorem ball_first {m : Md} {v : Nat} (hv : v < m.facts.length) : ∀ {k u : Nat}, u < m.facts.length → (ballB m (k + 1) u v = true ↔ ∃ x, x < m.facts.length ∧ nearM m u x = true ∧ ballB m k x v = true)
  | 0, u, hu => by
    rw [ball_succ]
    constructor
    · rintro ⟨_, x, hx, e1, e2⟩
      have : u = x := of_decide_eq_true e1
      subst this
      exact ⟨v, hv, e2, ball_self m v⟩
    · rintro ⟨x, hx, e1, e2⟩
      have : x = v := of_decide_eq_true e2
      subst this
      exact ⟨hv, u, hu, ball_self m u, e1⟩
  | k + 1, u, hu => by
    constructor
    · intro h
      obtain ⟨_, y, hy, e1, e2⟩ := ball_succ.1 h
      obtain ⟨x, hx, e3, e4⟩ := (ball_first hy hu).1 e1
      exact ⟨x, hx, e3, ball_succ.2 ⟨hv, y, hy, e4, e2⟩⟩
    · rintro ⟨x, hx, e1, e2⟩
      obtain ⟨_, y, hy, e3, e4⟩ := ball_succ.1 e2
      exact ball_succ.2 ⟨hv, y, hy, (ball_first hy hu).2 ⟨x, hx, e1, e3⟩, e4⟩
theorem ball_stop {m : Md} {u k : Nat} (h : ∀ v, ballB m (k + 1) u v = ballB m k u v) : ∀ d v, ballB m (k + d) u v = ballB m k u v
  | 0, _ => rfl
  | d + 1, v => by
    have ih := ball_stop h d
    rw [← h v, show k + (d + 1) = (k + d) + 1 by omega]
    unfold ballB
    congr 2
    funext x
    rw [ih x]
/-- while something is new there are more and more -/
theorem ball_grow {m : Md} (hm : mdOk m = true) {u : Nat} (hu : u < m.facts.length) : ∀ k, (∀ i, i < k → ∃ v, ballB m (i + 1) u v ≠ ballB m i u v) → k + 1 ≤ (lst (ballB m k u) m.facts.length).length
  | 0, _ => by
    have := lst_lt (p := fun _ => false) (q := ballB m 0 u) (fun i h => by cases h) hu (ball_self m u) rfl
    omega
  | k + 1, h => by
    have ih := ball_grow hm hu k fun i hi => h i (by omega)
    obtain ⟨v, hv⟩ := h k (by omega)
    have h2 : ballB m (k + 1) u v = true ∧ ballB m k u v = false := by
      cases e1 : ballB m k u v with
      | true => exact absurd ((ball_up hm hu e1).trans e1.symm) hv
      | false =>
        cases e2 : ballB m (k + 1) u v with
        | true => exact ⟨rfl, rfl⟩
        | false => exact absurd (e2.trans e1.symm) hv
    have := lst_lt (p := ballB m k u) (q := ballB m (k + 1) u) (fun i hi => ball_up hm hu hi) (ball_in hu h2.1) h2.1 h2.2
    omega
theorem ball_ends {m : Md} (hm : mdOk m = true) {u : Nat} (hu : u < m.facts.length) {k v : Nat} (h : ballB m k u v = true) : ballB m (m.facts.length - 1) u v = true := by
  obtain ⟨j, hj, hs⟩ : ∃ j, j ≤ m.facts.length - 1 ∧ ∀ v, ballB m (j + 1) u v = ballB m j u v := by
    refine Classical.byContradiction fun hno => ?_
    have := ball_grow hm hu m.facts.length fun i hi => Classical.byContradiction fun hn => hno ⟨i, by omega, fun v => Classical.byContradiction fun e => hn ⟨v, e⟩⟩
    have h2 := lst_len (ballB m m.facts.length u) m.facts.length
    omega
  have h1 := ball_stop hs (m.facts.length - 1 - j) v
  rw [show j + (m.facts.length - 1 - j) = m.facts.length - 1 by omega] at h1
  rw [h1]
  rcases Nat.lt_or_ge j k with h3 | h3
  · have h4 := ball_stop hs (k - j) v
    rw [show j + (k - j) = k by omega] at h4
    rw [← h4]; exact h
  · exact ball_le hm hu h3 h
theorem ball_reach {m : Md} (hm : mdOk m = true) {u v : Nat} (hu : u < m.facts.length) : reachB m.blocks m.facts.length m.blocks.length u v = true ↔ ballB m (m.facts.length - 1) u v = true := by
  constructor
  · intro h
    refine wsh_least (r := stepP m.blocks m.facts.length m.blocks.length) (T := ballB m (m.facts.length - 1) u) (fun i j hi hs => ?_) (ball_le hm hu (Nat.zero_le _) (ball_self m u)) h
    have hj := stepP_in hs
    unfold stepP at hs
    simp only [Bool.and_eq_true] at hs
    exact ball_ends hm hu (k := m.facts.length - 1 + 1) (ball_succ.2 ⟨hj.2, i, hj.1, hi, hs.2⟩)
  · generalize m.facts.length - 1 = k
    induction k generalizing v with
    | zero =>
      intro h
      have : u = v := of_decide_eq_true h
      subst this
      exact wsh_refl _ _ _
    | succ k ih =>
      intro h
      obtain ⟨hv, x, hx, e1, e2⟩ := ball_succ.1 h
      refine wsh_more (fun _ _ => stepP_in) (ih e1) ?_
      unfold stepP
      rw [decide_eq_true hx, decide_eq_true hv]
      exact e2
/-- the least number of steps -/
def leastK (q : Nat → Bool) (n : Nat) : Option Nat := (List.range n).find? q
theorem leastK_some {q : Nat → Bool} {n k : Nat} : leastK q n = some k ↔ k < n ∧ q k = true ∧ ∀ j, j < k → q j = false := by
  unfold leastK
  induction n with
  | zero => simp
  | succ n ih =>
    rw [List.range_succ, List.find?_append]
    cases h : (List.range n).find? q with
    | some j =>
      have hj2 : j < n ∧ q j = true ∧ ∀ i, i < j → q i = false := by
        have := List.mem_range.1 (List.mem_of_find?_eq_some h)
        refine ⟨this, List.find?_some h, fun i hi => ?_⟩
        obtain ⟨_, us, bs, hab, hno⟩ := List.find?_eq_some_iff_append.1 h
        have hlen : us.length = j := by
          have e := congrArg (fun l => l[us.length]?) hab
          simp only [List.getElem?_append_right (Nat.le_refl _), Nat.sub_self, List.getElem?_cons_zero] at e
          have hlt : us.length < (List.range n).length := by rw [hab]; simp
          rw [List.length_range] at hlt
          rw [List.getElem?_range hlt] at e
          exact Option.some.inj e
        have hva : i ∈ us := by
          have h2 : (List.range n)[i]? = some i := List.getElem?_range (by omega)
          rw [hab, List.getElem?_append_left (by omega)] at h2
          exact List.mem_of_getElem? h2
        simpa using hno i hva
      simp only [Option.some_or, Option.some.injEq]
      constructor
      · rintro rfl; exact ⟨by omega, hj2.2⟩
      · rintro ⟨a1, a2, a3⟩
        rcases Nat.lt_trichotomy j k with h1 | h1 | h1
        · have := a3 j h1; rw [hj2.2.1] at this; cases this
        · exact h1
        · have := hj2.2.2 k h1; rw [a2] at this; cases this
    | none =>
      have hno : ∀ i, i < n → q i = false := fun i hi => by
        have := List.find?_eq_none.1 h i (List.mem_range.2 hi)
        simpa using this
      simp only [Option.none_or, List.find?_singleton]
      constructor
      · intro e
        split at e
        · rename_i hq; cases e; exact ⟨by omega, hq, hno⟩
        · cases e
      · rintro ⟨a1, a2, a3⟩
        have : k = n := by
          rcases Nat.lt_or_ge k n with h1 | h1
          · have := hno k h1; rw [a2] at this; cases this
          · omega
        subst this
        rw [if_pos a2]
theorem leastK_none {q : Nat → Bool} {n : Nat} : leastK q n = none ↔ ∀ j, j < n → q j = false := by
  unfold leastK; rw [List.find?_eq_none]
  exact ⟨fun h j hj => by simpa using h j (List.mem_range.2 hj), fun h j hj => by simpa using h j (List.mem_range.1 hj)⟩
def distB (m : Md) (u v : Nat) : Option Nat := leastK (fun k => ballB m k u v) m.facts.length
def spreadR (m : Md) (u : Nat) : List Int := (List.range m.facts.length).map fun v => match distB m u v with | some k => (k : Int) | none => -1
/-- what all know k times -/
def everyB (m : Md) (p : Nat → Bool) : Nat → Bool := fun w => (List.range m.facts.length).all fun v => !nearM m w v || p v
def everyK (m : Md) (p : Nat → Bool) : Nat → Nat → Bool
  | 0 => p
  | k + 1 => everyB m (everyK m p k)
theorem everyB_iff {m : Md} {p : Nat → Bool} {w : Nat} : everyB m p w = true ↔ ∀ v, v < m.facts.length → nearM m w v = true → p v = true := by
  unfold everyB
  rw [List.all_eq_true]
  constructor
  · intro h v hv hn
    have := h v (List.mem_range.2 hv)
    rw [hn] at this
    simpa using this
  · intro h v hv
    cases hn : nearM m w v with
    | false => rfl
    | true => rw [h v (List.mem_range.1 hv) hn]; rfl
theorem everyK_iff {m : Md} {p : Nat → Bool} : ∀ {k w : Nat}, w < m.facts.length → (everyK m p k w = true ↔ ∀ v, ballB m k w v = true → p v = true)
  | 0, w, _ => ⟨fun h v hv => by have : w = v := of_decide_eq_true hv
                                 subst this; exact h, fun h => h w (ball_self m w)⟩
  | k + 1, w, hw => by
    show everyB m (everyK m p k) w = true ↔ _
    rw [everyB_iff]
    constructor
    · intro h v hv
      obtain ⟨x, hx, e1, e2⟩ := (ball_first (ball_in hw hv) hw).1 hv
      exact (everyK_iff hx).1 (h x hx e1) v e2
    · intro h v hv hn
      refine (everyK_iff hv).2 fun x hx => h x ?_
      exact (ball_first (ball_in hv hx) hw).2 ⟨v, hv, hn, hx⟩
/-- the nearest world where it is false -/
def falseK (m : Md) (p : Nat → Bool) (u : Nat) : Option Nat := leastK (fun k => !everyK m p k u) m.facts.length
/-- the depth: how often all know that all know -/
def depthK (m : Md) (p : Nat → Bool) (u : Nat) : Int := match falseK m p u with
  | some k => (k : Int) - 1
  | none => 16
theorem everyK_down {m : Md} (hm : mdOk m = true) {p : Nat → Bool} {u : Nat} (hu : u < m.facts.length) {j k : Nat} (hjk : j ≤ k) (h : everyK m p k u = true) : everyK m p j u = true :=
  (everyK_iff hu).2 fun v hv => (everyK_iff hu).1 h v (ball_le hm hu hjk hv)
theorem falseK_none {m : Md} (hm : mdOk m = true) {p : Nat → Bool} {u : Nat} (hu : u < m.facts.length) : falseK m p u = none ↔ ∀ k, everyK m p k u = true := by
  unfold falseK
  rw [leastK_none]
  constructor
  · intro h k
    have h1 := h (m.facts.length - 1) (by omega)
    simp only [Bool.not_eq_false'] at h1
    exact (everyK_iff hu).2 fun v hv => (everyK_iff hu).1 h1 v (ball_ends hm hu hv)
  · intro h j _
    simp [h j]
theorem falseK_common {m : Md} (hm : mdOk m = true) {p : Nat → Bool} {u : Nat} (hu : u < m.facts.length) : falseK m p u = none ↔ ∀ v, reachB m.blocks m.facts.length m.blocks.length u v = true → p v = true := by
  rw [falseK_none hm hu]
  constructor
  · intro h v hv
    exact (everyK_iff hu).1 (h _) v ((ball_reach hm hu).1 hv)
  · intro h k
    exact (everyK_iff hu).2 fun v hv => h v ((ball_reach hm hu).2 (ball_ends hm hu hv))
theorem falseK_some {m : Md} (hm : mdOk m = true) {p : Nat → Bool} {u k : Nat} (hu : u < m.facts.length) (h : falseK m p u = some k) : everyK m p k u = false ∧ (∀ j, j < k → everyK m p j u = true) ∧ k < m.facts.length ∧ (∀ j, everyK m p j u = true ↔ j < k) := by
  unfold falseK at h
  obtain ⟨h1, h2, h3⟩ := leastK_some.1 h
  simp only [Bool.not_eq_true'] at h2
  simp only [Bool.not_eq_false'] at h3
  refine ⟨h2, h3, h1, fun j => ⟨fun hj => ?_, fun hj => h3 j hj⟩⟩
  rcases Nat.lt_or_ge j k with h4 | h4
  · exact h4
  · rw [everyK_down hm hu h4 hj] at h2; cases h2
theorem falseK_of {m : Md} (hm : mdOk m = true) {p : Nat → Bool} {u k : Nat} (hu : u < m.facts.length) (h1 : everyK m p k u = false) (h2 : ∀ j, j < k → everyK m p j u = true) : falseK m p u = some k := by
  cases h : falseK m p u with
  | none => rw [(falseK_none hm hu).1 h k] at h1; cases h1
  | some j =>
    obtain ⟨a1, a2, _, a4⟩ := falseK_some hm hu h
    rcases Nat.lt_trichotomy j k with e | e | e
    · rw [h2 j e] at a1; cases a1
    · rw [e]
    · rw [a2 k e] at h1; cases h1
/-- one step nearer -/
theorem falseK_step {m : Md} (hm : mdOk m = true) {p : Nat → Bool} {u k : Nat} (hu : u < m.facts.length) (h : falseK m p u = some (k + 1)) : (∃ x, x < m.facts.length ∧ nearM m u x = true ∧ falseK m p x = some k) ∧ ∀ x, x < m.facts.length → nearM m u x = true → ∀ j, falseK m p x = some j → k ≤ j := by
  obtain ⟨a1, a2, _, a4⟩ := falseK_some hm hu h
  have hlow : ∀ x, x < m.facts.length → nearM m u x = true → ∀ j, j < k → everyK m p j x = true := fun x hx hn j hj => by
    have := a2 (j + 1) (by omega)
    exact everyB_iff.1 this x hx hn
  constructor
  · have hno : ¬ ∀ v, v < m.facts.length → nearM m u v = true → everyK m p k v = true := fun hall => by
      have : everyK m p (k + 1) u = true := everyB_iff.2 hall
      rw [this] at a1; cases a1
    refine Classical.byContradiction fun hn => hno fun v hv hnv => ?_
    cases e : everyK m p k v with
    | true => rfl
    | false => exact absurd ⟨v, hv, hnv, falseK_of hm hv e (hlow v hv hnv)⟩ hn
  · intro x hx hn j hj
    obtain ⟨b1, _, _, _⟩ := falseK_some hm hx hj
    rcases Nat.lt_or_ge j k with e | e
    · rw [hlow x hx hn j e] at b1; cases b1
    · exact e
/-- the least shortest chain from u, k steps long -/
def chainK (m : Md) (p : Nat → Bool) : Nat → Nat → List Nat
  | 0, u => [u]
  | k + 1, u => u :: chainK m p k (((List.range m.facts.length).find? fun x => nearM m u x && decide (falseK m p x = some k)).getD 0)
theorem chainK_len (m : Md) (p : Nat → Bool) : ∀ k u, (chainK m p k u).length = k + 1
  | 0, _ => rfl
  | k + 1, u => by rw [chainK, List.length_cons, chainK_len m p k]
theorem chain_next {m : Md} (hm : mdOk m = true) {p : Nat → Bool} {u k : Nat} (hu : u < m.facts.length) (h : falseK m p u = some (k + 1)) : ∃ x, (List.range m.facts.length).find? (fun x => nearM m u x && decide (falseK m p x = some k)) = some x ∧ x < m.facts.length ∧ nearM m u x = true ∧ falseK m p x = some k := by
  obtain ⟨⟨x, hx, hn, hf⟩, _⟩ := falseK_step hm hu h
  cases e : (List.range m.facts.length).find? (fun x => nearM m u x && decide (falseK m p x = some k)) with
  | none =>
    have := List.find?_eq_none.1 e x (List.mem_range.2 hx)
    rw [hn, decide_eq_true hf] at this
    simp at this
  | some y =>
    have hy := List.mem_range.1 (List.mem_of_find?_eq_some e)
    have := List.find?_some (p := fun x => nearM m u x && decide (falseK m p x = some k)) e
    rw [Bool.and_eq_true, decide_eq_true_eq] at this
    exact ⟨y, rfl, hy, this.1, this.2⟩
/-- the chain ends where it is false, and each next one is near -/
theorem chain_good {m : Md} (hm : mdOk m = true) {p : Nat → Bool} : ∀ {k u : Nat}, u < m.facts.length → falseK m p u = some k → (∀ x ∈ chainK m p k u, x < m.facts.length) ∧ (∀ i, i < k → nearM m ((chainK m p k u).getD i 0) ((chainK m p k u).getD (i + 1) 0) = true) ∧ p ((chainK m p k u).getD k 0) = false ∧ (chainK m p k u).getD 0 0 = u
  | 0, u, hu, h => by
    obtain ⟨a1, _⟩ := falseK_some hm hu h
    exact ⟨fun x hx => by rw [List.mem_singleton.1 hx]; exact hu, fun i hi => by omega, a1, rfl⟩
  | k + 1, u, hu, h => by
    obtain ⟨x, e, hx, hn, hf⟩ := chain_next hm hu h
    obtain ⟨b1, b2, b3, b4⟩ := chain_good hm hx hf
    unfold chainK
    rw [e, Option.getD_some]
    refine ⟨fun y hy => ?_, fun i hi => ?_, b3, rfl⟩
    · rcases List.mem_cons.1 hy with rfl | hy
      · exact hu
      · exact b1 y hy
    · cases i with
      | zero => rw [List.getD_cons_zero, List.getD_cons_succ, b4]; exact hn
      | succ i => rw [List.getD_cons_succ, List.getD_cons_succ]; exact b2 i (by omega)
end Go.Proofs.YthjfanhhindjlaaGreat
