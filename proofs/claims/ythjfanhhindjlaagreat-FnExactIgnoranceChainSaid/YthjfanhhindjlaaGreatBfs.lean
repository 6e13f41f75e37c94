/-
  Worlds found step by step through a queue: in mathematics. At the end each world has the number of its steps. No program but its types' numbers.
-/
import Derived.Test.YthjfanhhindjlaaGreatBal
namespace Go.Proofs.YthjfanhhindjlaaGreat
open Go.RowKit Go.WideShapes
open Go Go.Deep
set_option linter.unusedSimpArgs false

/-- what holds while world number at of the queue q looks at its neighbours, those below j done; o are the steps found -/
structure Bfs (m : Md) (u at' j : Nat) (o : List Int) (q : List Nat) : Prop where
  len : o.length = m.facts.length
  nod : q.Nodup
  inq : ∀ w ∈ q, w < m.facts.length
  neg : ∀ w, w < m.facts.length → w ∉ q → o.getD w 0 = -1
  dist : ∀ w ∈ q, ∃ d : Nat, o.getD w 0 = (d : Int) ∧ distB m u w = some d
  sorted : ∀ i1 i2, i1 ≤ i2 → i2 < q.length → o.getD (q.getD i1 0) 0 ≤ o.getD (q.getD i2 0) 0
  close : at' < q.length → ∀ i, i < q.length → o.getD (q.getD i 0) 0 ≤ o.getD (q.getD at' 0) 0 + 1
  done : ∀ i, i < at' → ∀ w, w < m.facts.length → nearM m (q.getD i 0) w = true → w ∈ q
  doing : at' < q.length → ∀ w, w < j → w < m.facts.length → nearM m (q.getD at' 0) w = true → w ∈ q
  first : u ∈ q
  le : at' ≤ q.length
theorem getD_mem' {q : List Nat} {i : Nat} (h : i < q.length) : q.getD i 0 ∈ q := by
  rw [List.getD_eq_getElem?_getD, List.getElem?_eq_getElem h]; exact List.getElem_mem h
theorem mem_getD {q : List Nat} {w : Nat} (h : w ∈ q) : ∃ i, i < q.length ∧ q.getD i 0 = w := by
  obtain ⟨i, hi, e⟩ := List.getElem_of_mem h
  exact ⟨i, hi, by rw [List.getD_eq_getElem?_getD, List.getElem?_eq_getElem hi]; exact e⟩
theorem set_getD {l : List Int} {i j : Nat} {x : Int} (hi : i < l.length) : (l.set i x).getD j 0 = if j = i then x else l.getD j 0 := by
  rw [List.getD_eq_getElem?_getD, List.getElem?_set]
  by_cases e : i = j
  · subst e; rw [if_pos rfl, if_pos rfl, if_pos hi]; rfl
  · rw [if_neg e, if_neg (fun h => e h.symm), ← List.getD_eq_getElem?_getD]
theorem app_getD {q : List Nat} {w i : Nat} (h : i < q.length) : (q ++ [w]).getD i 0 = q.getD i 0 := by
  rw [List.getD_eq_getElem?_getD, List.getElem?_append_left h, ← List.getD_eq_getElem?_getD]
theorem app_last {q : List Nat} {w : Nat} : (q ++ [w]).getD q.length 0 = w := by
  rw [List.getD_eq_getElem?_getD, List.getElem?_append_right (Nat.le_refl _), Nat.sub_self]; rfl
theorem Bfs.qlen {m : Md} {u at' j : Nat} {o : List Int} {q : List Nat} (h : Bfs m u at' j o q) : q.length ≤ m.facts.length := by
  have h1 : (q.map id).Nodup := by simpa using h.nod
  have h2 := List.Nodup.length_le_of_subset (l₁ := q) (l₂ := List.range m.facts.length) h.nod (fun w hw => List.mem_range.2 (h.inq w hw))
  rwa [List.length_range] at h2
/-- a world has a number exactly if it is in the queue -/
theorem Bfs.found {m : Md} {u at' j : Nat} {o : List Int} {q : List Nat} (h : Bfs m u at' j o q) {w : Nat} (hw : w < m.facts.length) : w ∈ q ↔ 0 ≤ o.getD w 0 := by
  constructor
  · intro hq
    obtain ⟨d, e, _⟩ := h.dist w hq
    rw [e]; exact Int.natCast_nonneg _
  · intro h0
    refine Classical.byContradiction fun hn => ?_
    rw [h.neg w hw hn] at h0
    omega
theorem dist_ball {m : Md} {u v d : Nat} (h : distB m u v = some d) : ballB m d u v = true ∧ ∀ k, ballB m k u v = true → d ≤ k := by
  obtain ⟨_, h1, h2⟩ := leastK_some.1 h
  refine ⟨h1, fun k hk => ?_⟩
  rcases Nat.lt_or_ge k d with h3 | h3
  · rw [h2 k h3] at hk; cases hk
  · exact h3
/-- what is no farther than the one that looks is in the queue -/
theorem Bfs.all {m : Md} (_hm : mdOk m = true) {u at' j : Nat} (_hu : u < m.facts.length) {o : List Int} {q : List Nat} (h : Bfs m u at' j o q) (hat : at' < q.length) {d : Nat} (hd : o.getD (q.getD at' 0) 0 = (d : Int)) : ∀ k, k ≤ d → ∀ y, ballB m k u y = true → y ∈ q
  | 0, _, y, hy => by
    have : u = y := of_decide_eq_true hy
    subst this; exact h.first
  | k + 1, hk, y, hy => by
    obtain ⟨hyn, x, hx, e1, e2⟩ := ball_succ.1 hy
    obtain ⟨i, hi, rfl⟩ := mem_getD (Bfs.all _hm _hu h hat hd k (by omega) x e1)
    obtain ⟨dx, ex, hdx⟩ := h.dist _ (getD_mem' hi)
    have hle := (dist_ball hdx).2 k e1
    have hlt : i < at' := by
      rcases Nat.lt_or_ge i at' with h1 | h1
      · exact h1
      · have := h.sorted at' i h1 hi
        rw [hd, ex] at this
        omega
    exact h.done i hlt y hyn e2
theorem bfs_start {m : Md} (hm : mdOk m = true) {u : Nat} (hu : u < m.facts.length) : Bfs m u 0 0 ((List.replicate m.facts.length (-1 : Int)).set u 0) [u] := by
  have hl : u < (List.replicate m.facts.length (-1 : Int)).length := by simpa using hu
  have hat : ∀ j, ((List.replicate m.facts.length (-1 : Int)).set u 0).getD j 0 = if j = u then 0 else (List.replicate m.facts.length (-1 : Int)).getD j 0 := fun j => set_getD hl
  refine ⟨by simp, by simp, fun w hw => by rw [List.mem_singleton.1 hw]; exact hu, fun w hw hn => ?_, fun w hw => ?_, fun i1 i2 h1 h2 => ?_, fun _ i hi => ?_, fun i hi => absurd hi (Nat.not_lt_zero _), fun _ w hw => absurd hw (Nat.not_lt_zero _), by simp, by simp⟩
  · rw [hat, if_neg (by simpa using hn), List.getD_eq_getElem?_getD, List.getElem?_replicate, if_pos hw]; rfl
  · rw [List.mem_singleton] at hw
    subst hw
    exact ⟨0, by rw [hat, if_pos rfl]; rfl, leastK_some.2 ⟨by have := (mdOk_parts hm).1; omega, ball_self m w, fun j hj => absurd hj (Nat.not_lt_zero _)⟩⟩
  · simp at h2
    obtain rfl : i2 = 0 := h2
    obtain rfl : i1 = 0 := by omega
    exact Int.le_refl _
  · simp at hi
    subst hi
    omega
theorem Bfs.skip {m : Md} {u at' j : Nat} {o : List Int} {q : List Nat} (h : Bfs m u at' j o q) (hs : at' < q.length → j < m.facts.length → 0 ≤ o.getD j 0 ∨ nearM m (q.getD at' 0) j = false) : Bfs m u at' (j + 1) o q := by
  refine ⟨h.len, h.nod, h.inq, h.neg, h.dist, h.sorted, h.close, h.done, fun hat w hw hwn hnw => ?_, h.first, h.le⟩
  rcases Nat.lt_or_eq_of_le (Nat.le_of_lt_succ hw) with h1 | rfl
  · exact h.doing hat w h1 hwn hnw
  · rcases hs hat hwn with h2 | h2
    · exact (h.found hwn).2 h2
    · rw [h2] at hnw; cases hnw
theorem Bfs.add {m : Md} (hm : mdOk m = true) {u at' j : Nat} (hu : u < m.facts.length) {o : List Int} {q : List Nat} (h : Bfs m u at' j o q) (hat : at' < q.length) (hj : j < m.facts.length) (ho : o.getD j 0 < 0) (hnr : nearM m (q.getD at' 0) j = true) :
    Bfs m u at' (j + 1) (o.set j (o.getD (q.getD at' 0) 0 + 1)) (q ++ [j]) := by
  have hnq : j ∉ q := fun hq => by have := (h.found hj).1 hq; omega
  obtain ⟨d, ed, hd⟩ := h.dist _ (getD_mem' hat)
  have hvn := h.inq _ (getD_mem' hat)
  have hjl : j < o.length := by rw [h.len]; exact hj
  have hs : ∀ i, (o.set j (o.getD (q.getD at' 0) 0 + 1)).getD i 0 = if i = j then o.getD (q.getD at' 0) 0 + 1 else o.getD i 0 := fun i => set_getD hjl
  have hsq : ∀ w, w ∈ q → (o.set j (o.getD (q.getD at' 0) 0 + 1)).getD w 0 = o.getD w 0 := fun w hw => (hs w).trans (if_neg (fun (e : w = j) => hnq (by rw [← e]; exact hw)))
  have hball : ballB m (d + 1) u j = true := ball_succ.2 ⟨hj, _, hvn, (dist_ball hd).1, hnr⟩
  have hno : ∀ k, k < d + 1 → ballB m k u j = false := fun k hk => by
    cases e : ballB m k u j with
    | false => rfl
    | true => exact absurd (h.all hm hu hat ed k (by omega) j e) hnq
  have hdn : d + 1 < m.facts.length := by
    have h1 := ball_ends hm hu hball
    rcases Nat.lt_or_ge (d + 1) m.facts.length with h2 | h2
    · exact h2
    · have := hno (m.facts.length - 1) (by omega)
      rw [this] at h1; cases h1
  have hdj : distB m u j = some (d + 1) := leastK_some.2 ⟨hdn, hball, hno⟩
  have hql : (q ++ [j]).length = q.length + 1 := by simp
  refine ⟨by rw [List.length_set]; exact h.len, ?_, fun w hw => ?_, fun w hw hn => ?_, fun w hw => ?_, fun i1 i2 h1 h2 => ?_, fun _ i hi => ?_, fun i hi w hw hnw => ?_, fun _ w hw hwn hnw => ?_, by simp [h.first], by rw [hql]; have := h.le; omega⟩
  · rw [List.nodup_append]
    exact ⟨h.nod, by simp, fun a ha b hb e => hnq (by rw [List.mem_singleton] at hb; rw [← hb, ← e]; exact ha)⟩
  · rcases List.mem_append.1 hw with h1 | h1
    · exact h.inq w h1
    · rw [List.mem_singleton.1 h1]; exact hj
  · have h1 : w ∉ q := fun e => hn (List.mem_append.2 (.inl e))
    have h2 : ¬ w = j := fun e => hn (List.mem_append.2 (.inr (by simp [e])))
    rw [hs, if_neg h2]; exact h.neg w hw h1
  · rcases List.mem_append.1 hw with h1 | h1
    · rw [hsq w h1]; exact h.dist w h1
    · rw [List.mem_singleton] at h1
      subst h1
      exact ⟨d + 1, by rw [hs, if_pos rfl, ed]; omega, hdj⟩
  · rw [hql] at h2
    rcases Nat.lt_or_eq_of_le (Nat.le_of_lt_succ h2) with h3 | rfl
    · rw [app_getD h3, app_getD (by omega : i1 < q.length), hsq _ (getD_mem' h3), hsq _ (getD_mem' (by omega))]
      exact h.sorted i1 i2 h1 h3
    · rw [app_last, hs j, if_pos rfl]
      rcases Nat.lt_or_eq_of_le h1 with h4 | rfl
      · rw [app_getD h4, hsq _ (getD_mem' h4)]
        exact h.close hat i1 h4
      · rw [app_last, hs j, if_pos rfl]; exact Int.le_refl _
  · rw [hql] at hi
    rw [app_getD hat, hsq _ (getD_mem' hat)]
    rcases Nat.lt_or_eq_of_le (Nat.le_of_lt_succ hi) with h3 | rfl
    · rw [app_getD h3, hsq _ (getD_mem' h3)]; exact h.close hat i h3
    · rw [app_last, hs j, if_pos rfl]; exact Int.le_refl _
  · rw [app_getD (by omega : i < q.length)] at hnw
    exact List.mem_append.2 (.inl (h.done i hi w hw hnw))
  · rw [app_getD hat] at hnw
    rcases Nat.lt_or_eq_of_le (Nat.le_of_lt_succ hw) with h1 | rfl
    · exact List.mem_append.2 (.inl (h.doing hat w h1 hwn hnw))
    · exact List.mem_append.2 (.inr (by simp))
theorem Bfs.next {m : Md} {u at' j : Nat} {o : List Int} {q : List Nat} (h : Bfs m u at' j o q) (hat : at' < q.length) (hj : m.facts.length ≤ j) : Bfs m u (at' + 1) 0 o q := by
  refine ⟨h.len, h.nod, h.inq, h.neg, h.dist, h.sorted, fun h1 i hi => ?_, fun i hi w hw hnw => ?_, fun _ w hw => absurd hw (Nat.not_lt_zero _), h.first, hat⟩
  · have h2 := h.close hat i hi
    have h3 := h.sorted at' (at' + 1) (by omega) h1
    omega
  · rcases Nat.lt_or_eq_of_le (Nat.le_of_lt_succ hi) with h1 | rfl
    · exact h.done i h1 w hw hnw
    · exact h.doing hat w (by omega) hw hnw
theorem Bfs.end_ {m : Md} {u at' j : Nat} {o : List Int} {q : List Nat} (h : Bfs m u at' j o q) (hat : q.length ≤ at') : o = spreadR m u := by
  have hall : ∀ k y, ballB m k u y = true → y ∈ q := fun k => by
    induction k with
    | zero =>
      intro y hy
      have : u = y := of_decide_eq_true hy
      subst this; exact h.first
    | succ k ih =>
      intro y hy
      obtain ⟨hyn, x, hx, e1, e2⟩ := ball_succ.1 hy
      obtain ⟨i, hi, rfl⟩ := mem_getD (ih x e1)
      exact h.done i (by omega) y hyn e2
  apply List.ext_getElem?
  intro w
  rcases Nat.lt_or_ge w m.facts.length with hw | hw
  · have h1 : o[w]? = some (o.getD w 0) := by rw [List.getD_eq_getElem?_getD, List.getElem?_eq_getElem (by rw [h.len]; exact hw)]; rfl
    have h2 : (spreadR m u)[w]? = some (match distB m u w with | some k => (k : Int) | none => -1) := by
      unfold spreadR; rw [List.getElem?_map, List.getElem?_range hw]; rfl
    rw [h1, h2]
    by_cases hq : w ∈ q
    · obtain ⟨d, e1, e2⟩ := h.dist w hq
      rw [e1, e2]
    · rw [h.neg w hw hq, show distB m u w = none from leastK_none.2 fun k _ => by
        cases e : ballB m k u w with
        | false => rfl
        | true => exact absurd (hall k w e) hq]
  · rw [List.getElem?_eq_none (by rw [h.len]; exact hw), List.getElem?_eq_none (by unfold spreadR; simpa using hw)]
end Go.Proofs.YthjfanhhindjlaaGreat
