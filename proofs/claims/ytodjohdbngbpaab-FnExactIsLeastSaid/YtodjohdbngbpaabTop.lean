/-
  What is alike stays so: in one class at every step, in the model of both, among the worlds of a set; the least model once more. Mathematics; no program but its types' numbers.
-/
import Derived.Test.YtodjohdbngbpaabZBis
namespace Go.Proofs.Ytodjohdbngbpaab
open Go.RowKit Go.WideShapes
open Go Go.Deep
set_option linter.unusedSimpArgs false

theorem rel_restM {m : Md} {us : List Nat} (h16 : m.facts.length ≤ 16) (hn : us.Nodup) (hu : ∀ i ∈ us, i < m.facts.length) : Rel (restM m us) m us := by
  refine ⟨by simp [restM, pick_len], hn, hu, h16, by simp [restM, rawRows_len], fun i hi => ?_, fun k hk i j hi hj => same_pick hk hi hj⟩
  unfold restM pick
  simp only
  rw [List.getD_eq_getElem?_getD, List.getElem?_map, List.getElem?_eq_getElem hi, List.getD_eq_getElem?_getD (l := us), List.getElem?_eq_getElem hi]; rfl
/-- what is alike is in one class at every step -/
theorem bis_cls {m : Md} {Z : Nat → Nat → Prop} (h : Bis m m Z) : ∀ j v w, Z v w → (clsAt m j).getD v 0 = (clsAt m j).getD w 0
  | 0, v, w, z => (num_same m.facts (h.dom _ _ z).1 (h.dom _ _ z).2).1 (h.facts v w z)
  | j + 1, v, w, z => by
    obtain ⟨hv, hw⟩ := h.dom _ _ z
    refine (finer_same hv hw).2 (tog_iff.2 ⟨bis_cls h j v w z, fun k hk x hx => ?_⟩)
    rw [Bool.eq_iff_iff, setB_in, setB_in]
    constructor
    · rintro ⟨v', hv', hs, e⟩
      obtain ⟨w', z', hs'⟩ := h.forth v w k v' z hk hv' hs
      exact ⟨w', (h.dom _ _ z').2, hs', by rw [← bis_cls h j v' w' z']; exact e⟩
    · rintro ⟨w', hw', hs, e⟩
      obtain ⟨v', z', hs'⟩ := h.back v w k w' z hk hw' hs
      exact ⟨v', (h.dom _ _ z').1, hs', by rw [bis_cls h j v' w' z']; exact e⟩
theorem bis_lastC {m : Md} {Z : Nat → Nat → Prop} (h : Bis m m Z) {v w : Nat} (z : Z v w) : (lastC m).getD v 0 = (lastC m).getD w 0 := bis_cls h _ v w z
theorem Bis.comp {m n o : Md} {Z Y : Nat → Nat → Prop} (h : Bis m n Z) (h' : Bis n o Y) : Bis m o (fun v x => ∃ w, Z v w ∧ Y w x) := by
  refine ⟨h.agents.trans h'.agents, fun v x ⟨w, z, y⟩ => ⟨(h.dom _ _ z).1, (h'.dom _ _ y).2⟩, fun v x ⟨w, z, y⟩ => (h.facts _ _ z).trans (h'.facts _ _ y), ?_, ?_⟩
  · rintro v x k v' ⟨w, z, y⟩ hk hv' hs
    obtain ⟨w', z', hs'⟩ := h.forth v w k v' z hk hv' hs
    obtain ⟨x', y', hs2⟩ := h'.forth w x k w' y (by rw [← h.agents]; exact hk) (h.dom _ _ z').2 hs'
    exact ⟨x', ⟨w', z', y'⟩, hs2⟩
  · rintro v x k x' ⟨w, z, y⟩ hk hx' hs
    obtain ⟨w', y', hs'⟩ := h'.back w x k x' y (by rw [← h.agents]; exact hk) hx' hs
    obtain ⟨v', z', hs2⟩ := h.back v w k w' z hk (h'.dom _ _ y').1 hs'
    exact ⟨v', ⟨w', z', y'⟩, hs2⟩
/-- the worlds of a set on both sides -/
theorem Bis.rest {m n m' n' : Md} {ws us : List Nat} {Z : Nat → Nat → Prop} (h : Bis m n Z) (r : Rel m' m ws) (r' : Rel n' n us) (hs : ∀ v w, Z v w → (v ∈ ws ↔ w ∈ us)) :
    Bis m' n' (fun i j => i < ws.length ∧ j < us.length ∧ Z (ws.getD i 0) (us.getD j 0)) := by
  obtain ⟨a1, a2, a3, a4, a5, a6, a7⟩ := r
  obtain ⟨b1, b2, b3, b4, b5, b6, b7⟩ := r'
  refine ⟨a5.trans (h.agents.trans b5.symm), fun i j ⟨hi, hj, _⟩ => ⟨by omega, by omega⟩, fun i j ⟨hi, hj, z⟩ => by rw [a6 i hi, b6 j hj]; exact h.facts _ _ z, ?_, ?_⟩
  · rintro i j k i' ⟨hi, hj, z⟩ hk hi' hsm
    rw [a1] at hi'
    rw [a5] at hk
    rw [a7 k hk i' i hi' hi] at hsm
    obtain ⟨w', z', hs'⟩ := h.forth _ _ k _ z hk (a3 _ (getD_memN hi')) hsm
    obtain ⟨j', hj', rfl⟩ := memN_get ((hs _ _ z').1 (getD_memN hi'))
    exact ⟨j', ⟨hi', hj', z'⟩, by rw [b7 k (by rw [← h.agents]; exact hk) j' j hj' hj]; exact hs'⟩
  · rintro i j k j' ⟨hi, hj, z⟩ hk hj' hsm
    rw [b1] at hj'
    rw [a5] at hk
    rw [b7 k (by rw [← h.agents]; exact hk) j' j hj' hj] at hsm
    obtain ⟨v', z', hs'⟩ := h.back _ _ k _ z hk (b3 _ (getD_memN hj')) hsm
    obtain ⟨i', hi', rfl⟩ := memN_get ((hs _ _ z').2 (getD_memN hj'))
    exact ⟨i', ⟨hi', hj', z'⟩, by rw [a7 k hk i' i hi' hi]; exact hs'⟩
/-- a model and the worlds of it that are closed under what is near -/
theorem bis_closed {m m' : Md} {ws : List Nat} (r : Rel m' m ws) (hc : ∀ v w k, k < m.blocks.length → v ∈ ws → w < m.facts.length → sameW m k w v = true → w ∈ ws) : Bis m m' (fun v i => i < ws.length ∧ ws.getD i 0 = v) := by
  obtain ⟨a1, a2, a3, a4, a5, a6, a7⟩ := r
  refine ⟨a5.symm, fun v i ⟨hi, e⟩ => ⟨by rw [← e]; exact a3 _ (getD_memN hi), by omega⟩, fun v i ⟨hi, e⟩ => by rw [a6 i hi, e], ?_, ?_⟩
  · rintro v i k v' ⟨hi, rfl⟩ hk hv' hs
    obtain ⟨i', hi', rfl⟩ := memN_get (hc _ v' k hk (getD_memN hi) hv' hs)
    exact ⟨i', ⟨hi', rfl⟩, by rw [a7 k hk i' i hi' hi]; exact hs⟩
  · rintro v i k i' ⟨hi, rfl⟩ hk hi' hs
    rw [a1] at hi'
    rw [a7 k hk i' i hi' hi] at hs
    exact ⟨_, ⟨hi', rfl⟩, hs⟩

/-- the model of both: which worlds are together -/
theorem both_len (m n : Md) : (bothM m n).facts.length = m.facts.length + n.facts.length := by unfold bothM; simp
theorem both_agents (m n : Md) : (bothM m n).blocks.length = m.blocks.length := by unfold bothM; simp
theorem bothRow_l {m n : Md} {k i : Nat} (h : i < (m.blocks.getD k []).length) : (bothRow m n k).getD i 0 = (m.blocks.getD k []).getD i 0 := by
  unfold bothRow; rw [List.getD_eq_getElem?_getD, List.getElem?_append_left h, ← List.getD_eq_getElem?_getD]
theorem bothRow_r {m n : Md} {k j : Nat} (h : j < (n.blocks.getD k []).length) : (bothRow m n k).getD ((m.blocks.getD k []).length + j) 0 = 16 + (n.blocks.getD k []).getD j 0 := by
  unfold bothRow
  generalize n.blocks.getD k [] = r at *
  rw [List.getD_eq_getElem?_getD, List.getElem?_append_right (by omega), Nat.add_sub_cancel_left, List.getElem?_map, List.getD_eq_getElem?_getD (l := r), List.getElem?_eq_getElem h]; rfl
structure Pair (m n : Md) : Prop where
  one : mdOk m = true
  two : mdOk n = true
  agents : m.blocks.length = n.blocks.length
theorem Pair.ll {m n : Md} (p : Pair m n) {k i j : Nat} (hk : k < m.blocks.length) (hi : i < m.facts.length) (hj : j < m.facts.length) : sameW (bothM m n) k i j = sameW m k i j := by
  obtain ⟨_, _, _, _, p5, _⟩ := mdOk_parts p.one
  obtain ⟨_, _, _, _, q5, _⟩ := mdOk_parts p.two
  have hl : (bothRow m n k).length = m.facts.length + n.facts.length := by unfold bothRow; rw [List.length_append, List.length_map, (p5 k hk).1, (q5 k (by rw [← p.agents]; exact hk)).1]
  unfold sameW
  rw [bothM_row hk, Bool.eq_iff_iff, beq_iff_eq, beq_iff_eq, ← num_same _ (by omega) (by omega), bothRow_l (by rw [(p5 k hk).1]; exact hi), bothRow_l (by rw [(p5 k hk).1]; exact hj)]
theorem Pair.rr {m n : Md} (p : Pair m n) {k i j : Nat} (hk : k < m.blocks.length) (hi : i < n.facts.length) (hj : j < n.facts.length) : sameW (bothM m n) k (m.facts.length + i) (m.facts.length + j) = sameW n k i j := by
  obtain ⟨_, _, _, _, p5, _⟩ := mdOk_parts p.one
  obtain ⟨_, _, _, _, q5, _⟩ := mdOk_parts p.two
  have q := (q5 k (by rw [← p.agents]; exact hk)).1
  have hl : (bothRow m n k).length = m.facts.length + n.facts.length := by unfold bothRow; rw [List.length_append, List.length_map, (p5 k hk).1, q]
  have e1 := bothRow_r (m := m) (n := n) (k := k) (j := i) (by rw [q]; exact hi)
  have e2 := bothRow_r (m := m) (n := n) (k := k) (j := j) (by rw [q]; exact hj)
  rw [(p5 k hk).1] at e1 e2
  unfold sameW
  rw [bothM_row hk, Bool.eq_iff_iff, beq_iff_eq, beq_iff_eq, ← num_same _ (by omega) (by omega), e1, e2]
  exact ⟨fun h => by omega, fun h => by omega⟩
theorem Pair.lr {m n : Md} (p : Pair m n) {k i j : Nat} (hk : k < m.blocks.length) (hi : i < m.facts.length) (hj : j < n.facts.length) : sameW (bothM m n) k i (m.facts.length + j) = false := by
  obtain ⟨_, p2, _, _, p5, _⟩ := mdOk_parts p.one
  obtain ⟨_, _, _, _, q5, _⟩ := mdOk_parts p.two
  have q := q5 k (by rw [← p.agents]; exact hk)
  have hl : (bothRow m n k).length = m.facts.length + n.facts.length := by unfold bothRow; rw [List.length_append, List.length_map, (p5 k hk).1, q.1]
  have e2 := bothRow_r (m := m) (n := n) (k := k) (j := j) (by rw [q.1]; exact hj)
  rw [(p5 k hk).1] at e2
  have b1 := ord_bd (p5 k hk).2 (getD_mem (l := m.blocks.getD k []) (i := i) (by rw [(p5 k hk).1]; exact hi))
  have b2 := ord_bd q.2 (getD_mem (l := n.blocks.getD k []) (i := j) (by rw [q.1]; exact hj))
  rw [(p5 k hk).1] at b1
  unfold sameW
  rw [bothM_row hk]
  refine beq_eq_false_iff_ne.2 fun h => ?_
  have h2 := (num_same _ (i := i) (j := m.facts.length + j) (by omega) (by omega)).2 h
  rw [bothRow_l (by rw [(p5 k hk).1]; exact hi), e2] at h2
  omega
theorem both_fl {m n : Md} {i : Nat} (h : i < m.facts.length) : (bothM m n).facts.getD i 0 = m.facts.getD i 0 := by
  show (m.facts ++ n.facts).getD i 0 = _
  rw [List.getD_eq_getElem?_getD, List.getElem?_append_left h, ← List.getD_eq_getElem?_getD]
theorem both_fr {m n : Md} {j : Nat} : (bothM m n).facts.getD (m.facts.length + j) 0 = n.facts.getD j 0 := by
  show (m.facts ++ n.facts).getD _ 0 = _
  rw [List.getD_eq_getElem?_getD, List.getElem?_append_right (by omega), Nat.add_sub_cancel_left, ← List.getD_eq_getElem?_getD]
theorem both_bis {m n : Md} (p : Pair m n) {Z : Nat → Nat → Prop} (h : Bis m n Z) : Bis (bothM m n) (bothM m n) (fun i j => ∃ w, j = m.facts.length + w ∧ Z i w) := by
  refine ⟨rfl, ?_, ?_, ?_, ?_⟩
  · rintro i j ⟨w, rfl, z⟩
    obtain ⟨h1, h2⟩ := h.dom _ _ z
    rw [both_len]
    omega
  · rintro i j ⟨w, rfl, z⟩
    rw [both_fl (h.dom _ _ z).1, both_fr]
    exact h.facts _ _ z
  · rintro i j k i' ⟨w, rfl, z⟩ hk hi' hs
    rw [both_agents] at hk
    rw [both_len] at hi'
    obtain ⟨h1, h2⟩ := h.dom _ _ z
    rcases Nat.lt_or_ge i' m.facts.length with hl | hl
    · rw [p.ll hk hl h1] at hs
      obtain ⟨w', z', hs'⟩ := h.forth i w k i' z hk hl hs
      exact ⟨_, ⟨w', rfl, z'⟩, by rw [p.rr hk (h.dom _ _ z').2 h2]; exact hs'⟩
    · obtain ⟨d, rfl⟩ : ∃ d, i' = m.facts.length + d := ⟨i' - m.facts.length, by omega⟩
      rw [sameW_comm, p.lr hk h1 (by omega)] at hs
      cases hs
  · rintro i j k j' ⟨w, rfl, z⟩ hk hj' hs
    rw [both_agents] at hk
    rw [both_len] at hj'
    obtain ⟨h1, h2⟩ := h.dom _ _ z
    rcases Nat.lt_or_ge j' m.facts.length with hl | hl
    · rw [p.lr hk hl h2] at hs
      cases hs
    · obtain ⟨d, rfl⟩ : ∃ d, j' = m.facts.length + d := ⟨j' - m.facts.length, by omega⟩
      rw [p.rr hk (by omega) h2] at hs
      obtain ⟨v', z', hs'⟩ := h.back i w k d z hk (by omega) hs
      exact ⟨v', ⟨d, rfl, z'⟩, by rw [p.ll hk (h.dom _ _ z').1 h1]; exact hs'⟩
/-- models whose actual worlds are alike are alike -/
theorem alike_of {m n : Md} (p : Pair m n) (hl : m.facts.length + n.facts.length ≤ 16) {Z : Nat → Nat → Prop} (h : Bis m n Z) (z : Z m.actual.toNat n.actual.toNat) : alikeR m n = true := by
  have hc := bis_lastC (both_bis p h) (v := m.actual.toNat) (w := m.facts.length + n.actual.toNat) ⟨_, rfl, z⟩
  unfold alikeR
  rw [p.one, p.two, p.agents, decide_eq_true hl, hc]
  simp

/-- the classes of the least model are its worlds -/
theorem least_apart {m : Md} (h1 : 1 ≤ m.facts.length) {a : Nat} (ha : a < (leastOf m).facts.length) : (lastC (leastOf m)).getD a 0 = (a : Int) := by
  have s := stable_last h1
  have hF : ∀ {b : Nat}, b < (leastOf m).facts.length → (firstsC (lastC m)).getD b 0 < m.facts.length ∧ (lastC m).getD ((firstsC (lastC m)).getD b 0) 0 = (b : Int) := fun {b} hb => by
    rw [leastOf_len] at hb
    have := first_in s.ord hb
    rw [s.len] at this
    exact this
  have hl1 : 1 ≤ (leastOf m).facts.length := by omega
  -- worlds of one class of the least model are one
  have hinj : ∀ a b, a < (leastOf m).facts.length → b < (leastOf m).facts.length → (lastC (leastOf m)).getD a 0 = (lastC (leastOf m)).getD b 0 → a = b := fun a b ha hb e => by
    have hB := ((bis_least h1).comp (bis_last hl1)).comp (bis_least h1).symm
    have hz := bis_lastC hB (v := (firstsC (lastC m)).getD a 0) (w := (firstsC (lastC m)).getD b 0) ⟨b, ⟨a, ⟨(hF ha).1, (hF ha).2⟩, ha, hb, e⟩, (hF hb).1, (hF hb).2⟩
    rw [(hF ha).2, (hF hb).2] at hz
    exact Int.ofNat.inj hz
  have hn : newP (lastC (leastOf m)) a = true := by
    obtain ⟨a1, a2⟩ := idC_get (l := lastC (leastOf m)) (k := a) (by rw [lastC_len]; exact ha)
    rw [lastC_len] at a1
    have := hinj _ a a1 ha a2
    unfold newP
    rw [this]
    simp
  rw [ord_new (lastC_ord _) (by rw [lastC_len]; exact ha) hn]
  have : lst (newP (lastC (leastOf m))) a = List.range a := by
    unfold lst
    rw [List.filter_eq_self]
    intro b hb
    have hb' : b < (leastOf m).facts.length := by have := List.mem_range.1 hb; omega
    obtain ⟨a1, a2⟩ := idC_get (l := lastC (leastOf m)) (k := b) (by rw [lastC_len]; exact hb')
    rw [lastC_len] at a1
    have := hinj _ b a1 hb' a2
    unfold newP
    rw [this]
    simp
  rw [this, List.length_range]
/-- a model whose worlds are its classes is its own least one -/
theorem least_self {m : Md} (hm : mdOk m = true) (hc : ∀ w, w < m.facts.length → (lastC m).getD w 0 = (w : Int)) : leastOf m = m := by
  obtain ⟨p1, p2, p3, p4, p5, p6, p7, p8⟩ := mdOk_parts hm
  have hF : firstsC (lastC m) = List.range m.facts.length := by
    unfold firstsC lst
    rw [lastC_len, List.filter_eq_self]
    intro b hb
    have hb' := List.mem_range.1 hb
    obtain ⟨a1, a2⟩ := idC_get (l := lastC m) (k := b) (by rw [lastC_len]; exact hb')
    rw [lastC_len] at a1
    rw [hc _ a1, hc b hb'] at a2
    have e : (lastC m).idxOf ((lastC m).getD b 0) = b := by rw [hc b hb']; exact Int.ofNat.inj a2
    unfold newP
    rw [e]
    simp
  have hg : ∀ a, a < m.facts.length → (List.range m.facts.length).getD a 0 = a := fun a h => by rw [List.getD_eq_getElem?_getD, List.getElem?_range h]; rfl
  have hrow : ∀ k, k < m.blocks.length → num (linkL m (lastC m) k) = m.blocks.getD k [] := fun k hk => by
    rw [← num_of_ord (p5 k hk).2]
    refine ((stable_last p1).num_link hk ?_ fun a b ha hb => ?_).symm
    · rw [hF, List.length_range]; exact (p5 k hk).1
    · rw [hF, List.length_range] at ha hb
      unfold linkC
      rw [hF, hg a ha, setB_in]
      constructor
      · intro e
        exact ⟨b, hb, by unfold sameW; rw [e]; simp, hc b hb⟩
      · rintro ⟨v, hv, hs, e⟩
        rw [hc v hv] at e
        have : v = b := Int.ofNat.inj e
        subst this
        unfold sameW at hs
        exact (beq_iff_eq.1 hs).symm
  have hpk : ∀ l : List Int, pick l (List.range l.length) = l := fun l => by
    unfold pick
    apply List.ext_getElem?
    intro i
    rw [List.getElem?_map]
    rcases Nat.lt_or_ge i l.length with h | h
    · rw [List.getElem?_range h, List.getElem?_eq_getElem h]
      simp [List.getD_eq_getElem?_getD, List.getElem?_eq_getElem h]
    · rw [List.getElem?_eq_none (by simpa using h), List.getElem?_eq_none h]; rfl
  have hact := hc m.actual.toNat (by omega)
  obtain ⟨fs, bl, act⟩ := m
  unfold leastOf
  simp only at *
  rw [hact, hF, hpk, Md.mk.injEq]
  refine ⟨rfl, ?_, by omega⟩
  apply List.ext_getElem?
  intro k
  rw [List.getElem?_map]
  rcases Nat.lt_or_ge k bl.length with h | h
  · rw [List.getElem?_range h, List.getElem?_eq_getElem h, Option.map_some, hrow k h, List.getD_eq_getElem?_getD, List.getElem?_eq_getElem h]; rfl
  · rw [List.getElem?_eq_none (by simpa using h), List.getElem?_eq_none h]; rfl
end Go.Proofs.Ytodjohdbngbpaab
