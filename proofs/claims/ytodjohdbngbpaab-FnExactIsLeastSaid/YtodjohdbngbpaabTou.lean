/-
  What LeastModel answers is least: all of its worlds are reached, it is alike with the model, and it is its own least one. Mathematics; no program but its types' numbers.
-/
import Derived.Test.YtodjohdbngbpaabTop
namespace Go.Proofs.Ytodjohdbngbpaab
open Go.RowKit Go.WideShapes
open Go Go.Deep
set_option linter.unusedSimpArgs false

theorem act_rest {m : Md} {ws : List Nat} (h0 : 0 ≤ m.actual) (ha : m.actual.toNat ∈ ws) : ∃ r, r < ws.length ∧ ws.getD r 0 = m.actual.toNat ∧ (restM m ws).actual = (r : Int) := by
  have hc : (nums ws).contains m.actual = true := nums_contains.2 ⟨_, ha, by omega⟩
  have hi := List.idxOf_lt_length_of_mem (List.contains_iff_mem.1 hc)
  have hg := List.getElem_idxOf hi
  have hl := hi
  rw [nums_len] at hl
  refine ⟨(nums ws).idxOf m.actual, hl, ?_, ?_⟩
  · have h3 : (nums ws).getD ((nums ws).idxOf m.actual) 0 = m.actual := by
      rw [List.getD_eq_getElem?_getD, List.getElem?_eq_getElem hi]; exact hg
    rw [getD_nums hl] at h3
    omega
  · show actIn m.actual ws = _
    unfold actIn; rw [if_pos hc]
theorem sorted_same : ∀ {a b : List Nat}, a.Pairwise (· < ·) → b.Pairwise (· < ·) → (∀ x, x ∈ a ↔ x ∈ b) → a = b
  | [], [], _, _, _ => rfl
  | [], y :: b, _, _, h => by have := (h y).2 (List.mem_cons_self ..); simp at this
  | x :: a, [], _, _, h => by have := (h x).1 (List.mem_cons_self ..); simp at this
  | x :: a, y :: b, ha, hb, h => by
    obtain ⟨ha1, ha2⟩ := List.pairwise_cons.1 ha
    obtain ⟨hb1, hb2⟩ := List.pairwise_cons.1 hb
    have e : x = y := by
      have h1 := (h x).1 (List.mem_cons_self ..)
      have h2 := (h y).2 (List.mem_cons_self ..)
      rcases List.mem_cons.1 h1 with h1 | h1
      · exact h1
      · rcases List.mem_cons.1 h2 with h2 | h2
        · exact h2.symm
        · have := ha1 y h2; have := hb1 x h1; omega
    subst e
    rw [sorted_same ha2 hb2 (fun z => ⟨fun hz => ?_, fun hz => ?_⟩)]
    · rcases List.mem_cons.1 ((h z).1 (List.mem_cons_of_mem _ hz)) with e | e
      · subst e; have := ha1 z hz; omega
      · exact e
    · rcases List.mem_cons.1 ((h z).2 (List.mem_cons_of_mem _ hz)) with e | e
      · subst e; have := hb1 z hz; omega
      · exact e
theorem pick_whole (b : List Int) : pick b (List.range b.length) = b := by
  unfold pick
  apply List.ext_getElem?
  intro i
  rw [List.getElem?_map]
  rcases Nat.lt_or_ge i b.length with h | h
  · rw [List.getElem?_range h, List.getElem?_eq_getElem h]
    simp [List.getD_eq_getElem?_getD, List.getElem?_eq_getElem h]
  · rw [List.getElem?_eq_none (by simpa using h), List.getElem?_eq_none h]; rfl
theorem rest_whole {m : Md} (hm : mdOk m = true) : restM m (List.range m.facts.length) = m := by
  obtain ⟨p1, p2, p3, p4, p5, p6, p7, p8⟩ := mdOk_parts hm
  obtain ⟨r, hr, hg, hact⟩ := act_rest (ws := List.range m.facts.length) p7 (List.mem_range.2 (by omega))
  rw [List.length_range] at hr
  rw [List.getD_eq_getElem?_getD, List.getElem?_range hr] at hg
  simp only [Option.getD_some] at hg
  have hrows : (rawRows m (List.range m.facts.length)).map num = m.blocks := by
    unfold rawRows
    rw [List.map_map]
    refine (List.map_congr_left fun b hb => ?_).trans (List.map_id _)
    obtain ⟨k, hk, rfl⟩ := List.getElem_of_mem hb
    have h := p5 k hk
    rw [List.getD_eq_getElem?_getD, List.getElem?_eq_getElem hk] at h
    simp only [Option.getD_some] at h
    show num (pick m.blocks[k] (List.range m.facts.length)) = m.blocks[k]
    rw [← h.1, pick_whole, num_of_ord h.2]
  have ha : (restM m (List.range m.facts.length)).actual = m.actual := by rw [hact]; omega
  have ha2 : actIn m.actual (List.range m.facts.length) = m.actual := ha
  unfold restM
  rw [ha2, hrows, pick_whole]
theorem reachSet_mem {m : Md} (hm : mdOk m = true) {v : Nat} : v ∈ reachSet m ↔ reachB m.blocks m.facts.length m.blocks.length m.actual.toNat v = true := by
  obtain ⟨p1, p2, p3, p4, p5, p6, p7, p8⟩ := mdOk_parts hm
  unfold reachSet
  rw [mem_lst]
  refine ⟨fun h => h.2, fun h => ⟨?_, h⟩⟩
  have := wsh_in (fun _ _ => stepP_in) (by omega) h
  omega
theorem reachSet_in {m : Md} (hm : mdOk m = true) {v : Nat} (h : v ∈ reachSet m) : v < m.facts.length := by
  obtain ⟨p1, p2, p3, p4, p5, p6, p7, p8⟩ := mdOk_parts hm
  exact wsh_in (fun _ _ => stepP_in) (by omega) ((reachSet_mem hm).1 h)
theorem reachSet_act {m : Md} (hm : mdOk m = true) : m.actual.toNat ∈ reachSet m := (reachSet_mem hm).2 (wsh_refl _ _ _)
theorem reachSet_near {m : Md} (hm : mdOk m = true) {v w k : Nat} (hk : k < m.blocks.length) (hv : v ∈ reachSet m) (hw : w < m.facts.length) (hs : sameW m k w v = true) : w ∈ reachSet m := by
  refine (reachSet_mem hm).2 (wsh_more (fun _ _ => stepP_in) ((reachSet_mem hm).1 hv) ?_)
  unfold stepP
  rw [decide_eq_true (reachSet_in hm hv), decide_eq_true hw, near_same]
  simp only [Bool.true_and]
  rw [List.any_eq_true]
  exact ⟨k, List.mem_range.2 hk, by rw [sameW_comm]; exact hs⟩
theorem rel_reach {m : Md} (hm : mdOk m = true) : Rel (restM m (reachSet m)) m (reachSet m) := by
  obtain ⟨p1, p2, _⟩ := mdOk_parts hm
  exact rel_restM p2 (lst_nodup _ _) fun i hi => reachSet_in hm hi
/-- a model and what is reached of it -/
theorem bis_reach {m : Md} (hm : mdOk m = true) : Bis m (restM m (reachSet m)) (fun v i => i < (reachSet m).length ∧ (reachSet m).getD i 0 = v) :=
  bis_closed (rel_reach hm) fun _ _ _ hk hv hw hs => reachSet_near hm hk hv hw hs
theorem ok_of_rel {m : Md} {ws : List Nat} (hm : mdOk m = true) (hn : ws.Nodup) (hw : ∀ i ∈ ws, i < m.facts.length) (ha : m.actual.toNat ∈ ws) : mdOk (restM m ws) = true := by
  obtain ⟨p1, p2, p3, p4, p5, p6, p7, p8⟩ := mdOk_parts hm
  obtain ⟨r, hr, _, hact⟩ := act_rest p7 ha
  have hl : ws.length ≤ m.facts.length := nodup_len m.facts.length ws hn hw
  obtain ⟨a1, a2, a3, a4, a5, a6, a7⟩ := rel_restM p2 hn hw
  rw [← specOk_mdOk]
  unfold specOk inB
  simp only [Bool.and_eq_true, decide_eq_true_eq, List.all_eq_true, List.mem_range, beq_iff_eq]
  rw [a1, a5, hact]
  refine ⟨⟨⟨⟨⟨by omega, by omega⟩, p3, p4⟩, by omega, by omega⟩, fun j hj => ?_⟩, fun k hk => ?_⟩
  · rw [a6 j hj]
    exact p6 _ (hw _ (getD_memN hj))
  · have e : (restM m ws).blocks.getD k [] = num (pick (m.blocks.getD k []) ws) := by
      show ((rawRows m ws).map num).getD k [] = _
      rw [List.getD_eq_getElem?_getD, List.getElem?_map, ← rawRows_get m ws hk, List.getD_eq_getElem?_getD, List.getElem?_eq_getElem (by rw [rawRows_len]; exact hk)]; rfl
    rw [e]
    exact ⟨by rw [num_len, pick_len], num_ord _⟩
theorem reach_ok {m : Md} (hm : mdOk m = true) : mdOk (restM m (reachSet m)) = true := ok_of_rel hm (lst_nodup _ _) (fun _ hi => reachSet_in hm hi) (reachSet_act hm)
theorem reachA_all (m : Md) {al : Nat → Bool} (h : ∀ i, i < m.facts.length → al i = true) (x y : Nat) : reachA m al x y = reachB m.blocks m.facts.length m.blocks.length x y := by
  refine wsh_congr (fun i j => ?_) _ _ _
  unfold stepA stepP
  by_cases e : j < m.facts.length
  · rw [h j e, Bool.and_true]
  · simp [e]
/-- in what is reached all is reached -/
theorem reach_full {m : Md} (hm : mdOk m = true) {i : Nat} (hi : i < (reachSet m).length) : reachB (restM m (reachSet m)).blocks (restM m (reachSet m)).facts.length (restM m (reachSet m)).blocks.length (restM m (reachSet m)).actual.toNat i = true := by
  obtain ⟨p1, p2, p3, p4, p5, p6, p7, p8⟩ := mdOk_parts hm
  obtain ⟨r, hr, hg, hact⟩ := act_rest p7 (reachSet_act hm)
  rw [hact, Int.toNat_natCast, reach_rel (rel_reach hm) hr hi, hg]
  have hT : ∀ v, reachB m.blocks m.facts.length m.blocks.length m.actual.toNat v = true → (memN (reachSet m) v && reachA m (memN (reachSet m)) m.actual.toNat v) = true := fun v h => by
    refine wsh_least (r := stepP m.blocks m.facts.length m.blocks.length) (T := fun v => memN (reachSet m) v && reachA m (memN (reachSet m)) m.actual.toNat v) (fun a b ha hs => ?_) ?_ h
    · simp only [Bool.and_eq_true] at ha ⊢
      have hb := stepP_in hs
      unfold stepP at hs
      simp only [Bool.and_eq_true, decide_eq_true_eq] at hs
      have hn := hs.2
      rw [near_same, List.any_eq_true] at hn
      obtain ⟨k, hk, e⟩ := hn
      have hbm : memN (reachSet m) b = true := decide_eq_true (reachSet_near hm (List.mem_range.1 hk) (of_decide_eq_true ha.1) hb.2 (by rw [sameW_comm]; exact e))
      exact ⟨hbm, wsh_more (fun _ _ => stepA_in) ha.2 (stepA_iff.2 ⟨hb.1, hb.2, hbm, k, List.mem_range.1 hk, e⟩)⟩
    · simp only [Bool.and_eq_true]
      exact ⟨decide_eq_true (reachSet_act hm), wsh_refl _ _ _⟩
  have := hT _ ((reachSet_mem hm).1 (getD_memN hi))
  simp only [Bool.and_eq_true] at this
  exact this.2
theorem lst_tot {n : Nat} {p : Nat → Bool} (hp : ∀ i, p i = true ↔ i < n) (h : n ≤ 16) : lst p 16 = List.range n := by
  unfold lst
  apply sorted_same
  · exact List.Pairwise.sublist List.filter_sublist List.pairwise_lt_range
  · exact List.pairwise_lt_range
  · intro x
    rw [List.mem_filter, List.mem_range, List.mem_range, hp]
    omega
/-- all worlds of the least model are reached, if all of the model are -/
theorem least_full {m : Md} (hm : mdOk m = true) (hr : ∀ i, i < m.facts.length → reachB m.blocks m.facts.length m.blocks.length m.actual.toNat i = true) {a : Nat} (ha : a < (leastOf m).facts.length) :
    reachB (leastOf m).blocks (leastOf m).facts.length (leastOf m).blocks.length (leastOf m).actual.toNat a = true := by
  obtain ⟨p1, p2, p3, p4, p5, p6, p7, p8⟩ := mdOk_parts hm
  have s := stable_last (m := m) p1
  rw [leastOf_len] at ha
  obtain ⟨f1, f2⟩ := first_in s.ord ha
  rw [s.len] at f1
  obtain ⟨b, hb, _, _⟩ := first_of s.ord (v := m.actual.toNat) (by rw [s.len]; omega)
  have hact : (leastOf m).actual.toNat = b := by show ((lastC m).getD m.actual.toNat 0).toNat = b; rw [hb]; rfl
  have h1 := hr _ f1
  rw [← reachA_all m (al := fun _ => true) (fun _ _ => rfl)] at h1
  obtain ⟨a', ⟨_, e⟩, h2⟩ := reach_bis (bis_least p1) (al := fun _ => true) (al' := fun _ => true) (fun _ _ _ => rfl) (v := m.actual.toNat) (w := b) ⟨by omega, hb⟩ h1
  rw [f2] at e
  have : a = a' := Int.ofNat.inj e
  subst this
  rw [reachA_all _ (fun _ _ => rfl)] at h2
  rw [hact]
  exact h2
/-- what LeastModel answers -/
theorem leastR_facts {m x : Md} (h : leastR m = some x) : mdOk m = true ∧ mdOk x = true ∧ isLeastR x = true ∧ leastR x = some x ∧ x.facts.length ≤ m.facts.length ∧
    Bis m x (fun v a => ∃ i, (i < (reachSet m).length ∧ (reachSet m).getD i 0 = v) ∧ i < (restM m (reachSet m)).facts.length ∧ (lastC (restM m (reachSet m))).getD i 0 = (a : Int)) ∧
    ∃ i, (i < (reachSet m).length ∧ (reachSet m).getD i 0 = m.actual.toNat) ∧ i < (restM m (reachSet m)).facts.length ∧ (lastC (restM m (reachSet m))).getD i 0 = ((x.actual.toNat : Nat) : Int) := by
  unfold leastR at h
  have hm : mdOk m = true := by
    cases e : mdOk m with
    | true => rfl
    | false => rw [if_neg (by rw [e]; decide)] at h; cases h
  rw [if_pos hm] at h
  cases h
  have hr := reach_ok hm
  obtain ⟨p1, p2, p3, p4, p5, p6, p7, p8⟩ := mdOk_parts hm
  obtain ⟨q1, q2, q3, q4, q5, q6, q7, q8⟩ := mdOk_parts hr
  have ho := leastOf_ok hr
  obtain ⟨t1, t2, t3, t4, t5, t6, t7, t8⟩ := mdOk_parts ho
  obtain ⟨a1, a2, a3, a4, a5, a6, a7⟩ := rel_reach hm
  have hfull := fun a (ha : a < (leastOf (restM m (reachSet m))).facts.length) => least_full hr (fun i hi => reach_full hm (by rw [← a1]; exact hi)) ha
  have hcls := fun a (ha : a < (leastOf (restM m (reachSet m))).facts.length) => least_apart q1 ha
  have hset : reachSet (leastOf (restM m (reachSet m))) = List.range (leastOf (restM m (reachSet m))).facts.length :=
    lst_tot (fun i => ⟨fun h => wsh_in (fun _ _ => stepP_in) (by omega) h, fun h => hfull i h⟩) t2
  have hlen : (leastOf (restM m (reachSet m))).facts.length ≤ m.facts.length := by
    rw [leastOf_len]
    have h1 := firsts_len (lastC (restM m (reachSet m)))
    rw [lastC_len, a1] at h1
    have h2 := nodup_len m.facts.length (reachSet m) a2 a3
    omega
  refine ⟨hm, ho, ?_, ?_, hlen, (bis_reach hm).comp (bis_least q1), ?_⟩
  · unfold isLeastR
    rw [ho, hset, List.length_range, Bool.true_and, Bool.and_eq_true, List.all_eq_true]
    exact ⟨fun w hw => by rw [hcls w (List.mem_range.1 hw)]; simp, by simp⟩
  · unfold leastR
    rw [if_pos ho, hset, rest_whole ho, least_self ho hcls]
  · obtain ⟨r, hr', hg, hact⟩ := act_rest p7 (reachSet_act hm)
    refine ⟨r, ⟨hr', hg⟩, by rw [a1]; exact hr', ?_⟩
    obtain ⟨b, hb, _, _⟩ := first_of (lastC_ord (restM m (reachSet m))) (v := r) (by rw [lastC_len, a1]; exact hr')
    have : (leastOf (restM m (reachSet m))).actual = (b : Int) := by
      show (lastC (restM m (reachSet m))).getD (restM m (reachSet m)).actual.toNat 0 = _
      rw [hact, Int.toNat_natCast]; exact hb
    rw [this, hb]; rfl
end Go.Proofs.Ytodjohdbngbpaab
