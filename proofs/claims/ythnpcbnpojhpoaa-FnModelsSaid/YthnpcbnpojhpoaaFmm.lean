/-
  What the law FnModels rests on: models of some worlds, what is reached, told facts, in mathematics; the laws' helpers same and has. Conditions: the model is valid; the readings.
-/
import Derived.Test.YthnpcbnpojhpoaaSme
import Derived.Test.YthnpcbnpojhpoaaLhs
import Derived.Test.YthnpcbnpojhpoaaZSem
import Derived.Test.YthnpcbnpojhpoaaRmy
import Derived.Test.YthnpcbnpojhpoaaZRch
import Derived.Test.YthnpcbnpojhpoaaZSet
import Derived.Test.YthnpcbnpojhpoaaZMok
import Derived.Test.YthnpcbnpojhpoaaEqf
namespace Go.Proofs.Ythnpcbnpojhpoaa
open Go.RowKit Go.WideShapes
open Go Go.Deep
set_option linter.unusedSimpArgs false

set_option maxRecDepth 100000 in
set_option maxHeartbeats 4000000 in
theorem lawSame_any (lo hi lo' hi' : Nat) (u v : Value) (l l' : List Int) (w : World) (hu : Iv lo hi w u l) (hv : Iv lo' hi' w v l') :
    Calls Try.prog 46 #[u, v] w fun e w' => e = .returned (.bool (decide (l = l'))) ∧ w = w' := by
  obtain ⟨a1, c1, rfl, hc1, hm1, h1⟩ := hu.parts
  obtain ⟨a2, c2, rfl, hc2, hm2, h2⟩ := hv.parts
  have K1 := Lib.hid h1
  have K2 := Lib.hid h2
  clear h1 h2 hu hv
  unfold maxLen at hm1 hm2
  obtain ⟨R, hR⟩ : ∃ R, R = decide (l = l') := ⟨_, rfl⟩
  rw [← hR]
  have HR := Lib.hid hR
  clear hR
  by_cases hl : l.length = l'.length
  · rw [← hl] at hc2 K2 ⊢
    have HL := Lib.hid hl
    clear hl
    go_enter Try.func46, Try.ntmps46
    go_wp2
    go_loop [14] (fun i => ∃ k : Nat, k ≤ l.length ∧ i = .int .i64 k ∧ Hid (∀ j, j < k → l.getD j 0 = l'.getD j 0)) (fun i => l.length - (intOf i).toNat)
    case atStart => exact ⟨0, Nat.zero_le _, rfl, Lib.hid (fun j hj => absurd hj (by omega))⟩
    case round =>
      obtain ⟨k, hk, rfl, HK⟩ := hrel
      by_cases hlt : k < l.length
      · obtain ⟨b1, o1, rfl, _, _, hb1, d0⟩ := K1.out k hlt
        obtain ⟨b2, o2, rfl, _, _, hb2, e0⟩ := K2.out k hlt
        have HY : Hid (l.getD k 0 = l'.getD k 0 → ∀ j, j < k + 1 → l.getD j 0 = l'.getD j 0) := Lib.hid (fun h j hj => by
          rcases Nat.lt_or_ge j k with h1 | h1
          · exact HK.out j h1
          · rw [show j = k by omega]; exact h)
        have HN : Hid (l.getD k 0 ≠ l'.getD k 0 → R = false) := Lib.hid (fun h => by rw [HR.out, list_differ_at h])
        generalize l.getD k 0 = x at d0 HY HN
        generalize l'.getD k 0 = y at e0 HY HN
        by_cases hxy : x = y
        · have HY2 := Lib.hid (HY.out hxy)
          have hne : (x != y) = false := by rw [hxy]; simp
          go_wp2
          go_round
          case rel => exact ⟨k + 1, by omega, by go_num, HY2⟩
          case measure => simp [intOf]; omega
        · have HN2 := Lib.hid (HN.out hxy)
          have hne : (x != y) = true := by rw [bne_iff_ne]; exact hxy
          go_wp2
          go_ret
          exact ⟨ret_bool HN2.out.symm, rfl⟩
      · obtain rfl : k = l.length := by omega
        go_wp2
        go_ret
        exact ⟨ret_bool (by rw [HR.out, decide_eq_true (list_same HL.out HK.out)]), rfl⟩
  · have HN : Hid (R = false) := Lib.hid (by rw [HR.out, list_differ hl])
    have hne : ((l.length : Int) != (l'.length : Int)) = true := by rw [bne_iff_ne]; omega
    go_enter Try.func46, Try.ntmps46
    go_wp2
    go_ret
    exact ⟨ret_bool HN.out.symm, rfl⟩

theorem restM_ok {m : Md} {ws : List Nat} (hm : mdOk m = true) (hnd : ws.Nodup) (hw : ∀ i ∈ ws, i < m.facts.length) (ha : m.actual.toNat ∈ ws) : mdOk (restM m ws) = true := by
  obtain ⟨p1, p2, p3, p4, p5, p6, p7, p8⟩ := mdOk_parts hm
  have hl : ws.length ≤ m.facts.length := nodup_len m.facts.length ws hnd hw
  have hl1 : 1 ≤ ws.length := by cases ws with
    | nil => cases ha
    | cons x r => simp
  rw [← specOk_mdOk]
  unfold specOk inB
  simp only [Bool.and_eq_true, decide_eq_true_eq, List.all_eq_true, List.mem_range, beq_iff_eq]
  have hfl : (restM m ws).facts.length = ws.length := pick_len _ _
  have hbl : (restM m ws).blocks.length = m.blocks.length := by unfold restM; simp [rawRows_len]
  rw [hfl, hbl]
  have hc : (nums ws).contains m.actual = true := nums_contains.2 ⟨_, ha, by omega⟩
  have hact : (restM m ws).actual = ((nums ws).idxOf m.actual : Nat) := by
    show actIn m.actual ws = _
    unfold actIn; rw [if_pos hc]
  have hidx : (nums ws).idxOf m.actual < ws.length := by
    have := List.idxOf_lt_length_of_mem (List.contains_iff_mem.1 hc)
    rwa [nums_len] at this
  refine ⟨⟨⟨⟨⟨hl1, by omega⟩, p3, p4⟩, by rw [hact]; omega, by rw [hact]; omega⟩, fun j hj => ?_⟩, fun k hk => ?_⟩
  · have e : (restM m ws).facts.getD j 0 = m.facts.getD (ws.getD j 0) 0 := by
      show (pick m.facts ws).getD j 0 = _
      unfold pick
      rw [List.getD_eq_getElem?_getD, List.getElem?_map, List.getElem?_eq_getElem hj, List.getD_eq_getElem?_getD (l := ws), List.getElem?_eq_getElem hj]; rfl
    rw [e]
    exact p6 _ (hw _ (getD_memN hj))
  · have e : (restM m ws).blocks.getD k [] = num (pick (m.blocks.getD k []) ws) := by
      show ((rawRows m ws).map num).getD k [] = _
      rw [List.getD_eq_getElem?_getD, List.getElem?_map, ← rawRows_get m ws hk, List.getD_eq_getElem?_getD, List.getElem?_eq_getElem (by rw [rawRows_len]; exact hk)]; rfl
    rw [e]
    exact ⟨by rw [num_len, pick_len], num_ord _⟩
theorem pick_all (b : List Int) : pick b (List.range b.length) = b := by
  unfold pick
  apply List.ext_getElem?
  intro i
  rw [List.getElem?_map]
  rcases Nat.lt_or_ge i b.length with h | h
  · rw [List.getElem?_range h, List.getElem?_eq_getElem h]
    simp [List.getD_eq_getElem?_getD, List.getElem?_eq_getElem h]
  · rw [List.getElem?_eq_none (by simpa using h), List.getElem?_eq_none h]; rfl
theorem lst_all {n : Nat} (h : n ≤ 16) : lst (fun i => decide (i < n)) 16 = List.range n := by
  rw [lst_16 (fun i hi => of_decide_eq_true hi) h]
  unfold lst
  rw [List.filter_eq_self]
  exact fun i hi => decide_eq_true (List.mem_range.1 hi)
theorem restM_all {m : Md} (hm : mdOk m = true) : restM m (List.range m.facts.length) = m := by
  obtain ⟨p1, p2, p3, p4, p5, p6, p7, p8⟩ := mdOk_parts hm
  obtain ⟨fs, bl, act⟩ := m
  simp only at p1 p2 p3 p4 p5 p6 p7 p8
  unfold restM
  simp only [pick_all, Md.mk.injEq, true_and]
  constructor
  · unfold rawRows
    rw [List.map_map]
    refine (List.map_congr_left fun b hb => ?_).trans (List.map_id _)
    obtain ⟨k, hk, rfl⟩ := List.getElem_of_mem hb
    have h := p5 k hk
    rw [List.getD_eq_getElem?_getD, List.getElem?_eq_getElem hk] at h
    simp only [Option.getD_some] at h
    simp only [Function.comp, id]
    rw [← h.1, pick_all]
    have h2 := h.2
    rw [ordOk_num] at h2
    exact of_decide_eq_true h2
  · unfold actIn
    have hc : (nums (List.range fs.length)).contains act = true := nums_contains.2 ⟨act.toNat, List.mem_range.2 (by omega), by omega⟩
    rw [if_pos hc]
    have hi := List.idxOf_lt_length_of_mem (List.contains_iff_mem.1 hc)
    have hg := List.getElem_idxOf hi
    rw [nums_len, List.length_range] at hi
    have h3 : (nums (List.range fs.length)).getD ((nums (List.range fs.length)).idxOf act) 0 = act := by
      rw [List.getD_eq_getElem?_getD, List.getElem?_eq_getElem (by rw [nums_len, List.length_range]; exact hi)]; exact hg
    rw [getD_nums (by rw [List.length_range]; exact hi), List.getD_eq_getElem?_getD, List.getElem?_range hi] at h3
    exact h3
theorem near_symm {rows : List (List Int)} {a i j : Nat} (h : near rows a i j = true) : near rows a j i = true := by
  unfold near at *
  rw [List.any_eq_true] at *
  obtain ⟨k, hk, e⟩ := h
  exact ⟨k, hk, by rw [beq_iff_eq] at *; exact e.symm⟩
theorem stepP_symm {rows : List (List Int)} {n a i j : Nat} (h : stepP rows n a i j = true) : stepP rows n a j i = true := by
  unfold stepP at *
  simp only [Bool.and_eq_true] at *
  exact ⟨⟨h.1.2, h.1.1⟩, near_symm h.2⟩
theorem reach_trans {rows : List (List Int)} {n a x y z : Nat} (h1 : reachB rows n a x y = true) (h2 : reachB rows n a y z = true) : reachB rows n a x z = true :=
  wsh_least (T := fun k => reachB rows n a x k) (fun _ _ hi hr => wsh_more (fun _ _ => stepP_in) hi hr) h1 h2
theorem reach_symm {rows : List (List Int)} {n a x y : Nat} (h : reachB rows n a x y = true) : reachB rows n a y x = true :=
  wsh_least (T := fun k => reachB rows n a k x) (fun _ _ hi hr => reach_trans (wsh_step n (stepP_symm hr)) hi) (wsh_refl _ _ _) h
theorem reach_cls {rows : List (List Int)} {n a x y : Nat} (h : reachB rows n a x y = true) : lst (reachB rows n a y) 16 = lst (reachB rows n a x) 16 :=
  lst_congr fun _ _ => by rw [Bool.eq_iff_iff]; exact ⟨fun e => reach_trans h e, fun e => reach_trans (reach_symm h) e⟩
theorem reach_in {m : Md} {x y : Nat} (hx : x < m.facts.length) (h : reachB m.blocks m.facts.length m.blocks.length x y = true) : y < m.facts.length := wsh_in (fun _ _ => stepP_in) hx h
theorem tell_ok {m : Md} (hm : mdOk m = true) (f : Nat) : mdOk (tellM m 0 f) = true := by
  obtain ⟨p1, p2, p3, p4, p5, p6, p7, p8⟩ := mdOk_parts hm
  rw [← specOk_mdOk]
  unfold specOk inB
  simp only [Bool.and_eq_true, decide_eq_true_eq, List.all_eq_true, List.mem_range, beq_iff_eq]
  unfold tellM
  simp only [List.length_set]
  refine ⟨⟨⟨⟨⟨p1, p2⟩, p3, p4⟩, p7, p8⟩, p6⟩, fun k hk => ?_⟩
  by_cases e : k = 0
  · subst e
    rw [List.getD_eq_getElem?_getD, List.getElem?_set_self (by omega)]
    simp only [Option.getD_some]
    exact ⟨by rw [num_len, splitL_len], num_ord _⟩
  · rw [List.getD_eq_getElem?_getD, List.getElem?_set_ne (by omega), ← List.getD_eq_getElem?_getD]
    exact p5 k hk
theorem same_self (m : Md) : sameM m m = true := by unfold sameM; simp
end Go.Proofs.Ythnpcbnpojhpoaa
