/-
  What the law FnModels rests on: models of some worlds, what is reached, told facts, in mathematics; the laws' helpers same and has. Conditions: the model is valid; the readings.
-/
import Derived.Test.YtgmpenchojnihaaGreatSme
import Derived.Test.YtgmpenchojnihaaGreatZSem
import Derived.Test.YtgmpenchojnihaaGreatRmy
import Derived.Test.YtgmpenchojnihaaGreatZRch
import Derived.Test.YtgmpenchojnihaaGreatZSet
import Derived.Test.YtgmpenchojnihaaGreatZMok
import Derived.Test.YtgmpenchojnihaaGreatEqf
namespace Go.Proofs.YtgmpenchojnihaaGreat
open Go.RowKit Go.WideShapes
open Go Go.Deep
set_option linter.unusedSimpArgs false

/-- an element is there -/
def hasB (l : List Int) (x : Int) : Bool := decide (x ∈ l)
set_option maxRecDepth 100000 in
set_option maxHeartbeats 4000000 in
theorem lawHas_any (lo hi : Nat) (v : Value) (l : List Int) (y : Int) (w : World) (hv : Iv lo hi w v l) :
    Calls Tryz.prog 41 #[v, .int .i64 y] w fun e w' => e = .returned (.bool (hasB l y)) ∧ w = w' := by
  obtain ⟨a1, c1, rfl, hc1, hm1, h1⟩ := hv.parts
  have K1 := Lib.hid h1
  clear h1 hv
  unfold maxLen at hm1
  obtain ⟨R, hR⟩ : ∃ R, R = hasB l y := ⟨_, rfl⟩
  rw [← hR]
  have HR := Lib.hid hR
  clear hR
  go_enter Tryz.func41, Tryz.ntmps41
  go_wp2
  go_loop [9] (fun i => ∃ k : Nat, k ≤ l.length ∧ i = .int .i64 k ∧ Hid (∀ j, j < k → l.getD j 0 ≠ y)) (fun i => l.length - (intOf i).toNat)
  case atStart => exact ⟨0, Nat.zero_le _, rfl, Lib.hid (fun j hj => absurd hj (by omega))⟩
  case round =>
    obtain ⟨k, hk, rfl, HK⟩ := hrel
    by_cases hlt : k < l.length
    · obtain ⟨b1, o1, rfl, _, _, hb1, d0⟩ := K1.out k hlt
      have HY : Hid (l.getD k 0 ≠ y → ∀ j, j < k + 1 → l.getD j 0 ≠ y) := Lib.hid (fun h j hj => by
        rcases Nat.lt_or_ge j k with h1 | h1
        · exact HK.out j h1
        · rw [show j = k by omega]; exact h)
      have HN : Hid (l.getD k 0 = y → R = true) := Lib.hid (fun h => by
        rw [HR.out]; unfold hasB
        refine decide_eq_true ?_
        rw [← h, List.getD_eq_getElem?_getD, List.getElem?_eq_getElem hlt]; exact List.getElem_mem _)
      generalize l.getD k 0 = x at d0 HY HN
      by_cases hxy : x = y
      · have HN2 := Lib.hid (HN.out hxy)
        have hne : (x == y) = true := by rw [hxy]; simp
        go_wp2
        go_ret
        exact ⟨ret_bool HN2.out.symm, rfl⟩
      · have HY2 := Lib.hid (HY.out hxy)
        have hne : (x == y) = false := by rw [beq_eq_false_iff_ne]; exact hxy
        go_wp2
        go_round
        case rel => exact ⟨k + 1, by omega, by go_num, HY2⟩
        case measure => simp [intOf]; omega
    · have HE : Hid (R = false) := Lib.hid (by
        rw [HR.out]; unfold hasB
        refine decide_eq_false fun hm => ?_
        obtain ⟨j, hj, e⟩ := List.getElem_of_mem hm
        refine HK.out j (by omega) ?_
        rw [List.getD_eq_getElem?_getD, List.getElem?_eq_getElem hj]; exact e)
      go_wp2
      go_ret
      exact ⟨ret_bool HE.out.symm, rfl⟩

theorem restM_ok {m : Md} {ws : List Nat} (hm : mdOk m = true) (hnd : ws.Nodup) (hw : ∀ i ∈ ws, i < m.facts.length) (ha : m.actual.toNat ∈ ws) : mdOk (restM m ws) = true := by
  obtain ⟨p1, p2, p3, p4, p5, p6, p7, p8⟩ := mdOk_parts hm
  have hl : ws.length ≤ m.facts.length := nodup_len m.facts.length ws hnd hw
  have hl1 : 1 ≤ ws.length := by cases ws with
    | nil => cases ha
    | cons x r => simp
  rw [← specOk_mdOk]
  unfold specOk inB
  simp only [Bool.and_eq_true, decide_eq_true_eq, List.all_eq_true, List.mem_range, beq_iff_eq]
  have hfl : (restM m ws).facts.length = ws.length := pick_len _ _
  have hbl : (restM m ws).blocks.length = m.blocks.length := by unfold restM; simp [rawRows_len]
  rw [hfl, hbl]
  have hc : (nums ws).contains m.actual = true := nums_contains.2 ⟨_, ha, by omega⟩
  have hact : (restM m ws).actual = ((nums ws).idxOf m.actual : Nat) := by
    show actIn m.actual ws = _
    unfold actIn; rw [if_pos hc]
  have hidx : (nums ws).idxOf m.actual < ws.length := by
    have := List.idxOf_lt_length_of_mem (List.contains_iff_mem.1 hc)
    rwa [nums_len] at this
  refine ⟨⟨⟨⟨⟨hl1, by omega⟩, p3, p4⟩, by rw [hact]; omega, by rw [hact]; omega⟩, fun j hj => ?_⟩, fun k hk => ?_⟩
  · have e : (restM m ws).facts.getD j 0 = m.facts.getD (ws.getD j 0) 0 := by
      show (pick m.facts ws).getD j 0 = _
      unfold pick
      rw [List.getD_eq_getElem?_getD, List.getElem?_map, List.getElem?_eq_getElem hj, List.getD_eq_getElem?_getD (l := ws), List.getElem?_eq_getElem hj]; rfl
    rw [e]
    exact p6 _ (hw _ (getD_memN hj))
  · have e : (restM m ws).blocks.getD k [] = num (pick (m.blocks.getD k []) ws) := by
      show ((rawRows m ws).map num).getD k [] = _
      rw [List.getD_eq_getElem?_getD, List.getElem?_map, ← rawRows_get m ws hk, List.getD_eq_getElem?_getD, List.getElem?_eq_getElem (by rw [rawRows_len]; exact hk)]; rfl
    rw [e]
    exact ⟨by rw [num_len, pick_len], num_ord _⟩
theorem lst_all {n : Nat} (h : n ≤ 16) : lst (fun i => decide (i < n)) 16 = List.range n := by
  rw [lst_16 (fun i hi => of_decide_eq_true hi) h]
  unfold lst
  rw [List.filter_eq_self]
  exact fun i hi => decide_eq_true (List.mem_range.1 hi)
end Go.Proofs.YtgmpenchojnihaaGreat
