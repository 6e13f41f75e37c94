/-
  Contracts of spec.l03Same, slices.Equal of two lists of ints: they tell whether the lists are equal.
-/
import Derived.Test.YtodjohdbngbpaaaGreatZMok
namespace Go.Proofs.YtodjohdbngbpaaaGreat
open Go.RowKit Go.WideShapes
open Go Go.Deep

theorem list_same {l l' : List Int} (h : l.length = l'.length) (hk : ∀ j, j < l.length → l.getD j 0 = l'.getD j 0) : l = l' := by
  apply List.ext_getElem? 
  intro j
  rcases Nat.lt_or_ge j l.length with hj | hj
  · rw [getD_some 0 hj, getD_some 0 (show j < l'.length by omega), hk j hj]
  · rw [List.getElem?_eq_none hj, List.getElem?_eq_none (by omega)]
theorem list_differ {l l' : List Int} (h : l.length ≠ l'.length) : decide (l = l') = false := decide_eq_false (fun e => h (by rw [e]))
theorem list_differ_at {l l' : List Int} {k : Nat} (h : l.getD k 0 ≠ l'.getD k 0) : decide (l = l') = false := decide_eq_false (fun e => h (by rw [e]))

set_option maxRecDepth 100000 in
set_option maxHeartbeats 4000000 in
theorem sliceEqual_any (lo hi lo' hi' : Nat) (u v : Value) (l l' : List Int) (w : World) (hu : Iv lo hi w u l) (hv : Iv lo' hi' w v l') :
    Calls Tryz.prog 66 #[u, v] w fun e w' => e = .returned (.bool (decide (l = l'))) ∧ ∃ n, w' = w.drewN n := by
  obtain ⟨a1, c1, rfl, hc1, hm1, h1⟩ := hu.parts
  obtain ⟨a2, c2, rfl, hc2, hm2, h2⟩ := hv.parts
  have K1 := Lib.hid h1
  have K2 := Lib.hid h2
  clear h1 h2 hu hv
  unfold maxLen at hm1 hm2
  obtain ⟨R, hR⟩ : ∃ R, R = decide (l = l') := ⟨_, rfl⟩
  rw [← hR]
  have HR := Lib.hid hR
  clear hR
  by_cases hl : l.length = l'.length
  · rw [← hl] at hc2 K2 ⊢
    have HL := Lib.hid hl
    clear hl
    go_enter Tryz.func66, Tryz.ntmps66
    go_wp2
    go_loopw [13] (fun i wr => ∃ k n : Nat, k ≤ l.length ∧ i = .int .i64 k ∧ wr = w.drewN n ∧ Hid (∀ j, j < k → l.getD j 0 = l'.getD j 0)) (fun i _ => l.length - (intOf i).toNat)
    case atStart => exact ⟨0, 0, Nat.zero_le _, rfl, rfl, Lib.hid (fun j hj => absurd hj (by omega))⟩
    case round =>
      obtain ⟨k, n, hk, rfl, rfl, HK⟩ := hrel
      by_cases hlt : k < l.length
      · obtain ⟨b1, o1, rfl, _, _, hb1, d0⟩ := K1.out k hlt
        obtain ⟨b2, o2, rfl, _, _, hb2, e0⟩ := K2.out k hlt
        have HY : Hid (l.getD k 0 = l'.getD k 0 → ∀ j, j < k + 1 → l.getD j 0 = l'.getD j 0) := Lib.hid (fun h j hj => by
          rcases Nat.lt_or_ge j k with h1 | h1
          · exact HK.out j h1
          · rw [show j = k by omega]; exact h)
        have HN : Hid (l.getD k 0 ≠ l'.getD k 0 → R = false) := Lib.hid (fun h => by rw [HR.out, list_differ_at h])
        generalize l.getD k 0 = x at d0 HY HN
        generalize l'.getD k 0 = y at e0 HY HN
        by_cases hxy : x = y
        · have HY2 := Lib.hid (HY.out hxy)
          have hne : (x != y) = false := by rw [hxy]; simp
          go_wp2
          go_quiet (fail)
          go_wp2
          go_roundw
          case rel => exact ⟨k + 1, _, by omega, by go_num, rfl, HY2⟩
          case measure => simp [intOf]; omega
        · have HN2 := Lib.hid (HN.out hxy)
          have hne : (x != y) = true := by rw [bne_iff_ne]; exact hxy
          go_wp2
          go_quiet (fail)
          go_wp2
          go_ret
          exact ⟨ret_bool HN2.out.symm, _, World.drewN_drewN ..⟩
      · obtain rfl : k = l.length := by omega
        go_wp2
        go_ret
        exact ⟨ret_bool (by rw [HR.out, decide_eq_true (list_same HL.out HK.out)]), _, rfl⟩
  · have HN : Hid (R = false) := Lib.hid (by rw [HR.out, list_differ hl])
    have hne : ((l.length : Int) != (l'.length : Int)) = true := by rw [bne_iff_ne]; omega
    go_enter Tryz.func66, Tryz.ntmps66
    go_wp2
    go_ret
    exact ⟨ret_bool HN.out.symm, 0, rfl⟩
end Go.Proofs.YtodjohdbngbpaaaGreat
