/-
  spec.IsSilent. No condition but the readings.
-/
import Derived.Test.YtodjohdbngbpaaaIsi
import Derived.Test.YtodjohdbngbpaaaTof
import Derived.Test.YtodjohdbngbpaaaZSem
namespace Go.Proofs.Ytodjohdbngbpaaa
open Go.RowKit Go.WideShapes
open Go Go.Deep
set_option linter.unusedSimpArgs false

set_option maxRecDepth 100000 in
set_option maxHeartbeats 16000000 in
theorem specSilent_any (lo hi : Nat) (v v2 : Value) (m : Md) (xs : List Nd) (w : World) (hr : Mv lo hi w v m) (hhi : hi ≤ w.heap.size) (hr2 : Ns w v2 xs) :
    Calls Try.prog 19 #[v, v2] w fun e w' => e = .returned (.bool (silentR m xs)) ∧ Below w.heap.size w w' := by
  have KT := Lib.hid (fun W (h : Below w.heap.size w W) => specTruthOf_any lo hi v v2 m xs W (hr.keeps (Keeps.of_all h)) (Nat.le_trans hhi h.size) (hr2.below h (Nat.le_refl _)))
  have KR := Lib.hid (fun x W (h : Below w.heap.size w W) => specReached_any lo hi v m x W (hr.keeps (Keeps.of_all h)))
  unfold BoolsAns2 at KT
  unfold IntsAns at KR
  obtain ⟨fv, bv, rfl, hf, hb⟩ := hr
  obtain ⟨a2, c2, rfl, -⟩ := hr2.parts
  clear hf hb hr2
  cases hok : evOk m xs with
  | false =>
    have HA : Hid (silentR m xs = false) := Lib.hid (by unfold silentR; rw [hok]; rfl)
    rw [hok] at KT
    clear KR hok
    go_enter Try.func19, Try.ntmps19
    go_wp2_with fail
    refine (KT.out _ (by go_grown)).mono ?_
    rintro e w1 ⟨vt, rfl, -, hb1⟩
    have B1 : Hid (Below w.heap.size w w1) := Lib.hid (Below.trans (by go_grown) (hb1.mono (by simp)))
    clear hb1
    go_wp2
    go_ret
    exact ⟨ret_bool HA.out.symm, B1.out⟩
  | true =>
    have HP := ok_len hok
    obtain ⟨-, p2, p3, p4, -, -, p7, p8⟩ := mdOk_parts (evOk_parts hok).1
    obtain ⟨act, hact⟩ := Int.eq_ofNat_of_zero_le p7
    have hin : inB (act : Int) m.facts.length = true := by unfold inB; simp; omega
    have hRR : reachR m m.actual = nums (lst (reachB m.blocks m.facts.length m.blocks.length act) 16) := by
      unfold reachR
      rw [hact, (evOk_parts hok).1, hin]; rfl
    have HA : Hid (silentR m xs = (lst (reachB m.blocks m.facts.length m.blocks.length act) 16).all (evP m xs)) := Lib.hid (by unfold silentR; rw [hok, hact]; rfl)
    have hgr : ∀ i, reachB m.blocks m.facts.length m.blocks.length act i = true → i < m.facts.length := fun i h => wsh_in (fun _ _ => stepP_in) (by omega) h
    have HTA : Hid (truthA m xs = truthR m xs) := Lib.hid (by unfold truthA; rw [if_pos hok])
    have HTL : Hid ((truthR m xs).length = m.facts.length) := Lib.hid (truthR_len m xs)
    have HTT := Lib.hid (fun i (h : i < m.facts.length) => truthR_at (xs := xs) h)
    have KR := Lib.hid (KR.out m.actual)
    rw [hRR] at KR
    rw [hok, HTA.out] at KT
    generalize reachB m.blocks m.facts.length m.blocks.length act = Q at *
    generalize truthR m xs = tl at *
    generalize evP m xs = P at *
    have HLQ : Hid (∀ k, k < (lst Q 16).length → ∃ i : Nat, i < m.facts.length ∧ (nums (lst Q 16)).getD k 0 = (i : Int) ∧ i ∈ lst Q 16) := Lib.hid (fun k hk => by
      refine ⟨(lst Q 16)[k], hgr _ (mem_lst.1 (List.getElem_mem hk)).2, nums_getD hk, List.getElem_mem hk⟩)
    have HAll : Hid ((∀ k, k < (lst Q 16).length → P ((nums (lst Q 16)).getD k 0).toNat = true) → silentR m xs = true) := Lib.hid (fun h => by
      rw [HA.out, List.all_eq_true]
      intro i hi
      obtain ⟨k, hk, rfl⟩ := List.getElem_of_mem hi
      have := h k hk
      rwa [nums_getD hk] at this)
    have HNo : Hid (∀ i, i ∈ lst Q 16 → P i = false → silentR m xs = false) := Lib.hid (fun i hi hp => by
      rw [HA.out, List.all_eq_false]
      exact ⟨i, hi, by rw [hp]; decide⟩)
    have hll : (lst Q 16).length ≤ 16 := lst_len _ _
    have HNL : Hid ((nums (lst Q 16)).length = (lst Q 16).length) := Lib.hid (nums_len _)
    generalize silentR m xs = sr at *
    clear HTA HA hRR hok hgr hin p2 p3 p4 p7 p8 hact
    generalize (lst Q 16).length = q at *
    generalize nums (lst Q 16) = ws at *
    obtain ⟨HP1, HP2⟩ := HP
    go_enter Try.func19, Try.ntmps19
    go_wp2_with fail
    refine (KT.out _ (by go_grown)).mono ?_
    rintro e w1 ⟨vt, rfl, hot, hb1⟩
    have X1 := Lib.hid (Mcell.below (b := w.heap.size) (Mcell.new (fv := fv) (bv := bv) (n := m.actual) rfl) hb1)
    have B1 : Hid (Below w.heap.size w w1) := Lib.hid (Below.trans (by go_grown) (hb1.mono (by simp)))
    obtain ⟨bt, ot, ct, rfl, qt, rt, kt⟩ := hot.read.kept (by rw [HTL.out]; omega)
    have KTT := Lib.hid kt
    rw [HTL.out] at qt ⊢
    unfold maxLen at rt
    clear hot kt hb1
    obtain ⟨c0, c1, c2', c3, c4, c5⟩ := X1.out
    go_wp2_with fail
    clear c0 c1 c2' c3 c4 c5
    refine (KR.out _ B1.out).mono ?_
    rintro e w2 ⟨vr, rfl, hor, hb2⟩
    have HT2 : Hid (∀ i, i < m.facts.length → w2.cell? ⟨bt, ot + i, none⟩ = some (.bool (P i))) := Lib.hid (fun i hi => by
      rw [KTT.out w2 hb2 i (by rw [HTL.out]; exact hi), HTT.out i hi])
    have B2 : Hid (Below w.heap.size w w2) := Lib.hid (B1.out.trans (hb2.mono B1.out.size))
    obtain ⟨ra, rc, e1, r1, r2, r3⟩ := hor.read.parts
    subst e1
    have HR3 := Lib.hid r3
    unfold maxLen at r2
    rw [HNL.out] at r1 ⊢
    clear hor hb2 r3 KT KR KTT HTT HTL X1 B1
    go_wp2
    go_loop [22] (fun iv => ∃ k : Nat, k ≤ q ∧ iv = .int .i64 k ∧ Hid (∀ j, j < k → P (ws.getD j 0).toNat = true)) (fun iv => q - (intOf iv).toNat)
    case atStart => exact ⟨0, Nat.zero_le _, rfl, Lib.hid (fun j hj => absurd hj (by omega))⟩
    case round =>
      obtain ⟨k, hk, rfl, HJ⟩ := hrel
      by_cases hlt : k < q
      · obtain ⟨rb, ro, rfl, -, -, -, hcell⟩ := HR3.out k (by rw [HNL.out]; exact hlt)
        obtain ⟨i, hi, hwi, him⟩ := HLQ.out k hlt
        have HWI := Lib.hid hwi
        rw [hwi] at hcell
        have htc := HT2.out i hi
        have HIM := Lib.hid him
        have i0 : (0 : Int) ≤ ((i : Nat) : Int) := Int.natCast_nonneg _
        have i1 : ((i : Nat) : Int) < ((m.facts.length : Nat) : Int) := by omega
        clear hwi him
        cases hb : P i with
        | true =>
          rw [hb] at htc
          have HB := Lib.hid hb
          clear hb
          go_wp2
          go_round
          case rel =>
            refine ⟨k + 1, by omega, by go_num, Lib.hid (fun j hj => ?_)⟩
            rcases Nat.lt_or_ge j k with h | h
            · exact HJ.out j h
            · obtain rfl : j = k := by omega
              rw [HWI.out]; exact HB.out
          case measure => simp [intOf]; omega
        | false =>
          rw [hb] at htc
          have HB := Lib.hid hb
          clear hb
          go_wp2
          go_ret
          exact ⟨ret_bool (HNo.out i HIM.out HB.out).symm, B2.out⟩
      · obtain rfl : k = q := by omega
        go_wp2
        go_ret
        exact ⟨ret_bool (HAll.out HJ.out).symm, B2.out⟩
end Go.Proofs.Ytodjohdbngbpaaa
