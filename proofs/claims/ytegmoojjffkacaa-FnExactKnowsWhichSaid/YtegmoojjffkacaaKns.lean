/-
  Contract of spec.KnowsWhich. No condition.
-/
import Derived.Test.YtegmoojjffkacaaKno
import Derived.Test.YtegmoojjffkacaaSbl
namespace Go.Proofs.Ytegmoojjffkacaa
open Go.RowKit Go.WideShapes
open Go Go.Deep
set_option linter.unusedSimpArgs false

theorem knows_no {m : Md} {k act w : Nat} (hw : w < m.facts.length) (h : knowsAt m k act w = false) : (List.range m.facts.length).all (knowsAt m k act) = false := by
  rw [List.all_eq_false]
  exact ⟨w, List.mem_range.2 hw, by rw [h]; decide⟩
theorem knows_yes {m : Md} {k act : Nat} (h : ∀ w, w < m.facts.length → knowsAt m k act w = true) : (List.range m.facts.length).all (knowsAt m k act) = true := by
  rw [List.all_eq_true]
  exact fun w hw => h w (List.mem_range.1 hw)

set_option maxRecDepth 100000 in
set_option maxHeartbeats 16000000 in
theorem specKnows_any (lo hi : Nat) (v : Value) (m : Md) (a : Int) (w : World) (hr : Mv lo hi w v m) :
    Calls Try.prog 59 #[v, .int .i64 a] w fun e w' => e = .returned (.bool (knowsR m a)) ∧ Below w.heap.size w w' := by
  have KS := Lib.hid (fun W (h : Below w.heap.size w W) => specOk_any lo hi v m W (hr.keeps (Keeps.of_all h)))
  rw [specOk_mdOk] at KS
  have HR : Hid (knowsR m a = (mdOk m && inB a m.blocks.length && (List.range m.facts.length).all (knowsAt m a.toNat m.actual.toNat))) := Lib.hid rfl
  generalize knowsR m a = R at *
  obtain ⟨fv, bv, rfl, hf, hb⟩ := hr
  obtain ⟨fa, fc, rfl⟩ := hf.form
  obtain ⟨ba, bc, rfl, hbl, hbc, -⟩ := hb.parts
  unfold maxLen at hbc
  cases hm : mdOk m with
  | false =>
    rw [hm] at KS HR
    have HR' : Hid (R = false) := Lib.hid (by rw [HR.out]; rfl)
    clear hm HR hf hb
    go_enter Try.func59, Try.ntmps59
    go_wp2_with fail
    refine (KS.out _ (by go_grown)).mono ?_
    rintro e w1 ⟨rfl, hb1⟩
    have B1 : Hid (Below w.heap.size w w1) := Lib.hid (Below.trans (by go_grown) (hb1.mono (by simp)))
    clear hb1
    go_wp2
    go_ret
    exact ⟨ret_bool HR'.out.symm, B1.out⟩
  | true =>
    rw [hm] at KS HR
    obtain ⟨p1, p2, p3, p4, p5, -, p7, p8⟩ := mdOk_parts hm
    have PR := Lib.hid (fun k hk => (p5 k hk).1)
    have HIN : Hid (∀ b, inB a m.blocks.length = b → R = (b && (List.range m.facts.length).all (knowsAt m a.toNat m.actual.toNat))) := Lib.hid (fun b h => by rw [HR.out, h]; rfl)
    clear HR hm p5
    rcases Int.lt_or_le a 0 with ha | ha
    · have HR' : Hid (R = false) := Lib.hid (HIN.out false (inB_low ha))
      have hd : decide (a < 0) = true := decide_eq_true ha
      clear HIN hf hb
      go_enter Try.func59, Try.ntmps59
      go_wp2_with fail
      refine (KS.out _ (by go_grown)).mono ?_
      rintro e w1 ⟨rfl, hb1⟩
      have B1 : Hid (Below w.heap.size w w1) := Lib.hid (Below.trans (by go_grown) (hb1.mono (by simp)))
      clear hb1
      go_wp2
      go_ret
      exact ⟨ret_bool HR'.out.symm, B1.out⟩
    · have hd : decide (a < 0) = false := decide_eq_false (by omega)
      obtain ⟨i, rfl⟩ := Int.eq_ofNat_of_zero_le ha
      rcases Nat.lt_or_ge i m.blocks.length with hil | hil
      case' inr =>
        have HR' : Hid (R = false) := Lib.hid (HIN.out false (inB_high (by omega)))
        have hd2 : decide ((m.blocks.length : Int) ≤ (i : Int)) = true := decide_eq_true (by omega)
        have hd3 : decide (m.blocks.length ≤ i) = true := decide_eq_true (by omega)
        clear HIN hf hb
        go_enter Try.func59, Try.ntmps59
        go_wp2_with fail
        refine (KS.out _ (by go_grown)).mono ?_
        rintro e w1 ⟨rfl, hb1⟩
        have X1 := Lib.hid (Mcell.below (b := w.heap.size) (Mcell.new rfl) hb1)
        have B1 : Hid (Below w.heap.size w w1) := Lib.hid (Below.trans (by go_grown) (hb1.mono (by simp)))
        clear hb1
        obtain ⟨c0, c1, c2, c3, c4, c5⟩ := X1.out
        go_wp2
        go_ret
        exact ⟨ret_bool HR'.out.symm, B1.out⟩
      case' inl =>
        obtain ⟨act, hact⟩ := Int.eq_ofNat_of_zero_le p7
        have HR' : Hid (R = (List.range m.facts.length).all (knowsAt m i act)) := Lib.hid (by rw [HIN.out true (inB_yes ha (by omega)), Int.toNat_natCast, hact, Int.toNat_natCast]; rfl)
        have hactn : act < m.facts.length := by omega
        have HACT := Lib.hid hact
        have hd2 : decide ((m.blocks.length : Int) ≤ (i : Int)) = false := decide_eq_false (by omega)
        have hd3 : decide (m.blocks.length ≤ i) = false := decide_eq_false (by omega)
        obtain ⟨fb, fo, e1⟩ := hf.addr (by omega)
        subst e1
        obtain ⟨a', cap', e1, hfl, hfc, -⟩ := hf.parts
        cases e1
        unfold maxLen at hfc
        have HCF : Hid (∀ W, Below w.heap.size w W → ∀ j, j < m.facts.length → W.cell? ⟨fb, fo + j, none⟩ = some (.int .i64 (m.facts.getD j 0))) := Lib.hid (fun W hW j hj => by
          obtain ⟨b', o', e, hc⟩ := hf.at' hW j hj
          cases e; exact hc)
        have HCB : Hid (∀ W, Below w.heap.size w W → ∃ b o ub uo uc, ba = some ⟨b, o, none⟩ ∧ m.facts.length ≤ uc ∧ uc ≤ 2 ^ 63 - 1 ∧ W.cell? ⟨b, o + i, none⟩ = some (.slice (some ⟨ub, uo, none⟩) m.facts.length uc) ∧ ub < w.heap.size ∧ ∀ W', Below w.heap.size w W' → ∀ j, j < m.facts.length → W'.cell? ⟨ub, uo + j, none⟩ = some (.int .i64 ((m.blocks.getD i []).getD j 0))) := Lib.hid (fun W hW => by
          obtain ⟨b, o, u, e, _, _, hlt, hc, hu⟩ := hb.row rfl i hil
          have hrl := PR.out i hil
          obtain ⟨ua, uc, e2, h1, h2, _⟩ := hu.parts
          subst e2
          obtain ⟨ub, uo, e2⟩ := hu.addr (by omega)
          subst e2
          obtain ⟨a', cap', e3, _, _, h4⟩ := hu.parts
          cases e3
          obtain ⟨b4, o4, e4, _, _, hlt4, _⟩ := h4 0 (by omega)
          cases e4
          refine ⟨b, o, ub, uo, uc, e, by omega, h2, (hW.cell (p := ⟨b, o + i, none⟩) hlt).trans (by rw [hc, hrl]), hlt4, fun W' hW' j hj => ?_⟩
          obtain ⟨b', o', e5, hc5⟩ := hu.at' hW' j (by omega)
          cases e5; exact hc5)
        clear HIN hf hb PR p7 p8
        rw [hact] at *
        go_enter Try.func59, Try.ntmps59
        go_wp2_with fail
        refine (KS.out _ (by go_grown)).mono ?_
        rintro e w1 ⟨rfl, hb1⟩
        have X1 := Lib.hid (Mcell.below (b := w.heap.size) (Mcell.new (n := (act : Int)) rfl) hb1)
        have B1 : Hid (Below w.heap.size w w1) := Lib.hid (Below.trans (by go_grown) (hb1.mono (by simp)))
        clear hb1
        obtain ⟨b, o, ub, uo, uc, rfl, huc, hucm, hcb, hubw, hrow⟩ := HCB.out _ B1.out
        have ROW := Lib.hid hrow
        have il : (i : Int) < (m.blocks.length : Int) := by omega
        clear hrow
        obtain ⟨c0, c1, c2, c3, c4, c5⟩ := X1.out
        go_wp2
        clear c0 c1 c2 c3 c4 c5 hcb
        go_loopw [30] (fun iv wr => ∃ k : Nat, k ≤ m.facts.length ∧ iv = .int .i64 k ∧ Hid (∀ j, j < k → knowsAt m i act j = true) ∧ Hid (Mcell wr w.heap.size (.slice (some ⟨fb, fo, none⟩) m.facts.length fc) (.slice (some ⟨b, o, none⟩) m.blocks.length bc) act) ∧ Hid (Below w.heap.size w wr)) (fun iv _ => m.facts.length - (intOf iv).toNat)
        case atStart => exact ⟨0, Nat.zero_le _, rfl, Lib.hid (fun j hj => by omega), X1, B1⟩
        case round =>
          clear X1 B1
          obtain ⟨k, hk, rfl, HK, XR, BR⟩ := hrel
          by_cases hlt : k < m.facts.length
          · have f1 := HCF.out _ BR.out k hlt
            have f2 := HCF.out _ BR.out act hactn
            have r1 := ROW.out _ BR.out k hlt
            have r2 := ROW.out _ BR.out act hactn
            have a0 : (0 : Int) ≤ (act : Int) := Int.natCast_nonneg _
            have an : (act : Int) < (m.facts.length : Int) := by omega
            have k0 : (0 : Int) ≤ (k : Int) := Int.natCast_nonneg _
            have kn : (k : Int) < (m.facts.length : Int) := by omega
            have HKA : Hid (knowsAt m i act k = (!((m.blocks.getD i []).getD k 0 == (m.blocks.getD i []).getD act 0) || (m.facts.getD k 0 == m.facts.getD act 0))) := Lib.hid rfl
            have HN : Hid (knowsAt m i act k = true → ∀ j, j < k + 1 → knowsAt m i act j = true) := Lib.hid (fun h j hj => by
              rcases Nat.lt_or_eq_of_le (Nat.le_of_lt_succ hj) with h1 | h1
              · exact HK.out j h1
              · subst h1; exact h)
            have HF : Hid (knowsAt m i act k = false → R = false) := Lib.hid (fun h => by rw [HR'.out, knows_no hlt h])
            obtain ⟨x1, e1⟩ : ∃ x, x = m.facts.getD k 0 := ⟨_, rfl⟩
            obtain ⟨x2, e2⟩ : ∃ x, x = m.facts.getD act 0 := ⟨_, rfl⟩
            obtain ⟨y1, e3⟩ : ∃ x, x = (m.blocks.getD i []).getD k 0 := ⟨_, rfl⟩
            obtain ⟨y2, e4⟩ : ∃ x, x = (m.blocks.getD i []).getD act 0 := ⟨_, rfl⟩
            rw [← e1] at f1 HKA
            rw [← e2] at f2 HKA
            rw [← e3] at r1 HKA
            rw [← e4] at r2 HKA
            clear e1 e2 e3 e4
            obtain ⟨q1, hq1⟩ : ∃ q, q = (y1 == y2) := ⟨_, rfl⟩
            obtain ⟨q2, hq2⟩ : ∃ q, q = (x1 == x2) := ⟨_, rfl⟩
            rw [← hq1, ← hq2] at HKA
            have t1 := hq1.symm
            have t2 : (x1 != x2) = !q2 := by rw [hq2]; rfl
            clear hq1 hq2
            obtain ⟨c0, c1, c2, c3, c4, c5⟩ := XR.out
            cases q1 with
            | false =>
              have HN' := Lib.hid (HN.out (by rw [HKA.out]; rfl))
              go_wp2
              go_quiet (fail)
              clear f1 f2 r1 r2 c0 c1 c2 c3 c4 c5 t1 t2
              go_wp2
              go_roundw
              case rel => exact ⟨k + 1, by omega, by go_num, HN', Lib.hid (XR.out.drewN _), Lib.hid (below_drewN' BR.out _)⟩
              case measure => simp [intOf]; omega
            | true =>
              cases q2 with
              | true =>
                have HN' := Lib.hid (HN.out (by rw [HKA.out]; rfl))
                go_wp2
                go_quiet (fail)
                clear f1 f2 r1 r2 c0 c1 c2 c3 c4 c5 t1 t2
                go_wp2
                go_roundw
                case rel => exact ⟨k + 1, by omega, by go_num, HN', Lib.hid (XR.out.drewN _), Lib.hid (below_drewN' BR.out _)⟩
                case measure => simp [intOf]; omega
              | false =>
                have HF' := Lib.hid (HF.out (by rw [HKA.out]; rfl))
                go_wp2
                go_quiet (fail)
                clear f1 f2 r1 r2 c0 c1 c2 c3 c4 c5 t1 t2
                go_wp2
                go_ret
                exact ⟨ret_bool HF'.out.symm, below_drewN' BR.out _⟩
          · go_wp2
            go_ret
            exact ⟨ret_bool (by rw [HR'.out, knows_yes (fun j hj => HK.out j (by omega))]), BR.out⟩
end Go.Proofs.Ytegmoojjffkacaa
