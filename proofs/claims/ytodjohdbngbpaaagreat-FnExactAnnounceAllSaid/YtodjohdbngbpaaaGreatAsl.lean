/-
  spec.AnnounceAll: formulas announced in order. No condition but the readings.
-/
import Derived.Test.YtodjohdbngbpaaaGreatZAnn
import Derived.Test.YtodjohdbngbpaaaGreatZMok
namespace Go.Proofs.YtodjohdbngbpaaaGreat
open Go.RowKit Go.WideShapes
open Go Go.Deep
set_option linter.unusedSimpArgs false

set_option maxRecDepth 100000 in
set_option maxHeartbeats 16000000 in
theorem specAnnAll_any (lo hi lo2 hi2 : Nat) (v v2 : Value) (m : Md) (ll : List (List Nd)) (w : World) (hr : Mv lo hi w v m) (hhi : hi ≤ w.heap.size) (hr2 : Nvv lo2 hi2 w v2 ll) :
    Calls Tryz.prog 43 #[v, v2] w (MdAns2 w (annAllR m ll)) := by
  have KG := Lib.hid (fun W (h : Below w.heap.size w W) => specOk_any lo hi v m W (hr.keeps (Keeps.of_all h)))
  have KM := Lib.hid (fun (hm : mdOk m = true) W (h : Below w.heap.size w W) => specCopy_any lo hi v m W (hr.keeps (Keeps.of_all h)) (Nat.le_trans hhi h.size) hm)
  rw [specOk_mdOk] at KG
  obtain ⟨a2, c2, rfl, q1, q2, q3⟩ := hr2.parts
  have H2 := Lib.hid q3
  unfold maxLen at q2
  obtain ⟨fv, bv, rfl, hf, hb⟩ := hr
  clear hf hb hr2 q3
  by_cases hbad : mdOk m = false ∨ 20 < ll.length
  · have HA : Hid (annAllR m ll = none) := Lib.hid (by
      unfold annAllR
      rcases hbad with h | h
      · rw [h]; rfl
      · rw [decide_eq_false (p := ll.length ≤ 20) (by omega), Bool.and_false]; rfl)
    have hdec : mdOk m = false ∨ (mdOk m = true ∧ decide ((20 : Int) < (ll.length : Int)) = true) := by
      cases h : mdOk m with
      | false => exact .inl rfl
      | true => exact .inr ⟨rfl, decide_eq_true (by have := hbad.resolve_left (by rw [h]; decide); omega)⟩
    clear hbad H2 KM
    rcases hdec with hm | ⟨hm, d20⟩
    · rw [hm] at KG
      clear hm
      go_enter Tryz.func43, Tryz.ntmps43
      go_wp2_with fail
      refine (KG.out _ (by go_grown)).mono ?_
      rintro e w1 ⟨rfl, hb1⟩
      have M1 := Lib.hid (Mcell.below (b := w.heap.size + 1) (Mcell.new (by simp)) hb1)
      have B1 : Hid (Below w.heap.size w w1) := Lib.hid (Below.trans (by go_grown) (hb1.mono (by simp; omega)))
      have lt1 : w.heap.size + 1 < w1.heap.size := M1.out.lt
      clear hb1
      obtain ⟨mc0, mc1, mc2, mc3, mc4, mc5⟩ := M1.out
      go_wp2
      clear mc0 mc1 mc2 mc3 mc4 mc5
      have M6 := M1.out.write (.slice none 0 0) (.slice none 0 0) 0
      refine bodyPost_ret (results_mid2 Tryz.results43 _ _ (w.heap.size + 1) _ _ (.bool false) rfl rfl M6.range Tryz.underlying26 rfl Tryz.sizeMd) rfl ?_
      rw [HA.out]
      exact ⟨_, rfl, Mo.none _ _ _, ((B1.out.setCell (by show _ ≤ w.heap.size + 1; omega) _).setCell (by show _ ≤ w.heap.size + 1; omega) _).setCell (by show _ ≤ w.heap.size + 1; omega) _⟩
    · rw [hm] at KG
      clear hm
      go_enter Tryz.func43, Tryz.ntmps43
      go_wp2_with fail
      refine (KG.out _ (by go_grown)).mono ?_
      rintro e w1 ⟨rfl, hb1⟩
      have M1 := Lib.hid (Mcell.below (b := w.heap.size + 1) (Mcell.new (by simp)) hb1)
      have B1 : Hid (Below w.heap.size w w1) := Lib.hid (Below.trans (by go_grown) (hb1.mono (by simp; omega)))
      have lt1 : w.heap.size + 1 < w1.heap.size := M1.out.lt
      clear hb1
      obtain ⟨mc0, mc1, mc2, mc3, mc4, mc5⟩ := M1.out
      go_wp2
      clear mc0 mc1 mc2 mc3 mc4 mc5
      have M6 := M1.out.write (.slice none 0 0) (.slice none 0 0) 0
      refine bodyPost_ret (results_mid2 Tryz.results43 _ _ (w.heap.size + 1) _ _ (.bool false) rfl rfl M6.range Tryz.underlying26 rfl Tryz.sizeMd) rfl ?_
      rw [HA.out]
      exact ⟨_, rfl, Mo.none _ _ _, ((B1.out.setCell (by show _ ≤ w.heap.size + 1; omega) _).setCell (by show _ ≤ w.heap.size + 1; omega) _).setCell (by show _ ≤ w.heap.size + 1; omega) _⟩
  · have hm : mdOk m = true := by
      cases h : mdOk m with
      | true => rfl
      | false => exact absurd (.inl h) hbad
    have hl20 : ll.length ≤ 20 := by
      rcases Nat.lt_or_ge 20 ll.length with h | h
      · exact absurd (.inr h) hbad
      · exact h
    have HA : Hid (annAllR m ll = annList m ll) := Lib.hid (by unfold annAllR; rw [hm, decide_eq_true hl20]; rfl)
    have KM := Lib.hid (KM.out hm)
    rw [hm] at KG
    have d20 : decide ((20 : Int) < (ll.length : Int)) = false := decide_eq_false (by omega)
    have HN := Lib.hid (fun (M : Md) (k : Nat) => annList_none (M := M) (ll := ll) (k := k))
    have HS := Lib.hid (fun (M R : Md) (k : Nat) => annList_some (M := M) (R := R) (ll := ll) (k := k))
    have HE : Hid (annList m ll = annList m (ll.drop 0)) := Lib.hid rfl
    have HEE : Hid (∀ M, annList M (ll.drop ll.length) = some M) := Lib.hid (fun M => by rw [List.drop_of_length_le (Nat.le_refl _)]; rfl)
    generalize annAllR m ll = RES at *
    clear hbad hm
    go_enter Tryz.func43, Tryz.ntmps43
    go_wp2_with fail
    refine (KG.out _ (by go_grown)).mono ?_
    rintro e w1 ⟨rfl, hb1⟩
    have X1 := Lib.hid (Mcell.below (b := w.heap.size) (Mcell.alloc (Mcell.new (w := w) (T := 26) (b := w.heap.size) (fv := fv) (bv := bv) (n := m.actual) rfl) (.cells #[.slice none 0 0, .slice none 0 0, .int .i64 0] 26)) hb1)
    have M1 := Lib.hid (Mcell.below (b := w.heap.size + 1) (Mcell.new (by simp)) hb1)
    have B1 : Hid (Below w.heap.size w w1) := Lib.hid (Below.trans (by go_grown) (hb1.mono (by simp; omega)))
    have lt1 : w.heap.size + 1 < w1.heap.size := M1.out.lt
    clear hb1
    obtain ⟨x0, x1, x2, x3, x4, x5⟩ := X1.out
    go_wp2_with fail
    clear x0 x1 x2 x3 x4 x5
    refine (KM.out _ B1.out).mono ?_
    rintro e w4 ⟨v4, rfl, ho4, hb4⟩
    have M1 := Lib.hid (M1.out.below hb4)
    have B1 := Lib.hid (B1.out.trans (hb4.mono B1.out.size))
    have lt4 : w.heap.size + 1 < w4.heap.size := M1.out.lt
    have O4 := Lib.hid (ho4.wide (lo' := w.heap.size + 2) (by omega) (Nat.le_refl _))
    obtain ⟨qa, qc, pa, pc, e4⟩ := ho4.read.form
    subst e4
    clear ho4 hb4 X1
    have hb8 : Below w4.heap.size w4 (w4.alloc (.cells #[.slice qa m.facts.length qc, .slice pa m.blocks.length pc, .int .i64 m.actual] 26)) := (Below.refl _ _).alloc (Nat.le_refl _) _
    have M1 := Lib.hid (M1.out.below hb8)
    have O4 := Lib.hid ((O4.out.keeps (Keeps.of_all hb8)).wide (Nat.le_refl _) hb8.size)
    have B1 := Lib.hid (B1.out.trans (hb8.mono B1.out.size))
    have X8 : Hid (Mcell (w4.alloc (.cells #[.slice qa m.facts.length qc, .slice pa m.blocks.length pc, .int .i64 m.actual] 26)) w4.heap.size (.slice qa m.facts.length qc) (.slice pa m.blocks.length pc) m.actual) := Lib.hid (Mcell.new rfl)
    clear hb8 KG KM
    go_wp2
    go_loopw [24] (fun iv wr => ∃ (k : Nat) (M : Md) (fa ba : Option Addr) (fc bc : Nat), k ≤ ll.length ∧ iv = .int .i64 k ∧ Hid (RES = annList M (ll.drop k)) ∧ Hid (Mo (w.heap.size + 2) wr.heap.size wr (.agg #[.slice fa M.facts.length fc, .slice ba M.blocks.length bc, .int .i64 M.actual]) M) ∧ Hid (Mcell wr w4.heap.size (.slice fa M.facts.length fc) (.slice ba M.blocks.length bc) M.actual) ∧ Hid (Mcell wr (w.heap.size + 1) (.slice none 0 0) (.slice none 0 0) 0) ∧ Hid (Below w.heap.size w wr)) (fun iv _ => ll.length - (intOf iv).toNat)
    case atStart => exact ⟨0, m, qa, pa, qc, pc, Nat.zero_le _, rfl, Lib.hid (by rw [HA.out, HE.out]), O4, X8, M1, B1⟩
    case round =>
      clear O4 X8 M1 B1
      obtain ⟨k, M, fa, ba, fc, bc, hk, rfl, HJ, HO, HX, HM, HB⟩ := hrel
      by_cases hlt : k < ll.length
      · obtain ⟨b, o, u, rfl, -, -, hb, hc0, hu⟩ := H2.out k hlt
        rw [← HB.out.cell (p := ⟨b, o + k, none⟩) hb] at hc0
        obtain ⟨ua, uc, rfl, -⟩ := hu.parts
        have hu2 := hu.below HB.out (Nat.le_refl _)
        have KA := Lib.hid (specAnn_any (w.heap.size + 2) wr.heap.size _ _ M (ll.getD k []) wr HO.out.read (Nat.le_refl _) hu2)
        have HN := Lib.hid (HN.out M k hlt)
        have HS := Lib.hid (fun R => HS.out M R k hlt)
        clear hu hu2
        generalize ll.getD k [] = f at *
        unfold MdAns2 at KA
        cases hR : annR M f with
        | none =>
          have HR : Hid (RES = none) := Lib.hid (by rw [HJ.out, HN.out hR])
          rw [hR] at KA
          simp only [Option.getD_none, Option.isSome_none] at KA
          clear hR HN HS HJ HO
          have ltx : w4.heap.size < wr.heap.size := HX.out.lt
          obtain ⟨x0, x1, x2, x3, x4, x5⟩ := HX.out
          go_wp2_with fail
          clear x0 x1 x2 x3 x4 x5 hc0
          refine KA.out.mono ?_
          rintro e w5 ⟨v5, rfl, ho5, hb5⟩
          have HX := Lib.hid (HX.out.below hb5)
          have HM := Lib.hid (HM.out.below hb5)
          have HB := Lib.hid (HB.out.trans (hb5.mono HB.out.size))
          have lt5 : wr.heap.size ≤ w5.heap.size := hb5.size
          obtain ⟨ga, gc, da, dc, e5⟩ := ho5.read.form
          subst e5
          have HO := Lib.hid ho5
          clear hb5 KA ho5
          obtain ⟨x0, x1, x2, x3, x4, x5⟩ := HX.out
          obtain ⟨y0, y1, y2, y3, y4, y5⟩ := HM.out
          have hne : ¬ w4.heap.size = w.heap.size + 1 := by omega
          have ltx5 : w4.heap.size < w5.heap.size := HX.out.lt
          have lty5 : w.heap.size + 1 < w5.heap.size := HM.out.lt
          go_wp2
          clear x0 x1 x2 x3 x4 x5 y0 y1 y2 y3 y4 y5
          have M6 := (HM.out.write (.slice none 0 0) (.slice none 0 0) 0).alloc (.cells #[.slice ga 0 gc, .slice da 0 dc, .int .i64 0] 26)
          have B6 := ((HB.out.setCell (p := ⟨w.heap.size + 1, 0, none⟩) (by show _ ≤ w.heap.size + 1; omega) (.slice none 0 0)).setCell (p := ⟨w.heap.size + 1, 1, none⟩) (by show _ ≤ w.heap.size + 1; omega) (.slice none 0 0)).setCell (p := ⟨w.heap.size + 1, 2, none⟩) (by show _ ≤ w.heap.size + 1; omega) (.int .i64 0)
          refine bodyPost_ret (results_mid2 Tryz.results43 _ _ (w.heap.size + 1) _ _ (.bool false) rfl rfl M6.range Tryz.underlying26 rfl Tryz.sizeMd) rfl ?_
          rw [HR.out]
          exact ⟨_, rfl, Mo.none _ _ _, B6.alloc B6.size _⟩
        | some R =>
          have HR : Hid (RES = annList R (ll.drop (k + 1))) := Lib.hid (by rw [HJ.out, HS.out R hR])
          rw [hR] at KA
          simp only [Option.getD_some, Option.isSome_some] at KA
          clear hR HN HS HJ HO
          have ltx : w4.heap.size < wr.heap.size := HX.out.lt
          obtain ⟨x0, x1, x2, x3, x4, x5⟩ := HX.out
          go_wp2_with fail
          clear x0 x1 x2 x3 x4 x5 hc0
          refine KA.out.mono ?_
          rintro e w5 ⟨v5, rfl, ho5, hb5⟩
          have HX := Lib.hid (HX.out.below hb5)
          have HM := Lib.hid (HM.out.below hb5)
          have HB := Lib.hid (HB.out.trans (hb5.mono HB.out.size))
          have lt5 : wr.heap.size ≤ w5.heap.size := hb5.size
          obtain ⟨ga, gc, da, dc, e5⟩ := ho5.read.form
          subst e5
          have HO := Lib.hid ho5
          clear hb5 KA ho5
          obtain ⟨x0, x1, x2, x3, x4, x5⟩ := HX.out
          obtain ⟨y0, y1, y2, y3, y4, y5⟩ := HM.out
          have hne : ¬ w4.heap.size = w.heap.size + 1 := by omega
          have ltx5 : w4.heap.size < w5.heap.size := HX.out.lt
          have lty5 : w.heap.size + 1 < w5.heap.size := HM.out.lt
          go_wp2
          clear x0 x1 x2 x3 x4 x5 y0 y1 y2 y3 y4 y5
          go_roundw
          case rel =>
            have hbne : w.heap.size + 1 ≠ w4.heap.size := fun h => hne h.symm
            obtain ⟨o6, m6⟩ := ans_put2 (m := R) HX.out HO.out ltx
            have hm6 := ((HM.out.other hbne 0 (.slice ga R.facts.length gc)).other hbne 1 (.slice da R.blocks.length dc)).other hbne 2 (.int .i64 R.actual)
            have hb6 := ((HB.out.setCell (p := ⟨w4.heap.size, 0, none⟩) (by show _ ≤ w4.heap.size; omega) (.slice ga R.facts.length gc)).setCell (p := ⟨w4.heap.size, 1, none⟩) (by show _ ≤ w4.heap.size; omega) (.slice da R.blocks.length dc)).setCell (p := ⟨w4.heap.size, 2, none⟩) (by show _ ≤ w4.heap.size; omega) (.int .i64 R.actual)
            exact ⟨k + 1, R, ga, da, gc, dc, by omega, by go_num, HR, Lib.hid ((o6.keeps (Keeps.of_all ((Below.refl _ _).alloc (Nat.le_refl _) _))).wide (by omega) (by simp [World.setCell])), Lib.hid (m6.alloc _), Lib.hid (hm6.alloc _), Lib.hid (hb6.alloc hb6.size _)⟩
          case measure => simp [intOf]; omega
      · obtain rfl : k = ll.length := by omega
        have HR : Hid (RES = some M) := Lib.hid (by rw [HJ.out, HEE.out])
        have ltx : w4.heap.size < wr.heap.size := HX.out.lt
        have lty : w.heap.size + 1 < wr.heap.size := HM.out.lt
        obtain ⟨x0, x1, x2, x3, x4, x5⟩ := HX.out
        obtain ⟨y0, y1, y2, y3, y4, y5⟩ := HM.out
        go_wp2
        clear x0 x1 x2 x3 x4 x5 y0 y1 y2 y3 y4 y5
        obtain ⟨o9, m9⟩ := ans_put2 (m := M) HM.out HO.out (by omega)
        refine bodyPost_ret (results_mid2 Tryz.results43 _ _ (w.heap.size + 1) _ _ (.bool true) rfl rfl m9.range Tryz.underlying26 rfl Tryz.sizeMd) rfl ?_
        rw [HR.out]
        exact ⟨_, rfl, o9.wide (by omega) (by simp [World.setCell]), ((HB.out.setCell (by show _ ≤ w.heap.size + 1; omega) _).setCell (by show _ ≤ w.heap.size + 1; omega) _).setCell (by show _ ≤ w.heap.size + 1; omega) _⟩
end Go.Proofs.YtodjohdbngbpaaaGreat
