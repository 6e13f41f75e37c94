/-
  spec.l06Differ by induction: the text difS; spec.DifferenceOf: it answers diffR. No condition but the readings.
-/
import Derived.Test.YtnpfnfenkklocaaGreatDoorDfd
import Derived.Test.YtnpfnfenkklocaaGreatDoorSpecR
import Derived.Test.YtnpfnfenkklocaaGreatDoorZMok
namespace Go.Proofs.YtnpfnfenkklocaaGreatDoor
open Go.RowKit Go.WideShapes
open Go Go.Deep
set_option linter.unusedSimpArgs false

theorem stab_le {m : Md} (hn : m.facts.length ≤ 16) : stab m ≤ 16 := by
  unfold stab
  cases hf : (List.range m.facts.length).find? fun j => decide (clsAt m (j + 1) = clsAt m j) with
  | none => simp
  | some j => have := List.mem_range.1 (List.mem_of_find?_eq_some hf); simp; omega
theorem same_iff {m : Md} {v w : Nat} (hv : v < m.facts.length) (hw : w < m.facts.length) (hl : sameAt m (stab m) v w = false) (h0 : sameAt m 0 v w = true) : ∀ k, k ≤ stab m → ((clsAt m k).getD v 0 = (clsAt m k).getD w 0 ↔ k ≤ stepOf m v w) := fun k _ => by
  obtain ⟨t1, t2, t3⟩ := stepOf_at hl h0
  constructor
  · intro h
    rcases Nat.lt_or_ge (stepOf m v w) k with h1 | h1
    · have h2 : sameAt m k v w = true := by unfold sameAt; rw [beq_iff_eq]; exact h
      have := sameAt_down hv hw (show stepOf m v w + 1 ≤ k by omega) h2
      rw [t3] at this; cases this
    · exact h1
  · intro h
    have := sameAt_down hv hw h t1
    unfold sameAt at this
    exact beq_iff_eq.1 this

theorem specDiffer_any (lo hi lo2 hi2 : Nat) (v sv : Value) (m : Md) (hm : mdOk m = true) (B0 : World) (hr : Mv lo hi B0 v m) (hS : Ivv lo2 hi2 B0 sv (stepsL m (stab m + 1))) : ∀ (f x y : Nat) (w : World), f ≤ 1000 → x < m.facts.length → y < m.facts.length → sameAt m (stab m) x y = false →
    (sameAt m 0 x y = true → stepOf m x y + 1 < f) → 0 < f → Below B0.heap.size B0 w →
    Calls Tryz.prog 27 #[v, sv, .int .i64 x, .int .i64 y] w fun e w' => e = .returned (.string ⟨(difS m f x y).toArray⟩) ∧ Below w.heap.size w w'
  | 0, _, _, _, _, _, _, _, _, h, _ => absurd h (by decide)
  | f + 1, x, y, w, hf9, hx, hy, hl, hs, _, hB => by
    obtain ⟨p1, p2, p3, p4, p5, p6, -⟩ := mdOk_parts hm
    unfold difS
    cases hb : firstBit (m.facts.getD x 0) (m.facts.getD y 0) with
    | some k => exact differFact_any lo hi v sv m x y k w (hr.keeps (Keeps.of_all hB)) hm hx hy hb
    | none =>
      simp only
      have hfe := firstBit_none (p6 x hx) (p6 y hy) hb
      have h0 := (sameAt_0 hx hy).2 hfe
      obtain ⟨s1, s2, s3⟩ := stepOf_at hl h0
      have hfu := hs h0
      have hiff := same_iff hx hy hl h0
      have hcl' : ∀ u, u < m.facts.length → 0 ≤ (clsAt m (stepOf m x y)).getD u 0 := fun u hu => (clsAt_bd hu).1
      have htog : tog m (clsAt m (stepOf m x y)) x y = false := by
        cases h : tog m (clsAt m (stepOf m x y)) x y with
        | false => rfl
        | true =>
          have := (finer_same hx hy).2 h
          unfold sameAt at s3
          rw [show clsAt m (stepOf m x y + 1) = finer m (clsAt m (stepOf m x y)) from rfl, this] at s3
          simp at s3
      have hse : (clsAt m (stepOf m x y)).getD x 0 = (clsAt m (stepOf m x y)).getD y 0 := by unfold sameAt at s1; exact beq_iff_eq.1 s1
      obtain ⟨k, b, z, hp, hk, hA, hBf⟩ := pickA_some hcl' hse htog
      rw [hp]
      obtain ⟨e1, e2⟩ := pick_parts hp
      have hrec : ∀ u v', u < m.facts.length → v' < m.facts.length → (clsAt m (stepOf m x y)).getD u 0 ≠ (clsAt m (stepOf m x y)).getD v' 0 → ∀ W, Below B0.heap.size B0 W →
          Calls Tryz.prog 27 #[v, sv, .int .i64 u, .int .i64 v'] W fun e w' => e = .returned (.string ⟨(difS m f u v').toArray⟩) ∧ Below W.heap.size W w' := by
        intro u v' hu hv hne W hW
        have huv : sameAt m (stepOf m x y) u v' = false := by
          cases h : sameAt m (stepOf m x y) u v' with
          | false => rfl
          | true => unfold sameAt at h; exact absurd (beq_iff_eq.1 h) hne
        have hup : ∀ j, stepOf m x y ≤ j → sameAt m j u v' = false := fun j hj => by
          cases h : sameAt m j u v' with
          | false => rfl
          | true => have := sameAt_down hu hv hj h; rw [huv] at this; cases this
        refine specDiffer_any lo hi lo2 hi2 v sv m hm B0 hr hS f u v' W (by omega) hu hv (hup _ (by omega)) (fun h0' => ?_) (by omega) hW
        obtain ⟨t1, t2, t3⟩ := stepOf_at (hup _ (by omega)) h0'
        rcases Nat.lt_or_ge (stepOf m u v') (stepOf m x y) with h | h
        · omega
        · rw [hup _ h] at t1; cases t1
      have hpos : ∀ u, 0 < (difS m f z u).length ∧ (difS m f z u).length ≤ 100000 := fun u => ⟨difS_pos m f z u, by have := difS_len m f z u; omega⟩
      have hagl : ∀ u, (agS (difS m f z) (blkD m k u) []).length ≤ 200000 := fun u => by have := agS_len (rec := difS m f z) (R := 100000) (fun y => (hpos y).2) (blkD m k u) [] (by simp); omega
      have hall : ∀ u, u < m.facts.length → z < m.facts.length → (∀ v' ∈ blkD m k u, (clsAt m (stepOf m x y)).getD z 0 ≠ (clsAt m (stepOf m x y)).getD v' 0) → ∀ W lo3 hi3 vv, Below w.heap.size w W → Iv lo3 hi3 W vv (nums (blkD m k u)) →
          Calls Tryz.prog 59 #[v, sv, .int .i64 z, vv, .int .i64 (stepOf m x y : Nat)] W fun e w' => e = .returned (.string ⟨(agS (difS m f z) (blkD m k u) []).toArray⟩) ∧ Below W.heap.size W w' := by
        intro u hu hz hne W lo3 hi3 vv hW hv
        have hBW := hB.trans (hW.mono hB.size)
        refine specAgainst_any lo hi lo2 hi2 lo3 hi3 v sv vv m z (stepOf m x y) (blkD m k u) (difS m f z) W (hr.keeps (Keeps.of_all hBW)) (hS.keeps (Keeps.of_all hBW)) hv (blkD_pos hu) (Nat.le_trans (lst_len _ _) p2) (by omega) (stab_le p2) hz (fun v' hv' => ⟨(mem_blkD.1 hv').1, hne v' hv'⟩) (fun v' _ => hpos v') (fun v' hv' W2 hW2 => hrec z v' hz (mem_blkD.1 hv').1 (hne v' hv') W2 (hBW.trans (hW2.mono hBW.size)))
      cases b with
      | true =>
        obtain ⟨q1, q2⟩ := hA rfl
        exact differStep_any lo hi lo2 hi2 v sv m x y k (stepOf m x y) z true _ w (hr.keeps (Keeps.of_all hB)) hm (hS.keeps (Keeps.of_all hB)) hx hy hfe (by omega) (stab_le p2) hiff hk e1 e2 (hagl y) (hall y hy (mem_blkD.1 q1).1 q2)
      | false =>
        obtain ⟨q1, q2⟩ := hBf rfl
        exact differStep_any lo hi lo2 hi2 v sv m x y k (stepOf m x y) z false _ w (hr.keeps (Keeps.of_all hB)) hm (hS.keeps (Keeps.of_all hB)) hx hy hfe (by omega) (stab_le p2) hiff hk e1 e2 (hagl x) (hall x hx (mem_blkD.1 q1).1 q2)

set_option maxRecDepth 100000 in
set_option maxHeartbeats 32000000 in
theorem specDiffOf_any (lo hi : Nat) (v : Value) (m : Md) (a b : Int) (w : World) (hr : Mv lo hi w v m) :
    Calls Tryz.prog 6 #[v, .int .i64 a, .int .i64 b] w (Ans w (diffR m a b)) := by
  have KO := Lib.hid (fun W (h : Below w.heap.size w W) => specOk_any lo hi v m W (hr.keeps (Keeps.of_all h)))
  rw [specOk_mdOk] at KO
  have KWa := Lib.hid (fun W (h : Below w.heap.size w W) => specWorld_any lo hi v m a W (hr.keeps (Keeps.of_all h)))
  have KWb := Lib.hid (fun W (h : Below w.heap.size w W) => specWorld_any lo hi v m b W (hr.keeps (Keeps.of_all h)))
  obtain ⟨R, hR⟩ : ∃ R, R = diffR m a b := ⟨_, rfl⟩
  rw [← hR]
  have HR := Lib.hid hR
  have HMV := Lib.hid hr
  clear hR
  obtain ⟨fv, bv, rfl, hf, hbb⟩ := id hr
  obtain ⟨fa, fc, rfl⟩ := hf.form
  clear hf hbb hr
  cases hok : mdOk m with
  | false =>
    have HN : Hid (R = none) := Lib.hid (HR.out.trans (by unfold diffR; rw [hok]; rfl))
    rw [hok] at KO
    clear hok
    go_enter Tryz.func6, Tryz.ntmps6
    go_wp2_with fail
    refine (KO.out _ (by go_grown)).mono ?_
    rintro e w1 ⟨rfl, hb1⟩
    have X1 := Lib.hid (Mcell.below (b := w.heap.size) (Mcell.new (w := w) (T := 30) (fv := .slice fa m.facts.length fc) (bv := bv) (n := m.actual) rfl) hb1)
    have B1 : Hid (Below w.heap.size w w1) := Lib.hid (Below.trans (by go_grown) (hb1.mono (by simp)))
    clear hb1
    obtain ⟨xc0, xc1, xc2, -⟩ := X1.out
    go_wp2
    go_returns
    rw [HN.out]
    exact Ans.none_of B1.out
  | true =>
    rw [hok] at KO
    cases ha : inB a m.facts.length with
    | false =>
      have HN : Hid (R = none) := Lib.hid (HR.out.trans (by unfold diffR; rw [ha]; simp))
      rw [ha] at KWa
      clear ha hok
      go_enter Tryz.func6, Tryz.ntmps6
      go_wp2_with fail
      refine (KO.out _ (by go_grown)).mono ?_
      rintro e w1 ⟨rfl, hb1⟩
      have X1 := Lib.hid (Mcell.below (b := w.heap.size) (Mcell.new (w := w) (T := 30) (fv := .slice fa m.facts.length fc) (bv := bv) (n := m.actual) rfl) hb1)
      have B1 : Hid (Below w.heap.size w w1) := Lib.hid (Below.trans (by go_grown) (hb1.mono (by simp)))
      clear hb1
      obtain ⟨xc0, xc1, xc2, -⟩ := X1.out
      go_wp2_with fail
      clear xc0 xc1 xc2
      refine (KWa.out _ B1.out).mono ?_
      rintro e w2 ⟨rfl, hb2⟩
      have X2 := Lib.hid (X1.out.below hb2)
      have B2 := Lib.hid (B1.out.trans (hb2.mono B1.out.size))
      clear hb2
      obtain ⟨xc0, xc1, xc2, -⟩ := X2.out
      go_wp2
      go_returns
      rw [HN.out]
      exact Ans.none_of B2.out
    | true =>
      rw [ha] at KWa
      cases hb : inB b m.facts.length with
      | false =>
        have HN : Hid (R = none) := Lib.hid (HR.out.trans (by unfold diffR; rw [hb]; simp))
        rw [hb] at KWb
        clear ha hb hok
        go_enter Tryz.func6, Tryz.ntmps6
        go_wp2_with fail
        refine (KO.out _ (by go_grown)).mono ?_
        rintro e w1 ⟨rfl, hb1⟩
        have X1 := Lib.hid (Mcell.below (b := w.heap.size) (Mcell.new (w := w) (T := 30) (fv := .slice fa m.facts.length fc) (bv := bv) (n := m.actual) rfl) hb1)
        have B1 : Hid (Below w.heap.size w w1) := Lib.hid (Below.trans (by go_grown) (hb1.mono (by simp)))
        clear hb1
        obtain ⟨xc0, xc1, xc2, -⟩ := X1.out
        go_wp2_with fail
        clear xc0 xc1 xc2
        refine (KWa.out _ B1.out).mono ?_
        rintro e w2 ⟨rfl, hb2⟩
        have X2 := Lib.hid (X1.out.below hb2)
        have B2 := Lib.hid (B1.out.trans (hb2.mono B1.out.size))
        clear hb2
        obtain ⟨xc0, xc1, xc2, -⟩ := X2.out
        go_wp2_with fail
        clear xc0 xc1 xc2
        refine (KWb.out _ B2.out).mono ?_
        rintro e w3 ⟨rfl, hb3⟩
        have X3 := Lib.hid (X2.out.below hb3)
        have B3 := Lib.hid (B2.out.trans (hb3.mono B2.out.size))
        clear hb3
        obtain ⟨xc0, xc1, xc2, -⟩ := X3.out
        go_wp2
        go_returns
        rw [HN.out]
        exact Ans.none_of B3.out
      | true =>
        rw [hb] at KWb
        have hn0 : (0 : Int) ≤ (m.facts.length : Int) := Int.natCast_nonneg _
        by_cases h8 : 8 < m.facts.length
        · have HN : Hid (R = none) := Lib.hid (HR.out.trans (by unfold diffR; rw [decide_eq_false (show ¬ m.facts.length ≤ 8 by omega)]; simp))
          have h8' : (8 : Int) < (m.facts.length : Int) := by omega
          clear ha hb hok h8
          go_enter Tryz.func6, Tryz.ntmps6
          go_wp2_with fail
          refine (KO.out _ (by go_grown)).mono ?_
          rintro e w1 ⟨rfl, hb1⟩
          have X1 := Lib.hid (Mcell.below (b := w.heap.size) (Mcell.new (w := w) (T := 30) (fv := .slice fa m.facts.length fc) (bv := bv) (n := m.actual) rfl) hb1)
          have B1 : Hid (Below w.heap.size w w1) := Lib.hid (Below.trans (by go_grown) (hb1.mono (by simp)))
          clear hb1
          obtain ⟨xc0, xc1, xc2, -⟩ := X1.out
          go_wp2_with fail
          clear xc0 xc1 xc2
          refine (KWa.out _ B1.out).mono ?_
          rintro e w2 ⟨rfl, hb2⟩
          have X2 := Lib.hid (X1.out.below hb2)
          have B2 := Lib.hid (B1.out.trans (hb2.mono B1.out.size))
          clear hb2
          obtain ⟨xc0, xc1, xc2, -⟩ := X2.out
          go_wp2_with fail
          clear xc0 xc1 xc2
          refine (KWb.out _ B2.out).mono ?_
          rintro e w3 ⟨rfl, hb3⟩
          have X3 := Lib.hid (X2.out.below hb3)
          have B3 := Lib.hid (B2.out.trans (hb3.mono B2.out.size))
          clear hb3
          obtain ⟨xc0, xc1, xc2, -⟩ := X3.out
          go_wp2
          go_returns
          rw [HN.out]
          exact Ans.none_of B3.out
        · have h8' : decide ((8 : Int) < (m.facts.length : Int)) = false := decide_eq_false (by omega)
          have b1 : 0 ≤ a ∧ a < m.facts.length := by unfold inB at ha; simpa using ha
          have b2 : 0 ≤ b ∧ b < m.facts.length := by unfold inB at hb; simpa using hb
          obtain ⟨x, rfl⟩ : ∃ x : Nat, a = x := ⟨a.toNat, by omega⟩
          obtain ⟨y, rfl⟩ : ∃ y : Nat, b = y := ⟨b.toNat, by omega⟩
          have hxn : x < m.facts.length := by omega
          have hyn : y < m.facts.length := by omega
          obtain ⟨b10, b11⟩ := b1
          obtain ⟨b20, b21⟩ := b2
          have hp2 := (mdOk_parts hok).2.1
          have hst := stab_le hp2
          have KS := Lib.hid (fun W (h : Below w.heap.size w W) => specSteps_any lo hi _ m W (HMV.out.keeps (Keeps.of_all h)) hok)
          have KD := Lib.hid (fun lo2 hi2 sv W (h : Below w.heap.size w W) (hS : Ivv lo2 hi2 W sv (stepsL m (stab m + 1))) hl => specDiffer_any lo hi lo2 hi2 _ sv m hok W (HMV.out.keeps (Keeps.of_all h)) hS (stab m + 2) x y W (by omega) hxn hyn hl (fun h0 => by have := (stepOf_at hl h0).2.1; omega) (by omega) (Below.refl _ _))
          have HD : Hid (R = if (lastC m).getD x 0 = (lastC m).getD y 0 then none else parsed (difS m (stab m + 2) x y)) := Lib.hid (by
            rw [HR.out]; unfold diffR
            rw [hok, ha, hb, decide_eq_true (show m.facts.length ≤ 8 by omega), Int.toNat_natCast, Int.toNat_natCast, (difS_cut (stab m + 2) x y hxn hyn).parsed]
            by_cases e : (lastC m).getD x 0 = (lastC m).getD y 0
            · rw [if_pos e, e]; simp
            · rw [if_neg e, beq_eq_false_iff_ne.2 e]; rfl)
          have KP := Lib.hid (fun W => parse_str (difS m (stab m + 2) x y) W)
          have HXN := Lib.hid hxn
          have HYN := Lib.hid hyn
          have hs0 : (0 : Int) ≤ (stab m : Int) := Int.natCast_nonneg _
          have hs1 : (stab m : Int) + 1 - 1 = (stab m : Int) := by omega
          have HCL := Lib.hid (clsAt_len m)
          clear ha hb h8 hok hxn hyn HR HMV
          by_cases hsame : (lastC m).getD x 0 = (lastC m).getD y 0
          · have HN := Lib.hid (HD.out.trans (if_pos hsame))
            go_enter Tryz.func6, Tryz.ntmps6
            go_wp2_with fail
            refine (KO.out _ (by go_grown)).mono ?_
            rintro e w1 ⟨rfl, hb1⟩
            have X1 := Lib.hid (Mcell.below (b := w.heap.size) (Mcell.new (w := w) (T := 30) (fv := .slice fa m.facts.length fc) (bv := bv) (n := m.actual) rfl) hb1)
            have B1 : Hid (Below w.heap.size w w1) := Lib.hid (Below.trans (by go_grown) (hb1.mono (by simp)))
            clear hb1
            obtain ⟨xc0, xc1, xc2, -⟩ := X1.out
            go_wp2_with fail
            clear xc0 xc1 xc2
            refine (KWa.out _ B1.out).mono ?_
            rintro e w2 ⟨rfl, hb2⟩
            have X2 := Lib.hid (X1.out.below hb2)
            have B2 := Lib.hid (B1.out.trans (hb2.mono B1.out.size))
            clear hb2
            obtain ⟨xc0, xc1, xc2, -⟩ := X2.out
            go_wp2_with fail
            clear xc0 xc1 xc2
            refine (KWb.out _ B2.out).mono ?_
            rintro e w3 ⟨rfl, hb3⟩
            have X3 := Lib.hid (X2.out.below hb3)
            have B3 := Lib.hid (B2.out.trans (hb3.mono B2.out.size))
            clear hb3
            obtain ⟨xc0, xc1, xc2, -⟩ := X3.out
            go_wp2_with fail
            clear xc0 xc1 xc2
            refine (KS.out _ B3.out).mono ?_
            rintro e w4 ⟨v4, vs, rfl, ho4, hb4⟩
            have IV4 := Lib.hid ho4.read
            obtain ⟨g, cap, ra, rc, rfl, hg1, hg2, hg3, hg4, hru, hri, hrc⟩ := ioo_row ho4 (k := stab m) (by rw [stepsL_len]; omega)
            rw [stepsL_len] at hg3 ho4 IV4 ⊢
            rw [stepsL_get (by omega)] at hru hri
            rw [HCL.out] at hru
            rw [hru] at hrc hri
            have c1 := hrc w4 (Below.refl _ _)
            have HRI := Lib.hid hri
            have X4 := Lib.hid (X3.out.below hb4)
            have B4 := Lib.hid (B3.out.trans (hb4.mono B3.out.size))
            unfold maxLen at hg4
            clear hru hri hrc ho4 hb4
            obtain ⟨xc0, xc1, xc2, -⟩ := X4.out
            obtain ⟨rb, ro, rc', hrv, r1, r2, -, r4⟩ := iv_open HRI.out (by rw [HCL.out]; omega)
            rw [HCL.out] at hrv r1 r4
            obtain ⟨rfl, rfl⟩ : ra = some ⟨rb, ro, none⟩ ∧ rc = rc' := by cases hrv; exact ⟨rfl, rfl⟩
            unfold maxLen at r2
            have rx := r4 w4 (Below.refl _ _) x HXN.out
            have ry := r4 w4 (Below.refl _ _) y HYN.out
            have hla : (clsAt m (stab m)).getD x 0 = (lastC m).getD x 0 := rfl
            have hlb : (clsAt m (stab m)).getD y 0 = (lastC m).getD y 0 := rfl
            rw [hla] at rx
            rw [hlb] at ry
            clear hrv r4 hla hlb
            rw [← hsame] at ry
            clear hsame
            generalize (lastC m).getD x 0 = z1 at *
            go_wp2
            go_quiet (fail)
            go_wp2
            go_returns
            rw [HN.out]
            exact Ans.none_of (below_drewN' B4.out _)
          · have HN := Lib.hid (HD.out.trans (if_neg hsame))
            have hl : sameAt m (stab m) x y = false := by unfold sameAt; exact beq_eq_false_iff_ne.2 hsame
            have HL := Lib.hid hl
            rw [← HN.out] at KP
            unfold Ans at KP
            clear hl
            go_enter Tryz.func6, Tryz.ntmps6
            go_wp2_with fail
            refine (KO.out _ (by go_grown)).mono ?_
            rintro e w1 ⟨rfl, hb1⟩
            have X1 := Lib.hid (Mcell.below (b := w.heap.size) (Mcell.new (w := w) (T := 30) (fv := .slice fa m.facts.length fc) (bv := bv) (n := m.actual) rfl) hb1)
            have B1 : Hid (Below w.heap.size w w1) := Lib.hid (Below.trans (by go_grown) (hb1.mono (by simp)))
            clear hb1
            obtain ⟨xc0, xc1, xc2, -⟩ := X1.out
            go_wp2_with fail
            clear xc0 xc1 xc2
            refine (KWa.out _ B1.out).mono ?_
            rintro e w2 ⟨rfl, hb2⟩
            have X2 := Lib.hid (X1.out.below hb2)
            have B2 := Lib.hid (B1.out.trans (hb2.mono B1.out.size))
            clear hb2
            obtain ⟨xc0, xc1, xc2, -⟩ := X2.out
            go_wp2_with fail
            clear xc0 xc1 xc2
            refine (KWb.out _ B2.out).mono ?_
            rintro e w3 ⟨rfl, hb3⟩
            have X3 := Lib.hid (X2.out.below hb3)
            have B3 := Lib.hid (B2.out.trans (hb3.mono B2.out.size))
            clear hb3
            obtain ⟨xc0, xc1, xc2, -⟩ := X3.out
            go_wp2_with fail
            clear xc0 xc1 xc2
            refine (KS.out _ B3.out).mono ?_
            rintro e w4 ⟨v4, vs, rfl, ho4, hb4⟩
            have IV4 := Lib.hid ho4.read
            obtain ⟨g, cap, ra, rc, rfl, hg1, hg2, hg3, hg4, hru, hri, hrc⟩ := ioo_row ho4 (k := stab m) (by rw [stepsL_len]; omega)
            rw [stepsL_len] at hg3 ho4 IV4 ⊢
            rw [stepsL_get (by omega)] at hru hri
            rw [HCL.out] at hru
            rw [hru] at hrc hri
            have c1 := hrc w4 (Below.refl _ _)
            have HRI := Lib.hid hri
            have X4 := Lib.hid (X3.out.below hb4)
            have B4 := Lib.hid (B3.out.trans (hb4.mono B3.out.size))
            unfold maxLen at hg4
            clear hru hri hrc ho4 hb4
            obtain ⟨xc0, xc1, xc2, -⟩ := X4.out
            obtain ⟨rb, ro, rc', hrv, r1, r2, -, r4⟩ := iv_open HRI.out (by rw [HCL.out]; omega)
            rw [HCL.out] at hrv r1 r4
            obtain ⟨rfl, rfl⟩ : ra = some ⟨rb, ro, none⟩ ∧ rc = rc' := by cases hrv; exact ⟨rfl, rfl⟩
            unfold maxLen at r2
            have rx := r4 w4 (Below.refl _ _) x HXN.out
            have ry := r4 w4 (Below.refl _ _) y HYN.out
            have hla : (clsAt m (stab m)).getD x 0 = (lastC m).getD x 0 := rfl
            have hlb : (clsAt m (stab m)).getD y 0 = (lastC m).getD y 0 := rfl
            rw [hla] at rx
            rw [hlb] at ry
            clear hrv r4 hla hlb
            have e1 : ((lastC m).getD x 0 == (lastC m).getD y 0) = false := by simpa using hsame
            clear hsame
            generalize (lastC m).getD x 0 = z1 at *
            generalize (lastC m).getD y 0 = z2 at *
            go_wp2
            go_quiet (fail)
            go_wp2_with fail
            clear xc0 xc1 xc2 rx ry c1
            refine (KD.out _ _ _ _ (below_drewN' B4.out _) (IV4.out.keeps (Keeps.of_all (below_drewN' (Below.refl _ _) _))) HL.out).mono ?_
            rintro e w5 ⟨rfl, hb5⟩
            have B5 := Lib.hid ((below_drewN' B4.out _).trans (hb5.mono (below_drewN' B4.out _).size))
            clear hb5
            go_wp2_with fail
            refine (KP.out _).mono ?_
            rintro e w6 ⟨v6, rfl, ho6, hb6⟩
            have O6 := Lib.hid ho6; have B6 := Lib.hid hb6; clear ho6 hb6
            go_wp2
            go_returns
            exact Ans.later B5.out ⟨_, rfl, O6.out, B6.out⟩
end Go.Proofs.YtnpfnfenkklocaaGreatDoor
