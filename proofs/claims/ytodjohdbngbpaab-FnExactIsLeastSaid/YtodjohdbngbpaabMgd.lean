/-
  grid.merged: each class of the last step becomes one world. Condition: the model is valid.
-/
import Derived.Test.YtodjohdbngbpaabMrg
import Derived.Test.YtodjohdbngbpaabZKey
namespace Go.Proofs.Ytodjohdbngbpaab
open Go.RowKit Go.WideShapes
open Go Go.Deep
set_option linter.unusedSimpArgs false

theorem cls_step {c : List Int} (hc : ordOk c = true) {v : Nat} (hv : v < c.length) : ∃ a : Nat, c.getD v 0 = (a : Int) ∧ a < qAt c (v + 1) ∧ (∀ i, i < qAt c (v + 1) → i ≠ a → i < qAt c v) ∧ qAt c v ≤ qAt c (v + 1) ∧ (firstsC c).getD a 0 < c.length ∧ c.getD ((firstsC c).getD a 0) 0 = (a : Int) ∧
    ((newP c v = true ∧ a = qAt c v ∧ qAt c (v + 1) = qAt c v + 1) ∨ (newP c v = false ∧ a < qAt c v ∧ qAt c (v + 1) = qAt c v)) := by
  have hs := qAt_succ c v
  cases hn : newP c v with
  | true =>
    rw [hn, if_pos rfl] at hs
    obtain ⟨h1, h2⟩ := cls_new hc hv hn
    exact ⟨qAt c v, h1, by omega, fun i h3 h4 => by omega, by omega, by rw [h2]; exact hv, by rw [h2]; exact h1, .inl ⟨rfl, rfl, hs⟩⟩
  | false =>
    rw [hn, if_neg (by decide)] at hs
    obtain ⟨a, h1, h2, h3, h4⟩ := cls_old hc hv hn
    exact ⟨a, h1, by omega, fun i h5 h6 => by omega, by omega, h3, h4, .inr ⟨rfl, h2, hs⟩⟩
theorem Try.buildGridM (w : World) (x y : Int) : (Instr.build 42 #[(1, .int .i64 x), (4, .int .i64 y)]).run Try.prog w = .ok (.agg (ints (gL 0 x [] [] y)).toArray) w := by kernel_rfl

set_option maxRecDepth 100000 in
set_option maxHeartbeats 64000000 in
theorem merged_any (m : Md) (hm : mdOk m = true) (w : World) :
    Calls Try.prog 31 #[.agg (ints (gL m.facts.length m.blocks.length m.facts m.blocks m.actual)).toArray, .agg (ints (pad (lastC m))).toArray] w
      fun e w' => e = .returned (.agg (ints (gL (leastOf m).facts.length m.blocks.length (leastOf m).facts (leastOf m).blocks (leastOf m).actual)).toArray) ∧ Below w.heap.size w w' := by
  obtain ⟨p1, p2, p3, p4, p5, p6, p7, p8⟩ := mdOk_parts hm
  have hs := md_small hm
  have hS := stable_last (m := m) p1
  have hlen : (lastC m).length = m.facts.length := clsAt_len m _
  have hrow : inRow m (lastC m) := clsAt_row _
  have hfl : (firstsC (lastC m)).length ≤ 16 := by have := firsts_len (lastC m); omega
  have HFA := Lib.hid (fun v u (hv : v < m.facts.length) (hu : u < m.facts.length) (e : (lastC m).getD v 0 = (lastC m).getD u 0) => clsAt_facts m _ v u hv hu e)
  have HRES : Hid (gL (leastOf m).facts.length m.blocks.length (leastOf m).facts (leastOf m).blocks (leastOf m).actual = gL (firstsC (lastC m)).length ((List.range m.blocks.length).map (hdL m (lastC m))).length (pick m.facts (firstsC (lastC m))) (((List.range m.blocks.length).map (hdL m (lastC m))).map num) ((lastC m).getD m.actual.toNat 0)) := Lib.hid (by
    rw [leastOf_len]
    unfold leastOf
    simp only [List.length_map, List.length_range, List.map_map]
    congr 1
    refine List.map_congr_left fun k hk => ?_
    exact (hS.hd_link p2 (List.mem_range.1 hk)).symm)
  have HE67 : Hid (∀ x y : Int, (ints (gL 0 x [] [] y)).length = 67) := Lib.hid (fun x y => by rw [ints_len]; exact gL_len ⟨by simp, fun k => by simp⟩)
  have HSTP := Lib.hid (fun v (hv : v < m.facts.length) => cls_step hS.ord (v := v) (by rw [hlen]; exact hv))
  have HQ0 : Hid (qAt (lastC m) 0 = 0) := Lib.hid rfl
  have HQN : Hid (qAt (lastC m) m.facts.length = (firstsC (lastC m)).length) := Lib.hid (by unfold qAt firstsC; rw [hlen])
  have HHD : Hid (∀ k v u, k < m.blocks.length → v < m.facts.length → u < m.facts.length → (lastC m).getD v 0 = (lastC m).getD u 0 → headL (setB m (lastC m) k v) = headL (setB m (lastC m) k u)) := Lib.hid (fun k v u hk hv hu e => headL_congr fun y _ => by
    rcases Nat.lt_or_ge y m.facts.length with hy | hy
    · exact (tog_iff.1 (lastC_tog p1 hv hu e)).2 k hk y hy
    · rw [setB_out hrow hy, setB_out hrow hy])
  have hg16 := inRow_row hrow p2
  have KM : Hid (∀ k i, k < m.blocks.length → i < m.facts.length → ∀ W, Calls Try.prog 41 #[.agg (ints (gL m.facts.length m.blocks.length m.facts m.blocks m.actual)).toArray, .int .i64 (k : Nat), .int .i64 (i : Nat), .agg (ints (rowF fun v => (lastC m).getD v 0)).toArray] W
      fun e W' => e = .returned (.agg (bL (setB m (lastC m) k i)).toArray) ∧ Below W.heap.size W W') := Lib.hid (fun k i hk hi W => by
    have h := metBy_any m.facts.length m.blocks.length m.actual m.facts m.blocks hs p2 k i (by omega) (by omega) (fun v => (lastC m).getD v 0) hg16 W
    rw [show bL (metG m.blocks m.facts.length k i (fun v => (lastC m).getD v 0)) = bL (setB m (lastC m) k i) from bL_congr fun y _ => metG_set p2 k i y] at h
    exact h)
  have KF := Lib.hid (fun k i (hi : i < m.facts.length) W => first_any (setB m (lastC m) k i) W ⟨((lastC m).getD i 0).toNat, by have := hg16 i (by omega); omega, setB_in.2 ⟨i, hi, by unfold sameW; simp, by have := hg16 i (by omega); omega⟩⟩)
  have HH16 : Hid (∀ k i, i < m.facts.length → headL (setB m (lastC m) k i) < 16) := Lib.hid (fun k i hi => (headL_at (p := setB m (lastC m) k i) (i := ((lastC m).getD i 0).toNat) (by have := hg16 i (by omega); omega) (setB_in.2 ⟨i, hi, by unfold sameW; simp, by have := hg16 i (by omega); omega⟩)).1)
  have HL : Hid ((ints (gL m.facts.length m.blocks.length m.facts m.blocks m.actual)).length = 67) := Lib.hid (by rw [ints_len]; exact gL_len hs)
  have HC : Hid (∀ (W : World) b T, Cm W b T (ints (gL m.facts.length m.blocks.length m.facts m.blocks m.actual)) → W.cell? ⟨b, 0, none⟩ = some (.int .i64 m.facts.length) ∧ W.cell? ⟨b, 1, none⟩ = some (.int .i64 m.blocks.length) ∧ W.cell? ⟨b, 66, none⟩ = some (.int .i64 m.actual)) := Lib.hid (fun W b T h => ⟨h.g0, h.g1, h.g66 hs⟩)
  have HF : Hid (∀ j, j < m.facts.length → ∀ (W : World) b T, Cm W b T (ints (gL m.facts.length m.blocks.length m.facts m.blocks m.actual)) → W.cell? ⟨b, 2 + j, none⟩ = some (.int .i64 (m.facts.getD j 0))) := Lib.hid (fun j hj W b T h => h.gf hs (by omega))
  have HS0 := Lib.hid (Mgd.start m (lastC m) ((lastC m).getD m.actual.toNat 0))
  have HG0 : Hid (∀ x y : Int, gL 0 x [] [] y = gG (gfun 0 x [] [] y)) := Lib.hid (fun x y => (gfun_gf 0 x [] [] y).eq ⟨by simp, fun k => by simp⟩)
  have HFIN := Lib.hid (fun h (g : Mgd m (lastC m) h (firstsC (lastC m)).length (firstsC (lastC m)).length 0 ((lastC m).getD m.actual.toNat 0)) => g.finish hfl p4)
  have HRN := Lib.hid (fun (hsm : small (pick m.facts (firstsC (lastC m))) ((List.range m.blocks.length).map (hdL m (lastC m)))) W => renumbered_any (firstsC (lastC m)).length ((lastC m).getD m.actual.toNat 0) (pick m.facts (firstsC (lastC m))) ((List.range m.blocks.length).map (hdL m (lastC m))) hsm hfl (by simpa using p4) (fun k hk => by
    rw [List.length_map, List.length_range] at hk
    rw [List.getD_eq_getElem?_getD, List.getElem?_map, List.getElem?_range hk]; exact hdL_len m _ k) W)
  rw [HRES.out]
  simp only [List.length_map, List.length_range]
  rw [rowF_pad (lastC m) (by rw [hlen]; exact p2)]
  obtain ⟨act, hact⟩ := Int.eq_ofNat_of_zero_le p7
  have hactn : act < m.facts.length := by omega
  have HCA : Hid ((lastC m).getD m.actual.toNat 0 = (lastC m).getD act 0) := Lib.hid (by rw [hact]; rfl)
  rw [HCA.out] at HS0 HFIN HRN ⊢
  have HAL : Hid (m.actual = (act : Int)) := Lib.hid hact
  have a0 : (0 : Int) ≤ (act : Int) := Int.natCast_nonneg _
  have a16 : (act : Int) < 16 := by omega
  clear hs hrow hact p5 p6 p7 p8 HCA HRES hg16
  generalize gL m.facts.length m.blocks.length m.facts m.blocks m.actual = G at *
  simp only [HAL.out] at HC
  have HV := Lib.hid (fun (W : World) b T (h : Cm W b T (ints (rowF fun v => (lastC m).getD v 0))) i (hi : i < 16) => rowF_cell h hi)
  have HVL : Hid ((ints (rowF fun v => (lastC m).getD v 0)).length = 16) := Lib.hid (rowF_ints_len _)
  generalize ints (rowF fun v => (lastC m).getD v 0) = V at *
  generalize lastC m = c at *
  obtain ⟨ca, hca⟩ : ∃ x, x = c.getD act 0 := ⟨_, rfl⟩
  rw [← hca] at HS0 HFIN HRN ⊢
  have HCA := Lib.hid hca
  clear hca
  go_enter Try.func31, Try.ntmps31
  have tk1 : True := trivial
  go_wp2_with
    (first
      | (have _t := tk1; clear _t tk1; refine wpList_allocM (o := ⟨some 4, _, _, _, _, _⟩) rfl 42 rfl (ints (gL 0 0 [] [] 0)) Try.allocGrid ?_
         intro w1 hc1 hb1 hs1
         have G1 : Hid (Cm w1 w.heap.size 42 (ints G)) := Lib.hid (Cm.all ((Cm.new rfl).alloc _) hb1)
         have V1 : Hid (Cm w1 (w.heap.size + 1) 39 V) := Lib.hid (Cm.all (Cm.new (by simp)) hb1)
         have R1 : Hid (Cm w1 (w.heap.size + 1 + 1) 42 (ints (gL 0 0 [] [] 0))) := Lib.hid (by simpa using hc1)
         have B1 : Hid (Below w.heap.size w w1) := Lib.hid (Below.trans (by go_grown) (hb1.mono (by simp; omega)))
         have lt1 : w.heap.size + 1 + 1 < w1.heap.size := R1.out.lt
         rw [show ((w.alloc (Obj.cells (ints G).toArray 42)).alloc (Obj.cells V.toArray 39)).heap.size = w.heap.size + 1 + 1 from by simp]
         clear hc1 hb1 hs1))
  have HGa : Hid (∀ W, Below w1.heap.size w1 W → W.cell? ⟨w.heap.size, 1, none⟩ = some (.int .i64 m.blocks.length) ∧ W.cell? ⟨w.heap.size, 66, none⟩ = some (.int .i64 act)) := Lib.hid (fun W hW => (HC.out _ _ _ (G1.out.all hW)).2)
  have HBA := Lib.hid (fun W => Try.buildGridM W m.blocks.length ca)
  have HVa : Hid (∀ W, Below w1.heap.size w1 W → W.cell? ⟨w.heap.size + 1, act, none⟩ = some (.int .i64 ca)) := Lib.hid (fun W hW => by rw [HV.out _ _ _ (V1.out.all hW) act (by omega), HCA.out])
  refine regionL (fun W => Below w1.heap.size w1 W) [8] (by kernel_rfl) (Below.refl _ _).drew (fun hHeld => ?_)
  refine takeA (i := 0) (v := .pointer (some ⟨w.heap.size, 1, none⟩)) 9 rfl rfl (by kernel_rfl) (by kernel_rfl) (by kernel_rfl) (by kernel_rfl) (fun _ _ _ h => h) (Or.inl ⟨by rfl, by intro W hSw; go_simp⟩) hHeld ?_
  simp only [Act.put, List.setIfInBounds_toArray, List.set_cons_zero, List.set_cons_succ]
  refine takeA (i := 1) (v := .int .i64 m.blocks.length) 10 rfl rfl (by kernel_rfl) (by kernel_rfl) (by kernel_rfl) (by kernel_rfl) (fun _ _ _ h => h) (Or.inl ⟨by rfl, by intro W hSw; have c1 := (HGa.out _ hSw).1; go_simp⟩) hHeld ?_
  simp only [Act.put, List.setIfInBounds_toArray, List.set_cons_zero, List.set_cons_succ]
  refine takeA (i := 2) (v := .pointer (some ⟨w.heap.size, 66, none⟩)) 11 rfl rfl (by kernel_rfl) (by kernel_rfl) (by kernel_rfl) (by kernel_rfl) (fun _ _ _ h => h) (Or.inl ⟨by rfl, by intro W hSw; go_simp⟩) hHeld ?_
  simp only [Act.put, List.setIfInBounds_toArray, List.set_cons_zero, List.set_cons_succ]
  refine takeA (i := 3) (v := .int .i64 act) 12 rfl rfl (by kernel_rfl) (by kernel_rfl) (by kernel_rfl) (by kernel_rfl) (fun _ _ _ h => h) (Or.inl ⟨by rfl, by intro W hSw; have c1 := (HGa.out _ hSw).2; go_simp⟩) hHeld ?_
  simp only [Act.put, List.setIfInBounds_toArray, List.set_cons_zero, List.set_cons_succ]
  refine takeA (i := 4) (v := .pointer (some ⟨w.heap.size + 1, act, none⟩)) 13 rfl rfl (by kernel_rfl) (by kernel_rfl) (by kernel_rfl) (by kernel_rfl) (fun _ _ _ h => h) (Or.inl ⟨by rfl, by intro W hSw; go_simp⟩) hHeld ?_
  simp only [Act.put, List.setIfInBounds_toArray, List.set_cons_zero, List.set_cons_succ]
  refine takeA (i := 5) (v := .int .i64 ca) 14 rfl rfl (by kernel_rfl) (by kernel_rfl) (by kernel_rfl) (by kernel_rfl) (fun _ _ _ h => h) (Or.inl ⟨by rfl, by intro W hSw; have c1 := HVa.out _ hSw; go_simp⟩) hHeld ?_
  simp only [Act.put, List.setIfInBounds_toArray, List.set_cons_zero, List.set_cons_succ]
  refine takeA (i := 6) (v := .agg (ints (gL 0 m.blocks.length [] [] ca)).toArray) 15 rfl rfl (by kernel_rfl) (by kernel_rfl) (by kernel_rfl) (by kernel_rfl) (fun _ _ _ h => h) (Or.inl ⟨by rfl, by intro W hSw; unfold execOp; simp; exact congrArg (fun r => Result.andThen r (fun a w' => Result.ok (Next.value a) w')) (HBA.out W)⟩) hHeld ?_
  simp only [Act.put, List.setIfInBounds_toArray, List.set_cons_zero, List.set_cons_succ]
  refine onlyL (i := 7) (by kernel_rfl) rfl (by rfl) (fun K hK => ?_)
  refine wp_allocM 42 5 rfl rfl (ints (gL 0 0 [] [] 0)) Try.allocGrid ?_
  have hsz : w1.drew.heap.size = w1.heap.size := rfl
  have Z2 := Lib.hid (Cm.new (w := w1.drew) (b := w1.heap.size) (T := 42) (cs := ints (gL 0 0 [] [] 0)) rfl)
  have t2 : Below w1.heap.size w1 (w1.drew.alloc (.cells (ints (gL 0 0 [] [] 0)).toArray 42)) := hHeld.alloc (Nat.le_refl _) _
  rw [hsz]
  generalize w1.drew.alloc (.cells (ints (gL 0 0 [] [] 0)).toArray 42) = w2 at *
  refine hK.out _ _ (fun _ => t2) (fun hHeld => ?_)
  clear hHeld hsz hK K
  try simp only [Act.put, List.setIfInBounds_toArray, List.set_cons_zero, List.set_cons_succ]
  have lt2 : w1.heap.size < w2.heap.size := Z2.out.lt
  have G2 := Lib.hid (G1.out.all t2)
  have V2 := Lib.hid (V1.out.all t2)
  have R2 := Lib.hid (R1.out.all t2)
  have B2 := Lib.hid (B1.out.trans (t2.mono B1.out.size))
  clear HGa HVa t2 G1 V1 R1 B1
  refine onlyL (i := 8) (by kernel_rfl) rfl (by rfl) (fun K hK => ?_)
  refine wp_storeM 42 (.tmp 5) (.tmp 15) rfl rfl w1.heap.size 0 rfl (ints (gL 0 m.blocks.length [] [] ca)) rfl 42 _ Z2.out (by rw [HE67.out, HE67.out]; exact Nat.le_refl _) (by rw [HE67.out]; exact Try.sizeGrid) (fun v hv => ints_one hv) ?_
  intro w3 hc3 ha3
  rw [lay'_all (by rw [HE67.out, HE67.out]), HG0.out] at hc3
  have M3 := Lib.hid hc3
  have G3 := Lib.hid (ha3.cm G2.out (by omega))
  have V3 := Lib.hid (ha3.cm V2.out (by omega))
  have R3 := Lib.hid (ha3.cm R2.out (by omega))
  have B3 : Hid (Below w.heap.size w w3) := Lib.hid (B2.out.trans (ha3.below (by omega)))
  clear hc3 ha3 G2 V2 R2 B2 Z2
  refine hK.out _ _ (fun h => absurd (by decide) h) (fun _ => ?_)
  clear hK K
  refine doneL (by kernel_rfl) ?_ _
  obtain ⟨cc0, cc1, cc2⟩ := HC.out _ _ _ G3.out
  go_wp2
  clear cc0 cc1 cc2
  go_loopw [18] (fun iv wr => ∃ v : Nat, v ≤ m.facts.length ∧ iv = .int .i64 v ∧ (∃ h, Hid (Mgd m c h (qAt c v) (qAt c v) 0 ca) ∧ Hid (Cm wr w1.heap.size 42 (ints (gG h)))) ∧ Hid (Cm wr w.heap.size 42 (ints G)) ∧ Hid (Cm wr (w.heap.size + 1) 39 V) ∧ Hid (Cm wr (w.heap.size + 1 + 1) 42 (ints (gL 0 0 [] [] 0))) ∧ Hid (Below w.heap.size w wr)) (fun iv _ => m.facts.length - (intOf iv).toNat)
  case atStart => exact ⟨0, Nat.zero_le _, rfl, ⟨_, Lib.hid (by rw [HQ0.out]; exact HS0.out), M3⟩, G3, V3, R3, B3⟩
  case round =>
    clear M3 G3 V3 R3 B3
    obtain ⟨v, hv, rfl, ⟨h, HM, CM⟩, CG, CV, CR, BB⟩ := hrel
    by_cases hvn : v < m.facts.length
    · have hv0 : (0 : Int) ≤ (v : Int) := Int.natCast_nonneg _
      have hv1 : (v : Int) < (m.facts.length : Int) := by omega
      have hv16 : (v : Int) < 16 := by omega
      obtain ⟨a, e1, ha, hq, hqq, hfa, hca', hcase⟩ := HSTP.out v hvn
      have ha16 : a < 16 := by have := qAt_le c (v + 1); omega
      have ha0 : (0 : Int) ≤ (a : Int) := Int.natCast_nonneg _
      have ha1 : (a : Int) < 16 := by omega
      have HFX : Hid (m.facts.getD v 0 = m.facts.getD ((firstsC c).getD a 0) 0) := Lib.hid (HFA.out v _ hvn (by omega) (by rw [e1, hca']))
      have HHX : Hid (∀ k, k < m.blocks.length → headL (setB m c k v) = headL (setB m c k ((firstsC c).getD a 0))) := Lib.hid (fun k hk => HHD.out k v _ hk hvn (by omega) (by rw [e1, hca']))
      have HQV : Hid (qAt c (v + 1) = qAt c (v + 1)) := Lib.hid rfl
      have KMv := Lib.hid (fun k hk => KM.out k v hk hvn)
      have KFv := Lib.hid (fun k => KF.out k v hvn)
      have HHv := Lib.hid (fun k => HH16.out k v hvn)
      clear hca' hfa
      generalize hqd : qAt c v = q at *
      generalize hqd' : qAt c (v + 1) = q' at *
      have hq16 : q ≤ 16 := by rw [← hqd]; have := qAt_le c v; omega
      have c1 := HV.out _ _ _ CV.out v (by omega)
      rw [e1] at c1
      have c2 := CM.out.gg (i := 0) (by omega)
      rw [HM.out.n] at c2
      have f2 := CM.out.frozen 0
      rcases hcase with ⟨_, h1, h2⟩ | ⟨_, h1, h2⟩
      · have hmx : ((a : Int) + 1 : Int) = (q' : Int) := by omega
        have hlt : (q : Int) < (a : Int) + 1 := by omega
        clear h1 h2
        have CM1 := Lib.hid (CM.out.ggset 0 ((a : Int) + 1))
        have c3 := HF.out v hvn _ _ _ (CG.out.other (b' := w1.heap.size) (by omega) 0 (.int .i64 ((a : Int) + 1)))
        have c4 := CM1.out.gg (i := 2 + a) (by omega)
        have f4 := CM1.out.frozen (2 + a)
        obtain ⟨y, hy⟩ : ∃ y, y = m.facts.getD v 0 := ⟨_, rfl⟩
        rw [← hy] at c3
        have CM2 := Lib.hid (CM1.out.ggset (2 + a) y)
        have HM2 : Hid (Mgd m c (updI (updI h 0 ((a : Int) + 1)) (2 + a) y) q q' 0 ca) := Lib.hid (by rw [hmx]; exact HM.out.facts ha hq hqq ha16 (by rw [hy]; exact HFX.out))
        have CG2 := Lib.hid ((CG.out.other (b' := w1.heap.size) (by omega) 0 (.int .i64 ((a : Int) + 1))).other (b' := w1.heap.size) (by omega) (2 + a) (.int .i64 y))
        have CV2 := Lib.hid ((CV.out.other (b' := w1.heap.size) (by omega) 0 (.int .i64 ((a : Int) + 1))).other (b' := w1.heap.size) (by omega) (2 + a) (.int .i64 y))
        have CR2 := Lib.hid ((CR.out.other (b' := w1.heap.size) (by omega) 0 (.int .i64 ((a : Int) + 1))).other (b' := w1.heap.size) (by omega) (2 + a) (.int .i64 y))
        have BB2 : Hid (Below w.heap.size w ((wr.setCell ⟨w1.heap.size, 0, none⟩ (.int .i64 ((a : Int) + 1))).setCell ⟨w1.heap.size, 2 + a, none⟩ (.int .i64 y))) := Lib.hid ((BB.out.setCell (by show _ ≤ w1.heap.size; omega) _).setCell (by show _ ≤ w1.heap.size; omega) _)
        have c5 := (HC.out _ _ _ CG2.out).2.1
        clear CG CV CR BB CM CM1 HM hy hmx
        go_wp2
        clear c1 c2 c3 c4 c5 f2 f4
        go_loopw [39] (fun iv wr => ∃ j : Nat, j ≤ m.blocks.length ∧ iv = .int .i64 j ∧ (∃ h, Hid (Mgd m c h q q' j ca) ∧ Hid (Cm wr w1.heap.size 42 (ints (gG h)))) ∧ Hid (Cm wr w.heap.size 42 (ints G)) ∧ Hid (Cm wr (w.heap.size + 1) 39 V) ∧ Hid (Cm wr (w.heap.size + 1 + 1) 42 (ints (gL 0 0 [] [] 0))) ∧ Hid (Below w.heap.size w wr)) (fun iv _ => m.blocks.length - (intOf iv).toNat)
        case atStart => exact ⟨0, Nat.zero_le _, rfl, ⟨_, HM2, CM2⟩, CG2, CV2, CR2, BB2⟩
        case round =>
          clear HM2 CM2 CG2 CV2 CR2 BB2
          obtain ⟨j, hj, rfl, ⟨h2, HM, CM⟩, CG, CV, CR, BB⟩ := hrel
          by_cases hlj : j < m.blocks.length
          · have hj0 : (0 : Int) ≤ (j : Int) := Int.natCast_nonneg _
            have hj3 : (j : Int) < 3 := by omega
            have KMj := KMv.out j hlj
            have KFj := KFv.out j
            have HXj := HHX.out j hlj
            have HGW : Hid (∀ W, Below wr.heap.size wr W → W.rangeAt w.heap.size 0 (ints G)) := Lib.hid (fun W hW => (CG.out.all hW).whole)
            have HVW : Hid (∀ W, Below wr.heap.size wr W → W.rangeAt (w.heap.size + 1) 0 V) := Lib.hid (fun W hW => (CV.out.all hW).whole)
            have HM3 := Lib.hid (HM.out.block (x := ((headL (setB m c j v) : Nat) : Int)) hlj p4 ha hq hqq ha16 (by rw [HXj]))
            have KMJ := Lib.hid KMj
            have KFJ := Lib.hid KFj
            clear KMj KFj HXj
            generalize headL (setB m c j v) = hd at *
            generalize bL (setB m c j v) = BLK at *
            have hrw : (w.heap.size + 1 + 1) < wr.heap.size := CR.out.lt
            go_wp2
            refine regionL (fun W => Below wr.heap.size wr W) [11] (by kernel_rfl) (Below.refl _ _).drew (fun hHeld => ?_)
            refine takeA (i := 0) (v := .int .i64 j) 42 rfl rfl (by kernel_rfl) (by kernel_rfl) (by kernel_rfl) (by kernel_rfl) (fun _ _ _ h => h) (Or.inl ⟨by rfl, by intro W hSw; go_simp⟩) hHeld ?_
            simp only [Act.put, List.setIfInBounds_toArray, List.set_cons_zero, List.set_cons_succ]
            refine takeA (i := 1) (v := .int .i64 a) 43 rfl rfl (by kernel_rfl) (by kernel_rfl) (by kernel_rfl) (by kernel_rfl) (fun _ _ _ h => h) (Or.inl ⟨by rfl, by intro W hSw; go_simp⟩) hHeld ?_
            simp only [Act.put, List.setIfInBounds_toArray, List.set_cons_zero, List.set_cons_succ]
            refine takeA (i := 2) (v := .agg (ints G).toArray) 44 rfl rfl (by kernel_rfl) (by kernel_rfl) (by kernel_rfl) (by kernel_rfl) (fun _ _ _ h => h) (yieldsIf_load_mid (by rfl) 42 _ rfl w.heap.size 0 rfl (ints G) _ HGW.out Try.underlying42 rfl (by rw [HL.out]; exact Try.sizeGrid)) hHeld ?_
            simp only [Act.put, List.setIfInBounds_toArray, List.set_cons_zero, List.set_cons_succ]
            refine takeA (i := 3) (v := .int .i64 j) 45 rfl rfl (by kernel_rfl) (by kernel_rfl) (by kernel_rfl) (by kernel_rfl) (fun _ _ _ h => h) (Or.inl ⟨by rfl, by intro W hSw; go_simp⟩) hHeld ?_
            simp only [Act.put, List.setIfInBounds_toArray, List.set_cons_zero, List.set_cons_succ]
            refine takeA (i := 4) (v := .int .i64 v) 46 rfl rfl (by kernel_rfl) (by kernel_rfl) (by kernel_rfl) (by kernel_rfl) (fun _ _ _ h => h) (Or.inl ⟨by rfl, by intro W hSw; go_simp⟩) hHeld ?_
            simp only [Act.put, List.setIfInBounds_toArray, List.set_cons_zero, List.set_cons_succ]
            refine takeA (i := 5) (v := .agg V.toArray) 47 rfl rfl (by kernel_rfl) (by kernel_rfl) (by kernel_rfl) (by kernel_rfl) (fun _ _ _ h => h) (yieldsIf_load_mid (by rfl) 39 _ rfl (w.heap.size + 1) 0 rfl V _ HVW.out Try.underlying39 rfl (by rw [HVL.out]; exact Try.sizeRow)) hHeld ?_
            simp only [Act.put, List.setIfInBounds_toArray, List.set_cons_zero, List.set_cons_succ]
            refine takeA (i := 8) (v := .pointer (some ⟨w1.heap.size, 18, none⟩)) 50 rfl rfl (by kernel_rfl) (by kernel_rfl) (by kernel_rfl) (by kernel_rfl) (fun _ _ _ h => h) (Or.inl ⟨by rfl, by intro W hSw; go_simp⟩) hHeld ?_
            simp only [Act.put, List.setIfInBounds_toArray, List.set_cons_zero, List.set_cons_succ]
            refine takeA (i := 9) (v := .pointer (some ⟨w1.heap.size, 18 + j * 16, none⟩)) 51 rfl rfl (by kernel_rfl) (by kernel_rfl) (by kernel_rfl) (by kernel_rfl) (fun _ _ _ h => h) (Or.inl ⟨by rfl, by intro W hSw; go_simp⟩) hHeld ?_
            simp only [Act.put, List.setIfInBounds_toArray, List.set_cons_zero, List.set_cons_succ]
            refine onlyL (i := 6) (by kernel_rfl) rfl (by rfl) (fun K hK => ?_)
            go_simp
            refine (KMJ.out _).mono ?_
            rintro e w6 ⟨rfl, hb6⟩
            have t6 : Below wr.heap.size wr w6 := hHeld.trans (hb6.mono (Nat.le_refl _))
            clear hb6 hHeld
            refine hK.out _ _ (fun _ => t6) (fun hHeld => ?_)
            have hHeld := hHeld (by decide)
            clear hK K
            try simp only [Act.put, List.setIfInBounds_toArray, List.set_cons_zero, List.set_cons_succ]
            refine onlyL (i := 7) (by kernel_rfl) rfl (by rfl) (fun K hK => ?_)
            go_simp
            refine (KFJ.out _).mono ?_
            rintro e w7 ⟨rfl, hb7⟩
            have t7 : Below wr.heap.size wr w7 := hHeld.trans (hb7.mono hHeld.size)
            clear hb7 hHeld t6
            refine hK.out _ _ (fun _ => t7) (fun hHeld => ?_)
            have hHeld := hHeld (by decide)
            clear hK K
            try simp only [Act.put, List.setIfInBounds_toArray, List.set_cons_zero, List.set_cons_succ]
            have CM7 := Lib.hid (CM.out.all t7)
            have CG7 := Lib.hid (CG.out.all t7)
            have CV7 := Lib.hid (CV.out.all t7)
            have CR7 := Lib.hid (CR.out.all t7)
            have BB7 := Lib.hid (BB.out.trans (t7.mono BB.out.size))
            clear t7 CM CG CV CR BB HM
            refine takeA (i := 10) (v := .pointer (some ⟨w1.heap.size, 18 + j * 16 + a, none⟩)) 52 rfl rfl (by kernel_rfl) (by kernel_rfl) (by kernel_rfl) (by kernel_rfl) (fun _ _ _ h => h) (Or.inl ⟨by rfl, by intro W hSw; go_simp⟩) hHeld ?_
            simp only [Act.put, List.setIfInBounds_toArray, List.set_cons_zero, List.set_cons_succ]
            refine onlyL (i := 11) (by kernel_rfl) rfl (by rfl) (fun K hK => ?_)
            have ck := CM7.out.gg (i := 18 + j * 16 + a) (by omega)
            have fk := CM7.out.frozen (18 + j * 16 + a)
            have CM8 := Lib.hid (CM7.out.ggset (18 + j * 16 + a) hd)
            have CG8 := Lib.hid (CG7.out.other (b' := w1.heap.size) (by omega) (18 + j * 16 + a) (.int .i64 hd))
            have CV8 := Lib.hid (CV7.out.other (b' := w1.heap.size) (by omega) (18 + j * 16 + a) (.int .i64 hd))
            have CR8 := Lib.hid (CR7.out.other (b' := w1.heap.size) (by omega) (18 + j * 16 + a) (.int .i64 hd))
            have BB8 : Hid (Below w.heap.size w (w7.setCell ⟨w1.heap.size, 18 + j * 16 + a, none⟩ (.int .i64 hd))) := Lib.hid (BB7.out.setCell (by show _ ≤ w1.heap.size; omega) _)
            clear CM7 CG7 CV7 CR7 BB7
            go_simp
            refine hK.out _ _ (fun h => absurd (by decide) h) (fun _ => ?_)
            clear hK K hHeld ck fk
            refine doneL (by kernel_rfl) ?_ _
            go_wp2
            go_roundw
            case rel => exact ⟨j + 1, by omega, by go_num, ⟨_, HM3, CM8⟩, CG8, CV8, CR8, BB8⟩
            case measure => simp [intOf]; omega
          · obtain rfl : j = m.blocks.length := by omega
            go_wp2
            go_roundw
            case rel => exact ⟨v + 1, by omega, by go_num, ⟨h2, Lib.hid (by rw [hqd']; exact HM.out.next), CM⟩, CG, CV, CR, BB⟩
            case measure => simp [intOf]; omega
      · have hmx : ((q : Int) : Int) = (q' : Int) := by omega
        have hlt : (a : Int) + 1 ≤ (q : Int) := by omega
        clear h1 h2
        have CM1 := Lib.hid (CM.out.ggset 0 ((q : Int)))
        have c3 := HF.out v hvn _ _ _ (CG.out.other (b' := w1.heap.size) (by omega) 0 (.int .i64 ((q : Int))))
        have c4 := CM1.out.gg (i := 2 + a) (by omega)
        have f4 := CM1.out.frozen (2 + a)
        obtain ⟨y, hy⟩ : ∃ y, y = m.facts.getD v 0 := ⟨_, rfl⟩
        rw [← hy] at c3
        have CM2 := Lib.hid (CM1.out.ggset (2 + a) y)
        have HM2 : Hid (Mgd m c (updI (updI h 0 ((q : Int))) (2 + a) y) q q' 0 ca) := Lib.hid (by rw [hmx]; exact HM.out.facts ha hq hqq ha16 (by rw [hy]; exact HFX.out))
        have CG2 := Lib.hid ((CG.out.other (b' := w1.heap.size) (by omega) 0 (.int .i64 ((q : Int)))).other (b' := w1.heap.size) (by omega) (2 + a) (.int .i64 y))
        have CV2 := Lib.hid ((CV.out.other (b' := w1.heap.size) (by omega) 0 (.int .i64 ((q : Int)))).other (b' := w1.heap.size) (by omega) (2 + a) (.int .i64 y))
        have CR2 := Lib.hid ((CR.out.other (b' := w1.heap.size) (by omega) 0 (.int .i64 ((q : Int)))).other (b' := w1.heap.size) (by omega) (2 + a) (.int .i64 y))
        have BB2 : Hid (Below w.heap.size w ((wr.setCell ⟨w1.heap.size, 0, none⟩ (.int .i64 ((q : Int)))).setCell ⟨w1.heap.size, 2 + a, none⟩ (.int .i64 y))) := Lib.hid ((BB.out.setCell (by show _ ≤ w1.heap.size; omega) _).setCell (by show _ ≤ w1.heap.size; omega) _)
        have c5 := (HC.out _ _ _ CG2.out).2.1
        clear CG CV CR BB CM CM1 HM hy hmx
        go_wp2
        clear c1 c2 c3 c4 c5 f2 f4
        go_loopw [39] (fun iv wr => ∃ j : Nat, j ≤ m.blocks.length ∧ iv = .int .i64 j ∧ (∃ h, Hid (Mgd m c h q q' j ca) ∧ Hid (Cm wr w1.heap.size 42 (ints (gG h)))) ∧ Hid (Cm wr w.heap.size 42 (ints G)) ∧ Hid (Cm wr (w.heap.size + 1) 39 V) ∧ Hid (Cm wr (w.heap.size + 1 + 1) 42 (ints (gL 0 0 [] [] 0))) ∧ Hid (Below w.heap.size w wr)) (fun iv _ => m.blocks.length - (intOf iv).toNat)
        case atStart => exact ⟨0, Nat.zero_le _, rfl, ⟨_, HM2, CM2⟩, CG2, CV2, CR2, BB2⟩
        case round =>
          clear HM2 CM2 CG2 CV2 CR2 BB2
          obtain ⟨j, hj, rfl, ⟨h2, HM, CM⟩, CG, CV, CR, BB⟩ := hrel
          by_cases hlj : j < m.blocks.length
          · have hj0 : (0 : Int) ≤ (j : Int) := Int.natCast_nonneg _
            have hj3 : (j : Int) < 3 := by omega
            have KMj := KMv.out j hlj
            have KFj := KFv.out j
            have HXj := HHX.out j hlj
            have HGW : Hid (∀ W, Below wr.heap.size wr W → W.rangeAt w.heap.size 0 (ints G)) := Lib.hid (fun W hW => (CG.out.all hW).whole)
            have HVW : Hid (∀ W, Below wr.heap.size wr W → W.rangeAt (w.heap.size + 1) 0 V) := Lib.hid (fun W hW => (CV.out.all hW).whole)
            have HM3 := Lib.hid (HM.out.block (x := ((headL (setB m c j v) : Nat) : Int)) hlj p4 ha hq hqq ha16 (by rw [HXj]))
            have KMJ := Lib.hid KMj
            have KFJ := Lib.hid KFj
            clear KMj KFj HXj
            generalize headL (setB m c j v) = hd at *
            generalize bL (setB m c j v) = BLK at *
            have hrw : (w.heap.size + 1 + 1) < wr.heap.size := CR.out.lt
            go_wp2
            refine regionL (fun W => Below wr.heap.size wr W) [11] (by kernel_rfl) (Below.refl _ _).drew (fun hHeld => ?_)
            refine takeA (i := 0) (v := .int .i64 j) 42 rfl rfl (by kernel_rfl) (by kernel_rfl) (by kernel_rfl) (by kernel_rfl) (fun _ _ _ h => h) (Or.inl ⟨by rfl, by intro W hSw; go_simp⟩) hHeld ?_
            simp only [Act.put, List.setIfInBounds_toArray, List.set_cons_zero, List.set_cons_succ]
            refine takeA (i := 1) (v := .int .i64 a) 43 rfl rfl (by kernel_rfl) (by kernel_rfl) (by kernel_rfl) (by kernel_rfl) (fun _ _ _ h => h) (Or.inl ⟨by rfl, by intro W hSw; go_simp⟩) hHeld ?_
            simp only [Act.put, List.setIfInBounds_toArray, List.set_cons_zero, List.set_cons_succ]
            refine takeA (i := 2) (v := .agg (ints G).toArray) 44 rfl rfl (by kernel_rfl) (by kernel_rfl) (by kernel_rfl) (by kernel_rfl) (fun _ _ _ h => h) (yieldsIf_load_mid (by rfl) 42 _ rfl w.heap.size 0 rfl (ints G) _ HGW.out Try.underlying42 rfl (by rw [HL.out]; exact Try.sizeGrid)) hHeld ?_
            simp only [Act.put, List.setIfInBounds_toArray, List.set_cons_zero, List.set_cons_succ]
            refine takeA (i := 3) (v := .int .i64 j) 45 rfl rfl (by kernel_rfl) (by kernel_rfl) (by kernel_rfl) (by kernel_rfl) (fun _ _ _ h => h) (Or.inl ⟨by rfl, by intro W hSw; go_simp⟩) hHeld ?_
            simp only [Act.put, List.setIfInBounds_toArray, List.set_cons_zero, List.set_cons_succ]
            refine takeA (i := 4) (v := .int .i64 v) 46 rfl rfl (by kernel_rfl) (by kernel_rfl) (by kernel_rfl) (by kernel_rfl) (fun _ _ _ h => h) (Or.inl ⟨by rfl, by intro W hSw; go_simp⟩) hHeld ?_
            simp only [Act.put, List.setIfInBounds_toArray, List.set_cons_zero, List.set_cons_succ]
            refine takeA (i := 5) (v := .agg V.toArray) 47 rfl rfl (by kernel_rfl) (by kernel_rfl) (by kernel_rfl) (by kernel_rfl) (fun _ _ _ h => h) (yieldsIf_load_mid (by rfl) 39 _ rfl (w.heap.size + 1) 0 rfl V _ HVW.out Try.underlying39 rfl (by rw [HVL.out]; exact Try.sizeRow)) hHeld ?_
            simp only [Act.put, List.setIfInBounds_toArray, List.set_cons_zero, List.set_cons_succ]
            refine takeA (i := 8) (v := .pointer (some ⟨w1.heap.size, 18, none⟩)) 50 rfl rfl (by kernel_rfl) (by kernel_rfl) (by kernel_rfl) (by kernel_rfl) (fun _ _ _ h => h) (Or.inl ⟨by rfl, by intro W hSw; go_simp⟩) hHeld ?_
            simp only [Act.put, List.setIfInBounds_toArray, List.set_cons_zero, List.set_cons_succ]
            refine takeA (i := 9) (v := .pointer (some ⟨w1.heap.size, 18 + j * 16, none⟩)) 51 rfl rfl (by kernel_rfl) (by kernel_rfl) (by kernel_rfl) (by kernel_rfl) (fun _ _ _ h => h) (Or.inl ⟨by rfl, by intro W hSw; go_simp⟩) hHeld ?_
            simp only [Act.put, List.setIfInBounds_toArray, List.set_cons_zero, List.set_cons_succ]
            refine onlyL (i := 6) (by kernel_rfl) rfl (by rfl) (fun K hK => ?_)
            go_simp
            refine (KMJ.out _).mono ?_
            rintro e w6 ⟨rfl, hb6⟩
            have t6 : Below wr.heap.size wr w6 := hHeld.trans (hb6.mono (Nat.le_refl _))
            clear hb6 hHeld
            refine hK.out _ _ (fun _ => t6) (fun hHeld => ?_)
            have hHeld := hHeld (by decide)
            clear hK K
            try simp only [Act.put, List.setIfInBounds_toArray, List.set_cons_zero, List.set_cons_succ]
            refine onlyL (i := 7) (by kernel_rfl) rfl (by rfl) (fun K hK => ?_)
            go_simp
            refine (KFJ.out _).mono ?_
            rintro e w7 ⟨rfl, hb7⟩
            have t7 : Below wr.heap.size wr w7 := hHeld.trans (hb7.mono hHeld.size)
            clear hb7 hHeld t6
            refine hK.out _ _ (fun _ => t7) (fun hHeld => ?_)
            have hHeld := hHeld (by decide)
            clear hK K
            try simp only [Act.put, List.setIfInBounds_toArray, List.set_cons_zero, List.set_cons_succ]
            have CM7 := Lib.hid (CM.out.all t7)
            have CG7 := Lib.hid (CG.out.all t7)
            have CV7 := Lib.hid (CV.out.all t7)
            have CR7 := Lib.hid (CR.out.all t7)
            have BB7 := Lib.hid (BB.out.trans (t7.mono BB.out.size))
            clear t7 CM CG CV CR BB HM
            refine takeA (i := 10) (v := .pointer (some ⟨w1.heap.size, 18 + j * 16 + a, none⟩)) 52 rfl rfl (by kernel_rfl) (by kernel_rfl) (by kernel_rfl) (by kernel_rfl) (fun _ _ _ h => h) (Or.inl ⟨by rfl, by intro W hSw; go_simp⟩) hHeld ?_
            simp only [Act.put, List.setIfInBounds_toArray, List.set_cons_zero, List.set_cons_succ]
            refine onlyL (i := 11) (by kernel_rfl) rfl (by rfl) (fun K hK => ?_)
            have ck := CM7.out.gg (i := 18 + j * 16 + a) (by omega)
            have fk := CM7.out.frozen (18 + j * 16 + a)
            have CM8 := Lib.hid (CM7.out.ggset (18 + j * 16 + a) hd)
            have CG8 := Lib.hid (CG7.out.other (b' := w1.heap.size) (by omega) (18 + j * 16 + a) (.int .i64 hd))
            have CV8 := Lib.hid (CV7.out.other (b' := w1.heap.size) (by omega) (18 + j * 16 + a) (.int .i64 hd))
            have CR8 := Lib.hid (CR7.out.other (b' := w1.heap.size) (by omega) (18 + j * 16 + a) (.int .i64 hd))
            have BB8 : Hid (Below w.heap.size w (w7.setCell ⟨w1.heap.size, 18 + j * 16 + a, none⟩ (.int .i64 hd))) := Lib.hid (BB7.out.setCell (by show _ ≤ w1.heap.size; omega) _)
            clear CM7 CG7 CV7 CR7 BB7
            go_simp
            refine hK.out _ _ (fun h => absurd (by decide) h) (fun _ => ?_)
            clear hK K hHeld ck fk
            refine doneL (by kernel_rfl) ?_ _
            go_wp2
            go_roundw
            case rel => exact ⟨j + 1, by omega, by go_num, ⟨_, HM3, CM8⟩, CG8, CV8, CR8, BB8⟩
            case measure => simp [intOf]; omega
          · obtain rfl : j = m.blocks.length := by omega
            go_wp2
            go_roundw
            case rel => exact ⟨v + 1, by omega, by go_num, ⟨h2, Lib.hid (by rw [hqd']; exact HM.out.next), CM⟩, CG, CV, CR, BB⟩
            case measure => simp [intOf]; omega
    · obtain rfl : v = m.facts.length := by omega
      rw [HQN.out] at HM
      obtain ⟨HE, hsm⟩ := HFIN.out h HM.out
      have KR := Lib.hid (HRN.out hsm)
      simp only [List.length_map, List.length_range] at KR
      rw [HE] at KR
      have HLG : Hid ((ints (gG h)).length = 67) := Lib.hid (by rw [ints_len]; exact gG_len h)
      have HLZ : Hid ((ints (gL 0 0 [] [] 0)).length = 67) := Lib.hid (HE67.out 0 0)
      have hsr : small (pick m.facts (firstsC c)) (((List.range m.blocks.length).map (hdL m c)).map num) := ⟨hsm.1, fun k => by
        rw [List.getD_eq_getElem?_getD, List.getElem?_map]
        rcases e : ((List.range m.blocks.length).map (hdL m c))[k]? with _ | r
        · simp
        · have := hsm.2 k
          rw [List.getD_eq_getElem?_getD, e] at this
          simpa [num_len] using this⟩
      have HLR : Hid ((ints (gL (firstsC c).length m.blocks.length (pick m.facts (firstsC c)) (((List.range m.blocks.length).map (hdL m c)).map num) ca)).length = 67) := Lib.hid (by rw [ints_len]; exact gL_len hsr)
      clear HE hsr hsm
      obtain ⟨RES, hR⟩ : ∃ R, R = gL (firstsC c).length m.blocks.length (pick m.facts (firstsC c)) (((List.range m.blocks.length).map (hdL m c)).map num) ca := ⟨_, rfl⟩
      rw [← hR] at KR HLR
      have HRR := Lib.hid hR
      clear hR
      generalize gG h = GH at *
      have HO1 := Lib.hid (fun v (hv : v ∈ ints RES) => ints_one hv)
      go_wp2_with
        (first
          | (refine wpList_loadM rfl 42 _ rfl w1.heap.size 0 rfl 42 (ints GH) (ints GH) CM.out (fun j _ => by rw [Nat.zero_add]) _ Try.underlying42 rfl (by rw [HLG.out]; exact Try.sizeGrid) ?_)
          | (go_at_call 39; (with_reducible refine (KR.out _).mono ?_); rintro e w8 ⟨rfl, hb8⟩
             have CR8 := Lib.hid (CR.out.all hb8)
             have BB8 := Lib.hid (BB.out.trans (hb8.mono BB.out.size))
             clear hb8)
          | (refine wpList_storeM rfl 42 (.tmp 4) (.tmp 56) rfl (w.heap.size + 1 + 1) 0 rfl (ints RES) rfl 42 (ints (gL 0 0 [] [] 0)) CR8.out (by rw [HLR.out, HLZ.out]; exact Nat.le_refl _) (by rw [HLR.out]; exact Try.sizeGrid) HO1.out ?_
             intro w9 hc9 ha9
             rw [lay'_all (by rw [HLR.out, HLZ.out])] at hc9
             have C9 := Lib.hid hc9
             have B9 : Hid (Below w.heap.size w w9) := Lib.hid (BB8.out.trans (ha9.below (by omega)))
             clear hc9 ha9))
      refine bodyPost_ret (results_mid1 Try.results31 _ _ (w.heap.size + 1 + 1) (ints RES) _ rfl C9.out.whole Try.underlying42 rfl (by rw [HLR.out]; exact Try.sizeGrid)) rfl ?_
      exact ⟨by rw [HRR.out], B9.out⟩
end Go.Proofs.Ytodjohdbngbpaab
