/-
  grid.joined: the worlds of two valid models one after the other. Condition: the same agents, and no more worlds than a grid holds.
-/
import Derived.Test.YtpodpadcaflehaaJng
import Derived.Test.YtpodpadcaflehaaRen
namespace Go.Proofs.Ytpodpadcaflehaa
open Go.RowKit Go.WideShapes
open Go Go.Deep
set_option linter.unusedSimpArgs false

set_option maxRecDepth 100000 in
set_option maxHeartbeats 64000000 in
theorem joined_any (m n : Md) (hm : mdOk m = true) (hn : mdOk n = true) (hb : m.blocks.length = n.blocks.length) (hl : m.facts.length + n.facts.length ≤ 16) (w : World) :
    Calls Try.prog 38 #[.agg (ints (gOf m)).toArray, .agg (ints (gOf n)).toArray] w
      fun e w' => e = .returned (.agg (ints (gOf (bothM m n))).toArray) ∧ Below w.heap.size w w' := by
  obtain ⟨p1, p2, p3, p4, p5, p6, p7, p8⟩ := mdOk_parts hm
  obtain ⟨q1, q2, q3, q4, q5, q6, q7, q8⟩ := mdOk_parts hn
  have hs := md_small hm
  have hs2 := md_small hn
  have hok := both_ok hm hn hb hl
  have HSTART := Lib.hid (Jnd.start (n := n) hm)
  have HG0 : Hid (gOf m = gG (gfun m.facts.length m.blocks.length m.facts m.blocks m.actual)) := Lib.hid ((gfun_gf _ _ _ _ _).eq hs)
  have HFIN := Lib.hid (fun h (g : Jnd m n h n.facts.length n.facts.length 0) => g.finish hm hn hb hl)
  have HROW := Lib.hid (fun k (hk : k < m.blocks.length) => (p5 k hk).1)
  have HROW2 := Lib.hid (fun k (hk : k < m.blocks.length) => (q5 k (by omega)).1)
  have HBD : Hid (∀ k q, k < m.blocks.length → q < n.facts.length → 0 ≤ (n.blocks.getD k []).getD q 0 ∧ (n.blocks.getD k []).getD q 0 < 16) := Lib.hid (fun k q hk hq => by
    obtain ⟨r1, r2⟩ := q5 k (by omega)
    have := ord_bd r2 (getD_mem (l := n.blocks.getD k []) (i := q) (by omega))
    omega)
  have HLG : Hid ((ints (gOf m)).length = 67) := Lib.hid (by rw [ints_len]; exact gL_len hs)
  have HLH : Hid ((ints (gOf n)).length = 67) := Lib.hid (by rw [ints_len]; exact gL_len hs2)
  have HLR : Hid ((ints (gOf (bothM m n))).length = 67) := Lib.hid (by rw [ints_len]; exact gL_len (md_small hok))
  have HC : Hid (∀ (W : World) b T, Cm W b T (ints (gOf m)) → W.cell? ⟨b, 0, none⟩ = some (.int .i64 m.facts.length) ∧ W.cell? ⟨b, 1, none⟩ = some (.int .i64 m.blocks.length)) := Lib.hid (fun W b T h => ⟨Cm.g0 h, Cm.g1 h⟩)
  have HD : Hid (∀ (W : World) b T, Cm W b T (ints (gOf n)) → W.cell? ⟨b, 0, none⟩ = some (.int .i64 n.facts.length)) := Lib.hid (fun W b T h => Cm.g0 h)
  have HDF : Hid (∀ q, q < n.facts.length → ∀ (W : World) b T, Cm W b T (ints (gOf n)) → W.cell? ⟨b, 2 + q, none⟩ = some (.int .i64 (n.facts.getD q 0))) := Lib.hid (fun q hq W b T h => Cm.gf h hs2 (by omega))
  have HDR : Hid (∀ k q, k < m.blocks.length → q < n.facts.length → ∀ (W : World) b T, Cm W b T (ints (gOf n)) → W.cell? ⟨b, 18 + k * 16 + q, none⟩ = some (.int .i64 ((n.blocks.getD k []).getD q 0))) := Lib.hid (fun k q hk hq W b T h => by
    rw [h.cell, ints_get]
    unfold gOf
    rw [gL_r hs2 (by omega) (by omega), pad_get (by omega) (hs2.2 k)]; rfl)
  have HL1 := Lib.hid (fun v (hv : v ∈ ints (gOf m)) => ints_one hv)
  have HE67 : Hid ((ints (gL 0 0 [] [] 0)).length = 67) := Lib.hid rfl
  have HRN := Lib.hid (fun (c : Int) (f : List Int) (rows : List (List Int)) (hsm : small f rows) (ha : rows.length ≤ 3) (hr : ∀ k, k < rows.length → (rows.getD k []).length = m.facts.length + n.facts.length) W => renumbered_any (m.facts.length + n.facts.length) c f rows hsm hl ha hr W)
  have hx16 : (n.facts.length : Int) ≤ 16 := by omega
  clear hs hs2 hok p5 q5 p6 q6 p7 p8 q7 q8
  obtain ⟨G, hG⟩ : ∃ G, G = gOf m := ⟨_, rfl⟩
  obtain ⟨H, hH⟩ : ∃ H, H = gOf n := ⟨_, rfl⟩
  obtain ⟨B, hBB⟩ : ∃ B, B = gOf (bothM m n) := ⟨_, rfl⟩
  rw [← hG] at HG0 HLG HC HL1 ⊢
  rw [← hH] at HLH HD HDF HDR ⊢
  rw [← hBB] at HLR HFIN ⊢
  clear hG hH hBB
  go_enter Try.func38, Try.ntmps38
  have tk1 : True := trivial
  have tk2 : True := trivial
  have tk3 : True := trivial
  have tk4 : True := trivial
  go_wp2_with
    (first
      | (have _t := tk1; clear _t tk1; refine wpList_allocM (o := ⟨some 4, _, _, _, _, _⟩) rfl 65 rfl (ints (gL 0 0 [] [] 0)) Try.allocGrid ?_
         intro w1 hc1 hb1 hs1
         have G1 : Hid (Cm w1 w.heap.size 65 (ints G)) := Lib.hid (Cm.all ((Cm.new rfl).alloc _) hb1)
         have H1 : Hid (Cm w1 (w.heap.size + 1) 65 (ints H)) := Lib.hid (Cm.all (Cm.new (by simp)) hb1)
         have R1 : Hid (Cm w1 (w.heap.size + 1 + 1) 65 (ints (gL 0 0 [] [] 0))) := Lib.hid (by simpa using hc1)
         have B1 : Hid (Below w.heap.size w w1) := Lib.hid (Below.trans (by go_grown) (hb1.mono (by simp; omega)))
         have lt1 : w.heap.size + 1 + 1 < w1.heap.size := R1.out.lt
         rw [show ((w.alloc (Obj.cells (ints G).toArray 65)).alloc (Obj.cells (ints H).toArray 65)).heap.size = w.heap.size + 1 + 1 from by simp]
         clear hc1 hb1 hs1)
      | (have _t := tk2; clear _t tk2; refine wpList_loadM rfl 65 _ rfl w.heap.size 0 rfl 65 (ints G) (ints G) G1.out (fun j _ => by rw [Nat.zero_add]) _ Try.underlying65 rfl (by rw [HLG.out]; exact Try.sizeGrid) ?_)
      | (have _t := tk3; clear _t tk3; refine wpList_allocM (o := ⟨some 5, _, _, _, _, _⟩) rfl 65 rfl (ints (gL 0 0 [] [] 0)) Try.allocGrid ?_
         intro w2 hc2 hb2 hs2
         have J2 := Lib.hid hc2
         have G2 := Lib.hid (G1.out.all hb2)
         have H2 := Lib.hid (H1.out.all hb2)
         have R2 := Lib.hid (R1.out.all hb2)
         have B2 := Lib.hid (B1.out.trans (hb2.mono B1.out.size))
         clear hc2 hb2 hs2 G1 H1 R1 B1)
      | (have _t := tk4; clear _t tk4; refine wpList_storeM rfl 65 (.tmp 5) (.tmp 8) rfl w1.heap.size 0 rfl (ints G) rfl 65 (ints (gL 0 0 [] [] 0)) J2.out (by rw [HLG.out, HE67.out]; exact Nat.le_refl _) (by rw [HLG.out]; exact Try.sizeGrid) HL1.out ?_
         intro w3 hc3 ha3
         rw [lay'_all (by rw [HLG.out, HE67.out])] at hc3
         have J3 := Lib.hid hc3
         have G3 := Lib.hid (ha3.cm G2.out (by omega))
         have H3 := Lib.hid (ha3.cm H2.out (by omega))
         have R3 := Lib.hid (ha3.cm R2.out (by omega))
         have B3 : Hid (Below w.heap.size w w3) := Lib.hid (B2.out.trans (ha3.below (by omega)))
         clear hc3 ha3 J2 G2 H2 R2 B2
         have c0 := (HC.out _ _ _ J3.out).1
         have h0 := HD.out _ _ _ H3.out
         have f0 := J3.out.frozen 0
         have c1 := HD.out _ _ _ (H3.out.other (b' := w1.heap.size) (by omega) 0 (.int .i64 ((m.facts.length : Int) + (n.facts.length : Int))))))
  have hc := J3.out
  rw [HG0.out] at hc
  have J4 := Lib.hid (hc.ggset 0 ((m.facts.length : Int) + (n.facts.length : Int)))
  have G4 := Lib.hid (G3.out.other (b' := w1.heap.size) (by omega) 0 (.int .i64 ((m.facts.length : Int) + (n.facts.length : Int))))
  have H4 := Lib.hid (H3.out.other (b' := w1.heap.size) (by omega) 0 (.int .i64 ((m.facts.length : Int) + (n.facts.length : Int))))
  have R4 := Lib.hid (R3.out.other (b' := w1.heap.size) (by omega) 0 (.int .i64 ((m.facts.length : Int) + (n.facts.length : Int))))
  have B4 : Hid (Below w.heap.size w (w3.setCell ⟨w1.heap.size, 0, none⟩ (.int .i64 ((m.facts.length : Int) + (n.facts.length : Int))))) := Lib.hid (B3.out.setCell (by show _ ≤ w1.heap.size; omega) _)
  clear hc c0 h0 f0 c1 J3 G3 H3 R3 B3
  go_loopw [17] (fun iv wr => ∃ q : Nat, q ≤ n.facts.length ∧ iv = .int .i64 q ∧ (∃ h, Hid (Jnd m n h q q 0) ∧ Hid (Cm wr w1.heap.size 65 (ints (gG h)))) ∧ Hid (Cm wr w.heap.size 65 (ints G)) ∧ Hid (Cm wr (w.heap.size + 1) 65 (ints H)) ∧ Hid (Cm wr (w.heap.size + 1 + 1) 65 (ints (gL 0 0 [] [] 0))) ∧ Hid (Below w.heap.size w wr)) (fun iv _ => n.facts.length - (intOf iv).toNat)
  case atStart => exact ⟨0, Nat.zero_le _, rfl, ⟨_, HSTART, J4⟩, G4, H4, R4, B4⟩
  case round =>
    clear J4 G4 H4 R4 B4
    obtain ⟨q, hq, rfl, ⟨h, HM, CM⟩, CG, CH, CR, BB⟩ := hrel
    by_cases hqn : q < n.facts.length
    · have hq0 : (0 : Int) ≤ (q : Int) := Int.natCast_nonneg _
      have hq16 : (q : Int) < 16 := by omega
      obtain ⟨p, hp⟩ : ∃ p, p = m.facts.length + q := ⟨_, rfl⟩
      have HP := Lib.hid hp
      have HWP : Hid (IntKind.wrap .i64 ((m.facts.length : Int) + (q : Int)) = (m.facts.length : Int) + (q : Int)) := Lib.hid (IntWalk.i64_in _ (by omega))
      have HPI : Hid ((m.facts.length : Int) + (q : Int) = (p : Int)) := Lib.hid (by omega)
      have hp0 : (0 : Int) ≤ (p : Int) := Int.natCast_nonneg _
      have hp16 : (p : Int) < 16 := by omega
      obtain ⟨y, hy⟩ : ∃ y, y = n.facts.getD q 0 := ⟨_, rfl⟩
      have HGc : Hid (∀ W, Below wr.heap.size wr W → W.cell? ⟨w.heap.size, 0, none⟩ = some (.int .i64 m.facts.length)) := Lib.hid (fun W hW => (HC.out _ _ _ (CG.out.all hW)).1)
      have HHf : Hid (∀ W, Below wr.heap.size wr W → W.cell? ⟨w.heap.size + 1, 2 + q, none⟩ = some (.int .i64 y)) := Lib.hid (fun W hW => by rw [hy]; exact HDF.out q hqn _ _ _ (CH.out.all hW))
      have HJ2 : Hid (Jnd m n (updI h (2 + p) y) q (q + 1) 0) := Lib.hid (by rw [HP.out]; exact HM.out.facts hy hqn hl)
      have hwr : w1.heap.size < wr.heap.size := CM.out.lt
      have hp2 : 2 + p < 67 := by omega
      have hp3' : ∀ j, j < 3 → 18 + j * 16 + p < 67 := fun j hj => by omega
      have HP3 := Lib.hid hp3'
      clear hy HM hp hp3'
      go_wp2
      refine regionL (fun W => Below wr.heap.size wr W) [10] (by kernel_rfl) (Below.refl _ _).drew (fun hHeld => ?_)
      refine takeA (i := 0) (v := .pointer (some ⟨w.heap.size, 0, none⟩)) 20 rfl rfl (by kernel_rfl) (by kernel_rfl) (by kernel_rfl) (by kernel_rfl) (fun _ _ _ h => h) (Or.inl ⟨by rfl, by intro W hSw; go_simp⟩) hHeld ?_
      simp only [Act.put, List.setIfInBounds_toArray, List.set_cons_zero, List.set_cons_succ]
      refine takeA (i := 1) (v := .int .i64 m.facts.length) 21 rfl rfl (by kernel_rfl) (by kernel_rfl) (by kernel_rfl) (by kernel_rfl) (fun _ _ _ h => h) (Or.inl ⟨by rfl, by intro W hSw; have c1 := HGc.out _ hSw; go_simp⟩) hHeld ?_
      simp only [Act.put, List.setIfInBounds_toArray, List.set_cons_zero, List.set_cons_succ]
      refine takeA (i := 2) (v := .int .i64 q) 22 rfl rfl (by kernel_rfl) (by kernel_rfl) (by kernel_rfl) (by kernel_rfl) (fun _ _ _ h => h) (Or.inl ⟨by rfl, by intro W hSw; go_simp⟩) hHeld ?_
      simp only [Act.put, List.setIfInBounds_toArray, List.set_cons_zero, List.set_cons_succ]
      refine takeA (i := 3) (v := .int .i64 p) 23 rfl rfl (by kernel_rfl) (by kernel_rfl) (by kernel_rfl) (by kernel_rfl) (fun _ _ _ h => h) (Or.inl ⟨by rfl, by intro W hSw; have hw := HWP.out; rw [← HPI.out]; go_simp⟩) hHeld ?_
      simp only [Act.put, List.setIfInBounds_toArray, List.set_cons_zero, List.set_cons_succ]
      refine takeA (i := 4) (v := .int .i64 q) 24 rfl rfl (by kernel_rfl) (by kernel_rfl) (by kernel_rfl) (by kernel_rfl) (fun _ _ _ h => h) (Or.inl ⟨by rfl, by intro W hSw; go_simp⟩) hHeld ?_
      simp only [Act.put, List.setIfInBounds_toArray, List.set_cons_zero, List.set_cons_succ]
      refine takeA (i := 5) (v := .pointer (some ⟨w.heap.size + 1, 2, none⟩)) 25 rfl rfl (by kernel_rfl) (by kernel_rfl) (by kernel_rfl) (by kernel_rfl) (fun _ _ _ h => h) (Or.inl ⟨by rfl, by intro W hSw; go_simp⟩) hHeld ?_
      simp only [Act.put, List.setIfInBounds_toArray, List.set_cons_zero, List.set_cons_succ]
      refine takeA (i := 6) (v := .pointer (some ⟨w.heap.size + 1, 2 + q, none⟩)) 26 rfl rfl (by kernel_rfl) (by kernel_rfl) (by kernel_rfl) (by kernel_rfl) (fun _ _ _ h => h) (Or.inl ⟨by rfl, by intro W hSw; go_simp⟩) hHeld ?_
      simp only [Act.put, List.setIfInBounds_toArray, List.set_cons_zero, List.set_cons_succ]
      refine takeA (i := 7) (v := .int .i64 y) 27 rfl rfl (by kernel_rfl) (by kernel_rfl) (by kernel_rfl) (by kernel_rfl) (fun _ _ _ h => h) (Or.inl ⟨by rfl, by intro W hSw; have c1 := HHf.out _ hSw; go_simp⟩) hHeld ?_
      simp only [Act.put, List.setIfInBounds_toArray, List.set_cons_zero, List.set_cons_succ]
      refine takeA (i := 8) (v := .pointer (some ⟨w1.heap.size, 2, none⟩)) 28 rfl rfl (by kernel_rfl) (by kernel_rfl) (by kernel_rfl) (by kernel_rfl) (fun _ _ _ h => h) (Or.inl ⟨by rfl, by intro W hSw; go_simp⟩) hHeld ?_
      simp only [Act.put, List.setIfInBounds_toArray, List.set_cons_zero, List.set_cons_succ]
      refine takeA (i := 9) (v := .pointer (some ⟨w1.heap.size, 2 + p, none⟩)) 29 rfl rfl (by kernel_rfl) (by kernel_rfl) (by kernel_rfl) (by kernel_rfl) (fun _ _ _ h => h) (Or.inl ⟨by rfl, by intro W hSw; go_simp⟩) hHeld ?_
      simp only [Act.put, List.setIfInBounds_toArray, List.set_cons_zero, List.set_cons_succ]
      generalize wr.drew = wd at hHeld ⊢
      refine onlyL (i := 10) (by kernel_rfl) rfl (by rfl) (fun K hK => ?_)
      have CM7 := Lib.hid (CM.out.all hHeld)
      have CG7 := Lib.hid (CG.out.all hHeld)
      have CH7 := Lib.hid (CH.out.all hHeld)
      have CR7 := Lib.hid (CR.out.all hHeld)
      have BB7 := Lib.hid (BB.out.trans (hHeld.mono BB.out.size))
      have ck := CM7.out.gg (i := 2 + p) hp2
      have fk := CM7.out.frozen (2 + p)
      have CM8 := Lib.hid (CM7.out.ggset (2 + p) y)
      have CG8 := Lib.hid (CG7.out.other (b' := w1.heap.size) (by omega) (2 + p) (.int .i64 y))
      have CH8 := Lib.hid (CH7.out.other (b' := w1.heap.size) (by omega) (2 + p) (.int .i64 y))
      have CR8 := Lib.hid (CR7.out.other (b' := w1.heap.size) (by omega) (2 + p) (.int .i64 y))
      have BB8 := Lib.hid (BB7.out.setCell (p := ⟨w1.heap.size, 2 + p, none⟩) (by show _ ≤ w1.heap.size; omega) (.int .i64 y))
      clear CM7 CG7 CH7 CR7 BB7 CM CG CH CR BB
      go_simp
      refine hK.out _ _ (fun h => absurd (by decide) h) (fun _ => ?_)
      clear hK K hHeld ck fk HGc HHf
      refine doneL (by kernel_rfl) ?_ _
      have c5 := (HC.out _ _ _ CG8.out).2
      go_wp2
      clear c5
      go_loopw [32] (fun iv wr => ∃ j : Nat, j ≤ m.blocks.length ∧ iv = .int .i64 j ∧ (∃ h, Hid (Jnd m n h q (q + 1) j) ∧ Hid (Cm wr w1.heap.size 65 (ints (gG h)))) ∧ Hid (Cm wr w.heap.size 65 (ints G)) ∧ Hid (Cm wr (w.heap.size + 1) 65 (ints H)) ∧ Hid (Cm wr (w.heap.size + 1 + 1) 65 (ints (gL 0 0 [] [] 0))) ∧ Hid (Below w.heap.size w wr)) (fun iv _ => m.blocks.length - (intOf iv).toNat)
      case atStart => exact ⟨0, Nat.zero_le _, rfl, ⟨_, HJ2, CM8⟩, CG8, CH8, CR8, BB8⟩
      case round =>
        clear HJ2 CM8 CG8 CH8 CR8 BB8
        obtain ⟨j, hj, rfl, ⟨h2, HM, CM⟩, CG, CH, CR, BB⟩ := hrel
        by_cases hjn : j < m.blocks.length
        · have hj0 : (0 : Int) ≤ (j : Int) := Int.natCast_nonneg _
          have hj3 : (j : Int) < 3 := by omega
          obtain ⟨y, hy⟩ : ∃ y, y = (n.blocks.getD j []).getD q 0 := ⟨_, rfl⟩
          have hbd := HBD.out j q hjn hqn
          rw [← hy] at hbd
          obtain ⟨hy0, hy16⟩ := hbd
          obtain ⟨z, hz⟩ : ∃ z, z = (m.facts.length : Int) + y := ⟨_, rfl⟩
          have HZI := Lib.hid hz
          have HWZ : Hid (IntKind.wrap .i64 ((m.facts.length : Int) + y) = (m.facts.length : Int) + y) := Lib.hid (IntWalk.i64_in _ (by omega))
          have HJ3 : Hid (Jnd m n (updI h2 (18 + j * 16 + p) z) q (q + 1) (j + 1)) := Lib.hid (by rw [HP.out]; exact HM.out.block hjn p4 (HROW.out j hjn) (HROW2.out j hjn) hqn hl (by rw [hz, hy]))
          have HGc : Hid (∀ W, Below wr.heap.size wr W → W.cell? ⟨w.heap.size, 0, none⟩ = some (.int .i64 m.facts.length)) := Lib.hid (fun W hW => (HC.out _ _ _ (CG.out.all hW)).1)
          have HHr : Hid (∀ W, Below wr.heap.size wr W → W.cell? ⟨w.heap.size + 1, 18 + j * 16 + q, none⟩ = some (.int .i64 y)) := Lib.hid (fun W hW => by rw [hy]; exact HDR.out j q hjn hqn _ _ _ (CH.out.all hW))
          have hwr : w1.heap.size < wr.heap.size := CM.out.lt
          have hp3 : 18 + j * 16 + p < 67 := HP3.out j (by omega)
          clear hy hz HM
          go_wp2
          refine regionL (fun W => Below wr.heap.size wr W) [17] (by kernel_rfl) (Below.refl _ _).drew (fun hHeld => ?_)
          refine takeA (i := 0) (v := .int .i64 j) 35 rfl rfl (by kernel_rfl) (by kernel_rfl) (by kernel_rfl) (by kernel_rfl) (fun _ _ _ h => h) (Or.inl ⟨by rfl, by intro W hSw; go_simp⟩) hHeld ?_
          simp only [Act.put, List.setIfInBounds_toArray, List.set_cons_zero, List.set_cons_succ]
          refine takeA (i := 1) (v := .pointer (some ⟨w.heap.size, 0, none⟩)) 36 rfl rfl (by kernel_rfl) (by kernel_rfl) (by kernel_rfl) (by kernel_rfl) (fun _ _ _ h => h) (Or.inl ⟨by rfl, by intro W hSw; go_simp⟩) hHeld ?_
          simp only [Act.put, List.setIfInBounds_toArray, List.set_cons_zero, List.set_cons_succ]
          refine takeA (i := 2) (v := .int .i64 m.facts.length) 37 rfl rfl (by kernel_rfl) (by kernel_rfl) (by kernel_rfl) (by kernel_rfl) (fun _ _ _ h => h) (Or.inl ⟨by rfl, by intro W hSw; have c1 := HGc.out _ hSw; go_simp⟩) hHeld ?_
          simp only [Act.put, List.setIfInBounds_toArray, List.set_cons_zero, List.set_cons_succ]
          refine takeA (i := 3) (v := .int .i64 q) 38 rfl rfl (by kernel_rfl) (by kernel_rfl) (by kernel_rfl) (by kernel_rfl) (fun _ _ _ h => h) (Or.inl ⟨by rfl, by intro W hSw; go_simp⟩) hHeld ?_
          simp only [Act.put, List.setIfInBounds_toArray, List.set_cons_zero, List.set_cons_succ]
          refine takeA (i := 4) (v := .int .i64 p) 39 rfl rfl (by kernel_rfl) (by kernel_rfl) (by kernel_rfl) (by kernel_rfl) (fun _ _ _ h => h) (Or.inl ⟨by rfl, by intro W hSw; have hw := HWP.out; rw [← HPI.out]; go_simp⟩) hHeld ?_
          simp only [Act.put, List.setIfInBounds_toArray, List.set_cons_zero, List.set_cons_succ]
          refine takeA (i := 5) (v := .pointer (some ⟨w.heap.size, 0, none⟩)) 40 rfl rfl (by kernel_rfl) (by kernel_rfl) (by kernel_rfl) (by kernel_rfl) (fun _ _ _ h => h) (Or.inl ⟨by rfl, by intro W hSw; go_simp⟩) hHeld ?_
          simp only [Act.put, List.setIfInBounds_toArray, List.set_cons_zero, List.set_cons_succ]
          refine takeA (i := 6) (v := .int .i64 m.facts.length) 41 rfl rfl (by kernel_rfl) (by kernel_rfl) (by kernel_rfl) (by kernel_rfl) (fun _ _ _ h => h) (Or.inl ⟨by rfl, by intro W hSw; have c1 := HGc.out _ hSw; go_simp⟩) hHeld ?_
          simp only [Act.put, List.setIfInBounds_toArray, List.set_cons_zero, List.set_cons_succ]
          refine takeA (i := 7) (v := .int .i64 j) 42 rfl rfl (by kernel_rfl) (by kernel_rfl) (by kernel_rfl) (by kernel_rfl) (fun _ _ _ h => h) (Or.inl ⟨by rfl, by intro W hSw; go_simp⟩) hHeld ?_
          simp only [Act.put, List.setIfInBounds_toArray, List.set_cons_zero, List.set_cons_succ]
          refine takeA (i := 8) (v := .int .i64 q) 43 rfl rfl (by kernel_rfl) (by kernel_rfl) (by kernel_rfl) (by kernel_rfl) (fun _ _ _ h => h) (Or.inl ⟨by rfl, by intro W hSw; go_simp⟩) hHeld ?_
          simp only [Act.put, List.setIfInBounds_toArray, List.set_cons_zero, List.set_cons_succ]
          refine takeA (i := 9) (v := .pointer (some ⟨w.heap.size + 1, 18, none⟩)) 44 rfl rfl (by kernel_rfl) (by kernel_rfl) (by kernel_rfl) (by kernel_rfl) (fun _ _ _ h => h) (Or.inl ⟨by rfl, by intro W hSw; go_simp⟩) hHeld ?_
          simp only [Act.put, List.setIfInBounds_toArray, List.set_cons_zero, List.set_cons_succ]
          refine takeA (i := 10) (v := .pointer (some ⟨w.heap.size + 1, 18 + j * 16, none⟩)) 45 rfl rfl (by kernel_rfl) (by kernel_rfl) (by kernel_rfl) (by kernel_rfl) (fun _ _ _ h => h) (Or.inl ⟨by rfl, by intro W hSw; go_simp⟩) hHeld ?_
          simp only [Act.put, List.setIfInBounds_toArray, List.set_cons_zero, List.set_cons_succ]
          refine takeA (i := 11) (v := .pointer (some ⟨w.heap.size + 1, 18 + j * 16 + q, none⟩)) 46 rfl rfl (by kernel_rfl) (by kernel_rfl) (by kernel_rfl) (by kernel_rfl) (fun _ _ _ h => h) (Or.inl ⟨by rfl, by intro W hSw; go_simp⟩) hHeld ?_
          simp only [Act.put, List.setIfInBounds_toArray, List.set_cons_zero, List.set_cons_succ]
          refine takeA (i := 12) (v := .int .i64 y) 47 rfl rfl (by kernel_rfl) (by kernel_rfl) (by kernel_rfl) (by kernel_rfl) (fun _ _ _ h => h) (Or.inl ⟨by rfl, by intro W hSw; have c1 := HHr.out _ hSw; go_simp⟩) hHeld ?_
          simp only [Act.put, List.setIfInBounds_toArray, List.set_cons_zero, List.set_cons_succ]
          refine takeA (i := 13) (v := .int .i64 z) 48 rfl rfl (by kernel_rfl) (by kernel_rfl) (by kernel_rfl) (by kernel_rfl) (fun _ _ _ h => h) (Or.inl ⟨by rfl, by intro W hSw; have hw := HWZ.out; rw [HZI.out]; go_simp⟩) hHeld ?_
          simp only [Act.put, List.setIfInBounds_toArray, List.set_cons_zero, List.set_cons_succ]
          refine takeA (i := 14) (v := .pointer (some ⟨w1.heap.size, 18, none⟩)) 49 rfl rfl (by kernel_rfl) (by kernel_rfl) (by kernel_rfl) (by kernel_rfl) (fun _ _ _ h => h) (Or.inl ⟨by rfl, by intro W hSw; go_simp⟩) hHeld ?_
          simp only [Act.put, List.setIfInBounds_toArray, List.set_cons_zero, List.set_cons_succ]
          refine takeA (i := 15) (v := .pointer (some ⟨w1.heap.size, 18 + j * 16, none⟩)) 50 rfl rfl (by kernel_rfl) (by kernel_rfl) (by kernel_rfl) (by kernel_rfl) (fun _ _ _ h => h) (Or.inl ⟨by rfl, by intro W hSw; go_simp⟩) hHeld ?_
          simp only [Act.put, List.setIfInBounds_toArray, List.set_cons_zero, List.set_cons_succ]
          refine takeA (i := 16) (v := .pointer (some ⟨w1.heap.size, 18 + j * 16 + p, none⟩)) 51 rfl rfl (by kernel_rfl) (by kernel_rfl) (by kernel_rfl) (by kernel_rfl) (fun _ _ _ h => h) (Or.inl ⟨by rfl, by intro W hSw; go_simp⟩) hHeld ?_
          simp only [Act.put, List.setIfInBounds_toArray, List.set_cons_zero, List.set_cons_succ]
          generalize wr.drew = wd at hHeld ⊢
          refine onlyL (i := 17) (by kernel_rfl) rfl (by rfl) (fun K hK => ?_)
          have CM7 := Lib.hid (CM.out.all hHeld)
          have CG7 := Lib.hid (CG.out.all hHeld)
          have CH7 := Lib.hid (CH.out.all hHeld)
          have CR7 := Lib.hid (CR.out.all hHeld)
          have BB7 := Lib.hid (BB.out.trans (hHeld.mono BB.out.size))
          have ck := CM7.out.gg (i := 18 + j * 16 + p) hp3
          have fk := CM7.out.frozen (18 + j * 16 + p)
          have CM8 := Lib.hid (CM7.out.ggset (18 + j * 16 + p) z)
          have CG8 := Lib.hid (CG7.out.other (b' := w1.heap.size) (by omega) (18 + j * 16 + p) (.int .i64 z))
          have CH8 := Lib.hid (CH7.out.other (b' := w1.heap.size) (by omega) (18 + j * 16 + p) (.int .i64 z))
          have CR8 := Lib.hid (CR7.out.other (b' := w1.heap.size) (by omega) (18 + j * 16 + p) (.int .i64 z))
          have BB8 := Lib.hid (BB7.out.setCell (p := ⟨w1.heap.size, 18 + j * 16 + p, none⟩) (by show _ ≤ w1.heap.size; omega) (.int .i64 z))
          clear CM7 CG7 CH7 CR7 BB7 CM CG CH CR BB
          go_simp
          refine hK.out _ _ (fun h => absurd (by decide) h) (fun _ => ?_)
          clear hK K hHeld ck fk HGc HHr
          refine doneL (by kernel_rfl) ?_ _
          go_wp2
          go_roundw
          case rel => exact ⟨j + 1, by omega, by go_num, ⟨_, HJ3, CM8⟩, CG8, CH8, CR8, BB8⟩
          case measure => simp [intOf]; omega
        · obtain rfl : j = m.blocks.length := by omega
          go_wp2
          go_roundw
          case rel => exact ⟨q + 1, by omega, by go_num, ⟨h2, Lib.hid HM.out.next, CM⟩, CG, CH, CR, BB⟩
          case measure => simp [intOf]; omega
    · obtain rfl : q = n.facts.length := by omega
      obtain ⟨HE, hsm, hrl, hfin⟩ := HFIN.out h HM.out
      have KR := Lib.hid (HRN.out m.actual _ _ hsm (by simpa using p4) hrl)
      simp only [List.length_map, List.length_range] at KR
      rw [HE, hfin] at KR
      have HLJ : Hid ((ints (gG h)).length = 67) := Lib.hid (by rw [ints_len]; exact gG_len h)
      have HO1 := Lib.hid (fun v (hv : v ∈ ints B) => ints_one hv)
      clear HE hsm hrl hfin
      generalize gG h = GH at *
      have tk5 : True := trivial
      have tk6 : True := trivial
      have tk7 : True := trivial
      go_wp2_with
        (first
          | (have _t := tk5; clear _t tk5; refine wpList_loadM rfl 65 _ rfl w1.heap.size 0 rfl 65 (ints GH) (ints GH) CM.out (fun j _ => by rw [Nat.zero_add]) _ Try.underlying65 rfl (by rw [HLJ.out]; exact Try.sizeGrid) ?_)
          | (have _t := tk6; clear _t tk6; go_at_call 64; (with_reducible refine (KR.out _).mono ?_); rintro e w8 ⟨rfl, hb8⟩
             have CR8 := Lib.hid (CR.out.all hb8)
             have BB8 := Lib.hid (BB.out.trans (hb8.mono BB.out.size))
             clear hb8)
          | (have _t := tk7; clear _t tk7; refine wpList_storeM rfl 65 (.tmp 4) (.tmp 55) rfl (w.heap.size + 1 + 1) 0 rfl (ints B) rfl 65 (ints (gL 0 0 [] [] 0)) CR8.out (by rw [HLR.out, HE67.out]; exact Nat.le_refl _) (by rw [HLR.out]; exact Try.sizeGrid) HO1.out ?_
             intro w9 hc9 ha9
             rw [lay'_all (by rw [HLR.out, HE67.out])] at hc9
             have C9 := Lib.hid hc9
             have B9 : Hid (Below w.heap.size w w9) := Lib.hid (BB8.out.trans (ha9.below (by omega)))
             clear hc9 ha9))
      refine bodyPost_ret (results_mid1 Try.results38 _ _ (w.heap.size + 1 + 1) (ints B) _ rfl C9.out.whole Try.underlying65 rfl (by rw [HLR.out]; exact Try.sizeGrid)) rfl ?_
      exact ⟨rfl, B9.out⟩
end Go.Proofs.Ytpodpadcaflehaa
