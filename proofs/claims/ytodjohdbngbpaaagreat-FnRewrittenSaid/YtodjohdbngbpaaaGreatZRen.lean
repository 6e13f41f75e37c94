/-
  Several texts in one: Ren Rsw Rsx. Conditions: as each theorem says.
-/
import Derived.Test.YtodjohdbngbpaaaGreatZSet
import Derived.Test.YtodjohdbngbpaaaGreatZMok
/-
  Contract of grid.renumbered: the blocks of each agent numbered in the order in which they are met. Condition: the grid's lists fit.
-/
namespace Go.Proofs.YtodjohdbngbpaaaGreat
open Go.RowKit Go.WideShapes
open Go Go.Deep
set_option linter.unusedSimpArgs false

set_option maxRecDepth 100000 in
set_option maxHeartbeats 64000000 in
theorem renumbered_any (n : Nat) (c : Int) (f : List Int) (rows : List (List Int)) (hs : small f rows) (hn : n ≤ 16) (ha : rows.length ≤ 3) (hl : ∀ k, k < rows.length → (rows.getD k []).length = n) (w : World) :
    Calls Tryz.prog 146 #[.agg (ints (gL n rows.length f rows c)).toArray] w
      fun e w' => e = .returned (.agg (ints (gL n rows.length f (rows.map num) c)).toArray) ∧ Below w.heap.size w w' := by
  have HSN := Lib.hid (fun j => nmix_small rows f j hs)
  have HLN := Lib.hid (fun j => gL_len (n := (n : Int)) (a := (rows.length : Int)) (c := c) (HSN.out j))
  have HE := Lib.hid (nmix_end rows)
  have HLL := Lib.hid hl
  have H0 : Hid (gL n rows.length f rows c = gL n rows.length f (nmix rows 0) c) := Lib.hid (by rw [nmix_0])
  rw [H0.out]
  have HL0 : Hid ((ints (gL n rows.length f (nmix rows 0) c)).length = 67) := Lib.hid (by rw [ints_len]; exact HLN.out 0)
  clear hl H0
  obtain ⟨G0, hG0⟩ : ∃ G, G = ints (gL n rows.length f (nmix rows 0) c) := ⟨_, rfl⟩
  have HG0 := Lib.hid hG0
  rw [← hG0]
  clear hG0
  go_enter Tryz.func146, Tryz.ntmps146
  go_wp2_with
    (refine wpList_allocM (o := ⟨some 2, _, _, _, _, _⟩) rfl 85 rfl (ints (gL 0 0 [] [] 0)) Tryz.allocGrid ?_
     intro w1 hc1 hb1 hs1
     have CG : Hid (Cm w1 w.heap.size 85 (ints (gL n rows.length f (nmix rows 0) c))) := Lib.hid (by rw [← HG0.out]; exact Cm.all (Cm.new (w := w) (T := 85) (cs := G0) rfl) hb1)
     have CR : Hid (Cm w1 (w.heap.size + 1) 85 (ints (gL 0 0 [] [] 0))) := Lib.hid (by simpa using hc1)
     have BB : Hid (Below w.heap.size w w1) := Lib.hid (Below.trans (by go_grown) (hb1.mono (by simp)))
     have cc1 := CG.out.g1
     clear hc1 hb1 hs1)
  clear cc1
  go_loopw [6] (fun iv wr => ∃ j : Nat, j ≤ rows.length ∧ iv = .int .i64 j ∧ Hid (Cm wr w.heap.size 85 (ints (gL n rows.length f (nmix rows j) c))) ∧ Hid (Cm wr (w.heap.size + 1) 85 (ints (gL 0 0 [] [] 0))) ∧ Hid (Below w.heap.size w wr)) (fun iv _ => rows.length - (intOf iv).toNat)
  case atStart => exact ⟨0, Nat.zero_le _, rfl, CG, CR, BB⟩
  case round =>
    clear CG CR BB
    obtain ⟨j, hj, rfl, CL, CR, BB⟩ := hrel
    by_cases hlj : j < rows.length
    · have hj0 : (0 : Int) ≤ (j : Int) := Int.natCast_nonneg _
      have hj3 : (j : Int) < 3 := by omega
      have hrw := HLL.out j hlj
      have HROW := Lib.hid (nmix_get rows hlj)
      have HSET := Lib.hid (gL_set (n := (n : Int)) (a := (rows.length : Int)) (c := c) (f := f) (rows := nmix rows j) (rows' := nmix rows (j + 1)) (r := num (rows.getD j [])) (k := j) (HSN.out j) (by rw [num_len, hrw]; omega) (by omega) (nmix_succ _ hlj) (fun i hi => nmix_other _ hlj hi))
      have HRG : Hid (∀ W, Below wr.heap.size wr W → W.rangeAt w.heap.size (18 + j * 16) (ints (pad (rows.getD j [])))) := Lib.hid (fun W hW => (CL.out.all hW).range _ _ (fun t ht => by
        rw [ints_len, pad_len (by rw [hrw]; omega)] at ht
        rw [ints_get, ints_get, gL_r (HSN.out j) (by omega) ht, HROW.out]))
      have HC0 : Hid (∀ W, Below wr.heap.size wr W → W.cell? ⟨w.heap.size, 0, none⟩ = some (.int .i64 n)) := Lib.hid (fun W hW => (CL.out.all hW).g0)
      have KN := Lib.hid (fun W => numbered_any (pad (rows.getD j [])) n W (pad_len (by rw [hrw]; omega)) (by omega))
      rw [pad_take' hrw] at KN
      have HP16 : Hid ((ints (pad (rows.getD j []))).length = 16) := Lib.hid (by rw [ints_len, pad_len (by rw [hrw]; omega)])
      have HN16 : Hid ((ints (pad (num (rows.getD j [])))).length = 16) := Lib.hid (by rw [ints_len, pad_len (by rw [num_len, hrw]; omega)])
      have HN1 := Lib.hid (fun v (hv : v ∈ ints (pad (num (rows.getD j [])))) => ints_one hv)
      have HLJ := Lib.hid (HLN.out j)
      have HU : Tryz.prog.underlying 82 = some (.array 16 3) := Tryz.underlying82
      clear hrw HROW
      generalize rows.getD j [] = row at *
      go_wp2
      refine regionL (fun W => Below wr.heap.size wr W) [10] (by kernel_rfl) (Below.refl _ _).drew (fun hHeld => ?_)
      refine takeA (i := 0) (v := .int .i64 j) 9 rfl rfl (by kernel_rfl) (by kernel_rfl) (by kernel_rfl) (by kernel_rfl) (fun _ _ _ h => h) (Or.inl ⟨by rfl, by intro W hSw; go_simp⟩) hHeld ?_
      simp only [Act.put, List.setIfInBounds_toArray, List.set_cons_zero, List.set_cons_succ]
      refine takeA (i := 1) (v := .int .i64 j) 10 rfl rfl (by kernel_rfl) (by kernel_rfl) (by kernel_rfl) (by kernel_rfl) (fun _ _ _ h => h) (Or.inl ⟨by rfl, by intro W hSw; go_simp⟩) hHeld ?_
      simp only [Act.put, List.setIfInBounds_toArray, List.set_cons_zero, List.set_cons_succ]
      refine takeA (i := 2) (v := .pointer (some ⟨w.heap.size, 18, none⟩)) 11 rfl rfl (by kernel_rfl) (by kernel_rfl) (by kernel_rfl) (by kernel_rfl) (fun _ _ _ h => h) (Or.inl ⟨by rfl, by intro W hSw; go_simp⟩) hHeld ?_
      simp only [Act.put, List.setIfInBounds_toArray, List.set_cons_zero, List.set_cons_succ]
      refine takeA (i := 3) (v := .pointer (some ⟨w.heap.size, 18 + j * 16, none⟩)) 12 rfl rfl (by kernel_rfl) (by kernel_rfl) (by kernel_rfl) (by kernel_rfl) (fun _ _ _ h => h) (Or.inl ⟨by rfl, by intro W hSw; go_simp⟩) hHeld ?_
      simp only [Act.put, List.setIfInBounds_toArray, List.set_cons_zero, List.set_cons_succ]
      refine takeA (i := 4) (v := .agg (ints (pad row)).toArray) 13 rfl rfl (by kernel_rfl) (by kernel_rfl) (by kernel_rfl) (by kernel_rfl) (fun _ _ _ h => h) (yieldsIf_load_mid (by rfl) 82 _ rfl w.heap.size (18 + j * 16) rfl (ints (pad row)) _ HRG.out HU rfl (by rw [HP16.out]; exact Tryz.sizeRow)) hHeld ?_
      simp only [Act.put, List.setIfInBounds_toArray, List.set_cons_zero, List.set_cons_succ]
      refine takeA (i := 5) (v := .pointer (some ⟨w.heap.size, 0, none⟩)) 14 rfl rfl (by kernel_rfl) (by kernel_rfl) (by kernel_rfl) (by kernel_rfl) (fun _ _ _ h => h) (Or.inl ⟨by rfl, by intro W hSw; go_simp⟩) hHeld ?_
      simp only [Act.put, List.setIfInBounds_toArray, List.set_cons_zero, List.set_cons_succ]
      refine takeA (i := 6) (v := .int .i64 n) 15 rfl rfl (by kernel_rfl) (by kernel_rfl) (by kernel_rfl) (by kernel_rfl) (fun _ _ _ h => h) (Or.inl ⟨by rfl, by intro W hSw; have c1 := HC0.out _ hSw; go_simp⟩) hHeld ?_
      simp only [Act.put, List.setIfInBounds_toArray, List.set_cons_zero, List.set_cons_succ]
      refine takeA (i := 8) (v := .pointer (some ⟨w.heap.size, 18, none⟩)) 17 rfl rfl (by kernel_rfl) (by kernel_rfl) (by kernel_rfl) (by kernel_rfl) (fun _ _ _ h => h) (Or.inl ⟨by rfl, by intro W hSw; go_simp⟩) hHeld ?_
      simp only [Act.put, List.setIfInBounds_toArray, List.set_cons_zero, List.set_cons_succ]
      refine onlyL (i := 7) (by kernel_rfl) rfl (by rfl) (fun K hK => ?_)
      go_simp
      refine (KN.out _).mono ?_
      rintro e w6 ⟨rfl, hb6⟩
      have t6 : Below wr.heap.size wr w6 := hHeld.trans (hb6.mono (Nat.le_refl _))
      clear hb6 hHeld
      refine hK.out _ _ (fun _ => t6) (fun hHeld => ?_)
      have hHeld := hHeld (by decide)
      clear hK K
      try simp only [Act.put, List.setIfInBounds_toArray, List.set_cons_zero, List.set_cons_succ]
      have CL6 := Lib.hid (CL.out.all t6)
      have CR6 := Lib.hid (CR.out.all t6)
      have BB6 := Lib.hid (BB.out.trans (t6.mono BB.out.size))
      clear t6 CL CR BB
      refine takeA (i := 9) (v := .pointer (some ⟨w.heap.size, 18 + j * 16, none⟩)) 18 rfl rfl (by kernel_rfl) (by kernel_rfl) (by kernel_rfl) (by kernel_rfl) (fun _ _ _ h => h) (Or.inl ⟨by rfl, by intro W hSw; go_simp⟩) hHeld ?_
      simp only [Act.put, List.setIfInBounds_toArray, List.set_cons_zero, List.set_cons_succ]
      refine onlyL (i := 10) (by kernel_rfl) rfl (by rfl) (fun K hK => ?_)
      refine wp_storeM 82 (.tmp 18) (.tmp 16) rfl rfl w.heap.size (18 + j * 16) rfl (ints (pad (num row))) rfl 85 _ CL6.out (by rw [HN16.out, ints_len, HLJ.out]; omega) (by rw [HN16.out]; exact Tryz.sizeRow) HN1.out ?_
      intro w7 hc7 ha7
      rw [HSET.out] at hc7
      have CL7 := Lib.hid hc7
      have CR7 := Lib.hid (ha7.cm CR6.out (by omega))
      have BB7 : Hid (Below w.heap.size w w7) := Lib.hid (BB6.out.trans (ha7.below (by omega)))
      clear hc7 ha7 CL6 CR6 BB6 hHeld
      refine hK.out _ _ (fun h => absurd (by decide) h) (fun _ => ?_)
      clear hK K
      refine doneL (by kernel_rfl) ?_ _
      go_wp2
      go_roundw
      case rel => exact ⟨j + 1, by omega, by go_num, CL7, CR7, BB7⟩
      case measure => simp [intOf]; omega
    · obtain rfl : j = rows.length := by omega
      rw [HE.out] at CL
      have HLF : Hid ((ints (gL n rows.length f (rows.map num) c)).length = 67) := Lib.hid (by rw [← HE.out, ints_len]; exact HLN.out _)
      have HO1 := Lib.hid (fun v (hv : v ∈ ints (gL n rows.length f (rows.map num) c)) => ints_one hv)
      obtain ⟨GF, hG⟩ : ∃ GF, GF = gL n rows.length f (rows.map num) c := ⟨_, rfl⟩
      rw [← hG] at CL HLF HO1
      have HG := Lib.hid hG
      clear hG
      go_wp2_with
        (first
          | (refine wpList_loadM rfl 85 _ rfl w.heap.size 0 rfl 85 (ints GF) (ints GF) CL.out (fun j _ => by rw [Nat.zero_add]) _ Tryz.underlying85 rfl (by rw [HLF.out]; exact Tryz.sizeGrid) ?_)
          | (refine wpList_storeM rfl 85 (.tmp 2) (.tmp 20) rfl (w.heap.size + 1) 0 rfl (ints GF) rfl 85 (ints (gL 0 0 [] [] 0)) CR.out (by rw [HLF.out]; exact Nat.le_refl _) (by rw [HLF.out]; exact Tryz.sizeGrid) HO1.out ?_
             intro w9 hc9 ha9
             rw [lay'_all (by rw [HLF.out]; rfl)] at hc9
             have C9 := Lib.hid hc9
             have B9 : Hid (Below w.heap.size w w9) := Lib.hid (BB.out.trans (ha9.below (by omega)))
             clear hc9 ha9))
      refine bodyPost_ret (results_mid1 Tryz.results146 _ _ (w.heap.size + 1) (ints GF) _ rfl C9.out.whole Tryz.underlying85 rfl (by rw [HLF.out]; exact Tryz.sizeGrid)) rfl ?_
      exact ⟨by rw [HG.out], B9.out⟩
end Go.Proofs.YtodjohdbngbpaaaGreat

/-
  Contract of grid.restricted. Condition: the grid's lists fit, and the set has worlds of the grid alone.
-/
namespace Go.Proofs.YtodjohdbngbpaaaGreat
open Go.RowKit Go.WideShapes
open Go Go.Deep
set_option linter.unusedSimpArgs false

theorem addr_ne {b b' o o' : Nat} (h : b ≠ b') : (⟨b, o, none⟩ : Addr) ≠ ⟨b', o', none⟩ := fun e => h (congrArg Addr.block e)

set_option maxRecDepth 100000 in
set_option maxHeartbeats 64000000 in
theorem restrictedF_any (m : Md) (p : Nat → Bool) (hft : fits m) (hp : ∀ i, p i = true → i < m.facts.length) (w : World) :
    Calls Tryz.prog 114 #[.agg (ints (gL m.facts.length m.blocks.length m.facts m.blocks m.actual)).toArray, .agg (bL p).toArray] w
      fun e w' => e = .returned (.agg (ints (gL (lst p 16).length m.blocks.length (restM m (lst p 16)).facts (restM m (lst p 16)).blocks (restM m (lst p 16)).actual)).toArray) ∧ Below w.heap.size w w' := by
  have hs := hft.small
  have p2 := hft.1
  have p4 := hft.2.1
  have HL : Hid ((ints (gL m.facts.length m.blocks.length m.facts m.blocks m.actual)).length = 67) := Lib.hid (by rw [ints_len]; exact gL_len hs)
  have HC : Hid (∀ (W : World) b T, Cm W b T (ints (gL m.facts.length m.blocks.length m.facts m.blocks m.actual)) → W.cell? ⟨b, 0, none⟩ = some (.int .i64 m.facts.length) ∧ W.cell? ⟨b, 1, none⟩ = some (.int .i64 m.blocks.length) ∧ W.cell? ⟨b, 66, none⟩ = some (.int .i64 m.actual)) := Lib.hid (fun W b T h => ⟨h.g0, h.g1, h.g66 hs⟩)
  have HF : Hid (∀ j, j < m.facts.length → ∀ (W : World) b T, Cm W b T (ints (gL m.facts.length m.blocks.length m.facts m.blocks m.actual)) → W.cell? ⟨b, 2 + j, none⟩ = some (.int .i64 (m.facts.getD j 0))) := Lib.hid (fun j hj W b T h => h.gf hs (by omega))
  have HR : Hid (∀ a, a < m.blocks.length → ∀ j, j < m.facts.length → ∀ (W : World) b T, Cm W b T (ints (gL m.facts.length m.blocks.length m.facts m.blocks m.actual)) → W.cell? ⟨b, 18 + a * 16 + j, none⟩ = some (.int .i64 ((m.blocks.getD a []).getD j 0))) := Lib.hid (fun a ha j hj W b T h => h.gr hs (by omega) (by omega))
  have HND := Lib.hid (lst_nodup p 16)
  have hwl := lst_len p 16
  have HWP : Hid (∀ k (h : k < (lst p 16).length), (lst p 16)[k] < m.facts.length) := Lib.hid (fun k h => hp _ (mem_lst.1 (List.getElem_mem h)).2)
  have KL := Lib.hid (fun W => setList_any p W)
  obtain ⟨L0, hL0⟩ : ∃ L, L = gL 0 m.blocks.length [] [] 0 := ⟨_, rfl⟩
  have HBA : Hid (∀ W : World, (Instr.build 85 #[(1, .int .i64 m.blocks.length)]).run Tryz.prog W = .ok (.agg (ints L0).toArray) W) := Lib.hid (fun W => by rw [hL0]; exact Tryz.buildGridA W m.blocks.length)
  have HL0 := Lib.hid hL0
  have HLL0 : Hid ((ints L0).length = 67) := Lib.hid (by rw [hL0]; rfl)
  clear hL0
  unfold restM
  simp only
  clear hs hft hp
  generalize gL m.facts.length m.blocks.length m.facts m.blocks m.actual = G at *
  generalize lst p 16 = ws at *
  go_enter Tryz.func114, Tryz.ntmps114
  go_wp2_with
    (first
      | (refine wpList_allocM (o := ⟨some 4, _, _, _, _, _⟩) rfl 85 rfl (ints (gL 0 0 [] [] 0)) Tryz.allocGrid ?_
         intro w1 hc1 hb1 hs1
         have CG := Lib.hid (Cm.all ((Cm.new (w := w) (T := 85) (cs := ints G) rfl).alloc _) hb1)
         have CS : Hid (Cm w1 (w.heap.size + 1) 89 (bL p)) := Lib.hid (Cm.all (Cm.new (by simp)) hb1)
         have CR : Hid (Cm w1 (w.heap.size + 1 + 1) 85 (ints (gL 0 0 [] [] 0))) := Lib.hid (by simpa using hc1)
         have BB : Hid (Below w.heap.size w w1) := Lib.hid (Below.trans (by go_grown) (hb1.mono (by simp; omega)))
         have hq1 : w.heap.size + 1 + 1 < w1.heap.size := CR.out.lt
         obtain ⟨cc0, cc1, cc2⟩ := HC.out _ _ _ CG.out
         clear hc1 hb1 hs1)
      | (refine wpList_buildM rfl 85 _ rfl #[(1, .int .i64 m.blocks.length)] (by simp only [List.map_toArray, List.map_cons, List.map_nil]; rfl) (ints L0) (HBA.out _) ?_)
      | (refine wpList_allocM (o := ⟨some 5, _, _, _, _, _⟩) rfl 85 rfl (ints (gL 0 0 [] [] 0)) Tryz.allocGrid ?_
         intro w2 hc2 hb2 hs2
         have CL := Lib.hid hc2
         have CG := Lib.hid (CG.out.all hb2)
         have CS := Lib.hid (CS.out.all hb2)
         have CR := Lib.hid (CR.out.all hb2)
         have BB := Lib.hid (BB.out.trans (hb2.mono BB.out.size))
         clear hc2 hb2 hs2 cc0 cc1 cc2)
      | (refine wpList_storeM rfl 85 (.tmp 5) (.tmp 11) rfl w1.heap.size 0 rfl (ints L0) rfl 85 (ints (gL 0 0 [] [] 0)) CL.out (by rw [HLL0.out]; exact Nat.le_refl _) (by rw [HLL0.out]; exact Tryz.sizeGrid) (fun v hv => ints_one hv) ?_
         intro w3 hc3 ha3
         rw [lay'_all (by rw [HLL0.out]; rfl), HL0.out] at hc3
         have CL := Lib.hid hc3
         have CG := Lib.hid (ha3.cm CG.out (by omega))
         have CS := Lib.hid (ha3.cm CS.out (by omega))
         have CR := Lib.hid (ha3.cm CR.out (by omega))
         have BB : Hid (Below w.heap.size w w3) := Lib.hid (BB.out.trans (ha3.below (by omega)))
         clear hc3 ha3)
      | (refine wpList_loadM rfl 89 _ rfl (w.heap.size + 1) 0 rfl 89 (bL p) (bL p) CS.out (fun j _ => by rw [Nat.zero_add]) _ Tryz.underlying89 rfl (by rw [bL_len]; exact Tryz.sizeSet) ?_))
  refine (KL.out _).mono ?_
  rintro e w4 ⟨v4, rfl, ho4, hb4⟩
  have hq3 : w1.heap.size < w3.heap.size := CL.out.lt
  have CL := Lib.hid (CL.out.all hb4)
  have CG := Lib.hid (CG.out.all hb4)
  have CR := Lib.hid (CR.out.all hb4)
  have BB := Lib.hid (BB.out.trans (hb4.mono BB.out.size))
  have hq4 : w3.heap.size ≤ w4.heap.size := hb4.size
  have I4 := Lib.hid ho4
  obtain ⟨la, lc, e4⟩ := ho4.form
  rw [nums_len] at e4
  subst e4
  have HAT : Hid (∀ W, Below w4.heap.size w4 W → ∀ k (h : k < ws.length), ∃ b o, la = some ⟨b, o, none⟩ ∧ w3.heap.size ≤ b ∧ b < w4.heap.size ∧ W.cell? ⟨b, o + k, none⟩ = some (.int .i64 (ws[k] : Int))) := Lib.hid (fun W hW k h => by
    obtain ⟨a', cap', e, _, _, h4⟩ := I4.out.read.parts
    rw [nums_len] at e
    cases e
    obtain ⟨b, o, e2, l1, l2, l3, l4⟩ := h4 k (by rw [nums_len]; exact h)
    exact ⟨b, o, e2, l1, l2, (hW.cell (p := ⟨b, o + k, none⟩) l3).trans (by rw [l4, nums_getD h])⟩)
  have hcap : ws.length ≤ lc := by
    obtain ⟨a', cap', e, h1, _⟩ := I4.out.read.parts
    rw [nums_len] at e h1
    cases e; exact h1
  have hlcm : lc ≤ maxLen := by
    obtain ⟨a', cap', e, _, h1, _⟩ := I4.out.read.parts
    rw [nums_len] at e
    cases e; exact h1
  unfold maxLen at hlcm
  clear ho4 hb4 I4
  have hlb : w1.heap.size < w4.heap.size := by omega
  have START : Hid (Cm w4 w1.heap.size 85 (ints (gL (0 : Nat) m.blocks.length (pick m.facts (ws.take 0)) (rawRows m (ws.take 0)) (actIn m.actual (ws.take 0))))) := Lib.hid (by
    have h := CL.out
    have e : gL 0 m.blocks.length [] [] 0 = gL (0 : Nat) m.blocks.length (pick m.facts (ws.take 0)) (rawRows m (ws.take 0)) (actIn m.actual (ws.take 0)) := by
      have hz : ∀ k, (rawRows m (ws.take 0)).getD k [] = [] := fun k => by
        rcases Nat.lt_or_ge k m.blocks.length with h | h
        · rw [rawRows_get m _ h]; simp [pick]
        · rw [List.getD_eq_getElem?_getD, List.getElem?_eq_none (by rw [rawRows_len]; exact h)]; rfl
      unfold gL
      rw [hz 0, hz 1, hz 2]
      simp [pick, actIn, nums]
    rw [← e]; exact h)
  clear CL
  go_wp2
  go_loopw [15] (fun iv wr => ∃ k : Nat, k ≤ ws.length ∧ iv = .int .i64 k ∧ Hid (Cm wr w1.heap.size 85 (ints (gL k m.blocks.length (pick m.facts (ws.take k)) (rawRows m (ws.take k)) (actIn m.actual (ws.take k))))) ∧ Hid (Cm wr w.heap.size 85 (ints G)) ∧ Hid (Cm wr (w.heap.size + 1 + 1) 85 (ints (gL 0 0 [] [] 0))) ∧ Hid (Below w.heap.size w wr) ∧ Hid (∀ k (h : k < ws.length), ∃ b o, la = some ⟨b, o, none⟩ ∧ w3.heap.size ≤ b ∧ b < w4.heap.size ∧ wr.cell? ⟨b, o + k, none⟩ = some (.int .i64 (ws[k] : Int))) ∧ w4.heap.size ≤ wr.heap.size) (fun iv _ => ws.length - (intOf iv).toNat)
  case atStart => exact ⟨0, Nat.zero_le _, rfl, START, CG, CR, BB, Lib.hid (HAT.out _ (Below.refl _ _)), Nat.le_refl _⟩
  case round =>
    clear START CG CR BB HAT
    obtain ⟨k, hk, rfl, CL, CG, CR, BB, HAT, hwr⟩ := hrel
    by_cases hlt : k < ws.length
    · obtain ⟨b, o, rfl, hb3, hb4, c0⟩ := HAT.out k hlt
      have hxn := HWP.out k hlt
      have HACT := Lib.hid (actIn_succ (a := m.actual) hlt HND.out)
      have HPF : Hid (pick m.facts (ws.take (k + 1)) = pick m.facts (ws.take k) ++ [m.facts.getD ws[k] 0]) := Lib.hid (by rw [take_snocN hlt, pick_app]; rfl)
      have HMS := Lib.hid (fun j (h : j < m.blocks.length) => mix_set m ws hlt h)
      have HSM := Lib.hid (fun j (h : j ≤ m.blocks.length) => mix_small (m := m) ws (pick m.facts (ws.take (k + 1))) (k := k) h hwl (by rw [pick_len, List.length_take]; omega))
      have HS0 := Lib.hid (raw_small (m := m) (ws.take k) (pick m.facts (ws.take k)) (by rw [List.length_take]; omega) (by rw [pick_len, List.length_take]; omega))
      obtain ⟨x, hx⟩ : ∃ x, x = ws[k] := ⟨_, rfl⟩
      rw [← hx] at c0 hxn HACT HPF HMS
      clear hx
      have hx0 : (0 : Int) ≤ (x : Int) := Int.natCast_nonneg _
      have hx16 : (x : Int) < 16 := by omega
      have hk0 : (0 : Int) ≤ (k : Int) := Int.natCast_nonneg _
      have hk16 : (k : Int) < 16 := by omega
      have HF0 := Lib.hid (HF.out x hxn)
      obtain ⟨cc0, cc1, cc2⟩ := HC.out _ _ _ CG.out
      have cl0 := CL.out.g0
      have cl66 := CL.out.g66 HS0.out
      have fl66 := CL.out.frozen 66
      have hbb : b < wr.heap.size := by omega
      have MID : ∃ act, Hid (act = actIn m.actual (ws.take (k + 1))) := ⟨_, Lib.hid rfl⟩
      obtain ⟨act, HA⟩ := MID
      by_cases e : (x : Int) = m.actual
      case' pos =>
        rw [if_pos e, ← HA.out] at HACT
        have HC1 := Lib.hid (gL_setC (n := (k : Int)) (a := m.blocks.length) (c := actIn m.actual (ws.take k)) (x := (k : Int)) HS0.out)
        have d1 : ((x : Int) == m.actual) = true := by simpa using e
        clear e
        go_wp2
        have CL7 : Hid (Cm (wr.setCell ⟨w1.heap.size, 66, none⟩ (.int .i64 k)) w1.heap.size 85 (ints (gL k m.blocks.length (pick m.facts (ws.take k)) (rawRows m (ws.take k)) act))) := Lib.hid (by rw [HACT.out, ← HC1.out]; exact CL.out.set 66 _)
        have CG7 := Lib.hid (CG.out.other (b' := w1.heap.size) (by omega) 66 (.int .i64 k))
        have CR7 := Lib.hid (CR.out.other (b' := w1.heap.size) (by omega) 66 (.int .i64 k))
        have BB7 : Hid (Below w.heap.size w (wr.setCell ⟨w1.heap.size, 66, none⟩ (.int .i64 k))) := Lib.hid (BB.out.setCell (by show _ ≤ w1.heap.size; omega) _)
        have HAT7 : Hid (∀ k' (h : k' < ws.length), ∃ b' o', (some ⟨b, o, none⟩ : Option Addr) = some ⟨b', o', none⟩ ∧ w3.heap.size ≤ b' ∧ b' < w4.heap.size ∧ (wr.setCell ⟨w1.heap.size, 66, none⟩ (.int .i64 k)).cell? ⟨b', o' + k', none⟩ = some (.int .i64 (ws[k'] : Int))) := Lib.hid (fun k' h => by
          obtain ⟨b', o', e1, e2, e3, e4⟩ := HAT.out k' h
          refine ⟨b', o', e1, e2, e3, ?_⟩
          rw [World.cell?_setCell_other _ _ _ _ (addr_ne (by omega))]
          exact e4)
        have hz7 : wr.heap.size ≤ (wr.setCell ⟨w1.heap.size, 66, none⟩ (.int .i64 k)).heap.size := by simp [World.setCell]
        clear cl0 cl66 fl66 cc0 cc1 cc2 c0 CL CG CR BB HAT HC1 d1
        generalize wr.setCell ⟨w1.heap.size, 66, none⟩ (.int .i64 k) = w7 at *
      case' neg =>
        rw [if_neg e, ← HA.out] at HACT
        have d1 : ((x : Int) == m.actual) = false := by simpa using e
        clear e
        go_wp2
        have CL7 : Hid (Cm wr w1.heap.size 85 (ints (gL k m.blocks.length (pick m.facts (ws.take k)) (rawRows m (ws.take k)) act))) := Lib.hid (by rw [HACT.out]; exact CL.out)
        have CG7 := CG
        have CR7 := CR
        have BB7 := BB
        have HAT7 := HAT
        have hz7 : wr.heap.size ≤ wr.heap.size := Nat.le_refl _
        clear cl0 cl66 fl66 cc0 cc1 cc2 c0 CL CG CR BB HAT d1
        obtain ⟨w7, hw7⟩ : ∃ y, y = wr := ⟨_, rfl⟩
        subst hw7
      all_goals
        clear HACT
        have hz4 : w4.heap.size ≤ w7.heap.size := by omega
        have HSF := Lib.hid (raw_small (m := m) (ws.take k) (pick m.facts (ws.take k ++ [x])) (by rw [List.length_take]; omega) (by rw [pick_len, List.length_append, List.length_take, List.length_singleton]; omega))
        have hpk : (pick m.facts (ws.take k)).length = k := by rw [pick_len, List.length_take]; omega
        have HSET7 := Lib.hid (gL_setf (n := (k : Int)) (a := m.blocks.length) (c := act) (x := m.facts.getD x 0) (rows := rawRows m (ws.take k)) (f := pick m.facts (ws.take k)) hpk.symm (by omega))
        rw [← HPF.out] at HSET7
        have HC7 : Hid (∀ W, Below w7.heap.size w7 W → W.cell? ⟨w1.heap.size, 0, none⟩ = some (.int .i64 k)) := Lib.hid (fun W hW => (CL7.out.all hW).g0)
        have HG7 : Hid (∀ W, Below w7.heap.size w7 W → W.cell? ⟨w.heap.size, 2 + x, none⟩ = some (.int .i64 (m.facts.getD x 0))) := Lib.hid (fun W hW => HF0.out _ _ _ (CG7.out.all hW))
        obtain ⟨u7, hu7⟩ : ∃ u, w7.cell? ⟨w1.heap.size, 2 + k, none⟩ = some u := ⟨_, CL7.out.gf HS0.out (by omega)⟩
        have HU7 := Lib.hid hu7
        clear hpk hu7
        obtain ⟨y, hy⟩ : ∃ y, y = m.facts.getD x 0 := ⟨_, rfl⟩
        rw [← hy] at HSET7 HG7
        clear hy
        refine regionL (fun W => Below w7.heap.size w7 W) [8] (by kernel_rfl) (Below.refl _ _).drew (fun hHeld => ?_)
        refine takeA (i := 0) (v := .pointer (some ⟨w1.heap.size, 0, none⟩)) 26 rfl rfl (by kernel_rfl) (by kernel_rfl) (by kernel_rfl) (by kernel_rfl) (fun _ _ _ h => h) (Or.inl ⟨by rfl, by intro W hSw; go_simp⟩) hHeld ?_
        simp only [Act.put, List.setIfInBounds_toArray, List.set_cons_zero, List.set_cons_succ]
        refine takeA (i := 1) (v := .int .i64 k) 27 rfl rfl (by kernel_rfl) (by kernel_rfl) (by kernel_rfl) (by kernel_rfl) (fun _ _ _ h => h) (Or.inl ⟨by rfl, by intro W hSw; have c1 := HC7.out _ hSw; go_simp⟩) hHeld ?_
        simp only [Act.put, List.setIfInBounds_toArray, List.set_cons_zero, List.set_cons_succ]
        refine takeA (i := 2) (v := .int .i64 x) 28 rfl rfl (by kernel_rfl) (by kernel_rfl) (by kernel_rfl) (by kernel_rfl) (fun _ _ _ h => h) (Or.inl ⟨by rfl, by intro W hSw; go_simp⟩) hHeld ?_
        simp only [Act.put, List.setIfInBounds_toArray, List.set_cons_zero, List.set_cons_succ]
        refine takeA (i := 3) (v := .pointer (some ⟨w.heap.size, 2, none⟩)) 29 rfl rfl (by kernel_rfl) (by kernel_rfl) (by kernel_rfl) (by kernel_rfl) (fun _ _ _ h => h) (Or.inl ⟨by rfl, by intro W hSw; go_simp⟩) hHeld ?_
        simp only [Act.put, List.setIfInBounds_toArray, List.set_cons_zero, List.set_cons_succ]
        refine takeA (i := 4) (v := .pointer (some ⟨w.heap.size, 2 + x, none⟩)) 30 rfl rfl (by kernel_rfl) (by kernel_rfl) (by kernel_rfl) (by kernel_rfl) (fun _ _ _ h => h) (Or.inl ⟨by rfl, by intro W hSw; go_simp⟩) hHeld ?_
        simp only [Act.put, List.setIfInBounds_toArray, List.set_cons_zero, List.set_cons_succ]
        refine takeA (i := 5) (v := .int .i64 y) 31 rfl rfl (by kernel_rfl) (by kernel_rfl) (by kernel_rfl) (by kernel_rfl) (fun _ _ _ h => h) (Or.inl ⟨by rfl, by intro W hSw; have c1 := HG7.out _ hSw; go_simp⟩) hHeld ?_
        simp only [Act.put, List.setIfInBounds_toArray, List.set_cons_zero, List.set_cons_succ]
        refine takeA (i := 6) (v := .pointer (some ⟨w1.heap.size, 2, none⟩)) 32 rfl rfl (by kernel_rfl) (by kernel_rfl) (by kernel_rfl) (by kernel_rfl) (fun _ _ _ h => h) (Or.inl ⟨by rfl, by intro W hSw; go_simp⟩) hHeld ?_
        simp only [Act.put, List.setIfInBounds_toArray, List.set_cons_zero, List.set_cons_succ]
        refine takeA (i := 7) (v := .pointer (some ⟨w1.heap.size, 2 + k, none⟩)) 33 rfl rfl (by kernel_rfl) (by kernel_rfl) (by kernel_rfl) (by kernel_rfl) (fun _ _ _ h => h) (Or.inl ⟨by rfl, by intro W hSw; go_simp⟩) hHeld ?_
        simp only [Act.put, List.setIfInBounds_toArray, List.set_cons_zero, List.set_cons_succ]
        refine onlyL (i := 8) (by kernel_rfl) rfl (by rfl) (fun K hK => ?_)
        have ck : w7.drew.cell? ⟨w1.heap.size, 2 + k, none⟩ = some u7 := HU7.out
        have fk : w7.drew.frozen? ⟨w1.heap.size, 2 + k, none⟩ = false := CL7.out.frozen _
        go_simp
        refine hK.out _ _ (fun h => absurd (by decide) h) (fun _ => ?_)
        clear hK K hHeld ck fk
        refine doneL (by kernel_rfl) ?_ _
        have CL8 : Hid (Cm (w7.setCell ⟨w1.heap.size, 2 + k, none⟩ (.int .i64 y)).drew w1.heap.size 85 (ints (gL k m.blocks.length (pick m.facts (ws.take (k + 1))) (mix m ws k 0) act))) := Lib.hid (by rw [mix_0, ← HSET7.out]; exact (CL7.out.set (2 + k) (.int .i64 y)).drew)
        have CG8 := Lib.hid (CG7.out.other (b' := w1.heap.size) (by omega) (2 + k) (.int .i64 y)).drew
        have CR8 := Lib.hid (CR7.out.other (b' := w1.heap.size) (by omega) (2 + k) (.int .i64 y)).drew
        have BB8 : Hid (Below w.heap.size w (w7.setCell ⟨w1.heap.size, 2 + k, none⟩ (.int .i64 y)).drew) := Lib.hid ((BB7.out.setCell (by show _ ≤ w1.heap.size; omega) _).drew)
        have HAT8 : Hid (∀ k' (h : k' < ws.length), ∃ b' o', (some ⟨b, o, none⟩ : Option Addr) = some ⟨b', o', none⟩ ∧ w3.heap.size ≤ b' ∧ b' < w4.heap.size ∧ (w7.setCell ⟨w1.heap.size, 2 + k, none⟩ (.int .i64 y)).drew.cell? ⟨b', o' + k', none⟩ = some (.int .i64 (ws[k'] : Int))) := Lib.hid (fun k' h => by
          obtain ⟨b', o', e1, e2, e3, e4⟩ := HAT7.out k' h
          refine ⟨b', o', e1, e2, e3, ?_⟩
          show (w7.setCell ⟨w1.heap.size, 2 + k, none⟩ (.int .i64 y)).cell? _ = _
          rw [World.cell?_setCell_other _ _ _ _ (addr_ne (by omega))]
          exact e4)
        have hz8 : w4.heap.size ≤ (w7.setCell ⟨w1.heap.size, 2 + k, none⟩ (.int .i64 y)).drew.heap.size := by simp [World.setCell]; omega
        clear CL7 CG7 CR7 BB7 HAT7 HC7 HG7 HSET7 HU7 HSF
        generalize (w7.setCell ⟨w1.heap.size, 2 + k, none⟩ (.int .i64 y)).drew = w8 at *
        obtain ⟨cc0, cc1, cc2⟩ := HC.out _ _ _ CG8.out
        go_wp2
        clear cc0 cc1 cc2
        go_loopw [36] (fun iv wr => ∃ j : Nat, j ≤ m.blocks.length ∧ iv = .int .i64 j ∧ Hid (Cm wr w1.heap.size 85 (ints (gL k m.blocks.length (pick m.facts (ws.take (k + 1))) (mix m ws k j) act))) ∧ Hid (Cm wr w.heap.size 85 (ints G)) ∧ Hid (Cm wr (w.heap.size + 1 + 1) 85 (ints (gL 0 0 [] [] 0))) ∧ Hid (Below w.heap.size w wr) ∧ Hid (∀ k' (h : k' < ws.length), ∃ b' o', (some ⟨b, o, none⟩ : Option Addr) = some ⟨b', o', none⟩ ∧ w3.heap.size ≤ b' ∧ b' < w4.heap.size ∧ wr.cell? ⟨b', o' + k', none⟩ = some (.int .i64 (ws[k'] : Int))) ∧ w4.heap.size ≤ wr.heap.size) (fun iv _ => m.blocks.length - (intOf iv).toNat)
        case atStart => exact ⟨0, Nat.zero_le _, rfl, CL8, CG8, CR8, BB8, HAT8, hz8⟩
        case round =>
          clear CL8 CG8 CR8 BB8 HAT8 hz8
          obtain ⟨j, hj, rfl, CL, CG, CR, BB, HAT, hwr⟩ := hrel
          by_cases hlj : j < m.blocks.length
          · have hj0 : (0 : Int) ≤ (j : Int) := Int.natCast_nonneg _
            have hj3 : (j : Int) < 3 := by omega
            have hmr : ((mix m ws k j).getD j []).length = k := by rw [mix_get m ws hlj, pick_len, List.length_take]; omega
            have HSET := Lib.hid (gL_setr (n := (k : Int)) (a := m.blocks.length) (c := act) (x := (m.blocks.getD j []).getD x 0) (rows := mix m ws k j) (f := pick m.facts (ws.take (k + 1))) (j := j) (k := k) (HSM.out j hj) (by omega) (by rw [mix_len m ws k hj]; exact hlj) hmr (by omega))
            rw [mix_get m ws hlj, HMS.out j hlj] at HSET
            have HCL : Hid (∀ W, Below wr.heap.size wr W → W.cell? ⟨w1.heap.size, 0, none⟩ = some (.int .i64 k)) := Lib.hid (fun W hW => (CL.out.all hW).g0)
            have HGR : Hid (∀ W, Below wr.heap.size wr W → W.cell? ⟨w.heap.size, 18 + j * 16 + x, none⟩ = some (.int .i64 ((m.blocks.getD j []).getD x 0))) := Lib.hid (fun W hW => HR.out j hlj x hxn _ _ _ (CG.out.all hW))
            obtain ⟨u, hu⟩ : ∃ u, wr.cell? ⟨w1.heap.size, 18 + j * 16 + k, none⟩ = some u := ⟨_, CL.out.gr (HSM.out j hj) (by omega) (by omega)⟩
            have HU := Lib.hid hu
            clear hu hmr
            obtain ⟨y2, hy⟩ : ∃ y, y = (m.blocks.getD j []).getD x 0 := ⟨_, rfl⟩
            rw [← hy] at HSET HGR
            clear hy
            go_wp2
            refine regionL (fun W => Below wr.heap.size wr W) [12] (by kernel_rfl) (Below.refl _ _).drew (fun hHeld => ?_)
            refine takeA (i := 0) (v := .int .i64 j) 39 rfl rfl (by kernel_rfl) (by kernel_rfl) (by kernel_rfl) (by kernel_rfl) (fun _ _ _ h => h) (Or.inl ⟨by rfl, by intro W hSw; go_simp⟩) hHeld ?_
            simp only [Act.put, List.setIfInBounds_toArray, List.set_cons_zero, List.set_cons_succ]
            refine takeA (i := 1) (v := .pointer (some ⟨w1.heap.size, 0, none⟩)) 40 rfl rfl (by kernel_rfl) (by kernel_rfl) (by kernel_rfl) (by kernel_rfl) (fun _ _ _ h => h) (Or.inl ⟨by rfl, by intro W hSw; go_simp⟩) hHeld ?_
            simp only [Act.put, List.setIfInBounds_toArray, List.set_cons_zero, List.set_cons_succ]
            refine takeA (i := 2) (v := .int .i64 k) 41 rfl rfl (by kernel_rfl) (by kernel_rfl) (by kernel_rfl) (by kernel_rfl) (fun _ _ _ h => h) (Or.inl ⟨by rfl, by intro W hSw; have c1 := HCL.out _ hSw; go_simp⟩) hHeld ?_
            simp only [Act.put, List.setIfInBounds_toArray, List.set_cons_zero, List.set_cons_succ]
            refine takeA (i := 3) (v := .int .i64 j) 42 rfl rfl (by kernel_rfl) (by kernel_rfl) (by kernel_rfl) (by kernel_rfl) (fun _ _ _ h => h) (Or.inl ⟨by rfl, by intro W hSw; go_simp⟩) hHeld ?_
            simp only [Act.put, List.setIfInBounds_toArray, List.set_cons_zero, List.set_cons_succ]
            refine takeA (i := 4) (v := .int .i64 x) 43 rfl rfl (by kernel_rfl) (by kernel_rfl) (by kernel_rfl) (by kernel_rfl) (fun _ _ _ h => h) (Or.inl ⟨by rfl, by intro W hSw; go_simp⟩) hHeld ?_
            simp only [Act.put, List.setIfInBounds_toArray, List.set_cons_zero, List.set_cons_succ]
            refine takeA (i := 5) (v := .pointer (some ⟨w.heap.size, 18, none⟩)) 44 rfl rfl (by kernel_rfl) (by kernel_rfl) (by kernel_rfl) (by kernel_rfl) (fun _ _ _ h => h) (Or.inl ⟨by rfl, by intro W hSw; go_simp⟩) hHeld ?_
            simp only [Act.put, List.setIfInBounds_toArray, List.set_cons_zero, List.set_cons_succ]
            refine takeA (i := 6) (v := .pointer (some ⟨w.heap.size, 18 + j * 16, none⟩)) 45 rfl rfl (by kernel_rfl) (by kernel_rfl) (by kernel_rfl) (by kernel_rfl) (fun _ _ _ h => h) (Or.inl ⟨by rfl, by intro W hSw; go_simp⟩) hHeld ?_
            simp only [Act.put, List.setIfInBounds_toArray, List.set_cons_zero, List.set_cons_succ]
            refine takeA (i := 7) (v := .pointer (some ⟨w.heap.size, 18 + j * 16 + x, none⟩)) 46 rfl rfl (by kernel_rfl) (by kernel_rfl) (by kernel_rfl) (by kernel_rfl) (fun _ _ _ h => h) (Or.inl ⟨by rfl, by intro W hSw; go_simp⟩) hHeld ?_
            simp only [Act.put, List.setIfInBounds_toArray, List.set_cons_zero, List.set_cons_succ]
            refine takeA (i := 8) (v := .int .i64 y2) 47 rfl rfl (by kernel_rfl) (by kernel_rfl) (by kernel_rfl) (by kernel_rfl) (fun _ _ _ h => h) (Or.inl ⟨by rfl, by intro W hSw; have c1 := HGR.out _ hSw; go_simp⟩) hHeld ?_
            simp only [Act.put, List.setIfInBounds_toArray, List.set_cons_zero, List.set_cons_succ]
            refine takeA (i := 9) (v := .pointer (some ⟨w1.heap.size, 18, none⟩)) 48 rfl rfl (by kernel_rfl) (by kernel_rfl) (by kernel_rfl) (by kernel_rfl) (fun _ _ _ h => h) (Or.inl ⟨by rfl, by intro W hSw; go_simp⟩) hHeld ?_
            simp only [Act.put, List.setIfInBounds_toArray, List.set_cons_zero, List.set_cons_succ]
            refine takeA (i := 10) (v := .pointer (some ⟨w1.heap.size, 18 + j * 16, none⟩)) 49 rfl rfl (by kernel_rfl) (by kernel_rfl) (by kernel_rfl) (by kernel_rfl) (fun _ _ _ h => h) (Or.inl ⟨by rfl, by intro W hSw; go_simp⟩) hHeld ?_
            simp only [Act.put, List.setIfInBounds_toArray, List.set_cons_zero, List.set_cons_succ]
            refine takeA (i := 11) (v := .pointer (some ⟨w1.heap.size, 18 + j * 16 + k, none⟩)) 50 rfl rfl (by kernel_rfl) (by kernel_rfl) (by kernel_rfl) (by kernel_rfl) (fun _ _ _ h => h) (Or.inl ⟨by rfl, by intro W hSw; go_simp⟩) hHeld ?_
            simp only [Act.put, List.setIfInBounds_toArray, List.set_cons_zero, List.set_cons_succ]
            refine onlyL (i := 12) (by kernel_rfl) rfl (by rfl) (fun K hK => ?_)
            have ck : wr.drew.cell? ⟨w1.heap.size, 18 + j * 16 + k, none⟩ = some u := HU.out
            have fk : wr.drew.frozen? ⟨w1.heap.size, 18 + j * 16 + k, none⟩ = false := CL.out.frozen _
            go_simp
            refine hK.out _ _ (fun h => absurd (by decide) h) (fun _ => ?_)
            clear hK K hHeld ck fk
            refine doneL (by kernel_rfl) ?_ _
            clear HCL HGR HU
            go_wp2
            go_roundw
            case rel =>
              refine ⟨j + 1, by omega, by go_num, Lib.hid (by rw [← HSET.out]; exact CL.out.drew.set _ _), Lib.hid (CG.out.drew.other (by omega) _ _), Lib.hid (CR.out.drew.other (by omega) _ _), Lib.hid (BB.out.drew.setCell (by show _ ≤ w1.heap.size; omega) _), Lib.hid (fun k' h => ?_), by simp [World.setCell]; omega⟩
              obtain ⟨b', o', e1, e2, e3, e4⟩ := HAT.out k' h
              refine ⟨b', o', e1, e2, e3, ?_⟩
              show (wr.setCell ⟨w1.heap.size, 18 + j * 16 + k, none⟩ (.int .i64 y2)).cell? _ = _
              rw [World.cell?_setCell_other _ _ _ _ (addr_ne (by omega))]
              exact e4
            case measure => simp [intOf]; omega
          · obtain ⟨j', hj'⟩ : ∃ y, y = j := ⟨_, rfl⟩
            subst hj'
            have HJ : Hid (mix m ws k j' = rawRows m (ws.take (k + 1))) := Lib.hid (by rw [show j' = m.blocks.length by omega]; exact mix_end m ws k)
            have CL9 : Hid (Cm wr w1.heap.size 85 (ints (gL k m.blocks.length (pick m.facts (ws.take (k + 1))) (rawRows m (ws.take (k + 1))) act))) := Lib.hid (by rw [← HJ.out]; exact CL.out)
            have c0 := CL9.out.g0
            have f0 := CL9.out.frozen 0
            clear CL
            go_wp2
            clear c0 f0
            go_roundw
            case rel =>
              refine ⟨k + 1, by omega, by go_num, Lib.hid (by rw [← HA.out]; exact CL9.out.set 0 (.int .i64 (k + 1))), Lib.hid (CG.out.other (by omega) _ _), Lib.hid (CR.out.other (by omega) _ _), Lib.hid (BB.out.setCell (by show _ ≤ w1.heap.size; omega) _), Lib.hid (fun k' h => ?_), by simp [World.setCell]; omega⟩
              obtain ⟨b', o', e1, e2, e3, e4⟩ := HAT.out k' h
              refine ⟨b', o', e1, e2, e3, ?_⟩
              rw [World.cell?_setCell_other _ _ _ _ (addr_ne (by omega))]
              exact e4
            case measure => simp [intOf]; omega
    · obtain ⟨k', hk'⟩ : ∃ y, y = k := ⟨_, rfl⟩
      subst hk'
      have HK : Hid (ws.take k' = ws) := Lib.hid (List.take_of_length_le (by omega))
      have HKN : Hid (k' = ws.length) := Lib.hid (by omega)
      have CL9 : Hid (Cm wr w1.heap.size 85 (ints (gL k' m.blocks.length (pick m.facts ws) (nmix (rawRows m ws) 0) (actIn m.actual ws)))) := Lib.hid (by rw [nmix_0]; have h := CL.out; rw [HK.out] at h; exact h)
      have HSR := Lib.hid (raw_small (m := m) ws (pick m.facts ws) hwl (by rw [pick_len]; exact hwl))
      have HLW : Hid ((ints (gL k' m.blocks.length (pick m.facts ws) (nmix (rawRows m ws) 0) (actIn m.actual ws))).length = 67) := Lib.hid (by rw [nmix_0, ints_len]; exact gL_len HSR.out)
      have KR : Hid (∀ W, Calls Tryz.prog 146 #[.agg (ints (gL k' m.blocks.length (pick m.facts ws) (nmix (rawRows m ws) 0) (actIn m.actual ws))).toArray] W
          fun e W' => e = .returned (.agg (ints (gL ws.length m.blocks.length (pick m.facts ws) ((rawRows m ws).map num) (actIn m.actual ws))).toArray) ∧ Below W.heap.size W W') := Lib.hid (fun W => by
        have h := renumbered_any k' (actIn m.actual ws) (pick m.facts ws) (rawRows m ws) HSR.out (by omega) (by rw [rawRows_len]; exact p4) (fun j hj => by rw [rawRows_len] at hj; rw [rawRows_get m ws hj, pick_len]; exact HKN.out.symm) W
        rw [rawRows_len] at h
        rw [nmix_0]
        rw [HKN.out] at h ⊢
        exact h)
      have HLF : Hid ((ints (gL ws.length m.blocks.length (pick m.facts ws) ((rawRows m ws).map num) (actIn m.actual ws))).length = 67) := Lib.hid (by
        have h := gL_len (n := (ws.length : Int)) (a := m.blocks.length) (c := actIn m.actual ws) (nmix_small (rawRows m ws) (pick m.facts ws) (rawRows m ws).length HSR.out)
        rw [nmix_end] at h
        rw [ints_len]; exact h)
      have HO1 := Lib.hid (fun v (hv : v ∈ ints (gL ws.length m.blocks.length (pick m.facts ws) ((rawRows m ws).map num) (actIn m.actual ws))) => ints_one hv)
      obtain ⟨G9, hG9⟩ : ∃ G, G = gL k' m.blocks.length (pick m.facts ws) (nmix (rawRows m ws) 0) (actIn m.actual ws) := ⟨_, rfl⟩
      rw [← hG9] at CL9 HLW KR
      clear hG9
      obtain ⟨GF, hG⟩ : ∃ GF, GF = gL ws.length m.blocks.length (pick m.facts ws) ((rawRows m ws).map num) (actIn m.actual ws) := ⟨_, rfl⟩
      rw [← hG] at KR HLF HO1
      have HG := Lib.hid hG
      have hw1 : w1.heap.size < wr.heap.size := CL9.out.lt
      clear hG CL HAT CG
      have tk1 : True := trivial
      have tk2 : True := trivial
      have tk3 : True := trivial
      go_wp2_with
        (first
          | (have _t := tk1; clear _t tk1; refine wpList_loadM rfl 85 (.tmp 5) rfl w1.heap.size 0 rfl 85 (ints G9) (ints G9) CL9.out (fun j _ => by rw [Nat.zero_add]) _ Tryz.underlying85 rfl (by rw [HLW.out]; exact Tryz.sizeGrid) ?_)
          | (have _t := tk2; clear _t tk2; go_at_call 146; (with_reducible refine (KR.out _).mono ?_); rintro e w8 ⟨rfl, hb8⟩; have R8 := Lib.hid (CR.out.all hb8); have B8 := Lib.hid (BB.out.trans (hb8.mono BB.out.size)); clear hb8)
          | (have _t := tk3; clear _t tk3; refine wpList_storeM rfl 85 (.tmp 4) (.tmp 58) rfl (w.heap.size + 1 + 1) 0 rfl (ints GF) rfl 85 (ints (gL 0 0 [] [] 0)) R8.out (by rw [HLF.out]; exact Nat.le_refl _) (by rw [HLF.out]; exact Tryz.sizeGrid) HO1.out ?_
             intro w9 hc9 ha9
             rw [lay'_all (by rw [HLF.out]; rfl)] at hc9
             have C9 := Lib.hid hc9
             have B9 : Hid (Below w.heap.size w w9) := Lib.hid (B8.out.trans (ha9.below (by omega)))
             clear hc9 ha9))
      refine bodyPost_ret (results_mid1 Tryz.results114 _ _ (w.heap.size + 1 + 1) (ints GF) _ rfl C9.out.whole Tryz.underlying85 rfl (by rw [HLF.out]; exact Tryz.sizeGrid)) rfl ?_
      exact ⟨by rw [HG.out], B9.out⟩

theorem restricted_any (m : Md) (p : Nat → Bool) (hm : mdOk m = true) (hp : ∀ i, p i = true → i < m.facts.length) (w : World) :
    Calls Tryz.prog 114 #[.agg (ints (gL m.facts.length m.blocks.length m.facts m.blocks m.actual)).toArray, .agg (bL p).toArray] w
      fun e w' => e = .returned (.agg (ints (gL (lst p 16).length m.blocks.length (restM m (lst p 16)).facts (restM m (lst p 16)).blocks (restM m (lst p 16)).actual)).toArray) ∧ Below w.heap.size w w' := restrictedF_any m p (md_fits hm) hp w
end Go.Proofs.YtodjohdbngbpaaaGreat

/-
  The contract of grid.restricted for any grid lies in Rsw. No condition.
-/
namespace Go.Proofs.YtodjohdbngbpaaaGreat
end Go.Proofs.YtodjohdbngbpaaaGreat
