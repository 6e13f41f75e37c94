/-
  Contract of grid.renumbered: the blocks of each agent numbered in the order in which they are met. Condition: the grid's lists fit.
-/
import Derived.Test.YtpodpadcaflehaaZSet
namespace Go.Proofs.Ytpodpadcaflehaa
open Go.RowKit Go.WideShapes
open Go Go.Deep
set_option linter.unusedSimpArgs false

set_option maxRecDepth 100000 in
set_option maxHeartbeats 64000000 in
theorem renumbered_any (n : Nat) (c : Int) (f : List Int) (rows : List (List Int)) (hs : small f rows) (hn : n ≤ 16) (ha : rows.length ≤ 3) (hl : ∀ k, k < rows.length → (rows.getD k []).length = n) (w : World) :
    Calls Try.prog 64 #[.agg (ints (gL n rows.length f rows c)).toArray] w
      fun e w' => e = .returned (.agg (ints (gL n rows.length f (rows.map num) c)).toArray) ∧ Below w.heap.size w w' := by
  have HSN := Lib.hid (fun j => nmix_small rows f j hs)
  have HLN := Lib.hid (fun j => gL_len (n := (n : Int)) (a := (rows.length : Int)) (c := c) (HSN.out j))
  have HE := Lib.hid (nmix_end rows)
  have HLL := Lib.hid hl
  have H0 : Hid (gL n rows.length f rows c = gL n rows.length f (nmix rows 0) c) := Lib.hid (by rw [nmix_0])
  rw [H0.out]
  have HL0 : Hid ((ints (gL n rows.length f (nmix rows 0) c)).length = 67) := Lib.hid (by rw [ints_len]; exact HLN.out 0)
  clear hl H0
  obtain ⟨G0, hG0⟩ : ∃ G, G = ints (gL n rows.length f (nmix rows 0) c) := ⟨_, rfl⟩
  have HG0 := Lib.hid hG0
  rw [← hG0]
  clear hG0
  go_enter Try.func64, Try.ntmps64
  go_wp2_with
    (refine wpList_allocM (o := ⟨some 2, _, _, _, _, _⟩) rfl 65 rfl (ints (gL 0 0 [] [] 0)) Try.allocGrid ?_
     intro w1 hc1 hb1 hs1
     have CG : Hid (Cm w1 w.heap.size 65 (ints (gL n rows.length f (nmix rows 0) c))) := Lib.hid (by rw [← HG0.out]; exact Cm.all (Cm.new (w := w) (T := 65) (cs := G0) rfl) hb1)
     have CR : Hid (Cm w1 (w.heap.size + 1) 65 (ints (gL 0 0 [] [] 0))) := Lib.hid (by simpa using hc1)
     have BB : Hid (Below w.heap.size w w1) := Lib.hid (Below.trans (by go_grown) (hb1.mono (by simp)))
     have cc1 := CG.out.g1
     clear hc1 hb1 hs1)
  clear cc1
  go_loopw [6] (fun iv wr => ∃ j : Nat, j ≤ rows.length ∧ iv = .int .i64 j ∧ Hid (Cm wr w.heap.size 65 (ints (gL n rows.length f (nmix rows j) c))) ∧ Hid (Cm wr (w.heap.size + 1) 65 (ints (gL 0 0 [] [] 0))) ∧ Hid (Below w.heap.size w wr)) (fun iv _ => rows.length - (intOf iv).toNat)
  case atStart => exact ⟨0, Nat.zero_le _, rfl, CG, CR, BB⟩
  case round =>
    clear CG CR BB
    obtain ⟨j, hj, rfl, CL, CR, BB⟩ := hrel
    by_cases hlj : j < rows.length
    · have hj0 : (0 : Int) ≤ (j : Int) := Int.natCast_nonneg _
      have hj3 : (j : Int) < 3 := by omega
      have hrw := HLL.out j hlj
      have HROW := Lib.hid (nmix_get rows hlj)
      have HSET := Lib.hid (gL_set (n := (n : Int)) (a := (rows.length : Int)) (c := c) (f := f) (rows := nmix rows j) (rows' := nmix rows (j + 1)) (r := num (rows.getD j [])) (k := j) (HSN.out j) (by rw [num_len, hrw]; omega) (by omega) (nmix_succ _ hlj) (fun i hi => nmix_other _ hlj hi))
      have HRG : Hid (∀ W, Below wr.heap.size wr W → W.rangeAt w.heap.size (18 + j * 16) (ints (pad (rows.getD j [])))) := Lib.hid (fun W hW => (CL.out.all hW).range _ _ (fun t ht => by
        rw [ints_len, pad_len (by rw [hrw]; omega)] at ht
        rw [ints_get, ints_get, gL_r (HSN.out j) (by omega) ht, HROW.out]))
      have HC0 : Hid (∀ W, Below wr.heap.size wr W → W.cell? ⟨w.heap.size, 0, none⟩ = some (.int .i64 n)) := Lib.hid (fun W hW => (CL.out.all hW).g0)
      have KN := Lib.hid (fun W => numbered_any (pad (rows.getD j [])) n W (pad_len (by rw [hrw]; omega)) (by omega))
      rw [pad_take' hrw] at KN
      have HP16 : Hid ((ints (pad (rows.getD j []))).length = 16) := Lib.hid (by rw [ints_len, pad_len (by rw [hrw]; omega)])
      have HN16 : Hid ((ints (pad (num (rows.getD j [])))).length = 16) := Lib.hid (by rw [ints_len, pad_len (by rw [num_len, hrw]; omega)])
      have HN1 := Lib.hid (fun v (hv : v ∈ ints (pad (num (rows.getD j [])))) => ints_one hv)
      have HLJ := Lib.hid (HLN.out j)
      have HU : Try.prog.underlying 62 = some (.array 16 3) := Try.underlying62
      clear hrw HROW
      generalize rows.getD j [] = row at *
      go_wp2
      refine regionL (fun W => Below wr.heap.size wr W) [10] (by kernel_rfl) (Below.refl _ _).drew (fun hHeld => ?_)
      refine takeA (i := 0) (v := .int .i64 j) 9 rfl rfl (by kernel_rfl) (by kernel_rfl) (by kernel_rfl) (by kernel_rfl) (fun _ _ _ h => h) (Or.inl ⟨by rfl, by intro W hSw; go_simp⟩) hHeld ?_
      simp only [Act.put, List.setIfInBounds_toArray, List.set_cons_zero, List.set_cons_succ]
      refine takeA (i := 1) (v := .int .i64 j) 10 rfl rfl (by kernel_rfl) (by kernel_rfl) (by kernel_rfl) (by kernel_rfl) (fun _ _ _ h => h) (Or.inl ⟨by rfl, by intro W hSw; go_simp⟩) hHeld ?_
      simp only [Act.put, List.setIfInBounds_toArray, List.set_cons_zero, List.set_cons_succ]
      refine takeA (i := 2) (v := .pointer (some ⟨w.heap.size, 18, none⟩)) 11 rfl rfl (by kernel_rfl) (by kernel_rfl) (by kernel_rfl) (by kernel_rfl) (fun _ _ _ h => h) (Or.inl ⟨by rfl, by intro W hSw; go_simp⟩) hHeld ?_
      simp only [Act.put, List.setIfInBounds_toArray, List.set_cons_zero, List.set_cons_succ]
      refine takeA (i := 3) (v := .pointer (some ⟨w.heap.size, 18 + j * 16, none⟩)) 12 rfl rfl (by kernel_rfl) (by kernel_rfl) (by kernel_rfl) (by kernel_rfl) (fun _ _ _ h => h) (Or.inl ⟨by rfl, by intro W hSw; go_simp⟩) hHeld ?_
      simp only [Act.put, List.setIfInBounds_toArray, List.set_cons_zero, List.set_cons_succ]
      refine takeA (i := 4) (v := .agg (ints (pad row)).toArray) 13 rfl rfl (by kernel_rfl) (by kernel_rfl) (by kernel_rfl) (by kernel_rfl) (fun _ _ _ h => h) (yieldsIf_load_mid (by rfl) 62 _ rfl w.heap.size (18 + j * 16) rfl (ints (pad row)) _ HRG.out HU rfl (by rw [HP16.out]; exact Try.sizeRow)) hHeld ?_
      simp only [Act.put, List.setIfInBounds_toArray, List.set_cons_zero, List.set_cons_succ]
      refine takeA (i := 5) (v := .pointer (some ⟨w.heap.size, 0, none⟩)) 14 rfl rfl (by kernel_rfl) (by kernel_rfl) (by kernel_rfl) (by kernel_rfl) (fun _ _ _ h => h) (Or.inl ⟨by rfl, by intro W hSw; go_simp⟩) hHeld ?_
      simp only [Act.put, List.setIfInBounds_toArray, List.set_cons_zero, List.set_cons_succ]
      refine takeA (i := 6) (v := .int .i64 n) 15 rfl rfl (by kernel_rfl) (by kernel_rfl) (by kernel_rfl) (by kernel_rfl) (fun _ _ _ h => h) (Or.inl ⟨by rfl, by intro W hSw; have c1 := HC0.out _ hSw; go_simp⟩) hHeld ?_
      simp only [Act.put, List.setIfInBounds_toArray, List.set_cons_zero, List.set_cons_succ]
      refine takeA (i := 8) (v := .pointer (some ⟨w.heap.size, 18, none⟩)) 17 rfl rfl (by kernel_rfl) (by kernel_rfl) (by kernel_rfl) (by kernel_rfl) (fun _ _ _ h => h) (Or.inl ⟨by rfl, by intro W hSw; go_simp⟩) hHeld ?_
      simp only [Act.put, List.setIfInBounds_toArray, List.set_cons_zero, List.set_cons_succ]
      refine onlyL (i := 7) (by kernel_rfl) rfl (by rfl) (fun K hK => ?_)
      go_simp
      refine (KN.out _).mono ?_
      rintro e w6 ⟨rfl, hb6⟩
      have t6 : Below wr.heap.size wr w6 := hHeld.trans (hb6.mono (Nat.le_refl _))
      clear hb6 hHeld
      refine hK.out _ _ (fun _ => t6) (fun hHeld => ?_)
      have hHeld := hHeld (by decide)
      clear hK K
      try simp only [Act.put, List.setIfInBounds_toArray, List.set_cons_zero, List.set_cons_succ]
      have CL6 := Lib.hid (CL.out.all t6)
      have CR6 := Lib.hid (CR.out.all t6)
      have BB6 := Lib.hid (BB.out.trans (t6.mono BB.out.size))
      clear t6 CL CR BB
      refine takeA (i := 9) (v := .pointer (some ⟨w.heap.size, 18 + j * 16, none⟩)) 18 rfl rfl (by kernel_rfl) (by kernel_rfl) (by kernel_rfl) (by kernel_rfl) (fun _ _ _ h => h) (Or.inl ⟨by rfl, by intro W hSw; go_simp⟩) hHeld ?_
      simp only [Act.put, List.setIfInBounds_toArray, List.set_cons_zero, List.set_cons_succ]
      refine onlyL (i := 10) (by kernel_rfl) rfl (by rfl) (fun K hK => ?_)
      refine wp_storeM 62 (.tmp 18) (.tmp 16) rfl rfl w.heap.size (18 + j * 16) rfl (ints (pad (num row))) rfl 65 _ CL6.out (by rw [HN16.out, ints_len, HLJ.out]; omega) (by rw [HN16.out]; exact Try.sizeRow) HN1.out ?_
      intro w7 hc7 ha7
      rw [HSET.out] at hc7
      have CL7 := Lib.hid hc7
      have CR7 := Lib.hid (ha7.cm CR6.out (by omega))
      have BB7 : Hid (Below w.heap.size w w7) := Lib.hid (BB6.out.trans (ha7.below (by omega)))
      clear hc7 ha7 CL6 CR6 BB6 hHeld
      refine hK.out _ _ (fun h => absurd (by decide) h) (fun _ => ?_)
      clear hK K
      refine doneL (by kernel_rfl) ?_ _
      go_wp2
      go_roundw
      case rel => exact ⟨j + 1, by omega, by go_num, CL7, CR7, BB7⟩
      case measure => simp [intOf]; omega
    · obtain rfl : j = rows.length := by omega
      rw [HE.out] at CL
      have HLF : Hid ((ints (gL n rows.length f (rows.map num) c)).length = 67) := Lib.hid (by rw [← HE.out, ints_len]; exact HLN.out _)
      have HO1 := Lib.hid (fun v (hv : v ∈ ints (gL n rows.length f (rows.map num) c)) => ints_one hv)
      obtain ⟨GF, hG⟩ : ∃ GF, GF = gL n rows.length f (rows.map num) c := ⟨_, rfl⟩
      rw [← hG] at CL HLF HO1
      have HG := Lib.hid hG
      clear hG
      go_wp2_with
        (first
          | (refine wpList_loadM rfl 65 _ rfl w.heap.size 0 rfl 65 (ints GF) (ints GF) CL.out (fun j _ => by rw [Nat.zero_add]) _ Try.underlying65 rfl (by rw [HLF.out]; exact Try.sizeGrid) ?_)
          | (refine wpList_storeM rfl 65 (.tmp 2) (.tmp 20) rfl (w.heap.size + 1) 0 rfl (ints GF) rfl 65 (ints (gL 0 0 [] [] 0)) CR.out (by rw [HLF.out]; exact Nat.le_refl _) (by rw [HLF.out]; exact Try.sizeGrid) HO1.out ?_
             intro w9 hc9 ha9
             rw [lay'_all (by rw [HLF.out]; rfl)] at hc9
             have C9 := Lib.hid hc9
             have B9 : Hid (Below w.heap.size w w9) := Lib.hid (BB.out.trans (ha9.below (by omega)))
             clear hc9 ha9))
      refine bodyPost_ret (results_mid1 Try.results64 _ _ (w.heap.size + 1) (ints GF) _ rfl C9.out.whole Try.underlying65 rfl (by rw [HLF.out]; exact Try.sizeGrid)) rfl ?_
      exact ⟨by rw [HG.out], B9.out⟩
end Go.Proofs.Ytpodpadcaflehaa
