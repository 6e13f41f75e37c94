/-
  AreEquivalentIn of both sides. No condition.
-/
import Derived.Test.YtodjohdbngbpaaaGreatZSvb
import Derived.Test.YtodjohdbngbpaaaGreatSme
namespace Go.Proofs.YtodjohdbngbpaaaGreat
open Go.RowKit Go.WideShapes
open Go Go.Deep
set_option linter.unusedSimpArgs false

set_option maxRecDepth 100000 in
set_option maxHeartbeats 16000000 in
theorem implEquiv_any (lo hi : Nat) (v v2 v3 : Value) (m : Md) (xs ys : List Nd) (w : World) (hr : Mv lo hi w v m) (hhi : hi ≤ w.heap.size) (hr2 : Ns w v2 xs) (hr3 : Ns w v3 ys) :
    Calls Tryz.prog 19 #[v, v2, v3] w fun e w' => e = .returned (.bool (equivR m xs ys)) ∧ Below w.heap.size w w' := by
  obtain ⟨G, P, hl, hT, hF, hK⟩ := truthIn_gen lo hi v v2 m xs w hr hhi hr2
  have HLG := Lib.hid hl
  have KT := Lib.hid hK
  have HT := Lib.hid hT
  have HF := Lib.hid hF
  clear hl hK hT hF
  obtain ⟨G', P', hl, hT, hF, hK⟩ := truthIn_gen lo hi v v3 m ys w hr hhi hr3
  have HLG2 := Lib.hid hl
  have KT2 := Lib.hid hK
  have HT2 := Lib.hid hT
  have HF2 := Lib.hid hF
  clear hl hK hT hF
  have HR : Hid (equivR m xs ys = (evOk m xs && evOk m ys && eqB P P')) := Lib.hid (by
    unfold equivR
    cases hok : evOk m xs with
    | false => rfl
    | true =>
      cases hok2 : evOk m ys with
      | false => rfl
      | true => rw [(HT.out hok).2.2.1, (HT2.out hok2).2.2.1])
  clear HT HT2 HF HF2
  generalize equivR m xs ys = R at *
  generalize evOk m xs = ok at *
  generalize evOk m ys = ok2 at *
  obtain ⟨fv, bv, rfl, hf, hb⟩ := hr
  obtain ⟨a2, c2, rfl, -⟩ := hr2.parts
  obtain ⟨a3, c3, rfl, -⟩ := hr3.parts
  clear hf hb hr2 hr3
  have hsp : (ok = false ∨ (ok = true ∧ ok2 = false)) ∨ (ok = true ∧ ok2 = true) := by cases ok <;> cases ok2 <;> decide
  rcases hsp with (rfl | ⟨rfl, rfl⟩) | ⟨rfl, rfl⟩
  · have HA : Hid (R = false) := Lib.hid (by rw [HR.out]; rfl)
    clear HR
    go_enter Tryz.func19, Tryz.ntmps19
    go_wp2_with fail
    refine (KT.out _ (by go_grown)).mono ?_
    rintro e w1 ⟨rfl, hb1⟩
    have B1 : Hid (Below w.heap.size w w1) := Lib.hid (Below.trans (by go_grown) (hb1.mono (by simp)))
    have X1 := Lib.hid (Cm.all (Cm.new (w := w) (b := w.heap.size) (T := 26) (cs := [fv, bv, .int .i64 m.actual]) rfl) hb1)
    have xlt0 : w.heap.size < w1.heap.size := X1.out.lt
    clear hb1
    have sb1 : w.heap.size ≤ w1.heap.size := B1.out.size
    have tk1 : True := trivial
    have tk2 : True := trivial
    have tk3 : True := trivial
    have tk4 : True := trivial
    go_wp2_with
      (first
        | (have _t := tk1; clear _t tk1; refine wpList_allocM rfl 85 rfl (ints (gL 0 0 [] [] 0)) Tryz.allocGrid ?_
           intro w2 hc1 hb1 hs1
           have G1 := Lib.hid hc1
           have X1 := Lib.hid (X1.out.all hb1)
           have B1 := Lib.hid (B1.out.trans (hb1.mono B1.out.size))
           have lt2 : w1.heap.size < w2.heap.size := G1.out.lt
           clear hc1 hb1 hs1)
        | (have _t := tk2; clear _t tk2; refine wpList_allocM rfl 89 rfl (bL (fun _ => false)) Tryz.allocSet ?_
           intro w3 hc1 hb1 hs1
           have Q1 := Lib.hid hc1
           have G1 := Lib.hid (G1.out.all hb1)
           have X1 := Lib.hid (X1.out.all hb1)
           have B1 := Lib.hid (B1.out.trans (hb1.mono B1.out.size))
           have lt3 : w2.heap.size < w3.heap.size := Q1.out.lt
           clear hc1 hb1 hs1)
        | (have _t := tk3; clear _t tk3; refine wpList_storeM rfl 85 (.tmp 7) (.tmp 17) rfl w1.heap.size 0 rfl (ints G) rfl 85 (ints (gL 0 0 [] [] 0)) G1.out (by rw [HLG.out]; exact Nat.le_refl _) (by rw [HLG.out]; exact Tryz.sizeGrid) (fun v hv => ints_one hv) ?_
           intro w4 hc3 ha3
           rw [lay'_all (by rw [HLG.out]; rfl)] at hc3
           have G1 := Lib.hid hc3
           have Q1 := Lib.hid (ha3.cm Q1.out (by omega))
           have X1 := Lib.hid (ha3.cm X1.out (by omega))
           have B1 : Hid (Below w.heap.size w w4) := Lib.hid (B1.out.trans (ha3.below (by omega)))
           clear hc3 ha3)
        | (have _t := tk4; clear _t tk4; refine wpList_storeM rfl 89 (.tmp 8) (.tmp 18) rfl w2.heap.size 0 rfl (bL P) rfl 89 _ Q1.out (by rw [bL_len, bL_len]; exact Nat.le_refl _) (by rw [bL_len]; exact Tryz.sizeSet) (fun v hv => bL_one hv) ?_
           intro w5 hc3 ha3
           rw [lay'_all (by rw [bL_len, bL_len])] at hc3
           have Q1 := Lib.hid hc3
           have G1 := Lib.hid (ha3.cm G1.out (by omega))
           have X1 := Lib.hid (ha3.cm X1.out (by omega))
           have B1 : Hid (Below w.heap.size w w5) := Lib.hid (B1.out.trans (ha3.below (by omega)))
           clear hc3 ha3
           have q1lt : w2.heap.size < w5.heap.size := Q1.out.lt
           have xc0 : w5.cell? ⟨w.heap.size, 0, none⟩ = some fv := X1.out.cell 0
           have xc1 : w5.cell? ⟨w.heap.size, 1, none⟩ = some bv := X1.out.cell 1
           have xc2 : w5.cell? ⟨w.heap.size, 2, none⟩ = some (.int .i64 m.actual) := X1.out.cell 2
           have xlt := X1.out.lt
           clear G1 X1))
    go_wp2_with fail
    refine (KT2.out _ B1.out).mono ?_
    rintro e w6 ⟨rfl, hb1⟩
    have B1 : Hid (Below w.heap.size w w6) := Lib.hid (B1.out.trans (hb1.mono B1.out.size))
    have Q1 := Lib.hid (Q1.out.all hb1)
    have sz6 : w5.heap.size ≤ w6.heap.size := hb1.size
    clear hb1 xc0 xc1 xc2 xlt
    have sb6 : w.heap.size ≤ w6.heap.size := B1.out.size
    have tk5 : True := trivial
    have tk6 : True := trivial
    have tk7 : True := trivial
    have tk8 : True := trivial
    go_wp2_with
      (first
        | (have _t := tk5; clear _t tk5; refine wpList_allocM rfl 85 rfl (ints (gL 0 0 [] [] 0)) Tryz.allocGrid ?_
           intro w7 hc1 hb1 hs1
           have G2 := Lib.hid hc1
           have Q1 := Lib.hid (Q1.out.all hb1)
           have B1 := Lib.hid (B1.out.trans (hb1.mono B1.out.size))
           have lt7 : w6.heap.size < w7.heap.size := G2.out.lt
           clear hc1 hb1 hs1)
        | (have _t := tk6; clear _t tk6; refine wpList_allocM rfl 89 rfl (bL (fun _ => false)) Tryz.allocSet ?_
           intro w8 hc1 hb1 hs1
           have Q2 := Lib.hid hc1
           have G2 := Lib.hid (G2.out.all hb1)
           have Q1 := Lib.hid (Q1.out.all hb1)
           have B1 := Lib.hid (B1.out.trans (hb1.mono B1.out.size))
           have lt8 : w7.heap.size < w8.heap.size := Q2.out.lt
           clear hc1 hb1 hs1)
        | (have _t := tk7; clear _t tk7; refine wpList_storeM rfl 85 (.tmp 10) (.tmp 24) rfl w6.heap.size 0 rfl (ints G') rfl 85 (ints (gL 0 0 [] [] 0)) G2.out (by rw [HLG2.out]; exact Nat.le_refl _) (by rw [HLG2.out]; exact Tryz.sizeGrid) (fun v hv => ints_one hv) ?_
           intro w9 hc3 ha3
           rw [lay'_all (by rw [HLG2.out]; rfl)] at hc3
           have G2 := Lib.hid hc3
           have Q2 := Lib.hid (ha3.cm Q2.out (by omega))
           have Q1 := Lib.hid (ha3.cm Q1.out (by omega))
           have B1 : Hid (Below w.heap.size w w9) := Lib.hid (B1.out.trans (ha3.below (by omega)))
           clear hc3 ha3)
        | (have _t := tk8; clear _t tk8; refine wpList_storeM rfl 89 (.tmp 11) (.tmp 25) rfl w7.heap.size 0 rfl (bL P') rfl 89 _ Q2.out (by rw [bL_len, bL_len]; exact Nat.le_refl _) (by rw [bL_len]; exact Tryz.sizeSet) (fun v hv => bL_one hv) ?_
           intro w10 hc3 ha3
           rw [lay'_all (by rw [bL_len, bL_len])] at hc3
           have Q2 := Lib.hid hc3
           have G2 := Lib.hid (ha3.cm G2.out (by omega))
           have Q1 := Lib.hid (ha3.cm Q1.out (by omega))
           have B1 : Hid (Below w.heap.size w w10) := Lib.hid (B1.out.trans (ha3.below (by omega)))
           clear hc3 ha3))
    go_wp2
    go_ret
    exact ⟨ret_bool HA.out.symm, B1.out⟩
  · have HA : Hid (R = false) := Lib.hid (by rw [HR.out]; rfl)
    clear HR
    go_enter Tryz.func19, Tryz.ntmps19
    go_wp2_with fail
    refine (KT.out _ (by go_grown)).mono ?_
    rintro e w1 ⟨rfl, hb1⟩
    have B1 : Hid (Below w.heap.size w w1) := Lib.hid (Below.trans (by go_grown) (hb1.mono (by simp)))
    have X1 := Lib.hid (Cm.all (Cm.new (w := w) (b := w.heap.size) (T := 26) (cs := [fv, bv, .int .i64 m.actual]) rfl) hb1)
    have xlt0 : w.heap.size < w1.heap.size := X1.out.lt
    clear hb1
    have sb1 : w.heap.size ≤ w1.heap.size := B1.out.size
    have tk9 : True := trivial
    have tk10 : True := trivial
    have tk11 : True := trivial
    have tk12 : True := trivial
    go_wp2_with
      (first
        | (have _t := tk9; clear _t tk9; refine wpList_allocM rfl 85 rfl (ints (gL 0 0 [] [] 0)) Tryz.allocGrid ?_
           intro w2 hc1 hb1 hs1
           have G1 := Lib.hid hc1
           have X1 := Lib.hid (X1.out.all hb1)
           have B1 := Lib.hid (B1.out.trans (hb1.mono B1.out.size))
           have lt2 : w1.heap.size < w2.heap.size := G1.out.lt
           clear hc1 hb1 hs1)
        | (have _t := tk10; clear _t tk10; refine wpList_allocM rfl 89 rfl (bL (fun _ => false)) Tryz.allocSet ?_
           intro w3 hc1 hb1 hs1
           have Q1 := Lib.hid hc1
           have G1 := Lib.hid (G1.out.all hb1)
           have X1 := Lib.hid (X1.out.all hb1)
           have B1 := Lib.hid (B1.out.trans (hb1.mono B1.out.size))
           have lt3 : w2.heap.size < w3.heap.size := Q1.out.lt
           clear hc1 hb1 hs1)
        | (have _t := tk11; clear _t tk11; refine wpList_storeM rfl 85 (.tmp 7) (.tmp 17) rfl w1.heap.size 0 rfl (ints G) rfl 85 (ints (gL 0 0 [] [] 0)) G1.out (by rw [HLG.out]; exact Nat.le_refl _) (by rw [HLG.out]; exact Tryz.sizeGrid) (fun v hv => ints_one hv) ?_
           intro w4 hc3 ha3
           rw [lay'_all (by rw [HLG.out]; rfl)] at hc3
           have G1 := Lib.hid hc3
           have Q1 := Lib.hid (ha3.cm Q1.out (by omega))
           have X1 := Lib.hid (ha3.cm X1.out (by omega))
           have B1 : Hid (Below w.heap.size w w4) := Lib.hid (B1.out.trans (ha3.below (by omega)))
           clear hc3 ha3)
        | (have _t := tk12; clear _t tk12; refine wpList_storeM rfl 89 (.tmp 8) (.tmp 18) rfl w2.heap.size 0 rfl (bL P) rfl 89 _ Q1.out (by rw [bL_len, bL_len]; exact Nat.le_refl _) (by rw [bL_len]; exact Tryz.sizeSet) (fun v hv => bL_one hv) ?_
           intro w5 hc3 ha3
           rw [lay'_all (by rw [bL_len, bL_len])] at hc3
           have Q1 := Lib.hid hc3
           have G1 := Lib.hid (ha3.cm G1.out (by omega))
           have X1 := Lib.hid (ha3.cm X1.out (by omega))
           have B1 : Hid (Below w.heap.size w w5) := Lib.hid (B1.out.trans (ha3.below (by omega)))
           clear hc3 ha3
           have q1lt : w2.heap.size < w5.heap.size := Q1.out.lt
           have xc0 : w5.cell? ⟨w.heap.size, 0, none⟩ = some fv := X1.out.cell 0
           have xc1 : w5.cell? ⟨w.heap.size, 1, none⟩ = some bv := X1.out.cell 1
           have xc2 : w5.cell? ⟨w.heap.size, 2, none⟩ = some (.int .i64 m.actual) := X1.out.cell 2
           have xlt := X1.out.lt
           clear G1 X1))
    go_wp2_with fail
    refine (KT2.out _ B1.out).mono ?_
    rintro e w6 ⟨rfl, hb1⟩
    have B1 : Hid (Below w.heap.size w w6) := Lib.hid (B1.out.trans (hb1.mono B1.out.size))
    have Q1 := Lib.hid (Q1.out.all hb1)
    have sz6 : w5.heap.size ≤ w6.heap.size := hb1.size
    clear hb1 xc0 xc1 xc2 xlt
    have sb6 : w.heap.size ≤ w6.heap.size := B1.out.size
    have tk13 : True := trivial
    have tk14 : True := trivial
    have tk15 : True := trivial
    have tk16 : True := trivial
    go_wp2_with
      (first
        | (have _t := tk13; clear _t tk13; refine wpList_allocM rfl 85 rfl (ints (gL 0 0 [] [] 0)) Tryz.allocGrid ?_
           intro w7 hc1 hb1 hs1
           have G2 := Lib.hid hc1
           have Q1 := Lib.hid (Q1.out.all hb1)
           have B1 := Lib.hid (B1.out.trans (hb1.mono B1.out.size))
           have lt7 : w6.heap.size < w7.heap.size := G2.out.lt
           clear hc1 hb1 hs1)
        | (have _t := tk14; clear _t tk14; refine wpList_allocM rfl 89 rfl (bL (fun _ => false)) Tryz.allocSet ?_
           intro w8 hc1 hb1 hs1
           have Q2 := Lib.hid hc1
           have G2 := Lib.hid (G2.out.all hb1)
           have Q1 := Lib.hid (Q1.out.all hb1)
           have B1 := Lib.hid (B1.out.trans (hb1.mono B1.out.size))
           have lt8 : w7.heap.size < w8.heap.size := Q2.out.lt
           clear hc1 hb1 hs1)
        | (have _t := tk15; clear _t tk15; refine wpList_storeM rfl 85 (.tmp 10) (.tmp 24) rfl w6.heap.size 0 rfl (ints G') rfl 85 (ints (gL 0 0 [] [] 0)) G2.out (by rw [HLG2.out]; exact Nat.le_refl _) (by rw [HLG2.out]; exact Tryz.sizeGrid) (fun v hv => ints_one hv) ?_
           intro w9 hc3 ha3
           rw [lay'_all (by rw [HLG2.out]; rfl)] at hc3
           have G2 := Lib.hid hc3
           have Q2 := Lib.hid (ha3.cm Q2.out (by omega))
           have Q1 := Lib.hid (ha3.cm Q1.out (by omega))
           have B1 : Hid (Below w.heap.size w w9) := Lib.hid (B1.out.trans (ha3.below (by omega)))
           clear hc3 ha3)
        | (have _t := tk16; clear _t tk16; refine wpList_storeM rfl 89 (.tmp 11) (.tmp 25) rfl w7.heap.size 0 rfl (bL P') rfl 89 _ Q2.out (by rw [bL_len, bL_len]; exact Nat.le_refl _) (by rw [bL_len]; exact Tryz.sizeSet) (fun v hv => bL_one hv) ?_
           intro w10 hc3 ha3
           rw [lay'_all (by rw [bL_len, bL_len])] at hc3
           have Q2 := Lib.hid hc3
           have G2 := Lib.hid (ha3.cm G2.out (by omega))
           have Q1 := Lib.hid (ha3.cm Q1.out (by omega))
           have B1 : Hid (Below w.heap.size w w10) := Lib.hid (B1.out.trans (ha3.below (by omega)))
           clear hc3 ha3))
    go_wp2
    go_ret
    exact ⟨ret_bool HA.out.symm, B1.out⟩
  · have HR2 : Hid (R = eqB P P') := Lib.hid (by rw [HR.out]; rfl)
    clear HR
    go_enter Tryz.func19, Tryz.ntmps19
    go_wp2_with fail
    refine (KT.out _ (by go_grown)).mono ?_
    rintro e w1 ⟨rfl, hb1⟩
    have B1 : Hid (Below w.heap.size w w1) := Lib.hid (Below.trans (by go_grown) (hb1.mono (by simp)))
    have X1 := Lib.hid (Cm.all (Cm.new (w := w) (b := w.heap.size) (T := 26) (cs := [fv, bv, .int .i64 m.actual]) rfl) hb1)
    have xlt0 : w.heap.size < w1.heap.size := X1.out.lt
    clear hb1
    have sb1 : w.heap.size ≤ w1.heap.size := B1.out.size
    have tk17 : True := trivial
    have tk18 : True := trivial
    have tk19 : True := trivial
    have tk20 : True := trivial
    go_wp2_with
      (first
        | (have _t := tk17; clear _t tk17; refine wpList_allocM rfl 85 rfl (ints (gL 0 0 [] [] 0)) Tryz.allocGrid ?_
           intro w2 hc1 hb1 hs1
           have G1 := Lib.hid hc1
           have X1 := Lib.hid (X1.out.all hb1)
           have B1 := Lib.hid (B1.out.trans (hb1.mono B1.out.size))
           have lt2 : w1.heap.size < w2.heap.size := G1.out.lt
           clear hc1 hb1 hs1)
        | (have _t := tk18; clear _t tk18; refine wpList_allocM rfl 89 rfl (bL (fun _ => false)) Tryz.allocSet ?_
           intro w3 hc1 hb1 hs1
           have Q1 := Lib.hid hc1
           have G1 := Lib.hid (G1.out.all hb1)
           have X1 := Lib.hid (X1.out.all hb1)
           have B1 := Lib.hid (B1.out.trans (hb1.mono B1.out.size))
           have lt3 : w2.heap.size < w3.heap.size := Q1.out.lt
           clear hc1 hb1 hs1)
        | (have _t := tk19; clear _t tk19; refine wpList_storeM rfl 85 (.tmp 7) (.tmp 17) rfl w1.heap.size 0 rfl (ints G) rfl 85 (ints (gL 0 0 [] [] 0)) G1.out (by rw [HLG.out]; exact Nat.le_refl _) (by rw [HLG.out]; exact Tryz.sizeGrid) (fun v hv => ints_one hv) ?_
           intro w4 hc3 ha3
           rw [lay'_all (by rw [HLG.out]; rfl)] at hc3
           have G1 := Lib.hid hc3
           have Q1 := Lib.hid (ha3.cm Q1.out (by omega))
           have X1 := Lib.hid (ha3.cm X1.out (by omega))
           have B1 : Hid (Below w.heap.size w w4) := Lib.hid (B1.out.trans (ha3.below (by omega)))
           clear hc3 ha3)
        | (have _t := tk20; clear _t tk20; refine wpList_storeM rfl 89 (.tmp 8) (.tmp 18) rfl w2.heap.size 0 rfl (bL P) rfl 89 _ Q1.out (by rw [bL_len, bL_len]; exact Nat.le_refl _) (by rw [bL_len]; exact Tryz.sizeSet) (fun v hv => bL_one hv) ?_
           intro w5 hc3 ha3
           rw [lay'_all (by rw [bL_len, bL_len])] at hc3
           have Q1 := Lib.hid hc3
           have G1 := Lib.hid (ha3.cm G1.out (by omega))
           have X1 := Lib.hid (ha3.cm X1.out (by omega))
           have B1 : Hid (Below w.heap.size w w5) := Lib.hid (B1.out.trans (ha3.below (by omega)))
           clear hc3 ha3
           have q1lt : w2.heap.size < w5.heap.size := Q1.out.lt
           have xc0 : w5.cell? ⟨w.heap.size, 0, none⟩ = some fv := X1.out.cell 0
           have xc1 : w5.cell? ⟨w.heap.size, 1, none⟩ = some bv := X1.out.cell 1
           have xc2 : w5.cell? ⟨w.heap.size, 2, none⟩ = some (.int .i64 m.actual) := X1.out.cell 2
           have xlt := X1.out.lt
           clear G1 X1))
    go_wp2_with fail
    refine (KT2.out _ B1.out).mono ?_
    rintro e w6 ⟨rfl, hb1⟩
    have B1 : Hid (Below w.heap.size w w6) := Lib.hid (B1.out.trans (hb1.mono B1.out.size))
    have Q1 := Lib.hid (Q1.out.all hb1)
    have sz6 : w5.heap.size ≤ w6.heap.size := hb1.size
    clear hb1 xc0 xc1 xc2 xlt
    have sb6 : w.heap.size ≤ w6.heap.size := B1.out.size
    have tk21 : True := trivial
    have tk22 : True := trivial
    have tk23 : True := trivial
    have tk24 : True := trivial
    have tk25 : True := trivial
    have tk26 : True := trivial
    have tk27 : True := trivial
    go_wp2_with
      (first
        | (have _t := tk21; clear _t tk21; refine wpList_allocM rfl 85 rfl (ints (gL 0 0 [] [] 0)) Tryz.allocGrid ?_
           intro w7 hc1 hb1 hs1
           have G2 := Lib.hid hc1
           have Q1 := Lib.hid (Q1.out.all hb1)
           have B1 := Lib.hid (B1.out.trans (hb1.mono B1.out.size))
           have lt7 : w6.heap.size < w7.heap.size := G2.out.lt
           clear hc1 hb1 hs1)
        | (have _t := tk22; clear _t tk22; refine wpList_allocM rfl 89 rfl (bL (fun _ => false)) Tryz.allocSet ?_
           intro w8 hc1 hb1 hs1
           have Q2 := Lib.hid hc1
           have G2 := Lib.hid (G2.out.all hb1)
           have Q1 := Lib.hid (Q1.out.all hb1)
           have B1 := Lib.hid (B1.out.trans (hb1.mono B1.out.size))
           have lt8 : w7.heap.size < w8.heap.size := Q2.out.lt
           clear hc1 hb1 hs1)
        | (have _t := tk23; clear _t tk23; refine wpList_storeM rfl 85 (.tmp 10) (.tmp 24) rfl w6.heap.size 0 rfl (ints G') rfl 85 (ints (gL 0 0 [] [] 0)) G2.out (by rw [HLG2.out]; exact Nat.le_refl _) (by rw [HLG2.out]; exact Tryz.sizeGrid) (fun v hv => ints_one hv) ?_
           intro w9 hc3 ha3
           rw [lay'_all (by rw [HLG2.out]; rfl)] at hc3
           have G2 := Lib.hid hc3
           have Q2 := Lib.hid (ha3.cm Q2.out (by omega))
           have Q1 := Lib.hid (ha3.cm Q1.out (by omega))
           have B1 : Hid (Below w.heap.size w w9) := Lib.hid (B1.out.trans (ha3.below (by omega)))
           clear hc3 ha3)
        | (have _t := tk24; clear _t tk24; refine wpList_storeM rfl 89 (.tmp 11) (.tmp 25) rfl w7.heap.size 0 rfl (bL P') rfl 89 _ Q2.out (by rw [bL_len, bL_len]; exact Nat.le_refl _) (by rw [bL_len]; exact Tryz.sizeSet) (fun v hv => bL_one hv) ?_
           intro w10 hc3 ha3
           rw [lay'_all (by rw [bL_len, bL_len])] at hc3
           have Q2 := Lib.hid hc3
           have G2 := Lib.hid (ha3.cm G2.out (by omega))
           have Q1 := Lib.hid (ha3.cm Q1.out (by omega))
           have B1 : Hid (Below w.heap.size w w10) := Lib.hid (B1.out.trans (ha3.below (by omega)))
           clear hc3 ha3)
        | (have _t := tk25; clear _t tk25; refine wpList_loadMG rfl (by rfl) 89 _ rfl w2.heap.size 0 rfl 89 (bL P) (bL P) Q1.out (fun j _ => by rw [Nat.zero_add]) _ Tryz.underlying89 rfl (by rw [bL_len]; exact Tryz.sizeSet) ?_)
        | (have _t := tk26; clear _t tk26; refine wpList_loadMG rfl (by rfl) 89 _ rfl w7.heap.size 0 rfl 89 (bL P') (bL P') Q2.out (fun j _ => by rw [Nat.zero_add]) _ Tryz.underlying89 rfl (by rw [bL_len]; exact Tryz.sizeSet) ?_)
        | (have _t := tk27; clear _t tk27; refine wpList_eqAG rfl (by rfl) 89 _ _ _ rfl (bL P).toArray (bL P').toArray rfl rfl (by kernel_rfl) R (run_set_eq P P' _ R HR2.out) ?_))
    go_wp2
    go_ret
    exact ⟨ret_bool rfl, B1.out⟩
end Go.Proofs.YtodjohdbngbpaaaGreat
