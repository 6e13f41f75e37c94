/-
  Holds of both sides. No condition.
-/
import Derived.Test.YthjfanhhindjlaaGreatZSvb
namespace Go.Proofs.YthjfanhhindjlaaGreat
open Go.RowKit Go.WideShapes
open Go Go.Deep
set_option linter.unusedSimpArgs false

set_option maxRecDepth 100000 in
set_option maxHeartbeats 16000000 in
theorem implHolds_any (lo hi : Nat) (v v2 : Value) (m : Md) (xs : List Nd) (w : World) (hr : Mv lo hi w v m) (hhi : hi ≤ w.heap.size) (hr2 : Ns w v2 xs) :
    Calls Tryz.prog 25 #[v, v2] w (fun e w' => e = .returned (.bool (holdsR m xs)) ∧ Below w.heap.size w w') := by
  obtain ⟨G, P, hl, hT, hF, hK⟩ := truthIn_gen lo hi v v2 m xs w hr hhi hr2
  have HLG := Lib.hid hl
  have KT := Lib.hid hK
  have HT := Lib.hid hT
  have HF := Lib.hid hF
  clear hl hK hT hF
  obtain ⟨fv, bv, rfl, hf, hb⟩ := hr
  obtain ⟨a2, c2, rfl, -⟩ := hr2.parts
  clear hf hb hr2
  cases hok : evOk m xs with
  | false =>
    have HA : Hid (holdsR m xs = false) := Lib.hid (by unfold holdsR; rw [hok]; rfl)
    rw [hok] at KT
    clear HT HF hok
    go_enter Tryz.func25, Tryz.ntmps25
    go_wp2_with fail
    refine (KT.out _ (by go_grown)).mono ?_
    rintro e w1 ⟨rfl, hb1⟩
    have B1 : Hid (Below w.heap.size w w1) := Lib.hid (Below.trans (by go_grown) (hb1.mono (by simp)))
    clear hb1
    have sb1 : w.heap.size ≤ w1.heap.size := B1.out.size
    have tk1 : True := trivial
    have tk2 : True := trivial
    have tk3 : True := trivial
    have tk4 : True := trivial
    go_wp2_with
      (first
        | (have _t := tk1; clear _t tk1; refine wpList_allocM rfl 69 rfl (ints (gL 0 0 [] [] 0)) Tryz.allocGrid ?_
           intro w2 hc1 hb1 hs1
           have G1 := Lib.hid hc1
           have B1 := Lib.hid (B1.out.trans (hb1.mono B1.out.size))
           have lt2 : w1.heap.size < w2.heap.size := G1.out.lt
           clear hc1 hb1 hs1)
        | (have _t := tk2; clear _t tk2; refine wpList_allocM rfl 77 rfl (bL (fun _ => false)) Tryz.allocSet ?_
           intro w3 hc1 hb1 hs1
           have Q1 := Lib.hid hc1
           have G1 := Lib.hid (G1.out.all hb1)
           have B1 := Lib.hid (B1.out.trans (hb1.mono B1.out.size))
           have lt3 : w2.heap.size < w3.heap.size := Q1.out.lt
           clear hc1 hb1 hs1)
        | (have _t := tk3; clear _t tk3; refine wpList_storeM rfl 69 (.tmp 5) (.tmp 12) rfl w1.heap.size 0 rfl (ints G) rfl 69 (ints (gL 0 0 [] [] 0)) G1.out (by rw [HLG.out]; exact Nat.le_refl _) (by rw [HLG.out]; exact Tryz.sizeGrid) (fun v hv => ints_one hv) ?_
           intro w4 hc3 ha3
           rw [lay'_all (by rw [HLG.out]; rfl)] at hc3
           have G1 := Lib.hid hc3
           have Q1 := Lib.hid (ha3.cm Q1.out (by omega))
           have B1 : Hid (Below w.heap.size w w4) := Lib.hid (B1.out.trans (ha3.below (by omega)))
           clear hc3 ha3)
        | (have _t := tk4; clear _t tk4; refine wpList_storeM rfl 77 (.tmp 6) (.tmp 13) rfl w2.heap.size 0 rfl (bL P) rfl 77 _ Q1.out (by rw [bL_len, bL_len]; exact Nat.le_refl _) (by rw [bL_len]; exact Tryz.sizeSet) (fun v hv => bL_one hv) ?_
           intro w5 hc3 ha3
           rw [lay'_all (by rw [bL_len, bL_len])] at hc3
           have Q1 := Lib.hid hc3
           have G1 := Lib.hid (ha3.cm G1.out (by omega))
           have B1 : Hid (Below w.heap.size w w5) := Lib.hid (B1.out.trans (ha3.below (by omega)))
           clear hc3 ha3))
    go_wp2
    go_ret
    exact ⟨ret_bool HA.out.symm, B1.out⟩
  | true =>
    have HP := ok_len hok
    obtain ⟨-, -, -, -, -, -, p7, p8⟩ := mdOk_parts (evOk_parts hok).1
    obtain ⟨act, hact⟩ := Int.eq_ofNat_of_zero_le p7
    have HA : Hid (holdsR m xs = P act) := Lib.hid (by unfold holdsR; rw [hok, (HT.out hok).2.2.1, hact]; rfl)
    have g66 := (HT.out hok).2.1
    rw [hact] at g66
    have G66 := Lib.hid g66
    rw [hok] at KT
    have hal : act < 16 := by omega
    clear HT HF hok g66 p7 p8 hact HP
    go_enter Tryz.func25, Tryz.ntmps25
    go_wp2_with fail
    refine (KT.out _ (by go_grown)).mono ?_
    rintro e w1 ⟨rfl, hb1⟩
    have B1 : Hid (Below w.heap.size w w1) := Lib.hid (Below.trans (by go_grown) (hb1.mono (by simp)))
    clear hb1
    have sb1 : w.heap.size ≤ w1.heap.size := B1.out.size
    have tk5 : True := trivial
    have tk6 : True := trivial
    have tk7 : True := trivial
    have tk8 : True := trivial
    go_wp2_with
      (first
        | (have _t := tk5; clear _t tk5; refine wpList_allocM rfl 69 rfl (ints (gL 0 0 [] [] 0)) Tryz.allocGrid ?_
           intro w2 hc1 hb1 hs1
           have G1 := Lib.hid hc1
           have B1 := Lib.hid (B1.out.trans (hb1.mono B1.out.size))
           have lt2 : w1.heap.size < w2.heap.size := G1.out.lt
           clear hc1 hb1 hs1)
        | (have _t := tk6; clear _t tk6; refine wpList_allocM rfl 77 rfl (bL (fun _ => false)) Tryz.allocSet ?_
           intro w3 hc1 hb1 hs1
           have Q1 := Lib.hid hc1
           have G1 := Lib.hid (G1.out.all hb1)
           have B1 := Lib.hid (B1.out.trans (hb1.mono B1.out.size))
           have lt3 : w2.heap.size < w3.heap.size := Q1.out.lt
           clear hc1 hb1 hs1)
        | (have _t := tk7; clear _t tk7; refine wpList_storeM rfl 69 (.tmp 5) (.tmp 12) rfl w1.heap.size 0 rfl (ints G) rfl 69 (ints (gL 0 0 [] [] 0)) G1.out (by rw [HLG.out]; exact Nat.le_refl _) (by rw [HLG.out]; exact Tryz.sizeGrid) (fun v hv => ints_one hv) ?_
           intro w4 hc3 ha3
           rw [lay'_all (by rw [HLG.out]; rfl)] at hc3
           have G1 := Lib.hid hc3
           have Q1 := Lib.hid (ha3.cm Q1.out (by omega))
           have B1 : Hid (Below w.heap.size w w4) := Lib.hid (B1.out.trans (ha3.below (by omega)))
           clear hc3 ha3)
        | (have _t := tk8; clear _t tk8; refine wpList_storeM rfl 77 (.tmp 6) (.tmp 13) rfl w2.heap.size 0 rfl (bL P) rfl 77 _ Q1.out (by rw [bL_len, bL_len]; exact Nat.le_refl _) (by rw [bL_len]; exact Tryz.sizeSet) (fun v hv => bL_one hv) ?_
           intro w5 hc3 ha3
           rw [lay'_all (by rw [bL_len, bL_len])] at hc3
           have Q1 := Lib.hid hc3
           have G1 := Lib.hid (ha3.cm G1.out (by omega))
           have B1 : Hid (Below w.heap.size w w5) := Lib.hid (B1.out.trans (ha3.below (by omega)))
           clear hc3 ha3
           have c66 : w5.cell? ⟨w1.heap.size, 66, none⟩ = some (.int .i64 act) := (G1.out.cell 66).trans G66.out
           have cq : w5.cell? ⟨w2.heap.size, act, none⟩ = some (.bool (P act)) := (Q1.out.cell act).trans (bL_get P hal)
           have a0 : (0 : Int) ≤ (act : Int) := Int.natCast_nonneg _
           have a16 : (act : Int) < 16 := by omega))
    go_wp2
    go_ret
    exact ⟨ret_bool HA.out.symm, B1.out⟩
end Go.Proofs.YthjfanhhindjlaaGreat
