/-
  HoldsEverywhere of both sides. No condition.
-/
import Derived.Test.YtodjohdbngbpaaaZSvb
namespace Go.Proofs.Ytodjohdbngbpaaa
open Go.RowKit Go.WideShapes
open Go Go.Deep
set_option linter.unusedSimpArgs false

set_option maxRecDepth 100000 in
set_option maxHeartbeats 16000000 in
theorem implEvery_any (lo hi : Nat) (v v2 : Value) (m : Md) (xs : List Nd) (w : World) (hr : Mv lo hi w v m) (hhi : hi ≤ w.heap.size) (hr2 : Ns w v2 xs) :
    Calls Try.prog 14 #[v, v2] w (fun e w' => e = .returned (.bool (everyR m xs)) ∧ Below w.heap.size w w') := by
  obtain ⟨G, P, hl, hT, hF, hK⟩ := truthIn_gen lo hi v v2 m xs w hr hhi hr2
  have HLG := Lib.hid hl
  have KT := Lib.hid hK
  have HT := Lib.hid hT
  have HF := Lib.hid hF
  clear hl hK hT hF
  obtain ⟨fv, bv, rfl, hf, hb⟩ := hr
  obtain ⟨a2, c2, rfl, -⟩ := hr2.parts
  clear hf hb hr2
  cases hok : evOk m xs with
  | false =>
    have HA : Hid (everyR m xs = false) := Lib.hid (by unfold everyR; rw [hok]; rfl)
    rw [hok] at KT
    clear HT HF hok
    go_enter Try.func14, Try.ntmps14
    go_wp2_with fail
    refine (KT.out _ (by go_grown)).mono ?_
    rintro e w1 ⟨rfl, hb1⟩
    have B1 : Hid (Below w.heap.size w w1) := Lib.hid (Below.trans (by go_grown) (hb1.mono (by simp)))
    clear hb1
    have sb1 : w.heap.size ≤ w1.heap.size := B1.out.size
    have tk1 : True := trivial
    have tk2 : True := trivial
    have tk3 : True := trivial
    have tk4 : True := trivial
    go_wp2_with
      (first
        | (have _t := tk1; clear _t tk1; refine wpList_allocM rfl 60 rfl (ints (gL 0 0 [] [] 0)) Try.allocGrid ?_
           intro w2 hc1 hb1 hs1
           have G1 := Lib.hid hc1
           have B1 := Lib.hid (B1.out.trans (hb1.mono B1.out.size))
           have lt2 : w1.heap.size < w2.heap.size := G1.out.lt
           clear hc1 hb1 hs1)
        | (have _t := tk2; clear _t tk2; refine wpList_allocM rfl 74 rfl (bL (fun _ => false)) Try.allocSet ?_
           intro w3 hc1 hb1 hs1
           have Q1 := Lib.hid hc1
           have G1 := Lib.hid (G1.out.all hb1)
           have B1 := Lib.hid (B1.out.trans (hb1.mono B1.out.size))
           have lt3 : w2.heap.size < w3.heap.size := Q1.out.lt
           clear hc1 hb1 hs1)
        | (have _t := tk3; clear _t tk3; refine wpList_storeM rfl 60 (.tmp 5) (.tmp 12) rfl w1.heap.size 0 rfl (ints G) rfl 60 (ints (gL 0 0 [] [] 0)) G1.out (by rw [HLG.out]; exact Nat.le_refl _) (by rw [HLG.out]; exact Try.sizeGrid) (fun v hv => ints_one hv) ?_
           intro w4 hc3 ha3
           rw [lay'_all (by rw [HLG.out]; rfl)] at hc3
           have G1 := Lib.hid hc3
           have Q1 := Lib.hid (ha3.cm Q1.out (by omega))
           have B1 : Hid (Below w.heap.size w w4) := Lib.hid (B1.out.trans (ha3.below (by omega)))
           clear hc3 ha3)
        | (have _t := tk4; clear _t tk4; refine wpList_storeM rfl 74 (.tmp 6) (.tmp 13) rfl w2.heap.size 0 rfl (bL P) rfl 74 _ Q1.out (by rw [bL_len, bL_len]; exact Nat.le_refl _) (by rw [bL_len]; exact Try.sizeSet) (fun v hv => bL_one hv) ?_
           intro w5 hc3 ha3
           rw [lay'_all (by rw [bL_len, bL_len])] at hc3
           have Q1 := Lib.hid hc3
           have G1 := Lib.hid (ha3.cm G1.out (by omega))
           have B1 : Hid (Below w.heap.size w w5) := Lib.hid (B1.out.trans (ha3.below (by omega)))
           clear hc3 ha3))
    go_wp2
    go_ret
    exact ⟨ret_bool HA.out.symm, B1.out⟩
  | true =>
    have hs := md_small (evOk_parts hok).1
    obtain ⟨C, hC⟩ : ∃ C, C = cut m.facts.length fun i => !P i := ⟨_, rfl⟩
    obtain ⟨R, hR⟩ : ∃ R, R = everyR m xs := ⟨_, rfl⟩
    have HR : Hid (R = eqB C (fun _ => false)) := Lib.hid (by rw [hR, hC, (HT.out hok).2.2.1]; unfold everyR; rw [hok]; rfl)
    have KOT : Hid (∀ W, Calls Try.prog 42 #[.agg (ints G).toArray, .agg (bL P).toArray] W fun e w' => e = .returned (.agg (bL C).toArray) ∧ Below W.heap.size W w') := Lib.hid (fun W => by
      rw [hC, (HT.out hok).2.2.2]
      exact others_any m.facts.length m.blocks.length m.actual m.facts m.blocks hs (ok_len hok).2 P W)
    rw [← hR]
    rw [hok] at KT
    clear HT HF hok hs hC hR
    go_enter Try.func14, Try.ntmps14
    go_wp2_with fail
    refine (KT.out _ (by go_grown)).mono ?_
    rintro e w1 ⟨rfl, hb1⟩
    have B1 : Hid (Below w.heap.size w w1) := Lib.hid (Below.trans (by go_grown) (hb1.mono (by simp)))
    clear hb1
    have sb1 : w.heap.size ≤ w1.heap.size := B1.out.size
    have tk5 : True := trivial
    have tk6 : True := trivial
    have tk7 : True := trivial
    have tk8 : True := trivial
    have tk9 : True := trivial
    have tk10 : True := trivial
    have tk11 : True := trivial
    have tk12 : True := trivial
    have tk13 : True := trivial
    go_wp2_with
      (first
        | (have _t := tk5; clear _t tk5; refine wpList_allocM rfl 60 rfl (ints (gL 0 0 [] [] 0)) Try.allocGrid ?_
           intro w2 hc1 hb1 hs1
           have G1 := Lib.hid hc1
           have B1 := Lib.hid (B1.out.trans (hb1.mono B1.out.size))
           have lt2 : w1.heap.size < w2.heap.size := G1.out.lt
           clear hc1 hb1 hs1)
        | (have _t := tk6; clear _t tk6; refine wpList_allocM rfl 74 rfl (bL (fun _ => false)) Try.allocSet ?_
           intro w3 hc1 hb1 hs1
           have Q1 := Lib.hid hc1
           have G1 := Lib.hid (G1.out.all hb1)
           have B1 := Lib.hid (B1.out.trans (hb1.mono B1.out.size))
           have lt3 : w2.heap.size < w3.heap.size := Q1.out.lt
           clear hc1 hb1 hs1)
        | (have _t := tk7; clear _t tk7; refine wpList_storeM rfl 60 (.tmp 5) (.tmp 12) rfl w1.heap.size 0 rfl (ints G) rfl 60 (ints (gL 0 0 [] [] 0)) G1.out (by rw [HLG.out]; exact Nat.le_refl _) (by rw [HLG.out]; exact Try.sizeGrid) (fun v hv => ints_one hv) ?_
           intro w4 hc3 ha3
           rw [lay'_all (by rw [HLG.out]; rfl)] at hc3
           have G1 := Lib.hid hc3
           have Q1 := Lib.hid (ha3.cm Q1.out (by omega))
           have B1 : Hid (Below w.heap.size w w4) := Lib.hid (B1.out.trans (ha3.below (by omega)))
           clear hc3 ha3)
        | (have _t := tk8; clear _t tk8; refine wpList_storeM rfl 74 (.tmp 6) (.tmp 13) rfl w2.heap.size 0 rfl (bL P) rfl 74 _ Q1.out (by rw [bL_len, bL_len]; exact Nat.le_refl _) (by rw [bL_len]; exact Try.sizeSet) (fun v hv => bL_one hv) ?_
           intro w5 hc3 ha3
           rw [lay'_all (by rw [bL_len, bL_len])] at hc3
           have Q1 := Lib.hid hc3
           have G1 := Lib.hid (ha3.cm G1.out (by omega))
           have B1 : Hid (Below w.heap.size w w5) := Lib.hid (B1.out.trans (ha3.below (by omega)))
           clear hc3 ha3)
        | (have _t := tk9; clear _t tk9; refine wpList_loadMG rfl (by rfl) 60 _ rfl w1.heap.size 0 rfl 60 (ints G) (ints G) G1.out (fun j _ => by rw [Nat.zero_add]) _ Try.underlying60 rfl (by rw [HLG.out]; exact Try.sizeGrid) ?_)
        | (have _t := tk10; clear _t tk10; refine wpList_loadMG rfl (by rfl) 74 _ rfl w2.heap.size 0 rfl 74 (bL P) (bL P) Q1.out (fun j _ => by rw [Nat.zero_add]) _ Try.underlying74 rfl (by rw [bL_len]; exact Try.sizeSet) ?_)
        | (have _t := tk11; clear _t tk11; go_at_call 42; (with_reducible refine (KOT.out _).mono ?_); rintro e w6 ⟨rfl, hb6⟩; have B1 := Lib.hid (B1.out.trans (hb6.mono B1.out.size)); clear hb6)
        | (have _t := tk12; clear _t tk12; refine wpList_buildG rfl (by rfl) 74 _ rfl #[] (by simp) (bL (fun _ => false)) (Try.buildSet _) ?_)
        | (have _t := tk13; clear _t tk13; refine wpList_eqAG rfl (by rfl) 74 _ _ _ rfl (bL C).toArray (bL (fun _ => false)).toArray rfl rfl (by kernel_rfl) R (run_set_eq C _ _ R HR.out) ?_))
    go_wp2
    go_ret
    exact ⟨ret_bool rfl, B1.out⟩
end Go.Proofs.Ytodjohdbngbpaaa
