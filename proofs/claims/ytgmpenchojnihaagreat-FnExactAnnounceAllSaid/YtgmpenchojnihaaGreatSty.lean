/-
  staying: the iterator over the worlds that stay when a formula is announced. No condition but the readings.
-/
import Derived.Test.YtgmpenchojnihaaGreatEac
import Derived.Test.YtgmpenchojnihaaGreatZSvb
namespace Go.Proofs.YtgmpenchojnihaaGreat
open Go.RowKit Go.WideShapes
open Go Go.Deep
set_option linter.unusedSimpArgs false

/-- the worlds that stay when a formula is announced -/
def stayP (m : Md) (xs : List Nd) : Nat → Bool := if holdsR m xs then evP m xs else fun _ => false
/-- an iterator over a set, in new memory -/
def StayAns (w : World) (p : Nat → Bool) (e : Ending) (w' : World) : Prop :=
  ∃ Bn, e = .returned (.func (.func 112) #[] #[.pointer (some ⟨Bn, 0, none⟩)]) ∧ w.heap.size ≤ Bn ∧ Cm w' Bn 106 (bL p) ∧ Below w.heap.size w w'

set_option maxRecDepth 100000 in
set_option maxHeartbeats 16000000 in
theorem staying_any (lo hi : Nat) (v v2 : Value) (m : Md) (xs : List Nd) (w : World) (hr : Mv lo hi w v m) (hhi : hi ≤ w.heap.size) (hr2 : Ns w v2 xs) :
    Calls Tryz.prog 53 #[v, v2] w (StayAns w (stayP m xs)) := by
  obtain ⟨G, P, hl, hT, hF, hK⟩ := truthIn_gen lo hi v v2 m xs w hr hhi hr2
  have HLG := Lib.hid hl
  have KT := Lib.hid hK
  have HT := Lib.hid hT
  have HF := Lib.hid hF
  clear hl hK hT hF
  obtain ⟨fv, bv, rfl, hf, hb⟩ := hr
  obtain ⟨a2, c2, rfl, -⟩ := hr2.parts
  clear hf hb hr2
  cases hok : evOk m xs with
  | false =>
    have HA : Hid (stayP m xs = fun _ => false) := Lib.hid (by unfold stayP holdsR; rw [hok]; rfl)
    rw [hok] at KT
    clear HT HF hok
    go_enter Tryz.func53, Tryz.ntmps53
    go_wp2_with fail
    refine (KT.out _ (by go_grown)).mono ?_
    rintro e w1 ⟨rfl, hb1⟩
    have B1 : Hid (Below w.heap.size w w1) := Lib.hid (Below.trans (by go_grown) (hb1.mono (by simp)))
    clear hb1
    have sb1 : w.heap.size ≤ w1.heap.size := B1.out.size
    have tk1 : True := trivial
    have tk2 : True := trivial
    have tk3 : True := trivial
    have tk4 : True := trivial
    have tk5 : True := trivial
    go_wp2_with
      (first
        | (have _t := tk1; clear _t tk1; refine wpList_allocM rfl 86 rfl (ints (gL 0 0 [] [] 0)) Tryz.allocGrid ?_
           intro w2 hc1 hb1 hs1
           have G1 := Lib.hid hc1
           have B1 := Lib.hid (B1.out.trans (hb1.mono B1.out.size))
           have lt2 : w1.heap.size < w2.heap.size := G1.out.lt
           clear hc1 hb1 hs1)
        | (have _t := tk2; clear _t tk2; refine wpList_allocM rfl 106 rfl (bL (fun _ => false)) Tryz.allocSet ?_
           intro w3 hc1 hb1 hs1
           have Q1 := Lib.hid hc1
           have G1 := Lib.hid (G1.out.all hb1)
           have B1 := Lib.hid (B1.out.trans (hb1.mono B1.out.size))
           have lt3 : w2.heap.size < w3.heap.size := Q1.out.lt
           clear hc1 hb1 hs1)
        | (have _t := tk3; clear _t tk3; refine wpList_storeM rfl 86 (.tmp 5) (.tmp 12) rfl w1.heap.size 0 rfl (ints G) rfl 86 (ints (gL 0 0 [] [] 0)) G1.out (by rw [HLG.out]; exact Nat.le_refl _) (by rw [HLG.out]; exact Tryz.sizeGrid) (fun v hv => ints_one hv) ?_
           intro w4 hc3 ha3
           rw [lay'_all (by rw [HLG.out]; rfl)] at hc3
           have G1 := Lib.hid hc3
           have Q1 := Lib.hid (ha3.cm Q1.out (by omega))
           have B1 : Hid (Below w.heap.size w w4) := Lib.hid (B1.out.trans (ha3.below (by omega)))
           clear hc3 ha3)
        | (have _t := tk4; clear _t tk4; refine wpList_storeM rfl 106 (.tmp 6) (.tmp 13) rfl w2.heap.size 0 rfl (bL P) rfl 106 _ Q1.out (by rw [bL_len, bL_len]; exact Nat.le_refl _) (by rw [bL_len]; exact Tryz.sizeSet) (fun v hv => bL_one hv) ?_
           intro w5 hc3 ha3
           rw [lay'_all (by rw [bL_len, bL_len])] at hc3
           have Q1 := Lib.hid hc3
           have G1 := Lib.hid (ha3.cm G1.out (by omega))
           have B1 : Hid (Below w.heap.size w w5) := Lib.hid (B1.out.trans (ha3.below (by omega)))
           clear hc3 ha3)
        | (have _t := tk5; clear _t tk5; refine wpList_buildM rfl 106 _ rfl #[] (by simp) (bL (fun _ => false)) (Tryz.buildSet _) ?_))
    refine (each_any (fun _ => false) _).mono ?_
    rintro e w6 ⟨rfl, rfl⟩
    have HN : Hid (Cm (w5.alloc (.cells (bL (fun _ => false)).toArray 106)) w5.heap.size 106 (bL (fun _ => false))) := Lib.hid (Cm.new rfl)
    have HB6 : Hid (Below w.heap.size w (w5.alloc (.cells (bL (fun _ => false)).toArray 106))) := Lib.hid (B1.out.alloc B1.out.size _)
    have sb5 : w.heap.size ≤ w5.heap.size := B1.out.size
    go_wp2
    go_ret
    exact ⟨_, rfl, sb5, by rw [HA.out]; exact HN.out, HB6.out⟩
  | true =>
    have HP := ok_len hok
    obtain ⟨-, -, -, -, -, -, p7, p8⟩ := mdOk_parts (evOk_parts hok).1
    obtain ⟨act, hact⟩ := Int.eq_ofNat_of_zero_le p7
    have g66 := (HT.out hok).2.1
    rw [hact] at g66
    have G66 := Lib.hid g66
    have hPe := (HT.out hok).2.2.1
    have hh : holdsR m xs = P act := by unfold holdsR; rw [hok, hPe, hact]; rfl
    rw [hok] at KT
    have hal : act < 16 := by omega
    clear HT HF hok g66 p7 p8 hact HP
    cases hb : P act with
    | true =>
      have HB := Lib.hid hb
      have HA : Hid (stayP m xs = P) := Lib.hid (by unfold stayP; rw [hh, hb, hPe]; rfl)
      clear hb hh hPe
      go_enter Tryz.func53, Tryz.ntmps53
      go_wp2_with fail
      refine (KT.out _ (by go_grown)).mono ?_
      rintro e w1 ⟨rfl, hb1⟩
      have B1 : Hid (Below w.heap.size w w1) := Lib.hid (Below.trans (by go_grown) (hb1.mono (by simp)))
      clear hb1
      have sb1 : w.heap.size ≤ w1.heap.size := B1.out.size
      have tk6 : True := trivial
      have tk7 : True := trivial
      have tk8 : True := trivial
      have tk9 : True := trivial
      have tk10 : True := trivial
      go_wp2_with
        (first
          | (have _t := tk6; clear _t tk6; refine wpList_allocM rfl 86 rfl (ints (gL 0 0 [] [] 0)) Tryz.allocGrid ?_
             intro w2 hc1 hb1 hs1
             have G1 := Lib.hid hc1
             have B1 := Lib.hid (B1.out.trans (hb1.mono B1.out.size))
             have lt2 : w1.heap.size < w2.heap.size := G1.out.lt
             clear hc1 hb1 hs1)
          | (have _t := tk7; clear _t tk7; refine wpList_allocM rfl 106 rfl (bL (fun _ => false)) Tryz.allocSet ?_
             intro w3 hc1 hb1 hs1
             have Q1 := Lib.hid hc1
             have G1 := Lib.hid (G1.out.all hb1)
             have B1 := Lib.hid (B1.out.trans (hb1.mono B1.out.size))
             have lt3 : w2.heap.size < w3.heap.size := Q1.out.lt
             clear hc1 hb1 hs1)
          | (have _t := tk8; clear _t tk8; refine wpList_storeM rfl 86 (.tmp 5) (.tmp 12) rfl w1.heap.size 0 rfl (ints G) rfl 86 (ints (gL 0 0 [] [] 0)) G1.out (by rw [HLG.out]; exact Nat.le_refl _) (by rw [HLG.out]; exact Tryz.sizeGrid) (fun v hv => ints_one hv) ?_
             intro w4 hc3 ha3
             rw [lay'_all (by rw [HLG.out]; rfl)] at hc3
             have G1 := Lib.hid hc3
             have Q1 := Lib.hid (ha3.cm Q1.out (by omega))
             have B1 : Hid (Below w.heap.size w w4) := Lib.hid (B1.out.trans (ha3.below (by omega)))
             clear hc3 ha3)
          | (have _t := tk9; clear _t tk9; refine wpList_storeM rfl 106 (.tmp 6) (.tmp 13) rfl w2.heap.size 0 rfl (bL P) rfl 106 _ Q1.out (by rw [bL_len, bL_len]; exact Nat.le_refl _) (by rw [bL_len]; exact Tryz.sizeSet) (fun v hv => bL_one hv) ?_
             intro w5 hc3 ha3
             rw [lay'_all (by rw [bL_len, bL_len])] at hc3
             have Q1 := Lib.hid hc3
             have G1 := Lib.hid (ha3.cm G1.out (by omega))
             have B1 : Hid (Below w.heap.size w w5) := Lib.hid (B1.out.trans (ha3.below (by omega)))
             clear hc3 ha3
             have c66 : w5.cell? ⟨w1.heap.size, 66, none⟩ = some (.int .i64 act) := (G1.out.cell 66).trans G66.out
             have cq : w5.cell? ⟨w2.heap.size, act, none⟩ = some (.bool true) := (Q1.out.cell act).trans ((bL_get P hal).trans (by rw [HB.out]))
             have a0 : (0 : Int) ≤ (act : Int) := Int.natCast_nonneg _
             have a16 : (act : Int) < 16 := by omega)
          | (have _t := tk10; clear _t tk10; refine wpList_loadM rfl 106 _ rfl w2.heap.size 0 rfl 106 (bL P) (bL P) Q1.out (fun j _ => by rw [Nat.zero_add]) _ Tryz.underlying106 rfl (by rw [bL_len]; exact Tryz.sizeSet) ?_))
      refine (each_any (P) _).mono ?_
      rintro e w6 ⟨rfl, rfl⟩
      have HN : Hid (Cm (w5.alloc (.cells (bL (P)).toArray 106)) w5.heap.size 106 (bL (P))) := Lib.hid (Cm.new rfl)
      have HB6 : Hid (Below w.heap.size w (w5.alloc (.cells (bL (P)).toArray 106))) := Lib.hid (B1.out.alloc B1.out.size _)
      have sb5 : w.heap.size ≤ w5.heap.size := B1.out.size
      go_wp2
      go_ret
      exact ⟨_, rfl, sb5, by rw [HA.out]; exact HN.out, HB6.out⟩
    | false =>
      have HB := Lib.hid hb
      have HA : Hid (stayP m xs = fun _ => false) := Lib.hid (by unfold stayP; rw [hh, hb]; rfl)
      clear hb hh hPe
      go_enter Tryz.func53, Tryz.ntmps53
      go_wp2_with fail
      refine (KT.out _ (by go_grown)).mono ?_
      rintro e w1 ⟨rfl, hb1⟩
      have B1 : Hid (Below w.heap.size w w1) := Lib.hid (Below.trans (by go_grown) (hb1.mono (by simp)))
      clear hb1
      have sb1 : w.heap.size ≤ w1.heap.size := B1.out.size
      have tk11 : True := trivial
      have tk12 : True := trivial
      have tk13 : True := trivial
      have tk14 : True := trivial
      have tk15 : True := trivial
      go_wp2_with
        (first
          | (have _t := tk11; clear _t tk11; refine wpList_allocM rfl 86 rfl (ints (gL 0 0 [] [] 0)) Tryz.allocGrid ?_
             intro w2 hc1 hb1 hs1
             have G1 := Lib.hid hc1
             have B1 := Lib.hid (B1.out.trans (hb1.mono B1.out.size))
             have lt2 : w1.heap.size < w2.heap.size := G1.out.lt
             clear hc1 hb1 hs1)
          | (have _t := tk12; clear _t tk12; refine wpList_allocM rfl 106 rfl (bL (fun _ => false)) Tryz.allocSet ?_
             intro w3 hc1 hb1 hs1
             have Q1 := Lib.hid hc1
             have G1 := Lib.hid (G1.out.all hb1)
             have B1 := Lib.hid (B1.out.trans (hb1.mono B1.out.size))
             have lt3 : w2.heap.size < w3.heap.size := Q1.out.lt
             clear hc1 hb1 hs1)
          | (have _t := tk13; clear _t tk13; refine wpList_storeM rfl 86 (.tmp 5) (.tmp 12) rfl w1.heap.size 0 rfl (ints G) rfl 86 (ints (gL 0 0 [] [] 0)) G1.out (by rw [HLG.out]; exact Nat.le_refl _) (by rw [HLG.out]; exact Tryz.sizeGrid) (fun v hv => ints_one hv) ?_
             intro w4 hc3 ha3
             rw [lay'_all (by rw [HLG.out]; rfl)] at hc3
             have G1 := Lib.hid hc3
             have Q1 := Lib.hid (ha3.cm Q1.out (by omega))
             have B1 : Hid (Below w.heap.size w w4) := Lib.hid (B1.out.trans (ha3.below (by omega)))
             clear hc3 ha3)
          | (have _t := tk14; clear _t tk14; refine wpList_storeM rfl 106 (.tmp 6) (.tmp 13) rfl w2.heap.size 0 rfl (bL P) rfl 106 _ Q1.out (by rw [bL_len, bL_len]; exact Nat.le_refl _) (by rw [bL_len]; exact Tryz.sizeSet) (fun v hv => bL_one hv) ?_
             intro w5 hc3 ha3
             rw [lay'_all (by rw [bL_len, bL_len])] at hc3
             have Q1 := Lib.hid hc3
             have G1 := Lib.hid (ha3.cm G1.out (by omega))
             have B1 : Hid (Below w.heap.size w w5) := Lib.hid (B1.out.trans (ha3.below (by omega)))
             clear hc3 ha3
             have c66 : w5.cell? ⟨w1.heap.size, 66, none⟩ = some (.int .i64 act) := (G1.out.cell 66).trans G66.out
             have cq : w5.cell? ⟨w2.heap.size, act, none⟩ = some (.bool false) := (Q1.out.cell act).trans ((bL_get P hal).trans (by rw [HB.out]))
             have a0 : (0 : Int) ≤ (act : Int) := Int.natCast_nonneg _
             have a16 : (act : Int) < 16 := by omega)
          | (have _t := tk15; clear _t tk15; refine wpList_buildM rfl 106 _ rfl #[] (by simp) (bL (fun _ => false)) (Tryz.buildSet _) ?_))
      refine (each_any (fun _ => false) _).mono ?_
      rintro e w6 ⟨rfl, rfl⟩
      have HN : Hid (Cm (w5.alloc (.cells (bL (fun _ => false)).toArray 106)) w5.heap.size 106 (bL (fun _ => false))) := Lib.hid (Cm.new rfl)
      have HB6 : Hid (Below w.heap.size w (w5.alloc (.cells (bL (fun _ => false)).toArray 106))) := Lib.hid (B1.out.alloc B1.out.size _)
      have sb5 : w.heap.size ≤ w5.heap.size := B1.out.size
      go_wp2
      go_ret
      exact ⟨_, rfl, sb5, by rw [HA.out]; exact HN.out, HB6.out⟩

end Go.Proofs.YtgmpenchojnihaaGreat
