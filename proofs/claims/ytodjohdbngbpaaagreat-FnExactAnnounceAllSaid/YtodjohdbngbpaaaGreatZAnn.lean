/-
  Several texts in one: Sty Ans Col Ani Nss Aal. Conditions: as each theorem says.
-/
import Derived.Test.YtodjohdbngbpaaaGreatZFen
import Derived.Test.YtodjohdbngbpaaaGreatZSvb
import Derived.Test.YtodjohdbngbpaaaGreatTho
import Derived.Test.YtodjohdbngbpaaaGreatTww
import Derived.Test.YtodjohdbngbpaaaGreatRsp
import Derived.Test.YtodjohdbngbpaaaGreatRmy
import Derived.Test.YtodjohdbngbpaaaGreatRma
import Derived.Test.YtodjohdbngbpaaaGreatZTerm
import Derived.Test.YtodjohdbngbpaaaGreatZLib
import Derived.Test.YtodjohdbngbpaaaGreatZReg
import Derived.Test.YtodjohdbngbpaaaGreatGof
import Derived.Test.YtodjohdbngbpaaaGreatZMok
/-
  staying: the iterator over the worlds that stay when a formula is announced. No condition but the readings.
-/
namespace Go.Proofs.YtodjohdbngbpaaaGreat
open Go.RowKit Go.WideShapes
open Go Go.Deep
set_option linter.unusedSimpArgs false

/-- the worlds that stay when a formula is announced -/
def stayP (m : Md) (xs : List Nd) : Nat → Bool := if holdsR m xs then evP m xs else fun _ => false
/-- an iterator over a set, in new memory -/
def StayAns (w : World) (p : Nat → Bool) (e : Ending) (w' : World) : Prop :=
  ∃ Bn, e = .returned (.func (.func 147) #[] #[.pointer (some ⟨Bn, 0, none⟩)]) ∧ w.heap.size ≤ Bn ∧ Cm w' Bn 89 (bL p) ∧ Below w.heap.size w w'

set_option maxRecDepth 100000 in
set_option maxHeartbeats 16000000 in
theorem staying_any (lo hi : Nat) (v v2 : Value) (m : Md) (xs : List Nd) (w : World) (hr : Mv lo hi w v m) (hhi : hi ≤ w.heap.size) (hr2 : Ns w v2 xs) :
    Calls Tryz.prog 65 #[v, v2] w (StayAns w (stayP m xs)) := by
  obtain ⟨G, P, hl, hT, hF, hK⟩ := truthIn_gen lo hi v v2 m xs w hr hhi hr2
  have HLG := Lib.hid hl
  have KT := Lib.hid hK
  have HT := Lib.hid hT
  have HF := Lib.hid hF
  clear hl hK hT hF
  obtain ⟨fv, bv, rfl, hf, hb⟩ := hr
  obtain ⟨a2, c2, rfl, -⟩ := hr2.parts
  clear hf hb hr2
  cases hok : evOk m xs with
  | false =>
    have HA : Hid (stayP m xs = fun _ => false) := Lib.hid (by unfold stayP holdsR; rw [hok]; rfl)
    rw [hok] at KT
    clear HT HF hok
    go_enter Tryz.func65, Tryz.ntmps65
    go_wp2_with fail
    refine (KT.out _ (by go_grown)).mono ?_
    rintro e w1 ⟨rfl, hb1⟩
    have B1 : Hid (Below w.heap.size w w1) := Lib.hid (Below.trans (by go_grown) (hb1.mono (by simp)))
    clear hb1
    have sb1 : w.heap.size ≤ w1.heap.size := B1.out.size
    have tk1 : True := trivial
    have tk2 : True := trivial
    have tk3 : True := trivial
    have tk4 : True := trivial
    have tk5 : True := trivial
    go_wp2_with
      (first
        | (have _t := tk1; clear _t tk1; refine wpList_allocM rfl 85 rfl (ints (gL 0 0 [] [] 0)) Tryz.allocGrid ?_
           intro w2 hc1 hb1 hs1
           have G1 := Lib.hid hc1
           have B1 := Lib.hid (B1.out.trans (hb1.mono B1.out.size))
           have lt2 : w1.heap.size < w2.heap.size := G1.out.lt
           clear hc1 hb1 hs1)
        | (have _t := tk2; clear _t tk2; refine wpList_allocM rfl 89 rfl (bL (fun _ => false)) Tryz.allocSet ?_
           intro w3 hc1 hb1 hs1
           have Q1 := Lib.hid hc1
           have G1 := Lib.hid (G1.out.all hb1)
           have B1 := Lib.hid (B1.out.trans (hb1.mono B1.out.size))
           have lt3 : w2.heap.size < w3.heap.size := Q1.out.lt
           clear hc1 hb1 hs1)
        | (have _t := tk3; clear _t tk3; refine wpList_storeM rfl 85 (.tmp 5) (.tmp 12) rfl w1.heap.size 0 rfl (ints G) rfl 85 (ints (gL 0 0 [] [] 0)) G1.out (by rw [HLG.out]; exact Nat.le_refl _) (by rw [HLG.out]; exact Tryz.sizeGrid) (fun v hv => ints_one hv) ?_
           intro w4 hc3 ha3
           rw [lay'_all (by rw [HLG.out]; rfl)] at hc3
           have G1 := Lib.hid hc3
           have Q1 := Lib.hid (ha3.cm Q1.out (by omega))
           have B1 : Hid (Below w.heap.size w w4) := Lib.hid (B1.out.trans (ha3.below (by omega)))
           clear hc3 ha3)
        | (have _t := tk4; clear _t tk4; refine wpList_storeM rfl 89 (.tmp 6) (.tmp 13) rfl w2.heap.size 0 rfl (bL P) rfl 89 _ Q1.out (by rw [bL_len, bL_len]; exact Nat.le_refl _) (by rw [bL_len]; exact Tryz.sizeSet) (fun v hv => bL_one hv) ?_
           intro w5 hc3 ha3
           rw [lay'_all (by rw [bL_len, bL_len])] at hc3
           have Q1 := Lib.hid hc3
           have G1 := Lib.hid (ha3.cm G1.out (by omega))
           have B1 : Hid (Below w.heap.size w w5) := Lib.hid (B1.out.trans (ha3.below (by omega)))
           clear hc3 ha3)
        | (have _t := tk5; clear _t tk5; refine wpList_buildM rfl 89 _ rfl #[] (by simp) (bL (fun _ => false)) (Tryz.buildSet _) ?_))
    refine (each_any (fun _ => false) _).mono ?_
    rintro e w6 ⟨rfl, rfl⟩
    have HN : Hid (Cm (w5.alloc (.cells (bL (fun _ => false)).toArray 89)) w5.heap.size 89 (bL (fun _ => false))) := Lib.hid (Cm.new rfl)
    have HB6 : Hid (Below w.heap.size w (w5.alloc (.cells (bL (fun _ => false)).toArray 89))) := Lib.hid (B1.out.alloc B1.out.size _)
    have sb5 : w.heap.size ≤ w5.heap.size := B1.out.size
    go_wp2
    go_ret
    exact ⟨_, rfl, sb5, by rw [HA.out]; exact HN.out, HB6.out⟩
  | true =>
    have HP := ok_len hok
    obtain ⟨-, -, -, -, -, -, p7, p8⟩ := mdOk_parts (evOk_parts hok).1
    obtain ⟨act, hact⟩ := Int.eq_ofNat_of_zero_le p7
    have g66 := (HT.out hok).2.1
    rw [hact] at g66
    have G66 := Lib.hid g66
    have hPe := (HT.out hok).2.2.1
    have hh : holdsR m xs = P act := by unfold holdsR; rw [hok, hPe, hact]; rfl
    rw [hok] at KT
    have hal : act < 16 := by omega
    clear HT HF hok g66 p7 p8 hact HP
    cases hb : P act with
    | true =>
      have HB := Lib.hid hb
      have HA : Hid (stayP m xs = P) := Lib.hid (by unfold stayP; rw [hh, hb, hPe]; rfl)
      clear hb hh hPe
      go_enter Tryz.func65, Tryz.ntmps65
      go_wp2_with fail
      refine (KT.out _ (by go_grown)).mono ?_
      rintro e w1 ⟨rfl, hb1⟩
      have B1 : Hid (Below w.heap.size w w1) := Lib.hid (Below.trans (by go_grown) (hb1.mono (by simp)))
      clear hb1
      have sb1 : w.heap.size ≤ w1.heap.size := B1.out.size
      have tk6 : True := trivial
      have tk7 : True := trivial
      have tk8 : True := trivial
      have tk9 : True := trivial
      have tk10 : True := trivial
      go_wp2_with
        (first
          | (have _t := tk6; clear _t tk6; refine wpList_allocM rfl 85 rfl (ints (gL 0 0 [] [] 0)) Tryz.allocGrid ?_
             intro w2 hc1 hb1 hs1
             have G1 := Lib.hid hc1
             have B1 := Lib.hid (B1.out.trans (hb1.mono B1.out.size))
             have lt2 : w1.heap.size < w2.heap.size := G1.out.lt
             clear hc1 hb1 hs1)
          | (have _t := tk7; clear _t tk7; refine wpList_allocM rfl 89 rfl (bL (fun _ => false)) Tryz.allocSet ?_
             intro w3 hc1 hb1 hs1
             have Q1 := Lib.hid hc1
             have G1 := Lib.hid (G1.out.all hb1)
             have B1 := Lib.hid (B1.out.trans (hb1.mono B1.out.size))
             have lt3 : w2.heap.size < w3.heap.size := Q1.out.lt
             clear hc1 hb1 hs1)
          | (have _t := tk8; clear _t tk8; refine wpList_storeM rfl 85 (.tmp 5) (.tmp 12) rfl w1.heap.size 0 rfl (ints G) rfl 85 (ints (gL 0 0 [] [] 0)) G1.out (by rw [HLG.out]; exact Nat.le_refl _) (by rw [HLG.out]; exact Tryz.sizeGrid) (fun v hv => ints_one hv) ?_
             intro w4 hc3 ha3
             rw [lay'_all (by rw [HLG.out]; rfl)] at hc3
             have G1 := Lib.hid hc3
             have Q1 := Lib.hid (ha3.cm Q1.out (by omega))
             have B1 : Hid (Below w.heap.size w w4) := Lib.hid (B1.out.trans (ha3.below (by omega)))
             clear hc3 ha3)
          | (have _t := tk9; clear _t tk9; refine wpList_storeM rfl 89 (.tmp 6) (.tmp 13) rfl w2.heap.size 0 rfl (bL P) rfl 89 _ Q1.out (by rw [bL_len, bL_len]; exact Nat.le_refl _) (by rw [bL_len]; exact Tryz.sizeSet) (fun v hv => bL_one hv) ?_
             intro w5 hc3 ha3
             rw [lay'_all (by rw [bL_len, bL_len])] at hc3
             have Q1 := Lib.hid hc3
             have G1 := Lib.hid (ha3.cm G1.out (by omega))
             have B1 : Hid (Below w.heap.size w w5) := Lib.hid (B1.out.trans (ha3.below (by omega)))
             clear hc3 ha3
             have c66 : w5.cell? ⟨w1.heap.size, 66, none⟩ = some (.int .i64 act) := (G1.out.cell 66).trans G66.out
             have cq : w5.cell? ⟨w2.heap.size, act, none⟩ = some (.bool true) := (Q1.out.cell act).trans ((bL_get P hal).trans (by rw [HB.out]))
             have a0 : (0 : Int) ≤ (act : Int) := Int.natCast_nonneg _
             have a16 : (act : Int) < 16 := by omega)
          | (have _t := tk10; clear _t tk10; refine wpList_loadM rfl 89 _ rfl w2.heap.size 0 rfl 89 (bL P) (bL P) Q1.out (fun j _ => by rw [Nat.zero_add]) _ Tryz.underlying89 rfl (by rw [bL_len]; exact Tryz.sizeSet) ?_))
      refine (each_any (P) _).mono ?_
      rintro e w6 ⟨rfl, rfl⟩
      have HN : Hid (Cm (w5.alloc (.cells (bL (P)).toArray 89)) w5.heap.size 89 (bL (P))) := Lib.hid (Cm.new rfl)
      have HB6 : Hid (Below w.heap.size w (w5.alloc (.cells (bL (P)).toArray 89))) := Lib.hid (B1.out.alloc B1.out.size _)
      have sb5 : w.heap.size ≤ w5.heap.size := B1.out.size
      go_wp2
      go_ret
      exact ⟨_, rfl, sb5, by rw [HA.out]; exact HN.out, HB6.out⟩
    | false =>
      have HB := Lib.hid hb
      have HA : Hid (stayP m xs = fun _ => false) := Lib.hid (by unfold stayP; rw [hh, hb]; rfl)
      clear hb hh hPe
      go_enter Tryz.func65, Tryz.ntmps65
      go_wp2_with fail
      refine (KT.out _ (by go_grown)).mono ?_
      rintro e w1 ⟨rfl, hb1⟩
      have B1 : Hid (Below w.heap.size w w1) := Lib.hid (Below.trans (by go_grown) (hb1.mono (by simp)))
      clear hb1
      have sb1 : w.heap.size ≤ w1.heap.size := B1.out.size
      have tk11 : True := trivial
      have tk12 : True := trivial
      have tk13 : True := trivial
      have tk14 : True := trivial
      have tk15 : True := trivial
      go_wp2_with
        (first
          | (have _t := tk11; clear _t tk11; refine wpList_allocM rfl 85 rfl (ints (gL 0 0 [] [] 0)) Tryz.allocGrid ?_
             intro w2 hc1 hb1 hs1
             have G1 := Lib.hid hc1
             have B1 := Lib.hid (B1.out.trans (hb1.mono B1.out.size))
             have lt2 : w1.heap.size < w2.heap.size := G1.out.lt
             clear hc1 hb1 hs1)
          | (have _t := tk12; clear _t tk12; refine wpList_allocM rfl 89 rfl (bL (fun _ => false)) Tryz.allocSet ?_
             intro w3 hc1 hb1 hs1
             have Q1 := Lib.hid hc1
             have G1 := Lib.hid (G1.out.all hb1)
             have B1 := Lib.hid (B1.out.trans (hb1.mono B1.out.size))
             have lt3 : w2.heap.size < w3.heap.size := Q1.out.lt
             clear hc1 hb1 hs1)
          | (have _t := tk13; clear _t tk13; refine wpList_storeM rfl 85 (.tmp 5) (.tmp 12) rfl w1.heap.size 0 rfl (ints G) rfl 85 (ints (gL 0 0 [] [] 0)) G1.out (by rw [HLG.out]; exact Nat.le_refl _) (by rw [HLG.out]; exact Tryz.sizeGrid) (fun v hv => ints_one hv) ?_
             intro w4 hc3 ha3
             rw [lay'_all (by rw [HLG.out]; rfl)] at hc3
             have G1 := Lib.hid hc3
             have Q1 := Lib.hid (ha3.cm Q1.out (by omega))
             have B1 : Hid (Below w.heap.size w w4) := Lib.hid (B1.out.trans (ha3.below (by omega)))
             clear hc3 ha3)
          | (have _t := tk14; clear _t tk14; refine wpList_storeM rfl 89 (.tmp 6) (.tmp 13) rfl w2.heap.size 0 rfl (bL P) rfl 89 _ Q1.out (by rw [bL_len, bL_len]; exact Nat.le_refl _) (by rw [bL_len]; exact Tryz.sizeSet) (fun v hv => bL_one hv) ?_
             intro w5 hc3 ha3
             rw [lay'_all (by rw [bL_len, bL_len])] at hc3
             have Q1 := Lib.hid hc3
             have G1 := Lib.hid (ha3.cm G1.out (by omega))
             have B1 : Hid (Below w.heap.size w w5) := Lib.hid (B1.out.trans (ha3.below (by omega)))
             clear hc3 ha3
             have c66 : w5.cell? ⟨w1.heap.size, 66, none⟩ = some (.int .i64 act) := (G1.out.cell 66).trans G66.out
             have cq : w5.cell? ⟨w2.heap.size, act, none⟩ = some (.bool false) := (Q1.out.cell act).trans ((bL_get P hal).trans (by rw [HB.out]))
             have a0 : (0 : Int) ≤ (act : Int) := Int.natCast_nonneg _
             have a16 : (act : Int) < 16 := by omega)
          | (have _t := tk15; clear _t tk15; refine wpList_buildM rfl 89 _ rfl #[] (by simp) (bL (fun _ => false)) (Tryz.buildSet _) ?_))
      refine (each_any (fun _ => false) _).mono ?_
      rintro e w6 ⟨rfl, rfl⟩
      have HN : Hid (Cm (w5.alloc (.cells (bL (fun _ => false)).toArray 89)) w5.heap.size 89 (bL (fun _ => false))) := Lib.hid (Cm.new rfl)
      have HB6 : Hid (Below w.heap.size w (w5.alloc (.cells (bL (fun _ => false)).toArray 89))) := Lib.hid (B1.out.alloc B1.out.size _)
      have sb5 : w.heap.size ≤ w5.heap.size := B1.out.size
      go_wp2
      go_ret
      exact ⟨_, rfl, sb5, by rw [HA.out]; exact HN.out, HB6.out⟩

end Go.Proofs.YtodjohdbngbpaaaGreat

/-
  spec.Announce: the model of the worlds in which a formula is true. No condition but the readings.
-/
namespace Go.Proofs.YtodjohdbngbpaaaGreat
open Go.RowKit Go.WideShapes
open Go Go.Deep
set_option linter.unusedSimpArgs false

/-- what Announce answers -/
def annR (m : Md) (xs : List Nd) : Option Md := if holdsR m xs then some (restM m (lst (evP m xs) 16)) else none
theorem holds_ok {m : Md} {xs : List Nd} (h : holdsR m xs = true) : evOk m xs = true ∧ evP m xs m.actual.toNat = true := by
  unfold holdsR at h; rw [Bool.and_eq_true] at h; exact h
theorem ann_fits {m : Md} {xs : List Nd} (h : holdsR m xs = true) : fits (restM m (lst (evP m xs) 16)) := rest_fits (evOk_parts (holds_ok h).1).1 _ (lst_len _ _)
theorem ann_size (m : Md) (xs : List Nd) : msize ((annR m xs).getD ⟨[], [], 0⟩) + ((annR m xs).getD ⟨[], [], 0⟩).blocks.length ≤ 1048576 := by
  unfold annR
  split
  · rename_i h; exact fits_size (ann_fits h)
  · decide

theorem at_keeps {b lo hi : Nat} {w w' : World} (h : At b w w') (ha : b < lo ∨ hi ≤ b) : Keeps lo hi w w' := ⟨Nat.le_of_eq h.size.symm, fun k h1 h2 _ => h.block k (by omega)⟩

set_option maxRecDepth 100000 in
set_option maxHeartbeats 16000000 in
theorem specAnn_any (lo hi : Nat) (v v2 : Value) (m : Md) (xs : List Nd) (w : World) (hr : Mv lo hi w v m) (hhi : hi ≤ w.heap.size) (hr2 : Ns w v2 xs) :
    Calls Tryz.prog 34 #[v, v2] w (MdAns2 w (annR m xs)) := by
  have KH := Lib.hid (fun W (h : Below w.heap.size w W) => specHolds_any lo hi v v2 m xs W (hr.keeps (Keeps.of_all h)) (Nat.le_trans hhi h.size) (hr2.below h (Nat.le_refl _)))
  have KW := Lib.hid (fun W (h : Below w.heap.size w W) => specWhere_any lo hi v v2 m xs W (hr.keeps (Keeps.of_all h)) (Nat.le_trans hhi h.size) (hr2.below h (Nat.le_refl _)))
  cases hok : holdsR m xs with
  | false =>
    rw [hok] at KH
    have HA : Hid (annR m xs = none) := Lib.hid (by unfold annR; rw [hok]; rfl)
    clear KW hok
    obtain ⟨fv, bv, rfl, hf, hb⟩ := hr
    obtain ⟨a2, c2, rfl, -⟩ := hr2.parts
    clear hf hb hr2
    go_enter Tryz.func34, Tryz.ntmps34
    go_wp2_with fail
    refine (KH.out _ (by go_grown)).mono ?_
    rintro e w1 ⟨rfl, hb1⟩
    have M1 := Lib.hid (Mcell.below (b := w.heap.size + 1) (Mcell.new (by simp)) hb1)
    have B1 : Hid (Below w.heap.size w w1) := Lib.hid (Below.trans (by go_grown) (hb1.mono (by simp; omega)))
    clear hb1
    obtain ⟨mc0, mc1, mc2, mc3, mc4, mc5⟩ := M1.out
    go_wp2
    clear mc0 mc1 mc2 mc3 mc4 mc5
    have M6 := M1.out.write (.slice none 0 0) (.slice none 0 0) 0
    refine bodyPost_ret (results_mid2 Tryz.results34 _ _ (w.heap.size + 1) _ _ (.bool false) rfl rfl M6.range Tryz.underlying26 rfl Tryz.sizeMd) rfl ?_
    rw [HA.out]
    exact ⟨_, rfl, Mo.none _ _ _, ((B1.out.setCell (by show _ ≤ w.heap.size + 1; omega) _).setCell (by show _ ≤ w.heap.size + 1; omega) _).setCell (by show _ ≤ w.heap.size + 1; omega) _⟩
  | true =>
    rw [hok] at KH
    have hev := holds_ok hok
    have hmd := (evOk_parts hev.1).1
    have HA : Hid (annR m xs = some (restM m (lst (evP m xs) 16))) := Lib.hid (by unfold annR; rw [hok]; rfl)
    have KR := Lib.hid (fun W (h : Below w.heap.size w W) lo2 hi2 v4 (h4 : Iv lo2 hi2 W v4 (nums (lst (evP m xs) 16))) => specRestr_any lo hi lo2 hi2 v v4 m (lst (evP m xs) 16) W (hr.keeps (Keeps.of_all h)) h4 hmd
      (fun k hk => evP_in hev.1 (mem_lst.1 (List.getElem_mem hk)).2) (lst_nodup _ _) (lst_len _ _))
    have HWR : Hid (whereR m xs = nums (lst (evP m xs) 16)) := Lib.hid (by unfold whereR; rw [if_pos hev.1])
    rw [HWR.out] at KW
    clear HWR
    generalize restM m (lst (evP m xs) 16) = RM at *
    generalize nums (lst (evP m xs) 16) = ws at *
    clear hok hev hmd
    obtain ⟨fv, bv, rfl, hf, hb⟩ := hr
    obtain ⟨a2, c2, rfl, -⟩ := hr2.parts
    clear hf hb hr2
    go_enter Tryz.func34, Tryz.ntmps34
    go_wp2_with fail
    have X1 := Lib.hid (Mcell.alloc (Mcell.new (w := w) (T := 26) (b := w.heap.size) (fv := fv) (bv := bv) (n := m.actual) rfl) (.cells #[.slice none 0 0, .slice none 0 0, .int .i64 0] 26))
    have C1 : Cm ((w.alloc (.cells #[fv, bv, .int .i64 m.actual] 26)).alloc (.cells #[.slice none 0 0, .slice none 0 0, .int .i64 0] 26)) (w.heap.size + 1) 26 [.slice none 0 0, .slice none 0 0, .int .i64 0] := Cm.new (by simp)
    have hb0 : Below w.heap.size w ((w.alloc (.cells #[fv, bv, .int .i64 m.actual] 26)).alloc (.cells #[.slice none 0 0, .slice none 0 0, .int .i64 0] 26)) := by go_grown
    generalize (w.alloc (.cells #[fv, bv, .int .i64 m.actual] 26)).alloc (.cells #[.slice none 0 0, .slice none 0 0, .int .i64 0] 26) = w0 at *
    refine (KH.out _ hb0).mono ?_
    rintro e w1 ⟨rfl, hb1⟩
    have X1 := Lib.hid (X1.out.below hb1)
    have C1 := Lib.hid (C1.all hb1)
    have B1 := Lib.hid (hb0.trans (hb1.mono hb0.size))
    have lt1 : w.heap.size + 1 < w1.heap.size := C1.out.lt
    clear hb1 hb0
    go_wp2
    have HRG : Hid (∀ W, Below (w.heap.size + 1) w1 W → W.rangeAt w.heap.size 0 [fv, bv, .int .i64 m.actual]) := Lib.hid (fun W h => (X1.out.of_block (h.block _ (by omega))).range)
    have HU : Tryz.prog.underlying 26 = some _ := Tryz.underlying26
    refine regionL (fun W => Below (w.heap.size + 1) w1 W) [] (by kernel_rfl) (Below.refl _ _).drew (fun hHeld => ?_)
    have t1 : Below w1.heap.size w1 w1.drew := (Below.refl _ _).drew
    refine takeA (i := 0) (v := .agg #[fv, bv, .int .i64 m.actual]) 11 rfl rfl (by kernel_rfl) (by kernel_rfl) (by kernel_rfl) (by kernel_rfl) (fun _ _ _ h => h) (yieldsIf_load_mid (by rfl) 26 _ rfl w.heap.size 0 rfl [fv, bv, .int .i64 m.actual] _ HRG.out HU rfl Tryz.sizeMd) hHeld ?_
    simp only [Act.put, List.setIfInBounds_toArray, List.set_cons_zero, List.set_cons_succ]
    refine takeA (i := 1) (v := .agg #[fv, bv, .int .i64 m.actual]) 12 rfl rfl (by kernel_rfl) (by kernel_rfl) (by kernel_rfl) (by kernel_rfl) (fun _ _ _ h => h) (yieldsIf_load_mid (by rfl) 26 _ rfl w.heap.size 0 rfl [fv, bv, .int .i64 m.actual] _ HRG.out HU rfl Tryz.sizeMd) hHeld ?_
    simp only [Act.put, List.setIfInBounds_toArray, List.set_cons_zero, List.set_cons_succ]
    refine takeA (i := 2) (v := (.slice a2 xs.length c2)) 13 rfl rfl (by kernel_rfl) (by kernel_rfl) (by kernel_rfl) (by kernel_rfl) (fun _ _ _ h => h) (Or.inl ⟨by rfl, by intro W hSw; go_simp⟩) hHeld ?_
    simp only [Act.put, List.setIfInBounds_toArray, List.set_cons_zero, List.set_cons_succ]
    refine onlyL (i := 3) (by kernel_rfl) rfl (by rfl) (fun K hK => ?_)
    go_simp
    refine (KW.out _ (B1.out.trans (t1.mono B1.out.size))).mono ?_
    rintro e w2 ⟨v4, rfl, ho, hb⟩
    have t2 : Below w1.heap.size w1 w2 := t1.trans (hb.mono t1.size)
    have HO := Lib.hid ho.read
    clear hb hHeld ho
    refine hK.out _ _ (fun _ => t2.mono (by omega)) (fun hHeld => ?_)
    have hHeld := hHeld (by decide)
    clear hK K
    try simp only [Act.put, List.setIfInBounds_toArray, List.set_cons_zero, List.set_cons_succ]
    refine onlyL (i := 4) (by kernel_rfl) rfl (by rfl) (fun K hK => ?_)
    go_simp
    refine (KR.out _ (B1.out.trans (t2.mono B1.out.size)) _ _ _ HO.out).mono ?_
    rintro e w3 ⟨v3, rfl, ho3, hb3⟩
    have t3 : Below w1.heap.size w1 w3 := t2.trans (hb3.mono t2.size)
    obtain ⟨qa, qc, pa, pc, e3⟩ := ho3.read.form
    subst e3
    have O3 := Lib.hid ho3
    clear hb3 hHeld ho3
    refine hK.out _ _ (fun _ => t3.mono (by omega)) (fun hHeld => ?_)
    have hHeld := hHeld (by decide)
    clear hK K
    try simp only [Act.put, List.setIfInBounds_toArray, List.set_cons_zero, List.set_cons_succ]
    refine onlyL (i := 5) (by kernel_rfl) rfl (by rfl) (fun K hK => ?_)
    refine wp_storeM 26 (.tmp 4) (.tmp 15) rfl rfl (w.heap.size + 1) 0 rfl [.slice qa RM.facts.length qc, .slice pa RM.blocks.length pc, .int .i64 RM.actual] rfl 26 _ (C1.out.all t3) (by simp) Tryz.sizeMd (by simp [Value.oneCell']) ?_
    intro w4 hc4 ha4
    rw [lay'_all (by rfl)] at hc4
    have C4 := Lib.hid hc4
    have O4 := Lib.hid (O3.out.keeps (at_keeps ha4 (.inl (by have := t2.size; omega))))
    have hz4 : w3.heap.size = w4.heap.size := ha4.size.symm
    have B4 : Hid (Below w.heap.size w w4) := Lib.hid ((B1.out.trans (t3.mono B1.out.size)).trans (ha4.below (by omega)))
    have t4 : Below (w.heap.size + 1) w1 w4 := (t3.mono (by omega)).trans (ha4.below (Nat.le_refl _))
    have z2 := t2.size
    clear hc4 ha4 hHeld
    refine hK.out _ _ (fun _ => t4) (fun hHeld => ?_)
    have hHeld := hHeld (by decide)
    clear hK K
    try simp only [Act.put, List.setIfInBounds_toArray, List.set_cons_zero, List.set_cons_succ]
    refine takeA (i := 6) (v := (.bool true)) 5 rfl rfl (by kernel_rfl) (by kernel_rfl) (by kernel_rfl) (by kernel_rfl) (fun _ _ _ h => h) (Or.inl ⟨by rfl, by intro W hSw; go_simp⟩) hHeld ?_
    simp only [Act.put, List.setIfInBounds_toArray, List.set_cons_zero, List.set_cons_succ]
    refine doneL (by kernel_rfl) ?_ _
    go_wp2
    refine bodyPost_ret (results_mid2 Tryz.results34 _ _ (w.heap.size + 1) _ _ (.bool true) rfl rfl C4.out.whole Tryz.underlying26 rfl Tryz.sizeMd) rfl ?_
    rw [HA.out]
    exact ⟨_, rfl, O4.out.wide (by omega) (by omega), B4.out⟩
end Go.Proofs.YtodjohdbngbpaaaGreat

/-
  slices.Collect over the iterator of a set of worlds. No condition but that its box holds the set.
-/
namespace Go.Proofs.YtodjohdbngbpaaaGreat
open Go.RowKit Go.WideShapes Go.Shelf
open Go Go.Deep
set_option linter.unusedSimpArgs false
attribute [local go_sem] Oper.semAt_some

/-- the numbers of worlds that have come -/
def valsI (pre : List (Fin 16)) : List Value := pre.map fun x => Value.int .i64 ((x.val : Nat) : Int)
theorem valsI_len (pre : List (Fin 16)) : (valsI pre).length = pre.length := by simp [valsI]
theorem valsI_app (pre : List (Fin 16)) (x : Fin 16) : valsI (pre ++ [x]) = valsI pre ++ [.int .i64 ((x.val : Nat) : Int)] := by simp [valsI]
theorem valsI_ints {pre : List (Fin 16)} {l : List Nat} (h : pre.map Fin.val = l) : valsI pre = ints (nums l) := by
  subst h
  unfold valsI ints nums
  rw [List.map_map, List.map_map]; rfl

set_option maxRecDepth 100000 in
set_option maxHeartbeats 16000000 in
theorem append_any (Bn : Nat) (p : Nat → Bool) (w : World) (hc : Cm w Bn 89 (bL p)) :
    Calls Tryz.prog 115 #[.slice none 0 0, .func (.func 147) #[] #[.pointer (some ⟨Bn, 0, none⟩)]] w (IntsAns w (nums (lst p 16))) := by
  obtain ⟨i0, hi, hz0, hz1, hz2⟩ := info_parts Tryz.infoI
  refine (callsIn_wide (n := 3)).1 ?_
  refine callsIn_of_wp_marks Tryz.func115 rfl trivial ?_ rfl
  simp only [Tryz.ntmps115, List.size_toArray, List.length_cons, List.length_nil, Nat.reduceAdd, Nat.reduceSub, Array.replicate_succ, Array.replicate_zero, List.push_toArray, List.append_toArray, List.nil_append, List.cons_append]
  gi_wp2
  have bO := Boxed.new w 23 (.slice none 0 0)
  have hB0 : Below w.heap.size w (w.alloc (.cells #[.slice none 0 0] 23)) := (Below.refl _ w).alloc (Nat.le_refl _) _
  have hC0 : Cm (w.alloc (.cells #[.slice none 0 0] 23)) Bn 89 (bL p) := hc.alloc _
  refine wpIn_rangeFunc_ownG rfl (by omega) (gf := 147) (lb := #[.pointer (some ⟨Bn, 0, none⟩)]) rfl trivial (enters_of Tryz.func147 (by kernel_rfl) rfl)
    (each_stops 2 (by omega) Bn p (fun _ _ => True) _ hC0) (fun _ _ => trivial) (fun _ _ _ _ _ _ _ _ => trivial) (Below.refl _ _) (fun _ => rfl)
    (fun pre W => (∃ v, Boxed W w.heap.size 23 v ∧ W.ownsRow w.heap.size 3 1 v (valsI pre).length (valsI pre) ∧ True) ∧ Below w.heap.size w W)
    (fun _ _ _ => False)
    (OwnFrom.and (Own.from (holdsRow_own w.heap.size w.heap.size 23 3 1 (fun pre => (valsI pre).length) (fun pre => valsI pre) (fun pre v => True)) _) (ownFrom_below (Nat.le_refl _) (by simp)))
    (fun _ _ _ _ _ hs _ _ => hs)
    ⟨⟨_, bO, World.ownsRow_nil _ _ _ _, trivial⟩, hB0⟩
    (fun x => { tmps := #[.slice none 0 0, .func (.func 147) #[] #[.pointer (some ⟨Bn, 0, none⟩)], .pointer (some ⟨w.heap.size, 0, none⟩), undef, .slice none 0 0, .int .i64 ((x.val : Nat) : Int), .func (.func 147) #[] #[.pointer (some ⟨Bn, 0, none⟩)], .int .i64 ((x.val : Nat) : Int), undef, undef, undef, undef, undef], defers := [] }) ?assign ?body ?done ?stop
  case assign =>
    intro l x W K hK
    gi_wp2
    exact hK
  case body =>
    rintro l pre x W ⟨⟨v, hv, hrow, -⟩, hB⟩ hlt
    have hc := hv.cell
    have hpl : (valsI pre).length < 16 := by rw [valsI_len]; exact hlt
    gi_wp2_with (gi_at_builtin; refine wpListIn_append_own _ rfl _ _ 23 rfl w.heap.size 3 i0 (.int .i64 0) 1 8 Tryz.underlying23 hi hz0 hz1 hz2 rfl (by decide) _ _ _ rfl (hrow.alloc _) ⟨W.heap.size, 0, none⟩ 1 1 [.int .i64 ((x.val : Nat) : Int)] rfl rfl (cell_one_new _ _ _) (by simp [Value.oneCell']) (by unfold maxLen; omega) (by omega) (by have := hB.size; simp; omega) ?_; intro v' w1 hown' hgrow _; obtain ⟨g', cap', rfl⟩ := ownsRow_succ hown'; obtain ⟨hv1, hv2, hr2, hk2, hb2⟩ := hv.appended (by decide) hrow hB.size (Nat.le_refl _) hown' hgrow; have hc1 := hv1.cell; have hf1 := hv1.frozen)
    exact ⟨hk2.from _, trivial, ⟨_, hv2, by rw [valsI_app]; simpa using hr2, trivial⟩, hB.trans hb2⟩
  case done =>
    rintro D ys W hD hys ⟨⟨v, hv, hrow, -⟩, hB⟩ hK
    have hc := hv.cell
    rw [valsI_ints hys] at hrow
    gi_wp2
    refine ⟨by simp, .inl ⟨_, _, rfl, run_takeDeferred hK, ?_⟩⟩
    exact ⟨_, results_tmp rfl _ _ _, v, rfl, Ro.of_own (ownsRow_putObj hrow _ hK rfl), hB.trans (belowK_b (w := w) (Nat.le_refl _) W D _ _ (by simp at hD; omega) hK rfl rfl)⟩
  case stop =>
    rintro D c pre W _ _ h _
    exact h.elim

theorem collect_any (Bn : Nat) (p : Nat → Bool) (w : World) (hc : Cm w Bn 89 (bL p)) :
    Calls Tryz.prog 64 #[.func (.func 147) #[] #[.pointer (some ⟨Bn, 0, none⟩)]] w (IntsAns w (nums (lst p 16))) := by
  have KA := Lib.hid (append_any Bn p w hc)
  clear hc
  generalize nums (lst p 16) = l at *
  go_enter Tryz.func64, Tryz.ntmps64
  go_wp2_with fail
  refine KA.out.mono ?_
  rintro e w1 ⟨v1, rfl, ho, hb⟩
  have HO := Lib.hid ho
  have HB := Lib.hid hb
  clear ho hb
  go_wp2
  go_ret
  exact ⟨v1, rfl, HO.out, HB.out⟩
end Go.Proofs.YtodjohdbngbpaaaGreat

/-
  impl.Announce: the model of the worlds in which a formula is true. No condition but the readings.
-/
namespace Go.Proofs.YtodjohdbngbpaaaGreat
open Go.RowKit Go.WideShapes
open Go Go.Deep
set_option linter.unusedSimpArgs false

/-- the worlds that stay make the model that Announce answers -/
theorem restr_stay (m : Md) (xs : List Nd) : restrR m (nums (lst (stayP m xs) 16)) = annR m xs := by
  unfold annR stayP
  cases h : holdsR m xs with
  | true =>
    have hev := holds_ok h
    rw [if_pos rfl, if_pos rfl]
    exact restr_lst (evOk_parts hev.1).1 (fun i hi => evP_in hev.1 hi) hev.2
  | false =>
    rw [if_neg (by decide), if_neg (by decide)]
    have : nums (lst (fun _ => false) 16) = [] := rfl
    rw [this]
    unfold restrR
    simp

set_option maxRecDepth 100000 in
set_option maxHeartbeats 16000000 in
theorem implAnn_any (lo hi : Nat) (v v2 : Value) (m : Md) (xs : List Nd) (w : World) (hr : Mv lo hi w v m) (hhi : hi ≤ w.heap.size) (hr2 : Ns w v2 xs) :
    Calls Tryz.prog 23 #[v, v2] w (MdAns2 w (annR m xs)) := by
  have KS := Lib.hid (fun W (h : Below w.heap.size w W) => staying_any lo hi v v2 m xs W (hr.keeps (Keeps.of_all h)) (Nat.le_trans hhi h.size) (hr2.below h (Nat.le_refl _)))
  have KC := Lib.hid (fun Bn W (h : Cm W Bn 89 (bL (stayP m xs))) => collect_any Bn (stayP m xs) W h)
  have hlen : (nums (lst (stayP m xs) 16)).length ≤ 1048576 := by rw [nums_len]; have := lst_len (stayP m xs) 16; omega
  have KR := Lib.hid (fun W (h : Below w.heap.size w W) lo2 hi2 v4 (h4 : Iv lo2 hi2 W v4 (nums (lst (stayP m xs) 16))) => implRestr_any lo hi lo2 hi2 v v4 m (nums (lst (stayP m xs) 16)) W (hr.keeps (Keeps.of_all h)) (Nat.le_trans hhi h.size) h4 hlen)
  rw [restr_stay] at KR
  clear hlen
  generalize annR m xs = R at *
  generalize nums (lst (stayP m xs) 16) = ws at *
  generalize stayP m xs = p at *
  unfold MdAns2 at KR ⊢
  generalize R.getD ⟨[], [], 0⟩ = RM at *
  generalize R.isSome = ok at *
  obtain ⟨fv, bv, rfl, hf, hb⟩ := hr
  obtain ⟨a2, c2, rfl, -⟩ := hr2.parts
  clear hf hb hr2
  go_enter Tryz.func23, Tryz.ntmps23
  go_wp2
  have X1 := Lib.hid (Mcell.alloc (Mcell.new (w := w) (T := 26) (b := w.heap.size) (fv := fv) (bv := bv) (n := m.actual) rfl) (.cells #[.slice none 0 0, .slice none 0 0, .int .i64 0] 26))
  have C1 : Cm ((w.alloc (.cells #[fv, bv, .int .i64 m.actual] 26)).alloc (.cells #[.slice none 0 0, .slice none 0 0, .int .i64 0] 26)) (w.heap.size + 1) 26 [.slice none 0 0, .slice none 0 0, .int .i64 0] := Cm.new (by simp)
  have hb0 : Below w.heap.size w ((w.alloc (.cells #[fv, bv, .int .i64 m.actual] 26)).alloc (.cells #[.slice none 0 0, .slice none 0 0, .int .i64 0] 26)) := by go_grown
  generalize (w.alloc (.cells #[fv, bv, .int .i64 m.actual] 26)).alloc (.cells #[.slice none 0 0, .slice none 0 0, .int .i64 0] 26) = w1 at *
  have B1 := Lib.hid hb0
  have lt1 : w.heap.size + 1 < w1.heap.size := C1.lt
  clear hb0
  have HRG : Hid (∀ W, Below (w.heap.size + 1) w1 W → W.rangeAt w.heap.size 0 [fv, bv, .int .i64 m.actual]) := Lib.hid (fun W h => (X1.out.of_block (h.block _ (by omega))).range)
  have HU : Tryz.prog.underlying 26 = some _ := Tryz.underlying26
  refine regionL (fun W => Below (w.heap.size + 1) w1 W) [] (by kernel_rfl) (Below.refl _ _).drew (fun hHeld => ?_)
  have t1 : Below w1.heap.size w1 w1.drew := (Below.refl _ _).drew
  refine takeA (i := 0) (v := .agg #[fv, bv, .int .i64 m.actual]) 6 rfl rfl (by kernel_rfl) (by kernel_rfl) (by kernel_rfl) (by kernel_rfl) (fun _ _ _ h => h) (yieldsIf_load_mid (by rfl) 26 _ rfl w.heap.size 0 rfl [fv, bv, .int .i64 m.actual] _ HRG.out HU rfl Tryz.sizeMd) hHeld ?_
  simp only [Act.put, List.setIfInBounds_toArray, List.set_cons_zero, List.set_cons_succ]
  refine takeA (i := 1) (v := .agg #[fv, bv, .int .i64 m.actual]) 7 rfl rfl (by kernel_rfl) (by kernel_rfl) (by kernel_rfl) (by kernel_rfl) (fun _ _ _ h => h) (yieldsIf_load_mid (by rfl) 26 _ rfl w.heap.size 0 rfl [fv, bv, .int .i64 m.actual] _ HRG.out HU rfl Tryz.sizeMd) hHeld ?_
  simp only [Act.put, List.setIfInBounds_toArray, List.set_cons_zero, List.set_cons_succ]
  refine takeA (i := 2) (v := (.slice a2 xs.length c2)) 8 rfl rfl (by kernel_rfl) (by kernel_rfl) (by kernel_rfl) (by kernel_rfl) (fun _ _ _ h => h) (Or.inl ⟨by rfl, by intro W hSw; go_simp⟩) hHeld ?_
  simp only [Act.put, List.setIfInBounds_toArray, List.set_cons_zero, List.set_cons_succ]
  refine onlyL (i := 3) (by kernel_rfl) rfl (by rfl) (fun K hK => ?_)
  go_simp
  refine (KS.out _ (B1.out.trans (t1.mono B1.out.size))).mono ?_
  rintro e w2 ⟨Bn, rfl, -, hcm, hb⟩
  have t2 : Below w1.heap.size w1 w2 := t1.trans (hb.mono t1.size)
  have HC := Lib.hid hcm
  clear hb hHeld hcm
  refine hK.out _ _ (fun _ => t2.mono (by omega)) (fun hHeld => ?_)
  have hHeld := hHeld (by decide)
  clear hK K
  try simp only [Act.put, List.setIfInBounds_toArray, List.set_cons_zero, List.set_cons_succ]
  refine onlyL (i := 4) (by kernel_rfl) rfl (by rfl) (fun K hK => ?_)
  go_simp
  refine (KC.out _ _ HC.out).mono ?_
  rintro e w3 ⟨v3, rfl, ho3, hb3⟩
  have t3 : Below w1.heap.size w1 w3 := t2.trans (hb3.mono t2.size)
  have HO3 := Lib.hid ho3.read
  clear hb3 hHeld ho3
  refine hK.out _ _ (fun _ => t3.mono (by omega)) (fun hHeld => ?_)
  have hHeld := hHeld (by decide)
  clear hK K
  try simp only [Act.put, List.setIfInBounds_toArray, List.set_cons_zero, List.set_cons_succ]
  refine onlyL (i := 5) (by kernel_rfl) rfl (by rfl) (fun K hK => ?_)
  go_simp
  refine (KR.out _ (B1.out.trans (t3.mono B1.out.size)) _ _ _ HO3.out).mono ?_
  rintro e w4 ⟨v4, rfl, ho4, hb4⟩
  have t4 : Below w1.heap.size w1 w4 := t3.trans (hb4.mono t3.size)
  obtain ⟨qa, qc, pa, pc, e4⟩ := ho4.read.form
  subst e4
  have O4 := Lib.hid ho4
  have z3 := t3.size
  clear hb4 hHeld ho4
  refine hK.out _ _ (fun _ => t4.mono (by omega)) (fun hHeld => ?_)
  have hHeld := hHeld (by decide)
  clear hK K
  try simp only [Act.put, List.setIfInBounds_toArray, List.set_cons_zero, List.set_cons_succ]
  refine takeA (i := 6) (v := (.agg #[.slice qa RM.facts.length qc, .slice pa RM.blocks.length pc, .int .i64 RM.actual])) 12 rfl rfl (by kernel_rfl) (by kernel_rfl) (by kernel_rfl) (by kernel_rfl) (fun _ _ _ h => h) (Or.inl ⟨by rfl, by intro W hSw; go_simp⟩) hHeld ?_
  simp only [Act.put, List.setIfInBounds_toArray, List.set_cons_zero, List.set_cons_succ]
  refine takeA (i := 7) (v := (.bool ok)) 13 rfl rfl (by kernel_rfl) (by kernel_rfl) (by kernel_rfl) (by kernel_rfl) (fun _ _ _ h => h) (Or.inl ⟨by rfl, by intro W hSw; go_simp⟩) hHeld ?_
  simp only [Act.put, List.setIfInBounds_toArray, List.set_cons_zero, List.set_cons_succ]
  refine onlyL (i := 8) (by kernel_rfl) rfl (by rfl) (fun K hK => ?_)
  refine wp_storeM 26 (.tmp 4) (.tmp 12) rfl rfl (w.heap.size + 1) 0 rfl [.slice qa RM.facts.length qc, .slice pa RM.blocks.length pc, .int .i64 RM.actual] rfl 26 _ (C1.all t4) (by simp) Tryz.sizeMd (by simp [Value.oneCell']) ?_
  intro w5 hc5 ha5
  rw [lay'_all (by rfl)] at hc5
  have C5 := Lib.hid hc5
  have O5 := Lib.hid (O4.out.keeps (at_keeps ha5 (.inl (by omega))))
  have hz5 : w4.heap.size = w5.heap.size := ha5.size.symm
  have B5 : Hid (Below w.heap.size w w5) := Lib.hid ((B1.out.trans (t4.mono B1.out.size)).trans (ha5.below (by omega)))
  have t5 : Below (w.heap.size + 1) w1 w5 := (t4.mono (by omega)).trans (ha5.below (Nat.le_refl _))
  clear hc5 ha5 hHeld
  refine hK.out _ _ (fun _ => t5) (fun hHeld => ?_)
  have hHeld := hHeld (by decide)
  clear hK K
  try simp only [Act.put, List.setIfInBounds_toArray, List.set_cons_zero, List.set_cons_succ]
  refine takeA (i := 9) (v := (.bool ok)) 5 rfl rfl (by kernel_rfl) (by kernel_rfl) (by kernel_rfl) (by kernel_rfl) (fun _ _ _ h => h) (Or.inl ⟨by rfl, by intro W hSw; go_simp⟩) hHeld ?_
  simp only [Act.put, List.setIfInBounds_toArray, List.set_cons_zero, List.set_cons_succ]
  refine doneL (by kernel_rfl) ?_ _
  go_wp2
  refine bodyPost_ret (results_mid2 Tryz.results23 _ _ (w.heap.size + 1) _ _ (.bool ok) rfl rfl C5.out.whole Tryz.underlying26 rfl Tryz.sizeMd) rfl ?_
  exact ⟨_, rfl, O5.out.wide (by omega) (by omega), B5.out⟩
end Go.Proofs.YtodjohdbngbpaaaGreat

/-
  Slices of slices of nodes: what reads as lists of nodes (Nvv), what is owned (Noo); contracts of the laws' helpers over [][]Node: szNodeSS, toNodeSS, eqNodeSS, markNodeSS. Conditions: bounds on the lengths, which the laws check.
-/
namespace Go.Proofs.YtodjohdbngbpaaaGreat
open Go.RowKit Go.WideShapes
open Go Go.Deep
set_option linter.unusedSimpArgs false

/-- v reads as the lists of nodes ll -/
def Nvv (lo hi : Nat) (w : World) (v : Value) (ll : List (List Nd)) : Prop :=
  ∃ vs, vs.length = ll.length ∧ Rv lo hi w v vs ∧ ∀ j, j < ll.length → Ns w (vs.getD j (.bool false)) (ll.getD j [])
theorem Nvv.later {lo hi : Nat} {w w' : World} {v : Value} {ll : List (List Nd)} (h : Nvv lo hi w v ll) (hb : Below w.heap.size w w') : Nvv lo hi w' v ll := by
  obtain ⟨vs, h1, h2, h3⟩ := h
  exact ⟨vs, h1, h2.keeps (Keeps.of_all hb), fun j hj => (h3 j hj).below hb (Nat.le_refl _)⟩
theorem Nvv.parts {lo hi : Nat} {w : World} {v : Value} {ll : List (List Nd)} (h : Nvv lo hi w v ll) : ∃ a cap, v = .slice a ll.length cap ∧ ll.length ≤ cap ∧ cap ≤ maxLen ∧
    ∀ j, j < ll.length → ∃ b o u, a = some ⟨b, o, none⟩ ∧ lo ≤ b ∧ b < hi ∧ b < w.heap.size ∧ w.cell? ⟨b, o + j, none⟩ = some u ∧ Ns w u (ll.getD j []) := by
  obtain ⟨vs, h1, h2, h3⟩ := h
  obtain ⟨a, cap, rfl, c1, c2, c3⟩ := h2.parts
  refine ⟨a, cap, by rw [h1], by omega, c2, fun j hj => ?_⟩
  obtain ⟨b, o, e, l1, l2, l3, l4⟩ := c3 j (by omega)
  exact ⟨b, o, _, e, l1, l2, l3, l4, h3 j hj⟩
theorem No.wide {lo hi lo' hi' : Nat} {w : World} {v : Value} {xs : List Nd} (h : No lo hi w v xs) (a : lo' ≤ lo) (b : hi ≤ hi') : No lo' hi' w v xs :=
  ⟨own_mono h.1 a, fun k hk => by have := h.2 k hk; omega⟩
theorem No.form {lo hi : Nat} {w : World} {v : Value} {xs : List Nd} (h : No lo hi w v xs) : ∃ a c, v = .slice a xs.length c := by
  obtain ⟨a, c, e, _⟩ := Ns.parts (Ns.of_own h.1)
  exact ⟨a, c, e⟩
theorem No.keptBy {lo hi : Nat} {w w' : World} {v : Value} {xs : List Nd} {row : Option Nat} (h : No lo hi w v xs) (hg : w.grownBy w' row) (hne : v.ownBlock = none ∨ v.ownBlock ≠ row) : No lo hi w' v xs := ⟨h.1.kept hg hne, h.2⟩
/-- the rows vs hold the lists ll -/
def RowsN (lo hi : Nat) (w : World) (vs : List Value) (ll : List (List Nd)) : Prop := vs.length = ll.length ∧ ∀ j, j < ll.length → No lo hi w (vs.getD j (.bool false)) (ll.getD j [])
theorem RowsN.keeps {lo hi : Nat} {w w' : World} {vs : List Value} {ll : List (List Nd)} (h : RowsN lo hi w vs ll) (k : Keeps lo hi w w') : RowsN lo hi w' vs ll := ⟨h.1, fun j hj => (h.2 j hj).keeps k⟩
theorem RowsN.wide {lo hi lo' hi' : Nat} {w : World} {vs : List Value} {ll : List (List Nd)} (h : RowsN lo hi w vs ll) (a : lo' ≤ lo) (b : hi ≤ hi') : RowsN lo' hi' w vs ll := ⟨h.1, fun j hj => (h.2 j hj).wide a b⟩
/-- v owns its rows ll, each row its own -/
def Noo (lo hi : Nat) (w : World) (v : Value) (vs : List Value) (ll : List (List Nd)) : Prop :=
  Ro lo hi w 28 v vs ∧ RowsN lo hi w vs ll ∧ (v :: vs).Pairwise apart
theorem Noo.read {lo hi : Nat} {w : World} {v : Value} {vs : List Value} {ll : List (List Nd)} (h : Noo lo hi w v vs ll) : Nvv lo hi w v ll := ⟨vs, h.2.1.1, h.1.read, fun j hj => Ns.of_own (h.2.1.2 j hj).1⟩
theorem Noo.keeps {lo hi : Nat} {w w' : World} {v : Value} {vs : List Value} {ll : List (List Nd)} (h : Noo lo hi w v vs ll) (k : Keeps lo hi w w') : Noo lo hi w' v vs ll := ⟨h.1.keeps k, h.2.1.keeps k, h.2.2⟩
theorem Noo.wide {lo hi lo' hi' : Nat} {w : World} {v : Value} {vs : List Value} {ll : List (List Nd)} (h : Noo lo hi w v vs ll) (a : lo' ≤ lo) (b : hi ≤ hi') : Noo lo' hi' w v vs ll := ⟨h.1.wide a b, h.2.1.wide a b, h.2.2⟩
def totN : List (List Nd) → Nat
  | [] => 0
  | l :: ls => l.length + totN ls
def mrowsN : Nat → List (List Nd) → List (List Nd)
  | _, [] => []
  | k, l :: ls => marksNd k l.length :: mrowsN (k + l.length * 4) ls
theorem totN_app : ∀ (a b : List (List Nd)), totN (a ++ b) = totN a + totN b
  | [], b => by simp [totN]
  | x :: a, b => by rw [List.cons_append, totN, totN, totN_app a b]; omega
theorem mrowsN_len : ∀ (k : Nat) (ls : List (List Nd)), (mrowsN k ls).length = ls.length
  | _, [] => rfl
  | k, l :: ls => by rw [mrowsN, List.length_cons, List.length_cons, mrowsN_len]
theorem mrowsN_app : ∀ (k : Nat) (a b : List (List Nd)), mrowsN k (a ++ b) = mrowsN k a ++ mrowsN (k + totN a * 4) b
  | k, [], b => by simp [mrowsN, totN]
  | k, x :: a, b => by rw [List.cons_append, mrowsN, mrowsN, mrowsN_app _ a b, totN, List.cons_append, show k + x.length * 4 + totN a * 4 = k + (x.length + totN a) * 4 by omega]
theorem totN_mrowsN : ∀ (k : Nat) (ls : List (List Nd)), totN (mrowsN k ls) = totN ls
  | _, [] => rfl
  | k, l :: ls => by rw [mrowsN, totN, totN, totN_mrowsN, marksNd_len]
theorem take_snocN2 {ls : List (List Nd)} {k : Nat} (h : k < ls.length) : ls.take (k + 1) = ls.take k ++ [ls.getD k []] := by
  rw [List.take_add_one, getD_some [] h]; rfl
theorem totN_take {ls : List (List Nd)} {k : Nat} (h : k < ls.length) : totN (ls.take (k + 1)) = totN (ls.take k) + (ls.getD k []).length := by
  rw [take_snocN2 h, totN_app]; simp [totN]
theorem totN_take_le (ls : List (List Nd)) (k : Nat) : totN (ls.take k) ≤ totN ls := by
  have := totN_app (ls.take k) (ls.drop k); rw [List.take_append_drop] at this; omega
theorem totN_get_le {ls : List (List Nd)} {k : Nat} (h : k < ls.length) : totN (ls.take k) + (ls.getD k []).length ≤ totN ls := by
  rw [← totN_take h]; exact totN_take_le _ _
theorem szNodeS_b (v : Value) (xs : List Nd) (left : Int) (w : World) (h : Ns w v xs) (h0 : 0 ≤ left) (h1 : left ≤ 1048576) :
    Calls Tryz.prog 33 #[v, .int .i64 left] w fun e w' => e = .returned (.int .i64 (budget left xs.length)) ∧ w = w' := szNodeS_any v xs left w h h0 h1
set_option maxRecDepth 100000 in
set_option maxHeartbeats 4000000 in
theorem szNodeSS_any (lo hi : Nat) (v : Value) (ll : List (List Nd)) (left : Int) (w : World) (h : Nvv lo hi w v ll) (h0 : 0 ≤ left) (h1 : left ≤ 1048576) :
    Calls Tryz.prog 42 #[v, .int .i64 left] w fun e w' => e = .returned (.int .i64 (budget left (ll.length + totN ll))) ∧ w = w' := by
  obtain ⟨a, cap, rfl, h2, h3, h4⟩ := h.parts
  unfold maxLen at h3
  have KEY := Lib.hid h4
  clear h4
  rw [budget_add _ _ _]
  by_cases hlt : left - (ll.length : Int) < 0
  · rw [if_pos hlt]
    go_enter Tryz.func42, Tryz.ntmps42
    go_wp2
    go_ret
    exact ⟨rfl, rfl⟩
  rw [if_neg hlt]
  have HT := Lib.hid (fun k (h : k < ll.length) => totN_take h)
  have HU := Lib.hid (fun k => totN_take_le ll k)
  go_enter Tryz.func42, Tryz.ntmps42
  go_wp2
  go_loop [1, 5] (fun lv i => ∃ (k t : Nat), k ≤ ll.length ∧ i = .int .i64 k ∧ lv = .int .i64 (left - ll.length - t) ∧ (t : Int) ≤ left - ll.length ∧ Hid (t = totN (ll.take k))) (fun _ i => ll.length - (intOf i).toNat)
  case atStart => exact ⟨0, 0, Nat.zero_le _, rfl, by go_num, by omega, Lib.hid (by simp [totN])⟩
  case round =>
    obtain ⟨k, t, hk, rfl, rfl, ht, HK⟩ := hrel
    by_cases hlt : k < ll.length
    · obtain ⟨b, o, u, rfl, _, _, hb, c0, hu⟩ := KEY.out k hlt
      have HS := Lib.hid (HT.out k hlt)
      have HV := Lib.hid (HU.out (k + 1))
      have KS := Lib.hid (szNodeS_b u (ll.getD k []) (left - ll.length - t) w hu (by omega) (by omega))
      clear hu
      generalize ll.getD k [] = l at *
      by_cases hs : left - (ll.length : Int) - t - l.length < 0
      · have hbud : budget (left - ll.length - t) l.length = -1 := by unfold budget; rw [if_pos hs]
        rw [hbud] at KS
        have HF : Hid (budget (left - ll.length) (totN ll) = -1) := Lib.hid (by have h1 := HV.out; rw [HS.out, ← HK.out] at h1; unfold budget; rw [if_pos (by omega)])
        clear hbud
        go_wp2_with fail
        refine KS.out.mono ?_
        rintro e w' ⟨rfl, rfl⟩
        go_wp2
        go_ret
        exact ⟨by rw [HF.out]; rfl, rfl⟩
      · have hbud : budget (left - ll.length - t) l.length = left - ll.length - t - l.length := by unfold budget; rw [if_neg hs]
        rw [hbud] at KS
        clear hbud
        go_wp2_with fail
        refine KS.out.mono ?_
        rintro e w' ⟨rfl, rfl⟩
        go_wp2
        go_round
        case rel => exact ⟨k + 1, t + l.length, by omega, by go_num, by go_num, by omega, Lib.hid (by rw [HS.out, ← HK.out])⟩
        case measure => simp [intOf]; omega
    · obtain rfl : k = ll.length := by omega
      go_wp2
      go_ret
      refine ⟨ret_int ?_, rfl⟩
      have h1 := HK.out
      rw [List.take_of_length_le (Nat.le_refl _)] at h1
      unfold budget
      rw [← h1, if_neg (by omega)]

theorem Tryz.infoNl : (Tryz.prog.info? 28).map (fun i => (i.zero, i.size, i.bytes)) = some (some (.slice none 0 0), 1, 24) := by kernel_rfl
theorem RowsN.snoc {lo hi : Nat} {w : World} {vs : List Value} {ll : List (List Nd)} {u : Value} {l : List Nd} (h : RowsN lo hi w vs ll) (hu : No lo hi w u l) : RowsN lo hi w (vs ++ [u]) (ll ++ [l]) := by
  refine ⟨by simp [h.1], fun j hj => ?_⟩
  rcases Nat.lt_or_ge j ll.length with h1 | h1
  · have e1 : (vs ++ [u]).getD j (.bool false) = vs.getD j (.bool false) := by
      rw [List.getD_eq_getElem?_getD, List.getElem?_append_left (by rw [h.1]; exact h1), List.getD_eq_getElem?_getD]
    have e2 : (ll ++ [l]).getD j [] = ll.getD j [] := by
      rw [List.getD_eq_getElem?_getD, List.getElem?_append_left h1, List.getD_eq_getElem?_getD]
    rw [e1, e2]; exact h.2 j h1
  · have hj' : j = ll.length := by simp at hj; omega
    have e1 : (vs ++ [u]).getD j (.bool false) = u := by
      rw [List.getD_eq_getElem?_getD, List.getElem?_append_right (by rw [h.1]; omega), h.1, hj']; simp
    have e2 : (ll ++ [l]).getD j [] = l := by
      rw [List.getD_eq_getElem?_getD, List.getElem?_append_right (by omega), hj']; simp
    rw [e1, e2]; exact hu
theorem RowsN.blk {lo hi : Nat} {w : World} {vs : List Value} {ll : List (List Nd)} (h : RowsN lo hi w vs ll) {x : Value} (hx : x ∈ vs) : ∀ k, x.ownBlock = some k → lo ≤ k ∧ k < hi ∧ k < w.heap.size := by
  obtain ⟨j, hj, rfl⟩ := List.getElem_of_mem hx
  have hr := h.2 j (by rw [← h.1]; exact hj)
  rw [List.getD_eq_getElem?_getD, List.getElem?_eq_getElem hj] at hr
  intro k hk
  exact ⟨(hr.1.lt k hk).1, hr.2 k hk, (hr.1.lt k hk).2⟩

set_option maxRecDepth 100000 in
set_option maxHeartbeats 4000000 in
theorem toNodeSS_any (lo hi : Nat) (v : Value) (ll : List (List Nd)) (w : World) (hr : Nvv lo hi w v ll) (hn : ll.length ≤ 1048576) (ht : totN ll ≤ 1048576) :
    Calls Tryz.prog 44 #[v] w fun e w' => ∃ v' vs, e = .returned v' ∧ Noo w.heap.size w'.heap.size w' v' vs ll ∧ Below w.heap.size w w' := by
  obtain ⟨i0, hi, hz0, hz1, hz2⟩ := info_parts Tryz.infoNl
  obtain ⟨a, cap, rfl, h1, h2, h3⟩ := hr.parts
  unfold maxLen at h2
  have KEY := Lib.hid h3
  have HT := Lib.hid (fun k (h : k < ll.length) => totN_get_le h)
  clear h3
  have hb1 : i0.bytes * ll.length ≤ 281474976710656 := by rw [hz2]; omega
  have HB1 := Lib.hid hb1
  clear hb1
  go_enter Tryz.func44, Tryz.ntmps44
  go_wp2_with (at_make; refine wpList_make_full _ rfl _ _ 43 rfl w.heap.size 28 i0 (.slice none 0 0) 1 Tryz.underlying43 hi hz0 hz1 _ _ _ _ ll.length rfl rfl rfl rfl HB1.out (by unfold maxLen; omega) (Nat.le_refl _) ?_; intro w1 hown hg; have HO := Lib.hid hown; have HG := Lib.hid hg; clear hown hg)
  have hst : Hid (w1.ownsRow w.heap.size 28 1 (.slice (some ⟨w.heap.size, 0, none⟩) ll.length ll.length) ll.length ([] ++ List.replicate (ll.length - 0) (.slice none 0 0))) := Lib.hid (by
    have h := HO.out
    rw [Nat.mul_one, madeL] at h
    simpa using h)
  have hbw : Hid (Below w.heap.size w w1) := Lib.hid ((Below.refl _ _).grown HG.out (Nat.le_refl _) (fun k hk => by cases hk))
  clear HO HG
  go_loopw [4] (fun i wr => ∃ (k : Nat) (vs : List Value), k ≤ ll.length ∧ i = .int .i64 k ∧ Hid (wr.ownsRow w.heap.size 28 1 (.slice (some ⟨w.heap.size, 0, none⟩) ll.length ll.length) ll.length (vs ++ List.replicate (ll.length - k) (.slice none 0 0))) ∧ Hid (RowsN w.heap.size wr.heap.size wr vs (ll.take k)) ∧ Hid (((Value.slice (some ⟨w.heap.size, 0, none⟩) ll.length ll.length) :: vs).Pairwise apart) ∧ Hid (Below w.heap.size w wr)) (fun i _ => ll.length - (intOf i).toNat)
  case atStart => exact ⟨0, [], Nat.zero_le _, rfl, hst, Lib.hid ⟨by simp, fun j hj => by simp at hj⟩, Lib.hid (List.pairwise_singleton _ _), hbw⟩
  case round =>
    obtain ⟨k, vs, hk, rfl, HO, HR, HP, HB⟩ := hrel
    by_cases hlt : k < ll.length
    · obtain ⟨b, o, u, rfl, _, _, hb, c0, hu⟩ := KEY.out k hlt
      have hl2 := HT.out k hlt
      have hl3 : (ll.getD k []).length ≤ 1048576 := by omega
      clear hl2
      rw [← HB.out.cell (p := ⟨b, o + k, none⟩) hb] at c0
      have HU := Lib.hid (hu.below HB.out (Nat.le_refl _))
      have HS := Lib.hid (take_snocN2 hlt)
      clear hu
      generalize ll.getD k [] = l at *
      go_wp2_with fail
      refine (toNodeS_no u l _ HU.out hl3).mono ?_
      rintro e w2 ⟨v2, rfl, hi2, hb2⟩
      obtain ⟨a2, c2, hf2⟩ := hi2.form
      subst hf2
      have HO2 := Lib.hid (own_below HO.out hb2 (Nat.le_refl _))
      have HB2 := Lib.hid (HB.out.trans (hb2.mono HB.out.size))
      have HR2 := Lib.hid ((HR.out.keeps (Keeps.of_all hb2)).wide (Nat.le_refl _) hb2.size)
      have HI2 := Lib.hid (hi2.wide HB.out.size (Nat.le_refl _))
      have HA2 : Hid (∀ x ∈ (Value.slice (some ⟨w.heap.size, 0, none⟩) ll.length ll.length) :: vs, apart x (.slice a2 l.length c2)) := Lib.hid (fun x hx => by
        refine apart_lt (B := wr.heap.size) (fun q hq => ?_) (fun q hq => (hi2.1.lt q hq).1)
        rcases List.mem_cons.1 hx with rfl | hx
        · exact (HO.out.lt q hq).2
        · exact (HR.out.blk hx q hq).2.2)
      clear hi2 hb2 c0
      obtain ⟨f0, z0, g0⟩ := own_one HO2.out hlt
      go_wp2
      go_roundw
      case rel =>
        have hvl : vs.length = k := by have := HR.out.1; rw [List.length_take] at this; omega
        have hst2 := HO2.out.stored k (.slice a2 l.length c2)
        rw [List.set_append_right _ _ (by omega), hvl, Nat.sub_self, show ll.length - k = (ll.length - (k + 1)) + 1 by omega, List.replicate_succ, List.set_cons_zero] at hst2
        have hrow : ∀ (x : Value) (y : List Nd), apart (Value.slice (some ⟨w.heap.size, 0, none⟩) ll.length ll.length) x → No w.heap.size w2.heap.size w2 x y → No w.heap.size w2.heap.size (w2.setCell ⟨w.heap.size, k, none⟩ (.slice a2 l.length c2)) x y := fun x y ha hx =>
          hx.keptBy hst2.2 (by
            rcases apart_symm ha with h | h
            · exact .inl h
            · exact .inr h)
        refine ⟨k + 1, vs ++ [.slice a2 l.length c2], by omega, by go_num, Lib.hid ?_, Lib.hid ?_, Lib.hid (pair_snoc HP.out HA2.out), Lib.hid (HB2.out.setCell (Nat.le_refl _) _)⟩
        · rw [List.append_assoc]; exact hst2.1
        · rw [HS.out, show (w2.setCell ⟨w.heap.size, k, none⟩ (.slice a2 l.length c2)).heap.size = w2.heap.size by simp [World.setCell]]
          refine RowsN.snoc ⟨HR2.out.1, fun j hj => hrow _ _ ?_ (HR2.out.2 j hj)⟩ (hrow _ _ (HA2.out _ (List.mem_cons_self ..)) HI2.out)
          have hp := (List.pairwise_cons.1 HP.out).1
          apply hp
          rw [List.getD_eq_getElem?_getD, List.getElem?_eq_getElem (by rw [HR2.out.1]; exact hj)]
          exact List.getElem_mem _
      case measure => simp [intOf]; omega
    · obtain rfl : k = ll.length := by omega
      go_wp2
      go_ret
      have hvl : vs.length = ll.length := by have := HR.out.1; rw [List.length_take] at this; omega
      refine ⟨_, vs, rfl, ⟨?_, ?_, HP.out⟩, HB.out⟩
      · have h := HO.out
        rw [Nat.sub_self, List.replicate_zero, List.append_nil] at h
        exact Ro.of_own h
      · have h := HR.out
        rw [List.take_of_length_le (Nat.le_refl _)] at h
        exact h


set_option maxRecDepth 100000 in
set_option maxHeartbeats 4000000 in
theorem eqNodeSS_same (lo hi lo' hi' : Nat) (u v : Value) (ll : List (List Nd)) (w : World) (hu : Nvv lo hi w u ll) (hv : Nvv lo' hi' w v ll) :
    Calls Tryz.prog 45 #[u, v] w fun e w' => e = .returned (.bool true) ∧ Below w.heap.size w w' := by
  obtain ⟨a1, c1, rfl, hc1, hm1, _⟩ := hu.parts
  obtain ⟨a2, c2, rfl, hc2, hm2, _⟩ := hv.parts
  have K1 := Lib.hid hu
  have K2 := Lib.hid hv
  clear hu hv
  unfold maxLen at hm1 hm2
  go_enter Tryz.func45, Tryz.ntmps45
  go_wp2
  go_loopw [5] (fun i wr => ∃ k : Nat, k ≤ ll.length ∧ i = .int .i64 k ∧ Hid (Below w.heap.size w wr)) (fun i _ => ll.length - (intOf i).toNat)
  case atStart => exact ⟨0, Nat.zero_le _, rfl, Lib.hid (Below.refl _ _)⟩
  case round =>
    obtain ⟨k, hk, rfl, HB⟩ := hrel
    by_cases hlt : k < ll.length
    · obtain ⟨_, _, e1, _, _, h1⟩ := (K1.out.later HB.out).parts
      obtain ⟨_, _, e2, _, _, h2⟩ := (K2.out.later HB.out).parts
      cases e1; cases e2
      obtain ⟨b1, o1, u1, rfl, _, _, hb1, d0, du⟩ := h1 k hlt
      obtain ⟨b2, o2, u2, rfl, _, _, hb2, e0, eu⟩ := h2 k hlt
      obtain ⟨a1, q1, rfl, _⟩ := id du
      obtain ⟨a2, q2, rfl, _⟩ := id eu
      have D := Lib.hid du; have E := Lib.hid eu
      clear du eu
      generalize ll.getD k [] = l at *
      have hi0 : (0 : Int) ≤ (k : Int) := Int.natCast_nonneg _
      have hi1 : (k : Int) < (ll.length : Int) := by omega
      go_wp2
      have hsz := HB.out.size
      go_region_with ((go_at_call 38; refine (eqNodeS_same _ _ l _ (D.out.below (Below.refl _ _).drew (Nat.le_refl _)) (E.out.below (Below.refl _ _).drew (Nat.le_refl _))).mono ?_; rintro e w1 ⟨rfl, hb1⟩; have HB1 := Lib.hid hb1; clear hb1))
      all_goals
        go_wp2
        go_roundw
        case rel => exact ⟨k + 1, by omega, by go_num, Lib.hid (HB.out.drew.trans (HB1.out.mono hsz))⟩
        case measure => simp [intOf]; omega
    · go_wp2
      go_ret
      exact ⟨rfl, HB.out⟩

/-- one row of an owned table is written -/
theorem Noo.step {lo hi : Nat} {w w' : World} {v : Value} {vs : List Value} {ll : List (List Nd)} (h : Noo lo hi w v vs ll) {i : Nat} (hi0 : i < ll.length) {l' : List Nd}
    (hg : w.grownBy w' (vs.getD i (.bool false)).ownBlock) (hl : No lo hi w' (vs.getD i (.bool false)) l') : Noo lo hi w' v vs (ll.set i l') := by
  have hlen := h.2.1.1
  have hm : vs.getD i (.bool false) ∈ vs := by
    rw [List.getD_eq_getElem?_getD, List.getElem?_eq_getElem (by omega)]; exact List.getElem_mem _
  refine ⟨h.1.keptBy hg ((List.pairwise_cons.1 h.2.2).1 _ hm), ⟨by rw [List.length_set]; exact hlen, fun j hj => ?_⟩, h.2.2⟩
  rw [List.length_set] at hj
  by_cases e : j = i
  · subst e
    rw [List.getD_eq_getElem?_getD (l := ll.set j l'), List.getElem?_set_self (by omega)]
    exact hl
  · rw [List.getD_eq_getElem?_getD (l := ll.set i l'), List.getElem?_set_ne (Ne.symm e), ← List.getD_eq_getElem?_getD]
    exact No.keptBy (h.2.1.2 j hj) hg (apart_at h.2.2 (by omega) (by omega) (Ne.symm e))
theorem markNodeS_no (lo hi : Nat) (v : Value) (xs : List Nd) (k : Nat) (w : World) (hn : xs.length ≤ 1048576) (h0 : 0 < k) (hk : k ≤ 4194400) (ho : No lo hi w v xs) :
    Calls Tryz.prog 40 #[v, .int .i64 k] w fun e w' => e = .returned (.int .i64 (k + xs.length * 4 : Nat)) ∧ No lo hi w' v (marksNd k xs.length) ∧ w.grownBy w' v.ownBlock := by
  refine (markNodeS_rw lo v xs.length xs k w hn h0 hk ho.1).mono ?_
  rintro e w' ⟨rfl, h1, h2⟩
  exact ⟨rfl, ⟨by rw [marksNd_len]; exact h1, ho.2⟩, h2⟩
theorem marks_setN (k : Nat) (ll : List (List Nd)) (i : Nat) (h : i < ll.length) :
    (mrowsN k (ll.take i) ++ ll.drop i).set i (marksNd (k + totN (ll.take i) * 4) (ll.getD i []).length) = mrowsN k (ll.take (i + 1)) ++ ll.drop (i + 1) := by
  have hl : (mrowsN k (ll.take i)).length = i := by rw [mrowsN_len, List.length_take]; omega
  rw [List.set_append_right _ _ (by omega), hl, Nat.sub_self, List.drop_eq_getElem_cons h, List.set_cons_zero, take_snocN2 h, mrowsN_app, mrowsN, mrowsN, List.append_assoc]
  rfl
theorem marks_getN (k : Nat) (ll : List (List Nd)) (i : Nat) (h : i < ll.length) : (mrowsN k (ll.take i) ++ ll.drop i).getD i [] = ll.getD i [] := by
  have hl : (mrowsN k (ll.take i)).length = i := by rw [mrowsN_len, List.length_take]; omega
  rw [List.getD_eq_getElem?_getD, List.getElem?_append_right (by omega), hl, Nat.sub_self, List.getElem?_drop, Nat.add_zero, ← List.getD_eq_getElem?_getD]

set_option maxRecDepth 100000 in
set_option maxHeartbeats 4000000 in
theorem markNodeSS_own (lo hi : Nat) (v : Value) (vs : List Value) (ll : List (List Nd)) (k : Nat) (w : World) (hn : ll.length ≤ 1048576) (ht : totN ll ≤ 1048576) (h0 : 0 < k) (hk : k + totN ll * 4 ≤ 4194400) (ho : Noo lo hi w v vs ll) :
    Calls Tryz.prog 46 #[v, .int .i64 k] w fun e w' => e = .returned (.int .i64 (k + totN ll * 4 : Nat)) ∧ Noo lo hi w' v vs (mrowsN k ll) ∧ Touch lo hi w w' ∧ Only vs w w' := by
  have hvl := ho.2.1.1
  obtain ⟨a, cap, e0, hc1, hm1, hxx⟩ := ho.1.read.parts
  clear hxx
  unfold maxLen at hm1
  rw [hvl] at e0 hc1
  have HV := Lib.hid hvl
  clear hvl
  subst e0
  have HT := Lib.hid (fun i (h : i < ll.length) => totN_get_le h)
  have HT2 := Lib.hid (fun i (h : i < ll.length) => totN_take h)
  go_enter Tryz.func46, Tryz.ntmps46
  go_wp2
  go_loopw [1, 5] (fun kv iv wr => ∃ i t : Nat, i ≤ ll.length ∧ iv = .int .i64 i ∧ kv = .int .i64 (k + t * 4 : Nat) ∧ t ≤ 1048576 ∧ Hid (t = totN (ll.take i)) ∧ Hid (Noo lo hi wr (.slice a ll.length cap) vs (mrowsN k (ll.take i) ++ ll.drop i)) ∧ Hid (Touch lo hi w wr) ∧ Hid (Only vs w wr)) (fun _ iv _ => ll.length - (intOf iv).toNat)
  case atStart => exact ⟨0, 0, Nat.zero_le _, rfl, by go_num, by omega, Lib.hid (by simp [totN]), Lib.hid (by simpa [mrowsN] using ho), Lib.hid (Touch.refl _ _ _), Lib.hid (Only.refl _ _)⟩
  case round =>
    obtain ⟨i, t, hit, rfl, rfl, htt, HTT, HO, HB, HY⟩ := hrel
    by_cases hlt : i < ll.length
    · have hlen2 : (mrowsN k (ll.take i) ++ ll.drop i).length = ll.length := by rw [List.length_append, mrowsN_len, ← List.length_append, List.take_append_drop]
      have hrow := HO.out.2.1.2 i (by rw [hlen2]; exact hlt)
      rw [marks_getN k ll i hlt] at hrow
      obtain ⟨a', _, e2, _, _, hcell⟩ := HO.out.1.read.parts
      obtain rfl : a' = a := by simp only [Value.slice.injEq] at e2; exact e2.1.symm
      obtain ⟨b, o, rfl, _, _, hb, c0⟩ := hcell i (by rw [HV.out]; exact hlt)
      have hs1 := HT.out i hlt
      have HS := Lib.hid (HT2.out i hlt)
      have hll : (ll.getD i []).length ≤ 1048576 := by omega
      have htl : t + (ll.getD i []).length ≤ 1048576 := by rw [HTT.out]; omega
      have HX := Lib.hid (marks_setN k ll i hlt)
      have HST := Lib.hid (fun (w' : World) l' => HO.out.step (w' := w') (l' := l') (i := i) (by rw [hlen2]; exact hlt))
      have HMM : Hid (vs.getD i (.bool false) ∈ vs) := Lib.hid (by rw [List.getD_eq_getElem?_getD, List.getElem?_eq_getElem (by rw [HV.out]; exact hlt)]; exact List.getElem_mem _)
      have HBK : Hid (∀ q, (vs.getD i (.bool false)).ownBlock = some q → lo ≤ q ∧ q < hi) := Lib.hid fun q hq => ⟨(hrow.1.lt q hq).1, hrow.2 q hq⟩
      have htn : t ≤ totN ll := by rw [HTT.out]; exact totN_take_le _ _
      have KM := Lib.hid (markNodeS_no lo hi _ _ (k + t * 4) wr (by omega) (by omega) (by omega) hrow)
      clear hcell hs1 hlen2 hrow e2
      generalize vs.getD i (.bool false) = u at *
      generalize ll.getD i [] = l at *
      rw [← HTT.out] at HX HS
      go_wp2_with fail
      refine KM.out.mono ?_
      rintro e w2 ⟨rfl, hi2, hg2⟩
      have HI2 := Lib.hid hi2
      have HG2 := Lib.hid hg2
      clear hi2 hg2 c0
      go_wp2
      go_roundw
      case rel =>
        refine ⟨i + 1, t + l.length, by omega, by go_num, by go_num, by omega, Lib.hid HS.out.symm, Lib.hid ?_, Lib.hid (HB.out.trans (Touch.of_grown HG2.out HBK.out)), Lib.hid (HY.out.grown HMM.out HG2.out)⟩
        rw [← HX.out]
        exact HST.out _ _ HG2.out HI2.out
      case measure => simp [intOf]; omega
    · obtain rfl : i = ll.length := by omega
      go_wp2
      go_ret
      have h1 := HTT.out
      have h2 := HO.out
      rw [List.take_of_length_le (Nat.le_refl _)] at h1 h2
      rw [List.drop_of_length_le (Nat.le_refl _), List.append_nil] at h2
      exact ⟨by rw [← h1]; rfl, h2, HB.out, HY.out⟩


end Go.Proofs.YtodjohdbngbpaaaGreat

/-
  AnnounceAll of both sides: formulas announced in order. No condition but the readings.
-/
namespace Go.Proofs.YtodjohdbngbpaaaGreat
open Go.RowKit Go.WideShapes
open Go Go.Deep
set_option linter.unusedSimpArgs false

/-- formulas are announced in order -/
def annList (m : Md) : List (List Nd) → Option Md
  | [] => some m
  | f :: r => match annR m f with
    | some R => annList R r
    | none => none
/-- what AnnounceAll answers -/
def annAllR (m : Md) (ll : List (List Nd)) : Option Md := if mdOk m && decide (ll.length ≤ 20) then annList m ll else none
theorem annList_none {M : Md} {ll : List (List Nd)} {k : Nat} (hk : k < ll.length) (h : annR M (ll.getD k []) = none) : annList M (ll.drop k) = none := by
  rw [List.drop_eq_getElem_cons hk, annList]
  rw [List.getD_eq_getElem?_getD, List.getElem?_eq_getElem hk] at h
  simp only [Option.getD_some] at h
  rw [h]
theorem annList_some {M R : Md} {ll : List (List Nd)} {k : Nat} (hk : k < ll.length) (h : annR M (ll.getD k []) = some R) : annList M (ll.drop k) = annList R (ll.drop (k + 1)) := by
  rw [List.drop_eq_getElem_cons hk, annList]
  rw [List.getD_eq_getElem?_getD, List.getElem?_eq_getElem hk] at h
  simp only [Option.getD_some] at h
  rw [h]
theorem annR_fits {m R : Md} {xs : List Nd} (h : annR m xs = some R) : fits R := by
  unfold annR at h
  split at h
  · rename_i hh; cases h; exact ann_fits hh
  · cases h
theorem annList_fits : ∀ (ll : List (List Nd)) {m R : Md}, fits m → annList m ll = some R → fits R
  | [], m, R, h, e => by cases e; exact h
  | f :: r, m, R, h, e => by
    unfold annList at e
    cases h1 : annR m f with
    | none => rw [h1] at e; cases e
    | some Q => rw [h1] at e; exact annList_fits r (annR_fits h1) e
theorem md_fits2 {m : Md} (h : mdOk m = true) : fits m := by
  obtain ⟨p1, p2, p3, p4, p5, _⟩ := mdOk_parts h
  exact ⟨p2, p4, fun k hk => (p5 k hk).1⟩
theorem annAll_size (m : Md) (ll : List (List Nd)) : msize ((annAllR m ll).getD ⟨[], [], 0⟩) + ((annAllR m ll).getD ⟨[], [], 0⟩).blocks.length ≤ 1048576 := by
  unfold annAllR
  split
  · rename_i h
    rw [Bool.and_eq_true] at h
    cases e : annList m ll with
    | none => decide
    | some R => exact fits_size (annList_fits ll (md_fits2 h.1) e)
  · decide
theorem ans_put2 {w3 : World} {b lo hi : Nat} {fv bv fv0 bv0 : Value} {m : Md} {n0 : Int} (hM : Mcell w3 b fv0 bv0 n0) (hO : Mo lo hi w3 (.agg #[fv, bv, .int .i64 m.actual]) m) (hb : b < lo) :
    Mo lo hi (((w3.setCell ⟨b, 0, none⟩ fv).setCell ⟨b, 1, none⟩ bv).setCell ⟨b, 2, none⟩ (.int .i64 m.actual)) (.agg #[fv, bv, .int .i64 m.actual]) m ∧ Mcell (((w3.setCell ⟨b, 0, none⟩ fv).setCell ⟨b, 1, none⟩ bv).setCell ⟨b, 2, none⟩ (.int .i64 m.actual)) b fv bv m.actual :=
  ⟨hO.keeps (((Keeps.setCell _ _ _ _ (.inl hb)).set (.inl hb) _ _).set (.inl hb) _ _), hM.write _ _ _⟩

set_option maxRecDepth 100000 in
set_option maxHeartbeats 16000000 in
theorem implAnnAll_any (lo hi lo2 hi2 : Nat) (v v2 : Value) (m : Md) (ll : List (List Nd)) (w : World) (hr : Mv lo hi w v m) (hhi : hi ≤ w.heap.size) (hr2 : Nvv lo2 hi2 w v2 ll) :
    Calls Tryz.prog 22 #[v, v2] w (MdAns2 w (annAllR m ll)) := by
  have KG := Lib.hid (fun W (h : Below w.heap.size w W) => gridOf_any lo hi v m W (hr.keeps (Keeps.of_all h)) (Nat.le_trans hhi h.size))
  obtain ⟨a2, c2, rfl, q1, q2, q3⟩ := hr2.parts
  have H2 := Lib.hid q3
  unfold maxLen at q2
  obtain ⟨fv, bv, rfl, hf, hb⟩ := hr
  clear hf hb hr2 q3
  by_cases hbad : mdOk m = false ∨ 20 < ll.length
  · have HA : Hid (annAllR m ll = none) := Lib.hid (by
      unfold annAllR
      rcases hbad with h | h
      · rw [h]; rfl
      · rw [decide_eq_false (p := ll.length ≤ 20) (by omega), Bool.and_false]; rfl)
    obtain ⟨G, ok, hG, hKG, hor⟩ : ∃ (G : List Int) (ok : Bool), (ints G).length = 67 ∧ (∀ W, Below w.heap.size w W → Calls Tryz.prog 59 #[.agg #[fv, bv, .int .i64 m.actual]] W fun e w' => e = .returned (.tuple #[.agg (ints G).toArray, .bool ok]) ∧ Below W.heap.size W w') ∧ (ok = false ∨ 20 < ll.length) := by
      have KG := KG.out
      unfold GdAns at KG
      cases hm : mdOk m with
      | false =>
        simp only [hm, Bool.false_eq_true, if_false, Option.getD_none, Option.isSome_none] at KG
        exact ⟨_, _, rfl, KG, .inl rfl⟩
      | true =>
        simp only [hm, if_true, Option.getD_some, Option.isSome_some] at KG
        exact ⟨_, _, by rw [ints_len]; exact gL_len (md_small hm), KG, .inr (hbad.resolve_left (by rw [hm]; decide))⟩
    have KG := Lib.hid hKG
    have HLG := Lib.hid hG
    clear hbad hKG hG H2
    have hdec : ok = false ∨ (ok = true ∧ decide ((20 : Int) < (ll.length : Int)) = true) := by
      cases ok with
      | false => exact .inl rfl
      | true => exact .inr ⟨rfl, decide_eq_true (by have := hor.resolve_left (by decide); omega)⟩
    clear hor
    rcases hdec with rfl | ⟨rfl, d20⟩
    · go_enter Tryz.func22, Tryz.ntmps22
      go_wp2_with fail
      refine (KG.out _ (by go_grown)).mono ?_
      rintro e w1 ⟨rfl, hb1⟩
      have M1 := Lib.hid (Mcell.below (b := w.heap.size + 1) (Mcell.new (by simp)) hb1)
      have B1 : Hid (Below w.heap.size w w1) := Lib.hid (Below.trans (by go_grown) (hb1.mono (by simp; omega)))
      have lt1 : w.heap.size + 1 < w1.heap.size := M1.out.lt
      clear hb1
      have tk1 : True := trivial
      have tk2 : True := trivial
      go_wp2_with
        (first
          | (have _t := tk1; clear _t tk1; refine wpList_allocM rfl 85 rfl (ints (gL 0 0 [] [] 0)) Tryz.allocGrid ?_
             intro w2 hc2 hb2 hs2
             have CC := Lib.hid hc2
             have B1 : Hid (Below w.heap.size w w2) := Lib.hid (B1.out.trans (hb2.mono B1.out.size))
             have M1 := Lib.hid (M1.out.below hb2)
             clear hc2 hb2 hs2)
          | (have _t := tk2; clear _t tk2; refine wpList_storeM rfl 85 (.tmp 6) (.tmp 14) rfl w1.heap.size 0 rfl (ints G) rfl 85 (ints (gL 0 0 [] [] 0)) CC.out (by rw [HLG.out]; exact Nat.le_refl _) (by rw [HLG.out]; exact Tryz.sizeGrid) (fun v hv => ints_one hv) ?_
             intro w3 hc3 ha3
             have B1 : Hid (Below w.heap.size w w3) := Lib.hid (B1.out.trans (ha3.below (by omega)))
             have M1 := Lib.hid (M1.out.of_block (ha3.block _ (by omega)))
             obtain ⟨mc0, mc1, mc2, mc3, mc4, mc5⟩ := M1.out
             clear hc3 ha3))
      clear mc0 mc1 mc2 mc3 mc4 mc5
      have M6 := M1.out.write (.slice none 0 0) (.slice none 0 0) 0
      refine bodyPost_ret (results_mid2 Tryz.results22 _ _ (w.heap.size + 1) _ _ (.bool false) rfl rfl M6.range Tryz.underlying26 rfl Tryz.sizeMd) rfl ?_
      rw [HA.out]
      exact ⟨_, rfl, Mo.none _ _ _, ((B1.out.setCell (by show _ ≤ w.heap.size + 1; omega) _).setCell (by show _ ≤ w.heap.size + 1; omega) _).setCell (by show _ ≤ w.heap.size + 1; omega) _⟩
    · go_enter Tryz.func22, Tryz.ntmps22
      go_wp2_with fail
      refine (KG.out _ (by go_grown)).mono ?_
      rintro e w1 ⟨rfl, hb1⟩
      have M1 := Lib.hid (Mcell.below (b := w.heap.size + 1) (Mcell.new (by simp)) hb1)
      have B1 : Hid (Below w.heap.size w w1) := Lib.hid (Below.trans (by go_grown) (hb1.mono (by simp; omega)))
      have lt1 : w.heap.size + 1 < w1.heap.size := M1.out.lt
      clear hb1
      have tk3 : True := trivial
      have tk4 : True := trivial
      go_wp2_with
        (first
          | (have _t := tk3; clear _t tk3; refine wpList_allocM rfl 85 rfl (ints (gL 0 0 [] [] 0)) Tryz.allocGrid ?_
             intro w2 hc2 hb2 hs2
             have CC := Lib.hid hc2
             have B1 : Hid (Below w.heap.size w w2) := Lib.hid (B1.out.trans (hb2.mono B1.out.size))
             have M1 := Lib.hid (M1.out.below hb2)
             clear hc2 hb2 hs2)
          | (have _t := tk4; clear _t tk4; refine wpList_storeM rfl 85 (.tmp 6) (.tmp 14) rfl w1.heap.size 0 rfl (ints G) rfl 85 (ints (gL 0 0 [] [] 0)) CC.out (by rw [HLG.out]; exact Nat.le_refl _) (by rw [HLG.out]; exact Tryz.sizeGrid) (fun v hv => ints_one hv) ?_
             intro w3 hc3 ha3
             have B1 : Hid (Below w.heap.size w w3) := Lib.hid (B1.out.trans (ha3.below (by omega)))
             have M1 := Lib.hid (M1.out.of_block (ha3.block _ (by omega)))
             obtain ⟨mc0, mc1, mc2, mc3, mc4, mc5⟩ := M1.out
             clear hc3 ha3))
      clear mc0 mc1 mc2 mc3 mc4 mc5
      have M6 := M1.out.write (.slice none 0 0) (.slice none 0 0) 0
      refine bodyPost_ret (results_mid2 Tryz.results22 _ _ (w.heap.size + 1) _ _ (.bool false) rfl rfl M6.range Tryz.underlying26 rfl Tryz.sizeMd) rfl ?_
      rw [HA.out]
      exact ⟨_, rfl, Mo.none _ _ _, ((B1.out.setCell (by show _ ≤ w.heap.size + 1; omega) _).setCell (by show _ ≤ w.heap.size + 1; omega) _).setCell (by show _ ≤ w.heap.size + 1; omega) _⟩
  · have hm : mdOk m = true := by
      cases h : mdOk m with
      | true => rfl
      | false => exact absurd (.inl h) hbad
    have hl20 : ll.length ≤ 20 := by
      rcases Nat.lt_or_ge 20 ll.length with h | h
      · exact absurd (.inr h) hbad
      · exact h
    have HA : Hid (annAllR m ll = annList m ll) := Lib.hid (by unfold annAllR; rw [hm, decide_eq_true hl20]; rfl)
    have HLG : Hid ((ints (gOf m)).length = 67) := Lib.hid (by rw [ints_len]; exact gL_len (md_small hm))
    have KM := Lib.hid (fun W => gridModel_any m (md_fits2 hm) W)
    rw [show gL m.facts.length m.blocks.length m.facts m.blocks m.actual = gOf m from rfl] at KM
    unfold GdAns at KG
    simp only [hm, if_true, Option.getD_some, Option.isSome_some] at KG
    have d20 : decide ((20 : Int) < (ll.length : Int)) = false := decide_eq_false (by omega)
    have HN := Lib.hid (fun (M : Md) (k : Nat) => annList_none (M := M) (ll := ll) (k := k))
    have HS := Lib.hid (fun (M R : Md) (k : Nat) => annList_some (M := M) (R := R) (ll := ll) (k := k))
    have HE : Hid (annList m ll = annList m (ll.drop 0)) := Lib.hid rfl
    have HEE : Hid (∀ M, annList M (ll.drop ll.length) = some M) := Lib.hid (fun M => by rw [List.drop_of_length_le (Nat.le_refl _)]; rfl)
    generalize gOf m = G at *
    generalize annAllR m ll = RES at *
    clear hbad hm
    go_enter Tryz.func22, Tryz.ntmps22
    go_wp2_with fail
    refine (KG.out _ (by go_grown)).mono ?_
    rintro e w1 ⟨rfl, hb1⟩
    have M1 := Lib.hid (Mcell.below (b := w.heap.size + 1) (Mcell.new (by simp)) hb1)
    have B1 : Hid (Below w.heap.size w w1) := Lib.hid (Below.trans (by go_grown) (hb1.mono (by simp; omega)))
    have lt1 : w.heap.size + 1 < w1.heap.size := M1.out.lt
    clear hb1
    have tk5 : True := trivial
    have tk6 : True := trivial
    have tk7 : True := trivial
    go_wp2_with
      (first
        | (have _t := tk5; clear _t tk5; refine wpList_allocM rfl 85 rfl (ints (gL 0 0 [] [] 0)) Tryz.allocGrid ?_
           intro w2 hc2 hb2 hs2
           have CC := Lib.hid hc2
           have B1 : Hid (Below w.heap.size w w2) := Lib.hid (B1.out.trans (hb2.mono B1.out.size))
           have M1 := Lib.hid (M1.out.below hb2)
           clear hc2 hb2 hs2)
        | (have _t := tk6; clear _t tk6; refine wpList_storeM rfl 85 (.tmp 6) (.tmp 14) rfl w1.heap.size 0 rfl (ints G) rfl 85 (ints (gL 0 0 [] [] 0)) CC.out (by rw [HLG.out]; exact Nat.le_refl _) (by rw [HLG.out]; exact Tryz.sizeGrid) (fun v hv => ints_one hv) ?_
           intro w3 hc3 ha3
           rw [lay'_all (by rw [HLG.out]; rfl)] at hc3
           have CC := Lib.hid hc3
           have B1 : Hid (Below w.heap.size w w3) := Lib.hid (B1.out.trans (ha3.below (by omega)))
           have M1 := Lib.hid (M1.out.of_block (ha3.block _ (by omega)))
           clear hc3 ha3)
        | (have _t := tk7; clear _t tk7; refine wpList_loadM rfl 85 _ rfl w1.heap.size 0 rfl 85 (ints G) (ints G) CC.out (fun j _ => by rw [Nat.zero_add]) _ Tryz.underlying85 rfl (by rw [HLG.out]; exact Tryz.sizeGrid) ?_))
    refine (KM.out _).mono ?_
    rintro e w4 ⟨v4, rfl, ho4, hb4⟩
    have M1 := Lib.hid (M1.out.below hb4)
    have B1 := Lib.hid (B1.out.trans (hb4.mono B1.out.size))
    have lt4 : w.heap.size + 1 < w4.heap.size := M1.out.lt
    have lt3 : w1.heap.size < w3.heap.size := CC.out.lt
    have O4 := Lib.hid (ho4.wide (lo' := w.heap.size + 2) (by omega) (Nat.le_refl _))
    obtain ⟨qa, qc, pa, pc, e4⟩ := ho4.read.form
    subst e4
    clear ho4 hb4
    have hb8 : Below w4.heap.size w4 (w4.alloc (.cells #[.slice qa m.facts.length qc, .slice pa m.blocks.length pc, .int .i64 m.actual] 26)) := (Below.refl _ _).alloc (Nat.le_refl _) _
    have M1 := Lib.hid (M1.out.below hb8)
    have O4 := Lib.hid ((O4.out.keeps (Keeps.of_all hb8)).wide (Nat.le_refl _) hb8.size)
    have B1 := Lib.hid (B1.out.trans (hb8.mono B1.out.size))
    have X8 : Hid (Mcell (w4.alloc (.cells #[.slice qa m.facts.length qc, .slice pa m.blocks.length pc, .int .i64 m.actual] 26)) w4.heap.size (.slice qa m.facts.length qc) (.slice pa m.blocks.length pc) m.actual) := Lib.hid (Mcell.new rfl)
    clear hb8 CC KG KM HLG
    go_wp2
    go_loopw [28] (fun iv wr => ∃ (k : Nat) (M : Md) (fa ba : Option Addr) (fc bc : Nat), k ≤ ll.length ∧ iv = .int .i64 k ∧ Hid (RES = annList M (ll.drop k)) ∧ Hid (Mo (w.heap.size + 2) wr.heap.size wr (.agg #[.slice fa M.facts.length fc, .slice ba M.blocks.length bc, .int .i64 M.actual]) M) ∧ Hid (Mcell wr w4.heap.size (.slice fa M.facts.length fc) (.slice ba M.blocks.length bc) M.actual) ∧ Hid (Mcell wr (w.heap.size + 1) (.slice none 0 0) (.slice none 0 0) 0) ∧ Hid (Below w.heap.size w wr)) (fun iv _ => ll.length - (intOf iv).toNat)
    case atStart => exact ⟨0, m, qa, pa, qc, pc, Nat.zero_le _, rfl, Lib.hid (by rw [HA.out, HE.out]), O4, X8, M1, B1⟩
    case round =>
      clear O4 X8 M1 B1
      obtain ⟨k, M, fa, ba, fc, bc, hk, rfl, HJ, HO, HX, HM, HB⟩ := hrel
      by_cases hlt : k < ll.length
      · obtain ⟨b, o, u, rfl, -, -, hb, hc0, hu⟩ := H2.out k hlt
        rw [← HB.out.cell (p := ⟨b, o + k, none⟩) hb] at hc0
        obtain ⟨ua, uc, rfl, -⟩ := hu.parts
        have hu2 := hu.below HB.out (Nat.le_refl _)
        have KA := Lib.hid (implAnn_any (w.heap.size + 2) wr.heap.size _ _ M (ll.getD k []) wr HO.out.read (Nat.le_refl _) hu2)
        have HN := Lib.hid (HN.out M k hlt)
        have HS := Lib.hid (fun R => HS.out M R k hlt)
        clear hu hu2
        generalize ll.getD k [] = f at *
        unfold MdAns2 at KA
        cases hR : annR M f with
        | none =>
          have HR : Hid (RES = none) := Lib.hid (by rw [HJ.out, HN.out hR])
          rw [hR] at KA
          simp only [Option.getD_none, Option.isSome_none] at KA
          clear hR HN HS HJ HO
          have ltx : w4.heap.size < wr.heap.size := HX.out.lt
          obtain ⟨x0, x1, x2, x3, x4, x5⟩ := HX.out
          go_wp2_with fail
          clear x0 x1 x2 x3 x4 x5 hc0
          refine KA.out.mono ?_
          rintro e w5 ⟨v5, rfl, ho5, hb5⟩
          have HX := Lib.hid (HX.out.below hb5)
          have HM := Lib.hid (HM.out.below hb5)
          have HB := Lib.hid (HB.out.trans (hb5.mono HB.out.size))
          have lt5 : wr.heap.size ≤ w5.heap.size := hb5.size
          obtain ⟨ga, gc, da, dc, e5⟩ := ho5.read.form
          subst e5
          have HO := Lib.hid ho5
          clear hb5 KA ho5
          obtain ⟨x0, x1, x2, x3, x4, x5⟩ := HX.out
          obtain ⟨y0, y1, y2, y3, y4, y5⟩ := HM.out
          have hne : ¬ w4.heap.size = w.heap.size + 1 := by omega
          go_wp2
          clear x0 x1 x2 x3 x4 x5 y0 y1 y2 y3 y4 y5
          have hbne : w.heap.size + 1 ≠ w4.heap.size := fun h => hne h.symm
          have M6 := (((HM.out.other hbne 0 (.slice ga 0 gc)).other hbne 1 (.slice da 0 dc)).other hbne 2 (.int .i64 0)).write (.slice none 0 0) (.slice none 0 0) 0
          have B6 := ((HB.out.setCell (p := ⟨w4.heap.size, 0, none⟩) (by show _ ≤ w4.heap.size; omega) (.slice ga 0 gc)).setCell (p := ⟨w4.heap.size, 1, none⟩) (by show _ ≤ w4.heap.size; omega) (.slice da 0 dc)).setCell (p := ⟨w4.heap.size, 2, none⟩) (by show _ ≤ w4.heap.size; omega) (.int .i64 0)
          refine bodyPost_ret (results_mid2 Tryz.results22 _ _ (w.heap.size + 1) _ _ (.bool false) rfl rfl M6.range Tryz.underlying26 rfl Tryz.sizeMd) rfl ?_
          rw [HR.out]
          exact ⟨_, rfl, Mo.none _ _ _, ((B6.setCell (by show _ ≤ w.heap.size + 1; omega) _).setCell (by show _ ≤ w.heap.size + 1; omega) _).setCell (by show _ ≤ w.heap.size + 1; omega) _⟩
        | some R =>
          have HR : Hid (RES = annList R (ll.drop (k + 1))) := Lib.hid (by rw [HJ.out, HS.out R hR])
          rw [hR] at KA
          simp only [Option.getD_some, Option.isSome_some] at KA
          clear hR HN HS HJ HO
          have ltx : w4.heap.size < wr.heap.size := HX.out.lt
          obtain ⟨x0, x1, x2, x3, x4, x5⟩ := HX.out
          go_wp2_with fail
          clear x0 x1 x2 x3 x4 x5 hc0
          refine KA.out.mono ?_
          rintro e w5 ⟨v5, rfl, ho5, hb5⟩
          have HX := Lib.hid (HX.out.below hb5)
          have HM := Lib.hid (HM.out.below hb5)
          have HB := Lib.hid (HB.out.trans (hb5.mono HB.out.size))
          have lt5 : wr.heap.size ≤ w5.heap.size := hb5.size
          obtain ⟨ga, gc, da, dc, e5⟩ := ho5.read.form
          subst e5
          have HO := Lib.hid ho5
          clear hb5 KA ho5
          obtain ⟨x0, x1, x2, x3, x4, x5⟩ := HX.out
          obtain ⟨y0, y1, y2, y3, y4, y5⟩ := HM.out
          have hne : ¬ w4.heap.size = w.heap.size + 1 := by omega
          go_wp2
          clear x0 x1 x2 x3 x4 x5 y0 y1 y2 y3 y4 y5
          go_roundw
          case rel =>
            have hbne : w.heap.size + 1 ≠ w4.heap.size := fun h => hne h.symm
            obtain ⟨o6, m6⟩ := ans_put2 (m := R) HX.out HO.out ltx
            exact ⟨k + 1, R, ga, da, gc, dc, by omega, by go_num, HR, Lib.hid (o6.wide (by omega) (by simp [World.setCell])), Lib.hid m6, Lib.hid (((HM.out.other hbne _ _).other hbne _ _).other hbne _ _),
              Lib.hid (((HB.out.setCell (p := ⟨w4.heap.size, 0, none⟩) (by show _ ≤ w4.heap.size; omega) _).setCell (p := ⟨w4.heap.size, 1, none⟩) (by show _ ≤ w4.heap.size; omega) _).setCell (p := ⟨w4.heap.size, 2, none⟩) (by show _ ≤ w4.heap.size; omega) _)⟩
          case measure => simp [intOf]; omega
      · obtain rfl : k = ll.length := by omega
        have HR : Hid (RES = some M) := Lib.hid (by rw [HJ.out, HEE.out])
        have ltx : w4.heap.size < wr.heap.size := HX.out.lt
        have lty : w.heap.size + 1 < wr.heap.size := HM.out.lt
        obtain ⟨x0, x1, x2, x3, x4, x5⟩ := HX.out
        obtain ⟨y0, y1, y2, y3, y4, y5⟩ := HM.out
        go_wp2
        clear x0 x1 x2 x3 x4 x5 y0 y1 y2 y3 y4 y5
        obtain ⟨o9, m9⟩ := ans_put2 (m := M) HM.out HO.out (by omega)
        refine bodyPost_ret (results_mid2 Tryz.results22 _ _ (w.heap.size + 1) _ _ (.bool true) rfl rfl m9.range Tryz.underlying26 rfl Tryz.sizeMd) rfl ?_
        rw [HR.out]
        exact ⟨_, rfl, o9.wide (by omega) (by simp [World.setCell]), ((HB.out.setCell (by show _ ≤ w.heap.size + 1; omega) _).setCell (by show _ ≤ w.heap.size + 1; omega) _).setCell (by show _ ≤ w.heap.size + 1; omega) _⟩
end Go.Proofs.YtodjohdbngbpaaaGreat
