/-
  Several texts in one: Sty Ans. Conditions: as each theorem says.
-/
import Derived.Test.YtodjohdbngbpaaaZFen
import Derived.Test.YtodjohdbngbpaaaZSvb
import Derived.Test.YtodjohdbngbpaaaTho
import Derived.Test.YtodjohdbngbpaaaTww
import Derived.Test.YtodjohdbngbpaaaRsp
import Derived.Test.YtodjohdbngbpaaaRmy
/-
  staying: the iterator over the worlds that stay when a formula is announced. No condition but the readings.
-/
namespace Go.Proofs.Ytodjohdbngbpaaa
open Go.RowKit Go.WideShapes
open Go Go.Deep
set_option linter.unusedSimpArgs false

/-- the worlds that stay when a formula is announced -/
def stayP (m : Md) (xs : List Nd) : Nat → Bool := if holdsR m xs then evP m xs else fun _ => false
/-- an iterator over a set, in new memory -/
def StayAns (w : World) (p : Nat → Bool) (e : Ending) (w' : World) : Prop :=
  ∃ Bn, e = .returned (.func (.func 93) #[] #[.pointer (some ⟨Bn, 0, none⟩)]) ∧ w.heap.size ≤ Bn ∧ Cm w' Bn 74 (bL p) ∧ Below w.heap.size w w'

set_option maxRecDepth 100000 in
set_option maxHeartbeats 16000000 in
theorem staying_any (lo hi : Nat) (v v2 : Value) (m : Md) (xs : List Nd) (w : World) (hr : Mv lo hi w v m) (hhi : hi ≤ w.heap.size) (hr2 : Ns w v2 xs) :
    Calls Try.prog 60 #[v, v2] w (StayAns w (stayP m xs)) := by
  obtain ⟨G, P, hl, hT, hF, hK⟩ := truthIn_gen lo hi v v2 m xs w hr hhi hr2
  have HLG := Lib.hid hl
  have KT := Lib.hid hK
  have HT := Lib.hid hT
  have HF := Lib.hid hF
  clear hl hK hT hF
  obtain ⟨fv, bv, rfl, hf, hb⟩ := hr
  obtain ⟨a2, c2, rfl, -⟩ := hr2.parts
  clear hf hb hr2
  cases hok : evOk m xs with
  | false =>
    have HA : Hid (stayP m xs = fun _ => false) := Lib.hid (by unfold stayP holdsR; rw [hok]; rfl)
    rw [hok] at KT
    clear HT HF hok
    go_enter Try.func60, Try.ntmps60
    go_wp2_with fail
    refine (KT.out _ (by go_grown)).mono ?_
    rintro e w1 ⟨rfl, hb1⟩
    have B1 : Hid (Below w.heap.size w w1) := Lib.hid (Below.trans (by go_grown) (hb1.mono (by simp)))
    clear hb1
    have sb1 : w.heap.size ≤ w1.heap.size := B1.out.size
    have tk1 : True := trivial
    have tk2 : True := trivial
    have tk3 : True := trivial
    have tk4 : True := trivial
    have tk5 : True := trivial
    go_wp2_with
      (first
        | (have _t := tk1; clear _t tk1; refine wpList_allocM rfl 60 rfl (ints (gL 0 0 [] [] 0)) Try.allocGrid ?_
           intro w2 hc1 hb1 hs1
           have G1 := Lib.hid hc1
           have B1 := Lib.hid (B1.out.trans (hb1.mono B1.out.size))
           have lt2 : w1.heap.size < w2.heap.size := G1.out.lt
           clear hc1 hb1 hs1)
        | (have _t := tk2; clear _t tk2; refine wpList_allocM rfl 74 rfl (bL (fun _ => false)) Try.allocSet ?_
           intro w3 hc1 hb1 hs1
           have Q1 := Lib.hid hc1
           have G1 := Lib.hid (G1.out.all hb1)
           have B1 := Lib.hid (B1.out.trans (hb1.mono B1.out.size))
           have lt3 : w2.heap.size < w3.heap.size := Q1.out.lt
           clear hc1 hb1 hs1)
        | (have _t := tk3; clear _t tk3; refine wpList_storeM rfl 60 (.tmp 5) (.tmp 12) rfl w1.heap.size 0 rfl (ints G) rfl 60 (ints (gL 0 0 [] [] 0)) G1.out (by rw [HLG.out]; exact Nat.le_refl _) (by rw [HLG.out]; exact Try.sizeGrid) (fun v hv => ints_one hv) ?_
           intro w4 hc3 ha3
           rw [lay'_all (by rw [HLG.out]; rfl)] at hc3
           have G1 := Lib.hid hc3
           have Q1 := Lib.hid (ha3.cm Q1.out (by omega))
           have B1 : Hid (Below w.heap.size w w4) := Lib.hid (B1.out.trans (ha3.below (by omega)))
           clear hc3 ha3)
        | (have _t := tk4; clear _t tk4; refine wpList_storeM rfl 74 (.tmp 6) (.tmp 13) rfl w2.heap.size 0 rfl (bL P) rfl 74 _ Q1.out (by rw [bL_len, bL_len]; exact Nat.le_refl _) (by rw [bL_len]; exact Try.sizeSet) (fun v hv => bL_one hv) ?_
           intro w5 hc3 ha3
           rw [lay'_all (by rw [bL_len, bL_len])] at hc3
           have Q1 := Lib.hid hc3
           have G1 := Lib.hid (ha3.cm G1.out (by omega))
           have B1 : Hid (Below w.heap.size w w5) := Lib.hid (B1.out.trans (ha3.below (by omega)))
           clear hc3 ha3)
        | (have _t := tk5; clear _t tk5; refine wpList_buildM rfl 74 _ rfl #[] (by simp) (bL (fun _ => false)) (Try.buildSet _) ?_))
    refine (each_any (fun _ => false) _).mono ?_
    rintro e w6 ⟨rfl, rfl⟩
    have HN : Hid (Cm (w5.alloc (.cells (bL (fun _ => false)).toArray 74)) w5.heap.size 74 (bL (fun _ => false))) := Lib.hid (Cm.new rfl)
    have HB6 : Hid (Below w.heap.size w (w5.alloc (.cells (bL (fun _ => false)).toArray 74))) := Lib.hid (B1.out.alloc B1.out.size _)
    have sb5 : w.heap.size ≤ w5.heap.size := B1.out.size
    go_wp2
    go_ret
    exact ⟨_, rfl, sb5, by rw [HA.out]; exact HN.out, HB6.out⟩
  | true =>
    have HP := ok_len hok
    obtain ⟨-, -, -, -, -, -, p7, p8⟩ := mdOk_parts (evOk_parts hok).1
    obtain ⟨act, hact⟩ := Int.eq_ofNat_of_zero_le p7
    have g66 := (HT.out hok).2.1
    rw [hact] at g66
    have G66 := Lib.hid g66
    have hPe := (HT.out hok).2.2.1
    have hh : holdsR m xs = P act := by unfold holdsR; rw [hok, hPe, hact]; rfl
    rw [hok] at KT
    have hal : act < 16 := by omega
    clear HT HF hok g66 p7 p8 hact HP
    cases hb : P act with
    | true =>
      have HB := Lib.hid hb
      have HA : Hid (stayP m xs = P) := Lib.hid (by unfold stayP; rw [hh, hb, hPe]; rfl)
      clear hb hh hPe
      go_enter Try.func60, Try.ntmps60
      go_wp2_with fail
      refine (KT.out _ (by go_grown)).mono ?_
      rintro e w1 ⟨rfl, hb1⟩
      have B1 : Hid (Below w.heap.size w w1) := Lib.hid (Below.trans (by go_grown) (hb1.mono (by simp)))
      clear hb1
      have sb1 : w.heap.size ≤ w1.heap.size := B1.out.size
      have tk6 : True := trivial
      have tk7 : True := trivial
      have tk8 : True := trivial
      have tk9 : True := trivial
      have tk10 : True := trivial
      go_wp2_with
        (first
          | (have _t := tk6; clear _t tk6; refine wpList_allocM rfl 60 rfl (ints (gL 0 0 [] [] 0)) Try.allocGrid ?_
             intro w2 hc1 hb1 hs1
             have G1 := Lib.hid hc1
             have B1 := Lib.hid (B1.out.trans (hb1.mono B1.out.size))
             have lt2 : w1.heap.size < w2.heap.size := G1.out.lt
             clear hc1 hb1 hs1)
          | (have _t := tk7; clear _t tk7; refine wpList_allocM rfl 74 rfl (bL (fun _ => false)) Try.allocSet ?_
             intro w3 hc1 hb1 hs1
             have Q1 := Lib.hid hc1
             have G1 := Lib.hid (G1.out.all hb1)
             have B1 := Lib.hid (B1.out.trans (hb1.mono B1.out.size))
             have lt3 : w2.heap.size < w3.heap.size := Q1.out.lt
             clear hc1 hb1 hs1)
          | (have _t := tk8; clear _t tk8; refine wpList_storeM rfl 60 (.tmp 5) (.tmp 12) rfl w1.heap.size 0 rfl (ints G) rfl 60 (ints (gL 0 0 [] [] 0)) G1.out (by rw [HLG.out]; exact Nat.le_refl _) (by rw [HLG.out]; exact Try.sizeGrid) (fun v hv => ints_one hv) ?_
             intro w4 hc3 ha3
             rw [lay'_all (by rw [HLG.out]; rfl)] at hc3
             have G1 := Lib.hid hc3
             have Q1 := Lib.hid (ha3.cm Q1.out (by omega))
             have B1 : Hid (Below w.heap.size w w4) := Lib.hid (B1.out.trans (ha3.below (by omega)))
             clear hc3 ha3)
          | (have _t := tk9; clear _t tk9; refine wpList_storeM rfl 74 (.tmp 6) (.tmp 13) rfl w2.heap.size 0 rfl (bL P) rfl 74 _ Q1.out (by rw [bL_len, bL_len]; exact Nat.le_refl _) (by rw [bL_len]; exact Try.sizeSet) (fun v hv => bL_one hv) ?_
             intro w5 hc3 ha3
             rw [lay'_all (by rw [bL_len, bL_len])] at hc3
             have Q1 := Lib.hid hc3
             have G1 := Lib.hid (ha3.cm G1.out (by omega))
             have B1 : Hid (Below w.heap.size w w5) := Lib.hid (B1.out.trans (ha3.below (by omega)))
             clear hc3 ha3
             have c66 : w5.cell? ⟨w1.heap.size, 66, none⟩ = some (.int .i64 act) := (G1.out.cell 66).trans G66.out
             have cq : w5.cell? ⟨w2.heap.size, act, none⟩ = some (.bool true) := (Q1.out.cell act).trans ((bL_get P hal).trans (by rw [HB.out]))
             have a0 : (0 : Int) ≤ (act : Int) := Int.natCast_nonneg _
             have a16 : (act : Int) < 16 := by omega)
          | (have _t := tk10; clear _t tk10; refine wpList_loadM rfl 74 _ rfl w2.heap.size 0 rfl 74 (bL P) (bL P) Q1.out (fun j _ => by rw [Nat.zero_add]) _ Try.underlying74 rfl (by rw [bL_len]; exact Try.sizeSet) ?_))
      refine (each_any (P) _).mono ?_
      rintro e w6 ⟨rfl, rfl⟩
      have HN : Hid (Cm (w5.alloc (.cells (bL (P)).toArray 74)) w5.heap.size 74 (bL (P))) := Lib.hid (Cm.new rfl)
      have HB6 : Hid (Below w.heap.size w (w5.alloc (.cells (bL (P)).toArray 74))) := Lib.hid (B1.out.alloc B1.out.size _)
      have sb5 : w.heap.size ≤ w5.heap.size := B1.out.size
      go_wp2
      go_ret
      exact ⟨_, rfl, sb5, by rw [HA.out]; exact HN.out, HB6.out⟩
    | false =>
      have HB := Lib.hid hb
      have HA : Hid (stayP m xs = fun _ => false) := Lib.hid (by unfold stayP; rw [hh, hb]; rfl)
      clear hb hh hPe
      go_enter Try.func60, Try.ntmps60
      go_wp2_with fail
      refine (KT.out _ (by go_grown)).mono ?_
      rintro e w1 ⟨rfl, hb1⟩
      have B1 : Hid (Below w.heap.size w w1) := Lib.hid (Below.trans (by go_grown) (hb1.mono (by simp)))
      clear hb1
      have sb1 : w.heap.size ≤ w1.heap.size := B1.out.size
      have tk11 : True := trivial
      have tk12 : True := trivial
      have tk13 : True := trivial
      have tk14 : True := trivial
      have tk15 : True := trivial
      go_wp2_with
        (first
          | (have _t := tk11; clear _t tk11; refine wpList_allocM rfl 60 rfl (ints (gL 0 0 [] [] 0)) Try.allocGrid ?_
             intro w2 hc1 hb1 hs1
             have G1 := Lib.hid hc1
             have B1 := Lib.hid (B1.out.trans (hb1.mono B1.out.size))
             have lt2 : w1.heap.size < w2.heap.size := G1.out.lt
             clear hc1 hb1 hs1)
          | (have _t := tk12; clear _t tk12; refine wpList_allocM rfl 74 rfl (bL (fun _ => false)) Try.allocSet ?_
             intro w3 hc1 hb1 hs1
             have Q1 := Lib.hid hc1
             have G1 := Lib.hid (G1.out.all hb1)
             have B1 := Lib.hid (B1.out.trans (hb1.mono B1.out.size))
             have lt3 : w2.heap.size < w3.heap.size := Q1.out.lt
             clear hc1 hb1 hs1)
          | (have _t := tk13; clear _t tk13; refine wpList_storeM rfl 60 (.tmp 5) (.tmp 12) rfl w1.heap.size 0 rfl (ints G) rfl 60 (ints (gL 0 0 [] [] 0)) G1.out (by rw [HLG.out]; exact Nat.le_refl _) (by rw [HLG.out]; exact Try.sizeGrid) (fun v hv => ints_one hv) ?_
             intro w4 hc3 ha3
             rw [lay'_all (by rw [HLG.out]; rfl)] at hc3
             have G1 := Lib.hid hc3
             have Q1 := Lib.hid (ha3.cm Q1.out (by omega))
             have B1 : Hid (Below w.heap.size w w4) := Lib.hid (B1.out.trans (ha3.below (by omega)))
             clear hc3 ha3)
          | (have _t := tk14; clear _t tk14; refine wpList_storeM rfl 74 (.tmp 6) (.tmp 13) rfl w2.heap.size 0 rfl (bL P) rfl 74 _ Q1.out (by rw [bL_len, bL_len]; exact Nat.le_refl _) (by rw [bL_len]; exact Try.sizeSet) (fun v hv => bL_one hv) ?_
             intro w5 hc3 ha3
             rw [lay'_all (by rw [bL_len, bL_len])] at hc3
             have Q1 := Lib.hid hc3
             have G1 := Lib.hid (ha3.cm G1.out (by omega))
             have B1 : Hid (Below w.heap.size w w5) := Lib.hid (B1.out.trans (ha3.below (by omega)))
             clear hc3 ha3
             have c66 : w5.cell? ⟨w1.heap.size, 66, none⟩ = some (.int .i64 act) := (G1.out.cell 66).trans G66.out
             have cq : w5.cell? ⟨w2.heap.size, act, none⟩ = some (.bool false) := (Q1.out.cell act).trans ((bL_get P hal).trans (by rw [HB.out]))
             have a0 : (0 : Int) ≤ (act : Int) := Int.natCast_nonneg _
             have a16 : (act : Int) < 16 := by omega)
          | (have _t := tk15; clear _t tk15; refine wpList_buildM rfl 74 _ rfl #[] (by simp) (bL (fun _ => false)) (Try.buildSet _) ?_))
      refine (each_any (fun _ => false) _).mono ?_
      rintro e w6 ⟨rfl, rfl⟩
      have HN : Hid (Cm (w5.alloc (.cells (bL (fun _ => false)).toArray 74)) w5.heap.size 74 (bL (fun _ => false))) := Lib.hid (Cm.new rfl)
      have HB6 : Hid (Below w.heap.size w (w5.alloc (.cells (bL (fun _ => false)).toArray 74))) := Lib.hid (B1.out.alloc B1.out.size _)
      have sb5 : w.heap.size ≤ w5.heap.size := B1.out.size
      go_wp2
      go_ret
      exact ⟨_, rfl, sb5, by rw [HA.out]; exact HN.out, HB6.out⟩

end Go.Proofs.Ytodjohdbngbpaaa

/-
  spec.Announce: the model of the worlds in which a formula is true. No condition but the readings.
-/
namespace Go.Proofs.Ytodjohdbngbpaaa
open Go.RowKit Go.WideShapes
open Go Go.Deep
set_option linter.unusedSimpArgs false

/-- what Announce answers -/
def annR (m : Md) (xs : List Nd) : Option Md := if holdsR m xs then some (restM m (lst (evP m xs) 16)) else none
theorem holds_ok {m : Md} {xs : List Nd} (h : holdsR m xs = true) : evOk m xs = true ∧ evP m xs m.actual.toNat = true := by
  unfold holdsR at h; rw [Bool.and_eq_true] at h; exact h
theorem ann_fits {m : Md} {xs : List Nd} (h : holdsR m xs = true) : fits (restM m (lst (evP m xs) 16)) := rest_fits (evOk_parts (holds_ok h).1).1 _ (lst_len _ _)
theorem ann_size (m : Md) (xs : List Nd) : msize ((annR m xs).getD ⟨[], [], 0⟩) + ((annR m xs).getD ⟨[], [], 0⟩).blocks.length ≤ 1048576 := by
  unfold annR
  split
  · rename_i h; exact fits_size (ann_fits h)
  · decide

theorem at_keeps {b lo hi : Nat} {w w' : World} (h : At b w w') (ha : b < lo ∨ hi ≤ b) : Keeps lo hi w w' := ⟨Nat.le_of_eq h.size.symm, fun k h1 h2 _ => h.block k (by omega)⟩

set_option maxRecDepth 100000 in
set_option maxHeartbeats 16000000 in
theorem specAnn_any (lo hi : Nat) (v v2 : Value) (m : Md) (xs : List Nd) (w : World) (hr : Mv lo hi w v m) (hhi : hi ≤ w.heap.size) (hr2 : Ns w v2 xs) :
    Calls Try.prog 59 #[v, v2] w (MdAns2 w (annR m xs)) := by
  have KH := Lib.hid (fun W (h : Below w.heap.size w W) => specHolds_any lo hi v v2 m xs W (hr.keeps (Keeps.of_all h)) (Nat.le_trans hhi h.size) (hr2.below h (Nat.le_refl _)))
  have KW := Lib.hid (fun W (h : Below w.heap.size w W) => specWhere_any lo hi v v2 m xs W (hr.keeps (Keeps.of_all h)) (Nat.le_trans hhi h.size) (hr2.below h (Nat.le_refl _)))
  cases hok : holdsR m xs with
  | false =>
    rw [hok] at KH
    have HA : Hid (annR m xs = none) := Lib.hid (by unfold annR; rw [hok]; rfl)
    clear KW hok
    obtain ⟨fv, bv, rfl, hf, hb⟩ := hr
    obtain ⟨a2, c2, rfl, -⟩ := hr2.parts
    clear hf hb hr2
    go_enter Try.func59, Try.ntmps59
    go_wp2_with fail
    refine (KH.out _ (by go_grown)).mono ?_
    rintro e w1 ⟨rfl, hb1⟩
    have M1 := Lib.hid (Mcell.below (b := w.heap.size + 1) (Mcell.new (by simp)) hb1)
    have B1 : Hid (Below w.heap.size w w1) := Lib.hid (Below.trans (by go_grown) (hb1.mono (by simp; omega)))
    clear hb1
    obtain ⟨mc0, mc1, mc2, mc3, mc4, mc5⟩ := M1.out
    go_wp2
    clear mc0 mc1 mc2 mc3 mc4 mc5
    have M6 := M1.out.write (.slice none 0 0) (.slice none 0 0) 0
    refine bodyPost_ret (results_mid2 Try.results59 _ _ (w.heap.size + 1) _ _ (.bool false) rfl rfl M6.range Try.underlying27 rfl Try.sizeMd) rfl ?_
    rw [HA.out]
    exact ⟨_, rfl, Mo.none _ _ _, ((B1.out.setCell (by show _ ≤ w.heap.size + 1; omega) _).setCell (by show _ ≤ w.heap.size + 1; omega) _).setCell (by show _ ≤ w.heap.size + 1; omega) _⟩
  | true =>
    rw [hok] at KH
    have hev := holds_ok hok
    have hmd := (evOk_parts hev.1).1
    have HA : Hid (annR m xs = some (restM m (lst (evP m xs) 16))) := Lib.hid (by unfold annR; rw [hok]; rfl)
    have KR := Lib.hid (fun W (h : Below w.heap.size w W) lo2 hi2 v4 (h4 : Iv lo2 hi2 W v4 (nums (lst (evP m xs) 16))) => specRestr_any lo hi lo2 hi2 v v4 m (lst (evP m xs) 16) W (hr.keeps (Keeps.of_all h)) h4 hmd
      (fun k hk => evP_in hev.1 (mem_lst.1 (List.getElem_mem hk)).2) (lst_nodup _ _) (lst_len _ _))
    have HWR : Hid (whereR m xs = nums (lst (evP m xs) 16)) := Lib.hid (by unfold whereR; rw [if_pos hev.1])
    rw [HWR.out] at KW
    clear HWR
    generalize restM m (lst (evP m xs) 16) = RM at *
    generalize nums (lst (evP m xs) 16) = ws at *
    clear hok hev hmd
    obtain ⟨fv, bv, rfl, hf, hb⟩ := hr
    obtain ⟨a2, c2, rfl, -⟩ := hr2.parts
    clear hf hb hr2
    go_enter Try.func59, Try.ntmps59
    go_wp2_with fail
    have X1 := Lib.hid (Mcell.alloc (Mcell.new (w := w) (T := 27) (b := w.heap.size) (fv := fv) (bv := bv) (n := m.actual) rfl) (.cells #[.slice none 0 0, .slice none 0 0, .int .i64 0] 27))
    have C1 : Cm ((w.alloc (.cells #[fv, bv, .int .i64 m.actual] 27)).alloc (.cells #[.slice none 0 0, .slice none 0 0, .int .i64 0] 27)) (w.heap.size + 1) 27 [.slice none 0 0, .slice none 0 0, .int .i64 0] := Cm.new (by simp)
    have hb0 : Below w.heap.size w ((w.alloc (.cells #[fv, bv, .int .i64 m.actual] 27)).alloc (.cells #[.slice none 0 0, .slice none 0 0, .int .i64 0] 27)) := by go_grown
    generalize (w.alloc (.cells #[fv, bv, .int .i64 m.actual] 27)).alloc (.cells #[.slice none 0 0, .slice none 0 0, .int .i64 0] 27) = w0 at *
    refine (KH.out _ hb0).mono ?_
    rintro e w1 ⟨rfl, hb1⟩
    have X1 := Lib.hid (X1.out.below hb1)
    have C1 := Lib.hid (C1.all hb1)
    have B1 := Lib.hid (hb0.trans (hb1.mono hb0.size))
    have lt1 : w.heap.size + 1 < w1.heap.size := C1.out.lt
    clear hb1 hb0
    go_wp2
    have HRG : Hid (∀ W, Below (w.heap.size + 1) w1 W → W.rangeAt w.heap.size 0 [fv, bv, .int .i64 m.actual]) := Lib.hid (fun W h => (X1.out.of_block (h.block _ (by omega))).range)
    have HU : Try.prog.underlying 27 = some _ := Try.underlying27
    refine regionL (fun W => Below (w.heap.size + 1) w1 W) [] (by kernel_rfl) (Below.refl _ _).drew (fun hHeld => ?_)
    have t1 : Below w1.heap.size w1 w1.drew := (Below.refl _ _).drew
    refine takeA (i := 0) (v := .agg #[fv, bv, .int .i64 m.actual]) 11 rfl rfl (by kernel_rfl) (by kernel_rfl) (by kernel_rfl) (by kernel_rfl) (fun _ _ _ h => h) (yieldsIf_load_mid (by rfl) 27 _ rfl w.heap.size 0 rfl [fv, bv, .int .i64 m.actual] _ HRG.out HU rfl Try.sizeMd) hHeld ?_
    simp only [Act.put, List.setIfInBounds_toArray, List.set_cons_zero, List.set_cons_succ]
    refine takeA (i := 1) (v := .agg #[fv, bv, .int .i64 m.actual]) 12 rfl rfl (by kernel_rfl) (by kernel_rfl) (by kernel_rfl) (by kernel_rfl) (fun _ _ _ h => h) (yieldsIf_load_mid (by rfl) 27 _ rfl w.heap.size 0 rfl [fv, bv, .int .i64 m.actual] _ HRG.out HU rfl Try.sizeMd) hHeld ?_
    simp only [Act.put, List.setIfInBounds_toArray, List.set_cons_zero, List.set_cons_succ]
    refine takeA (i := 2) (v := (.slice a2 xs.length c2)) 13 rfl rfl (by kernel_rfl) (by kernel_rfl) (by kernel_rfl) (by kernel_rfl) (fun _ _ _ h => h) (Or.inl ⟨by rfl, by intro W hSw; go_simp⟩) hHeld ?_
    simp only [Act.put, List.setIfInBounds_toArray, List.set_cons_zero, List.set_cons_succ]
    refine onlyL (i := 3) (by kernel_rfl) rfl (by rfl) (fun K hK => ?_)
    go_simp
    refine (KW.out _ (B1.out.trans (t1.mono B1.out.size))).mono ?_
    rintro e w2 ⟨v4, rfl, ho, hb⟩
    have t2 : Below w1.heap.size w1 w2 := t1.trans (hb.mono t1.size)
    have HO := Lib.hid ho.read
    clear hb hHeld ho
    refine hK.out _ _ (fun _ => t2.mono (by omega)) (fun hHeld => ?_)
    have hHeld := hHeld (by decide)
    clear hK K
    try simp only [Act.put, List.setIfInBounds_toArray, List.set_cons_zero, List.set_cons_succ]
    refine onlyL (i := 4) (by kernel_rfl) rfl (by rfl) (fun K hK => ?_)
    go_simp
    refine (KR.out _ (B1.out.trans (t2.mono B1.out.size)) _ _ _ HO.out).mono ?_
    rintro e w3 ⟨v3, rfl, ho3, hb3⟩
    have t3 : Below w1.heap.size w1 w3 := t2.trans (hb3.mono t2.size)
    obtain ⟨qa, qc, pa, pc, e3⟩ := ho3.read.form
    subst e3
    have O3 := Lib.hid ho3
    clear hb3 hHeld ho3
    refine hK.out _ _ (fun _ => t3.mono (by omega)) (fun hHeld => ?_)
    have hHeld := hHeld (by decide)
    clear hK K
    try simp only [Act.put, List.setIfInBounds_toArray, List.set_cons_zero, List.set_cons_succ]
    refine onlyL (i := 5) (by kernel_rfl) rfl (by rfl) (fun K hK => ?_)
    refine wp_storeM 27 (.tmp 4) (.tmp 15) rfl rfl (w.heap.size + 1) 0 rfl [.slice qa RM.facts.length qc, .slice pa RM.blocks.length pc, .int .i64 RM.actual] rfl 27 _ (C1.out.all t3) (by simp) Try.sizeMd (by simp [Value.oneCell']) ?_
    intro w4 hc4 ha4
    rw [lay'_all (by rfl)] at hc4
    have C4 := Lib.hid hc4
    have O4 := Lib.hid (O3.out.keeps (at_keeps ha4 (.inl (by have := t2.size; omega))))
    have hz4 : w3.heap.size = w4.heap.size := ha4.size.symm
    have B4 : Hid (Below w.heap.size w w4) := Lib.hid ((B1.out.trans (t3.mono B1.out.size)).trans (ha4.below (by omega)))
    have t4 : Below (w.heap.size + 1) w1 w4 := (t3.mono (by omega)).trans (ha4.below (Nat.le_refl _))
    have z2 := t2.size
    clear hc4 ha4 hHeld
    refine hK.out _ _ (fun _ => t4) (fun hHeld => ?_)
    have hHeld := hHeld (by decide)
    clear hK K
    try simp only [Act.put, List.setIfInBounds_toArray, List.set_cons_zero, List.set_cons_succ]
    refine takeA (i := 6) (v := (.bool true)) 5 rfl rfl (by kernel_rfl) (by kernel_rfl) (by kernel_rfl) (by kernel_rfl) (fun _ _ _ h => h) (Or.inl ⟨by rfl, by intro W hSw; go_simp⟩) hHeld ?_
    simp only [Act.put, List.setIfInBounds_toArray, List.set_cons_zero, List.set_cons_succ]
    refine doneL (by kernel_rfl) ?_ _
    go_wp2
    refine bodyPost_ret (results_mid2 Try.results59 _ _ (w.heap.size + 1) _ _ (.bool true) rfl rfl C4.out.whole Try.underlying27 rfl Try.sizeMd) rfl ?_
    rw [HA.out]
    exact ⟨_, rfl, O4.out.wide (by omega) (by omega), B4.out⟩
end Go.Proofs.Ytodjohdbngbpaaa
