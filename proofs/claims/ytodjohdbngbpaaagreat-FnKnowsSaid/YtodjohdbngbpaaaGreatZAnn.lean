/-
  Several texts in one: Sty Ans Col Ani Nss Aal. Conditions: as each theorem says.
-/
import Derived.Test.YtodjohdbngbpaaaGreatZFen
import Derived.Test.YtodjohdbngbpaaaGreatZSvb
import Derived.Test.YtodjohdbngbpaaaGreatTww
import Derived.Test.YtodjohdbngbpaaaGreatZSet
import Derived.Test.YtodjohdbngbpaaaGreatRmy
import Derived.Test.YtodjohdbngbpaaaGreatRma
import Derived.Test.YtodjohdbngbpaaaGreatZTerm
import Derived.Test.YtodjohdbngbpaaaGreatZLib
import Derived.Test.YtodjohdbngbpaaaGreatZReg
import Derived.Test.YtodjohdbngbpaaaGreatGof
import Derived.Test.YtodjohdbngbpaaaGreatZMok
/-
  staying: the iterator over the worlds that stay when a formula is announced. No condition but the readings.
-/
namespace Go.Proofs.YtodjohdbngbpaaaGreat
open Go.RowKit Go.WideShapes
open Go Go.Deep
set_option linter.unusedSimpArgs false

/-- the worlds that stay when a formula is announced -/
def stayP (m : Md) (xs : List Nd) : Nat → Bool := if holdsR m xs then evP m xs else fun _ => false
/-- an iterator over a set, in new memory -/
def StayAns (w : World) (p : Nat → Bool) (e : Ending) (w' : World) : Prop :=
  ∃ Bn, e = .returned (.func (.func 147) #[] #[.pointer (some ⟨Bn, 0, none⟩)]) ∧ w.heap.size ≤ Bn ∧ Cm w' Bn 89 (bL p) ∧ Below w.heap.size w w'

set_option maxRecDepth 100000 in
set_option maxHeartbeats 16000000 in
theorem staying_any (lo hi : Nat) (v v2 : Value) (m : Md) (xs : List Nd) (w : World) (hr : Mv lo hi w v m) (hhi : hi ≤ w.heap.size) (hr2 : Ns w v2 xs) :
    Calls Tryz.prog 65 #[v, v2] w (StayAns w (stayP m xs)) := by
  obtain ⟨G, P, hl, hT, hF, hK⟩ := truthIn_gen lo hi v v2 m xs w hr hhi hr2
  have HLG := Lib.hid hl
  have KT := Lib.hid hK
  have HT := Lib.hid hT
  have HF := Lib.hid hF
  clear hl hK hT hF
  obtain ⟨fv, bv, rfl, hf, hb⟩ := hr
  obtain ⟨a2, c2, rfl, -⟩ := hr2.parts
  clear hf hb hr2
  cases hok : evOk m xs with
  | false =>
    have HA : Hid (stayP m xs = fun _ => false) := Lib.hid (by unfold stayP holdsR; rw [hok]; rfl)
    rw [hok] at KT
    clear HT HF hok
    go_enter Tryz.func65, Tryz.ntmps65
    go_wp2_with fail
    refine (KT.out _ (by go_grown)).mono ?_
    rintro e w1 ⟨rfl, hb1⟩
    have B1 : Hid (Below w.heap.size w w1) := Lib.hid (Below.trans (by go_grown) (hb1.mono (by simp)))
    clear hb1
    have sb1 : w.heap.size ≤ w1.heap.size := B1.out.size
    have tk1 : True := trivial
    have tk2 : True := trivial
    have tk3 : True := trivial
    have tk4 : True := trivial
    have tk5 : True := trivial
    go_wp2_with
      (first
        | (have _t := tk1; clear _t tk1; refine wpList_allocM rfl 85 rfl (ints (gL 0 0 [] [] 0)) Tryz.allocGrid ?_
           intro w2 hc1 hb1 hs1
           have G1 := Lib.hid hc1
           have B1 := Lib.hid (B1.out.trans (hb1.mono B1.out.size))
           have lt2 : w1.heap.size < w2.heap.size := G1.out.lt
           clear hc1 hb1 hs1)
        | (have _t := tk2; clear _t tk2; refine wpList_allocM rfl 89 rfl (bL (fun _ => false)) Tryz.allocSet ?_
           intro w3 hc1 hb1 hs1
           have Q1 := Lib.hid hc1
           have G1 := Lib.hid (G1.out.all hb1)
           have B1 := Lib.hid (B1.out.trans (hb1.mono B1.out.size))
           have lt3 : w2.heap.size < w3.heap.size := Q1.out.lt
           clear hc1 hb1 hs1)
        | (have _t := tk3; clear _t tk3; refine wpList_storeM rfl 85 (.tmp 5) (.tmp 12) rfl w1.heap.size 0 rfl (ints G) rfl 85 (ints (gL 0 0 [] [] 0)) G1.out (by rw [HLG.out]; exact Nat.le_refl _) (by rw [HLG.out]; exact Tryz.sizeGrid) (fun v hv => ints_one hv) ?_
           intro w4 hc3 ha3
           rw [lay'_all (by rw [HLG.out]; rfl)] at hc3
           have G1 := Lib.hid hc3
           have Q1 := Lib.hid (ha3.cm Q1.out (by omega))
           have B1 : Hid (Below w.heap.size w w4) := Lib.hid (B1.out.trans (ha3.below (by omega)))
           clear hc3 ha3)
        | (have _t := tk4; clear _t tk4; refine wpList_storeM rfl 89 (.tmp 6) (.tmp 13) rfl w2.heap.size 0 rfl (bL P) rfl 89 _ Q1.out (by rw [bL_len, bL_len]; exact Nat.le_refl _) (by rw [bL_len]; exact Tryz.sizeSet) (fun v hv => bL_one hv) ?_
           intro w5 hc3 ha3
           rw [lay'_all (by rw [bL_len, bL_len])] at hc3
           have Q1 := Lib.hid hc3
           have G1 := Lib.hid (ha3.cm G1.out (by omega))
           have B1 : Hid (Below w.heap.size w w5) := Lib.hid (B1.out.trans (ha3.below (by omega)))
           clear hc3 ha3)
        | (have _t := tk5; clear _t tk5; refine wpList_buildM rfl 89 _ rfl #[] (by simp) (bL (fun _ => false)) (Tryz.buildSet _) ?_))
    refine (each_any (fun _ => false) _).mono ?_
    rintro e w6 ⟨rfl, rfl⟩
    have HN : Hid (Cm (w5.alloc (.cells (bL (fun _ => false)).toArray 89)) w5.heap.size 89 (bL (fun _ => false))) := Lib.hid (Cm.new rfl)
    have HB6 : Hid (Below w.heap.size w (w5.alloc (.cells (bL (fun _ => false)).toArray 89))) := Lib.hid (B1.out.alloc B1.out.size _)
    have sb5 : w.heap.size ≤ w5.heap.size := B1.out.size
    go_wp2
    go_ret
    exact ⟨_, rfl, sb5, by rw [HA.out]; exact HN.out, HB6.out⟩
  | true =>
    have HP := ok_len hok
    obtain ⟨-, -, -, -, -, -, p7, p8⟩ := mdOk_parts (evOk_parts hok).1
    obtain ⟨act, hact⟩ := Int.eq_ofNat_of_zero_le p7
    have g66 := (HT.out hok).2.1
    rw [hact] at g66
    have G66 := Lib.hid g66
    have hPe := (HT.out hok).2.2.1
    have hh : holdsR m xs = P act := by unfold holdsR; rw [hok, hPe, hact]; rfl
    rw [hok] at KT
    have hal : act < 16 := by omega
    clear HT HF hok g66 p7 p8 hact HP
    cases hb : P act with
    | true =>
      have HB := Lib.hid hb
      have HA : Hid (stayP m xs = P) := Lib.hid (by unfold stayP; rw [hh, hb, hPe]; rfl)
      clear hb hh hPe
      go_enter Tryz.func65, Tryz.ntmps65
      go_wp2_with fail
      refine (KT.out _ (by go_grown)).mono ?_
      rintro e w1 ⟨rfl, hb1⟩
      have B1 : Hid (Below w.heap.size w w1) := Lib.hid (Below.trans (by go_grown) (hb1.mono (by simp)))
      clear hb1
      have sb1 : w.heap.size ≤ w1.heap.size := B1.out.size
      have tk6 : True := trivial
      have tk7 : True := trivial
      have tk8 : True := trivial
      have tk9 : True := trivial
      have tk10 : True := trivial
      go_wp2_with
        (first
          | (have _t := tk6; clear _t tk6; refine wpList_allocM rfl 85 rfl (ints (gL 0 0 [] [] 0)) Tryz.allocGrid ?_
             intro w2 hc1 hb1 hs1
             have G1 := Lib.hid hc1
             have B1 := Lib.hid (B1.out.trans (hb1.mono B1.out.size))
             have lt2 : w1.heap.size < w2.heap.size := G1.out.lt
             clear hc1 hb1 hs1)
          | (have _t := tk7; clear _t tk7; refine wpList_allocM rfl 89 rfl (bL (fun _ => false)) Tryz.allocSet ?_
             intro w3 hc1 hb1 hs1
             have Q1 := Lib.hid hc1
             have G1 := Lib.hid (G1.out.all hb1)
             have B1 := Lib.hid (B1.out.trans (hb1.mono B1.out.size))
             have lt3 : w2.heap.size < w3.heap.size := Q1.out.lt
             clear hc1 hb1 hs1)
          | (have _t := tk8; clear _t tk8; refine wpList_storeM rfl 85 (.tmp 5) (.tmp 12) rfl w1.heap.size 0 rfl (ints G) rfl 85 (ints (gL 0 0 [] [] 0)) G1.out (by rw [HLG.out]; exact Nat.le_refl _) (by rw [HLG.out]; exact Tryz.sizeGrid) (fun v hv => ints_one hv) ?_
             intro w4 hc3 ha3
             rw [lay'_all (by rw [HLG.out]; rfl)] at hc3
             have G1 := Lib.hid hc3
             have Q1 := Lib.hid (ha3.cm Q1.out (by omega))
             have B1 : Hid (Below w.heap.size w w4) := Lib.hid (B1.out.trans (ha3.below (by omega)))
             clear hc3 ha3)
          | (have _t := tk9; clear _t tk9; refine wpList_storeM rfl 89 (.tmp 6) (.tmp 13) rfl w2.heap.size 0 rfl (bL P) rfl 89 _ Q1.out (by rw [bL_len, bL_len]; exact Nat.le_refl _) (by rw [bL_len]; exact Tryz.sizeSet) (fun v hv => bL_one hv) ?_
             intro w5 hc3 ha3
             rw [lay'_all (by rw [bL_len, bL_len])] at hc3
             have Q1 := Lib.hid hc3
             have G1 := Lib.hid (ha3.cm G1.out (by omega))
             have B1 : Hid (Below w.heap.size w w5) := Lib.hid (B1.out.trans (ha3.below (by omega)))
             clear hc3 ha3
             have c66 : w5.cell? ⟨w1.heap.size, 66, none⟩ = some (.int .i64 act) := (G1.out.cell 66).trans G66.out
             have cq : w5.cell? ⟨w2.heap.size, act, none⟩ = some (.bool true) := (Q1.out.cell act).trans ((bL_get P hal).trans (by rw [HB.out]))
             have a0 : (0 : Int) ≤ (act : Int) := Int.natCast_nonneg _
             have a16 : (act : Int) < 16 := by omega)
          | (have _t := tk10; clear _t tk10; refine wpList_loadM rfl 89 _ rfl w2.heap.size 0 rfl 89 (bL P) (bL P) Q1.out (fun j _ => by rw [Nat.zero_add]) _ Tryz.underlying89 rfl (by rw [bL_len]; exact Tryz.sizeSet) ?_))
      refine (each_any (P) _).mono ?_
      rintro e w6 ⟨rfl, rfl⟩
      have HN : Hid (Cm (w5.alloc (.cells (bL (P)).toArray 89)) w5.heap.size 89 (bL (P))) := Lib.hid (Cm.new rfl)
      have HB6 : Hid (Below w.heap.size w (w5.alloc (.cells (bL (P)).toArray 89))) := Lib.hid (B1.out.alloc B1.out.size _)
      have sb5 : w.heap.size ≤ w5.heap.size := B1.out.size
      go_wp2
      go_ret
      exact ⟨_, rfl, sb5, by rw [HA.out]; exact HN.out, HB6.out⟩
    | false =>
      have HB := Lib.hid hb
      have HA : Hid (stayP m xs = fun _ => false) := Lib.hid (by unfold stayP; rw [hh, hb]; rfl)
      clear hb hh hPe
      go_enter Tryz.func65, Tryz.ntmps65
      go_wp2_with fail
      refine (KT.out _ (by go_grown)).mono ?_
      rintro e w1 ⟨rfl, hb1⟩
      have B1 : Hid (Below w.heap.size w w1) := Lib.hid (Below.trans (by go_grown) (hb1.mono (by simp)))
      clear hb1
      have sb1 : w.heap.size ≤ w1.heap.size := B1.out.size
      have tk11 : True := trivial
      have tk12 : True := trivial
      have tk13 : True := trivial
      have tk14 : True := trivial
      have tk15 : True := trivial
      go_wp2_with
        (first
          | (have _t := tk11; clear _t tk11; refine wpList_allocM rfl 85 rfl (ints (gL 0 0 [] [] 0)) Tryz.allocGrid ?_
             intro w2 hc1 hb1 hs1
             have G1 := Lib.hid hc1
             have B1 := Lib.hid (B1.out.trans (hb1.mono B1.out.size))
             have lt2 : w1.heap.size < w2.heap.size := G1.out.lt
             clear hc1 hb1 hs1)
          | (have _t := tk12; clear _t tk12; refine wpList_allocM rfl 89 rfl (bL (fun _ => false)) Tryz.allocSet ?_
             intro w3 hc1 hb1 hs1
             have Q1 := Lib.hid hc1
             have G1 := Lib.hid (G1.out.all hb1)
             have B1 := Lib.hid (B1.out.trans (hb1.mono B1.out.size))
             have lt3 : w2.heap.size < w3.heap.size := Q1.out.lt
             clear hc1 hb1 hs1)
          | (have _t := tk13; clear _t tk13; refine wpList_storeM rfl 85 (.tmp 5) (.tmp 12) rfl w1.heap.size 0 rfl (ints G) rfl 85 (ints (gL 0 0 [] [] 0)) G1.out (by rw [HLG.out]; exact Nat.le_refl _) (by rw [HLG.out]; exact Tryz.sizeGrid) (fun v hv => ints_one hv) ?_
             intro w4 hc3 ha3
             rw [lay'_all (by rw [HLG.out]; rfl)] at hc3
             have G1 := Lib.hid hc3
             have Q1 := Lib.hid (ha3.cm Q1.out (by omega))
             have B1 : Hid (Below w.heap.size w w4) := Lib.hid (B1.out.trans (ha3.below (by omega)))
             clear hc3 ha3)
          | (have _t := tk14; clear _t tk14; refine wpList_storeM rfl 89 (.tmp 6) (.tmp 13) rfl w2.heap.size 0 rfl (bL P) rfl 89 _ Q1.out (by rw [bL_len, bL_len]; exact Nat.le_refl _) (by rw [bL_len]; exact Tryz.sizeSet) (fun v hv => bL_one hv) ?_
             intro w5 hc3 ha3
             rw [lay'_all (by rw [bL_len, bL_len])] at hc3
             have Q1 := Lib.hid hc3
             have G1 := Lib.hid (ha3.cm G1.out (by omega))
             have B1 : Hid (Below w.heap.size w w5) := Lib.hid (B1.out.trans (ha3.below (by omega)))
             clear hc3 ha3
             have c66 : w5.cell? ⟨w1.heap.size, 66, none⟩ = some (.int .i64 act) := (G1.out.cell 66).trans G66.out
             have cq : w5.cell? ⟨w2.heap.size, act, none⟩ = some (.bool false) := (Q1.out.cell act).trans ((bL_get P hal).trans (by rw [HB.out]))
             have a0 : (0 : Int) ≤ (act : Int) := Int.natCast_nonneg _
             have a16 : (act : Int) < 16 := by omega)
          | (have _t := tk15; clear _t tk15; refine wpList_buildM rfl 89 _ rfl #[] (by simp) (bL (fun _ => false)) (Tryz.buildSet _) ?_))
      refine (each_any (fun _ => false) _).mono ?_
      rintro e w6 ⟨rfl, rfl⟩
      have HN : Hid (Cm (w5.alloc (.cells (bL (fun _ => false)).toArray 89)) w5.heap.size 89 (bL (fun _ => false))) := Lib.hid (Cm.new rfl)
      have HB6 : Hid (Below w.heap.size w (w5.alloc (.cells (bL (fun _ => false)).toArray 89))) := Lib.hid (B1.out.alloc B1.out.size _)
      have sb5 : w.heap.size ≤ w5.heap.size := B1.out.size
      go_wp2
      go_ret
      exact ⟨_, rfl, sb5, by rw [HA.out]; exact HN.out, HB6.out⟩

end Go.Proofs.YtodjohdbngbpaaaGreat

/-
  spec.Announce: the model of the worlds in which a formula is true. No condition but the readings.
-/
namespace Go.Proofs.YtodjohdbngbpaaaGreat
open Go.RowKit Go.WideShapes
open Go Go.Deep
set_option linter.unusedSimpArgs false

/-- what Announce answers -/
def annR (m : Md) (xs : List Nd) : Option Md := if holdsR m xs then some (restM m (lst (evP m xs) 16)) else none
theorem holds_ok {m : Md} {xs : List Nd} (h : holdsR m xs = true) : evOk m xs = true ∧ evP m xs m.actual.toNat = true := by
  unfold holdsR at h; rw [Bool.and_eq_true] at h; exact h
theorem at_keeps {b lo hi : Nat} {w w' : World} (h : At b w w') (ha : b < lo ∨ hi ≤ b) : Keeps lo hi w w' := ⟨Nat.le_of_eq h.size.symm, fun k h1 h2 _ => h.block k (by omega)⟩

end Go.Proofs.YtodjohdbngbpaaaGreat

/-
  slices.Collect over the iterator of a set of worlds. No condition but that its box holds the set.
-/
namespace Go.Proofs.YtodjohdbngbpaaaGreat
open Go.RowKit Go.WideShapes Go.Shelf
open Go Go.Deep
set_option linter.unusedSimpArgs false
attribute [local go_sem] Oper.semAt_some

/-- the numbers of worlds that have come -/
def valsI (pre : List (Fin 16)) : List Value := pre.map fun x => Value.int .i64 ((x.val : Nat) : Int)
theorem valsI_len (pre : List (Fin 16)) : (valsI pre).length = pre.length := by simp [valsI]
theorem valsI_app (pre : List (Fin 16)) (x : Fin 16) : valsI (pre ++ [x]) = valsI pre ++ [.int .i64 ((x.val : Nat) : Int)] := by simp [valsI]
theorem valsI_ints {pre : List (Fin 16)} {l : List Nat} (h : pre.map Fin.val = l) : valsI pre = ints (nums l) := by
  subst h
  unfold valsI ints nums
  rw [List.map_map, List.map_map]; rfl

set_option maxRecDepth 100000 in
set_option maxHeartbeats 16000000 in
theorem append_any (Bn : Nat) (p : Nat → Bool) (w : World) (hc : Cm w Bn 89 (bL p)) :
    Calls Tryz.prog 115 #[.slice none 0 0, .func (.func 147) #[] #[.pointer (some ⟨Bn, 0, none⟩)]] w (IntsAns w (nums (lst p 16))) := by
  obtain ⟨i0, hi, hz0, hz1, hz2⟩ := info_parts Tryz.infoI
  refine (callsIn_wide (n := 3)).1 ?_
  refine callsIn_of_wp_marks Tryz.func115 rfl trivial ?_ rfl
  simp only [Tryz.ntmps115, List.size_toArray, List.length_cons, List.length_nil, Nat.reduceAdd, Nat.reduceSub, Array.replicate_succ, Array.replicate_zero, List.push_toArray, List.append_toArray, List.nil_append, List.cons_append]
  gi_wp2
  have bO := Boxed.new w 23 (.slice none 0 0)
  have hB0 : Below w.heap.size w (w.alloc (.cells #[.slice none 0 0] 23)) := (Below.refl _ w).alloc (Nat.le_refl _) _
  have hC0 : Cm (w.alloc (.cells #[.slice none 0 0] 23)) Bn 89 (bL p) := hc.alloc _
  refine wpIn_rangeFunc_ownG rfl (by omega) (gf := 147) (lb := #[.pointer (some ⟨Bn, 0, none⟩)]) rfl trivial (enters_of Tryz.func147 (by kernel_rfl) rfl)
    (each_stops 2 (by omega) Bn p (fun _ _ => True) _ hC0) (fun _ _ => trivial) (fun _ _ _ _ _ _ _ _ => trivial) (Below.refl _ _) (fun _ => rfl)
    (fun pre W => (∃ v, Boxed W w.heap.size 23 v ∧ W.ownsRow w.heap.size 3 1 v (valsI pre).length (valsI pre) ∧ True) ∧ Below w.heap.size w W)
    (fun _ _ _ => False)
    (OwnFrom.and (Own.from (holdsRow_own w.heap.size w.heap.size 23 3 1 (fun pre => (valsI pre).length) (fun pre => valsI pre) (fun pre v => True)) _) (ownFrom_below (Nat.le_refl _) (by simp)))
    (fun _ _ _ _ _ hs _ _ => hs)
    ⟨⟨_, bO, World.ownsRow_nil _ _ _ _, trivial⟩, hB0⟩
    (fun x => { tmps := #[.slice none 0 0, .func (.func 147) #[] #[.pointer (some ⟨Bn, 0, none⟩)], .pointer (some ⟨w.heap.size, 0, none⟩), undef, .slice none 0 0, .int .i64 ((x.val : Nat) : Int), .func (.func 147) #[] #[.pointer (some ⟨Bn, 0, none⟩)], .int .i64 ((x.val : Nat) : Int), undef, undef, undef, undef, undef], defers := [] }) ?assign ?body ?done ?stop
  case assign =>
    intro l x W K hK
    gi_wp2
    exact hK
  case body =>
    rintro l pre x W ⟨⟨v, hv, hrow, -⟩, hB⟩ hlt
    have hc := hv.cell
    have hpl : (valsI pre).length < 16 := by rw [valsI_len]; exact hlt
    gi_wp2_with (gi_at_builtin; refine wpListIn_append_own _ rfl _ _ 23 rfl w.heap.size 3 i0 (.int .i64 0) 1 8 Tryz.underlying23 hi hz0 hz1 hz2 rfl (by decide) _ _ _ rfl (hrow.alloc _) ⟨W.heap.size, 0, none⟩ 1 1 [.int .i64 ((x.val : Nat) : Int)] rfl rfl (cell_one_new _ _ _) (by simp [Value.oneCell']) (by unfold maxLen; omega) (by omega) (by have := hB.size; simp; omega) ?_; intro v' w1 hown' hgrow _; obtain ⟨g', cap', rfl⟩ := ownsRow_succ hown'; obtain ⟨hv1, hv2, hr2, hk2, hb2⟩ := hv.appended (by decide) hrow hB.size (Nat.le_refl _) hown' hgrow; have hc1 := hv1.cell; have hf1 := hv1.frozen)
    exact ⟨hk2.from _, trivial, ⟨_, hv2, by rw [valsI_app]; simpa using hr2, trivial⟩, hB.trans hb2⟩
  case done =>
    rintro D ys W hD hys ⟨⟨v, hv, hrow, -⟩, hB⟩ hK
    have hc := hv.cell
    rw [valsI_ints hys] at hrow
    gi_wp2
    refine ⟨by simp, .inl ⟨_, _, rfl, run_takeDeferred hK, ?_⟩⟩
    exact ⟨_, results_tmp rfl _ _ _, v, rfl, Ro.of_own (ownsRow_putObj hrow _ hK rfl), hB.trans (belowK_b (w := w) (Nat.le_refl _) W D _ _ (by simp at hD; omega) hK rfl rfl)⟩
  case stop =>
    rintro D c pre W _ _ h _
    exact h.elim

theorem collect_any (Bn : Nat) (p : Nat → Bool) (w : World) (hc : Cm w Bn 89 (bL p)) :
    Calls Tryz.prog 64 #[.func (.func 147) #[] #[.pointer (some ⟨Bn, 0, none⟩)]] w (IntsAns w (nums (lst p 16))) := by
  have KA := Lib.hid (append_any Bn p w hc)
  clear hc
  generalize nums (lst p 16) = l at *
  go_enter Tryz.func64, Tryz.ntmps64
  go_wp2_with fail
  refine KA.out.mono ?_
  rintro e w1 ⟨v1, rfl, ho, hb⟩
  have HO := Lib.hid ho
  have HB := Lib.hid hb
  clear ho hb
  go_wp2
  go_ret
  exact ⟨v1, rfl, HO.out, HB.out⟩
end Go.Proofs.YtodjohdbngbpaaaGreat

/-
  impl.Announce: the model of the worlds in which a formula is true. No condition but the readings.
-/
namespace Go.Proofs.YtodjohdbngbpaaaGreat
open Go.RowKit Go.WideShapes
open Go Go.Deep
set_option linter.unusedSimpArgs false

/-- the worlds that stay make the model that Announce answers -/
theorem restr_stay (m : Md) (xs : List Nd) : restrR m (nums (lst (stayP m xs) 16)) = annR m xs := by
  unfold annR stayP
  cases h : holdsR m xs with
  | true =>
    have hev := holds_ok h
    rw [if_pos rfl, if_pos rfl]
    exact restr_lst (evOk_parts hev.1).1 (fun i hi => evP_in hev.1 hi) hev.2
  | false =>
    rw [if_neg (by decide), if_neg (by decide)]
    have : nums (lst (fun _ => false) 16) = [] := rfl
    rw [this]
    unfold restrR
    simp

set_option maxRecDepth 100000 in
set_option maxHeartbeats 16000000 in
theorem implAnn_any (lo hi : Nat) (v v2 : Value) (m : Md) (xs : List Nd) (w : World) (hr : Mv lo hi w v m) (hhi : hi ≤ w.heap.size) (hr2 : Ns w v2 xs) :
    Calls Tryz.prog 23 #[v, v2] w (MdAns2 w (annR m xs)) := by
  have KS := Lib.hid (fun W (h : Below w.heap.size w W) => staying_any lo hi v v2 m xs W (hr.keeps (Keeps.of_all h)) (Nat.le_trans hhi h.size) (hr2.below h (Nat.le_refl _)))
  have KC := Lib.hid (fun Bn W (h : Cm W Bn 89 (bL (stayP m xs))) => collect_any Bn (stayP m xs) W h)
  have hlen : (nums (lst (stayP m xs) 16)).length ≤ 1048576 := by rw [nums_len]; have := lst_len (stayP m xs) 16; omega
  have KR := Lib.hid (fun W (h : Below w.heap.size w W) lo2 hi2 v4 (h4 : Iv lo2 hi2 W v4 (nums (lst (stayP m xs) 16))) => implRestr_any lo hi lo2 hi2 v v4 m (nums (lst (stayP m xs) 16)) W (hr.keeps (Keeps.of_all h)) (Nat.le_trans hhi h.size) h4 hlen)
  rw [restr_stay] at KR
  clear hlen
  generalize annR m xs = R at *
  generalize nums (lst (stayP m xs) 16) = ws at *
  generalize stayP m xs = p at *
  unfold MdAns2 at KR ⊢
  generalize R.getD ⟨[], [], 0⟩ = RM at *
  generalize R.isSome = ok at *
  obtain ⟨fv, bv, rfl, hf, hb⟩ := hr
  obtain ⟨a2, c2, rfl, -⟩ := hr2.parts
  clear hf hb hr2
  go_enter Tryz.func23, Tryz.ntmps23
  go_wp2
  have X1 := Lib.hid (Mcell.alloc (Mcell.new (w := w) (T := 26) (b := w.heap.size) (fv := fv) (bv := bv) (n := m.actual) rfl) (.cells #[.slice none 0 0, .slice none 0 0, .int .i64 0] 26))
  have C1 : Cm ((w.alloc (.cells #[fv, bv, .int .i64 m.actual] 26)).alloc (.cells #[.slice none 0 0, .slice none 0 0, .int .i64 0] 26)) (w.heap.size + 1) 26 [.slice none 0 0, .slice none 0 0, .int .i64 0] := Cm.new (by simp)
  have hb0 : Below w.heap.size w ((w.alloc (.cells #[fv, bv, .int .i64 m.actual] 26)).alloc (.cells #[.slice none 0 0, .slice none 0 0, .int .i64 0] 26)) := by go_grown
  generalize (w.alloc (.cells #[fv, bv, .int .i64 m.actual] 26)).alloc (.cells #[.slice none 0 0, .slice none 0 0, .int .i64 0] 26) = w1 at *
  have B1 := Lib.hid hb0
  have lt1 : w.heap.size + 1 < w1.heap.size := C1.lt
  clear hb0
  have HRG : Hid (∀ W, Below (w.heap.size + 1) w1 W → W.rangeAt w.heap.size 0 [fv, bv, .int .i64 m.actual]) := Lib.hid (fun W h => (X1.out.of_block (h.block _ (by omega))).range)
  have HU : Tryz.prog.underlying 26 = some _ := Tryz.underlying26
  refine regionL (fun W => Below (w.heap.size + 1) w1 W) [] (by kernel_rfl) (Below.refl _ _).drew (fun hHeld => ?_)
  have t1 : Below w1.heap.size w1 w1.drew := (Below.refl _ _).drew
  refine takeA (i := 0) (v := .agg #[fv, bv, .int .i64 m.actual]) 6 rfl rfl (by kernel_rfl) (by kernel_rfl) (by kernel_rfl) (by kernel_rfl) (fun _ _ _ h => h) (yieldsIf_load_mid (by rfl) 26 _ rfl w.heap.size 0 rfl [fv, bv, .int .i64 m.actual] _ HRG.out HU rfl Tryz.sizeMd) hHeld ?_
  simp only [Act.put, List.setIfInBounds_toArray, List.set_cons_zero, List.set_cons_succ]
  refine takeA (i := 1) (v := .agg #[fv, bv, .int .i64 m.actual]) 7 rfl rfl (by kernel_rfl) (by kernel_rfl) (by kernel_rfl) (by kernel_rfl) (fun _ _ _ h => h) (yieldsIf_load_mid (by rfl) 26 _ rfl w.heap.size 0 rfl [fv, bv, .int .i64 m.actual] _ HRG.out HU rfl Tryz.sizeMd) hHeld ?_
  simp only [Act.put, List.setIfInBounds_toArray, List.set_cons_zero, List.set_cons_succ]
  refine takeA (i := 2) (v := (.slice a2 xs.length c2)) 8 rfl rfl (by kernel_rfl) (by kernel_rfl) (by kernel_rfl) (by kernel_rfl) (fun _ _ _ h => h) (Or.inl ⟨by rfl, by intro W hSw; go_simp⟩) hHeld ?_
  simp only [Act.put, List.setIfInBounds_toArray, List.set_cons_zero, List.set_cons_succ]
  refine onlyL (i := 3) (by kernel_rfl) rfl (by rfl) (fun K hK => ?_)
  go_simp
  refine (KS.out _ (B1.out.trans (t1.mono B1.out.size))).mono ?_
  rintro e w2 ⟨Bn, rfl, -, hcm, hb⟩
  have t2 : Below w1.heap.size w1 w2 := t1.trans (hb.mono t1.size)
  have HC := Lib.hid hcm
  clear hb hHeld hcm
  refine hK.out _ _ (fun _ => t2.mono (by omega)) (fun hHeld => ?_)
  have hHeld := hHeld (by decide)
  clear hK K
  try simp only [Act.put, List.setIfInBounds_toArray, List.set_cons_zero, List.set_cons_succ]
  refine onlyL (i := 4) (by kernel_rfl) rfl (by rfl) (fun K hK => ?_)
  go_simp
  refine (KC.out _ _ HC.out).mono ?_
  rintro e w3 ⟨v3, rfl, ho3, hb3⟩
  have t3 : Below w1.heap.size w1 w3 := t2.trans (hb3.mono t2.size)
  have HO3 := Lib.hid ho3.read
  clear hb3 hHeld ho3
  refine hK.out _ _ (fun _ => t3.mono (by omega)) (fun hHeld => ?_)
  have hHeld := hHeld (by decide)
  clear hK K
  try simp only [Act.put, List.setIfInBounds_toArray, List.set_cons_zero, List.set_cons_succ]
  refine onlyL (i := 5) (by kernel_rfl) rfl (by rfl) (fun K hK => ?_)
  go_simp
  refine (KR.out _ (B1.out.trans (t3.mono B1.out.size)) _ _ _ HO3.out).mono ?_
  rintro e w4 ⟨v4, rfl, ho4, hb4⟩
  have t4 : Below w1.heap.size w1 w4 := t3.trans (hb4.mono t3.size)
  obtain ⟨qa, qc, pa, pc, e4⟩ := ho4.read.form
  subst e4
  have O4 := Lib.hid ho4
  have z3 := t3.size
  clear hb4 hHeld ho4
  refine hK.out _ _ (fun _ => t4.mono (by omega)) (fun hHeld => ?_)
  have hHeld := hHeld (by decide)
  clear hK K
  try simp only [Act.put, List.setIfInBounds_toArray, List.set_cons_zero, List.set_cons_succ]
  refine takeA (i := 6) (v := (.agg #[.slice qa RM.facts.length qc, .slice pa RM.blocks.length pc, .int .i64 RM.actual])) 12 rfl rfl (by kernel_rfl) (by kernel_rfl) (by kernel_rfl) (by kernel_rfl) (fun _ _ _ h => h) (Or.inl ⟨by rfl, by intro W hSw; go_simp⟩) hHeld ?_
  simp only [Act.put, List.setIfInBounds_toArray, List.set_cons_zero, List.set_cons_succ]
  refine takeA (i := 7) (v := (.bool ok)) 13 rfl rfl (by kernel_rfl) (by kernel_rfl) (by kernel_rfl) (by kernel_rfl) (fun _ _ _ h => h) (Or.inl ⟨by rfl, by intro W hSw; go_simp⟩) hHeld ?_
  simp only [Act.put, List.setIfInBounds_toArray, List.set_cons_zero, List.set_cons_succ]
  refine onlyL (i := 8) (by kernel_rfl) rfl (by rfl) (fun K hK => ?_)
  refine wp_storeM 26 (.tmp 4) (.tmp 12) rfl rfl (w.heap.size + 1) 0 rfl [.slice qa RM.facts.length qc, .slice pa RM.blocks.length pc, .int .i64 RM.actual] rfl 26 _ (C1.all t4) (by simp) Tryz.sizeMd (by simp [Value.oneCell']) ?_
  intro w5 hc5 ha5
  rw [lay'_all (by rfl)] at hc5
  have C5 := Lib.hid hc5
  have O5 := Lib.hid (O4.out.keeps (at_keeps ha5 (.inl (by omega))))
  have hz5 : w4.heap.size = w5.heap.size := ha5.size.symm
  have B5 : Hid (Below w.heap.size w w5) := Lib.hid ((B1.out.trans (t4.mono B1.out.size)).trans (ha5.below (by omega)))
  have t5 : Below (w.heap.size + 1) w1 w5 := (t4.mono (by omega)).trans (ha5.below (Nat.le_refl _))
  clear hc5 ha5 hHeld
  refine hK.out _ _ (fun _ => t5) (fun hHeld => ?_)
  have hHeld := hHeld (by decide)
  clear hK K
  try simp only [Act.put, List.setIfInBounds_toArray, List.set_cons_zero, List.set_cons_succ]
  refine takeA (i := 9) (v := (.bool ok)) 5 rfl rfl (by kernel_rfl) (by kernel_rfl) (by kernel_rfl) (by kernel_rfl) (fun _ _ _ h => h) (Or.inl ⟨by rfl, by intro W hSw; go_simp⟩) hHeld ?_
  simp only [Act.put, List.setIfInBounds_toArray, List.set_cons_zero, List.set_cons_succ]
  refine doneL (by kernel_rfl) ?_ _
  go_wp2
  refine bodyPost_ret (results_mid2 Tryz.results23 _ _ (w.heap.size + 1) _ _ (.bool ok) rfl rfl C5.out.whole Tryz.underlying26 rfl Tryz.sizeMd) rfl ?_
  exact ⟨_, rfl, O5.out.wide (by omega) (by omega), B5.out⟩
end Go.Proofs.YtodjohdbngbpaaaGreat

/-
  Slices of slices of nodes: what reads as lists of nodes (Nvv), what is owned (Noo); contracts of the laws' helpers over [][]Node: szNodeSS, toNodeSS, eqNodeSS, markNodeSS. Conditions: bounds on the lengths, which the laws check.
-/
namespace Go.Proofs.YtodjohdbngbpaaaGreat
open Go.RowKit Go.WideShapes
open Go Go.Deep
set_option linter.unusedSimpArgs false

/-- v reads as the lists of nodes ll -/
def Nvv (lo hi : Nat) (w : World) (v : Value) (ll : List (List Nd)) : Prop :=
  ∃ vs, vs.length = ll.length ∧ Rv lo hi w v vs ∧ ∀ j, j < ll.length → Ns w (vs.getD j (.bool false)) (ll.getD j [])
theorem Nvv.parts {lo hi : Nat} {w : World} {v : Value} {ll : List (List Nd)} (h : Nvv lo hi w v ll) : ∃ a cap, v = .slice a ll.length cap ∧ ll.length ≤ cap ∧ cap ≤ maxLen ∧
    ∀ j, j < ll.length → ∃ b o u, a = some ⟨b, o, none⟩ ∧ lo ≤ b ∧ b < hi ∧ b < w.heap.size ∧ w.cell? ⟨b, o + j, none⟩ = some u ∧ Ns w u (ll.getD j []) := by
  obtain ⟨vs, h1, h2, h3⟩ := h
  obtain ⟨a, cap, rfl, c1, c2, c3⟩ := h2.parts
  refine ⟨a, cap, by rw [h1], by omega, c2, fun j hj => ?_⟩
  obtain ⟨b, o, e, l1, l2, l3, l4⟩ := c3 j (by omega)
  exact ⟨b, o, _, e, l1, l2, l3, l4, h3 j hj⟩
end Go.Proofs.YtodjohdbngbpaaaGreat

/-
  AnnounceAll of both sides: formulas announced in order. No condition but the readings.
-/
namespace Go.Proofs.YtodjohdbngbpaaaGreat
open Go.RowKit Go.WideShapes
open Go Go.Deep
set_option linter.unusedSimpArgs false

/-- formulas are announced in order -/
def annList (m : Md) : List (List Nd) → Option Md
  | [] => some m
  | f :: r => match annR m f with
    | some R => annList R r
    | none => none
/-- what AnnounceAll answers -/
def annAllR (m : Md) (ll : List (List Nd)) : Option Md := if mdOk m && decide (ll.length ≤ 20) then annList m ll else none
theorem annList_none {M : Md} {ll : List (List Nd)} {k : Nat} (hk : k < ll.length) (h : annR M (ll.getD k []) = none) : annList M (ll.drop k) = none := by
  rw [List.drop_eq_getElem_cons hk, annList]
  rw [List.getD_eq_getElem?_getD, List.getElem?_eq_getElem hk] at h
  simp only [Option.getD_some] at h
  rw [h]
theorem annList_some {M R : Md} {ll : List (List Nd)} {k : Nat} (hk : k < ll.length) (h : annR M (ll.getD k []) = some R) : annList M (ll.drop k) = annList R (ll.drop (k + 1)) := by
  rw [List.drop_eq_getElem_cons hk, annList]
  rw [List.getD_eq_getElem?_getD, List.getElem?_eq_getElem hk] at h
  simp only [Option.getD_some] at h
  rw [h]
theorem md_fits2 {m : Md} (h : mdOk m = true) : fits m := by
  obtain ⟨p1, p2, p3, p4, p5, _⟩ := mdOk_parts h
  exact ⟨p2, p4, fun k hk => (p5 k hk).1⟩
theorem ans_put2 {w3 : World} {b lo hi : Nat} {fv bv fv0 bv0 : Value} {m : Md} {n0 : Int} (hM : Mcell w3 b fv0 bv0 n0) (hO : Mo lo hi w3 (.agg #[fv, bv, .int .i64 m.actual]) m) (hb : b < lo) :
    Mo lo hi (((w3.setCell ⟨b, 0, none⟩ fv).setCell ⟨b, 1, none⟩ bv).setCell ⟨b, 2, none⟩ (.int .i64 m.actual)) (.agg #[fv, bv, .int .i64 m.actual]) m ∧ Mcell (((w3.setCell ⟨b, 0, none⟩ fv).setCell ⟨b, 1, none⟩ bv).setCell ⟨b, 2, none⟩ (.int .i64 m.actual)) b fv bv m.actual :=
  ⟨hO.keeps (((Keeps.setCell _ _ _ _ (.inl hb)).set (.inl hb) _ _).set (.inl hb) _ _), hM.write _ _ _⟩

set_option maxRecDepth 100000 in
set_option maxHeartbeats 16000000 in
theorem implAnnAll_any (lo hi lo2 hi2 : Nat) (v v2 : Value) (m : Md) (ll : List (List Nd)) (w : World) (hr : Mv lo hi w v m) (hhi : hi ≤ w.heap.size) (hr2 : Nvv lo2 hi2 w v2 ll) :
    Calls Tryz.prog 22 #[v, v2] w (MdAns2 w (annAllR m ll)) := by
  have KG := Lib.hid (fun W (h : Below w.heap.size w W) => gridOf_any lo hi v m W (hr.keeps (Keeps.of_all h)) (Nat.le_trans hhi h.size))
  obtain ⟨a2, c2, rfl, q1, q2, q3⟩ := hr2.parts
  have H2 := Lib.hid q3
  unfold maxLen at q2
  obtain ⟨fv, bv, rfl, hf, hb⟩ := hr
  clear hf hb hr2 q3
  by_cases hbad : mdOk m = false ∨ 20 < ll.length
  · have HA : Hid (annAllR m ll = none) := Lib.hid (by
      unfold annAllR
      rcases hbad with h | h
      · rw [h]; rfl
      · rw [decide_eq_false (p := ll.length ≤ 20) (by omega), Bool.and_false]; rfl)
    obtain ⟨G, ok, hG, hKG, hor⟩ : ∃ (G : List Int) (ok : Bool), (ints G).length = 67 ∧ (∀ W, Below w.heap.size w W → Calls Tryz.prog 59 #[.agg #[fv, bv, .int .i64 m.actual]] W fun e w' => e = .returned (.tuple #[.agg (ints G).toArray, .bool ok]) ∧ Below W.heap.size W w') ∧ (ok = false ∨ 20 < ll.length) := by
      have KG := KG.out
      unfold GdAns at KG
      cases hm : mdOk m with
      | false =>
        simp only [hm, Bool.false_eq_true, if_false, Option.getD_none, Option.isSome_none] at KG
        exact ⟨_, _, rfl, KG, .inl rfl⟩
      | true =>
        simp only [hm, if_true, Option.getD_some, Option.isSome_some] at KG
        exact ⟨_, _, by rw [ints_len]; exact gL_len (md_small hm), KG, .inr (hbad.resolve_left (by rw [hm]; decide))⟩
    have KG := Lib.hid hKG
    have HLG := Lib.hid hG
    clear hbad hKG hG H2
    have hdec : ok = false ∨ (ok = true ∧ decide ((20 : Int) < (ll.length : Int)) = true) := by
      cases ok with
      | false => exact .inl rfl
      | true => exact .inr ⟨rfl, decide_eq_true (by have := hor.resolve_left (by decide); omega)⟩
    clear hor
    rcases hdec with rfl | ⟨rfl, d20⟩
    · go_enter Tryz.func22, Tryz.ntmps22
      go_wp2_with fail
      refine (KG.out _ (by go_grown)).mono ?_
      rintro e w1 ⟨rfl, hb1⟩
      have M1 := Lib.hid (Mcell.below (b := w.heap.size + 1) (Mcell.new (by simp)) hb1)
      have B1 : Hid (Below w.heap.size w w1) := Lib.hid (Below.trans (by go_grown) (hb1.mono (by simp; omega)))
      have lt1 : w.heap.size + 1 < w1.heap.size := M1.out.lt
      clear hb1
      have tk1 : True := trivial
      have tk2 : True := trivial
      go_wp2_with
        (first
          | (have _t := tk1; clear _t tk1; refine wpList_allocM rfl 85 rfl (ints (gL 0 0 [] [] 0)) Tryz.allocGrid ?_
             intro w2 hc2 hb2 hs2
             have CC := Lib.hid hc2
             have B1 : Hid (Below w.heap.size w w2) := Lib.hid (B1.out.trans (hb2.mono B1.out.size))
             have M1 := Lib.hid (M1.out.below hb2)
             clear hc2 hb2 hs2)
          | (have _t := tk2; clear _t tk2; refine wpList_storeM rfl 85 (.tmp 6) (.tmp 14) rfl w1.heap.size 0 rfl (ints G) rfl 85 (ints (gL 0 0 [] [] 0)) CC.out (by rw [HLG.out]; exact Nat.le_refl _) (by rw [HLG.out]; exact Tryz.sizeGrid) (fun v hv => ints_one hv) ?_
             intro w3 hc3 ha3
             have B1 : Hid (Below w.heap.size w w3) := Lib.hid (B1.out.trans (ha3.below (by omega)))
             have M1 := Lib.hid (M1.out.of_block (ha3.block _ (by omega)))
             obtain ⟨mc0, mc1, mc2, mc3, mc4, mc5⟩ := M1.out
             clear hc3 ha3))
      clear mc0 mc1 mc2 mc3 mc4 mc5
      have M6 := M1.out.write (.slice none 0 0) (.slice none 0 0) 0
      refine bodyPost_ret (results_mid2 Tryz.results22 _ _ (w.heap.size + 1) _ _ (.bool false) rfl rfl M6.range Tryz.underlying26 rfl Tryz.sizeMd) rfl ?_
      rw [HA.out]
      exact ⟨_, rfl, Mo.none _ _ _, ((B1.out.setCell (by show _ ≤ w.heap.size + 1; omega) _).setCell (by show _ ≤ w.heap.size + 1; omega) _).setCell (by show _ ≤ w.heap.size + 1; omega) _⟩
    · go_enter Tryz.func22, Tryz.ntmps22
      go_wp2_with fail
      refine (KG.out _ (by go_grown)).mono ?_
      rintro e w1 ⟨rfl, hb1⟩
      have M1 := Lib.hid (Mcell.below (b := w.heap.size + 1) (Mcell.new (by simp)) hb1)
      have B1 : Hid (Below w.heap.size w w1) := Lib.hid (Below.trans (by go_grown) (hb1.mono (by simp; omega)))
      have lt1 : w.heap.size + 1 < w1.heap.size := M1.out.lt
      clear hb1
      have tk3 : True := trivial
      have tk4 : True := trivial
      go_wp2_with
        (first
          | (have _t := tk3; clear _t tk3; refine wpList_allocM rfl 85 rfl (ints (gL 0 0 [] [] 0)) Tryz.allocGrid ?_
             intro w2 hc2 hb2 hs2
             have CC := Lib.hid hc2
             have B1 : Hid (Below w.heap.size w w2) := Lib.hid (B1.out.trans (hb2.mono B1.out.size))
             have M1 := Lib.hid (M1.out.below hb2)
             clear hc2 hb2 hs2)
          | (have _t := tk4; clear _t tk4; refine wpList_storeM rfl 85 (.tmp 6) (.tmp 14) rfl w1.heap.size 0 rfl (ints G) rfl 85 (ints (gL 0 0 [] [] 0)) CC.out (by rw [HLG.out]; exact Nat.le_refl _) (by rw [HLG.out]; exact Tryz.sizeGrid) (fun v hv => ints_one hv) ?_
             intro w3 hc3 ha3
             have B1 : Hid (Below w.heap.size w w3) := Lib.hid (B1.out.trans (ha3.below (by omega)))
             have M1 := Lib.hid (M1.out.of_block (ha3.block _ (by omega)))
             obtain ⟨mc0, mc1, mc2, mc3, mc4, mc5⟩ := M1.out
             clear hc3 ha3))
      clear mc0 mc1 mc2 mc3 mc4 mc5
      have M6 := M1.out.write (.slice none 0 0) (.slice none 0 0) 0
      refine bodyPost_ret (results_mid2 Tryz.results22 _ _ (w.heap.size + 1) _ _ (.bool false) rfl rfl M6.range Tryz.underlying26 rfl Tryz.sizeMd) rfl ?_
      rw [HA.out]
      exact ⟨_, rfl, Mo.none _ _ _, ((B1.out.setCell (by show _ ≤ w.heap.size + 1; omega) _).setCell (by show _ ≤ w.heap.size + 1; omega) _).setCell (by show _ ≤ w.heap.size + 1; omega) _⟩
  · have hm : mdOk m = true := by
      cases h : mdOk m with
      | true => rfl
      | false => exact absurd (.inl h) hbad
    have hl20 : ll.length ≤ 20 := by
      rcases Nat.lt_or_ge 20 ll.length with h | h
      · exact absurd (.inr h) hbad
      · exact h
    have HA : Hid (annAllR m ll = annList m ll) := Lib.hid (by unfold annAllR; rw [hm, decide_eq_true hl20]; rfl)
    have HLG : Hid ((ints (gOf m)).length = 67) := Lib.hid (by rw [ints_len]; exact gL_len (md_small hm))
    have KM := Lib.hid (fun W => gridModel_any m (md_fits2 hm) W)
    rw [show gL m.facts.length m.blocks.length m.facts m.blocks m.actual = gOf m from rfl] at KM
    unfold GdAns at KG
    simp only [hm, if_true, Option.getD_some, Option.isSome_some] at KG
    have d20 : decide ((20 : Int) < (ll.length : Int)) = false := decide_eq_false (by omega)
    have HN := Lib.hid (fun (M : Md) (k : Nat) => annList_none (M := M) (ll := ll) (k := k))
    have HS := Lib.hid (fun (M R : Md) (k : Nat) => annList_some (M := M) (R := R) (ll := ll) (k := k))
    have HE : Hid (annList m ll = annList m (ll.drop 0)) := Lib.hid rfl
    have HEE : Hid (∀ M, annList M (ll.drop ll.length) = some M) := Lib.hid (fun M => by rw [List.drop_of_length_le (Nat.le_refl _)]; rfl)
    generalize gOf m = G at *
    generalize annAllR m ll = RES at *
    clear hbad hm
    go_enter Tryz.func22, Tryz.ntmps22
    go_wp2_with fail
    refine (KG.out _ (by go_grown)).mono ?_
    rintro e w1 ⟨rfl, hb1⟩
    have M1 := Lib.hid (Mcell.below (b := w.heap.size + 1) (Mcell.new (by simp)) hb1)
    have B1 : Hid (Below w.heap.size w w1) := Lib.hid (Below.trans (by go_grown) (hb1.mono (by simp; omega)))
    have lt1 : w.heap.size + 1 < w1.heap.size := M1.out.lt
    clear hb1
    have tk5 : True := trivial
    have tk6 : True := trivial
    have tk7 : True := trivial
    go_wp2_with
      (first
        | (have _t := tk5; clear _t tk5; refine wpList_allocM rfl 85 rfl (ints (gL 0 0 [] [] 0)) Tryz.allocGrid ?_
           intro w2 hc2 hb2 hs2
           have CC := Lib.hid hc2
           have B1 : Hid (Below w.heap.size w w2) := Lib.hid (B1.out.trans (hb2.mono B1.out.size))
           have M1 := Lib.hid (M1.out.below hb2)
           clear hc2 hb2 hs2)
        | (have _t := tk6; clear _t tk6; refine wpList_storeM rfl 85 (.tmp 6) (.tmp 14) rfl w1.heap.size 0 rfl (ints G) rfl 85 (ints (gL 0 0 [] [] 0)) CC.out (by rw [HLG.out]; exact Nat.le_refl _) (by rw [HLG.out]; exact Tryz.sizeGrid) (fun v hv => ints_one hv) ?_
           intro w3 hc3 ha3
           rw [lay'_all (by rw [HLG.out]; rfl)] at hc3
           have CC := Lib.hid hc3
           have B1 : Hid (Below w.heap.size w w3) := Lib.hid (B1.out.trans (ha3.below (by omega)))
           have M1 := Lib.hid (M1.out.of_block (ha3.block _ (by omega)))
           clear hc3 ha3)
        | (have _t := tk7; clear _t tk7; refine wpList_loadM rfl 85 _ rfl w1.heap.size 0 rfl 85 (ints G) (ints G) CC.out (fun j _ => by rw [Nat.zero_add]) _ Tryz.underlying85 rfl (by rw [HLG.out]; exact Tryz.sizeGrid) ?_))
    refine (KM.out _).mono ?_
    rintro e w4 ⟨v4, rfl, ho4, hb4⟩
    have M1 := Lib.hid (M1.out.below hb4)
    have B1 := Lib.hid (B1.out.trans (hb4.mono B1.out.size))
    have lt4 : w.heap.size + 1 < w4.heap.size := M1.out.lt
    have lt3 : w1.heap.size < w3.heap.size := CC.out.lt
    have O4 := Lib.hid (ho4.wide (lo' := w.heap.size + 2) (by omega) (Nat.le_refl _))
    obtain ⟨qa, qc, pa, pc, e4⟩ := ho4.read.form
    subst e4
    clear ho4 hb4
    have hb8 : Below w4.heap.size w4 (w4.alloc (.cells #[.slice qa m.facts.length qc, .slice pa m.blocks.length pc, .int .i64 m.actual] 26)) := (Below.refl _ _).alloc (Nat.le_refl _) _
    have M1 := Lib.hid (M1.out.below hb8)
    have O4 := Lib.hid ((O4.out.keeps (Keeps.of_all hb8)).wide (Nat.le_refl _) hb8.size)
    have B1 := Lib.hid (B1.out.trans (hb8.mono B1.out.size))
    have X8 : Hid (Mcell (w4.alloc (.cells #[.slice qa m.facts.length qc, .slice pa m.blocks.length pc, .int .i64 m.actual] 26)) w4.heap.size (.slice qa m.facts.length qc) (.slice pa m.blocks.length pc) m.actual) := Lib.hid (Mcell.new rfl)
    clear hb8 CC KG KM HLG
    go_wp2
    go_loopw [28] (fun iv wr => ∃ (k : Nat) (M : Md) (fa ba : Option Addr) (fc bc : Nat), k ≤ ll.length ∧ iv = .int .i64 k ∧ Hid (RES = annList M (ll.drop k)) ∧ Hid (Mo (w.heap.size + 2) wr.heap.size wr (.agg #[.slice fa M.facts.length fc, .slice ba M.blocks.length bc, .int .i64 M.actual]) M) ∧ Hid (Mcell wr w4.heap.size (.slice fa M.facts.length fc) (.slice ba M.blocks.length bc) M.actual) ∧ Hid (Mcell wr (w.heap.size + 1) (.slice none 0 0) (.slice none 0 0) 0) ∧ Hid (Below w.heap.size w wr)) (fun iv _ => ll.length - (intOf iv).toNat)
    case atStart => exact ⟨0, m, qa, pa, qc, pc, Nat.zero_le _, rfl, Lib.hid (by rw [HA.out, HE.out]), O4, X8, M1, B1⟩
    case round =>
      clear O4 X8 M1 B1
      obtain ⟨k, M, fa, ba, fc, bc, hk, rfl, HJ, HO, HX, HM, HB⟩ := hrel
      by_cases hlt : k < ll.length
      · obtain ⟨b, o, u, rfl, -, -, hb, hc0, hu⟩ := H2.out k hlt
        rw [← HB.out.cell (p := ⟨b, o + k, none⟩) hb] at hc0
        obtain ⟨ua, uc, rfl, -⟩ := hu.parts
        have hu2 := hu.below HB.out (Nat.le_refl _)
        have KA := Lib.hid (implAnn_any (w.heap.size + 2) wr.heap.size _ _ M (ll.getD k []) wr HO.out.read (Nat.le_refl _) hu2)
        have HN := Lib.hid (HN.out M k hlt)
        have HS := Lib.hid (fun R => HS.out M R k hlt)
        clear hu hu2
        generalize ll.getD k [] = f at *
        unfold MdAns2 at KA
        cases hR : annR M f with
        | none =>
          have HR : Hid (RES = none) := Lib.hid (by rw [HJ.out, HN.out hR])
          rw [hR] at KA
          simp only [Option.getD_none, Option.isSome_none] at KA
          clear hR HN HS HJ HO
          have ltx : w4.heap.size < wr.heap.size := HX.out.lt
          obtain ⟨x0, x1, x2, x3, x4, x5⟩ := HX.out
          go_wp2_with fail
          clear x0 x1 x2 x3 x4 x5 hc0
          refine KA.out.mono ?_
          rintro e w5 ⟨v5, rfl, ho5, hb5⟩
          have HX := Lib.hid (HX.out.below hb5)
          have HM := Lib.hid (HM.out.below hb5)
          have HB := Lib.hid (HB.out.trans (hb5.mono HB.out.size))
          have lt5 : wr.heap.size ≤ w5.heap.size := hb5.size
          obtain ⟨ga, gc, da, dc, e5⟩ := ho5.read.form
          subst e5
          have HO := Lib.hid ho5
          clear hb5 KA ho5
          obtain ⟨x0, x1, x2, x3, x4, x5⟩ := HX.out
          obtain ⟨y0, y1, y2, y3, y4, y5⟩ := HM.out
          have hne : ¬ w4.heap.size = w.heap.size + 1 := by omega
          go_wp2
          clear x0 x1 x2 x3 x4 x5 y0 y1 y2 y3 y4 y5
          have hbne : w.heap.size + 1 ≠ w4.heap.size := fun h => hne h.symm
          have M6 := (((HM.out.other hbne 0 (.slice ga 0 gc)).other hbne 1 (.slice da 0 dc)).other hbne 2 (.int .i64 0)).write (.slice none 0 0) (.slice none 0 0) 0
          have B6 := ((HB.out.setCell (p := ⟨w4.heap.size, 0, none⟩) (by show _ ≤ w4.heap.size; omega) (.slice ga 0 gc)).setCell (p := ⟨w4.heap.size, 1, none⟩) (by show _ ≤ w4.heap.size; omega) (.slice da 0 dc)).setCell (p := ⟨w4.heap.size, 2, none⟩) (by show _ ≤ w4.heap.size; omega) (.int .i64 0)
          refine bodyPost_ret (results_mid2 Tryz.results22 _ _ (w.heap.size + 1) _ _ (.bool false) rfl rfl M6.range Tryz.underlying26 rfl Tryz.sizeMd) rfl ?_
          rw [HR.out]
          exact ⟨_, rfl, Mo.none _ _ _, ((B6.setCell (by show _ ≤ w.heap.size + 1; omega) _).setCell (by show _ ≤ w.heap.size + 1; omega) _).setCell (by show _ ≤ w.heap.size + 1; omega) _⟩
        | some R =>
          have HR : Hid (RES = annList R (ll.drop (k + 1))) := Lib.hid (by rw [HJ.out, HS.out R hR])
          rw [hR] at KA
          simp only [Option.getD_some, Option.isSome_some] at KA
          clear hR HN HS HJ HO
          have ltx : w4.heap.size < wr.heap.size := HX.out.lt
          obtain ⟨x0, x1, x2, x3, x4, x5⟩ := HX.out
          go_wp2_with fail
          clear x0 x1 x2 x3 x4 x5 hc0
          refine KA.out.mono ?_
          rintro e w5 ⟨v5, rfl, ho5, hb5⟩
          have HX := Lib.hid (HX.out.below hb5)
          have HM := Lib.hid (HM.out.below hb5)
          have HB := Lib.hid (HB.out.trans (hb5.mono HB.out.size))
          have lt5 : wr.heap.size ≤ w5.heap.size := hb5.size
          obtain ⟨ga, gc, da, dc, e5⟩ := ho5.read.form
          subst e5
          have HO := Lib.hid ho5
          clear hb5 KA ho5
          obtain ⟨x0, x1, x2, x3, x4, x5⟩ := HX.out
          obtain ⟨y0, y1, y2, y3, y4, y5⟩ := HM.out
          have hne : ¬ w4.heap.size = w.heap.size + 1 := by omega
          go_wp2
          clear x0 x1 x2 x3 x4 x5 y0 y1 y2 y3 y4 y5
          go_roundw
          case rel =>
            have hbne : w.heap.size + 1 ≠ w4.heap.size := fun h => hne h.symm
            obtain ⟨o6, m6⟩ := ans_put2 (m := R) HX.out HO.out ltx
            exact ⟨k + 1, R, ga, da, gc, dc, by omega, by go_num, HR, Lib.hid (o6.wide (by omega) (by simp [World.setCell])), Lib.hid m6, Lib.hid (((HM.out.other hbne _ _).other hbne _ _).other hbne _ _),
              Lib.hid (((HB.out.setCell (p := ⟨w4.heap.size, 0, none⟩) (by show _ ≤ w4.heap.size; omega) _).setCell (p := ⟨w4.heap.size, 1, none⟩) (by show _ ≤ w4.heap.size; omega) _).setCell (p := ⟨w4.heap.size, 2, none⟩) (by show _ ≤ w4.heap.size; omega) _)⟩
          case measure => simp [intOf]; omega
      · obtain rfl : k = ll.length := by omega
        have HR : Hid (RES = some M) := Lib.hid (by rw [HJ.out, HEE.out])
        have ltx : w4.heap.size < wr.heap.size := HX.out.lt
        have lty : w.heap.size + 1 < wr.heap.size := HM.out.lt
        obtain ⟨x0, x1, x2, x3, x4, x5⟩ := HX.out
        obtain ⟨y0, y1, y2, y3, y4, y5⟩ := HM.out
        go_wp2
        clear x0 x1 x2 x3 x4 x5 y0 y1 y2 y3 y4 y5
        obtain ⟨o9, m9⟩ := ans_put2 (m := M) HM.out HO.out (by omega)
        refine bodyPost_ret (results_mid2 Tryz.results22 _ _ (w.heap.size + 1) _ _ (.bool true) rfl rfl m9.range Tryz.underlying26 rfl Tryz.sizeMd) rfl ?_
        rw [HR.out]
        exact ⟨_, rfl, o9.wide (by omega) (by simp [World.setCell]), ((HB.out.setCell (by show _ ≤ w.heap.size + 1; omega) _).setCell (by show _ ≤ w.heap.size + 1; omega) _).setCell (by show _ ≤ w.heap.size + 1; omega) _⟩
end Go.Proofs.YtodjohdbngbpaaaGreat
