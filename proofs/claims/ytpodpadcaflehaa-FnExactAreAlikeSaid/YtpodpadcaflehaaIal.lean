/-
  impl.AreAlike. No condition but the readings.
-/
import Derived.Test.YtpodpadcaflehaaJnw
import Derived.Test.YtpodpadcaflehaaZKey
namespace Go.Proofs.Ytpodpadcaflehaa
open Go.RowKit Go.WideShapes
open Go Go.Deep
set_option linter.unusedSimpArgs false

theorem Try.neqInt (x y : Operand) (n k : Int) (w : World) : (do eqGuard .neq 3 x y (.int .i64 n) (.int .i64 k); binOp .neq 3 (.int .i64 n) (.int .i64 k) : Sem Value).run Try.prog w = .ok (.bool (n != k)) w := by kernel_rfl
theorem Try.addInt (x y : Operand) (n k : Int) (w : World) : (do eqGuard .add 3 x y (.int .i64 n) (.int .i64 k); binOp .add 3 (.int .i64 n) (.int .i64 k) : Sem Value).run Try.prog w = .ok (.int .i64 (IntKind.wrap .i64 (n + k))) w := by kernel_rfl
theorem Try.allocRowJ (w : World) : (Instr.alloc 62 true (.tuple #[])).run Try.prog w = .ok (.pointer (some ⟨w.heap.size, 0, none⟩)) (w.alloc (.cells (ints (List.replicate 16 0)).toArray 62)) := by kernel_rfl

set_option maxRecDepth 100000 in
set_option maxHeartbeats 32000000 in
theorem implAlike_any (lo hi lo2 hi2 : Nat) (v v2 : Value) (m n : Md) (w : World) (hr : Mv lo hi w v m) (hhi : hi ≤ w.heap.size) (hr2 : Mv lo2 hi2 w v2 n) (hhi2 : hi2 ≤ w.heap.size) :
    Calls Try.prog 11 #[v, v2] w fun e w' => e = .returned (.bool (alikeR m n)) ∧ Below w.heap.size w w' := by
  have KG := Lib.hid (fun W (h : Below w.heap.size w W) => gridOf_any lo hi v m W (hr.keeps (Keeps.of_all h)) (Nat.le_trans hhi h.size))
  have KH := Lib.hid (fun W (h : Below w.heap.size w W) => gridOf_any lo2 hi2 v2 n W (hr2.keeps (Keeps.of_all h)) (Nat.le_trans hhi2 h.size))
  obtain ⟨fv, bv, rfl, hf, hb⟩ := hr
  obtain ⟨fv2, bv2, rfl, hf2, hb2⟩ := hr2
  clear hf hb hhi hf2 hb2 hhi2
  have HR : Hid (alikeR m n = (mdOk m && mdOk n && (m.blocks.length == n.blocks.length) && decide (m.facts.length + n.facts.length ≤ 16) && ((lastC (bothM m n)).getD m.actual.toNat 0 == (lastC (bothM m n)).getD (m.facts.length + n.actual.toNat) 0))) := Lib.hid rfl
  generalize alikeR m n = R at *
  have HZL : Hid ((ints (gL 0 0 [] [] 0)).length = 67) := Lib.hid rfl
  have HZ1 := Lib.hid (fun v (hv : v ∈ ints (gL 0 0 [] [] 0)) => ints_one hv)
  have HA0 := Lib.hid Try.allocGrid
  have HX : Hid (mdOk m = true → (ints (gOf m)).length = 67) := Lib.hid (fun h => by rw [ints_len]; exact gL_len (md_small h))
  have HY : Hid (mdOk n = true → (ints (gOf n)).length = 67) := Lib.hid (fun h => by rw [ints_len]; exact gL_len (md_small h))
  unfold GdAns at KG KH
  by_cases hm : mdOk m = false
  · have HRr : Hid (R = false) := Lib.hid (by rw [HR.out, hm]; rfl)
    simp only [hm, Bool.false_eq_true, if_false, Option.getD_none, Option.isSome_none] at KG
    clear HR HX HY KH hm
    generalize gL 0 0 [] [] 0 = Z at *
    go_enter Try.func11, Try.ntmps11
    go_wp2_with fail
    refine (KG.out _ (by go_grown)).mono ?_
    rintro e w1 ⟨rfl, hb1⟩
    have X1 := Lib.hid (Mcell.below (b := w.heap.size) ((Mcell.new rfl).alloc _) hb1)
    have Y1 := Lib.hid (Mcell.below (b := w.heap.size + 1) (Mcell.new (by simp)) hb1)
    have B1 : Hid (Below w.heap.size w w1) := Lib.hid (Below.trans (by go_grown) (hb1.mono (by simp; omega)))
    clear hb1
    have tk1 : True := trivial
    have tk2 : True := trivial
    go_wp2_with
      (first
        | (have _t := tk1; clear _t tk1; refine wpList_allocM rfl 65 rfl (ints Z) HA0.out ?_
           intro w2 hc2 hb2 hs2
           have C2 := Lib.hid hc2
           have X2 := Lib.hid (X1.out.below hb2)
           have Y2 := Lib.hid (Y1.out.below hb2)
           have hy1 := Y1.out.lt
           have B2 : Hid (Below w.heap.size w w2) := Lib.hid (B1.out.trans (hb2.mono B1.out.size))
           clear hc2 hb2 hs2 X1 Y1 B1)
        | (have _t := tk2; clear _t tk2; refine wpList_storeM rfl 65 _ _ rfl w1.heap.size 0 rfl (ints Z) rfl 65 (ints Z) C2.out (by first | (rw [HZL.out, HZL.out]; exact Nat.le_refl _) | (rw [HZL.out]; decide)) (by rw [HZL.out]; exact Try.sizeGrid) HZ1.out ?_
           intro w3 hc3 ha3
           rw [lay'_all (by first | rfl | rw [HZL.out, HZL.out])] at hc3
           have C3 := Lib.hid hc3
           have X3 := Lib.hid (X2.out.of_block (ha3.block _ (by omega)))
           have Y3 := Lib.hid (Y2.out.of_block (ha3.block _ (by omega)))
           have B3 : Hid (Below w.heap.size w w3) := Lib.hid (B2.out.trans (ha3.below (by omega)))
           obtain ⟨y0, y1, y2, _⟩ := Y3.out
           clear hc3 ha3 C2 X2 Y2 B2))
    go_ret
    exact ⟨ret_bool HRr.out.symm, B3.out⟩
  have hm : mdOk m = true := by simpa using hm
  simp only [hm, if_true, Option.getD_some, Option.isSome_some] at KG
  have HLG := Lib.hid (HX.out hm)
  have HG1 := Lib.hid (fun v (hv : v ∈ ints (gOf m)) => ints_one hv)
  have HGc : Hid (∀ (W : World) b T, Cm W b T (ints (gOf m)) → W.cell? ⟨b, 0, none⟩ = some (.int .i64 m.facts.length) ∧ W.cell? ⟨b, 1, none⟩ = some (.int .i64 m.blocks.length) ∧ W.cell? ⟨b, 66, none⟩ = some (.int .i64 m.actual)) := Lib.hid (fun W b T h => ⟨Cm.g0 h, Cm.g1 h, Cm.g66 h (md_small hm)⟩)
  by_cases hn : mdOk n = false
  · have HRr : Hid (R = false) := Lib.hid (by rw [HR.out, hm, hn]; rfl)
    simp only [hn, Bool.false_eq_true, if_false, Option.getD_none, Option.isSome_none] at KH
    clear HR HX HY hm hn HGc
    generalize gL 0 0 [] [] 0 = Z at *
    generalize gOf m = G at *
    go_enter Try.func11, Try.ntmps11
    go_wp2_with fail
    refine (KG.out _ (by go_grown)).mono ?_
    rintro e w1 ⟨rfl, hb1⟩
    have X1 := Lib.hid (Mcell.below (b := w.heap.size) ((Mcell.new rfl).alloc _) hb1)
    have Y1 := Lib.hid (Mcell.below (b := w.heap.size + 1) (Mcell.new (by simp)) hb1)
    have B1 : Hid (Below w.heap.size w w1) := Lib.hid (Below.trans (by go_grown) (hb1.mono (by simp; omega)))
    clear hb1
    have tk3 : True := trivial
    have tk4 : True := trivial
    go_wp2_with
      (first
        | (have _t := tk3; clear _t tk3; refine wpList_allocM rfl 65 rfl (ints Z) HA0.out ?_
           intro w2 hc2 hb2 hs2
           have C2 := Lib.hid hc2
           have X2 := Lib.hid (X1.out.below hb2)
           have Y2 := Lib.hid (Y1.out.below hb2)
           have hy1 := Y1.out.lt
           have B2 : Hid (Below w.heap.size w w2) := Lib.hid (B1.out.trans (hb2.mono B1.out.size))
           clear hc2 hb2 hs2 X1 Y1 B1)
        | (have _t := tk4; clear _t tk4; refine wpList_storeM rfl 65 _ _ rfl w1.heap.size 0 rfl (ints G) rfl 65 (ints Z) C2.out (by first | (rw [HLG.out, HZL.out]; exact Nat.le_refl _) | (rw [HZL.out]; decide)) (by rw [HLG.out]; exact Try.sizeGrid) HG1.out ?_
           intro w3 hc3 ha3
           rw [lay'_all (by first | rfl | rw [HLG.out, HZL.out])] at hc3
           have C3 := Lib.hid hc3
           have X3 := Lib.hid (X2.out.of_block (ha3.block _ (by omega)))
           have Y3 := Lib.hid (Y2.out.of_block (ha3.block _ (by omega)))
           have B3 : Hid (Below w.heap.size w w3) := Lib.hid (B2.out.trans (ha3.below (by omega)))
           obtain ⟨y0, y1, y2, _⟩ := Y3.out
           clear hc3 ha3 C2 X2 Y2 B2))
    refine (KH.out _ B3.out).mono ?_
    rintro e w4 ⟨rfl, hb4⟩
    have C4 := Lib.hid (C3.out.all hb4)
    have X4 := Lib.hid (X3.out.below hb4)
    have Y4 := Lib.hid (Y3.out.below hb4)
    have B4 := Lib.hid (B3.out.trans (hb4.mono B3.out.size))
    have hc4 := C4.out.lt
    clear hb4 y0 y1 y2 C3 X3 Y3 B3
    have tk5 : True := trivial
    have tk6 : True := trivial
    go_wp2_with
      (first
        | (have _t := tk5; clear _t tk5; refine wpList_allocM rfl 65 rfl (ints Z) HA0.out ?_
           intro w5 hc5 hb5 hs5
           have D5 := Lib.hid hc5
           have C5 := Lib.hid (C4.out.all hb5)
           have X5 := Lib.hid (X4.out.below hb5)
           have Y5 := Lib.hid (Y4.out.below hb5)
           have B5 : Hid (Below w.heap.size w w5) := Lib.hid (B4.out.trans (hb5.mono B4.out.size))
           clear hc5 hb5 hs5 C4 X4 Y4 B4)
        | (have _t := tk6; clear _t tk6; refine wpList_storeM rfl 65 (.tmp 7) (.tmp 19) rfl w4.heap.size 0 rfl (ints Z) rfl 65 (ints Z) D5.out (by first | (rw [HZL.out, HZL.out]; exact Nat.le_refl _) | (rw [HZL.out]; decide)) (by rw [HZL.out]; exact Try.sizeGrid) HZ1.out ?_
           intro w6 hc6 ha6
           rw [lay'_all (by first | rfl | rw [HZL.out, HZL.out])] at hc6
           have D6 := Lib.hid hc6
           have C6 := Lib.hid (ha6.cm C5.out (by omega))
           have B6 : Hid (Below w.heap.size w w6) := Lib.hid (B5.out.trans (ha6.below (by omega)))
           clear hc6 ha6 D5 C5 X5 Y5 B5))
    go_ret
    exact ⟨ret_bool HRr.out.symm, B6.out⟩
  have hn : mdOk n = true := by simpa using hn
  simp only [hn, if_true, Option.getD_some, Option.isSome_some] at KH
  have HLH := Lib.hid (HY.out hn)
  have HH1 := Lib.hid (fun v (hv : v ∈ ints (gOf n)) => ints_one hv)
  have HHc : Hid (∀ (W : World) b T, Cm W b T (ints (gOf n)) → W.cell? ⟨b, 0, none⟩ = some (.int .i64 n.facts.length) ∧ W.cell? ⟨b, 1, none⟩ = some (.int .i64 n.blocks.length) ∧ W.cell? ⟨b, 66, none⟩ = some (.int .i64 n.actual)) := Lib.hid (fun W b T h => ⟨Cm.g0 h, Cm.g1 h, Cm.g66 h (md_small hn)⟩)
  obtain ⟨p1, p2, p3, p4, p5, p6, p7, p8⟩ := mdOk_parts hm
  obtain ⟨q1, q2, q3, q4, q5, q6, q7, q8⟩ := mdOk_parts hn
  clear p5 p6 q5 q6
  by_cases hbl : m.blocks.length = n.blocks.length
  case neg =>
    have HRr : Hid (R = false) := Lib.hid (by rw [HR.out, show (m.blocks.length == n.blocks.length) = false by rw [beq_eq_false_iff_ne]; exact hbl]; simp)
    have dn : ((m.blocks.length : Int) != (n.blocks.length : Int)) = true := by rw [bne_iff_ne]; omega
    clear HR HX HY hm hn
    generalize gL 0 0 [] [] 0 = Z at *
    generalize gOf m = G at *
    generalize gOf n = H at *
    go_enter Try.func11, Try.ntmps11
    go_wp2_with fail
    refine (KG.out _ (by go_grown)).mono ?_
    rintro e w1 ⟨rfl, hb1⟩
    have X1 := Lib.hid (Mcell.below (b := w.heap.size) ((Mcell.new rfl).alloc _) hb1)
    have Y1 := Lib.hid (Mcell.below (b := w.heap.size + 1) (Mcell.new (by simp)) hb1)
    have B1 : Hid (Below w.heap.size w w1) := Lib.hid (Below.trans (by go_grown) (hb1.mono (by simp; omega)))
    clear hb1
    have tk7 : True := trivial
    have tk8 : True := trivial
    go_wp2_with
      (first
        | (have _t := tk7; clear _t tk7; refine wpList_allocM rfl 65 rfl (ints Z) HA0.out ?_
           intro w2 hc2 hb2 hs2
           have C2 := Lib.hid hc2
           have X2 := Lib.hid (X1.out.below hb2)
           have Y2 := Lib.hid (Y1.out.below hb2)
           have hy1 := Y1.out.lt
           have B2 : Hid (Below w.heap.size w w2) := Lib.hid (B1.out.trans (hb2.mono B1.out.size))
           clear hc2 hb2 hs2 X1 Y1 B1)
        | (have _t := tk8; clear _t tk8; refine wpList_storeM rfl 65 _ _ rfl w1.heap.size 0 rfl (ints G) rfl 65 (ints Z) C2.out (by first | (rw [HLG.out, HZL.out]; exact Nat.le_refl _) | (rw [HZL.out]; decide)) (by rw [HLG.out]; exact Try.sizeGrid) HG1.out ?_
           intro w3 hc3 ha3
           rw [lay'_all (by first | rfl | rw [HLG.out, HZL.out])] at hc3
           have C3 := Lib.hid hc3
           have X3 := Lib.hid (X2.out.of_block (ha3.block _ (by omega)))
           have Y3 := Lib.hid (Y2.out.of_block (ha3.block _ (by omega)))
           have B3 : Hid (Below w.heap.size w w3) := Lib.hid (B2.out.trans (ha3.below (by omega)))
           obtain ⟨y0, y1, y2, _⟩ := Y3.out
           clear hc3 ha3 C2 X2 Y2 B2))
    refine (KH.out _ B3.out).mono ?_
    rintro e w4 ⟨rfl, hb4⟩
    have C4 := Lib.hid (C3.out.all hb4)
    have X4 := Lib.hid (X3.out.below hb4)
    have Y4 := Lib.hid (Y3.out.below hb4)
    have B4 := Lib.hid (B3.out.trans (hb4.mono B3.out.size))
    have hc4 := C4.out.lt
    clear hb4 y0 y1 y2 C3 X3 Y3 B3
    have tk9 : True := trivial
    have tk10 : True := trivial
    have tk11 : True := trivial
    have tk12 : True := trivial
    have tk13 : True := trivial
    have tk14 : True := trivial
    have tk15 : True := trivial
    go_wp2_with
      (first
        | (have _t := tk9; clear _t tk9; refine wpList_allocM rfl 65 rfl (ints Z) HA0.out ?_
           intro w5 hc5 hb5 hs5
           have D5 := Lib.hid hc5
           have C5 := Lib.hid (C4.out.all hb5)
           have X5 := Lib.hid (X4.out.below hb5)
           have Y5 := Lib.hid (Y4.out.below hb5)
           have B5 : Hid (Below w.heap.size w w5) := Lib.hid (B4.out.trans (hb5.mono B4.out.size))
           clear hc5 hb5 hs5 C4 X4 Y4 B4)
        | (have _t := tk10; clear _t tk10; refine wpList_storeM rfl 65 (.tmp 7) (.tmp 19) rfl w4.heap.size 0 rfl (ints H) rfl 65 (ints Z) D5.out (by first | (rw [HLH.out, HZL.out]; exact Nat.le_refl _) | (rw [HZL.out]; decide)) (by rw [HLH.out]; exact Try.sizeGrid) HH1.out ?_
           intro w6 hc6 ha6
           rw [lay'_all (by first | rfl | rw [HLH.out, HZL.out])] at hc6
           have D6 := Lib.hid hc6
           have C6 := Lib.hid (ha6.cm C5.out (by omega))
           have B6 : Hid (Below w.heap.size w w6) := Lib.hid (B5.out.trans (ha6.below (by omega)))
           clear hc6 ha6 D5 C5 X5 Y5 B5
           obtain ⟨gc0, gc1, gc2⟩ := HGc.out _ _ _ C6.out
           obtain ⟨hc0, hc1, hc2⟩ := HHc.out _ _ _ D6.out)
        | (have _t := tk11; clear _t tk11; refine wpList_fieldG rfl (by rfl) 65 (.tmp 5) 1 rfl w1.heap.size 0 1 rfl (Try.fieldGrid1 _ _) ?_)
        | (have _t := tk12; clear _t tk12; refine wpList_loadG rfl (by rfl) 3 (.tmp 24) rfl w1.heap.size 1 rfl _ gc1 Try.aggInt ?_)
        | (have _t := tk13; clear _t tk13; refine wpList_fieldG rfl (by rfl) 65 (.tmp 7) 1 rfl w4.heap.size 0 1 rfl (Try.fieldGrid1 _ _) ?_)
        | (have _t := tk14; clear _t tk14; refine wpList_loadG rfl (by rfl) 3 (.tmp 26) rfl w4.heap.size 1 rfl _ hc1 Try.aggInt ?_)
        | (have _t := tk15; clear _t tk15; refine wpList_binG rfl (by rfl) .neq 3 (.tmp 25) (.tmp 27) _ rfl (.int .i64 m.blocks.length) (.int .i64 n.blocks.length) (.bool true) rfl rfl ((Try.neqInt (.tmp 25) (.tmp 27) m.blocks.length n.blocks.length _).trans (by rw [dn])) ?_))
    go_ret
    exact ⟨ret_bool HRr.out.symm, B6.out⟩
  obtain ⟨s, hs⟩ : ∃ s : Int, s = (m.facts.length : Int) + n.facts.length := ⟨_, rfl⟩
  have ds : IntKind.wrap .i64 ((m.facts.length : Int) + (n.facts.length : Int)) = s := by rw [hs]; exact IntWalk.i64_in _ (by omega)
  have dn : ((m.blocks.length : Int) != (n.blocks.length : Int)) = false := by rw [hbl]; simp
  by_cases hsz : m.facts.length + n.facts.length ≤ 16
  case neg =>
    have HRr : Hid (R = false) := Lib.hid (by rw [HR.out, decide_eq_false hsz]; simp)
    have dg : decide ((16 : Int) < s) = true := decide_eq_true (by omega)
    clear HR HX HY hm hn
    generalize gL 0 0 [] [] 0 = Z at *
    generalize gOf m = G at *
    generalize gOf n = H at *
    go_enter Try.func11, Try.ntmps11
    go_wp2_with fail
    refine (KG.out _ (by go_grown)).mono ?_
    rintro e w1 ⟨rfl, hb1⟩
    have X1 := Lib.hid (Mcell.below (b := w.heap.size) ((Mcell.new rfl).alloc _) hb1)
    have Y1 := Lib.hid (Mcell.below (b := w.heap.size + 1) (Mcell.new (by simp)) hb1)
    have B1 : Hid (Below w.heap.size w w1) := Lib.hid (Below.trans (by go_grown) (hb1.mono (by simp; omega)))
    clear hb1
    have tk16 : True := trivial
    have tk17 : True := trivial
    go_wp2_with
      (first
        | (have _t := tk16; clear _t tk16; refine wpList_allocM rfl 65 rfl (ints Z) HA0.out ?_
           intro w2 hc2 hb2 hs2
           have C2 := Lib.hid hc2
           have X2 := Lib.hid (X1.out.below hb2)
           have Y2 := Lib.hid (Y1.out.below hb2)
           have hy1 := Y1.out.lt
           have B2 : Hid (Below w.heap.size w w2) := Lib.hid (B1.out.trans (hb2.mono B1.out.size))
           clear hc2 hb2 hs2 X1 Y1 B1)
        | (have _t := tk17; clear _t tk17; refine wpList_storeM rfl 65 _ _ rfl w1.heap.size 0 rfl (ints G) rfl 65 (ints Z) C2.out (by first | (rw [HLG.out, HZL.out]; exact Nat.le_refl _) | (rw [HZL.out]; decide)) (by rw [HLG.out]; exact Try.sizeGrid) HG1.out ?_
           intro w3 hc3 ha3
           rw [lay'_all (by first | rfl | rw [HLG.out, HZL.out])] at hc3
           have C3 := Lib.hid hc3
           have X3 := Lib.hid (X2.out.of_block (ha3.block _ (by omega)))
           have Y3 := Lib.hid (Y2.out.of_block (ha3.block _ (by omega)))
           have B3 : Hid (Below w.heap.size w w3) := Lib.hid (B2.out.trans (ha3.below (by omega)))
           obtain ⟨y0, y1, y2, _⟩ := Y3.out
           clear hc3 ha3 C2 X2 Y2 B2))
    refine (KH.out _ B3.out).mono ?_
    rintro e w4 ⟨rfl, hb4⟩
    have C4 := Lib.hid (C3.out.all hb4)
    have X4 := Lib.hid (X3.out.below hb4)
    have Y4 := Lib.hid (Y3.out.below hb4)
    have B4 := Lib.hid (B3.out.trans (hb4.mono B3.out.size))
    have hc4 := C4.out.lt
    clear hb4 y0 y1 y2 C3 X3 Y3 B3
    have tk18 : True := trivial
    have tk19 : True := trivial
    have tk20 : True := trivial
    have tk21 : True := trivial
    have tk22 : True := trivial
    have tk23 : True := trivial
    have tk24 : True := trivial
    have tk25 : True := trivial
    have tk26 : True := trivial
    have tk27 : True := trivial
    have tk28 : True := trivial
    have tk29 : True := trivial
    have tk30 : True := trivial
    go_wp2_with
      (first
        | (have _t := tk18; clear _t tk18; refine wpList_allocM rfl 65 rfl (ints Z) HA0.out ?_
           intro w5 hc5 hb5 hs5
           have D5 := Lib.hid hc5
           have C5 := Lib.hid (C4.out.all hb5)
           have X5 := Lib.hid (X4.out.below hb5)
           have Y5 := Lib.hid (Y4.out.below hb5)
           have B5 : Hid (Below w.heap.size w w5) := Lib.hid (B4.out.trans (hb5.mono B4.out.size))
           clear hc5 hb5 hs5 C4 X4 Y4 B4)
        | (have _t := tk19; clear _t tk19; refine wpList_storeM rfl 65 (.tmp 7) (.tmp 19) rfl w4.heap.size 0 rfl (ints H) rfl 65 (ints Z) D5.out (by first | (rw [HLH.out, HZL.out]; exact Nat.le_refl _) | (rw [HZL.out]; decide)) (by rw [HLH.out]; exact Try.sizeGrid) HH1.out ?_
           intro w6 hc6 ha6
           rw [lay'_all (by first | rfl | rw [HLH.out, HZL.out])] at hc6
           have D6 := Lib.hid hc6
           have C6 := Lib.hid (ha6.cm C5.out (by omega))
           have B6 : Hid (Below w.heap.size w w6) := Lib.hid (B5.out.trans (ha6.below (by omega)))
           clear hc6 ha6 D5 C5 X5 Y5 B5
           obtain ⟨gc0, gc1, gc2⟩ := HGc.out _ _ _ C6.out
           obtain ⟨hc0, hc1, hc2⟩ := HHc.out _ _ _ D6.out)
        | (have _t := tk20; clear _t tk20; refine wpList_fieldG rfl (by rfl) 65 (.tmp 5) 1 rfl w1.heap.size 0 1 rfl (Try.fieldGrid1 _ _) ?_)
        | (have _t := tk21; clear _t tk21; refine wpList_loadG rfl (by rfl) 3 (.tmp 24) rfl w1.heap.size 1 rfl _ gc1 Try.aggInt ?_)
        | (have _t := tk22; clear _t tk22; refine wpList_fieldG rfl (by rfl) 65 (.tmp 7) 1 rfl w4.heap.size 0 1 rfl (Try.fieldGrid1 _ _) ?_)
        | (have _t := tk23; clear _t tk23; refine wpList_loadG rfl (by rfl) 3 (.tmp 26) rfl w4.heap.size 1 rfl _ hc1 Try.aggInt ?_)
        | (have _t := tk24; clear _t tk24; refine wpList_binG rfl (by rfl) .neq 3 (.tmp 25) (.tmp 27) _ rfl (.int .i64 m.blocks.length) (.int .i64 n.blocks.length) (.bool false) rfl rfl ((Try.neqInt (.tmp 25) (.tmp 27) m.blocks.length n.blocks.length _).trans (by rw [dn])) ?_)
        | (have _t := tk25; clear _t tk25; refine wpList_fieldG rfl (by rfl) 65 (.tmp 5) 0 rfl w1.heap.size 0 0 rfl (Try.fieldGrid0 _ _) ?_)
        | (have _t := tk26; clear _t tk26; refine wpList_loadG rfl (by rfl) 3 (.tmp 31) rfl w1.heap.size 0 rfl _ gc0 Try.aggInt ?_)
        | (have _t := tk27; clear _t tk27; refine wpList_fieldG rfl (by rfl) 65 (.tmp 7) 0 rfl w4.heap.size 0 0 rfl (Try.fieldGrid0 _ _) ?_)
        | (have _t := tk28; clear _t tk28; refine wpList_loadG rfl (by rfl) 3 (.tmp 33) rfl w4.heap.size 0 rfl _ hc0 Try.aggInt ?_)
        | (have _t := tk29; clear _t tk29; refine wpList_binG rfl (by rfl) .add 3 (.tmp 32) (.tmp 34) _ rfl (.int .i64 m.facts.length) (.int .i64 n.facts.length) (.int .i64 s) rfl rfl ((Try.addInt (.tmp 32) (.tmp 34) m.facts.length n.facts.length _).trans (by rw [ds])) ?_)
        | (have _t := tk30; clear _t tk30; refine wpList_binG rfl (by rfl) .gtr 3 (.tmp 35) _ _ rfl (.int .i64 s) (.int .i64 16) (.bool true) rfl rfl ((Try.gtrInt (.tmp 35) (.const (.int .i64 16)) s 16 _).trans (by rw [dg])) ?_))
    go_ret
    exact ⟨ret_bool HRr.out.symm, B6.out⟩
  have dg : decide ((16 : Int) < s) = false := decide_eq_false (by omega)
  have HR2 : Hid (R = ((lastC (bothM m n)).getD m.actual.toNat 0 == (lastC (bothM m n)).getD (m.facts.length + n.actual.toNat) 0)) := Lib.hid (by rw [HR.out, hm, hn, show (m.blocks.length == n.blocks.length) = true by rw [beq_iff_eq]; exact hbl, decide_eq_true hsz]; simp)
  have KJ := Lib.hid (fun W => joined_any m n hm hn hbl hsz W)
  have hbo := both_ok hm hn hbl hsz
  have KC := Lib.hid (fun W => classes_any (bothM m n) hbo W)
  change Hid (∀ W, Calls Try.prog 39 #[.agg (ints (gOf (bothM m n))).toArray] W _) at KC
  have HCL : Hid ((lastC (bothM m n)).length = m.facts.length + n.facts.length) := Lib.hid (by rw [lastC_len]; unfold bothM; simp)
  have HPL : Hid ((ints (pad (lastC (bothM m n)))).length = 16) := Lib.hid (by rw [ints_len, pad_len (by rw [HCL.out]; exact hsz)])
  have HPC : Hid (∀ (W : World) b T, Cm W b T (ints (pad (lastC (bothM m n)))) → ∀ i, i < 16 → W.cell? ⟨b, i, none⟩ = some (.int .i64 ((lastC (bothM m n)).getD i 0))) := Lib.hid (fun W b T h i hi => by rw [h.cell, ints_get, pad_get hi (by rw [HCL.out]; exact hsz)]; rfl)
  have HP1 := Lib.hid (fun v (hv : v ∈ ints (pad (lastC (bothM m n)))) => ints_one hv)
  have HZR : Hid ((ints (List.replicate 16 0)).length = 16) := Lib.hid rfl
  obtain ⟨a, ha⟩ := Int.eq_ofNat_of_zero_le p7
  obtain ⟨a2, ha2⟩ := Int.eq_ofNat_of_zero_le q7
  rw [ha] at HGc
  rw [ha2] at HHc
  rw [ha, ha2, Int.toNat_natCast, Int.toNat_natCast] at HR2
  have hap : a < m.facts.length := by omega
  have ha2p : a2 < n.facts.length := by omega
  have MA : Hid (m.actual = (a : Int)) := Lib.hid ha
  have MA2 : Hid (n.actual = (a2 : Int)) := Lib.hid ha2
  clear HR HX HY hm hn hbo ha ha2 p7 p8 q7 q8
  obtain ⟨b2, hb2⟩ : ∃ b2, b2 = m.facts.length + a2 := ⟨_, rfl⟩
  have HWB : Hid (IntKind.wrap .i64 ((m.facts.length : Int) + (a2 : Int)) = (m.facts.length : Int) + (a2 : Int)) := Lib.hid (IntWalk.i64_in _ (by omega))
  have HB2 : Hid ((m.facts.length : Int) + (a2 : Int) = (b2 : Int)) := Lib.hid (by omega)
  rw [← hb2] at HR2
  have a0 : (0 : Int) ≤ (a : Int) := Int.natCast_nonneg _
  have a16 : (a : Int) < 16 := by omega
  have b0 : (0 : Int) ≤ (b2 : Int) := Int.natCast_nonneg _
  have b16 : (b2 : Int) < 16 := by omega
  have hb216 : b2 < 16 := by omega
  generalize gL 0 0 [] [] 0 = Z at *
  generalize gOf (bothM m n) = B at *
  generalize gOf m = G at *
  generalize gOf n = H at *
  generalize lastC (bothM m n) = C at *
  obtain ⟨x, hx⟩ : ∃ x, x = C.getD a 0 := ⟨_, rfl⟩
  obtain ⟨y, hy⟩ : ∃ y, y = C.getD b2 0 := ⟨_, rfl⟩
  rw [← hx, ← hy] at HR2
  have HPx : Hid (∀ (W : World) b T, Cm W b T (ints (pad C)) → W.cell? ⟨b, a, none⟩ = some (.int .i64 x) ∧ W.cell? ⟨b, b2, none⟩ = some (.int .i64 y)) := Lib.hid (fun W b T h => ⟨by rw [HPC.out W b T h a (by omega), hx], by rw [HPC.out W b T h b2 (by omega), hy]⟩)
  clear HPC hx hy hb2
  go_enter Try.func11, Try.ntmps11
  go_wp2_with fail
  refine (KG.out _ (by go_grown)).mono ?_
  rintro e w1 ⟨rfl, hb1⟩
  have X1 := Lib.hid (Mcell.below (b := w.heap.size) ((Mcell.new rfl).alloc _) hb1)
  have Y1 := Lib.hid (Mcell.below (b := w.heap.size + 1) (Mcell.new (by simp)) hb1)
  have B1 : Hid (Below w.heap.size w w1) := Lib.hid (Below.trans (by go_grown) (hb1.mono (by simp; omega)))
  clear hb1
  have tk31 : True := trivial
  have tk32 : True := trivial
  go_wp2_with
    (first
      | (have _t := tk31; clear _t tk31; refine wpList_allocM rfl 65 rfl (ints Z) HA0.out ?_
         intro w2 hc2 hb2 hs2
         have C2 := Lib.hid hc2
         have X2 := Lib.hid (X1.out.below hb2)
         have Y2 := Lib.hid (Y1.out.below hb2)
         have hy1 := Y1.out.lt
         have B2 : Hid (Below w.heap.size w w2) := Lib.hid (B1.out.trans (hb2.mono B1.out.size))
         clear hc2 hb2 hs2 X1 Y1 B1)
      | (have _t := tk32; clear _t tk32; refine wpList_storeM rfl 65 _ _ rfl w1.heap.size 0 rfl (ints G) rfl 65 (ints Z) C2.out (by first | (rw [HLG.out, HZL.out]; exact Nat.le_refl _) | (rw [HZL.out]; decide)) (by rw [HLG.out]; exact Try.sizeGrid) HG1.out ?_
         intro w3 hc3 ha3
         rw [lay'_all (by first | rfl | rw [HLG.out, HZL.out])] at hc3
         have C3 := Lib.hid hc3
         have X3 := Lib.hid (X2.out.of_block (ha3.block _ (by omega)))
         have Y3 := Lib.hid (Y2.out.of_block (ha3.block _ (by omega)))
         have B3 : Hid (Below w.heap.size w w3) := Lib.hid (B2.out.trans (ha3.below (by omega)))
         obtain ⟨y0, y1, y2, _⟩ := Y3.out
         clear hc3 ha3 C2 X2 Y2 B2))
  refine (KH.out _ B3.out).mono ?_
  rintro e w4 ⟨rfl, hb4⟩
  have C4 := Lib.hid (C3.out.all hb4)
  have X4 := Lib.hid (X3.out.below hb4)
  have Y4 := Lib.hid (Y3.out.below hb4)
  have B4 := Lib.hid (B3.out.trans (hb4.mono B3.out.size))
  have hc4 := C4.out.lt
  clear hb4 y0 y1 y2 C3 X3 Y3 B3
  have tk33 : True := trivial
  have tk34 : True := trivial
  have tk35 : True := trivial
  have tk36 : True := trivial
  have tk37 : True := trivial
  have tk38 : True := trivial
  have tk39 : True := trivial
  have tk40 : True := trivial
  have tk41 : True := trivial
  have tk42 : True := trivial
  have tk43 : True := trivial
  have tk44 : True := trivial
  have tk45 : True := trivial
  have tk46 : True := trivial
  have tk47 : True := trivial
  have tk48 : True := trivial
  have tk49 : True := trivial
  have tk50 : True := trivial
  have tk51 : True := trivial
  go_wp2_with
    (first
      | (have _t := tk33; clear _t tk33; refine wpList_allocM rfl 65 rfl (ints Z) HA0.out ?_
         intro w5 hc5 hb5 hs5
         have D5 := Lib.hid hc5
         have C5 := Lib.hid (C4.out.all hb5)
         have X5 := Lib.hid (X4.out.below hb5)
         have Y5 := Lib.hid (Y4.out.below hb5)
         have B5 : Hid (Below w.heap.size w w5) := Lib.hid (B4.out.trans (hb5.mono B4.out.size))
         clear hc5 hb5 hs5 C4 X4 Y4 B4)
      | (have _t := tk34; clear _t tk34; refine wpList_storeM rfl 65 (.tmp 7) (.tmp 19) rfl w4.heap.size 0 rfl (ints H) rfl 65 (ints Z) D5.out (by first | (rw [HLH.out, HZL.out]; exact Nat.le_refl _) | (rw [HZL.out]; decide)) (by rw [HLH.out]; exact Try.sizeGrid) HH1.out ?_
         intro w6 hc6 ha6
         rw [lay'_all (by first | rfl | rw [HLH.out, HZL.out])] at hc6
         have D6 := Lib.hid hc6
         have C6 := Lib.hid (ha6.cm C5.out (by omega))
         have B6 : Hid (Below w.heap.size w w6) := Lib.hid (B5.out.trans (ha6.below (by omega)))
         clear hc6 ha6 D5 C5 X5 Y5 B5
         obtain ⟨gc0, gc1, gc2⟩ := HGc.out _ _ _ C6.out
         obtain ⟨hc0, hc1, hc2⟩ := HHc.out _ _ _ D6.out)
      | (have _t := tk35; clear _t tk35; refine wpList_fieldG rfl (by rfl) 65 (.tmp 5) 1 rfl w1.heap.size 0 1 rfl (Try.fieldGrid1 _ _) ?_)
      | (have _t := tk36; clear _t tk36; refine wpList_loadG rfl (by rfl) 3 (.tmp 24) rfl w1.heap.size 1 rfl _ gc1 Try.aggInt ?_)
      | (have _t := tk37; clear _t tk37; refine wpList_fieldG rfl (by rfl) 65 (.tmp 7) 1 rfl w4.heap.size 0 1 rfl (Try.fieldGrid1 _ _) ?_)
      | (have _t := tk38; clear _t tk38; refine wpList_loadG rfl (by rfl) 3 (.tmp 26) rfl w4.heap.size 1 rfl _ hc1 Try.aggInt ?_)
      | (have _t := tk39; clear _t tk39; refine wpList_binG rfl (by rfl) .neq 3 (.tmp 25) (.tmp 27) _ rfl (.int .i64 m.blocks.length) (.int .i64 n.blocks.length) (.bool false) rfl rfl ((Try.neqInt (.tmp 25) (.tmp 27) m.blocks.length n.blocks.length _).trans (by rw [dn])) ?_)
      | (have _t := tk40; clear _t tk40; refine wpList_fieldG rfl (by rfl) 65 (.tmp 5) 0 rfl w1.heap.size 0 0 rfl (Try.fieldGrid0 _ _) ?_)
      | (have _t := tk41; clear _t tk41; refine wpList_loadG rfl (by rfl) 3 (.tmp 31) rfl w1.heap.size 0 rfl _ gc0 Try.aggInt ?_)
      | (have _t := tk42; clear _t tk42; refine wpList_fieldG rfl (by rfl) 65 (.tmp 7) 0 rfl w4.heap.size 0 0 rfl (Try.fieldGrid0 _ _) ?_)
      | (have _t := tk43; clear _t tk43; refine wpList_loadG rfl (by rfl) 3 (.tmp 33) rfl w4.heap.size 0 rfl _ hc0 Try.aggInt ?_)
      | (have _t := tk44; clear _t tk44; refine wpList_binG rfl (by rfl) .add 3 (.tmp 32) (.tmp 34) _ rfl (.int .i64 m.facts.length) (.int .i64 n.facts.length) (.int .i64 s) rfl rfl ((Try.addInt (.tmp 32) (.tmp 34) m.facts.length n.facts.length _).trans (by rw [ds])) ?_)
      | (have _t := tk45; clear _t tk45; refine wpList_binG rfl (by rfl) .gtr 3 (.tmp 35) _ _ rfl (.int .i64 s) (.int .i64 16) (.bool false) rfl rfl ((Try.gtrInt (.tmp 35) (.const (.int .i64 16)) s 16 _).trans (by rw [dg])) ?_)
      | (have _t := tk46; clear _t tk46; refine wpList_loadM rfl 65 _ rfl w1.heap.size 0 rfl 65 (ints G) (ints G) C6.out (fun j _ => by rw [Nat.zero_add]) _ Try.underlying65 rfl (by rw [HLG.out]; exact Try.sizeGrid) ?_)
      | (have _t := tk47; clear _t tk47; refine wpList_loadM rfl 65 _ rfl w4.heap.size 0 rfl 65 (ints H) (ints H) D6.out (fun j _ => by rw [Nat.zero_add]) _ Try.underlying65 rfl (by rw [HLH.out]; exact Try.sizeGrid) ?_)
      | (have _t := tk48; clear _t tk48; go_at_call 38; (with_reducible refine (KJ.out _).mono ?_); rintro e w7 ⟨rfl, hb7⟩; have C7 := Lib.hid (C6.out.all hb7); have D7 := Lib.hid (D6.out.all hb7); have B7 := Lib.hid (B6.out.trans (hb7.mono B6.out.size)); clear hb7 gc0 gc1 gc2 hc0 hc1 hc2)
      | (have _t := tk49; clear _t tk49; go_at_call 39; (with_reducible refine (KC.out _).mono ?_); rintro e w8 ⟨rfl, hb8⟩; have C8 := Lib.hid (C7.out.all hb8); have D8 := Lib.hid (D7.out.all hb8); have B8 := Lib.hid (B7.out.trans (hb8.mono B7.out.size)); clear hb8)
      | (have _t := tk50; clear _t tk50; refine wpList_allocM rfl 62 rfl (ints (List.replicate 16 0)) Try.allocRowJ ?_; intro w9 hc9 hb9 hs9; have R9 := Lib.hid hc9; have C9 := Lib.hid (C8.out.all hb9); have D9 := Lib.hid (D8.out.all hb9); have hd8 := D8.out.lt; have hcc8 := C8.out.lt; have B9 : Hid (Below w.heap.size w w9) := Lib.hid (B8.out.trans (hb9.mono B8.out.size)); clear hc9 hb9 hs9)
      | (have _t := tk51; clear _t tk51; refine wpList_storeM rfl 62 (.tmp 8) (.tmp 41) rfl w8.heap.size 0 rfl (ints (pad C)) rfl 62 (ints (List.replicate 16 0)) R9.out (by rw [HPL.out, HZR.out]; exact Nat.le_refl _) (by rw [HPL.out]; exact Try.sizeRow) HP1.out ?_; intro w10 hc10 ha10; rw [lay'_all (by rw [HPL.out, HZR.out])] at hc10; have R10 := Lib.hid hc10; have C10 := Lib.hid (ha10.cm C9.out (by omega)); have D10 := Lib.hid (ha10.cm D9.out (by omega)); have hB8 := B8.out.size; have B10 : Hid (Below w.heap.size w w10) := Lib.hid (B9.out.trans (ha10.below (by omega))); clear hc10 ha10))
  have HQ : Hid (∀ W, Below w10.heap.size w10 W → (W.cell? ⟨w1.heap.size, 66, none⟩ = some (.int .i64 a) ∧ W.cell? ⟨w1.heap.size, 0, none⟩ = some (.int .i64 m.facts.length) ∧ W.cell? ⟨w4.heap.size, 66, none⟩ = some (.int .i64 a2)) ∧ W.cell? ⟨w8.heap.size, a, none⟩ = some (.int .i64 x) ∧ W.cell? ⟨w8.heap.size, b2, none⟩ = some (.int .i64 y)) := Lib.hid (fun W hW => ⟨⟨(HGc.out _ _ _ (C10.out.all hW)).2.2, (HGc.out _ _ _ (C10.out.all hW)).1, (HHc.out _ _ _ (D10.out.all hW)).2.2⟩, HPx.out _ _ _ (R10.out.all hW)⟩)
  refine regionL (fun W => Below w10.heap.size w10 W) [12] (by kernel_rfl) (Below.refl _ _).drew (fun hHeld => ?_)
  refine takeA (i := 0) (v := .pointer (some ⟨w1.heap.size, 66, none⟩)) 42 rfl rfl (by kernel_rfl) (by kernel_rfl) (by kernel_rfl) (by kernel_rfl) (fun _ _ _ h => h) (Or.inl ⟨by rfl, by intro W hSw; go_simp⟩) hHeld ?_
  simp only [Act.put, List.setIfInBounds_toArray, List.set_cons_zero, List.set_cons_succ]
  refine takeA (i := 1) (v := .int .i64 a) 43 rfl rfl (by kernel_rfl) (by kernel_rfl) (by kernel_rfl) (by kernel_rfl) (fun _ _ _ h => h) (Or.inl ⟨by rfl, by intro W hSw; have c1 := (HQ.out _ hSw).1.1; go_simp⟩) hHeld ?_
  simp only [Act.put, List.setIfInBounds_toArray, List.set_cons_zero, List.set_cons_succ]
  refine takeA (i := 2) (v := .pointer (some ⟨w8.heap.size, a, none⟩)) 44 rfl rfl (by kernel_rfl) (by kernel_rfl) (by kernel_rfl) (by kernel_rfl) (fun _ _ _ h => h) (Or.inl ⟨by rfl, by intro W hSw; go_simp⟩) hHeld ?_
  simp only [Act.put, List.setIfInBounds_toArray, List.set_cons_zero, List.set_cons_succ]
  refine takeA (i := 3) (v := .int .i64 x) 45 rfl rfl (by kernel_rfl) (by kernel_rfl) (by kernel_rfl) (by kernel_rfl) (fun _ _ _ h => h) (Or.inl ⟨by rfl, by intro W hSw; have c1 := (HQ.out _ hSw).2.1; go_simp⟩) hHeld ?_
  simp only [Act.put, List.setIfInBounds_toArray, List.set_cons_zero, List.set_cons_succ]
  refine takeA (i := 4) (v := .pointer (some ⟨w1.heap.size, 0, none⟩)) 46 rfl rfl (by kernel_rfl) (by kernel_rfl) (by kernel_rfl) (by kernel_rfl) (fun _ _ _ h => h) (Or.inl ⟨by rfl, by intro W hSw; go_simp⟩) hHeld ?_
  simp only [Act.put, List.setIfInBounds_toArray, List.set_cons_zero, List.set_cons_succ]
  refine takeA (i := 5) (v := .int .i64 m.facts.length) 47 rfl rfl (by kernel_rfl) (by kernel_rfl) (by kernel_rfl) (by kernel_rfl) (fun _ _ _ h => h) (Or.inl ⟨by rfl, by intro W hSw; have c1 := (HQ.out _ hSw).1.2.1; go_simp⟩) hHeld ?_
  simp only [Act.put, List.setIfInBounds_toArray, List.set_cons_zero, List.set_cons_succ]
  refine takeA (i := 6) (v := .pointer (some ⟨w4.heap.size, 66, none⟩)) 48 rfl rfl (by kernel_rfl) (by kernel_rfl) (by kernel_rfl) (by kernel_rfl) (fun _ _ _ h => h) (Or.inl ⟨by rfl, by intro W hSw; go_simp⟩) hHeld ?_
  simp only [Act.put, List.setIfInBounds_toArray, List.set_cons_zero, List.set_cons_succ]
  refine takeA (i := 7) (v := .int .i64 a2) 49 rfl rfl (by kernel_rfl) (by kernel_rfl) (by kernel_rfl) (by kernel_rfl) (fun _ _ _ h => h) (Or.inl ⟨by rfl, by intro W hSw; have c1 := (HQ.out _ hSw).1.2.2; go_simp⟩) hHeld ?_
  simp only [Act.put, List.setIfInBounds_toArray, List.set_cons_zero, List.set_cons_succ]
  refine takeA (i := 8) (v := .int .i64 b2) 50 rfl rfl (by kernel_rfl) (by kernel_rfl) (by kernel_rfl) (by kernel_rfl) (fun _ _ _ h => h) (Or.inl ⟨by rfl, by intro W hSw; have hw := HWB.out; rw [← HB2.out]; go_simp⟩) hHeld ?_
  simp only [Act.put, List.setIfInBounds_toArray, List.set_cons_zero, List.set_cons_succ]
  refine takeA (i := 9) (v := .pointer (some ⟨w8.heap.size, b2, none⟩)) 51 rfl rfl (by kernel_rfl) (by kernel_rfl) (by kernel_rfl) (by kernel_rfl) (fun _ _ _ h => h) (Or.inl ⟨by rfl, by intro W hSw; go_simp⟩) hHeld ?_
  simp only [Act.put, List.setIfInBounds_toArray, List.set_cons_zero, List.set_cons_succ]
  refine takeA (i := 10) (v := .int .i64 y) 52 rfl rfl (by kernel_rfl) (by kernel_rfl) (by kernel_rfl) (by kernel_rfl) (fun _ _ _ h => h) (Or.inl ⟨by rfl, by intro W hSw; have c1 := (HQ.out _ hSw).2.2; go_simp⟩) hHeld ?_
  simp only [Act.put, List.setIfInBounds_toArray, List.set_cons_zero, List.set_cons_succ]
  refine takeA (i := 11) (v := .bool (x == y)) 53 rfl rfl (by kernel_rfl) (by kernel_rfl) (by kernel_rfl) (by kernel_rfl) (fun _ _ _ h => h) (Or.inl ⟨by rfl, by intro W hSw; go_simp⟩) hHeld ?_
  simp only [Act.put, List.setIfInBounds_toArray, List.set_cons_zero, List.set_cons_succ]
  refine onlyL (i := 12) (by kernel_rfl) rfl (by rfl) (fun K hK => ?_)
  go_simp
  refine hK.out _ _ (fun h => absurd (by decide) h) (fun _ => ?_)
  clear hK K
  refine doneL (by kernel_rfl) ?_ _
  go_wp2
  go_ret
  exact ⟨ret_bool HR2.out.symm, B10.out.trans (hHeld.mono B10.out.size)⟩
end Go.Proofs.Ytpodpadcaflehaa