/-
  Two announcements one after the other are one announcement, in mathematics; the walk of the law FnTwice: it returns true and writes nothing that was there. No condition.
-/
import Derived.Test.YtodjohdbngbpaaaGreatTwm
import Derived.Test.YtodjohdbngbpaaaGreatZDrg
import Derived.Test.YtodjohdbngbpaaaGreatFmm
import Derived.Test.YtodjohdbngbpaaaGreatZAnn
import Derived.Test.YtodjohdbngbpaaaGreatZDrw
import Derived.Test.YtodjohdbngbpaaaGreatZCmb
namespace Go.Proofs.YtodjohdbngbpaaaGreat
open Go.RowKit Go.WideShapes
open Go Go.Deep
set_option linter.unusedSimpArgs false

theorem holds_lay {m : Md} {t : Tm} (hm : mdOk m = true) (hw : t.wf) (hs : t.size ≤ 40) {A : Nat} (h1 : 1 ≤ A) (hA : A ≤ m.blocks.length) (ha : t.ag A) : holdsR m (lay 0 t) = evI t m m.actual.toNat := by
  unfold holdsR; rw [evOk_lay hm hw hs h1 hA ha, evP_lay hw hs]; rfl
theorem ann_lay {m : Md} {t : Tm} (hm : mdOk m = true) (hw : t.wf) (hs : t.size ≤ 40) {A : Nat} (h1 : 1 ≤ A) (hA : A ≤ m.blocks.length) (ha : t.ag A) : annR m (lay 0 t) = if evI t m m.actual.toNat then some (restM m (lst (evI t m) 16)) else none := by
  unfold annR; rw [holds_lay hm hw hs h1 hA ha, evP_lay hw hs]
theorem ann_twice {m : Md} {t1 t2 : Tm} (hm : mdOk m = true) (h2 : 2 ≤ m.blocks.length) (w1 : t1.wf) (w2 : t2.wf) (s1 : t1.size ≤ 7) (s2 : t2.size ≤ 7) (a1 : t1.ag 2) (a2 : t2.ag 2) :
    annList m [lay 0 t1, lay 0 t2] = annR m (lay 0 (.joint 4 t1 (.joint 9 t1 t2))) := by
  obtain ⟨p1, p2, p3, p4, p5, p6, p7, p8⟩ := mdOk_parts hm
  obtain ⟨act, hact⟩ := Int.eq_ofNat_of_zero_le p7
  have hal : act < m.facts.length := by omega
  have wb : (Tm.joint 4 t1 (.joint 9 t1 t2)).wf := ⟨.inl rfl, w1, .inr rfl, w1, w2⟩
  have ab : (Tm.joint 4 t1 (.joint 9 t1 t2)).ag ((2 : Nat) : Int) := ⟨a1, a1, a2⟩
  have hin : ∀ i, evI t1 m i = true → i < m.facts.length := fun i hi => evI_in t1 m i p2 hi
  rw [ann_lay hm wb (by simp only [Tm.size]; omega) (A := 2) (by omega) h2 ab, hact, Int.toNat_natCast]
  have hb : ∀ i, evI (.joint 4 t1 (.joint 9 t1 t2)) m i = (evI t1 m i && evI t2 (restM m (lst (evI t1 m) 16)) (rank (evI t1 m) i)) := fun i => by
    show (decide (i < m.facts.length) && (evI t1 m i && aftB m.facts.length (evI t1 m) (evI t2 (restM m (lst (evI t1 m) 16))) i)) = _
    unfold aftB
    cases hp : evI t1 m i with
    | false => simp
    | true => simp [hin i hp]
  rw [annList, ann_lay hm w1 (by omega) (A := 2) (by omega) h2 a1, hact, Int.toNat_natCast, hb act]
  have hbf : evI (.joint 4 t1 (.joint 9 t1 t2)) m = fun i => evI t1 m i && evI t2 (restM m (lst (evI t1 m) 16)) (rank (evI t1 m) i) := funext hb
  rw [hbf]
  cases hpa : evI t1 m act with
  | false => simp
  | true =>
    rw [if_pos rfl]
    show annList (restM m (lst (evI t1 m) 16)) [lay 0 t2] = _
    have hla : act ∈ lst (evI t1 m) 16 := mem_lst.2 ⟨by omega, hpa⟩
    have hR := restM_ok hm (lst_nodup (evI t1 m) 16) (fun i hi => hin i (mem_lst.1 hi).2) (by rw [hact, Int.toNat_natCast]; exact hla)
    have hRb : (restM m (lst (evI t1 m) 16)).blocks.length = m.blocks.length := by unfold restM; simp [rawRows_len]
    have hRl : (restM m (lst (evI t1 m) 16)).facts.length = (lst (evI t1 m) 16).length := pick_len _ _
    obtain ⟨r1, r2⟩ := lst_rank hpa (by omega)
    have hRa : (restM m (lst (evI t1 m) 16)).actual = ((rank (evI t1 m) act : Nat) : Int) := by
      show actIn m.actual (lst (evI t1 m) 16) = _
      rw [hact]
      have := actIn_at (lst_nodup (evI t1 m) 16) r1
      rw [r2] at this
      exact this
    have hlen : (lst (evI t1 m) 16).length ≤ 16 := lst_len _ _
    rw [annList, ann_lay hR w2 (by omega) (A := 2) (by omega) (Nat.le_trans h2 (Nat.le_of_eq hRb.symm)) a2, hRa, Int.toNat_natCast, Bool.true_and]
    cases hq : evI t2 (restM m (lst (evI t1 m) 16)) (rank (evI t1 m) act) with
    | false => rfl
    | true =>
      rw [if_pos rfl, if_pos rfl]
      show some _ = some _
      have hqin : ∀ u, evI t2 (restM m (lst (evI t1 m) 16)) u = true → u < (lst (evI t1 m) 16).length := fun u hu => by
        have := evI_in t2 _ u (by rw [hRl]; exact hlen) hu
        rwa [hRl] at this
      rw [restM_comp (lst_nodup _ _) (lst_nodup _ _) (fun u hu => hqin u (mem_lst.1 hu).2) r1 (by rw [hact, r2]) (mem_lst.2 ⟨by omega, hq⟩), lst_comp hqin]
theorem combL_lay {t : Tm} (hw : t.wf) (hs : t.size ≤ 40) : combL t = some (lay 0 t) := by unfold combL; rw [if_pos (lay_formOk hw hs)]
theorem termOfL_lay {t : Tm} (hw : t.wf) (hs : t.size ≤ 40) : termOfL (lay 0 t) = t := lay_tm hw hs
theorem drawnF.term {xs : List Nd} {A s : Nat} (h : drawnF xs A s) : ∃ t : Tm, xs = lay 0 t ∧ t.wf ∧ t.ag A ∧ t.size ≤ 2 * s - 1 := h
theorem sameM_self (m : Md) : sameM m m = true := by unfold sameM; simp
theorem annAll_nil {m : Md} (hm : mdOk m = true) : annAllR m [] = some m := by unfold annAllR; rw [hm]; rfl
theorem annAll_two {m : Md} (hm : mdOk m = true) (f g : List Nd) : annAllR m [f, g] = annList m [f, g] := by unfold annAllR; rw [hm]; rfl
theorem Nvv.nil (lo hi : Nat) (w : World) : Nvv lo hi w (.slice none 0 0) [] := ⟨[], rfl, Rv.nil _ _ _, fun j hj => by simp at hj⟩
theorem Nvv.two {w : World} {b : Nat} {u v : Value} {f g : List Nd} (hb : b < w.heap.size) (h0 : w.cell? ⟨b, 0, none⟩ = some u) (h1 : w.cell? ⟨b, 1, none⟩ = some v) (hu : Ns w u f) (hv : Ns w v g) : Nvv b (b + 1) w (.slice (some ⟨b, 0, none⟩) 2 2) [f, g] := by
  refine ⟨[u, v], rfl, ⟨some ⟨b, 0, none⟩, 2, rfl, Nat.le_refl _, by decide, .inr ⟨b, 0, rfl, Nat.le_refl _, Nat.lt_succ_self _, hb, fun j x hx => ?_⟩⟩, fun j hj => ?_⟩
  · match j, hx with
    | 0, hx => cases hx; exact h0
    | 1, hx => cases hx; exact h1
  · match j, hj with
    | 0, _ => exact hu
    | 1, _ => exact hv

set_option maxRecDepth 100000 in
set_option maxHeartbeats 64000000 in
theorem walk_FnTwice (v0 : Value) (len : Nat) (w : World) (h0 : InBytes w v0 len) :
    Calls Tryz.prog 4 #[v0] w fun e w' => e = .returned (.bool true) ∧ Below w.heap.size w w' := by
  obtain ⟨a0, cap0, rfl, hlc, hcm, -⟩ := id h0
  unfold maxLen at hcm
  by_cases hbig : 1048576 < len
  · clear h0
    go_enter Tryz.func4, Tryz.ntmps4
    go_wp2
    go_ret
    exact ⟨rfl, Below.refl _ _⟩
  have hcode := h0.code (by omega)
  have KM := Lib.hid (makeModel_any w (.slice a0 len cap0) 0 7 (by decide) (by decide) hcode)
  have KF := Lib.hid (fun W (h : Below w.heap.size w W) => makeF_any W (.slice a0 len cap0) 40 4 (by decide) (by decide) (by decide) (hcode.below h (Nat.le_refl _)))
  have KG := Lib.hid (fun W (h : Below w.heap.size w W) => makeF_any W (.slice a0 len cap0) 60 4 (by decide) (by decide) (by decide) (hcode.below h (Nat.le_refl _)))
  clear h0 hcode
  go_enter Tryz.func4, Tryz.ntmps4
  go_wp2_with fail
  refine KM.out.mono ?_
  rintro e w1 ⟨vm, m, rfl, hmo, ⟨hmd, hn7, ha2, hf8⟩, hb1⟩
  clear KM hf8
  obtain ⟨fa, fc, ba, bc, e1⟩ := hmo.read.form
  subst e1
  have XO := Lib.hid hmo.read
  have HMD := Lib.hid hmd
  have HA2 := Lib.hid ha2
  have B1 := Lib.hid hb1
  clear hmo hmd ha2 hb1
  go_wp2_with fail
  have A2 := Lib.hid (Mcell.new (w := w1) (T := 26) (b := w1.heap.size) (fv := .slice fa m.facts.length fc) (bv := .slice ba m.blocks.length bc) (n := m.actual) rfl)
  have hb2 : Below w1.heap.size w1 (w1.alloc (.cells #[.slice fa m.facts.length fc, .slice ba m.blocks.length bc, .int .i64 m.actual] 26)) := by go_grown
  generalize w1.alloc (.cells #[.slice fa m.facts.length fc, .slice ba m.blocks.length bc, .int .i64 m.actual] 26) = w2 at *
  have B2 : Hid (Below w.heap.size w w2) := Lib.hid (B1.out.trans (hb2.mono B1.out.size))
  have XO := Lib.hid ((XO.out.keeps (Keeps.of_all hb2)).wide (Nat.le_refl _) hb2.size)
  clear hb2 B1
  refine (KF.out _ B2.out).mono ?_
  rintro e w3 ⟨vf, f, rfl, hof, hdf, hb3⟩
  have HF := Lib.hid (Ns.of_own hof)
  have DF := Lib.hid hdf
  have A3 := Lib.hid (A2.out.below hb3)
  have XO := Lib.hid ((XO.out.keeps (Keeps.of_all hb3)).wide (Nat.le_refl _) hb3.size)
  have B3 : Hid (Below w.heap.size w w3) := Lib.hid (B2.out.trans (hb3.mono B2.out.size))
  clear hof hdf hb3 A2 B2 KF
  go_wp2_with fail
  refine (KG.out _ B3.out).mono ?_
  rintro e w4 ⟨vg, g, rfl, hog, hdg, hb4⟩
  have HG := Lib.hid (Ns.of_own hog)
  have HF := Lib.hid (HF.out.below hb4 (Nat.le_refl _))
  have A4 := Lib.hid (A3.out.below hb4)
  have XO := Lib.hid ((XO.out.keeps (Keeps.of_all hb4)).wide (Nat.le_refl _) hb4.size)
  have B4 : Hid (Below w.heap.size w w4) := Lib.hid (B3.out.trans (hb4.mono B3.out.size))
  have DG := Lib.hid hdg
  clear hog hdg hb4 A3 B3 KG
  obtain ⟨t1, e1, u1, u2, u3⟩ := DF.out.term
  obtain ⟨t2, e2, q1, q2, q3⟩ := DG.out.term
  have wa : (Tm.joint 9 t1 t2).wf := ⟨.inr rfl, u1, q1⟩
  have wb : (Tm.joint 4 t1 (.joint 9 t1 t2)).wf := ⟨.inl rfl, u1, wa⟩
  have sa : (Tm.joint 9 t1 t2).size ≤ 40 := by simp only [Tm.size]; omega
  have sb : (Tm.joint 4 t1 (.joint 9 t1 t2)).size ≤ 40 := by simp only [Tm.size]; omega
  have K5 := Lib.hid (implAfter_any vf vg f g w4 HF.out HG.out)
  rw [e1, e2, lay_formOk u1 (by omega), lay_formOk q1 (by omega), Bool.and_self, if_pos rfl, termOfL_lay u1 (by omega), termOfL_lay q1 (by omega), combL_lay wa sa] at K5
  have HTW : Hid (annAllR m [f, g] = annR m (lay 0 (.joint 4 t1 (.joint 9 t1 t2)))) := Lib.hid (by rw [annAll_two HMD.out, e1, e2]; exact ann_twice HMD.out HA2.out u1 q1 (by omega) (by omega) u2 q2)
  have K6 := Lib.hid (fun va W (h1 : Ns W vf f) (h2 : Ns W va (lay 0 (.joint 9 t1 t2))) => by
    have h := implConjoin_any vf va f (lay 0 (.joint 9 t1 t2)) W h1 h2
    rw [e1, lay_formOk u1 (by omega), lay_formOk wa sa, Bool.and_self, if_pos rfl, termOfL_lay u1 (by omega), termOfL_lay wa sa, combL_lay wb sb] at h
    exact h)
  unfold Ans at K5 K6
  simp only [Option.getD_some, Option.isSome_some] at K5 K6
  clear e1 e2 u1 u2 u3 q1 q2 q3 wa wb sa sb DF DG
  generalize lay 0 (.joint 9 t1 t2) = a at *
  generalize lay 0 (.joint 4 t1 (.joint 9 t1 t2)) = b at *
  obtain ⟨af, cf, rfl, -⟩ := HF.out.parts
  obtain ⟨ag, cg, rfl, -⟩ := HG.out.parts
  go_wp2_with fail
  refine K5.out.mono ?_
  rintro e w5 ⟨va, rfl, hoa, hb5⟩
  have HA := Lib.hid (Ns.of_own hoa)
  have HF := Lib.hid (HF.out.below hb5 (Nat.le_refl _))
  have HG := Lib.hid (HG.out.below hb5 (Nat.le_refl _))
  have A5 := Lib.hid (A4.out.below hb5)
  have XO := Lib.hid ((XO.out.keeps (Keeps.of_all hb5)).wide (Nat.le_refl _) hb5.size)
  have B5 : Hid (Below w.heap.size w w5) := Lib.hid (B4.out.trans (hb5.mono B4.out.size))
  clear hoa hb5 A4 B4 K5
  have K6 := Lib.hid (K6.out va w5 HF.out HA.out)
  go_wp2_with fail
  refine K6.out.mono ?_
  rintro e w6 ⟨vb, rfl, hob, hb6⟩
  have HB := Lib.hid (Ns.of_own hob)
  have HF := Lib.hid (HF.out.below hb6 (Nat.le_refl _))
  have HG := Lib.hid (HG.out.below hb6 (Nat.le_refl _))
  have A6 := Lib.hid (A5.out.below hb6)
  have XO := Lib.hid ((XO.out.keeps (Keeps.of_all hb6)).wide (Nat.le_refl _) hb6.size)
  have B6 : Hid (Below w.heap.size w w6) := Lib.hid (B5.out.trans (hb6.mono B5.out.size))
  clear hob hb6 A5 B5 K6 HA
  obtain ⟨ab, cb, rfl, -⟩ := HB.out.parts
  obtain ⟨x0, x1, x2, x3, x4, x5⟩ := A6.out
  have lt6 : w1.heap.size < w6.heap.size := A6.out.lt
  have K9 := Lib.hid (fun W (h : Below w6.heap.size w6 W) => implAnn_any _ _ _ _ m b W (XO.out.keeps (Keeps.of_all h)) h.size (HB.out.below h (Nat.le_refl _)))
  have K10 := Lib.hid (fun W (h : Below w6.heap.size w6 W) => implAnnAll_any _ _ 0 0 _ _ m [] W (XO.out.keeps (Keeps.of_all h)) h.size (Nvv.nil 0 0 W))
  have K7 := Lib.hid (fun W lo2 hi2 v2 (h : Below w6.heap.size w6 W) (h2 : Nvv lo2 hi2 W v2 [f, g]) => implAnnAll_any _ _ lo2 hi2 _ v2 m [f, g] W (XO.out.keeps (Keeps.of_all h)) h.size h2)
  rw [HTW.out] at K7
  rw [annAll_nil HMD.out] at K10
  unfold MdAns2 at K7 K9 K10
  simp only [Option.getD_some, Option.isSome_some] at K10
  clear HTW HMD HA2 hn7
  generalize (annR m b).getD ⟨[], [], 0⟩ = RM at *
  generalize (annR m b).isSome = ok at *
  go_wp2_with fail
  clear x0 x1 x2 x3 x4 x5
  have hb7 : Below w6.heap.size w6 (w6.alloc (.cells #[.slice af f.length cf, .slice ag g.length cg] 28)) := (Below.refl _ _).alloc (Nat.le_refl _) _
  have c7 : Cm (w6.alloc (.cells #[.slice af f.length cf, .slice ag g.length cg] 28)) w6.heap.size 28 [.slice af f.length cf, .slice ag g.length cg] := Cm.new rfl
  have n7 := Nvv.two c7.lt (c7.cell 0) (c7.cell 1) (HF.out.below hb7 (Nat.le_refl _)) (HG.out.below hb7 (Nat.le_refl _))
  generalize w6.alloc (.cells #[.slice af f.length cf, .slice ag g.length cg] 28) = w7 at *
  refine (K7.out w7 _ _ _ hb7 n7).mono ?_
  rintro e w8 ⟨v8, rfl, ho8, hb8⟩
  have B8 := Lib.hid (hb7.trans (hb8.mono hb7.size))
  have OX := Lib.hid ho8.read
  obtain ⟨xa, xc, xd, xe, e8⟩ := ho8.read.form
  subst e8
  clear c7 n7 hb7 ho8 hb8 HF HG HB K7
  have A8 := Lib.hid (A6.out.below B8.out)
  have lt8 : w1.heap.size < w8.heap.size := A8.out.lt
  obtain ⟨x0, x1, x2, x3, x4, x5⟩ := A8.out
  go_wp2_with fail
  clear x0 x1 x2 x3 x4 x5
  have hb9 : Below w8.heap.size w8 (w8.alloc (.cells #[.slice xa RM.facts.length xc, .slice xd RM.blocks.length xe, .int .i64 RM.actual] 26)) := (Below.refl _ _).alloc (Nat.le_refl _) _
  have X9 := Lib.hid (Mcell.new (w := w8) (T := 26) (b := w8.heap.size) (fv := .slice xa RM.facts.length xc) (bv := .slice xd RM.blocks.length xe) (n := RM.actual) rfl)
  generalize w8.alloc (.cells #[.slice xa RM.facts.length xc, .slice xd RM.blocks.length xe, .int .i64 RM.actual] 26) = w9 at *
  have B9 := Lib.hid (B8.out.trans (hb9.mono B8.out.size))
  have OX := Lib.hid (OX.out.keeps (Keeps.of_all hb9))
  have A9 := Lib.hid (A8.out.below hb9)
  clear hb9 B8 A8
  refine (K9.out w9 B9.out).mono ?_
  rintro e w10 ⟨v10, rfl, ho10, hb10⟩
  have B10 := Lib.hid (B9.out.trans (hb10.mono B9.out.size))
  have OX := Lib.hid (OX.out.keeps (Keeps.of_all hb10))
  have A10 := Lib.hid (A9.out.below hb10)
  have X10 := Lib.hid (X9.out.below hb10)
  have OY := Lib.hid ho10.read
  obtain ⟨ya, yc, yd, ye, e10⟩ := ho10.read.form
  subst e10
  have lt10 : w1.heap.size < w10.heap.size := A10.out.lt
  have ltx10 : w8.heap.size < w10.heap.size := X10.out.lt
  clear ho10 hb10 B9 A9 X9 K9
  obtain ⟨x0, x1, x2, x3, x4, x5⟩ := A10.out
  go_wp2_with fail
  clear x0 x1 x2 x3 x4 x5
  have hb11 : Below w10.heap.size w10 (w10.alloc (.cells #[.slice ya RM.facts.length yc, .slice yd RM.blocks.length ye, .int .i64 RM.actual] 26)) := (Below.refl _ _).alloc (Nat.le_refl _) _
  have Y11 := Lib.hid (Mcell.new (w := w10) (T := 26) (b := w10.heap.size) (fv := .slice ya RM.facts.length yc) (bv := .slice yd RM.blocks.length ye) (n := RM.actual) rfl)
  generalize w10.alloc (.cells #[.slice ya RM.facts.length yc, .slice yd RM.blocks.length ye, .int .i64 RM.actual] 26) = w11 at *
  have B11 := Lib.hid (B10.out.trans (hb11.mono B10.out.size))
  have OX := Lib.hid (OX.out.keeps (Keeps.of_all hb11))
  have OY := Lib.hid (OY.out.keeps (Keeps.of_all hb11))
  have A11 := Lib.hid (A10.out.below hb11)
  have X11 := Lib.hid (X10.out.below hb11)
  clear hb11 B10 A10 X10
  refine (K10.out w11 B11.out).mono ?_
  rintro e w12 ⟨v12, rfl, ho12, hb12⟩
  have B12 := Lib.hid (B11.out.trans (hb12.mono B11.out.size))
  have OX := Lib.hid (OX.out.keeps (Keeps.of_all hb12))
  have OY := Lib.hid (OY.out.keeps (Keeps.of_all hb12))
  have A12 := Lib.hid (A11.out.below hb12)
  have X12 := Lib.hid (X11.out.below hb12)
  have Y12 := Lib.hid (Y11.out.below hb12)
  have OZ := Lib.hid ho12.read
  obtain ⟨za, zc, zd, ze, e12⟩ := ho12.read.form
  subst e12
  have lt12 : w1.heap.size < w12.heap.size := A12.out.lt
  clear ho12 hb12 B11 A11 X11 Y11 K10
  obtain ⟨x0, x1, x2, x3, x4, x5⟩ := A12.out
  go_wp2_with fail
  clear x0 x1 x2 x3 x4 x5
  have hb13 : Below w12.heap.size w12 (w12.alloc (.cells #[.slice za m.facts.length zc, .slice zd m.blocks.length ze, .int .i64 m.actual] 26)) := (Below.refl _ _).alloc (Nat.le_refl _) _
  generalize w12.alloc (.cells #[.slice za m.facts.length zc, .slice zd m.blocks.length ze, .int .i64 m.actual] 26) = w13 at *
  have B13 := Lib.hid (B12.out.trans (hb13.mono B12.out.size))
  have OX := Lib.hid (OX.out.keeps (Keeps.of_all hb13))
  have OY := Lib.hid (OY.out.keeps (Keeps.of_all hb13))
  have OZ := Lib.hid (OZ.out.keeps (Keeps.of_all hb13))
  have X13 := Lib.hid (X12.out.below hb13)
  have Y13 := Lib.hid (Y12.out.below hb13)
  clear hb13 B12 A12 X12 Y12
  have K13 := Lib.hid (implSameM_any _ _ _ _ _ _ m m w13 OZ.out (XO.out.keeps (Keeps.of_all B13.out)))
  rw [sameM_self] at K13
  refine K13.out.mono ?_
  rintro e w14 ⟨rfl, hb14⟩
  have B14 := Lib.hid (B13.out.trans (hb14.mono B13.out.size))
  have K14 := Lib.hid (implSameM_any _ _ _ _ _ _ RM RM w14 (OX.out.keeps (Keeps.of_all hb14)) (OY.out.keeps (Keeps.of_all hb14)))
  rw [sameM_self] at K14
  have X14 := Lib.hid (X13.out.below hb14)
  have Y14 := Lib.hid (Y13.out.below hb14)
  clear hb14 B13 X13 Y13 OX OY OZ K13
  obtain ⟨x0, x1, x2, x3, x4, x5⟩ := X14.out
  obtain ⟨y0, y1, y2, y3, y4, y5⟩ := Y14.out
  go_wp2_with fail
  clear x0 x1 x2 x3 x4 x5 y0 y1 y2 y3 y4 y5
  refine K14.out.mono ?_
  rintro e w15 ⟨rfl, hb15⟩
  have B15 : Hid (Below w.heap.size w w15) := Lib.hid (B6.out.trans ((B14.out.trans (hb15.mono B14.out.size)).mono B6.out.size))
  clear hb15
  go_wp2
  go_ret
  exact ⟨rfl, B15.out⟩
end Go.Proofs.YtodjohdbngbpaaaGreat
