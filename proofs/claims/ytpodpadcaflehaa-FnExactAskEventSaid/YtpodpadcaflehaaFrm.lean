/-
  impl.frameOf: the events as a grid without facts; impl.EventOk. No condition but the reading.
-/
import Derived.Test.YtpodpadcaflehaaEom
import Derived.Test.YtpodpadcaflehaaGof
import Derived.Test.YtpodpadcaflehaaZForm
namespace Go.Proofs.Ytpodpadcaflehaa
open Go.RowKit Go.WideShapes
open Go Go.Deep
set_option linter.unusedSimpArgs false

section
variable {P : Program}
/-- make of a row -/
theorem wp_makeE {o : Oper} {a : Act} {w : World} {K : Act → World → Prop} {Q : Exit → Act → World → Prop} (x y : Operand) (t : TypeId) (d : Nat) (hd : o.dst = some d) (ho : o.op = .makeSlice t x y)
    (e : TypeId) (z : Value) (bytes : Nat) (ht : P.underlying t = some (.slice e)) (hinfo : (P.info? e).map (fun i => (i.zero, i.size, i.bytes)) = some (some z, 1, bytes)) (n : Nat) (kl kc : IntKind)
    (hx : a.eval x = .int kl n) (hy : a.eval y = .int kc n) (hb : bytes * n ≤ 281474976710656) (h63 : n ≤ maxLen)
    (h : ∀ w', w'.ownsRow w.heap.size e 1 (.slice (some ⟨w.heap.size, 0, none⟩) n n) n (madeCells z.cells n).toList → Below w.heap.size w w' → w.heap.size < w'.heap.size → K (a.put (some d) (.slice (some ⟨w.heap.size, 0, none⟩) n n)) w') : Oper.wp P o a w K Q := by
  obtain ⟨i0, hi, hz0, hz1, hz2⟩ := info_parts hinfo
  subst hz2
  obtain ⟨w', hr, hown, hg⟩ := run_make_full (P := P) w w.heap.size t e i0 z 1 ht hi hz0 hz1 kl kc n hb h63 (Nat.le_refl _)
  rw [Nat.mul_one] at hown
  have hlt : w.heap.size < w'.heap.size := by
    rcases hown.2 with ⟨e1, _⟩ | ⟨g, cap, cur, e1, _, hgg, _⟩
    · cases e1
    · cases e1; exact (Array.getElem?_eq_some_iff.1 hgg).1
  have hK := h w' hown ((Below.refl _ _).grown hg (Nat.le_refl _) (fun k hk => by cases hk)) hlt
  rw [← hd] at hK
  refine wp_run (.slice (some ⟨w.heap.size, 0, none⟩) n n) ?_ hK
  unfold execOp
  simp only [ho, hx, hy, Sem.run_bind, hr, Result.andThen_ok, Sem.run_pure]
end

set_option maxRecDepth 100000 in
set_option maxHeartbeats 16000000 in
theorem frameOf_any (lo hi : Nat) (v : Value) (x : Ed) (w : World) (hr : Vv lo hi w v x) (hhi : hi ≤ w.heap.size) :
    Calls Try.prog 47 #[v] w (GdAns w (if edOk x then some (gOf (frameM x)) else none)) := by
  obtain ⟨fv, bv, rfl, hf, hb⟩ := hr
  obtain ⟨fa, fc, e1, hfl, hfc, hxx⟩ := hf.parts
  obtain ⟨ba, bc, e2, hbl, hbc, hyy⟩ := hb.parts
  clear hxx hyy
  subst e1
  subst e2
  unfold maxLen at hbc hfc
  have HF := Lib.hid hf
  have HBV := Lib.hid hb
  clear hf hb
  have HA0 := Lib.hid Try.allocGrid
  have HB0 := Lib.hid Try.buildGrid0
  have HZL : Hid ((ints (gL 0 0 [] [] 0)).length = 67) := Lib.hid rfl
  have HZ1 := Lib.hid (fun v (hv : v ∈ ints (gL 0 0 [] [] 0)) => ints_one hv)
  have HE1 : Hid (edOk x = (decide (x.conds.length ≤ 4) && (List.range x.conds.length).all (fun j => formOk (x.conds.getD j [])) && mdOk (frameM x))) := Lib.hid rfl
  have HGO := Lib.hid (fun v W (hr : Mv 0 W.heap.size W v (frameM x)) => gridOf_any 0 W.heap.size v (frameM x) W hr (Nat.le_refl _))
  have HSZ : Hid (mdOk (frameM x) = true → (gOf (frameM x)).length = 67) := Lib.hid (fun h => gL_len (md_small h))
  have HBL : Hid ((frameM x).blocks = x.blocks) := Lib.hid rfl
  have HFC : Hid ((frameM x).facts = List.replicate x.conds.length 0) := Lib.hid rfl
  have HAC : Hid ((frameM x).actual = x.actual) := Lib.hid rfl
  obtain ⟨r, hr⟩ : ∃ r, r = if edOk x then some (gOf (frameM x)) else none := ⟨_, rfl⟩
  rw [← hr]
  have HRN : Hid (edOk x = false → r = none) := Lib.hid (fun h => by rw [hr, h]; rfl)
  have HRS : Hid (edOk x = true → r = some (gOf (frameM x))) := Lib.hid (fun h => by rw [hr, h]; rfl)
  clear hr
  unfold GdAns at HGO ⊢
  generalize frameM x = fm at *
  generalize edOk x = R at *
  generalize gL 0 0 [] [] 0 = Z at *
  by_cases hbig : 4 < x.conds.length
  · have HR : Hid (R = false) := Lib.hid (by rw [HE1.out, decide_eq_false (by omega)]; rfl)
    have HRr := Lib.hid (HRN.out HR.out)
    clear HGO HE1 HSZ HBL HFC HAC
    go_enter Try.func47, Try.ntmps47
    have tk1 : True := trivial
    have tk2 : True := trivial
    have tk3 : True := trivial
    go_wp2_with
      (first
        | (have _t := tk1; clear _t tk1; refine wpList_allocM rfl 65 rfl (ints Z) HA0.out ?_
           intro w1 hc1 hb1 hs1
           have C1 : Hid (Cm w1 (w.heap.size + 1) 65 (ints Z)) := Lib.hid (by simpa using hc1)
           have B1 : Hid (Below w.heap.size w w1) := Lib.hid (Below.trans (by go_grown) (hb1.mono (by simp)))
           have X1 := Lib.hid (Mcell.below (b := w.heap.size) (Mcell.new rfl) hb1)
           clear hc1 hb1 hs1
           obtain ⟨x0, x1, x2, _⟩ := X1.out)
        | (have _t := tk2; clear _t tk2; refine wpList_buildM rfl 65 _ rfl #[] (by simp) (ints Z) (HB0.out _) ?_)
        | (have _t := tk3; clear _t tk3; refine wpList_storeM rfl 65 (.tmp 2) (.tmp 12) rfl (w.heap.size + 1) 0 rfl (ints Z) rfl 65 _ C1.out (by rw [HZL.out]; decide) (by rw [HZL.out]; exact Try.sizeGrid) HZ1.out ?_
           intro w4 hc4 ha4
           rw [lay'_all (Eq.refl _)] at hc4
           have C4 := Lib.hid hc4
           have B4 : Hid (Below w.heap.size w w4) := Lib.hid (B1.out.trans (ha4.below (by omega)))
           clear hc4 ha4 x0 x1 x2))
    refine bodyPost_ret (results_mid2 Try.results47 _ _ (w.heap.size + 1) (ints Z) _ (.bool false) rfl rfl C4.out.whole Try.underlying65 rfl (by rw [HZL.out]; exact Try.sizeGrid)) rfl ?_
    exact ⟨by rw [HRr.out]; rfl, B4.out⟩
  have hsm : x.conds.length ≤ 4 := by omega
  have HE2 : Hid (R = ((List.range x.conds.length).all (fun j => formOk (x.conds.getD j [])) && mdOk fm)) := Lib.hid (by rw [HE1.out, decide_eq_true hsm, Bool.true_and])
  clear HE1 hbig
  go_enter Try.func47, Try.ntmps47
  have tk4 : True := trivial
  go_wp2_with
    (first
      | (have _t := tk4; clear _t tk4; refine wpList_allocM rfl 65 rfl (ints Z) HA0.out ?_
         intro w1 hc1 hb1 hs1
         have C1 : Hid (Cm w1 (w.heap.size + 1) 65 (ints Z)) := Lib.hid (by simpa using hc1)
         have B1 : Hid (Below w.heap.size w w1) := Lib.hid (Below.trans (by go_grown) (hb1.mono (by simp)))
         have X1 := Lib.hid (Mcell.below (b := w.heap.size) (Mcell.new rfl) hb1)
         clear hc1 hb1 hs1
         obtain ⟨x0, x1, x2, _⟩ := X1.out))
  clear x0 x1 x2
  go_loopw [16] (fun iv wr => ∃ k : Nat, k ≤ x.conds.length ∧ iv = .int .i64 k ∧ Hid ((List.range k).all (fun j => formOk (x.conds.getD j [])) = true) ∧ Hid (Mcell wr w.heap.size (.slice fa x.conds.length fc) (.slice ba x.blocks.length bc) x.actual) ∧ Hid (Cm wr (w.heap.size + 1) 65 (ints Z)) ∧ Hid (Below w.heap.size w wr)) (fun iv _ => x.conds.length - (intOf iv).toNat)
  case atStart => exact ⟨0, Nat.zero_le _, rfl, Lib.hid rfl, X1, C1, B1⟩
  case round =>
    clear X1 B1 C1
    obtain ⟨k, hk, rfl, HK, X1, C1, B1⟩ := hrel
    by_cases hlt : k < x.conds.length
    · obtain ⟨_, _, e1, _, _, h1⟩ := (HF.out.later B1.out).parts
      cases e1
      obtain ⟨b, o, u, rfl, _, _, hb, c0, hu⟩ := h1 k hlt
      clear h1
      have HBAD : Hid (formOk (x.conds.getD k []) = false → R = false) := Lib.hid (fun h => by rw [HE2.out, all_false (p := fun j => formOk (x.conds.getD j [])) h hlt]; rfl)
      have HGOOD : Hid (formOk (x.conds.getD k []) = true → (List.range (k + 1)).all (fun j => formOk (x.conds.getD j [])) = true) := Lib.hid (fun h => all_succ HK.out h)
      obtain ⟨ua, uc, uf, _⟩ := id hu
      subst uf
      have KF := Lib.hid (implForm_any _ _ wr hu)
      clear hu
      generalize x.conds.getD k [] = l at *
      cases ho : formOk l with
      | true =>
        rw [ho] at KF HGOOD
        have HG := Lib.hid (HGOOD.out rfl)
        clear ho
        go_wp2_with fail
        refine KF.out.mono ?_
        rintro e w5 ⟨rfl, hb5⟩
        have X5 := Lib.hid (X1.out.below hb5)
        have C5 := Lib.hid (C1.out.all hb5)
        have B5 := Lib.hid (B1.out.trans (hb5.mono B1.out.size))
        clear hb5 c0
        go_wp2
        go_roundw
        case rel => exact ⟨k + 1, by omega, by go_num, HG, X5, C5, B5⟩
        case measure => simp [intOf]; omega
      | false =>
        rw [ho] at KF HBAD
        have HRr := Lib.hid (HRN.out (HBAD.out rfl))
        clear ho HGO HE2
        go_wp2_with fail
        refine KF.out.mono ?_
        rintro e w5 ⟨rfl, hb5⟩
        have C5 := Lib.hid (C1.out.all hb5)
        have B5 := Lib.hid (B1.out.trans (hb5.mono B1.out.size))
        clear hb5 c0
        have tk5 : True := trivial
        have tk6 : True := trivial
        go_wp2_with
          (first
            | (have _t := tk5; clear _t tk5; refine wpList_buildM rfl 65 _ rfl #[] (by simp) (ints Z) (HB0.out _) ?_)
            | (have _t := tk6; clear _t tk6; refine wpList_storeM rfl 65 (.tmp 2) (.tmp 23) rfl (w.heap.size + 1) 0 rfl (ints Z) rfl 65 _ C5.out (by rw [HZL.out]; decide) (by rw [HZL.out]; exact Try.sizeGrid) HZ1.out ?_
               intro w6 hc6 ha6
               rw [lay'_all (Eq.refl _)] at hc6
               have C6 := Lib.hid hc6
               have B6 : Hid (Below w.heap.size w w6) := Lib.hid (B5.out.trans (ha6.below (by omega)))
               clear hc6 ha6))
        refine bodyPost_ret (results_mid2 Try.results47 _ _ (w.heap.size + 1) (ints Z) _ (.bool false) rfl rfl C6.out.whole Try.underlying65 rfl (by rw [HZL.out]; exact Try.sizeGrid)) rfl ?_
        exact ⟨by rw [HRr.out]; rfl, B6.out⟩
    · obtain rfl : k = x.conds.length := by omega
      have HR3 : Hid (R = mdOk fm) := Lib.hid (by rw [HE2.out, HK.out]; rfl)
      clear HE2 HK
      have HXc : Hid (∀ W, Below wr.heap.size wr W → W.cell? ⟨w.heap.size, 1, none⟩ = some (.slice ba x.blocks.length bc) ∧ W.cell? ⟨w.heap.size, 2, none⟩ = some (.int .i64 x.actual)) := Lib.hid (fun W hW => ⟨(X1.out.below hW).2.1, (X1.out.below hW).2.2.1⟩)
      have hwr : w.heap.size + 1 < wr.heap.size := C1.out.lt
      go_wp2
      refine regionL (fun W => Below wr.heap.size wr W) [10, 11] (by kernel_rfl) (Below.refl _ _).drew (fun hHeld => ?_)
      refine takeA (i := 0) (v := .int .i64 x.conds.length) 25 rfl rfl (by kernel_rfl) (by kernel_rfl) (by kernel_rfl) (by kernel_rfl) (fun _ _ _ h => h) (Or.inl ⟨by rfl, by intro W hSw; go_simp⟩) hHeld ?_
      simp only [Act.put, List.setIfInBounds_toArray, List.set_cons_zero, List.set_cons_succ]
      refine takeA (i := 2) (v := .pointer (some ⟨w.heap.size, 1, none⟩)) 27 rfl rfl (by kernel_rfl) (by kernel_rfl) (by kernel_rfl) (by kernel_rfl) (fun _ _ _ h => h) (Or.inl ⟨by rfl, by intro W hSw; go_simp⟩) hHeld ?_
      simp only [Act.put, List.setIfInBounds_toArray, List.set_cons_zero, List.set_cons_succ]
      refine takeA (i := 3) (v := .slice ba x.blocks.length bc) 28 rfl rfl (by kernel_rfl) (by kernel_rfl) (by kernel_rfl) (by kernel_rfl) (fun _ _ _ h => h) (Or.inl ⟨by rfl, by intro W hSw; have c1 := (HXc.out _ hSw).1; go_simp⟩) hHeld ?_
      simp only [Act.put, List.setIfInBounds_toArray, List.set_cons_zero, List.set_cons_succ]
      refine takeA (i := 4) (v := .pointer (some ⟨w.heap.size, 2, none⟩)) 29 rfl rfl (by kernel_rfl) (by kernel_rfl) (by kernel_rfl) (by kernel_rfl) (fun _ _ _ h => h) (Or.inl ⟨by rfl, by intro W hSw; go_simp⟩) hHeld ?_
      simp only [Act.put, List.setIfInBounds_toArray, List.set_cons_zero, List.set_cons_succ]
      refine takeA (i := 5) (v := .int .i64 x.actual) 30 rfl rfl (by kernel_rfl) (by kernel_rfl) (by kernel_rfl) (by kernel_rfl) (fun _ _ _ h => h) (Or.inl ⟨by rfl, by intro W hSw; have c1 := (HXc.out _ hSw).2; go_simp⟩) hHeld ?_
      simp only [Act.put, List.setIfInBounds_toArray, List.set_cons_zero, List.set_cons_succ]
      refine onlyL (i := 1) (by kernel_rfl) rfl (by rfl) (fun K hK => ?_)
      refine wp_makeE (.tmp 25) (.tmp 25) 22 26 rfl rfl 3 (.int .i64 0) 8 Try.underlying22 Try.infoI x.conds.length .i64 .i64 rfl rfl (by omega) (by unfold maxLen; omega) ?_
      intro w5 ho5 hb5 hl5
      rw [show wr.drew.heap.size = wr.heap.size from rfl] at ho5 hb5 hl5 ⊢
      have t5 : Below wr.heap.size wr w5 := hHeld.trans hb5
      have I5 : Hid (Iv 0 w5.heap.size w5 (.slice (some ⟨wr.heap.size, 0, none⟩) x.conds.length x.conds.length) (List.replicate x.conds.length 0)) := Lib.hid (by
        rw [madeI] at ho5
        have h := Ro.of_own ho5
        exact (Ro.read (h.wide (Nat.zero_le _) (Nat.le_refl _))))
      clear ho5 hb5 hl5 hHeld
      refine hK.out _ _ (fun _ => t5) (fun hHeld => ?_)
      have hHeld := hHeld (by decide)
      clear hK K
      try simp only [Act.put, List.setIfInBounds_toArray, List.set_cons_zero, List.set_cons_succ]
      have MV : Hid (Mv 0 w5.heap.size w5 (.agg #[.slice (some ⟨wr.heap.size, 0, none⟩) x.conds.length x.conds.length, .slice ba x.blocks.length bc, .int .i64 x.actual]) fm) := Lib.hid (by
        refine ⟨_, _, by rw [HAC.out], by rw [HFC.out]; exact I5.out, ?_⟩
        rw [HBL.out]
        exact (HBV.out.keeps (Keeps.of_all (B1.out.trans (t5.mono B1.out.size)))).wide (Nat.zero_le _) (Nat.le_trans hhi (Nat.le_trans B1.out.size t5.size)))
      have KG := Lib.hid (HGO.out _ w5 MV.out)
      have C5 := Lib.hid (C1.out.all t5)
      have B5 := Lib.hid (B1.out.trans (t5.mono B1.out.size))
      clear MV I5 HGO
      refine takeA (i := 6) (v := .agg #[.slice (some ⟨wr.heap.size, 0, none⟩) x.conds.length x.conds.length, .slice ba x.blocks.length bc, .int .i64 x.actual]) 31 rfl rfl (by kernel_rfl) (by kernel_rfl) (by kernel_rfl) (by kernel_rfl) (fun _ _ _ h => h) (Or.inl ⟨by rfl, by intro W hSw; go_simp⟩) hHeld ?_
      simp only [Act.put, List.setIfInBounds_toArray, List.set_cons_zero, List.set_cons_succ]
      cases hm : mdOk fm with
      | true =>
        rw [hm] at KG HR3
        have hgl := HSZ.out hm
        have HLG : Hid ((ints (gOf fm)).length = 67) := Lib.hid (by rw [ints_len]; exact hgl)
        have HG1 := Lib.hid (fun v (hv : v ∈ ints (gOf fm)) => ints_one hv)
        have HRr := Lib.hid (HRS.out HR3.out)
        simp only [if_true, Option.getD_some, Option.isSome_some] at KG
        clear hgl hm HSZ HRS HRN
        generalize gOf fm = GG at *
        refine onlyL (i := 7) (by kernel_rfl) rfl (by rfl) (fun K hK => ?_)
        go_simp
        refine KG.out.mono ?_
        rintro e w6 ⟨rfl, hb6⟩
        have t6 : Below wr.heap.size wr w6 := hHeld.trans (hb6.mono hHeld.size)
        have C6 := Lib.hid (C5.out.all hb6)
        have B6 := Lib.hid (B5.out.trans (hb6.mono B5.out.size))
        clear hb6 hHeld
        refine hK.out _ _ (fun _ => t6) (fun hHeld => ?_)
        have hHeld := hHeld (by decide)
        clear hK K
        try simp only [Act.put, List.setIfInBounds_toArray, List.set_cons_zero, List.set_cons_succ]
        refine takeA (i := 8) (v := .agg (ints GG).toArray) 33 rfl rfl (by kernel_rfl) (by kernel_rfl) (by kernel_rfl) (by kernel_rfl) (fun _ _ _ h => h) (Or.inl ⟨by rfl, by intro W hSw; go_simp⟩) hHeld ?_
        simp only [Act.put, List.setIfInBounds_toArray, List.set_cons_zero, List.set_cons_succ]
        refine takeA (i := 9) (v := .bool true) 34 rfl rfl (by kernel_rfl) (by kernel_rfl) (by kernel_rfl) (by kernel_rfl) (fun _ _ _ h => h) (Or.inl ⟨by rfl, by intro W hSw; go_simp⟩) hHeld ?_
        simp only [Act.put, List.setIfInBounds_toArray, List.set_cons_zero, List.set_cons_succ]
        refine onlyL (i := 10) (by kernel_rfl) rfl (by rfl) (fun K hK => ?_)
        refine wp_storeM 65 (.tmp 2) (.tmp 33) rfl rfl (w.heap.size + 1) 0 rfl (ints GG) rfl 65 _ C6.out (by rw [HLG.out, HZL.out]; decide) (by rw [HLG.out]; exact Try.sizeGrid) HG1.out ?_
        intro w7 hc7 ha7
        rw [lay'_all (by rw [HLG.out, HZL.out])] at hc7
        have C7 := Lib.hid hc7
        have B7 : Hid (Below w.heap.size w w7) := Lib.hid (B6.out.trans (ha7.below (by omega)))
        clear hc7 ha7
        refine hK.out _ _ (fun h => absurd (by decide) h) (fun _ => ?_)
        clear hK K hHeld
        try simp only [Act.put, List.setIfInBounds_toArray, List.set_cons_zero, List.set_cons_succ]
        refine onlyL (i := 11) (by kernel_rfl) rfl (by rfl) (fun K hK => ?_)
        go_simp
        refine hK.out _ _ (fun h => absurd (by decide) h) (fun _ => ?_)
        clear hK K
        refine doneL (by kernel_rfl) ?_ _
        go_wp2
        refine bodyPost_ret (results_mid2 Try.results47 _ _ (w.heap.size + 1) (ints GG) _ (.bool true) rfl rfl C7.out.whole Try.underlying65 rfl (by rw [HLG.out]; exact Try.sizeGrid)) rfl ?_
        exact ⟨by rw [HRr.out]; rfl, B7.out⟩
      | false =>
        rw [hm] at KG HR3
        have HRr := Lib.hid (HRN.out HR3.out)
        simp only [Bool.false_eq_true, if_false, Option.getD_none, Option.isSome_none] at KG
        clear hm HSZ HRS HRN
        refine onlyL (i := 7) (by kernel_rfl) rfl (by rfl) (fun K hK => ?_)
        go_simp
        refine KG.out.mono ?_
        rintro e w6 ⟨rfl, hb6⟩
        have t6 : Below wr.heap.size wr w6 := hHeld.trans (hb6.mono hHeld.size)
        have C6 := Lib.hid (C5.out.all hb6)
        have B6 := Lib.hid (B5.out.trans (hb6.mono B5.out.size))
        clear hb6 hHeld
        refine hK.out _ _ (fun _ => t6) (fun hHeld => ?_)
        have hHeld := hHeld (by decide)
        clear hK K
        try simp only [Act.put, List.setIfInBounds_toArray, List.set_cons_zero, List.set_cons_succ]
        refine takeA (i := 8) (v := .agg (ints Z).toArray) 33 rfl rfl (by kernel_rfl) (by kernel_rfl) (by kernel_rfl) (by kernel_rfl) (fun _ _ _ h => h) (Or.inl ⟨by rfl, by intro W hSw; go_simp⟩) hHeld ?_
        simp only [Act.put, List.setIfInBounds_toArray, List.set_cons_zero, List.set_cons_succ]
        refine takeA (i := 9) (v := .bool false) 34 rfl rfl (by kernel_rfl) (by kernel_rfl) (by kernel_rfl) (by kernel_rfl) (fun _ _ _ h => h) (Or.inl ⟨by rfl, by intro W hSw; go_simp⟩) hHeld ?_
        simp only [Act.put, List.setIfInBounds_toArray, List.set_cons_zero, List.set_cons_succ]
        refine onlyL (i := 10) (by kernel_rfl) rfl (by rfl) (fun K hK => ?_)
        refine wp_storeM 65 (.tmp 2) (.tmp 33) rfl rfl (w.heap.size + 1) 0 rfl (ints Z) rfl 65 _ C6.out (by rw [HZL.out]; decide) (by rw [HZL.out]; exact Try.sizeGrid) HZ1.out ?_
        intro w7 hc7 ha7
        rw [lay'_all (Eq.refl _)] at hc7
        have C7 := Lib.hid hc7
        have B7 : Hid (Below w.heap.size w w7) := Lib.hid (B6.out.trans (ha7.below (by omega)))
        clear hc7 ha7
        refine hK.out _ _ (fun h => absurd (by decide) h) (fun _ => ?_)
        clear hK K hHeld
        try simp only [Act.put, List.setIfInBounds_toArray, List.set_cons_zero, List.set_cons_succ]
        refine onlyL (i := 11) (by kernel_rfl) rfl (by rfl) (fun K hK => ?_)
        go_simp
        refine hK.out _ _ (fun h => absurd (by decide) h) (fun _ => ?_)
        clear hK K
        refine doneL (by kernel_rfl) ?_ _
        go_wp2
        refine bodyPost_ret (results_mid2 Try.results47 _ _ (w.heap.size + 1) (ints Z) _ (.bool false) rfl rfl C7.out.whole Try.underlying65 rfl (by rw [HZL.out]; exact Try.sizeGrid)) rfl ?_
        exact ⟨by rw [HRr.out]; rfl, B7.out⟩

set_option maxRecDepth 100000 in
set_option maxHeartbeats 8000000 in
theorem implEdOk_any (lo hi : Nat) (v : Value) (x : Ed) (w : World) (hr : Vv lo hi w v x) (hhi : hi ≤ w.heap.size) :
    Calls Try.prog 16 #[v] w fun e w' => e = .returned (.bool (edOk x)) ∧ Below w.heap.size w w' := by
  have KG := Lib.hid (fun W (h : Below w.heap.size w W) => frameOf_any lo hi v x W (hr.later h) (Nat.le_trans hhi h.size))
  obtain ⟨fv, bv, rfl, hf, hb⟩ := hr
  clear hf hb hhi
  have HSM : Hid (edOk x = true → mdOk (frameM x) = true) := Lib.hid (fun h => (edOk_parts h).2.2.2)
  have HLL : Hid ((ints ((if edOk x then some (gOf (frameM x)) else none).getD (gL 0 0 [] [] 0))).length = 67) := Lib.hid (by
    rw [ints_len]
    cases h : edOk x with
    | true => exact gL_len (md_small (HSM.out h))
    | false => rfl)
  have HSO : Hid ((if edOk x then some (gOf (frameM x)) else none).isSome = edOk x) := Lib.hid (by cases edOk x <;> rfl)
  unfold GdAns at KG
  rw [HSO.out] at KG
  have HG1 := Lib.hid (fun v (hv : v ∈ ints ((if edOk x then some (gOf (frameM x)) else none).getD (gL 0 0 [] [] 0))) => ints_one hv)
  clear HSM HSO
  generalize (if edOk x then some (gOf (frameM x)) else none).getD (gL 0 0 [] [] 0) = GG at *
  generalize edOk x = R at *
  go_enter Try.func16, Try.ntmps16
  go_wp2_with fail
  refine (KG.out _ (by go_grown)).mono ?_
  rintro e w1 ⟨rfl, hb1⟩
  have B1 : Hid (Below w.heap.size w w1) := Lib.hid (Below.trans (by go_grown) (hb1.mono (by simp)))
  clear hb1
  have tk7 : True := trivial
  have tk8 : True := trivial
  go_wp2_with
    (first
      | (have _t := tk7; clear _t tk7; refine wpList_allocM rfl 65 rfl (ints (gL 0 0 [] [] 0)) Try.allocGrid ?_
         intro w2 hc2 hb2 hs2
         have CC := Lib.hid hc2
         have BB : Hid (Below w.heap.size w w2) := Lib.hid (B1.out.trans (hb2.mono B1.out.size))
         clear hc2 hb2 hs2)
      | (have _t := tk8; clear _t tk8; refine wpList_storeM rfl 65 _ _ rfl w1.heap.size 0 rfl (ints GG) rfl 65 (ints (gL 0 0 [] [] 0)) CC.out (by rw [HLL.out]; exact Nat.le_refl _) (by rw [HLL.out]; exact Try.sizeGrid) HG1.out ?_
         intro w3 hc3 ha3
         have BB : Hid (Below w.heap.size w w3) := Lib.hid (BB.out.trans (ha3.below B1.out.size))
         clear hc3 ha3))
  go_ret
  exact ⟨rfl, BB.out⟩
end Go.Proofs.Ytpodpadcaflehaa
