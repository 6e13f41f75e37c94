/-
  spec.AreAlike. No condition but the readings.
-/
import Derived.Test.YtpodpadcaflehaaLbo
import Derived.Test.YtpodpadcaflehaaZSpc
namespace Go.Proofs.Ytpodpadcaflehaa
open Go.RowKit Go.WideShapes
open Go Go.Deep
set_option linter.unusedSimpArgs false

set_option maxRecDepth 100000 in
set_option maxHeartbeats 32000000 in
theorem specAlike_any (lo hi lo2 hi2 : Nat) (v v2 : Value) (m n : Md) (w : World) (hr : Mv lo hi w v m) (_hhi : hi ≤ w.heap.size) (hr2 : Mv lo2 hi2 w v2 n) (_hhi2 : hi2 ≤ w.heap.size) :
    Calls Try.prog 9 #[v, v2] w fun e w' => e = .returned (.bool (alikeR m n)) ∧ Below w.heap.size w w' := by
  have KO := Lib.hid (fun W (h : Below w.heap.size w W) => specOk_any lo hi v m W (hr.keeps (Keeps.of_all h)))
  have KP := Lib.hid (fun W (h : Below w.heap.size w W) => specOk_any lo2 hi2 v2 n W (hr2.keeps (Keeps.of_all h)))
  rw [specOk_mdOk] at KO KP
  have KB := Lib.hid (fun hm hn hb hl W (h : Below w.heap.size w W) => specBoth_any lo hi lo2 hi2 v v2 m n W (hr.keeps (Keeps.of_all h)) (hr2.keeps (Keeps.of_all h)) hm hn hb hl)
  unfold MdAns at KB
  obtain ⟨fv, bv, rfl, hf, hb⟩ := hr
  obtain ⟨fv2, bv2, rfl, hf2, hb2⟩ := hr2
  obtain ⟨fa, fc, e1⟩ := hf.form
  obtain ⟨ba, bc, e2, hxx⟩ := hb.parts
  clear hxx
  subst e1
  subst e2
  obtain ⟨ga, gc, e1⟩ := hf2.form
  obtain ⟨ca, cc, e2, hxx⟩ := hb2.parts
  clear hxx
  subst e1
  subst e2
  clear hf hb hf2 hb2
  have HR : Hid (alikeR m n = (mdOk m && mdOk n && (m.blocks.length == n.blocks.length) && decide (m.facts.length + n.facts.length ≤ 16) && ((lastC (bothM m n)).getD m.actual.toNat 0 == (lastC (bothM m n)).getD (m.facts.length + n.actual.toNat) 0))) := Lib.hid rfl
  generalize alikeR m n = R at *
  by_cases hm : mdOk m = false
  · have HRr : Hid (R = false) := Lib.hid (by rw [HR.out, hm]; rfl)
    rw [hm] at KO
    clear HR KP KB hm
    go_enter Try.func9, Try.ntmps9
    go_wp2_with fail
    refine (KO.out _ (by go_grown)).mono ?_
    rintro e w1 ⟨rfl, hb1⟩
    have X1 := Lib.hid (Mcell.below (b := w.heap.size) ((Mcell.new rfl).alloc _) hb1)
    have Y1 := Lib.hid (Mcell.below (b := w.heap.size + 1) (Mcell.new (by simp)) hb1)
    have B1 : Hid (Below w.heap.size w w1) := Lib.hid (Below.trans (by go_grown) (hb1.mono (by simp; omega)))
    clear hb1
    go_wp2
    go_ret
    exact ⟨ret_bool HRr.out.symm, B1.out⟩
  have hm : mdOk m = true := by simpa using hm
  rw [hm] at KO
  by_cases hn : mdOk n = false
  · have HRr : Hid (R = false) := Lib.hid (by rw [HR.out, hm, hn]; rfl)
    rw [hn] at KP
    clear HR KB hm hn
    go_enter Try.func9, Try.ntmps9
    go_wp2_with fail
    refine (KO.out _ (by go_grown)).mono ?_
    rintro e w1 ⟨rfl, hb1⟩
    have X1 := Lib.hid (Mcell.below (b := w.heap.size) ((Mcell.new rfl).alloc _) hb1)
    have Y1 := Lib.hid (Mcell.below (b := w.heap.size + 1) (Mcell.new (by simp)) hb1)
    have B1 : Hid (Below w.heap.size w w1) := Lib.hid (Below.trans (by go_grown) (hb1.mono (by simp; omega)))
    clear hb1
    obtain ⟨y0, y1, y2, _⟩ := Y1.out
    go_wp2_with fail
    refine (KP.out _ B1.out).mono ?_
    rintro e w2 ⟨rfl, hb2⟩
    have X2 := Lib.hid (X1.out.below hb2)
    have Y2 := Lib.hid (Y1.out.below hb2)
    have B2 := Lib.hid (B1.out.trans (hb2.mono B1.out.size))
    clear hb2 y0 y1 y2 X1 Y1 B1
    go_wp2
    go_ret
    exact ⟨ret_bool HRr.out.symm, B2.out⟩
  have hn : mdOk n = true := by simpa using hn
  rw [hn] at KP
  obtain ⟨p1, p2, p3, p4, p5, p6, p7, p8⟩ := mdOk_parts hm
  obtain ⟨q1, q2, q3, q4, q5, q6, q7, q8⟩ := mdOk_parts hn
  clear p5 p6 q5 q6
  by_cases hbl : m.blocks.length = n.blocks.length
  case neg =>
    have HRr : Hid (R = false) := Lib.hid (by rw [HR.out, show (m.blocks.length == n.blocks.length) = false by rw [beq_eq_false_iff_ne]; exact hbl]; simp)
    have dn : ((m.blocks.length : Int) != (n.blocks.length : Int)) = true := by rw [bne_iff_ne]; omega
    have dn2 : ((m.blocks.length : Int) == (n.blocks.length : Int)) = false := by rw [beq_eq_false_iff_ne]; omega
    clear HR KB hm hn
    go_enter Try.func9, Try.ntmps9
    go_wp2_with fail
    refine (KO.out _ (by go_grown)).mono ?_
    rintro e w1 ⟨rfl, hb1⟩
    have X1 := Lib.hid (Mcell.below (b := w.heap.size) ((Mcell.new rfl).alloc _) hb1)
    have Y1 := Lib.hid (Mcell.below (b := w.heap.size + 1) (Mcell.new (by simp)) hb1)
    have B1 : Hid (Below w.heap.size w w1) := Lib.hid (Below.trans (by go_grown) (hb1.mono (by simp; omega)))
    clear hb1
    obtain ⟨y0, y1, y2, _⟩ := Y1.out
    go_wp2_with fail
    refine (KP.out _ B1.out).mono ?_
    rintro e w2 ⟨rfl, hb2⟩
    have X2 := Lib.hid (X1.out.below hb2)
    have Y2 := Lib.hid (Y1.out.below hb2)
    have B2 := Lib.hid (B1.out.trans (hb2.mono B1.out.size))
    clear hb2 y0 y1 y2 X1 Y1 B1
    obtain ⟨x0, x1, x2, _⟩ := X2.out
    obtain ⟨y0, y1, y2, _⟩ := Y2.out
    go_wp2
    go_ret
    exact ⟨ret_bool HRr.out.symm, B2.out⟩
  have dn : ((m.blocks.length : Int) != (n.blocks.length : Int)) = false := by rw [hbl]; simp
  have dn2 : ((m.blocks.length : Int) == (n.blocks.length : Int)) = true := by rw [hbl]; simp
  have HBL := Lib.hid hbl
  clear hbl
  by_cases hsz : m.facts.length + n.facts.length ≤ 16
  case neg =>
    have HRr : Hid (R = false) := Lib.hid (by rw [HR.out, decide_eq_false hsz]; simp)
    have dg2 : decide ((16 : Int) < (m.facts.length : Int) + (n.facts.length : Int)) = true := decide_eq_true (by omega)
    have HSZ := Lib.hid hsz
    clear hsz
    clear HR KB hm hn
    go_enter Try.func9, Try.ntmps9
    go_wp2_with fail
    refine (KO.out _ (by go_grown)).mono ?_
    rintro e w1 ⟨rfl, hb1⟩
    have X1 := Lib.hid (Mcell.below (b := w.heap.size) ((Mcell.new rfl).alloc _) hb1)
    have Y1 := Lib.hid (Mcell.below (b := w.heap.size + 1) (Mcell.new (by simp)) hb1)
    have B1 : Hid (Below w.heap.size w w1) := Lib.hid (Below.trans (by go_grown) (hb1.mono (by simp; omega)))
    clear hb1
    obtain ⟨y0, y1, y2, _⟩ := Y1.out
    go_wp2_with fail
    refine (KP.out _ B1.out).mono ?_
    rintro e w2 ⟨rfl, hb2⟩
    have X2 := Lib.hid (X1.out.below hb2)
    have Y2 := Lib.hid (Y1.out.below hb2)
    have B2 := Lib.hid (B1.out.trans (hb2.mono B1.out.size))
    clear hb2 y0 y1 y2 X1 Y1 B1
    obtain ⟨x0, x1, x2, _⟩ := X2.out
    obtain ⟨y0, y1, y2, _⟩ := Y2.out
    go_wp2
    go_ret
    exact ⟨ret_bool HRr.out.symm, B2.out⟩
  have dg2 : decide ((16 : Int) < (m.facts.length : Int) + (n.facts.length : Int)) = false := decide_eq_false (by omega)
  have HR2 : Hid (R = ((lastC (bothM m n)).getD m.actual.toNat 0 == (lastC (bothM m n)).getD (m.facts.length + n.actual.toNat) 0)) := Lib.hid (by rw [HR.out, hm, hn, decide_eq_true hsz, show (m.blocks.length == n.blocks.length) = true by rw [beq_iff_eq]; exact HBL.out]; simp)
  have KB := Lib.hid (KB.out hm hn HBL.out hsz)
  have hbo := both_ok hm hn HBL.out hsz
  have KC := Lib.hid (fun lo hi v W h => specLast_any lo hi v (bothM m n) W h hbo)
  unfold IntsAns at KC
  have HCL : Hid ((lastC (bothM m n)).length = m.facts.length + n.facts.length) := Lib.hid (by rw [lastC_len]; unfold bothM; simp)
  obtain ⟨a, ha⟩ := Int.eq_ofNat_of_zero_le p7
  obtain ⟨a2, ha2⟩ := Int.eq_ofNat_of_zero_le q7
  rw [ha, ha2, Int.toNat_natCast, Int.toNat_natCast] at HR2
  have hap : a < m.facts.length := by omega
  have ha2p : a2 < n.facts.length := by omega
  obtain ⟨b2, hb2⟩ : ∃ b2, b2 = m.facts.length + a2 := ⟨_, rfl⟩
  have HWB : Hid (IntKind.wrap .i64 ((m.facts.length : Int) + (a2 : Int)) = (m.facts.length : Int) + (a2 : Int)) := Lib.hid (IntWalk.i64_in _ (by omega))
  have HB2 : Hid ((m.facts.length : Int) + (a2 : Int) = (b2 : Int)) := Lib.hid (by omega)
  rw [← hb2] at HR2
  have hb2l : b2 < m.facts.length + n.facts.length := by omega
  have a0 : (0 : Int) ≤ (a : Int) := Int.natCast_nonneg _
  have al : (a : Int) < (m.facts.length : Int) + (n.facts.length : Int) := by omega
  have bl : (b2 : Int) < (m.facts.length : Int) + (n.facts.length : Int) := by omega
  have b0 : (0 : Int) ≤ (b2 : Int) := Int.natCast_nonneg _
  clear HR hm hn hbo p7 p8 q7 q8 hb2
  generalize bothM m n = BM at *
  generalize lastC BM = C at *
  rw [ha] at KO KB ⊢
  rw [ha2] at KP KB ⊢
  clear ha ha2
  go_enter Try.func9, Try.ntmps9
  go_wp2_with fail
  refine (KO.out _ (by go_grown)).mono ?_
  rintro e w1 ⟨rfl, hb1⟩
  have X1 := Lib.hid (Mcell.below (b := w.heap.size) ((Mcell.new rfl).alloc _) hb1)
  have Y1 := Lib.hid (Mcell.below (b := w.heap.size + 1) (Mcell.new (by simp)) hb1)
  have B1 : Hid (Below w.heap.size w w1) := Lib.hid (Below.trans (by go_grown) (hb1.mono (by simp; omega)))
  clear hb1
  obtain ⟨y0, y1, y2, _⟩ := Y1.out
  go_wp2_with fail
  refine (KP.out _ B1.out).mono ?_
  rintro e w2 ⟨rfl, hb2⟩
  have X2 := Lib.hid (X1.out.below hb2)
  have Y2 := Lib.hid (Y1.out.below hb2)
  have B2 := Lib.hid (B1.out.trans (hb2.mono B1.out.size))
  clear hb2 y0 y1 y2 X1 Y1 B1
  obtain ⟨x0, x1, x2, _⟩ := X2.out
  obtain ⟨y0, y1, y2, _⟩ := Y2.out
  go_wp2_with fail
  refine (KB.out _ B2.out).mono ?_
  rintro e w3 ⟨v3, rfl, ho3, hb3⟩
  have X3 := Lib.hid (X2.out.below hb3)
  have Y3 := Lib.hid (Y2.out.below hb3)
  have B3 := Lib.hid (B2.out.trans (hb3.mono B2.out.size))
  have M3 := Lib.hid ho3.read
  clear ho3 hb3 x0 x1 x2 y0 y1 y2 X2 Y2 B2
  go_wp2_with fail
  refine (KC.out _ _ _ _ M3.out).mono ?_
  rintro e w4 ⟨v4, rfl, ho4, hb4⟩
  have X4 := Lib.hid (X3.out.below hb4)
  have Y4 := Lib.hid (Y3.out.below hb4)
  have B4 := Lib.hid (B3.out.trans (hb4.mono B3.out.size))
  obtain ⟨vb, vo, vc, rfl, v1, v2, vlt, vcell⟩ := iv_open ho4.read (by rw [HCL.out]; omega)
  unfold maxLen at v2
  rw [HCL.out] at v1 ⊢
  obtain ⟨x, hx⟩ : ∃ x, x = C.getD a 0 := ⟨_, rfl⟩
  obtain ⟨y, hy⟩ : ∃ y, y = C.getD b2 0 := ⟨_, rfl⟩
  rw [← hx, ← hy] at HR2
  have HQ : Hid (∀ W, Below w4.heap.size w4 W → (Mcell W w.heap.size (.slice fa m.facts.length fc) (.slice ba m.blocks.length bc) a ∧ Mcell W (w.heap.size + 1) (.slice ga n.facts.length gc) (.slice ca n.blocks.length cc) a2) ∧ W.cell? ⟨vb, vo + a, none⟩ = some (.int .i64 x) ∧ W.cell? ⟨vb, vo + b2, none⟩ = some (.int .i64 y)) := Lib.hid (fun W hW => ⟨⟨X4.out.below hW, Y4.out.below hW⟩, by rw [vcell W hW a (by rw [HCL.out]; omega), hx], by rw [vcell W hW b2 (by rw [HCL.out]; omega), hy]⟩)
  clear ho4 hb4 X3 Y3 B3 M3 hx hy vcell
  go_wp2
  refine regionL (fun W => Below w4.heap.size w4 W) [15] (by kernel_rfl) (Below.refl _ _).drew (fun hHeld => ?_)
  refine takeA (i := 0) (v := .slice (some ⟨vb, vo, none⟩) (m.facts.length + n.facts.length) vc) 37 rfl rfl (by kernel_rfl) (by kernel_rfl) (by kernel_rfl) (by kernel_rfl) (fun _ _ _ h => h) (Or.inl ⟨by rfl, by intro W hSw; go_simp⟩) hHeld ?_
  simp only [Act.put, List.setIfInBounds_toArray, List.set_cons_zero, List.set_cons_succ]
  refine takeA (i := 1) (v := .pointer (some ⟨w.heap.size, 2, none⟩)) 38 rfl rfl (by kernel_rfl) (by kernel_rfl) (by kernel_rfl) (by kernel_rfl) (fun _ _ _ h => h) (Or.inl ⟨by rfl, by intro W hSw; go_simp⟩) hHeld ?_
  simp only [Act.put, List.setIfInBounds_toArray, List.set_cons_zero, List.set_cons_succ]
  refine takeA (i := 2) (v := .int .i64 a) 39 rfl rfl (by kernel_rfl) (by kernel_rfl) (by kernel_rfl) (by kernel_rfl) (fun _ _ _ h => h) (Or.inl ⟨by rfl, by intro W hSw; obtain ⟨⟨⟨c0, c1, c2, _⟩, -⟩, -⟩ := HQ.out _ hSw; go_simp⟩) hHeld ?_
  simp only [Act.put, List.setIfInBounds_toArray, List.set_cons_zero, List.set_cons_succ]
  refine takeA (i := 3) (v := .pointer (some ⟨vb, vo + a, none⟩)) 40 rfl rfl (by kernel_rfl) (by kernel_rfl) (by kernel_rfl) (by kernel_rfl) (fun _ _ _ h => h) (Or.inl ⟨by rfl, by intro W hSw; go_simp⟩) hHeld ?_
  simp only [Act.put, List.setIfInBounds_toArray, List.set_cons_zero, List.set_cons_succ]
  refine takeA (i := 4) (v := .int .i64 x) 41 rfl rfl (by kernel_rfl) (by kernel_rfl) (by kernel_rfl) (by kernel_rfl) (fun _ _ _ h => h) (Or.inl ⟨by rfl, by intro W hSw; have c1 := (HQ.out _ hSw).2.1; go_simp⟩) hHeld ?_
  simp only [Act.put, List.setIfInBounds_toArray, List.set_cons_zero, List.set_cons_succ]
  refine takeA (i := 5) (v := .slice (some ⟨vb, vo, none⟩) (m.facts.length + n.facts.length) vc) 42 rfl rfl (by kernel_rfl) (by kernel_rfl) (by kernel_rfl) (by kernel_rfl) (fun _ _ _ h => h) (Or.inl ⟨by rfl, by intro W hSw; go_simp⟩) hHeld ?_
  simp only [Act.put, List.setIfInBounds_toArray, List.set_cons_zero, List.set_cons_succ]
  refine takeA (i := 6) (v := .pointer (some ⟨w.heap.size, 0, none⟩)) 43 rfl rfl (by kernel_rfl) (by kernel_rfl) (by kernel_rfl) (by kernel_rfl) (fun _ _ _ h => h) (Or.inl ⟨by rfl, by intro W hSw; go_simp⟩) hHeld ?_
  simp only [Act.put, List.setIfInBounds_toArray, List.set_cons_zero, List.set_cons_succ]
  refine takeA (i := 7) (v := .slice fa m.facts.length fc) 44 rfl rfl (by kernel_rfl) (by kernel_rfl) (by kernel_rfl) (by kernel_rfl) (fun _ _ _ h => h) (Or.inl ⟨by rfl, by intro W hSw; obtain ⟨⟨⟨c0, c1, c2, _⟩, -⟩, -⟩ := HQ.out _ hSw; go_simp⟩) hHeld ?_
  simp only [Act.put, List.setIfInBounds_toArray, List.set_cons_zero, List.set_cons_succ]
  refine takeA (i := 8) (v := .int .i64 m.facts.length) 45 rfl rfl (by kernel_rfl) (by kernel_rfl) (by kernel_rfl) (by kernel_rfl) (fun _ _ _ h => h) (Or.inl ⟨by rfl, by intro W hSw; go_simp⟩) hHeld ?_
  simp only [Act.put, List.setIfInBounds_toArray, List.set_cons_zero, List.set_cons_succ]
  refine takeA (i := 9) (v := .pointer (some ⟨w.heap.size + 1, 2, none⟩)) 46 rfl rfl (by kernel_rfl) (by kernel_rfl) (by kernel_rfl) (by kernel_rfl) (fun _ _ _ h => h) (Or.inl ⟨by rfl, by intro W hSw; go_simp⟩) hHeld ?_
  simp only [Act.put, List.setIfInBounds_toArray, List.set_cons_zero, List.set_cons_succ]
  refine takeA (i := 10) (v := .int .i64 a2) 47 rfl rfl (by kernel_rfl) (by kernel_rfl) (by kernel_rfl) (by kernel_rfl) (fun _ _ _ h => h) (Or.inl ⟨by rfl, by intro W hSw; obtain ⟨⟨-, ⟨c0, c1, c2, _⟩⟩, -⟩ := HQ.out _ hSw; go_simp⟩) hHeld ?_
  simp only [Act.put, List.setIfInBounds_toArray, List.set_cons_zero, List.set_cons_succ]
  refine takeA (i := 11) (v := .int .i64 b2) 48 rfl rfl (by kernel_rfl) (by kernel_rfl) (by kernel_rfl) (by kernel_rfl) (fun _ _ _ h => h) (Or.inl ⟨by rfl, by intro W hSw; have hw := HWB.out; rw [← HB2.out]; go_simp⟩) hHeld ?_
  simp only [Act.put, List.setIfInBounds_toArray, List.set_cons_zero, List.set_cons_succ]
  refine takeA (i := 12) (v := .pointer (some ⟨vb, vo + b2, none⟩)) 49 rfl rfl (by kernel_rfl) (by kernel_rfl) (by kernel_rfl) (by kernel_rfl) (fun _ _ _ h => h) (Or.inl ⟨by rfl, by intro W hSw; go_simp⟩) hHeld ?_
  simp only [Act.put, List.setIfInBounds_toArray, List.set_cons_zero, List.set_cons_succ]
  refine takeA (i := 13) (v := .int .i64 y) 50 rfl rfl (by kernel_rfl) (by kernel_rfl) (by kernel_rfl) (by kernel_rfl) (fun _ _ _ h => h) (Or.inl ⟨by rfl, by intro W hSw; have c1 := (HQ.out _ hSw).2.2; go_simp⟩) hHeld ?_
  simp only [Act.put, List.setIfInBounds_toArray, List.set_cons_zero, List.set_cons_succ]
  refine takeA (i := 14) (v := .bool (x == y)) 51 rfl rfl (by kernel_rfl) (by kernel_rfl) (by kernel_rfl) (by kernel_rfl) (fun _ _ _ h => h) (Or.inl ⟨by rfl, by intro W hSw; go_simp⟩) hHeld ?_
  simp only [Act.put, List.setIfInBounds_toArray, List.set_cons_zero, List.set_cons_succ]
  refine onlyL (i := 15) (by kernel_rfl) rfl (by rfl) (fun K hK => ?_)
  go_simp
  refine hK.out _ _ (fun h => absurd (by decide) h) (fun _ => ?_)
  clear hK K
  refine doneL (by kernel_rfl) ?_ _
  go_wp2
  go_ret
  exact ⟨ret_bool HR2.out.symm, B4.out.trans (hHeld.mono B4.out.size)⟩
end Go.Proofs.Ytpodpadcaflehaa