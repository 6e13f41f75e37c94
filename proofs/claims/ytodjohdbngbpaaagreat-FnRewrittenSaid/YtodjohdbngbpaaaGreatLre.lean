/-
  The walk of the law FnRewritten: it returns true and writes nothing that was there. No condition.
-/
import Derived.Test.YtodjohdbngbpaaaGreatMan
import Derived.Test.YtodjohdbngbpaaaGreatZDrw
import Derived.Test.YtodjohdbngbpaaaGreatZDrg
import Derived.Test.YtodjohdbngbpaaaGreatTeq
import Derived.Test.YtodjohdbngbpaaaGreatRwi
import Derived.Test.YtodjohdbngbpaaaGreatRwn
import Derived.Test.YtodjohdbngbpaaaGreatSmi
import Derived.Test.YtodjohdbngbpaaaGreatZRwt
import Derived.Test.YtodjohdbngbpaaaGreatHas
import Derived.Test.YtodjohdbngbpaaaGreatSame
namespace Go.Proofs.YtodjohdbngbpaaaGreat
open Go.RowKit Go.WideShapes
open Go Go.Deep
set_option linter.unusedSimpArgs false

theorem tag_ag {A : Nat} : ∀ (t : Tm), tag t A → t.ag (A : Int)
  | .leaf _ _, _ => trivial
  | .deny a, h => tag_ag a h
  | .know _ _ a, h => ⟨h.1, tag_ag a h.2⟩
  | .joint _ a b, h => ⟨tag_ag a h.1, tag_ag b h.2⟩
theorem ag_tag {A : Nat} : ∀ (t : Tm), t.ag (A : Int) → tag t A
  | .leaf _ _, _ => trivial
  | .deny a, h => ag_tag a h
  | .know _ _ a, h => ⟨h.1, ag_tag a h.2⟩
  | .joint _ a b, h => ⟨ag_tag a h.1, ag_tag b h.2⟩
theorem evOk_tag {m : Md} {t : Tm} (hm : mdOk m = true) (hw : t.wf) (hs : t.size ≤ 40) (ht : tag t m.blocks.length) : evOk m (lay 0 t) = true := by
  obtain ⟨p1, p2, p3, p4, -⟩ := mdOk_parts hm
  exact evOk_lay hm hw hs (A := m.blocks.length) (by omega) (Nat.le_refl _) (tag_ag t ht)
/-- two terms that mean the same: the formulas are equivalent -/
theorem equiv_same {m : Md} {t s : Tm} (hm : mdOk m = true) (hw : t.wf) (hs : t.size ≤ 40) (ht : tag t m.blocks.length) (hw' : s.wf) (hs' : s.size ≤ 40) (ht' : tag s m.blocks.length) (h : sameE t s m) : equivR m (lay 0 t) (lay 0 s) = true := by
  have hn : m.facts.length ≤ 16 := (mdOk_parts hm).2.1
  unfold equivR
  rw [evOk_tag hm hw hs ht, evOk_tag hm hw' hs' ht', evP_lay hw hs, evP_lay hw' hs']
  show eqB _ _ = true
  unfold eqB
  refine List.all_eq_true.2 fun i _ => ?_
  rw [beq_iff_eq]
  by_cases hi : i < m.facts.length
  · exact h.evI hn hw hw' ht ht' hi
  · have h1 : evI t m i = false := by
      cases e : evI t m i with
      | false => rfl
      | true => exact absurd (evI_in t m i hn e) hi
    have h2 : evI s m i = false := by
      cases e : evI s m i with
      | false => rfl
      | true => exact absurd (evI_in s m i hn e) hi
    rw [h1, h2]
theorem quiet_ops : ∀ (t : Tm) (b : Nat), quietT t → ∀ x ∈ lay b t, x.op ≠ 9
  | .leaf op n, b, h, x, hx => by
    simp only [lay, List.mem_singleton] at hx
    subst hx
    have h2 : op = 1 ∨ op = 2 ∧ n = 0 := h
    show op ≠ 9
    omega
  | .deny a, b, h, x, hx => by
    simp only [lay, List.mem_append, List.mem_singleton] at hx
    rcases hx with hx | hx
    · exact quiet_ops a b h x hx
    · subst hx
      show (3 : Int) ≠ 9
      decide
  | .know op n a, b, h, x, hx => by
    simp only [lay, List.mem_append, List.mem_singleton] at hx
    rcases hx with hx | hx
    · exact quiet_ops a b h.2 x hx
    · subst hx
      have := h.1
      show op ≠ 9
      omega
  | .joint op a c, b, h, x, hx => by
    simp only [lay, List.mem_append, List.mem_singleton] at hx
    rcases hx with (hx | hx) | hx
    · exact quiet_ops a _ h.2.1 x hx
    · exact quiet_ops c _ h.2.2 x hx
    · subst hx
      have := h.1
      show op ≠ 9
      omega
theorem quiet_has {t : Tm} (h : quietT t) : hasA (lay 0 t) = false := by
  unfold hasA
  refine decide_eq_false ?_
  unfold cntOp
  rw [List.countP_pos_iff]
  rintro ⟨x, hx, e⟩
  exact quiet_ops t 0 h x hx (of_decide_eq_true e)
theorem rewL_lay {t : Tm} (hw : t.wf) (hs : t.size ≤ 40) : rewL (lay 0 t) = (rewT t).map (lay 0) := by
  unfold rewL; rw [lay_formOk hw hs, if_pos rfl, show termOfL (lay 0 t) = t from lay_tm hw hs]
theorem simpL_lay {t : Tm} (hw : t.wf) (hs : t.size ≤ 40) : simpL (lay 0 t) = some (lay 0 (simpT t)) := by
  unfold simpL; rw [lay_formOk hw hs, if_pos rfl, show termOfL (lay 0 t) = t from lay_tm hw hs]
theorem sameL_self {t : Tm} (hw : t.wf) (hs : t.size ≤ 40) : sameL (lay 0 t) (lay 0 t) = true := by
  unfold sameL; rw [lay_formOk hw hs]; simp

set_option maxRecDepth 100000 in
set_option maxHeartbeats 64000000 in
theorem walk_FnRewritten (v0 : Value) (len : Nat) (w : World) (h0 : InBytes w v0 len) :
    Calls Tryz.prog 5 #[v0] w fun e w' => e = .returned (.bool true) ∧ Below w.heap.size w w' := by
  obtain ⟨a0, cap0, rfl, hlc, hcm, -⟩ := id h0
  unfold maxLen at hcm
  by_cases hbig : 1048576 < len
  · clear h0
    go_enter Tryz.func5, Tryz.ntmps5
    go_wp2
    go_ret
    exact ⟨rfl, Below.refl _ _⟩
  have hcode := h0.code (by omega)
  have KM := Lib.hid (makeModel_any w (.slice a0 len cap0) 0 7 (by decide) (by decide) hcode)
  have KB := Lib.hid (fun W (h : Below w.heap.size w W) => makeB_any W (.slice a0 len cap0) 40 (by decide) (hcode.below h (Nat.le_refl _)))
  clear h0 hcode
  go_enter Tryz.func5, Tryz.ntmps5
  go_wp2_with fail
  refine KM.out.mono ?_
  rintro e w1 ⟨vm, m, rfl, hmo, ⟨hmd, hn7, ha2, hf8⟩, hb1⟩
  clear KM hf8
  obtain ⟨fa, fc, ba, bc, e1⟩ := hmo.read.form
  subst e1
  have XO := Lib.hid hmo.read
  have HMD := Lib.hid hmd
  have HA2 := Lib.hid ha2
  have B1 := Lib.hid hb1
  clear hmo hmd ha2 hb1
  go_wp2_with fail
  have A2 := Lib.hid (Mcell.new (w := w1) (T := 26) (b := w1.heap.size) (fv := .slice fa m.facts.length fc) (bv := .slice ba m.blocks.length bc) (n := m.actual) rfl)
  have hb2 : Below w1.heap.size w1 (w1.alloc (.cells #[.slice fa m.facts.length fc, .slice ba m.blocks.length bc, .int .i64 m.actual] 26)) := by go_grown
  generalize w1.alloc (.cells #[.slice fa m.facts.length fc, .slice ba m.blocks.length bc, .int .i64 m.actual] 26) = w2 at *
  have B2 : Hid (Below w.heap.size w w2) := Lib.hid (B1.out.trans (hb2.mono B1.out.size))
  have XO := Lib.hid ((XO.out.keeps (Keeps.of_all hb2)).wide (Nat.le_refl _) hb2.size)
  clear hb2 B1
  refine (KB.out _ B2.out).mono ?_
  rintro e w3 ⟨vf, f, rfl, hof, ⟨t, rfl, hw, hg, hz⟩, hha, hb3⟩
  have hnf := Ns.of_own hof
  obtain ⟨af, cf, rfl, -⟩ := hnf.parts
  have F3 := Lib.hid hnf
  have A3 := Lib.hid (A2.out.below hb3)
  have XO := Lib.hid ((XO.out.keeps (Keeps.of_all hb3)).wide (Nat.le_refl _) hb3.size)
  have B3 : Hid (Below w.heap.size w w3) := Lib.hid (B2.out.trans (hb3.mono B2.out.size))
  clear hof hnf hb3 A2 B2 KB
  have hs : t.size ≤ 15 := hz
  have ht : tag t m.blocks.length := ag_tag t (Tm.ag_mono (by have := HA2.out; omega) t hg)
  obtain ⟨hsw, hss⟩ := simp_wf t hw
  have EQS := Lib.hid (equiv_same HMD.out hw (by omega) ht hsw (by omega) (simp_tag t ht) (simp_same (m := m) t hw (by omega)))
  have hlt1 : (lay 0 t).length = t.size := lay_len _ _
  have hlt2 : (lay 0 (simpT t)).length = (simpT t).size := lay_len _ _
  have HLT : Hid ((lay 0 t).length ≤ 40) := Lib.hid (by omega)
  have hgt : ¬ (((lay 0 t).length : Int) < ((lay 0 (simpT t)).length : Int)) := by omega
  have KR1 := Lib.hid (fun W h => implRewrite_any (.slice af (lay 0 t).length cf) (lay 0 t) W h (by omega))
  have KR2 := Lib.hid (fun W h => specRewrite_any (.slice af (lay 0 t).length cf) (lay 0 t) W h (by omega))
  have KSI := Lib.hid (fun W h => implSimplify_any (.slice af (lay 0 t).length cf) (lay 0 t) W h)
  have KGR := Lib.hid (fun W h => implGrowthOf_any (lay 0 t) (.slice af (lay 0 t).length cf) W h (by omega))
  have KHA := Lib.hid (fun W h => implHasAnnouncements_any (lay 0 t) (.slice af (lay 0 t).length cf) W h (by omega))
  rw [hha] at KHA
  rw [rewL_lay hw (by omega)] at KR1 KR2
  rw [simpL_lay hw (by omega)] at KSI
  unfold growL at KGR
  rw [rewL_lay hw (by omega)] at KGR
  unfold Ans at KR1 KR2 KSI
  simp only [Option.getD_some, Option.isSome_some] at KSI
  have KE1 := Lib.hid (fun lo v v2 v3 W hr h2 h3 => implEquiv_any lo W.heap.size v v2 v3 m (lay 0 t) (lay 0 (simpT t)) W hr (Nat.le_refl _) h2 h3)
  rw [EQS.out] at KE1
  have hfl : ((lay 0 t).length : Int) ≤ 40 := by omega
  have hf0 : (0 : Int) ≤ ((lay 0 t).length : Int) := Int.natCast_nonneg _
  clear hlt1 hlt2 EQS HLT
  cases hR : rewT t with
  | none =>
    rw [hR] at KR1 KR2 KGR
    simp only [Option.map_none, Option.getD_none, Option.isSome_none] at KR1 KR2 KGR
    clear hR hw hg hz hs ht hha
    generalize lay 0 t = fs at *
    generalize lay 0 (simpT t) = ss at *
    go_wp2_with fail
    refine (KR1.out _ F3.out).mono ?_
    rintro e w4 ⟨vg, rfl, hog, hb4⟩
    have F4 := Lib.hid (F3.out.below hb4 (Nat.le_refl _))
    have A4 := Lib.hid (A3.out.below hb4)
    have XO := Lib.hid ((XO.out.keeps (Keeps.of_all hb4)).wide (Nat.le_refl _) hb4.size)
    have B4 : Hid (Below w.heap.size w w4) := Lib.hid (B3.out.trans (hb4.mono B3.out.size))
    clear hog hb4 F3 A3 B3
    go_wp2_with fail
    refine (KR2.out _ F4.out).mono ?_
    rintro e w5 ⟨vh, rfl, hoh, hb5⟩
    have F5 := Lib.hid (F4.out.below hb5 (Nat.le_refl _))
    have A5 := Lib.hid (A4.out.below hb5)
    have XO := Lib.hid ((XO.out.keeps (Keeps.of_all hb5)).wide (Nat.le_refl _) hb5.size)
    have B5 : Hid (Below w.heap.size w w5) := Lib.hid (B4.out.trans (hb5.mono B4.out.size))
    clear hoh hb5 F4 A4 B4
    go_wp2_with fail
    refine (KSI.out _ F5.out).mono ?_
    rintro e w6 ⟨vs, rfl, hos, hb6⟩
    have hns := Ns.of_own (xs := ss) hos
    obtain ⟨sa, sc, rfl, -⟩ := hns.parts
    have S6 := Lib.hid hns
    have F6 := Lib.hid (F5.out.below hb6 (Nat.le_refl _))
    have A6 := Lib.hid (A5.out.below hb6)
    have XO := Lib.hid ((XO.out.keeps (Keeps.of_all hb6)).wide (Nat.le_refl _) hb6.size)
    have B6 : Hid (Below w.heap.size w w6) := Lib.hid (B5.out.trans (hb6.mono B5.out.size))
    clear hos hns hb6 F5 A5 B5 KR2 KSI KR1
    have KE := Lib.hid (KE1.out _ _ _ _ w6 XO.out F6.out S6.out)
    obtain ⟨xc0, xc1, xc2, xc3, xc4, xc5⟩ := A6.out
    have tk1 : True := trivial
    have tk2 : True := trivial
    have tk3 : True := trivial
    go_wp2_with
      (first
        | (have _t := tk1; clear _t tk1; go_at_call 19; (with_reducible refine KE.out.mono ?_); rintro e w7 ⟨rfl, hb7⟩; have B7 : Hid (Below w.heap.size w w7) := Lib.hid (B6.out.trans (hb7.mono B6.out.size)); have F7 := Lib.hid (F6.out.below hb7 (Nat.le_refl _)); have A7 := Lib.hid (A6.out.below hb7); have XO := Lib.hid ((XO.out.keeps (Keeps.of_all hb7)).wide (Nat.le_refl _) hb7.size); clear hb7 F6 A6 B6 xc0 xc1 xc2 xc3 xc4 xc5 KE)
        | (have _t := tk2; clear _t tk2; go_at_call 29; (with_reducible refine (KHA.out _ F7.out).mono ?_); rintro e w8 ⟨rfl, hb8⟩; have B8 : Hid (Below w.heap.size w w8) := Lib.hid (B7.out.trans (hb8.mono B7.out.size)); have F8 := Lib.hid (F7.out.below hb8 (Nat.le_refl _)); have A8 := Lib.hid (A7.out.below hb8); have XO := Lib.hid ((XO.out.keeps (Keeps.of_all hb8)).wide (Nat.le_refl _) hb8.size); clear hb8 F7 A7 B7)
        | (have _t := tk3; clear _t tk3; go_at_call 30; (with_reducible refine (KGR.out _ F8.out).mono ?_); rintro e w9 ⟨rfl, hb9⟩; have B9 : Hid (Below w.heap.size w w9) := Lib.hid (B8.out.trans (hb9.mono B8.out.size)); clear hb9))
    go_ret
    exact ⟨rfl, B9.out⟩
  | some s =>
    rw [hR] at KR1 KR2 KGR
    obtain ⟨hq, hsw2, hss2⟩ := rew_quiet t s hw hR
    have EQR := Lib.hid (equiv_same HMD.out hw (by omega) ht hsw2 hss2 (rew_tag t s hw hR ht) (rew_same (m := m) t s hw hR))
    have hls : (lay 0 s).length ≤ 40 := by rw [lay_len]; exact hss2
    have hgl : ((lay 0 s).length : Int) ≤ 40 := by omega
    have hg0 : (0 : Int) ≤ ((lay 0 s).length : Int) := Int.natCast_nonneg _
    have KRR := Lib.hid (fun v W h => implRewrite_any v (lay 0 s) W h (by omega))
    rw [rewL_lay hsw2 hss2, rew_again s hq hss2] at KRR
    unfold Ans at KRR
    have KHG := Lib.hid (fun v W h => implHasAnnouncements_any (lay 0 s) v W h (by omega))
    rw [quiet_has hq] at KHG
    have KE2 := Lib.hid (fun lo v v2 v3 W hr h2 h3 => implEquiv_any lo W.heap.size v v2 v3 m (lay 0 t) (lay 0 s) W hr (Nat.le_refl _) h2 h3)
    rw [EQR.out] at KE2
    have KSF := Lib.hid (fun u v W h1 h2 => implSameF_any u v (lay 0 s) (lay 0 s) W h1 h2)
    rw [sameL_self hsw2 hss2] at KSF
    simp only [Option.map_some, Option.getD_some, Option.isSome_some] at KR1 KR2 KGR KRR
    clear hR hw hg hz hs ht hha hq hsw2 hss2 EQR hls
    generalize lay 0 t = fs at *
    generalize lay 0 s = gs at *
    generalize lay 0 (simpT t) = ss at *
    go_wp2_with fail
    refine (KR1.out _ F3.out).mono ?_
    rintro e w4 ⟨vg, rfl, hog, hb4⟩
    have hng := Ns.of_own (xs := gs) hog
    obtain ⟨ag, cg, rfl, -⟩ := hng.parts
    have G4 := Lib.hid hng
    clear hng
    have F4 := Lib.hid (F3.out.below hb4 (Nat.le_refl _))
    have A4 := Lib.hid (A3.out.below hb4)
    have XO := Lib.hid ((XO.out.keeps (Keeps.of_all hb4)).wide (Nat.le_refl _) hb4.size)
    have B4 : Hid (Below w.heap.size w w4) := Lib.hid (B3.out.trans (hb4.mono B3.out.size))
    clear hog hb4 F3 A3 B3
    go_wp2_with fail
    refine (KR2.out _ F4.out).mono ?_
    rintro e w5 ⟨vh, rfl, hoh, hb5⟩
    have F5 := Lib.hid (F4.out.below hb5 (Nat.le_refl _))
    have A5 := Lib.hid (A4.out.below hb5)
    have G5 := Lib.hid (G4.out.below hb5 (Nat.le_refl _))
    have XO := Lib.hid ((XO.out.keeps (Keeps.of_all hb5)).wide (Nat.le_refl _) hb5.size)
    have B5 : Hid (Below w.heap.size w w5) := Lib.hid (B4.out.trans (hb5.mono B4.out.size))
    clear hoh hb5 F4 A4 B4 G4
    go_wp2_with fail
    refine (KSI.out _ F5.out).mono ?_
    rintro e w6 ⟨vs, rfl, hos, hb6⟩
    have hns := Ns.of_own (xs := ss) hos
    obtain ⟨sa, sc, rfl, -⟩ := hns.parts
    have S6 := Lib.hid hns
    have F6 := Lib.hid (F5.out.below hb6 (Nat.le_refl _))
    have A6 := Lib.hid (A5.out.below hb6)
    have G6 := Lib.hid (G5.out.below hb6 (Nat.le_refl _))
    have XO := Lib.hid ((XO.out.keeps (Keeps.of_all hb6)).wide (Nat.le_refl _) hb6.size)
    have B6 : Hid (Below w.heap.size w w6) := Lib.hid (B5.out.trans (hb6.mono B5.out.size))
    clear hos hns hb6 F5 A5 B5 KR2 KSI G5
    clear KR1
    have KE := Lib.hid (KE1.out _ _ _ _ w6 XO.out F6.out S6.out)
    obtain ⟨xc0, xc1, xc2, xc3, xc4, xc5⟩ := A6.out
    have tk4 : True := trivial
    have tk5 : True := trivial
    have tk6 : True := trivial
    have tk7 : True := trivial
    have tk8 : True := trivial
    have tk9 : True := trivial
    have tk10 : True := trivial
    go_wp2_with
      (first
        | (have _t := tk4; clear _t tk4; go_at_call 19; (with_reducible refine KE.out.mono ?_); rintro e w7 ⟨rfl, hb7⟩; have B7 : Hid (Below w.heap.size w w7) := Lib.hid (B6.out.trans (hb7.mono B6.out.size)); have F7 := Lib.hid (F6.out.below hb7 (Nat.le_refl _)); have A7 := Lib.hid (A6.out.below hb7); have XO := Lib.hid ((XO.out.keeps (Keeps.of_all hb7)).wide (Nat.le_refl _) hb7.size); have G7 := Lib.hid (G6.out.below hb7 (Nat.le_refl _)); clear hb7 F6 A6 B6 xc0 xc1 xc2 xc3 xc4 xc5 KE G6)
        | (have _t := tk5; clear _t tk5; go_at_call 29; (with_reducible refine (KHA.out _ F7.out).mono ?_); rintro e w8 ⟨rfl, hb8⟩; have B8 : Hid (Below w.heap.size w w8) := Lib.hid (B7.out.trans (hb8.mono B7.out.size)); have F8 := Lib.hid (F7.out.below hb8 (Nat.le_refl _)); have A8 := Lib.hid (A7.out.below hb8); have XO := Lib.hid ((XO.out.keeps (Keeps.of_all hb8)).wide (Nat.le_refl _) hb8.size); have G8 := Lib.hid (G7.out.below hb8 (Nat.le_refl _)); clear hb8 F7 A7 B7 G7)
        | (have _t := tk6; clear _t tk6; go_at_call 26; (with_reducible refine (KRR.out _ _ G8.out).mono ?_); rintro e w9 ⟨vk, rfl, hok, hb9⟩; have hnk := Ns.of_own (xs := gs) hok; obtain ⟨ak, ck, rfl, -⟩ := hnk.parts; have K9 := Lib.hid hnk; have G9 := Lib.hid (G8.out.below hb9 (Nat.le_refl _)); have B9 : Hid (Below w.heap.size w w9) := Lib.hid (B8.out.trans (hb9.mono B8.out.size)); have F9 := Lib.hid (F8.out.below hb9 (Nat.le_refl _)); have A9 := Lib.hid (A8.out.below hb9); have XO := Lib.hid ((XO.out.keeps (Keeps.of_all hb9)).wide (Nat.le_refl _) hb9.size); have KE := Lib.hid (KE2.out _ _ _ _ w9 XO.out F9.out G9.out); obtain ⟨xc0, xc1, xc2, xc3, xc4, xc5⟩ := A9.out; clear hok hnk hb9 B8 F8 A8 G8)
        | (have _t := tk7; clear _t tk7; go_at_call 19; (with_reducible refine KE.out.mono ?_); rintro e w10 ⟨rfl, hb10⟩; have B10 : Hid (Below w.heap.size w w10) := Lib.hid (B9.out.trans (hb10.mono B9.out.size)); have F10 := Lib.hid (F9.out.below hb10 (Nat.le_refl _)); have G10 := Lib.hid (G9.out.below hb10 (Nat.le_refl _)); have K10 := Lib.hid (K9.out.below hb10 (Nat.le_refl _)); clear hb10 xc0 xc1 xc2 xc3 xc4 xc5 B9 F9 G9 K9 A9)
        | (have _t := tk8; clear _t tk8; go_at_call 29; (with_reducible refine (KHG.out _ _ G10.out).mono ?_); rintro e w11 ⟨rfl, hb11⟩; have B11 : Hid (Below w.heap.size w w11) := Lib.hid (B10.out.trans (hb11.mono B10.out.size)); have F11 := Lib.hid (F10.out.below hb11 (Nat.le_refl _)); have G11 := Lib.hid (G10.out.below hb11 (Nat.le_refl _)); have K11 := Lib.hid (K10.out.below hb11 (Nat.le_refl _)); clear hb11 B10 F10 G10 K10)
        | (have _t := tk9; clear _t tk9; go_at_call 30; (with_reducible refine (KGR.out _ F11.out).mono ?_); rintro e w12 ⟨rfl, hb12⟩; have B12 : Hid (Below w.heap.size w w12) := Lib.hid (B11.out.trans (hb12.mono B11.out.size)); have G12 := Lib.hid (G11.out.below hb12 (Nat.le_refl _)); have K12 := Lib.hid (K11.out.below hb12 (Nat.le_refl _)); have KSF := Lib.hid (KSF.out _ _ w12 G12.out K12.out); clear hb12 B11 F11 G11 K11)
        | (have _t := tk10; clear _t tk10; go_at_call 31; (with_reducible refine KSF.out.mono ?_); rintro e w13 ⟨rfl, hb13⟩; have B13 : Hid (Below w.heap.size w w13) := Lib.hid (B12.out.trans (hb13.mono B12.out.size)); clear hb13))
    go_ret
    exact ⟨rfl, B13.out⟩
end Go.Proofs.YtodjohdbngbpaaaGreat
