/-
  The walk of the law FnKnows: it returns true and writes nothing that was there. No condition.
-/
import Derived.Test.YtodjohdbngbpaaaGreatKnm
import Derived.Test.YtodjohdbngbpaaaGreatTwi
import Derived.Test.YtodjohdbngbpaaaGreatLawQ
import Derived.Test.YtodjohdbngbpaaaGreatTeq
import Derived.Test.YtodjohdbngbpaaaGreatZMok
namespace Go.Proofs.YtodjohdbngbpaaaGreat
open Go.RowKit Go.WideShapes
open Go Go.Deep
set_option linter.unusedSimpArgs false

/-- an answer: the nodes xs, and true -/
def OkF (w : World) (xs : List Nd) (e : Ending) (w' : World) : Prop := ∃ a c, e = .returned (.tuple #[.slice a xs.length c, .bool true]) ∧ Ns w' (.slice a xs.length c) xs ∧ Below w.heap.size w w'
theorem OkF.of_ans {w w' : World} {xs : List Nd} {e : Ending} (h : Ans w (some xs) e w') : OkF w xs e w' := by
  obtain ⟨v, rfl, ho, hb⟩ := h
  have hn := Ns.of_own ho
  obtain ⟨a, c, rfl, -⟩ := hn.parts
  exact ⟨a, c, rfl, hn, hb⟩
theorem known_lay {t : Tm} (hw : t.wf) (hs : t.size ≤ 39) (u : Value) (w : World) (hu : Ns w u (lay 0 t)) : Calls Tryz.prog 12 #[.int .i64 0, u] w (OkF w (lay 0 (.know 5 0 t))) := by
  have h := implKnown_any 0 u (lay 0 t) w hu
  rw [lay_formOk hw (by omega), if_pos rfl, termOfL_lay hw (by omega), combL_lay (t := .know 5 0 t) ⟨.inl rfl, by decide, by decide, hw⟩ (by simp only [Tm.size]; omega)] at h
  exact h.mono fun e w' h => OkF.of_ans h
theorem negate_lay {t : Tm} (hw : t.wf) (hs : t.size ≤ 39) (u : Value) (w : World) (hu : Ns w u (lay 0 t)) : Calls Tryz.prog 13 #[u] w (OkF w (lay 0 (.deny t))) := by
  have h := implNegate_any u (lay 0 t) w hu
  rw [lay_formOk hw (by omega), if_pos rfl, termOfL_lay hw (by omega), combL_lay (t := .deny t) hw (by simp only [Tm.size]; omega)] at h
  exact h.mono fun e w' h => OkF.of_ans h
theorem parse_lay {t : Tm} (hw : t.wf) (hs : t.size ≤ 40) (w : World) : Calls Tryz.prog 14 #[.string (str (txt t))] w (OkF w (lay 0 t)) := by
  have h := implParseF_any (txt t) w (by have := (txt_len t).2; unfold maxLen; omega)
  rw [parsed_txt hw hs] at h
  exact h.mono fun e w' h => OkF.of_ans h
theorem where_lay {m : Md} {t : Tm} (hm : mdOk m = true) (h2 : 2 ≤ m.blocks.length) (hw : t.wf) (hs : t.size ≤ 40) (ha : t.ag 2) : whereR m (lay 0 t) = nums (lst (evI t m) 16) := by
  unfold whereR; rw [evOk_lay hm hw hs (A := 2) (by omega) h2 ha, evP_lay hw hs, if_pos rfl]
theorem equiv_lay {m : Md} {t u : Tm} (hm : mdOk m = true) (h2 : 2 ≤ m.blocks.length) (hw : t.wf) (hs : t.size ≤ 40) (ha : t.ag 2) (hw' : u.wf) (hs' : u.size ≤ 40) (ha' : u.ag 2) (h : eqB (evI t m) (evI u m) = true) : equivR m (lay 0 t) (lay 0 u) = true := by
  unfold equivR; rw [evOk_lay hm hw hs (A := 2) (by omega) h2 ha, evP_lay hw hs, evOk_lay hm hw' hs' (A := 2) (by omega) h2 ha', evP_lay hw' hs', h]; rfl
theorem textL_lay {t : Tm} (hw : t.wf) (hs : t.size ≤ 40) : textL (lay 0 t) = str (txt t) := by unfold textL; rw [lay_formOk hw hs, if_pos rfl, termOfL_lay hw hs]
/-- an answer: a new row of numbers, its form told -/
def IntsF (w : World) (l : List Int) (e : Ending) (w' : World) : Prop := ∃ a c, e = .returned (.slice a l.length c) ∧ Iv w.heap.size w'.heap.size w' (.slice a l.length c) l ∧ Below w.heap.size w w'
theorem IntsF.of_ans {w w' : World} {l : List Int} {e : Ending} (h : IntsAns w l e w') : IntsF w l e w' := by
  obtain ⟨v, rfl, ho, hb⟩ := h
  obtain ⟨a, c, rfl⟩ := ho.form
  exact ⟨a, c, rfl, ho.read, hb⟩

set_option maxRecDepth 100000 in
set_option maxHeartbeats 64000000 in
theorem walk_FnKnows (v0 : Value) (len : Nat) (w : World) (h0 : InBytes w v0 len) :
    Calls Tryz.prog 3 #[v0] w fun e w' => e = .returned (.bool true) ∧ Below w.heap.size w w' := by
  obtain ⟨a0, cap0, rfl, hlc, hcm, -⟩ := id h0
  unfold maxLen at hcm
  by_cases hbig : 1048576 < len
  · clear h0
    go_enter Tryz.func3, Tryz.ntmps3
    go_wp2
    go_ret
    exact ⟨rfl, Below.refl _ _⟩
  have hcode := h0.code (by omega)
  have KM := Lib.hid (makeModel_any w (.slice a0 len cap0) 0 7 (by decide) (by decide) hcode)
  have KF := Lib.hid (fun W (h : Below w.heap.size w W) => makeF_any W (.slice a0 len cap0) 40 6 (by decide) (by decide) (by decide) (hcode.below h (Nat.le_refl _)))
  clear h0 hcode
  go_enter Tryz.func3, Tryz.ntmps3
  go_wp2_with fail
  refine KM.out.mono ?_
  rintro e w1 ⟨vm, m, rfl, hmo, ⟨hmd, hn7, ha2, hf8⟩, hb1⟩
  clear KM hf8
  obtain ⟨fa, fc, ba, bc, e1⟩ := hmo.read.form
  subst e1
  have XO := Lib.hid hmo.read
  have HMD := Lib.hid hmd
  have HA2 := Lib.hid ha2
  have B1 := Lib.hid hb1
  clear hmo hmd ha2 hb1
  go_wp2_with fail
  have A2 := Lib.hid (Mcell.new (w := w1) (T := 26) (b := w1.heap.size) (fv := .slice fa m.facts.length fc) (bv := .slice ba m.blocks.length bc) (n := m.actual) rfl)
  have hb2 : Below w1.heap.size w1 (w1.alloc (.cells #[.slice fa m.facts.length fc, .slice ba m.blocks.length bc, .int .i64 m.actual] 26)) := by go_grown
  generalize w1.alloc (.cells #[.slice fa m.facts.length fc, .slice ba m.blocks.length bc, .int .i64 m.actual] 26) = w2 at *
  have B2 : Hid (Below w.heap.size w w2) := Lib.hid (B1.out.trans (hb2.mono B1.out.size))
  have XO := Lib.hid ((XO.out.keeps (Keeps.of_all hb2)).wide (Nat.le_refl _) hb2.size)
  clear hb2 B1
  refine (KF.out _ B2.out).mono ?_
  rintro e w3 ⟨vf, f, rfl, hof, ⟨t, rfl, hw, ha, hz⟩, hb3⟩
  have hnf := Ns.of_own hof
  obtain ⟨af, cf, rfl, -⟩ := hnf.parts
  have F3 := Lib.hid hnf
  have A3 := Lib.hid (A2.out.below hb3)
  have XO := Lib.hid ((XO.out.keeps (Keeps.of_all hb3)).wide (Nat.le_refl _) hb3.size)
  have B3 : Hid (Below w.heap.size w w3) := Lib.hid (B2.out.trans (hb3.mono B2.out.size))
  clear hof hnf hb3 A2 B2 KF
  have hz : t.size ≤ 11 := hz
  have hn16 : m.facts.length ≤ 16 := by omega
  have wk : (Tm.know 5 0 t).wf := ⟨.inl rfl, by decide, by decide, hw⟩
  have ak : (Tm.know 5 0 t).ag 2 := ⟨fun _ => by decide, ha⟩
  have wkk : (Tm.know 5 0 (.know 5 0 t)).wf := ⟨.inl rfl, by decide, by decide, wk⟩
  have akk : (Tm.know 5 0 (.know 5 0 t)).ag 2 := ⟨fun _ => by decide, ak⟩
  have wn : (Tm.deny (.know 5 0 t)).wf := wk
  have an : (Tm.deny (.know 5 0 t)).ag 2 := ak
  have wkn : (Tm.know 5 0 (.deny (.know 5 0 t))).wf := ⟨.inl rfl, by decide, by decide, wn⟩
  have akn : (Tm.know 5 0 (.deny (.know 5 0 t))).ag 2 := ⟨fun _ => by decide, an⟩
  have wwh : (Tm.know 6 0 t).wf := ⟨.inr (.inl rfl), by decide, by decide, hw⟩
  have awh : (Tm.know 6 0 t).ag 2 := ⟨fun _ => by decide, ha⟩
  have wng : (Tm.deny t).wf := hw
  have ang : (Tm.deny t).ag 2 := ha
  have wkf : (Tm.know 5 0 (.deny t)).wf := ⟨.inl rfl, by decide, by decide, wng⟩
  have akf : (Tm.know 5 0 (.deny t)).ag 2 := ⟨fun _ => by decide, ang⟩
  have Kk := Lib.hid (known_lay hw (by omega))
  have Kkk := Lib.hid (known_lay wk (by simp only [Tm.size]; omega))
  have Kn := Lib.hid (negate_lay wk (by simp only [Tm.size]; omega))
  have Kkn := Lib.hid (known_lay wn (by simp only [Tm.size]; omega))
  have Kng := Lib.hid (negate_lay hw (by omega))
  have Kkf := Lib.hid (known_lay wng (by simp only [Tm.size]; omega))
  have Kfm := Lib.hid (fun u W (h : Ns W u (lay 0 t)) => implFormat_any (lay 0 t) u W h)
  rw [textL_lay hw (by omega)] at Kfm
  have Kpa := Lib.hid (parse_lay wwh (by simp only [Tm.size]; omega))
  rw [show str (txt (.know 6 0 t)) = (⟨#[87, 48]⟩ : ByteArray) ++ str (txt t) from (str_app [87, 48] _).symm] at Kpa
  have hsz : (str (txt t)).size ≤ 32 := by have := (txt_len t).2; rw [str_size]; omega
  have hadd := fun W => run_string_add_sum (P := Tryz.prog) W ⟨#[87, 48]⟩ (str (txt t)) (by have : (⟨#[87, 48]⟩ : ByteArray).size = 2 := rfl; omega)
  have Hwf := Lib.hid (where_lay HMD.out HA2.out hw (by omega) ha)
  have Hwk := Lib.hid (where_lay HMD.out HA2.out wk (by simp only [Tm.size]; omega) ak)
  have Hwn := Lib.hid (where_lay HMD.out HA2.out wn (by simp only [Tm.size]; omega) an)
  have Hwa := Lib.hid (where_lay HMD.out HA2.out wwh (by simp only [Tm.size]; omega) awh)
  have Hwg := Lib.hid (where_lay HMD.out HA2.out wng (by simp only [Tm.size]; omega) ang)
  have Hwp := Lib.hid (where_lay HMD.out HA2.out wkf (by simp only [Tm.size]; omega) akf)
  have He1 : Hid (equivR m (lay 0 (.know 5 0 t)) (lay 0 (.know 5 0 (.know 5 0 t))) = true) := Lib.hid (equiv_lay HMD.out HA2.out wk (by simp only [Tm.size]; omega) ak wkk (by simp only [Tm.size]; omega) akk (know_know hn16 0 (evI t m)))
  have He2 : Hid (equivR m (lay 0 (.deny (.know 5 0 t))) (lay 0 (.know 5 0 (.deny (.know 5 0 t)))) = true) := Lib.hid (equiv_lay HMD.out HA2.out wn (by simp only [Tm.size]; omega) an wkn (by simp only [Tm.size]; omega) akn (not_known hn16 0 (evI t m)))
  have c1 : (lst (evI (.know 6 0 t) m) 16).length = (lst (evI (.know 5 0 t) m) 16).length + (lst (evI (.know 5 0 (.deny t)) m) 16).length := count_whether hn16 0 t
  have c2 : (lst (evI (.know 5 0 t) m) 16).length + (lst (evI (.deny (.know 5 0 t)) m) 16).length = m.facts.length := count_deny hn16 (fun i h => evI_in _ m i hn16 h)
  have c3 : (lst (evI t m) 16).length + (lst (evI (.deny t) m) 16).length = m.facts.length := count_deny hn16 (fun i h => evI_in _ m i hn16 h)
  have HSUB : Hid (∀ j, j < (nums (lst (evI (.know 5 0 t) m) 16)).length → hasB (nums (lst (evI t m) 16)) ((nums (lst (evI (.know 5 0 t) m) 16)).getD j 0) = true) := Lib.hid (fun j hj => by
    rw [nums_len] at hj
    have hm : (lst (evI (.know 5 0 t) m) 16).getD j 0 ∈ lst (evI (.know 5 0 t) m) 16 := by rw [List.getD_eq_getElem?_getD, List.getElem?_eq_getElem hj]; exact List.getElem_mem _
    obtain ⟨h1, h2⟩ := mem_lst.1 hm
    rw [getD_nums hj]
    exact decide_eq_true (mem_nums.2 ⟨_, mem_lst.2 ⟨h1, know_true hn16 h2⟩, rfl⟩))
  have hl1 : (lst (evI (.know 5 0 t) m) 16).length ≤ 16 := lst_len _ _
  have hl2 : (lst (evI (.know 5 0 (.deny t)) m) 16).length ≤ 16 := lst_len _ _
  have hl3 : (lst (evI t m) 16).length ≤ 16 := lst_len _ _
  rw [← nums_len, ← nums_len, ← nums_len] at c1
  rw [← nums_len, ← nums_len] at c2 c3
  rw [← nums_len] at hl1 hl2 hl3
  clear hw ha hz wk ak wkk akk wn an wkn akn wwh awh wng ang wkf akf HA2 hn7
  generalize str (txt t) = S at *
  generalize nums (lst (evI (.know 6 0 t) m) 16) = La at *
  generalize nums (lst (evI (.know 5 0 (.deny t)) m) 16) = Lp at *
  generalize nums (lst (evI (.deny (.know 5 0 t)) m) 16) = Ln at *
  generalize nums (lst (evI (.know 5 0 t) m) 16) = Lk at *
  generalize nums (lst (evI (.deny t) m) 16) = Lg at *
  generalize nums (lst (evI t m) 16) = Lf at *
  generalize lay 0 (.know 5 0 (.deny (.know 5 0 t))) = xkn at *
  generalize lay 0 (.know 5 0 (.know 5 0 t)) = xkk at *
  generalize lay 0 (.deny (.know 5 0 t)) = xn at *
  generalize lay 0 (.know 5 0 (.deny t)) = xkf at *
  generalize lay 0 (.know 5 0 t) = xk at *
  generalize lay 0 (.know 6 0 t) = xa at *
  generalize lay 0 (.deny t) = xg at *
  generalize lay 0 t = xf at *
  go_wp2_with fail
  refine (Kk.out _ _ F3.out).mono ?_
  rintro e w4 ⟨ak, ck, rfl, hn4, hb4⟩
  have Fk4 := Lib.hid hn4
  clear hn4
  have F4 := Lib.hid (F3.out.below hb4 (Nat.le_refl _))
  have A4 := Lib.hid (A3.out.below hb4)
  have B4 : Hid (Below w.heap.size w w4) := Lib.hid (B3.out.trans (hb4.mono B3.out.size))
  have XO := Lib.hid ((XO.out.keeps (Keeps.of_all hb4)).wide (Nat.le_refl _) hb4.size)
  clear F3 A3 B3 hb4
  go_wp2_with fail
  refine (Kkk.out _ _ Fk4.out).mono ?_
  rintro e w5 ⟨akk, ckk, rfl, hn5, hb5⟩
  have Fkk5 := Lib.hid hn5
  clear hn5
  have Fk5 := Lib.hid (Fk4.out.below hb5 (Nat.le_refl _))
  have F5 := Lib.hid (F4.out.below hb5 (Nat.le_refl _))
  have A5 := Lib.hid (A4.out.below hb5)
  have B5 : Hid (Below w.heap.size w w5) := Lib.hid (B4.out.trans (hb5.mono B4.out.size))
  have XO := Lib.hid ((XO.out.keeps (Keeps.of_all hb5)).wide (Nat.le_refl _) hb5.size)
  clear Fk4 F4 A4 B4 hb5
  go_wp2_with fail
  refine (Kn.out _ _ Fk5.out).mono ?_
  rintro e w6 ⟨an, cn, rfl, hn6, hb6⟩
  have Fn6 := Lib.hid hn6
  clear hn6
  have Fkk6 := Lib.hid (Fkk5.out.below hb6 (Nat.le_refl _))
  have Fk6 := Lib.hid (Fk5.out.below hb6 (Nat.le_refl _))
  have F6 := Lib.hid (F5.out.below hb6 (Nat.le_refl _))
  have A6 := Lib.hid (A5.out.below hb6)
  have B6 : Hid (Below w.heap.size w w6) := Lib.hid (B5.out.trans (hb6.mono B5.out.size))
  have XO := Lib.hid ((XO.out.keeps (Keeps.of_all hb6)).wide (Nat.le_refl _) hb6.size)
  clear Fkk5 Fk5 F5 A5 B5 hb6
  go_wp2_with fail
  refine (Kkn.out _ _ Fn6.out).mono ?_
  rintro e w7 ⟨akn, ckn, rfl, hn7, hb7⟩
  have Fkn7 := Lib.hid hn7
  clear hn7
  have Fn7 := Lib.hid (Fn6.out.below hb7 (Nat.le_refl _))
  have Fkk7 := Lib.hid (Fkk6.out.below hb7 (Nat.le_refl _))
  have Fk7 := Lib.hid (Fk6.out.below hb7 (Nat.le_refl _))
  have F7 := Lib.hid (F6.out.below hb7 (Nat.le_refl _))
  have A7 := Lib.hid (A6.out.below hb7)
  have B7 : Hid (Below w.heap.size w w7) := Lib.hid (B6.out.trans (hb7.mono B6.out.size))
  have XO := Lib.hid ((XO.out.keeps (Keeps.of_all hb7)).wide (Nat.le_refl _) hb7.size)
  clear Fn6 Fkk6 Fk6 F6 A6 B6 hb7
  go_wp2_with fail
  refine (Kfm.out _ _ F7.out).mono ?_
  rintro e w8 ⟨rfl, hb8⟩
  have Fkn8 := Lib.hid (Fkn7.out.below hb8 (Nat.le_refl _))
  have Fn8 := Lib.hid (Fn7.out.below hb8 (Nat.le_refl _))
  have Fkk8 := Lib.hid (Fkk7.out.below hb8 (Nat.le_refl _))
  have Fk8 := Lib.hid (Fk7.out.below hb8 (Nat.le_refl _))
  have F8 := Lib.hid (F7.out.below hb8 (Nat.le_refl _))
  have A8 := Lib.hid (A7.out.below hb8)
  have B8 : Hid (Below w.heap.size w w8) := Lib.hid (B7.out.trans (hb8.mono B7.out.size))
  have XO := Lib.hid ((XO.out.keeps (Keeps.of_all hb8)).wide (Nat.le_refl _) hb8.size)
  clear Fkn7 Fn7 Fkk7 Fk7 F7 A7 B7 hb8
  go_wp2_with fail
  refine (Kpa.out _).mono ?_
  rintro e w9 ⟨aa, ca, rfl, hn9, hb9⟩
  have Fa9 := Lib.hid hn9
  clear hn9
  have Fkn9 := Lib.hid (Fkn8.out.below hb9 (Nat.le_refl _))
  have Fn9 := Lib.hid (Fn8.out.below hb9 (Nat.le_refl _))
  have Fkk9 := Lib.hid (Fkk8.out.below hb9 (Nat.le_refl _))
  have Fk9 := Lib.hid (Fk8.out.below hb9 (Nat.le_refl _))
  have F9 := Lib.hid (F8.out.below hb9 (Nat.le_refl _))
  have A9 := Lib.hid (A8.out.below hb9)
  have B9 : Hid (Below w.heap.size w w9) := Lib.hid (B8.out.trans (hb9.mono B8.out.size))
  have XO := Lib.hid ((XO.out.keeps (Keeps.of_all hb9)).wide (Nat.le_refl _) hb9.size)
  clear Fkn8 Fn8 Fkk8 Fk8 F8 A8 B8 hb9
  go_wp2_with fail
  refine (Kng.out _ _ F9.out).mono ?_
  rintro e w10 ⟨ag, cg, rfl, hn10, hb10⟩
  have Fg10 := Lib.hid hn10
  clear hn10
  have Fa10 := Lib.hid (Fa9.out.below hb10 (Nat.le_refl _))
  have Fkn10 := Lib.hid (Fkn9.out.below hb10 (Nat.le_refl _))
  have Fn10 := Lib.hid (Fn9.out.below hb10 (Nat.le_refl _))
  have Fkk10 := Lib.hid (Fkk9.out.below hb10 (Nat.le_refl _))
  have Fk10 := Lib.hid (Fk9.out.below hb10 (Nat.le_refl _))
  have F10 := Lib.hid (F9.out.below hb10 (Nat.le_refl _))
  have A10 := Lib.hid (A9.out.below hb10)
  have B10 : Hid (Below w.heap.size w w10) := Lib.hid (B9.out.trans (hb10.mono B9.out.size))
  have XO := Lib.hid ((XO.out.keeps (Keeps.of_all hb10)).wide (Nat.le_refl _) hb10.size)
  clear Fa9 Fkn9 Fn9 Fkk9 Fk9 F9 A9 B9 hb10
  go_wp2_with fail
  refine (Kkf.out _ _ Fg10.out).mono ?_
  rintro e w11 ⟨akf, ckf, rfl, hn11, hb11⟩
  have Fkf11 := Lib.hid hn11
  clear hn11
  have Fg11 := Lib.hid (Fg10.out.below hb11 (Nat.le_refl _))
  have Fa11 := Lib.hid (Fa10.out.below hb11 (Nat.le_refl _))
  have Fkn11 := Lib.hid (Fkn10.out.below hb11 (Nat.le_refl _))
  have Fn11 := Lib.hid (Fn10.out.below hb11 (Nat.le_refl _))
  have Fkk11 := Lib.hid (Fkk10.out.below hb11 (Nat.le_refl _))
  have Fk11 := Lib.hid (Fk10.out.below hb11 (Nat.le_refl _))
  have F11 := Lib.hid (F10.out.below hb11 (Nat.le_refl _))
  have A11 := Lib.hid (A10.out.below hb11)
  have B11 : Hid (Below w.heap.size w w11) := Lib.hid (B10.out.trans (hb11.mono B10.out.size))
  have XO := Lib.hid ((XO.out.keeps (Keeps.of_all hb11)).wide (Nat.le_refl _) hb11.size)
  clear Fg10 Fa10 Fkn10 Fn10 Fkk10 Fk10 F10 A10 B10 hb11
  obtain ⟨x0, x1, x2, x3, x4, x5⟩ := A11.out
  go_wp2_with fail
  clear x0 x1 x2 x3 x4 x5
  have KO := Lib.hid (implOk_m _ _ _ m w11 XO.out (Nat.le_refl _))
  rw [HMD.out] at KO
  refine KO.out.mono ?_
  rintro e w12 ⟨rfl, hb12⟩
  clear KO
  have Fkf12 := Lib.hid (Fkf11.out.below hb12 (Nat.le_refl _))
  have Fg12 := Lib.hid (Fg11.out.below hb12 (Nat.le_refl _))
  have Fa12 := Lib.hid (Fa11.out.below hb12 (Nat.le_refl _))
  have Fkn12 := Lib.hid (Fkn11.out.below hb12 (Nat.le_refl _))
  have Fn12 := Lib.hid (Fn11.out.below hb12 (Nat.le_refl _))
  have Fkk12 := Lib.hid (Fkk11.out.below hb12 (Nat.le_refl _))
  have Fk12 := Lib.hid (Fk11.out.below hb12 (Nat.le_refl _))
  have F12 := Lib.hid (F11.out.below hb12 (Nat.le_refl _))
  have A12 := Lib.hid (A11.out.below hb12)
  have B12 : Hid (Below w.heap.size w w12) := Lib.hid (B11.out.trans (hb12.mono B11.out.size))
  have XO := Lib.hid ((XO.out.keeps (Keeps.of_all hb12)).wide (Nat.le_refl _) hb12.size)
  clear Fkf11 Fg11 Fa11 Fkn11 Fn11 Fkk11 Fk11 F11 A11 B11 hb12
  obtain ⟨x0, x1, x2, x3, x4, x5⟩ := A12.out
  go_wp2_with fail
  clear x0 x1 x2 x3 x4 x5
  have KW := Lib.hid ((implWhere_any _ _ _ _ m _ w12 XO.out (Nat.le_refl _) F12.out).mono fun e w' h => IntsF.of_ans h)
  rw [Hwf.out] at KW
  refine KW.out.mono ?_
  rintro e w13 ⟨awf, cwf, rfl, hn13, hb13⟩
  have Wf13 := Lib.hid hn13
  clear KW hn13
  have Fkf13 := Lib.hid (Fkf12.out.below hb13 (Nat.le_refl _))
  have Fg13 := Lib.hid (Fg12.out.below hb13 (Nat.le_refl _))
  have Fa13 := Lib.hid (Fa12.out.below hb13 (Nat.le_refl _))
  have Fkn13 := Lib.hid (Fkn12.out.below hb13 (Nat.le_refl _))
  have Fn13 := Lib.hid (Fn12.out.below hb13 (Nat.le_refl _))
  have Fkk13 := Lib.hid (Fkk12.out.below hb13 (Nat.le_refl _))
  have Fk13 := Lib.hid (Fk12.out.below hb13 (Nat.le_refl _))
  have F13 := Lib.hid (F12.out.below hb13 (Nat.le_refl _))
  have A13 := Lib.hid (A12.out.below hb13)
  have B13 : Hid (Below w.heap.size w w13) := Lib.hid (B12.out.trans (hb13.mono B12.out.size))
  have XO := Lib.hid ((XO.out.keeps (Keeps.of_all hb13)).wide (Nat.le_refl _) hb13.size)
  clear Fkf12 Fg12 Fa12 Fkn12 Fn12 Fkk12 Fk12 F12 A12 B12 hb13
  obtain ⟨x0, x1, x2, x3, x4, x5⟩ := A13.out
  go_wp2_with fail
  clear x0 x1 x2 x3 x4 x5
  have KW := Lib.hid ((implWhere_any _ _ _ _ m _ w13 XO.out (Nat.le_refl _) Fk13.out).mono fun e w' h => IntsF.of_ans h)
  rw [Hwk.out] at KW
  refine KW.out.mono ?_
  rintro e w14 ⟨awk, cwk, rfl, hn14, hb14⟩
  have Wk14 := Lib.hid hn14
  clear KW hn14
  have Wf14 := Lib.hid (Wf13.out.keeps (Keeps.of_all hb14))
  have Fkf14 := Lib.hid (Fkf13.out.below hb14 (Nat.le_refl _))
  have Fg14 := Lib.hid (Fg13.out.below hb14 (Nat.le_refl _))
  have Fa14 := Lib.hid (Fa13.out.below hb14 (Nat.le_refl _))
  have Fkn14 := Lib.hid (Fkn13.out.below hb14 (Nat.le_refl _))
  have Fn14 := Lib.hid (Fn13.out.below hb14 (Nat.le_refl _))
  have Fkk14 := Lib.hid (Fkk13.out.below hb14 (Nat.le_refl _))
  have Fk14 := Lib.hid (Fk13.out.below hb14 (Nat.le_refl _))
  have F14 := Lib.hid (F13.out.below hb14 (Nat.le_refl _))
  have A14 := Lib.hid (A13.out.below hb14)
  have B14 : Hid (Below w.heap.size w w14) := Lib.hid (B13.out.trans (hb14.mono B13.out.size))
  have XO := Lib.hid ((XO.out.keeps (Keeps.of_all hb14)).wide (Nat.le_refl _) hb14.size)
  clear Wf13 Fkf13 Fg13 Fa13 Fkn13 Fn13 Fkk13 Fk13 F13 A13 B13 hb14
  go_wp2
  go_loop [106] (fun iv => ∃ k : Nat, k ≤ Lk.length ∧ iv = .int .i64 k) (fun iv => Lk.length - (intOf iv).toNat)
  case atStart => exact ⟨0, Nat.zero_le _, rfl⟩
  case round =>
    obtain ⟨k, hk, rfl⟩ := hrel
    by_cases hlt : k < Lk.length
    · obtain ⟨ra, rc, er, r1, r2, r3⟩ := Wk14.out.parts
      cases er
      obtain ⟨rb, ro, rfl, -, -, -, hcell⟩ := r3 k hlt
      have KH := Lib.hid (lawHas_any _ _ _ Lf (Lk.getD k 0) w14 Wf14.out)
      rw [HSUB.out k hlt] at KH
      clear r3
      unfold maxLen at r2
      generalize Lk.getD k 0 = y at *
      go_wp2_with fail
      refine KH.out.mono ?_
      rintro e wq ⟨rfl, rfl⟩
      go_wp2
      go_round
      case rel => exact ⟨k + 1, by omega, by go_num⟩
      case measure => simp [intOf]; omega
    · obtain rfl : k = Lk.length := by omega
      obtain ⟨x0, x1, x2, x3, x4, x5⟩ := A14.out
      go_wp2_with fail
      clear x0 x1 x2 x3 x4 x5
      have KW := Lib.hid ((implWhere_any _ _ _ _ m _ w14 XO.out (Nat.le_refl _) Fk14.out).mono fun e w' h => IntsF.of_ans h)
      rw [Hwk.out] at KW
      refine KW.out.mono ?_
      rintro e w15 ⟨awy, cwy, rfl, hn15, hb15⟩
      have Wy15 := Lib.hid hn15
      clear KW hn15
      have Wk15 := Lib.hid (Wk14.out.keeps (Keeps.of_all hb15))
      have Wf15 := Lib.hid (Wf14.out.keeps (Keeps.of_all hb15))
      have Fkf15 := Lib.hid (Fkf14.out.below hb15 (Nat.le_refl _))
      have Fg15 := Lib.hid (Fg14.out.below hb15 (Nat.le_refl _))
      have Fa15 := Lib.hid (Fa14.out.below hb15 (Nat.le_refl _))
      have Fkn15 := Lib.hid (Fkn14.out.below hb15 (Nat.le_refl _))
      have Fn15 := Lib.hid (Fn14.out.below hb15 (Nat.le_refl _))
      have Fkk15 := Lib.hid (Fkk14.out.below hb15 (Nat.le_refl _))
      have Fk15 := Lib.hid (Fk14.out.below hb15 (Nat.le_refl _))
      have F15 := Lib.hid (F14.out.below hb15 (Nat.le_refl _))
      have A15 := Lib.hid (A14.out.below hb15)
      have B15 : Hid (Below w.heap.size w w15) := Lib.hid (B14.out.trans (hb15.mono B14.out.size))
      have XO := Lib.hid ((XO.out.keeps (Keeps.of_all hb15)).wide (Nat.le_refl _) hb15.size)
      clear Wk14 Wf14 Fkf14 Fg14 Fa14 Fkn14 Fn14 Fkk14 Fk14 F14 A14 B14 hb15
      obtain ⟨x0, x1, x2, x3, x4, x5⟩ := A15.out
      go_wp2_with fail
      clear x0 x1 x2 x3 x4 x5
      have KW := Lib.hid ((implWhere_any _ _ _ _ m _ w15 XO.out (Nat.le_refl _) Fkf15.out).mono fun e w' h => IntsF.of_ans h)
      rw [Hwp.out] at KW
      refine KW.out.mono ?_
      rintro e w16 ⟨awp, cwp, rfl, hn16, hb16⟩
      have Wp16 := Lib.hid hn16
      clear KW hn16
      have Wy16 := Lib.hid (Wy15.out.keeps (Keeps.of_all hb16))
      have Wk16 := Lib.hid (Wk15.out.keeps (Keeps.of_all hb16))
      have Wf16 := Lib.hid (Wf15.out.keeps (Keeps.of_all hb16))
      have Fkf16 := Lib.hid (Fkf15.out.below hb16 (Nat.le_refl _))
      have Fg16 := Lib.hid (Fg15.out.below hb16 (Nat.le_refl _))
      have Fa16 := Lib.hid (Fa15.out.below hb16 (Nat.le_refl _))
      have Fkn16 := Lib.hid (Fkn15.out.below hb16 (Nat.le_refl _))
      have Fn16 := Lib.hid (Fn15.out.below hb16 (Nat.le_refl _))
      have Fkk16 := Lib.hid (Fkk15.out.below hb16 (Nat.le_refl _))
      have Fk16 := Lib.hid (Fk15.out.below hb16 (Nat.le_refl _))
      have F16 := Lib.hid (F15.out.below hb16 (Nat.le_refl _))
      have A16 := Lib.hid (A15.out.below hb16)
      have B16 : Hid (Below w.heap.size w w16) := Lib.hid (B15.out.trans (hb16.mono B15.out.size))
      have XO := Lib.hid ((XO.out.keeps (Keeps.of_all hb16)).wide (Nat.le_refl _) hb16.size)
      clear Wy15 Wk15 Wf15 Fkf15 Fg15 Fa15 Fkn15 Fn15 Fkk15 Fk15 F15 A15 B15 hb16
      obtain ⟨x0, x1, x2, x3, x4, x5⟩ := A16.out
      go_wp2
      clear x0 x1 x2 x3 x4 x5
      have HRG : Hid (∀ W, Below w16.heap.size w16 W → W.rangeAt w1.heap.size 0 [.slice fa m.facts.length fc, .slice ba m.blocks.length bc, .int .i64 m.actual]) := Lib.hid (fun W h => (A16.out.below h).range)
      have HC0 : Hid (∀ W, Below w16.heap.size w16 W → W.cell? ⟨w1.heap.size, 0, none⟩ = some (.slice fa m.facts.length fc)) := Lib.hid (fun W h => (A16.out.below h).1)
      have HU : Tryz.prog.underlying 26 = some _ := Tryz.underlying26
      have KE1 := Lib.hid (fun W (h : Below w16.heap.size w16 W) => implEquiv_any _ _ _ _ _ m _ _ W (XO.out.keeps (Keeps.of_all h)) h.size (Fk16.out.below h (Nat.le_refl _)) (Fkk16.out.below h (Nat.le_refl _)))
      have KE2 := Lib.hid (fun W (h : Below w16.heap.size w16 W) => implEquiv_any _ _ _ _ _ m _ _ W (XO.out.keeps (Keeps.of_all h)) h.size (Fn16.out.below h (Nat.le_refl _)) (Fkn16.out.below h (Nat.le_refl _)))
      rw [He1.out] at KE1
      rw [He2.out] at KE2
      have KWa := Lib.hid (fun W (h : Below w16.heap.size w16 W) => (implWhere_any _ _ _ _ m _ W (XO.out.keeps (Keeps.of_all h)) h.size (Fa16.out.below h (Nat.le_refl _))).mono fun e w' h => IntsF.of_ans h)
      rw [Hwa.out] at KWa
      have KWn := Lib.hid (fun W (h : Below w16.heap.size w16 W) => (implWhere_any _ _ _ _ m _ W (XO.out.keeps (Keeps.of_all h)) h.size (Fn16.out.below h (Nat.le_refl _))).mono fun e w' h => IntsF.of_ans h)
      rw [Hwn.out] at KWn
      have KWg := Lib.hid (fun W (h : Below w16.heap.size w16 W) => (implWhere_any _ _ _ _ m _ W (XO.out.keeps (Keeps.of_all h)) h.size (Fg16.out.below h (Nat.le_refl _))).mono fun e w' h => IntsF.of_ans h)
      rw [Hwg.out] at KWg
      have HBW := Lib.hid B16.out
      have hla : ((La.length : Nat) : Int) = (Lk.length : Int) + (Lp.length : Int) := by omega
      have hln : (Lk.length : Int) + ((Ln.length : Nat) : Int) = (m.facts.length : Int) := by omega
      have hlg : (Lf.length : Int) + ((Lg.length : Nat) : Int) = (m.facts.length : Int) := by omega
      have s1 : IntKind.i64.wrap ((Lk.length : Int) + (Lp.length : Int)) = (Lk.length : Int) + (Lp.length : Int) := IntWalk.i64_in _ (by omega)
      have s2 : IntKind.i64.wrap ((Lk.length : Int) + (Ln.length : Int)) = (m.facts.length : Int) := by rw [hln]; exact IntWalk.i64_in _ (by omega)
      have s3 : IntKind.i64.wrap ((Lf.length : Int) + (Lg.length : Int)) = (m.facts.length : Int) := by rw [hlg]; exact IntWalk.i64_in _ (by omega)
      have S1 := Lib.hid s1
      have S2 := Lib.hid s2
      have S3 := Lib.hid s3
      have HLA := Lib.hid hla
      clear s1 s2 s3 hla hln hlg c1 c2 c3
      clear Wp16 Wy16 Wk16 Wf16 Fkf16 Fg16 Fa16 Fkn16 Fn16 Fkk16 Fk16 F16 A16 B16 XO HSUB Hwf Hwk Hwn Hwa Hwg Hwp He1 He2 hl1 hl2 hl3
      refine regionL (fun W => Below w16.heap.size w16 W) [] (by kernel_rfl) (Below.refl _ _).drew (fun hHeld => ?_)
      have t0 : Below w16.heap.size w16 w16.drew := hHeld
      refine takeA (i := 0) (v := .agg #[.slice fa m.facts.length fc, .slice ba m.blocks.length bc, .int .i64 m.actual]) 121 rfl rfl (by kernel_rfl) (by kernel_rfl) (by kernel_rfl) (by kernel_rfl) (fun _ _ _ h => h) (yieldsIf_load_mid (by rfl) 26 _ rfl w1.heap.size 0 rfl [.slice fa m.facts.length fc, .slice ba m.blocks.length bc, .int .i64 m.actual] _ HRG.out HU rfl Tryz.sizeMd) hHeld ?_
      simp only [Act.put, List.setIfInBounds_toArray, List.set_cons_zero, List.set_cons_succ]
      refine takeA (i := 1) (v := (.slice ak xk.length ck)) 122 rfl rfl (by kernel_rfl) (by kernel_rfl) (by kernel_rfl) (by kernel_rfl) (fun _ _ _ h => h) (Or.inl ⟨by rfl, by intro W hSw; go_simp⟩) hHeld ?_
      simp only [Act.put, List.setIfInBounds_toArray, List.set_cons_zero, List.set_cons_succ]
      refine takeA (i := 2) (v := (.slice akk xkk.length ckk)) 123 rfl rfl (by kernel_rfl) (by kernel_rfl) (by kernel_rfl) (by kernel_rfl) (fun _ _ _ h => h) (Or.inl ⟨by rfl, by intro W hSw; go_simp⟩) hHeld ?_
      simp only [Act.put, List.setIfInBounds_toArray, List.set_cons_zero, List.set_cons_succ]
      refine onlyL (i := 3) (by kernel_rfl) rfl (by rfl) (fun K hK => ?_)
      go_simp
      refine (KE1.out _ t0).mono ?_
      rintro e v1 ⟨rfl, hb⟩
      have t1 : Below w16.heap.size w16 v1 := t0.trans (hb.mono t0.size)
      clear hb hHeld
      refine hK.out _ _ (fun _ => t1) (fun hHeld => ?_)
      have hHeld := hHeld (by decide)
      clear hK K
      try simp only [Act.put, List.setIfInBounds_toArray, List.set_cons_zero, List.set_cons_succ]
      refine takeA (i := 4) (v := (.bool true)) 125 rfl rfl (by kernel_rfl) (by kernel_rfl) (by kernel_rfl) (by kernel_rfl) (fun _ _ _ h => h) (Or.inl ⟨by rfl, by intro W hSw; go_simp⟩) hHeld ?_
      simp only [Act.put, List.setIfInBounds_toArray, List.set_cons_zero, List.set_cons_succ]
      refine takeA (i := 5) (v := .agg #[.slice fa m.facts.length fc, .slice ba m.blocks.length bc, .int .i64 m.actual]) 126 rfl rfl (by kernel_rfl) (by kernel_rfl) (by kernel_rfl) (by kernel_rfl) (fun _ _ _ h => h) (yieldsIf_load_mid (by rfl) 26 _ rfl w1.heap.size 0 rfl [.slice fa m.facts.length fc, .slice ba m.blocks.length bc, .int .i64 m.actual] _ HRG.out HU rfl Tryz.sizeMd) hHeld ?_
      simp only [Act.put, List.setIfInBounds_toArray, List.set_cons_zero, List.set_cons_succ]
      refine takeA (i := 6) (v := (.slice an xn.length cn)) 127 rfl rfl (by kernel_rfl) (by kernel_rfl) (by kernel_rfl) (by kernel_rfl) (fun _ _ _ h => h) (Or.inl ⟨by rfl, by intro W hSw; go_simp⟩) hHeld ?_
      simp only [Act.put, List.setIfInBounds_toArray, List.set_cons_zero, List.set_cons_succ]
      refine takeA (i := 7) (v := (.slice akn xkn.length ckn)) 128 rfl rfl (by kernel_rfl) (by kernel_rfl) (by kernel_rfl) (by kernel_rfl) (fun _ _ _ h => h) (Or.inl ⟨by rfl, by intro W hSw; go_simp⟩) hHeld ?_
      simp only [Act.put, List.setIfInBounds_toArray, List.set_cons_zero, List.set_cons_succ]
      refine onlyL (i := 8) (by kernel_rfl) rfl (by rfl) (fun K hK => ?_)
      go_simp
      refine (KE2.out _ t1).mono ?_
      rintro e v2 ⟨rfl, hb⟩
      have t2 : Below w16.heap.size w16 v2 := t1.trans (hb.mono t1.size)
      clear hb hHeld
      refine hK.out _ _ (fun _ => t2) (fun hHeld => ?_)
      have hHeld := hHeld (by decide)
      clear hK K
      try simp only [Act.put, List.setIfInBounds_toArray, List.set_cons_zero, List.set_cons_succ]
      refine takeA (i := 9) (v := (.bool true)) 130 rfl rfl (by kernel_rfl) (by kernel_rfl) (by kernel_rfl) (by kernel_rfl) (fun _ _ _ h => h) (Or.inl ⟨by rfl, by intro W hSw; go_simp⟩) hHeld ?_
      simp only [Act.put, List.setIfInBounds_toArray, List.set_cons_zero, List.set_cons_succ]
      refine takeA (i := 10) (v := (.bool true)) 131 rfl rfl (by kernel_rfl) (by kernel_rfl) (by kernel_rfl) (by kernel_rfl) (fun _ _ _ h => h) (Or.inl ⟨by rfl, by intro W hSw; go_simp⟩) hHeld ?_
      simp only [Act.put, List.setIfInBounds_toArray, List.set_cons_zero, List.set_cons_succ]
      refine takeA (i := 11) (v := .agg #[.slice fa m.facts.length fc, .slice ba m.blocks.length bc, .int .i64 m.actual]) 132 rfl rfl (by kernel_rfl) (by kernel_rfl) (by kernel_rfl) (by kernel_rfl) (fun _ _ _ h => h) (yieldsIf_load_mid (by rfl) 26 _ rfl w1.heap.size 0 rfl [.slice fa m.facts.length fc, .slice ba m.blocks.length bc, .int .i64 m.actual] _ HRG.out HU rfl Tryz.sizeMd) hHeld ?_
      simp only [Act.put, List.setIfInBounds_toArray, List.set_cons_zero, List.set_cons_succ]
      refine takeA (i := 12) (v := (.slice aa xa.length ca)) 133 rfl rfl (by kernel_rfl) (by kernel_rfl) (by kernel_rfl) (by kernel_rfl) (fun _ _ _ h => h) (Or.inl ⟨by rfl, by intro W hSw; go_simp⟩) hHeld ?_
      simp only [Act.put, List.setIfInBounds_toArray, List.set_cons_zero, List.set_cons_succ]
      refine takeA (i := 15) (v := (.slice awy Lk.length cwy)) 136 rfl rfl (by kernel_rfl) (by kernel_rfl) (by kernel_rfl) (by kernel_rfl) (fun _ _ _ h => h) (Or.inl ⟨by rfl, by intro W hSw; go_simp⟩) hHeld ?_
      simp only [Act.put, List.setIfInBounds_toArray, List.set_cons_zero, List.set_cons_succ]
      refine takeA (i := 16) (v := (.int .i64 Lk.length)) 137 rfl rfl (by kernel_rfl) (by kernel_rfl) (by kernel_rfl) (by kernel_rfl) (fun _ _ _ h => h) (Or.inl ⟨by rfl, by intro W hSw; go_simp⟩) hHeld ?_
      simp only [Act.put, List.setIfInBounds_toArray, List.set_cons_zero, List.set_cons_succ]
      refine takeA (i := 17) (v := (.slice awp Lp.length cwp)) 138 rfl rfl (by kernel_rfl) (by kernel_rfl) (by kernel_rfl) (by kernel_rfl) (fun _ _ _ h => h) (Or.inl ⟨by rfl, by intro W hSw; go_simp⟩) hHeld ?_
      simp only [Act.put, List.setIfInBounds_toArray, List.set_cons_zero, List.set_cons_succ]
      refine takeA (i := 18) (v := (.int .i64 Lp.length)) 139 rfl rfl (by kernel_rfl) (by kernel_rfl) (by kernel_rfl) (by kernel_rfl) (fun _ _ _ h => h) (Or.inl ⟨by rfl, by intro W hSw; go_simp⟩) hHeld ?_
      simp only [Act.put, List.setIfInBounds_toArray, List.set_cons_zero, List.set_cons_succ]
      refine takeA (i := 19) (v := (.int .i64 ((Lk.length : Int) + (Lp.length : Int)))) 140 rfl rfl (by kernel_rfl) (by kernel_rfl) (by kernel_rfl) (by kernel_rfl) (fun _ _ _ h => h) (Or.inl ⟨by rfl, by intro W hSw; have s1 := S1.out; go_simp⟩) hHeld ?_
      simp only [Act.put, List.setIfInBounds_toArray, List.set_cons_zero, List.set_cons_succ]
      refine onlyL (i := 13) (by kernel_rfl) rfl (by rfl) (fun K hK => ?_)
      go_simp
      refine (KWa.out _ t2).mono ?_
      rintro e v3 ⟨awa, cwa, rfl, -, hb⟩
      have t3 : Below w16.heap.size w16 v3 := t2.trans (hb.mono t2.size)
      clear hb hHeld
      refine hK.out _ _ (fun _ => t3) (fun hHeld => ?_)
      have hHeld := hHeld (by decide)
      clear hK K
      try simp only [Act.put, List.setIfInBounds_toArray, List.set_cons_zero, List.set_cons_succ]
      refine takeA (i := 14) (v := (.int .i64 La.length)) 135 rfl rfl (by kernel_rfl) (by kernel_rfl) (by kernel_rfl) (by kernel_rfl) (fun _ _ _ h => h) (Or.inl ⟨by rfl, by intro W hSw; go_simp⟩) hHeld ?_
      simp only [Act.put, List.setIfInBounds_toArray, List.set_cons_zero, List.set_cons_succ]
      refine takeA (i := 20) (v := (.bool true)) 141 rfl rfl (by kernel_rfl) (by kernel_rfl) (by kernel_rfl) (by kernel_rfl) (fun _ _ _ h => h) (Or.inl ⟨by rfl, by intro W hSw; have hla := HLA.out; go_simp⟩) hHeld ?_
      simp only [Act.put, List.setIfInBounds_toArray, List.set_cons_zero, List.set_cons_succ]
      refine takeA (i := 21) (v := (.bool true)) 142 rfl rfl (by kernel_rfl) (by kernel_rfl) (by kernel_rfl) (by kernel_rfl) (fun _ _ _ h => h) (Or.inl ⟨by rfl, by intro W hSw; go_simp⟩) hHeld ?_
      simp only [Act.put, List.setIfInBounds_toArray, List.set_cons_zero, List.set_cons_succ]
      refine takeA (i := 22) (v := (.bool true)) 143 rfl rfl (by kernel_rfl) (by kernel_rfl) (by kernel_rfl) (by kernel_rfl) (fun _ _ _ h => h) (Or.inl ⟨by rfl, by intro W hSw; go_simp⟩) hHeld ?_
      simp only [Act.put, List.setIfInBounds_toArray, List.set_cons_zero, List.set_cons_succ]
      refine takeA (i := 23) (v := (.slice awy Lk.length cwy)) 144 rfl rfl (by kernel_rfl) (by kernel_rfl) (by kernel_rfl) (by kernel_rfl) (fun _ _ _ h => h) (Or.inl ⟨by rfl, by intro W hSw; go_simp⟩) hHeld ?_
      simp only [Act.put, List.setIfInBounds_toArray, List.set_cons_zero, List.set_cons_succ]
      refine takeA (i := 24) (v := (.int .i64 Lk.length)) 145 rfl rfl (by kernel_rfl) (by kernel_rfl) (by kernel_rfl) (by kernel_rfl) (fun _ _ _ h => h) (Or.inl ⟨by rfl, by intro W hSw; go_simp⟩) hHeld ?_
      simp only [Act.put, List.setIfInBounds_toArray, List.set_cons_zero, List.set_cons_succ]
      refine takeA (i := 25) (v := .agg #[.slice fa m.facts.length fc, .slice ba m.blocks.length bc, .int .i64 m.actual]) 146 rfl rfl (by kernel_rfl) (by kernel_rfl) (by kernel_rfl) (by kernel_rfl) (fun _ _ _ h => h) (yieldsIf_load_mid (by rfl) 26 _ rfl w1.heap.size 0 rfl [.slice fa m.facts.length fc, .slice ba m.blocks.length bc, .int .i64 m.actual] _ HRG.out HU rfl Tryz.sizeMd) hHeld ?_
      simp only [Act.put, List.setIfInBounds_toArray, List.set_cons_zero, List.set_cons_succ]
      refine takeA (i := 26) (v := (.slice an xn.length cn)) 147 rfl rfl (by kernel_rfl) (by kernel_rfl) (by kernel_rfl) (by kernel_rfl) (fun _ _ _ h => h) (Or.inl ⟨by rfl, by intro W hSw; go_simp⟩) hHeld ?_
      simp only [Act.put, List.setIfInBounds_toArray, List.set_cons_zero, List.set_cons_succ]
      refine takeA (i := 30) (v := (.pointer (some ⟨w1.heap.size, 0, none⟩))) 151 rfl rfl (by kernel_rfl) (by kernel_rfl) (by kernel_rfl) (by kernel_rfl) (fun _ _ _ h => h) (Or.inl ⟨by rfl, by intro W hSw; go_simp⟩) hHeld ?_
      simp only [Act.put, List.setIfInBounds_toArray, List.set_cons_zero, List.set_cons_succ]
      refine takeA (i := 31) (v := (.slice fa m.facts.length fc)) 152 rfl rfl (by kernel_rfl) (by kernel_rfl) (by kernel_rfl) (by kernel_rfl) (fun _ _ _ h => h) (Or.inl ⟨by rfl, by intro W hSw; have c0 := HC0.out _ hSw; go_simp⟩) hHeld ?_
      simp only [Act.put, List.setIfInBounds_toArray, List.set_cons_zero, List.set_cons_succ]
      refine takeA (i := 32) (v := (.int .i64 m.facts.length)) 153 rfl rfl (by kernel_rfl) (by kernel_rfl) (by kernel_rfl) (by kernel_rfl) (fun _ _ _ h => h) (Or.inl ⟨by rfl, by intro W hSw; go_simp⟩) hHeld ?_
      simp only [Act.put, List.setIfInBounds_toArray, List.set_cons_zero, List.set_cons_succ]
      refine onlyL (i := 27) (by kernel_rfl) rfl (by rfl) (fun K hK => ?_)
      go_simp
      refine (KWn.out _ t3).mono ?_
      rintro e v4 ⟨awn, cwn, rfl, -, hb⟩
      have t4 : Below w16.heap.size w16 v4 := t3.trans (hb.mono t3.size)
      clear hb hHeld
      refine hK.out _ _ (fun _ => t4) (fun hHeld => ?_)
      have hHeld := hHeld (by decide)
      clear hK K
      try simp only [Act.put, List.setIfInBounds_toArray, List.set_cons_zero, List.set_cons_succ]
      refine takeA (i := 28) (v := (.int .i64 Ln.length)) 149 rfl rfl (by kernel_rfl) (by kernel_rfl) (by kernel_rfl) (by kernel_rfl) (fun _ _ _ h => h) (Or.inl ⟨by rfl, by intro W hSw; go_simp⟩) hHeld ?_
      simp only [Act.put, List.setIfInBounds_toArray, List.set_cons_zero, List.set_cons_succ]
      refine takeA (i := 29) (v := (.int .i64 m.facts.length)) 150 rfl rfl (by kernel_rfl) (by kernel_rfl) (by kernel_rfl) (by kernel_rfl) (fun _ _ _ h => h) (Or.inl ⟨by rfl, by intro W hSw; have s2 := S2.out; go_simp⟩) hHeld ?_
      simp only [Act.put, List.setIfInBounds_toArray, List.set_cons_zero, List.set_cons_succ]
      refine takeA (i := 33) (v := (.bool true)) 154 rfl rfl (by kernel_rfl) (by kernel_rfl) (by kernel_rfl) (by kernel_rfl) (fun _ _ _ h => h) (Or.inl ⟨by rfl, by intro W hSw; go_simp⟩) hHeld ?_
      simp only [Act.put, List.setIfInBounds_toArray, List.set_cons_zero, List.set_cons_succ]
      refine takeA (i := 34) (v := (.bool true)) 155 rfl rfl (by kernel_rfl) (by kernel_rfl) (by kernel_rfl) (by kernel_rfl) (fun _ _ _ h => h) (Or.inl ⟨by rfl, by intro W hSw; go_simp⟩) hHeld ?_
      simp only [Act.put, List.setIfInBounds_toArray, List.set_cons_zero, List.set_cons_succ]
      refine takeA (i := 35) (v := (.bool true)) 156 rfl rfl (by kernel_rfl) (by kernel_rfl) (by kernel_rfl) (by kernel_rfl) (fun _ _ _ h => h) (Or.inl ⟨by rfl, by intro W hSw; go_simp⟩) hHeld ?_
      simp only [Act.put, List.setIfInBounds_toArray, List.set_cons_zero, List.set_cons_succ]
      refine takeA (i := 36) (v := (.slice awf Lf.length cwf)) 157 rfl rfl (by kernel_rfl) (by kernel_rfl) (by kernel_rfl) (by kernel_rfl) (fun _ _ _ h => h) (Or.inl ⟨by rfl, by intro W hSw; go_simp⟩) hHeld ?_
      simp only [Act.put, List.setIfInBounds_toArray, List.set_cons_zero, List.set_cons_succ]
      refine takeA (i := 37) (v := (.int .i64 Lf.length)) 158 rfl rfl (by kernel_rfl) (by kernel_rfl) (by kernel_rfl) (by kernel_rfl) (fun _ _ _ h => h) (Or.inl ⟨by rfl, by intro W hSw; go_simp⟩) hHeld ?_
      simp only [Act.put, List.setIfInBounds_toArray, List.set_cons_zero, List.set_cons_succ]
      refine takeA (i := 38) (v := .agg #[.slice fa m.facts.length fc, .slice ba m.blocks.length bc, .int .i64 m.actual]) 159 rfl rfl (by kernel_rfl) (by kernel_rfl) (by kernel_rfl) (by kernel_rfl) (fun _ _ _ h => h) (yieldsIf_load_mid (by rfl) 26 _ rfl w1.heap.size 0 rfl [.slice fa m.facts.length fc, .slice ba m.blocks.length bc, .int .i64 m.actual] _ HRG.out HU rfl Tryz.sizeMd) hHeld ?_
      simp only [Act.put, List.setIfInBounds_toArray, List.set_cons_zero, List.set_cons_succ]
      refine takeA (i := 39) (v := (.slice ag xg.length cg)) 160 rfl rfl (by kernel_rfl) (by kernel_rfl) (by kernel_rfl) (by kernel_rfl) (fun _ _ _ h => h) (Or.inl ⟨by rfl, by intro W hSw; go_simp⟩) hHeld ?_
      simp only [Act.put, List.setIfInBounds_toArray, List.set_cons_zero, List.set_cons_succ]
      refine takeA (i := 43) (v := (.pointer (some ⟨w1.heap.size, 0, none⟩))) 164 rfl rfl (by kernel_rfl) (by kernel_rfl) (by kernel_rfl) (by kernel_rfl) (fun _ _ _ h => h) (Or.inl ⟨by rfl, by intro W hSw; go_simp⟩) hHeld ?_
      simp only [Act.put, List.setIfInBounds_toArray, List.set_cons_zero, List.set_cons_succ]
      refine takeA (i := 44) (v := (.slice fa m.facts.length fc)) 165 rfl rfl (by kernel_rfl) (by kernel_rfl) (by kernel_rfl) (by kernel_rfl) (fun _ _ _ h => h) (Or.inl ⟨by rfl, by intro W hSw; have c0 := HC0.out _ hSw; go_simp⟩) hHeld ?_
      simp only [Act.put, List.setIfInBounds_toArray, List.set_cons_zero, List.set_cons_succ]
      refine takeA (i := 45) (v := (.int .i64 m.facts.length)) 166 rfl rfl (by kernel_rfl) (by kernel_rfl) (by kernel_rfl) (by kernel_rfl) (fun _ _ _ h => h) (Or.inl ⟨by rfl, by intro W hSw; go_simp⟩) hHeld ?_
      simp only [Act.put, List.setIfInBounds_toArray, List.set_cons_zero, List.set_cons_succ]
      refine onlyL (i := 40) (by kernel_rfl) rfl (by rfl) (fun K hK => ?_)
      go_simp
      refine (KWg.out _ t4).mono ?_
      rintro e v5 ⟨awg2, cwg2, rfl, -, hb⟩
      have t5 : Below w16.heap.size w16 v5 := t4.trans (hb.mono t4.size)
      clear hb hHeld
      refine hK.out _ _ (fun _ => t5) (fun hHeld => ?_)
      have hHeld := hHeld (by decide)
      clear hK K
      try simp only [Act.put, List.setIfInBounds_toArray, List.set_cons_zero, List.set_cons_succ]
      refine takeA (i := 41) (v := (.int .i64 Lg.length)) 162 rfl rfl (by kernel_rfl) (by kernel_rfl) (by kernel_rfl) (by kernel_rfl) (fun _ _ _ h => h) (Or.inl ⟨by rfl, by intro W hSw; go_simp⟩) hHeld ?_
      simp only [Act.put, List.setIfInBounds_toArray, List.set_cons_zero, List.set_cons_succ]
      refine takeA (i := 42) (v := (.int .i64 m.facts.length)) 163 rfl rfl (by kernel_rfl) (by kernel_rfl) (by kernel_rfl) (by kernel_rfl) (fun _ _ _ h => h) (Or.inl ⟨by rfl, by intro W hSw; have s3 := S3.out; go_simp⟩) hHeld ?_
      simp only [Act.put, List.setIfInBounds_toArray, List.set_cons_zero, List.set_cons_succ]
      refine takeA (i := 46) (v := (.bool true)) 167 rfl rfl (by kernel_rfl) (by kernel_rfl) (by kernel_rfl) (by kernel_rfl) (fun _ _ _ h => h) (Or.inl ⟨by rfl, by intro W hSw; go_simp⟩) hHeld ?_
      simp only [Act.put, List.setIfInBounds_toArray, List.set_cons_zero, List.set_cons_succ]
      refine takeA (i := 47) (v := (.bool true)) 168 rfl rfl (by kernel_rfl) (by kernel_rfl) (by kernel_rfl) (by kernel_rfl) (fun _ _ _ h => h) (Or.inl ⟨by rfl, by intro W hSw; go_simp⟩) hHeld ?_
      simp only [Act.put, List.setIfInBounds_toArray, List.set_cons_zero, List.set_cons_succ]
      refine takeA (i := 48) (v := (.bool true)) 2 rfl rfl (by kernel_rfl) (by kernel_rfl) (by kernel_rfl) (by kernel_rfl) (fun _ _ _ h => h) (Or.inl ⟨by rfl, by intro W hSw; go_simp⟩) hHeld ?_
      simp only [Act.put, List.setIfInBounds_toArray, List.set_cons_zero, List.set_cons_succ]
      refine doneL (by kernel_rfl) ?_ _
      go_wp2
      go_ret
      exact ⟨rfl, HBW.out.trans (t5.mono HBW.out.size)⟩
end Go.Proofs.YtodjohdbngbpaaaGreat
