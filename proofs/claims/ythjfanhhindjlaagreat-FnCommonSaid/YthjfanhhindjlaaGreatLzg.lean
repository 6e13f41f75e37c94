/-
  The walk of the law FnCommon: it returns true and writes nothing that was there. No condition.
-/
import Derived.Test.YthjfanhhindjlaaGreatFcm
import Derived.Test.YthjfanhhindjlaaGreatKla
import Derived.Test.YthjfanhhindjlaaGreatIci
import Derived.Test.YthjfanhhindjlaaGreatTof
import Derived.Test.YthjfanhhindjlaaGreatTho
import Derived.Test.YthjfanhhindjlaaGreatZDrw
namespace Go.Proofs.YthjfanhhindjlaaGreat
open Go.RowKit Go.WideShapes
open Go Go.Deep
set_option linter.unusedSimpArgs false

/-- an answer: a new row of bools, its form told, and true -/
def BoolsF (w : World) (l : List Bool) (e : Ending) (w' : World) : Prop := ∃ b o c, e = .returned (.tuple #[.slice (some ⟨b, o, none⟩) l.length c, .bool true]) ∧ l.length ≤ c ∧ c ≤ maxLen ∧ (∀ W, Below w'.heap.size w' W → ∀ j, j < l.length → W.cell? ⟨b, o + j, none⟩ = some (.bool (l.getD j false))) ∧ Below w.heap.size w w'
theorem BoolsF.of_ans {w w' : World} {l : List Bool} {e : Ending} (h : BoolsAns2 w l true e w') (h0 : 0 < l.length) : BoolsF w l e w' := by
  obtain ⟨v, rfl, ho, hb⟩ := h
  obtain ⟨b, o, c, rfl, h1, h2, h3⟩ := ho.read.kept h0
  exact ⟨b, o, c, rfl, h1, h2, h3, hb⟩
/-- an answer: a new row of numbers, its form told -/
def IntsF2 (w : World) (n : Nat) (e : Ending) (w' : World) : Prop := ∃ a c, e = .returned (.slice a n c) ∧ Below w.heap.size w w'
theorem IntsF2.of_ans {w w' : World} {l : List Int} {e : Ending} (h : IntsAns w l e w') : IntsF2 w l.length e w' := by
  obtain ⟨v, rfl, ho, hb⟩ := h
  obtain ⟨a, c, rfl⟩ := ho.form
  exact ⟨a, c, rfl, hb⟩

theorem zA {α : Type _} (l : List α) (i : Nat) (a : α) : l.toArray.setIfInBounds i a = (l.set i a).toArray := by simp
theorem zB {α : Type _} {a b : α} {l : List α} : (a :: l).set 0 b = b :: l := rfl
theorem zC {α : Type _} {a b : α} {l : List α} {n : Nat} : (a :: l).set (n + 1) b = a :: l.set n b := rfl
theorem takeZ {P : Program} {ops : Array Oper} {Q : Exit → Act → World → Prop} {md : Region.Mode} {S : World → Prop} {L : List Nat} {i : Nat} {oi : Oper} {v : Value} {fuel : Nat} {listed : Array Bool} {a : Act} {w : World} (d : Nat) (hi : ops[i]? = some oi) (hd : oi.dst = some d)
    (hy : YieldsIf P ops S oi v a) (hS : S w) (h : wpAnyL P md ops Q S L fuel (listed.setIfInBounds i true) (a.put (some d) v) w)
    (hs : Region.noSelect ops = true := by kernel_rfl) (hf : Region.free md ops listed i = true := by kernel_rfl) (hr : (Region.ready md ops listed).contains i = true := by kernel_rfl)
    (hc : (chainB md ops (depOn md ops i) i && L.all (fun j => (depOn md ops i).contains j && j != i) && (depOn md ops i).all (fun j => !listed.getD j false)) = true := by kernel_rfl)
    (hQ : ∀ c a w, Q (.panic c) (a.put oi.dst v) w → Q (.panic c) a w := by exact fun _ _ _ h => h) : wpAnyL P md ops Q S L (fuel + 1) listed a w :=
  takeA d hi hd hs hf hr hc hQ hy hS h
set_option maxRecDepth 100000 in
set_option maxHeartbeats 64000000 in
theorem walk_FnCommon (v0 : Value) (len : Nat) (w : World) (h0 : InBytes w v0 len) :
    Calls Tryz.prog 4 #[v0] w fun e w' => e = .returned (.bool true) ∧ Below w.heap.size w w' := by
  obtain ⟨a0, cap0, rfl, hlc, hcm, -⟩ := id h0
  unfold maxLen at hcm
  by_cases hbig : 1048576 < len
  · clear h0
    go_enter Tryz.func4, Tryz.ntmps4
    go_wp2
    go_ret
    exact ⟨rfl, Below.refl _ _⟩
  have hcode := h0.code (by omega)
  have KM := Lib.hid (makeModel_any w (.slice a0 len cap0) 0 7 (by decide) (by decide) hcode)
  have KF := Lib.hid (fun W (h : Below w.heap.size w W) => makeF_any W (.slice a0 len cap0) 40 5 (by decide) (by decide) (by decide) (hcode.below h (Nat.le_refl _)))
  clear h0 hcode
  go_enter Tryz.func4, Tryz.ntmps4
  go_wp2_with fail
  refine KM.out.mono ?_
  rintro e w1 ⟨vm, m, rfl, hmo, ⟨hmd, hn7, ha2, hf8⟩, hb1⟩
  clear KM hf8
  obtain ⟨fa, fc, ba, bc, e1⟩ := hmo.read.form
  subst e1
  have XO := Lib.hid hmo.read
  have HMD := Lib.hid hmd
  have HA2 := Lib.hid ha2
  have B1 := Lib.hid hb1
  clear hmo hmd ha2 hb1
  go_wp2_with fail
  have A2 := Lib.hid (Mcell.new (w := w1) (T := 31) (b := w1.heap.size) (fv := .slice fa m.facts.length fc) (bv := .slice ba m.blocks.length bc) (n := m.actual) rfl)
  have hb2 : Below w1.heap.size w1 (w1.alloc (.cells #[.slice fa m.facts.length fc, .slice ba m.blocks.length bc, .int .i64 m.actual] 31)) := by go_grown
  generalize w1.alloc (.cells #[.slice fa m.facts.length fc, .slice ba m.blocks.length bc, .int .i64 m.actual] 31) = w2 at *
  have B2 : Hid (Below w.heap.size w w2) := Lib.hid (B1.out.trans (hb2.mono B1.out.size))
  have XO := Lib.hid ((XO.out.keeps (Keeps.of_all hb2)).wide (Nat.le_refl _) hb2.size)
  clear hb2 B1
  refine (KF.out _ B2.out).mono ?_
  rintro e w3 ⟨vf, f, rfl, hof, ⟨t, rfl, hw, ha, hz⟩, hb3⟩
  have hnf := Ns.of_own hof
  obtain ⟨af, cf, rfl, -⟩ := hnf.parts
  have F3 := Lib.hid hnf
  have A3 := Lib.hid (A2.out.below hb3)
  have XO := Lib.hid ((XO.out.keeps (Keeps.of_all hb3)).wide (Nat.le_refl _) hb3.size)
  have B3 : Hid (Below w.heap.size w w3) := Lib.hid (B2.out.trans (hb3.mono B2.out.size))
  clear hof hnf hb3 A2 B2 KF
  have hz : t.size ≤ 9 := hz
  have hn16 : m.facts.length ≤ 16 := by omega
  have h0n : 0 < m.facts.length := (mdOk_parts HMD.out).1
  have wc : (Tm.know 8 0 t).wf := ⟨.inr (.inr (.inr rfl)), by decide, by decide, hw⟩
  have ac : (Tm.know 8 0 t).ag 2 := ⟨fun h => (by rcases h with h | h <;> cases h), ha⟩
  have wj : (Tm.joint 4 t (.know 8 0 t)).wf := ⟨.inl rfl, hw, wc⟩
  have aj : (Tm.joint 4 t (.know 8 0 t)).ag 2 := ⟨ha, ac⟩
  have wd : (Tm.know 7 0 (.joint 4 t (.know 8 0 t))).wf := ⟨.inr (.inr (.inl rfl)), by decide, by decide, wj⟩
  have ad : (Tm.know 7 0 (.joint 4 t (.know 8 0 t))).ag 2 := ⟨fun h => (by rcases h with h | h <;> cases h), aj⟩
  have we : (Tm.know 7 0 t).wf := ⟨.inr (.inr (.inl rfl)), by decide, by decide, hw⟩
  have ae : (Tm.know 7 0 t).ag 2 := ⟨fun h => (by rcases h with h | h <;> cases h), ha⟩
  have wk0 : (Tm.know 5 0 t).wf := ⟨.inl rfl, by decide, by decide, hw⟩
  have ak0 : (Tm.know 5 0 t).ag 2 := ⟨fun _ => by decide, ha⟩
  have wk1 : (Tm.know 5 1 t).wf := ⟨.inl rfl, by decide, by decide, hw⟩
  have ak1 : (Tm.know 5 1 t).ag 2 := ⟨fun _ => by decide, ha⟩
  have wk : (Tm.joint 4 (.know 5 0 t) (.know 5 1 t)).wf := ⟨.inl rfl, wk0, wk1⟩
  have ak : (Tm.joint 4 (.know 5 0 t) (.know 5 1 t)).ag 2 := ⟨ak0, ak1⟩
  have Kfm := Lib.hid (fun u W (h : Ns W u (lay 0 t)) => implFormat_any (lay 0 t) u W h)
  rw [textL_lay hw (by omega)] at Kfm
  have Kpc := Lib.hid (parse_lay wc (by simp only [Tm.size]; omega))
  have Kpd := Lib.hid (parse_lay wd (by simp only [Tm.size]; omega))
  have Kpe := Lib.hid (parse_lay we (by simp only [Tm.size]; omega))
  have Kpk := Lib.hid (parse_lay wk (by simp only [Tm.size]; omega))
  rw [show str (txt (.know 8 0 t)) = (⟨#[67]⟩ : ByteArray) ++ str (txt t) from (str_app [67] _).symm] at Kpc
  rw [show str (txt (.know 7 0 (.joint 4 t (.know 8 0 t)))) = (((⟨#[69, 38]⟩ : ByteArray) ++ str (txt t)) ++ (⟨#[67]⟩ : ByteArray)) ++ str (txt t) by
    rw [show (⟨#[69, 38]⟩ : ByteArray) = str [69, 38] from rfl, show (⟨#[67]⟩ : ByteArray) = str [67] from rfl, str_app, str_app, str_app]
    congr 1
    show headT _ ++ (headT _ ++ txt t ++ (headT _ ++ txt t)) = _
    simp [headT, headB, letterI, Tm.op, Tm.num]
    decide] at Kpd
  rw [show str (txt (.know 7 0 t)) = (⟨#[69]⟩ : ByteArray) ++ str (txt t) from (str_app [69] _).symm] at Kpe
  rw [show str (txt (.joint 4 (.know 5 0 t) (.know 5 1 t))) = (((⟨#[38, 75, 48]⟩ : ByteArray) ++ str (txt t)) ++ (⟨#[75, 49]⟩ : ByteArray)) ++ str (txt t) by
    rw [show (⟨#[38, 75, 48]⟩ : ByteArray) = str [38, 75, 48] from rfl, show (⟨#[75, 49]⟩ : ByteArray) = str [75, 49] from rfl, str_app, str_app, str_app]
    congr 1
    show headT _ ++ (headT _ ++ txt t) ++ (headT _ ++ txt t) = _
    simp [headT, headB, letterI, Tm.op, Tm.num]
    decide] at Kpk
  have hsz : (str (txt t)).size ≤ 32 := by have := (txt_len t).2; rw [str_size]; omega
  obtain ⟨hT1, hT2⟩ := truthA_lay HMD.out wc (by simp only [Tm.size]; omega) HA2.out ac
  have HTA := Lib.hid hT1
  have HTO := Lib.hid hT2
  have He1 : Hid (equivR m (lay 0 (.know 8 0 t)) (lay 0 (.know 7 0 (.joint 4 t (.know 8 0 t)))) = true) := Lib.hid (equiv_lay HMD.out HA2.out wc (by simp only [Tm.size]; omega) ac wd (by simp only [Tm.size]; omega) ad (fix_eq HMD.out t))
  have He2 : Hid (m.blocks.length = 2 → equivR m (lay 0 (.know 7 0 t)) (lay 0 (.joint 4 (.know 5 0 t) (.know 5 1 t))) = true) := Lib.hid (fun h => equiv_lay HMD.out HA2.out we (by simp only [Tm.size]; omega) ae wk (by simp only [Tm.size]; omega) ak (each_eq HMD.out h t))
  have Hsi := Lib.hid (silent_common HMD.out hw (by omega) HA2.out ha)
  have Hhc := Lib.hid (holds_lay HMD.out wc (by simp only [Tm.size]; omega) HA2.out ac)
  have Hhe := Lib.hid (holds_lay HMD.out we (by simp only [Tm.size]; omega) HA2.out ae)
  have Hwa := Lib.hid (who_all HMD.out hw (by omega) HA2.out ha)
  obtain ⟨-, -, -, -, -, -, p7, p8⟩ := mdOk_parts HMD.out
  obtain ⟨act, hact⟩ := Int.eq_ofNat_of_zero_le p7
  have hactn : act < m.facts.length := by omega
  have HTG : Hid (((List.range m.facts.length).map (evI (.know 8 0 t) m)).getD act false = evI (.know 8 0 t) m act) := Lib.hid (getD_rangeMap' hactn)
  have HTL : Hid (((List.range m.facts.length).map (evI (.know 8 0 t) m)).length = m.facts.length) := Lib.hid (by simp)
  rw [hact, Int.toNat_natCast] at Hsi Hhc Hhe Hwa
  have HACT := Lib.hid hact
  clear hact hw ha hz wc ac wj aj wd ad we ae wk0 ak0 wk1 ak1 wk ak HA2 hn7 hT1 hT2 p7 p8
  generalize str (txt t) = S at *
  generalize (List.range m.facts.length).map (evI (.know 8 0 t) m) = TL at *
  generalize evI (.know 8 0 t) m act = hc at *
  generalize evI (.know 7 0 t) m act = he at *
  generalize lay 0 (.know 7 0 (.joint 4 t (.know 8 0 t))) = xd at *
  generalize lay 0 (.joint 4 (.know 5 0 t) (.know 5 1 t)) = xk at *
  generalize lay 0 (.know 8 0 t) = xc at *
  generalize lay 0 (.know 7 0 t) = xe at *
  generalize lay 0 t = xf at *
  have hadd1 := fun W => run_string_add_sum (P := Tryz.prog) W ⟨#[67]⟩ S (by have : (⟨#[67]⟩ : ByteArray).size = 1 := rfl; omega)
  have hadd2 := fun W => run_string_add_sum (P := Tryz.prog) W ⟨#[69, 38]⟩ S (by have : (⟨#[69, 38]⟩ : ByteArray).size = 2 := rfl; omega)
  have hadd3 := fun W => run_string_add_sum (P := Tryz.prog) W ((⟨#[69, 38]⟩ : ByteArray) ++ S) ⟨#[67]⟩ (by have : (⟨#[67]⟩ : ByteArray).size = 1 := rfl; have : (⟨#[69, 38]⟩ : ByteArray).size = 2 := rfl; rw [ByteArray.size_append]; omega)
  have hadd4 := fun W => run_string_add_sum (P := Tryz.prog) W (((⟨#[69, 38]⟩ : ByteArray) ++ S) ++ ⟨#[67]⟩) S (by have : (⟨#[67]⟩ : ByteArray).size = 1 := rfl; have : (⟨#[69, 38]⟩ : ByteArray).size = 2 := rfl; rw [ByteArray.size_append, ByteArray.size_append]; omega)
  have hadd5 := fun W => run_string_add_sum (P := Tryz.prog) W ⟨#[69]⟩ S (by have : (⟨#[69]⟩ : ByteArray).size = 1 := rfl; omega)
  have hadd6 := fun W => run_string_add_sum (P := Tryz.prog) W ⟨#[38, 75, 48]⟩ S (by have : (⟨#[38, 75, 48]⟩ : ByteArray).size = 3 := rfl; omega)
  have hadd7 := fun W => run_string_add_sum (P := Tryz.prog) W ((⟨#[38, 75, 48]⟩ : ByteArray) ++ S) ⟨#[75, 49]⟩ (by have : (⟨#[38, 75, 48]⟩ : ByteArray).size = 3 := rfl; have : (⟨#[75, 49]⟩ : ByteArray).size = 2 := rfl; rw [ByteArray.size_append]; omega)
  have hadd8 := fun W => run_string_add_sum (P := Tryz.prog) W (((⟨#[38, 75, 48]⟩ : ByteArray) ++ S) ++ ⟨#[75, 49]⟩) S (by have : (⟨#[38, 75, 48]⟩ : ByteArray).size = 3 := rfl; have : (⟨#[75, 49]⟩ : ByteArray).size = 2 := rfl; rw [ByteArray.size_append, ByteArray.size_append]; omega)
  go_wp2_with fail
  refine (Kfm.out _ _ F3.out).mono ?_
  rintro e w4 ⟨rfl, hb4⟩
  have F4 := Lib.hid (F3.out.below hb4 (Nat.le_refl _))
  have A4 := Lib.hid (A3.out.below hb4)
  have B4 : Hid (Below w.heap.size w w4) := Lib.hid (B3.out.trans (hb4.mono B3.out.size))
  have XO := Lib.hid ((XO.out.keeps (Keeps.of_all hb4)).wide (Nat.le_refl _) hb4.size)
  clear F3 A3 B3 hb4
  go_wp2_with fail
  refine (Kpc.out _).mono ?_
  rintro e w5 ⟨ac, cc, rfl, hn5, hb5⟩
  have Fc5 := Lib.hid hn5
  clear hn5
  have F5 := Lib.hid (F4.out.below hb5 (Nat.le_refl _))
  have A5 := Lib.hid (A4.out.below hb5)
  have B5 : Hid (Below w.heap.size w w5) := Lib.hid (B4.out.trans (hb5.mono B4.out.size))
  have XO := Lib.hid ((XO.out.keeps (Keeps.of_all hb5)).wide (Nat.le_refl _) hb5.size)
  clear F4 A4 B4 hb5
  go_wp2_with fail
  refine (Kpd.out _).mono ?_
  rintro e w6 ⟨ad, cd, rfl, hn6, hb6⟩
  have Fd6 := Lib.hid hn6
  clear hn6
  have Fc6 := Lib.hid (Fc5.out.below hb6 (Nat.le_refl _))
  have F6 := Lib.hid (F5.out.below hb6 (Nat.le_refl _))
  have A6 := Lib.hid (A5.out.below hb6)
  have B6 : Hid (Below w.heap.size w w6) := Lib.hid (B5.out.trans (hb6.mono B5.out.size))
  have XO := Lib.hid ((XO.out.keeps (Keeps.of_all hb6)).wide (Nat.le_refl _) hb6.size)
  clear Fc5 F5 A5 B5 hb6
  go_wp2_with fail
  refine (Kpe.out _).mono ?_
  rintro e w7 ⟨ae, ce, rfl, hn7, hb7⟩
  have Fe7 := Lib.hid hn7
  clear hn7
  have Fd7 := Lib.hid (Fd6.out.below hb7 (Nat.le_refl _))
  have Fc7 := Lib.hid (Fc6.out.below hb7 (Nat.le_refl _))
  have F7 := Lib.hid (F6.out.below hb7 (Nat.le_refl _))
  have A7 := Lib.hid (A6.out.below hb7)
  have B7 : Hid (Below w.heap.size w w7) := Lib.hid (B6.out.trans (hb7.mono B6.out.size))
  have XO := Lib.hid ((XO.out.keeps (Keeps.of_all hb7)).wide (Nat.le_refl _) hb7.size)
  clear Fd6 Fc6 F6 A6 B6 hb7
  go_wp2_with fail
  refine (Kpk.out _).mono ?_
  rintro e w8 ⟨ak, ck, rfl, hn8, hb8⟩
  have Fk8 := Lib.hid hn8
  clear hn8
  have Fe8 := Lib.hid (Fe7.out.below hb8 (Nat.le_refl _))
  have Fd8 := Lib.hid (Fd7.out.below hb8 (Nat.le_refl _))
  have Fc8 := Lib.hid (Fc7.out.below hb8 (Nat.le_refl _))
  have F8 := Lib.hid (F7.out.below hb8 (Nat.le_refl _))
  have A8 := Lib.hid (A7.out.below hb8)
  have B8 : Hid (Below w.heap.size w w8) := Lib.hid (B7.out.trans (hb8.mono B7.out.size))
  have XO := Lib.hid ((XO.out.keeps (Keeps.of_all hb8)).wide (Nat.le_refl _) hb8.size)
  clear Fe7 Fd7 Fc7 F7 A7 B7 hb8
  clear hadd1 hadd2 hadd3 hadd4 hadd5 hadd6 hadd7 hadd8 Kfm Kpc Kpd Kpe Kpk
  obtain ⟨x0, x1, x2, x3, x4, x5⟩ := A8.out
  go_wp2_with fail
  clear x0 x1 x2 x3 x4 x5
  have KT := (implTruthOf_any _ _ _ _ m _ w8 XO.out (Nat.le_refl _) Fc8.out)
  rw [HTA.out, HTO.out] at KT
  have KT := Lib.hid (KT.mono fun e w' h => BoolsF.of_ans h (by rw [HTL.out]; exact h0n))
  refine KT.out.mono ?_
  rintro e w9 ⟨tb, t0, tcp, rfl, tq1, tq2, hn9, hb9⟩
  rw [HTL.out] at tq1 ⊢
  unfold maxLen at tq2
  have TK9 := Lib.hid hn9
  clear KT hn9
  have Fk9 := Lib.hid (Fk8.out.below hb9 (Nat.le_refl _))
  have Fe9 := Lib.hid (Fe8.out.below hb9 (Nat.le_refl _))
  have Fd9 := Lib.hid (Fd8.out.below hb9 (Nat.le_refl _))
  have Fc9 := Lib.hid (Fc8.out.below hb9 (Nat.le_refl _))
  have F9 := Lib.hid (F8.out.below hb9 (Nat.le_refl _))
  have A9 := Lib.hid (A8.out.below hb9)
  have B9 : Hid (Below w.heap.size w w9) := Lib.hid (B8.out.trans (hb9.mono B8.out.size))
  have XO := Lib.hid ((XO.out.keeps (Keeps.of_all hb9)).wide (Nat.le_refl _) hb9.size)
  clear Fk8 Fe8 Fd8 Fc8 F8 A8 B8 hb9
  obtain ⟨x0, x1, x2, x3, x4, x5⟩ := A9.out
  go_wp2
  clear x0 x1 x2 x3 x4 x5
  have HRG : Hid (∀ W, Below w9.heap.size w9 W → W.rangeAt w1.heap.size 0 [.slice fa m.facts.length fc, .slice ba m.blocks.length bc, .int .i64 m.actual]) := Lib.hid (fun W h => (A9.out.below h).range)
  have HU : Tryz.prog.underlying 31 = some _ := Tryz.underlying31
  have KE1 := Lib.hid (fun W (h : Below w9.heap.size w9 W) => implEquiv_any _ _ _ _ _ m _ _ W (XO.out.keeps (Keeps.of_all h)) h.size (Fc9.out.below h (Nat.le_refl _)) (Fd9.out.below h (Nat.le_refl _)))
  rw [He1.out] at KE1
  have KCO := Lib.hid (fun W (h : Below w9.heap.size w9 W) => implCommon_any _ _ _ _ m _ W (XO.out.keeps (Keeps.of_all h)) h.size (F9.out.below h (Nat.le_refl _)))
  rw [Hsi.out] at KCO
  have KHC := Lib.hid (fun W (h : Below w9.heap.size w9 W) => implHolds_any _ _ _ _ m _ W (XO.out.keeps (Keeps.of_all h)) h.size (Fc9.out.below h (Nat.le_refl _)))
  rw [Hhc.out] at KHC
  have HC0 : Hid (∀ W, Below w9.heap.size w9 W → W.cell? ⟨w1.heap.size, 0, none⟩ = some (.slice fa m.facts.length fc)) := Lib.hid (fun W h => (A9.out.below h).1)
  have g1 : decide ((m.facts.length : Int) = (m.facts.length : Int)) = true := decide_eq_true rfl
  have G1 := Lib.hid g1
  clear g1
  refine regionL (fun W => Below w9.heap.size w9 W) [] (by kernel_rfl) (Below.refl _ _).drew (fun hHeld => ?_)
  have t0' : Below w9.heap.size w9 w9.drew := hHeld
  have t00 := t0'
  refine takeZ (i := 0) (v := .bool true) 62 rfl rfl (Or.inl ⟨by rfl, by intro W hSw; go_simp⟩) hHeld ?_
  simp only [Act.put, zA, zB, zC]
  refine takeZ (i := 1) (v := .bool false) 63 rfl rfl (Or.inl ⟨by rfl, by intro W hSw; go_simp⟩) hHeld ?_
  simp only [Act.put, zA, zB, zC]
  refine takeZ (i := 2) (v := .bool false) 64 rfl rfl (Or.inl ⟨by rfl, by intro W hSw; go_simp⟩) hHeld ?_
  simp only [Act.put, zA, zB, zC]
  refine takeZ (i := 3) (v := .bool true) 65 rfl rfl (Or.inl ⟨by rfl, by intro W hSw; go_simp⟩) hHeld ?_
  simp only [Act.put, zA, zB, zC]
  refine takeZ (i := 4) (v := .bool false) 66 rfl rfl (Or.inl ⟨by rfl, by intro W hSw; go_simp⟩) hHeld ?_
  simp only [Act.put, zA, zB, zC]
  refine takeZ (i := 5) (v := .bool false) 67 rfl rfl (Or.inl ⟨by rfl, by intro W hSw; go_simp⟩) hHeld ?_
  simp only [Act.put, zA, zB, zC]
  refine takeZ (i := 6) (v := .bool false) 68 rfl rfl (Or.inl ⟨by rfl, by intro W hSw; go_simp⟩) hHeld ?_
  simp only [Act.put, zA, zB, zC]
  refine takeZ (i := 7) (v := .bool true) 69 rfl rfl (Or.inl ⟨by rfl, by intro W hSw; go_simp⟩) hHeld ?_
  simp only [Act.put, zA, zB, zC]
  refine takeZ (i := 8) (v := .bool false) 70 rfl rfl (Or.inl ⟨by rfl, by intro W hSw; go_simp⟩) hHeld ?_
  simp only [Act.put, zA, zB, zC]
  refine takeZ (i := 9) (v := .bool false) 71 rfl rfl (Or.inl ⟨by rfl, by intro W hSw; go_simp⟩) hHeld ?_
  simp only [Act.put, zA, zB, zC]
  refine takeZ (i := 10) (v := .bool false) 72 rfl rfl (Or.inl ⟨by rfl, by intro W hSw; go_simp⟩) hHeld ?_
  simp only [Act.put, zA, zB, zC]
  refine takeZ (i := 11) (v := .bool true) 73 rfl rfl (Or.inl ⟨by rfl, by intro W hSw; go_simp⟩) hHeld ?_
  simp only [Act.put, zA, zB, zC]
  refine takeZ (i := 12) (v := .bool false) 74 rfl rfl (Or.inl ⟨by rfl, by intro W hSw; go_simp⟩) hHeld ?_
  simp only [Act.put, zA, zB, zC]
  refine takeZ (i := 13) (v := .bool false) 75 rfl rfl (Or.inl ⟨by rfl, by intro W hSw; go_simp⟩) hHeld ?_
  simp only [Act.put, zA, zB, zC]
  refine takeZ (i := 14) (v := .bool false) 76 rfl rfl (Or.inl ⟨by rfl, by intro W hSw; go_simp⟩) hHeld ?_
  simp only [Act.put, zA, zB, zC]
  refine takeZ (i := 15) (v := .bool true) 77 rfl rfl (Or.inl ⟨by rfl, by intro W hSw; go_simp⟩) hHeld ?_
  simp only [Act.put, zA, zB, zC]
  refine takeZ (i := 16) (v := .bool false) 78 rfl rfl (Or.inl ⟨by rfl, by intro W hSw; go_simp⟩) hHeld ?_
  simp only [Act.put, zA, zB, zC]
  refine takeZ (i := 17) (v := .bool false) 79 rfl rfl (Or.inl ⟨by rfl, by intro W hSw; go_simp⟩) hHeld ?_
  simp only [Act.put, zA, zB, zC]
  refine takeZ (i := 18) (v := .bool false) 80 rfl rfl (Or.inl ⟨by rfl, by intro W hSw; go_simp⟩) hHeld ?_
  simp only [Act.put, zA, zB, zC]
  refine takeZ (i := 19) (v := (.slice (some ⟨tb, t0, none⟩) m.facts.length tcp)) 81 rfl rfl (Or.inl ⟨by rfl, by intro W hSw; go_simp⟩) hHeld ?_
  simp only [Act.put, zA, zB, zC]
  refine takeZ (i := 21) (v := (.pointer (some ⟨w1.heap.size, 0, none⟩))) 83 rfl rfl (Or.inl ⟨by rfl, by intro W hSw; go_simp⟩) hHeld ?_
  simp only [Act.put, zA, zB, zC]
  refine takeZ (i := 20) (v := (.int .i64 m.facts.length)) 82 rfl rfl (Or.inl ⟨by rfl, by intro W hSw; go_simp⟩) hHeld ?_
  simp only [Act.put, zA, zB, zC]
  refine takeZ (i := 22) (v := (.slice fa m.facts.length fc)) 84 rfl rfl (Or.inl ⟨by rfl, by intro W hSw; have c0 := HC0.out _ hSw; go_simp⟩) hHeld ?_
  simp only [Act.put, zA, zB, zC]
  refine takeZ (i := 23) (v := (.int .i64 m.facts.length)) 85 rfl rfl (Or.inl ⟨by rfl, by intro W hSw; go_simp⟩) hHeld ?_
  simp only [Act.put, zA, zB, zC]
  refine takeZ (i := 24) (v := (.bool false)) 86 rfl rfl (Or.inl ⟨by rfl, by intro W hSw; go_simp⟩) hHeld ?_
  simp only [Act.put, zA, zB, zC]
  refine takeZ (i := 25) (v := (.bool false)) 87 rfl rfl (Or.inl ⟨by rfl, by intro W hSw; go_simp⟩) hHeld ?_
  simp only [Act.put, zA, zB, zC]
  refine takeZ (i := 26) (v := (.bool false)) 88 rfl rfl (Or.inl ⟨by rfl, by intro W hSw; go_simp⟩) hHeld ?_
  simp only [Act.put, zA, zB, zC]
  refine takeZ (i := 27) (v := .agg #[.slice fa m.facts.length fc, .slice ba m.blocks.length bc, .int .i64 m.actual]) 89 rfl rfl (yieldsIf_load_mid (by rfl) 31 _ rfl w1.heap.size 0 rfl [.slice fa m.facts.length fc, .slice ba m.blocks.length bc, .int .i64 m.actual] _ HRG.out HU rfl Tryz.sizeMd) hHeld ?_
  simp only [Act.put, zA, zB, zC]
  refine takeZ (i := 28) (v := (.slice ac xc.length cc)) 90 rfl rfl (Or.inl ⟨by rfl, by intro W hSw; go_simp⟩) hHeld ?_
  simp only [Act.put, zA, zB, zC]
  refine takeZ (i := 29) (v := (.slice ad xd.length cd)) 91 rfl rfl (Or.inl ⟨by rfl, by intro W hSw; go_simp⟩) hHeld ?_
  simp only [Act.put, zA, zB, zC]
  refine onlyL (i := 30) (by kernel_rfl) rfl (by rfl) (fun K hK => ?_)
  go_simp
  refine (KE1.out _ t00).mono ?_
  rintro e v1 ⟨rfl, hb⟩
  have s1 : Below w9.heap.size w9 v1 := t00.trans (hb.mono t00.size)
  clear hb hHeld
  refine hK.out _ _ (fun _ => s1) (fun hHeld => ?_)
  have hHeld := hHeld (by decide)
  clear hK K
  try simp only [Act.put, zA, zB, zC]
  refine takeZ (i := 31) (v := (.bool false)) 93 rfl rfl (Or.inl ⟨by rfl, by intro W hSw; go_simp⟩) hHeld ?_
  simp only [Act.put, zA, zB, zC]
  refine takeZ (i := 32) (v := (.bool false)) 94 rfl rfl (Or.inl ⟨by rfl, by intro W hSw; go_simp⟩) hHeld ?_
  simp only [Act.put, zA, zB, zC]
  refine takeZ (i := 33) (v := (.bool false)) 95 rfl rfl (Or.inl ⟨by rfl, by intro W hSw; go_simp⟩) hHeld ?_
  simp only [Act.put, zA, zB, zC]
  refine takeZ (i := 34) (v := .agg #[.slice fa m.facts.length fc, .slice ba m.blocks.length bc, .int .i64 m.actual]) 96 rfl rfl (yieldsIf_load_mid (by rfl) 31 _ rfl w1.heap.size 0 rfl [.slice fa m.facts.length fc, .slice ba m.blocks.length bc, .int .i64 m.actual] _ HRG.out HU rfl Tryz.sizeMd) hHeld ?_
  simp only [Act.put, zA, zB, zC]
  refine takeZ (i := 35) (v := (.slice af xf.length cf)) 97 rfl rfl (Or.inl ⟨by rfl, by intro W hSw; go_simp⟩) hHeld ?_
  simp only [Act.put, zA, zB, zC]
  refine takeZ (i := 37) (v := .agg #[.slice fa m.facts.length fc, .slice ba m.blocks.length bc, .int .i64 m.actual]) 99 rfl rfl (yieldsIf_load_mid (by rfl) 31 _ rfl w1.heap.size 0 rfl [.slice fa m.facts.length fc, .slice ba m.blocks.length bc, .int .i64 m.actual] _ HRG.out HU rfl Tryz.sizeMd) hHeld ?_
  simp only [Act.put, zA, zB, zC]
  refine takeZ (i := 38) (v := (.slice ac xc.length cc)) 100 rfl rfl (Or.inl ⟨by rfl, by intro W hSw; go_simp⟩) hHeld ?_
  simp only [Act.put, zA, zB, zC]
  refine onlyL (i := 36) (by kernel_rfl) rfl (by rfl) (fun K hK => ?_)
  go_simp
  refine (KCO.out _ s1).mono ?_
  rintro e v2 ⟨rfl, hb⟩
  have s2 : Below w9.heap.size w9 v2 := s1.trans (hb.mono s1.size)
  clear hb hHeld
  refine hK.out _ _ (fun _ => s2) (fun hHeld => ?_)
  have hHeld := hHeld (by decide)
  clear hK K
  try simp only [Act.put, zA, zB, zC]
  refine onlyL (i := 39) (by kernel_rfl) rfl (by rfl) (fun K hK => ?_)
  go_simp
  refine (KHC.out _ s2).mono ?_
  rintro e v3 ⟨rfl, hb⟩
  have s3 : Below w9.heap.size w9 v3 := s2.trans (hb.mono s2.size)
  clear hb hHeld
  refine hK.out _ _ (fun _ => s3) (fun hHeld => ?_)
  have hHeld := hHeld (by decide)
  clear hK K
  try simp only [Act.put, zA, zB, zC]
  refine takeZ (i := 40) (v := (.bool false)) 102 rfl rfl (Or.inl ⟨by rfl, by intro W hSw; cases hc <;> go_simp⟩) hHeld ?_
  simp only [Act.put, zA, zB, zC]
  refine takeZ (i := 41) (v := (.bool false)) 103 rfl rfl (Or.inl ⟨by rfl, by intro W hSw; go_simp⟩) hHeld ?_
  simp only [Act.put, zA, zB, zC]
  refine doneL (by kernel_rfl) ?_ _
  try simp only [List.getElem_toArray, List.getElem_cons_succ, List.getElem_cons_zero]
  clear KE1 KCO KHC HC0 HRG hHeld t0' t00 G1 s1 s2
  obtain ⟨w10, hw10⟩ : ∃ W : World, W = v3 := ⟨_, rfl⟩
  have hb10 : Below w9.heap.size w9 w10 := by rw [hw10]; exact s3
  rw [← hw10]
  clear hw10 s3
  have TK10 := Lib.hid (fun W (h : Below w10.heap.size w10 W) (j : Nat) (hj : j < TL.length) => TK9.out W (hb10.trans (h.mono hb10.size)) j hj)
  have Fk10 := Lib.hid (Fk9.out.below hb10 (Nat.le_refl _))
  have Fe10 := Lib.hid (Fe9.out.below hb10 (Nat.le_refl _))
  have Fd10 := Lib.hid (Fd9.out.below hb10 (Nat.le_refl _))
  have Fc10 := Lib.hid (Fc9.out.below hb10 (Nat.le_refl _))
  have F10 := Lib.hid (F9.out.below hb10 (Nat.le_refl _))
  have A10 := Lib.hid (A9.out.below hb10)
  have B10 : Hid (Below w.heap.size w w10) := Lib.hid (B9.out.trans (hb10.mono B9.out.size))
  have XO := Lib.hid ((XO.out.keeps (Keeps.of_all hb10)).wide (Nat.le_refl _) hb10.size)
  clear TK9 Fk9 Fe9 Fd9 Fc9 F9 A9 B9 hb10
  have hbc : (m.blocks.length : Int) = (m.blocks.length : Int) := rfl
  clear hbc
  obtain ⟨bn, hbn⟩ : ∃ bn, bn = m.blocks.length := ⟨_, rfl⟩
  have KE2 := Lib.hid (fun hh => (by have h := implEquiv_any _ _ _ _ _ m _ _ w10 XO.out (Nat.le_refl _) Fe10.out Fk10.out; rw [He2.out hh] at h; exact h : _))
  clear hbn bn
  obtain ⟨x0, x1, x2, x3, x4, x5⟩ := A10.out
  have xlt := A10.out.lt
  by_cases hb2 : m.blocks.length = 2
  · have g2 : decide ((m.blocks.length : Int) = 2) = true := decide_eq_true (by omega)
    have g3 : ((m.blocks.length : Int) == 2) = true := by rw [hb2]; rfl
    have HB2 := Lib.hid hb2
    clear hb2
    go_wp2_with fail
    clear x0 x1 x2 x3 x4 x5
    refine (KE2.out HB2.out).mono ?_
    rintro e w11 ⟨rfl, hb11⟩
    clear KE2 xlt g2 g3 HB2
    have TK11 := Lib.hid (fun W (h : Below w11.heap.size w11 W) (j : Nat) (hj : j < TL.length) => TK10.out W (hb11.trans (h.mono hb11.size)) j hj)
    have Fk11 := Lib.hid (Fk10.out.below hb11 (Nat.le_refl _))
    have Fe11 := Lib.hid (Fe10.out.below hb11 (Nat.le_refl _))
    have Fd11 := Lib.hid (Fd10.out.below hb11 (Nat.le_refl _))
    have Fc11 := Lib.hid (Fc10.out.below hb11 (Nat.le_refl _))
    have F11 := Lib.hid (F10.out.below hb11 (Nat.le_refl _))
    have A11 := Lib.hid (A10.out.below hb11)
    have B11 : Hid (Below w.heap.size w w11) := Lib.hid (B10.out.trans (hb11.mono B10.out.size))
    have XO := Lib.hid ((XO.out.keeps (Keeps.of_all hb11)).wide (Nat.le_refl _) hb11.size)
    clear TK10 Fk10 Fe10 Fd10 Fc10 F10 A10 B10 hb11
    obtain ⟨x0, x1, x2, x3, x4, x5⟩ := A11.out
    go_wp2_with fail
    clear x0 x1 x2 x3 x4 x5
    have KW := (implWho_any _ _ _ _ m _ w11 XO.out (Nat.le_refl _) F11.out).mono fun e w' h => IntsF2.of_ans h
    refine KW.mono ?_
    rintro e w12 ⟨aw, cw, rfl, hb12⟩
    clear KW
    have TK12 := Lib.hid (fun W (h : Below w12.heap.size w12 W) (j : Nat) (hj : j < TL.length) => TK11.out W (hb12.trans (h.mono hb12.size)) j hj)
    have Fk12 := Lib.hid (Fk11.out.below hb12 (Nat.le_refl _))
    have Fe12 := Lib.hid (Fe11.out.below hb12 (Nat.le_refl _))
    have Fd12 := Lib.hid (Fd11.out.below hb12 (Nat.le_refl _))
    have Fc12 := Lib.hid (Fc11.out.below hb12 (Nat.le_refl _))
    have F12 := Lib.hid (F11.out.below hb12 (Nat.le_refl _))
    have A12 := Lib.hid (A11.out.below hb12)
    have B12 : Hid (Below w.heap.size w w12) := Lib.hid (B11.out.trans (hb12.mono B11.out.size))
    have XO := Lib.hid ((XO.out.keeps (Keeps.of_all hb12)).wide (Nat.le_refl _) hb12.size)
    clear TK11 Fk11 Fe11 Fd11 Fc11 F11 A11 B11 hb12
    obtain ⟨wl, hwl⟩ : ∃ wl, wl = (whoR m xf).length := ⟨_, rfl⟩
    rw [← hwl] at Hwa ⊢
    clear hwl
    obtain ⟨x0, x1, x2, x3, x4, x5⟩ := A12.out
    go_wp2
    clear x0 x1 x2 x3 x4 x5
    have HRG : Hid (∀ W, Below w12.heap.size w12 W → W.rangeAt w1.heap.size 0 [.slice fa m.facts.length fc, .slice ba m.blocks.length bc, .int .i64 m.actual]) := Lib.hid (fun W h => (A12.out.below h).range)
    have HU : Tryz.prog.underlying 31 = some _ := Tryz.underlying31
    have KHE := Lib.hid (fun W (h : Below w12.heap.size w12 W) => implHolds_any _ _ _ _ m _ W (XO.out.keeps (Keeps.of_all h)) h.size (Fe12.out.below h (Nat.le_refl _)))
    rw [Hhe.out] at KHE
    have KHC := Lib.hid (fun W (h : Below w12.heap.size w12 W) => implHolds_any _ _ _ _ m _ W (XO.out.keeps (Keeps.of_all h)) h.size (Fc12.out.below h (Nat.le_refl _)))
    rw [Hhc.out] at KHC
    have HC1 : Hid (∀ W, Below w12.heap.size w12 W → W.cell? ⟨w1.heap.size, 1, none⟩ = some (.slice ba m.blocks.length bc)) := Lib.hid (fun W h => (A12.out.below h).2.1)
    have HC2 : Hid (∀ W, Below w12.heap.size w12 W → W.cell? ⟨w1.heap.size, 2, none⟩ = some (.int .i64 act)) := Lib.hid (fun W h => by rw [← HACT.out]; exact (A12.out.below h).2.2.1)
    have HTK : Hid (∀ W, Below w12.heap.size w12 W → W.cell? ⟨tb, t0 + act, none⟩ = some (.bool hc)) := Lib.hid (fun W h => by rw [TK12.out W h act (by rw [HTL.out]; exact hactn), HTG.out])
    have hwd : ((wl : Int) == (m.blocks.length : Int)) = he := by rw [← Hwa.out]; rw [Bool.eq_iff_iff, beq_iff_eq, decide_eq_true_eq]; omega
    have HWD := Lib.hid hwd
    clear hwd
    have a0 : (0 : Int) ≤ (act : Int) := Int.natCast_nonneg _
    have an' : (act : Int) < (m.facts.length : Int) := by omega
    have HBW := Lib.hid B12.out
    refine regionL (fun W => Below w12.heap.size w12 W) [] (by kernel_rfl) (Below.refl _ _).drew (fun hHeld => ?_)
    have t00 := hHeld
    refine takeZ (i := 0) (v := .agg #[.slice fa m.facts.length fc, .slice ba m.blocks.length bc, .int .i64 m.actual]) 118 rfl rfl (yieldsIf_load_mid (by rfl) 31 _ rfl w1.heap.size 0 rfl [.slice fa m.facts.length fc, .slice ba m.blocks.length bc, .int .i64 m.actual] _ HRG.out HU rfl Tryz.sizeMd) hHeld ?_
    simp only [Act.put, zA, zB, zC]
    refine takeZ (i := 1) (v := (.slice ae xe.length ce)) 119 rfl rfl (Or.inl ⟨by rfl, by intro W hSw; go_simp⟩) hHeld ?_
    simp only [Act.put, zA, zB, zC]
    refine takeZ (i := 3) (v := (.slice aw wl cw)) 121 rfl rfl (Or.inl ⟨by rfl, by intro W hSw; go_simp⟩) hHeld ?_
    simp only [Act.put, zA, zB, zC]
    refine takeZ (i := 5) (v := (.pointer (some ⟨w1.heap.size, 1, none⟩))) 123 rfl rfl (Or.inl ⟨by rfl, by intro W hSw; go_simp⟩) hHeld ?_
    simp only [Act.put, zA, zB, zC]
    refine takeZ (i := 4) (v := (.int .i64 wl)) 122 rfl rfl (Or.inl ⟨by rfl, by intro W hSw; go_simp⟩) hHeld ?_
    simp only [Act.put, zA, zB, zC]
    refine takeZ (i := 6) (v := (.slice ba m.blocks.length bc)) 124 rfl rfl (Or.inl ⟨by rfl, by intro W hSw; have c1 := HC1.out _ hSw; go_simp⟩) hHeld ?_
    simp only [Act.put, zA, zB, zC]
    refine takeZ (i := 7) (v := (.int .i64 m.blocks.length)) 125 rfl rfl (Or.inl ⟨by rfl, by intro W hSw; go_simp⟩) hHeld ?_
    simp only [Act.put, zA, zB, zC]
    refine takeZ (i := 8) (v := (.bool he)) 126 rfl rfl (Or.inl ⟨by rfl, by intro W hSw; have hwd := HWD.out; go_simp⟩) hHeld ?_
    simp only [Act.put, zA, zB, zC]
    refine onlyL (i := 2) (by kernel_rfl) rfl (by rfl) (fun K hK => ?_)
    go_simp
    refine (KHE.out _ t00).mono ?_
    rintro e v1 ⟨rfl, hb⟩
    have s1 : Below w12.heap.size w12 v1 := t00.trans (hb.mono t00.size)
    clear hb hHeld
    refine hK.out _ _ (fun _ => s1) (fun hHeld => ?_)
    have hHeld := hHeld (by decide)
    clear hK K
    try simp only [Act.put, zA, zB, zC]
    refine takeZ (i := 9) (v := (.bool true)) 127 rfl rfl (Or.inl ⟨by rfl, by intro W hSw; cases he <;> go_simp⟩) hHeld ?_
    simp only [Act.put, zA, zB, zC]
    refine takeZ (i := 10) (v := (.bool true)) 128 rfl rfl (Or.inl ⟨by rfl, by intro W hSw; go_simp⟩) hHeld ?_
    simp only [Act.put, zA, zB, zC]
    refine takeZ (i := 11) (v := (.slice (some ⟨tb, t0, none⟩) m.facts.length tcp)) 129 rfl rfl (Or.inl ⟨by rfl, by intro W hSw; go_simp⟩) hHeld ?_
    simp only [Act.put, zA, zB, zC]
    refine takeZ (i := 12) (v := (.pointer (some ⟨w1.heap.size, 2, none⟩))) 130 rfl rfl (Or.inl ⟨by rfl, by intro W hSw; go_simp⟩) hHeld ?_
    simp only [Act.put, zA, zB, zC]
    refine takeZ (i := 16) (v := .agg #[.slice fa m.facts.length fc, .slice ba m.blocks.length bc, .int .i64 m.actual]) 134 rfl rfl (yieldsIf_load_mid (by rfl) 31 _ rfl w1.heap.size 0 rfl [.slice fa m.facts.length fc, .slice ba m.blocks.length bc, .int .i64 m.actual] _ HRG.out HU rfl Tryz.sizeMd) hHeld ?_
    simp only [Act.put, zA, zB, zC]
    refine takeZ (i := 17) (v := (.slice ac xc.length cc)) 135 rfl rfl (Or.inl ⟨by rfl, by intro W hSw; go_simp⟩) hHeld ?_
    simp only [Act.put, zA, zB, zC]
    refine takeZ (i := 13) (v := (.int .i64 act)) 131 rfl rfl (Or.inl ⟨by rfl, by intro W hSw; have c2 := HC2.out _ hSw; go_simp⟩) hHeld ?_
    simp only [Act.put, zA, zB, zC]
    refine takeZ (i := 14) (v := (.pointer (some ⟨tb, t0 + act, none⟩))) 132 rfl rfl (Or.inl ⟨by rfl, by intro W hSw; go_simp⟩) hHeld ?_
    simp only [Act.put, zA, zB, zC]
    refine takeZ (i := 15) (v := (.bool hc)) 133 rfl rfl (Or.inl ⟨by rfl, by intro W hSw; have ct := HTK.out _ hSw; go_simp⟩) hHeld ?_
    simp only [Act.put, zA, zB, zC]
    refine onlyL (i := 18) (by kernel_rfl) rfl (by rfl) (fun K hK => ?_)
    go_simp
    refine (KHC.out _ s1).mono ?_
    rintro e v2 ⟨rfl, hb⟩
    have s2 : Below w12.heap.size w12 v2 := s1.trans (hb.mono s1.size)
    clear hb hHeld
    refine hK.out _ _ (fun _ => s2) (fun hHeld => ?_)
    have hHeld := hHeld (by decide)
    clear hK K
    try simp only [Act.put, zA, zB, zC]
    refine takeZ (i := 19) (v := (.bool true)) 137 rfl rfl (Or.inl ⟨by rfl, by intro W hSw; cases hc <;> go_simp⟩) hHeld ?_
    simp only [Act.put, zA, zB, zC]
    refine takeZ (i := 20) (v := (.bool true)) 138 rfl rfl (Or.inl ⟨by rfl, by intro W hSw; go_simp⟩) hHeld ?_
    simp only [Act.put, zA, zB, zC]
    refine takeZ (i := 21) (v := (.bool true)) 2 rfl rfl (Or.inl ⟨by rfl, by intro W hSw; go_simp⟩) hHeld ?_
    simp only [Act.put, zA, zB, zC]
    refine doneL (by kernel_rfl) ?_ _
    go_wp2
    go_ret
    exact ⟨rfl, HBW.out.trans (s2.mono HBW.out.size)⟩
  · have g2 : decide ((m.blocks.length : Int) = 2) = false := decide_eq_false (by omega)
    have g3 : ((m.blocks.length : Int) == 2) = false := by rw [Bool.eq_false_iff]; intro h; rw [beq_iff_eq] at h; omega
    have g4 : ¬ ((m.blocks.length : Int) = 2) := by omega
    go_wp2_with fail
    clear x0 x1 x2 x3 x4 x5
    clear KE2 xlt g2 g3 g4 hb2
    have KW := (implWho_any _ _ _ _ m _ w10 XO.out (Nat.le_refl _) F10.out).mono fun e w' h => IntsF2.of_ans h
    refine KW.mono ?_
    rintro e w11 ⟨aw, cw, rfl, hb11⟩
    clear KW
    have TK11 := Lib.hid (fun W (h : Below w11.heap.size w11 W) (j : Nat) (hj : j < TL.length) => TK10.out W (hb11.trans (h.mono hb11.size)) j hj)
    have Fk11 := Lib.hid (Fk10.out.below hb11 (Nat.le_refl _))
    have Fe11 := Lib.hid (Fe10.out.below hb11 (Nat.le_refl _))
    have Fd11 := Lib.hid (Fd10.out.below hb11 (Nat.le_refl _))
    have Fc11 := Lib.hid (Fc10.out.below hb11 (Nat.le_refl _))
    have F11 := Lib.hid (F10.out.below hb11 (Nat.le_refl _))
    have A11 := Lib.hid (A10.out.below hb11)
    have B11 : Hid (Below w.heap.size w w11) := Lib.hid (B10.out.trans (hb11.mono B10.out.size))
    have XO := Lib.hid ((XO.out.keeps (Keeps.of_all hb11)).wide (Nat.le_refl _) hb11.size)
    clear TK10 Fk10 Fe10 Fd10 Fc10 F10 A10 B10 hb11
    obtain ⟨wl, hwl⟩ : ∃ wl, wl = (whoR m xf).length := ⟨_, rfl⟩
    rw [← hwl] at Hwa ⊢
    clear hwl
    obtain ⟨x0, x1, x2, x3, x4, x5⟩ := A11.out
    go_wp2
    clear x0 x1 x2 x3 x4 x5
    have HRG : Hid (∀ W, Below w11.heap.size w11 W → W.rangeAt w1.heap.size 0 [.slice fa m.facts.length fc, .slice ba m.blocks.length bc, .int .i64 m.actual]) := Lib.hid (fun W h => (A11.out.below h).range)
    have HU : Tryz.prog.underlying 31 = some _ := Tryz.underlying31
    have KHE := Lib.hid (fun W (h : Below w11.heap.size w11 W) => implHolds_any _ _ _ _ m _ W (XO.out.keeps (Keeps.of_all h)) h.size (Fe11.out.below h (Nat.le_refl _)))
    rw [Hhe.out] at KHE
    have KHC := Lib.hid (fun W (h : Below w11.heap.size w11 W) => implHolds_any _ _ _ _ m _ W (XO.out.keeps (Keeps.of_all h)) h.size (Fc11.out.below h (Nat.le_refl _)))
    rw [Hhc.out] at KHC
    have HC1 : Hid (∀ W, Below w11.heap.size w11 W → W.cell? ⟨w1.heap.size, 1, none⟩ = some (.slice ba m.blocks.length bc)) := Lib.hid (fun W h => (A11.out.below h).2.1)
    have HC2 : Hid (∀ W, Below w11.heap.size w11 W → W.cell? ⟨w1.heap.size, 2, none⟩ = some (.int .i64 act)) := Lib.hid (fun W h => by rw [← HACT.out]; exact (A11.out.below h).2.2.1)
    have HTK : Hid (∀ W, Below w11.heap.size w11 W → W.cell? ⟨tb, t0 + act, none⟩ = some (.bool hc)) := Lib.hid (fun W h => by rw [TK11.out W h act (by rw [HTL.out]; exact hactn), HTG.out])
    have hwd : ((wl : Int) == (m.blocks.length : Int)) = he := by rw [← Hwa.out]; rw [Bool.eq_iff_iff, beq_iff_eq, decide_eq_true_eq]; omega
    have HWD := Lib.hid hwd
    clear hwd
    have a0 : (0 : Int) ≤ (act : Int) := Int.natCast_nonneg _
    have an' : (act : Int) < (m.facts.length : Int) := by omega
    have HBW := Lib.hid B11.out
    refine regionL (fun W => Below w11.heap.size w11 W) [] (by kernel_rfl) (Below.refl _ _).drew (fun hHeld => ?_)
    have t00 := hHeld
    refine takeZ (i := 0) (v := .agg #[.slice fa m.facts.length fc, .slice ba m.blocks.length bc, .int .i64 m.actual]) 118 rfl rfl (yieldsIf_load_mid (by rfl) 31 _ rfl w1.heap.size 0 rfl [.slice fa m.facts.length fc, .slice ba m.blocks.length bc, .int .i64 m.actual] _ HRG.out HU rfl Tryz.sizeMd) hHeld ?_
    simp only [Act.put, zA, zB, zC]
    refine takeZ (i := 1) (v := (.slice ae xe.length ce)) 119 rfl rfl (Or.inl ⟨by rfl, by intro W hSw; go_simp⟩) hHeld ?_
    simp only [Act.put, zA, zB, zC]
    refine takeZ (i := 3) (v := (.slice aw wl cw)) 121 rfl rfl (Or.inl ⟨by rfl, by intro W hSw; go_simp⟩) hHeld ?_
    simp only [Act.put, zA, zB, zC]
    refine takeZ (i := 5) (v := (.pointer (some ⟨w1.heap.size, 1, none⟩))) 123 rfl rfl (Or.inl ⟨by rfl, by intro W hSw; go_simp⟩) hHeld ?_
    simp only [Act.put, zA, zB, zC]
    refine takeZ (i := 4) (v := (.int .i64 wl)) 122 rfl rfl (Or.inl ⟨by rfl, by intro W hSw; go_simp⟩) hHeld ?_
    simp only [Act.put, zA, zB, zC]
    refine takeZ (i := 6) (v := (.slice ba m.blocks.length bc)) 124 rfl rfl (Or.inl ⟨by rfl, by intro W hSw; have c1 := HC1.out _ hSw; go_simp⟩) hHeld ?_
    simp only [Act.put, zA, zB, zC]
    refine takeZ (i := 7) (v := (.int .i64 m.blocks.length)) 125 rfl rfl (Or.inl ⟨by rfl, by intro W hSw; go_simp⟩) hHeld ?_
    simp only [Act.put, zA, zB, zC]
    refine takeZ (i := 8) (v := (.bool he)) 126 rfl rfl (Or.inl ⟨by rfl, by intro W hSw; have hwd := HWD.out; go_simp⟩) hHeld ?_
    simp only [Act.put, zA, zB, zC]
    refine onlyL (i := 2) (by kernel_rfl) rfl (by rfl) (fun K hK => ?_)
    go_simp
    refine (KHE.out _ t00).mono ?_
    rintro e v1 ⟨rfl, hb⟩
    have s1 : Below w11.heap.size w11 v1 := t00.trans (hb.mono t00.size)
    clear hb hHeld
    refine hK.out _ _ (fun _ => s1) (fun hHeld => ?_)
    have hHeld := hHeld (by decide)
    clear hK K
    try simp only [Act.put, zA, zB, zC]
    refine takeZ (i := 9) (v := (.bool true)) 127 rfl rfl (Or.inl ⟨by rfl, by intro W hSw; cases he <;> go_simp⟩) hHeld ?_
    simp only [Act.put, zA, zB, zC]
    refine takeZ (i := 10) (v := (.bool true)) 128 rfl rfl (Or.inl ⟨by rfl, by intro W hSw; go_simp⟩) hHeld ?_
    simp only [Act.put, zA, zB, zC]
    refine takeZ (i := 11) (v := (.slice (some ⟨tb, t0, none⟩) m.facts.length tcp)) 129 rfl rfl (Or.inl ⟨by rfl, by intro W hSw; go_simp⟩) hHeld ?_
    simp only [Act.put, zA, zB, zC]
    refine takeZ (i := 12) (v := (.pointer (some ⟨w1.heap.size, 2, none⟩))) 130 rfl rfl (Or.inl ⟨by rfl, by intro W hSw; go_simp⟩) hHeld ?_
    simp only [Act.put, zA, zB, zC]
    refine takeZ (i := 16) (v := .agg #[.slice fa m.facts.length fc, .slice ba m.blocks.length bc, .int .i64 m.actual]) 134 rfl rfl (yieldsIf_load_mid (by rfl) 31 _ rfl w1.heap.size 0 rfl [.slice fa m.facts.length fc, .slice ba m.blocks.length bc, .int .i64 m.actual] _ HRG.out HU rfl Tryz.sizeMd) hHeld ?_
    simp only [Act.put, zA, zB, zC]
    refine takeZ (i := 17) (v := (.slice ac xc.length cc)) 135 rfl rfl (Or.inl ⟨by rfl, by intro W hSw; go_simp⟩) hHeld ?_
    simp only [Act.put, zA, zB, zC]
    refine takeZ (i := 13) (v := (.int .i64 act)) 131 rfl rfl (Or.inl ⟨by rfl, by intro W hSw; have c2 := HC2.out _ hSw; go_simp⟩) hHeld ?_
    simp only [Act.put, zA, zB, zC]
    refine takeZ (i := 14) (v := (.pointer (some ⟨tb, t0 + act, none⟩))) 132 rfl rfl (Or.inl ⟨by rfl, by intro W hSw; go_simp⟩) hHeld ?_
    simp only [Act.put, zA, zB, zC]
    refine takeZ (i := 15) (v := (.bool hc)) 133 rfl rfl (Or.inl ⟨by rfl, by intro W hSw; have ct := HTK.out _ hSw; go_simp⟩) hHeld ?_
    simp only [Act.put, zA, zB, zC]
    refine onlyL (i := 18) (by kernel_rfl) rfl (by rfl) (fun K hK => ?_)
    go_simp
    refine (KHC.out _ s1).mono ?_
    rintro e v2 ⟨rfl, hb⟩
    have s2 : Below w11.heap.size w11 v2 := s1.trans (hb.mono s1.size)
    clear hb hHeld
    refine hK.out _ _ (fun _ => s2) (fun hHeld => ?_)
    have hHeld := hHeld (by decide)
    clear hK K
    try simp only [Act.put, zA, zB, zC]
    refine takeZ (i := 19) (v := (.bool true)) 137 rfl rfl (Or.inl ⟨by rfl, by intro W hSw; cases hc <;> go_simp⟩) hHeld ?_
    simp only [Act.put, zA, zB, zC]
    refine takeZ (i := 20) (v := (.bool true)) 138 rfl rfl (Or.inl ⟨by rfl, by intro W hSw; go_simp⟩) hHeld ?_
    simp only [Act.put, zA, zB, zC]
    refine takeZ (i := 21) (v := (.bool true)) 2 rfl rfl (Or.inl ⟨by rfl, by intro W hSw; go_simp⟩) hHeld ?_
    simp only [Act.put, zA, zB, zC]
    refine doneL (by kernel_rfl) ?_ _
    go_wp2
    go_ret
    exact ⟨rfl, HBW.out.trans (s2.mono HBW.out.size)⟩
end Go.Proofs.YthjfanhhindjlaaGreat
