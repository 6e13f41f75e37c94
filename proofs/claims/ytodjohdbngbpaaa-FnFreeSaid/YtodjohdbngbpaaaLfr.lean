/-
  The walk of the law FnFree: it returns true and writes nothing that was there. No condition.
-/
import Derived.Test.YtodjohdbngbpaaaFfr
import Derived.Test.YtodjohdbngbpaaaZCur
import Derived.Test.YtodjohdbngbpaaaLawQ
import Derived.Test.YtodjohdbngbpaaaTho
import Derived.Test.YtodjohdbngbpaaaTev
import Derived.Test.YtodjohdbngbpaaaTww
import Derived.Test.YtodjohdbngbpaaaZMok
namespace Go.Proofs.Ytodjohdbngbpaaa
open Go.RowKit Go.WideShapes
open Go Go.Deep
set_option linter.unusedSimpArgs false

theorem wtm_txt : ∀ fact, fact < 4 → ∀ a, a < 2 → txt (wtm a fact) = [87, UInt8.ofNat (48 + a), UInt8.ofNat (97 + fact)] := by decide
theorem wtm_parsed {fact a : Nat} (hf : fact < 4) (ha : a < 2) : parsed [87, UInt8.ofNat (48 + a), UInt8.ofNat (97 + fact)] = some (wfm a fact) := by
  rw [← wtm_txt fact hf a ha]
  refine parsed_txt ?_ (by unfold wtm; simp [Tm.size])
  unfold wtm
  have l6 : limN 6 = 3 := rfl
  have l1 : limN 1 = 4 := rfl
  exact ⟨by omega, by omega, by rw [l6]; omega, ⟨by omega, by omega, by rw [l1]; omega⟩⟩
theorem wtm_read (W : World) {fact : Nat} (a : Nat) (hf : fact < 4) (ha : a < 2) (S : ByteArray) (hS : S = ⟨#[87, UInt8.ofNat (48 + a)]⟩) :
    Calls Try.prog 9 #[.string (S ++ ⟨#[97 + UInt8.ofNat fact]⟩)] W fun e w' => ∃ v, e = .returned (.tuple #[v, .bool true]) ∧ Ns w' v (wfm a fact) ∧ Below W.heap.size W w' := by
  have h := implParseF_any [87, UInt8.ofNat (48 + a), UInt8.ofNat (97 + fact)] W (by show (3 : Nat) ≤ maxLen; unfold maxLen; omega)
  rw [wtm_parsed hf ha] at h
  subst hS
  have e : ∀ fact, fact < 4 → (97 + UInt8.ofNat fact : UInt8) = UInt8.ofNat (97 + fact) := by decide
  rw [e fact hf]
  refine h.mono ?_
  rintro e w' ⟨v, rfl, hown, hb⟩
  exact ⟨v, rfl, Ns.of_own hown, hb⟩
theorem told_yes {k fact w : Nat} (h : freeB k fact w = true) (hf : fact < 4) : tellR (freeM (2 ^ k) 2) 0 (fact : Int) = some (toldM (2 ^ k) fact) := by
  unfold freeB at h
  simp only [Bool.and_eq_true] at h
  unfold tellR
  have hbl : (freeM (2 ^ k) 2).blocks.length = 2 := by show (List.replicate 2 _).length = 2; simp
  rw [h.1.2, hbl, inB_yes (by decide) (by decide), inB_yes (by omega) (by omega), Int.toNat_natCast]; rfl
theorem went_yes {k fact w : Nat} (h : freeB k fact w = true) (hw : w < 2 ^ k) : moveR (toldM (2 ^ k) fact) (w : Int) = some (wentM (2 ^ k) fact w) := by
  unfold freeB at h
  simp only [Bool.and_eq_true] at h
  unfold moveR
  have hl : (toldM (2 ^ k) fact).facts.length = 2 ^ k := by show (mrow 0 (2 ^ k)).length = _; simp [mrow]
  rw [h.2, hl, inB_yes (by omega) (by exact_mod_cast hw)]; rfl

set_option maxRecDepth 100000 in
set_option maxHeartbeats 64000000 in
theorem walk_FnFree (v0 : Value) (len : Nat) (w : World) (h0 : InBytes w v0 len) :
    Calls Try.prog 3 #[v0] w fun e w' => e = .returned (.bool true) ∧ Below w.heap.size w w' := by
  obtain ⟨a0, cap0, rfl, hlc, hcm, -⟩ := id h0
  unfold maxLen at hcm
  by_cases hbig : 1048576 < len
  · clear h0
    go_enter Try.func3, Try.ntmps3
    go_wp2
    go_ret
    exact ⟨rfl, Below.refl _ _⟩
  have hcode := h0.code (by omega)
  have HC := Lib.hid (fun W (h : Below w.heap.size w W) => CodeOk.below hcode h (Nat.le_refl _))
  have KN : Hid (∀ (n : Nat) (z : Int), z = n → n ≤ 1000 → ∀ W, Below w.heap.size w W → Calls Try.prog 7 #[.slice a0 len cap0, .int .i64 z] W fun e w' => ∃ x : Int, e = .returned (.int .i64 x) ∧ 0 ≤ x ∧ x ≤ 65535 ∧ Below W.heap.size W w') := Lib.hid (fun n z hz hn W h => by subst hz; exact makeNum_any W _ n hn (HC.out W h))
  have KN1 := Lib.hid (KN.out 1 1 rfl (by decide))
  have KN3 := Lib.hid (KN.out 3 3 rfl (by decide))
  have KN5 := Lib.hid (KN.out 5 5 rfl (by decide))
  clear h0 hcode HC KN
  go_enter Try.func3, Try.ntmps3
  go_wp2_with fail
  refine (KN1.out _ (Below.refl _ _)).mono ?_
  rintro e w1 ⟨x1, rfl, hx0, hx1, hb1⟩
  have B1 := Lib.hid hb1
  clear hb1 KN1
  have hm0 : 0 ≤ x1 % 4 := Int.emod_nonneg _ (by omega)
  have hm1 : x1 % 4 < 4 := Int.emod_lt_of_pos _ (by omega)
  obtain ⟨k, hk⟩ : ∃ k : Nat, 1 + x1 % 4 = (k : Int) := ⟨(1 + x1 % 4).toNat, by omega⟩
  have hk1 : 1 ≤ k := by omega
  have hk4 : k ≤ 4 := by omega
  go_wp2_with fail
  have HFR : Hid (freeR (k : Int) 2 = some (freeM (2 ^ k) 2)) := Lib.hid (by unfold freeR; rw [if_pos ⟨by omega, by omega, by decide, by decide⟩, Int.toNat_natCast]; rfl)
  have KF := Lib.hid (implFree_any (k : Int) 2 w1)
  rw [HFR.out] at KF
  obtain ⟨M, hM⟩ : ∃ M, M = freeM (2 ^ k) 2 := ⟨_, rfl⟩
  rw [← hM] at KF
  have HMh := Lib.hid hM
  clear hM
  refine KF.out.mono ?_
  rintro e w2 ⟨vm, rfl, hom, hb⟩
  change Mo _ _ _ vm M at hom
  obtain ⟨fam, fcm, bam, bcm, e1⟩ := hom.read.form
  subst e1
  have Xm := Lib.hid hom.read
  have B1 := Lib.hid (B1.out.trans (hb.mono B1.out.size))
  clear hom hb KF HFR
  go_wp2_with fail
  have Am := Lib.hid (Mcell.new (w := w2) (T := 27) (b := w2.heap.size) (fv := .slice fam M.facts.length fcm) (bv := .slice bam M.blocks.length bcm) (n := M.actual) rfl)
  have hb : Below w2.heap.size w2 (w2.alloc (.cells #[.slice fam M.facts.length fcm, .slice bam M.blocks.length bcm, .int .i64 M.actual] 27)) := by go_grown
  generalize w2.alloc (.cells #[.slice fam M.facts.length fcm, .slice bam M.blocks.length bcm, .int .i64 M.actual] 27) = w3 at *
  have B1 : Hid (Below w.heap.size w w3) := Lib.hid (B1.out.trans (hb.mono B1.out.size))
  have Hm : Hid (∀ W, Below w3.heap.size w3 W → Mcell W w2.heap.size (.slice fam M.facts.length fcm) (.slice bam M.blocks.length bcm) M.actual ∧ Mv _ w2.heap.size W (.agg #[.slice fam M.facts.length fcm, .slice bam M.blocks.length bcm, .int .i64 M.actual]) M ∧ w2.heap.size ≤ W.heap.size) := Lib.hid (fun W h => ⟨Am.out.below h, (Xm.out.keeps (Keeps.of_all hb)).keeps (Keeps.of_all h), Nat.le_trans hb.size h.size⟩)
  clear hb Am Xm
  refine (KN3.out _ B1.out).mono ?_
  rintro e w4 ⟨x2, rfl, hx0', hx1', hb⟩
  have hf0 : 0 ≤ x2 % (k : Int) := Int.emod_nonneg _ (by omega)
  have hf1 : x2 % (k : Int) < (k : Int) := Int.emod_lt_of_pos _ (by omega)
  obtain ⟨fact, hfact⟩ : ∃ fact : Nat, x2 % (k : Int) = (fact : Int) := ⟨(x2 % (k : Int)).toNat, by omega⟩
  have hfk : fact < k := by omega
  have t4 : Hid (Below w3.heap.size w3 w4) := Lib.hid hb
  have B1 := Lib.hid (B1.out.trans (hb.mono B1.out.size))
  clear hb KN3
  have hkne : ¬ ((k : Int) = 0) := by omega
  have hkne' : ((k : Int) == 0) = false := by rw [beq_eq_false_iff_ne]; omega
  go_wp2_with fail
  refine (KN5.out _ B1.out).mono ?_
  rintro e w5 ⟨x3, rfl, hx0'', hx1'', hb⟩
  have hg0 : 0 ≤ x3 % 2 := Int.emod_nonneg _ (by omega)
  have hg1 : x3 % 2 < 2 := Int.emod_lt_of_pos _ (by omega)
  obtain ⟨wn, hwn⟩ : ∃ wn : Nat, x3 % 2 = (wn : Int) := ⟨(x3 % 2).toNat, by omega⟩
  have hw2 : wn < 2 := by omega
  have t5 := Lib.hid (t4.out.trans (hb.mono t4.out.size))
  have B1 := Lib.hid (B1.out.trans (hb.mono B1.out.size))
  clear hb KN5 t4
  have HB := free_any hk1 hk4 hfk hw2
  have hf4 : fact < 4 := by omega
  have hpow : wn < 2 ^ k := by
    obtain rfl | rfl | rfl | rfl : k = 1 ∨ k = 2 ∨ k = 3 ∨ k = 4 := by omega
    all_goals (simp; omega)
  have HTE := Lib.hid (told_yes HB hf4)
  have HMO := Lib.hid (went_yes HB hpow)
  have HLM : Hid (M.facts.length = 2 ^ k) := Lib.hid (by rw [HMh.out]; show (mrow 0 (2 ^ k)).length = _; simp [mrow])
  unfold freeB at HB
  rw [← HMh.out] at HB HTE
  simp only [Bool.and_eq_true, decide_eq_true_eq, Bool.not_eq_true', beq_iff_eq] at HB
  obtain ⟨⟨⟨⟨⟨⟨⟨⟨q1, q2⟩, q3⟩, q4⟩, q5⟩, q6⟩, q7⟩, -⟩, -⟩ := HB
  have Q1 := Lib.hid q1
  have Q2 := Lib.hid q2
  have Q3 := Lib.hid q3
  have Q4 := Lib.hid q4
  have Q5 := Lib.hid q5
  have Q6 := Lib.hid q6
  have Q7 := Lib.hid q7
  have KP0 := Lib.hid (fun W => wtm_read W 0 hf4 (by decide) ⟨#[87, 48]⟩ (by rfl))
  have KP1 := Lib.hid (fun W => wtm_read W 1 hf4 (by decide) ⟨#[87, 49]⟩ (by rfl))
  obtain ⟨T, hT⟩ : ∃ T, T = toldM (2 ^ k) fact := ⟨_, rfl⟩
  obtain ⟨X, hX⟩ : ∃ X, X = wentM (2 ^ k) fact wn := ⟨_, rfl⟩
  rw [← hT] at Q2 Q3 HTE HMO
  rw [← hX] at Q4 Q6 HMO
  generalize wfm 0 fact = F0 at *
  generalize wfm 1 fact = F1 at *
  have hfi : (fact : Int) < 4 := by omega
  have hfi0 : (0 : Int) ≤ (fact : Int) := Int.natCast_nonneg _
  clear q1 q2 q3 q4 q5 q6 q7 HMh hT hX hpow
  have hcv := run_bytes_one (P := Try.prog) Try.underlying22 Try.underlying5 Try.underlying9 w5 (97 + (fact : Int))
  go_wp2_with fail
  clear hcv
  refine (KP0.out _).mono ?_
  rintro e w6 ⟨v8, rfl, hn8, hb⟩
  have N8 := Lib.hid hn8
  have hb' : Below w5.heap.size w5 w6 := Below.trans ((Below.refl _ _).alloc (Nat.le_refl _) _) (hb.mono (by simp))
  have t5 := Lib.hid (t5.out.trans (hb'.mono t5.out.size))
  have B1 := Lib.hid (B1.out.trans (hb'.mono B1.out.size))
  clear hn8 hb hb' KP0
  have hcv := run_bytes_one (P := Try.prog) Try.underlying22 Try.underlying5 Try.underlying9 w6 (97 + (fact : Int))
  go_wp2_with fail
  clear hcv
  refine (KP1.out _).mono ?_
  rintro e w7 ⟨v10, rfl, hn10, hb⟩
  have N10 := Lib.hid hn10
  have hb' : Below w6.heap.size w6 w7 := Below.trans ((Below.refl _ _).alloc (Nat.le_refl _) _) (hb.mono (by simp))
  have t5 := Lib.hid (t5.out.trans (hb'.mono t5.out.size))
  have B1 := Lib.hid (B1.out.trans (hb'.mono B1.out.size))
  have N8 := Lib.hid (N8.out.below hb' (Nat.le_refl _))
  clear hn10 hb hb' KP1
  obtain ⟨n8a, n8c, rfl, -⟩ := N8.out.parts
  obtain ⟨n10a, n10c, rfl, -⟩ := N10.out.parts
  obtain ⟨⟨xa0, xa1, xa2, xa3, xa4, xa5⟩, hmv, hms⟩ := Hm.out _ t5.out
  have xlt := (Hm.out _ t5.out).1.lt
  have KT := Lib.hid (implTell_any _ _ _ M 0 (fact : Int) w7 hmv hms)
  rw [HTE.out] at KT
  clear hmv hms
  go_wp2_with fail
  clear xa0 xa1 xa2 xa3 xa4 xa5
  refine KT.out.mono ?_
  rintro e w8 ⟨vm, rfl, hom, hb⟩
  change Mo _ _ _ vm T at hom
  obtain ⟨fat, fct, bat, bct, e1⟩ := hom.read.form
  subst e1
  have Xt := Lib.hid hom.read
  have B1 := Lib.hid (B1.out.trans (hb.mono B1.out.size))
  have t5 := Lib.hid (t5.out.trans (hb.mono t5.out.size))
  have N8 := Lib.hid (N8.out.below hb (Nat.le_refl _))
  have N10 := Lib.hid (N10.out.below hb (Nat.le_refl _))
  clear hom hb KT
  go_wp2_with fail
  have At := Lib.hid (Mcell.new (w := w8) (T := 27) (b := w8.heap.size) (fv := .slice fat T.facts.length fct) (bv := .slice bat T.blocks.length bct) (n := T.actual) rfl)
  have hb : Below w8.heap.size w8 (w8.alloc (.cells #[.slice fat T.facts.length fct, .slice bat T.blocks.length bct, .int .i64 T.actual] 27)) := by go_grown
  generalize w8.alloc (.cells #[.slice fat T.facts.length fct, .slice bat T.blocks.length bct, .int .i64 T.actual] 27) = w9 at *
  have B1 : Hid (Below w.heap.size w w9) := Lib.hid (B1.out.trans (hb.mono B1.out.size))
  have Ht : Hid (∀ W, Below w9.heap.size w9 W → Mcell W w8.heap.size (.slice fat T.facts.length fct) (.slice bat T.blocks.length bct) T.actual ∧ Mv _ w8.heap.size W (.agg #[.slice fat T.facts.length fct, .slice bat T.blocks.length bct, .int .i64 T.actual]) T ∧ w8.heap.size ≤ W.heap.size) := Lib.hid (fun W h => ⟨At.out.below h, (Xt.out.keeps (Keeps.of_all hb)).keeps (Keeps.of_all h), Nat.le_trans hb.size h.size⟩)
  have t5 := Lib.hid (t5.out.trans (hb.mono t5.out.size))
  have N8 := Lib.hid (N8.out.below hb (Nat.le_refl _))
  have N10 := Lib.hid (N10.out.below hb (Nat.le_refl _))
  clear hb At Xt
  obtain ⟨⟨xb0, xb1, xb2, xb3, xb4, xb5⟩, hmv, hms⟩ := Ht.out _ (Below.refl _ _)
  have KM := Lib.hid (implMove_any _ _ _ T (wn : Int) w9 hmv hms)
  rw [HMO.out] at KM
  have xblt := (Ht.out _ (Below.refl _ _)).1.lt
  clear hmv hms
  clear xb0 xb1 xb2 xb3 xb4 xb5
  refine KM.out.mono ?_
  rintro e w10 ⟨vm, rfl, hom, hb⟩
  change Mo _ _ _ vm X at hom
  obtain ⟨fax, fcx, bax, bcx, e1⟩ := hom.read.form
  subst e1
  have Xx := Lib.hid hom.read
  have B1 := Lib.hid (B1.out.trans (hb.mono B1.out.size))
  have t5 := Lib.hid (t5.out.trans (hb.mono t5.out.size))
  have t9 : Hid (Below w9.heap.size w9 w10) := Lib.hid hb
  have N8 := Lib.hid (N8.out.below hb (Nat.le_refl _))
  have N10 := Lib.hid (N10.out.below hb (Nat.le_refl _))
  clear hom hb KM
  go_wp2_with fail
  have Ax := Lib.hid (Mcell.new (w := w10) (T := 27) (b := w10.heap.size) (fv := .slice fax X.facts.length fcx) (bv := .slice bax X.blocks.length bcx) (n := X.actual) rfl)
  have hb : Below w10.heap.size w10 (w10.alloc (.cells #[.slice fax X.facts.length fcx, .slice bax X.blocks.length bcx, .int .i64 X.actual] 27)) := by go_grown
  generalize w10.alloc (.cells #[.slice fax X.facts.length fcx, .slice bax X.blocks.length bcx, .int .i64 X.actual] 27) = w11 at *
  have B1 : Hid (Below w.heap.size w w11) := Lib.hid (B1.out.trans (hb.mono B1.out.size))
  have Hx : Hid (∀ W, Below w11.heap.size w11 W → Mcell W w10.heap.size (.slice fax X.facts.length fcx) (.slice bax X.blocks.length bcx) X.actual ∧ Mv _ w10.heap.size W (.agg #[.slice fax X.facts.length fcx, .slice bax X.blocks.length bcx, .int .i64 X.actual]) X ∧ w10.heap.size ≤ W.heap.size) := Lib.hid (fun W h => ⟨Ax.out.below h, (Xx.out.keeps (Keeps.of_all hb)).keeps (Keeps.of_all h), Nat.le_trans hb.size h.size⟩)
  have t5 := Lib.hid (t5.out.trans (hb.mono t5.out.size))
  have t9 := Lib.hid (t9.out.trans (hb.mono t9.out.size))
  have N8 := Lib.hid (N8.out.below hb (Nat.le_refl _))
  have N10 := Lib.hid (N10.out.below hb (Nat.le_refl _))
  clear hb Ax Xx
  have hk5 : k = 1 ∨ k = 2 ∨ k = 3 ∨ k = 4 := by omega
  obtain ⟨qk, hqk⟩ : ∃ q, q = decide (k = 1) := ⟨_, rfl⟩
  rw [← hqk] at Q6
  have hkq : ((k : Int) == 1) = qk := by rw [hqk, Bool.eq_iff_iff, beq_iff_eq, decide_eq_true_eq]; omega
  have hkq2 : decide ((k : Int) = 1) = qk := by rw [hqk, Bool.eq_iff_iff, decide_eq_true_eq, decide_eq_true_eq]; omega
  clear hqk
  have HRG : Hid (∀ W, Below w11.heap.size w11 W → W.rangeAt w2.heap.size 0 [.slice fam M.facts.length fcm, .slice bam M.blocks.length bcm, .int .i64 M.actual]) := Lib.hid (fun W h => (Hm.out W (t5.out.trans (h.mono t5.out.size))).1.range)
  have HU : Try.prog.underlying 27 = some _ := Try.underlying27
  refine regionL (fun W => Below w11.heap.size w11 W) [] (by kernel_rfl) (Below.refl _ _).drew (fun hHeld => ?_)
  have u1 : Below w11.heap.size w11 w11.drew := hHeld
  refine takeA (i := 0) (v := (.bool true)) 67 rfl rfl (by kernel_rfl) (by kernel_rfl) (by kernel_rfl) (by kernel_rfl) (fun _ _ _ h => h) (Or.inl ⟨by rfl, by intro W hSw; go_simp⟩) hHeld ?_
  simp only [Act.put, List.setIfInBounds_toArray, List.set_cons_zero, List.set_cons_succ]
  refine takeA (i := 1) (v := (.bool false)) 68 rfl rfl (by kernel_rfl) (by kernel_rfl) (by kernel_rfl) (by kernel_rfl) (fun _ _ _ h => h) (Or.inl ⟨by rfl, by intro W hSw; go_simp⟩) hHeld ?_
  simp only [Act.put, List.setIfInBounds_toArray, List.set_cons_zero, List.set_cons_succ]
  refine takeA (i := 2) (v := (.bool false)) 69 rfl rfl (by kernel_rfl) (by kernel_rfl) (by kernel_rfl) (by kernel_rfl) (fun _ _ _ h => h) (Or.inl ⟨by rfl, by intro W hSw; go_simp⟩) hHeld ?_
  simp only [Act.put, List.setIfInBounds_toArray, List.set_cons_zero, List.set_cons_succ]
  refine takeA (i := 3) (v := (.bool true)) 70 rfl rfl (by kernel_rfl) (by kernel_rfl) (by kernel_rfl) (by kernel_rfl) (fun _ _ _ h => h) (Or.inl ⟨by rfl, by intro W hSw; go_simp⟩) hHeld ?_
  simp only [Act.put, List.setIfInBounds_toArray, List.set_cons_zero, List.set_cons_succ]
  refine takeA (i := 4) (v := (.bool false)) 71 rfl rfl (by kernel_rfl) (by kernel_rfl) (by kernel_rfl) (by kernel_rfl) (fun _ _ _ h => h) (Or.inl ⟨by rfl, by intro W hSw; go_simp⟩) hHeld ?_
  simp only [Act.put, List.setIfInBounds_toArray, List.set_cons_zero, List.set_cons_succ]
  refine takeA (i := 5) (v := (.bool false)) 72 rfl rfl (by kernel_rfl) (by kernel_rfl) (by kernel_rfl) (by kernel_rfl) (fun _ _ _ h => h) (Or.inl ⟨by rfl, by intro W hSw; go_simp⟩) hHeld ?_
  simp only [Act.put, List.setIfInBounds_toArray, List.set_cons_zero, List.set_cons_succ]
  refine takeA (i := 6) (v := (.bool false)) 73 rfl rfl (by kernel_rfl) (by kernel_rfl) (by kernel_rfl) (by kernel_rfl) (fun _ _ _ h => h) (Or.inl ⟨by rfl, by intro W hSw; go_simp⟩) hHeld ?_
  simp only [Act.put, List.setIfInBounds_toArray, List.set_cons_zero, List.set_cons_succ]
  refine takeA (i := 7) (v := (.bool true)) 74 rfl rfl (by kernel_rfl) (by kernel_rfl) (by kernel_rfl) (by kernel_rfl) (fun _ _ _ h => h) (Or.inl ⟨by rfl, by intro W hSw; go_simp⟩) hHeld ?_
  simp only [Act.put, List.setIfInBounds_toArray, List.set_cons_zero, List.set_cons_succ]
  refine takeA (i := 8) (v := (.bool false)) 75 rfl rfl (by kernel_rfl) (by kernel_rfl) (by kernel_rfl) (by kernel_rfl) (fun _ _ _ h => h) (Or.inl ⟨by rfl, by intro W hSw; go_simp⟩) hHeld ?_
  simp only [Act.put, List.setIfInBounds_toArray, List.set_cons_zero, List.set_cons_succ]
  refine takeA (i := 9) (v := (.bool false)) 76 rfl rfl (by kernel_rfl) (by kernel_rfl) (by kernel_rfl) (by kernel_rfl) (fun _ _ _ h => h) (Or.inl ⟨by rfl, by intro W hSw; go_simp⟩) hHeld ?_
  simp only [Act.put, List.setIfInBounds_toArray, List.set_cons_zero, List.set_cons_succ]
  refine takeA (i := 10) (v := (.bool false)) 77 rfl rfl (by kernel_rfl) (by kernel_rfl) (by kernel_rfl) (by kernel_rfl) (fun _ _ _ h => h) (Or.inl ⟨by rfl, by intro W hSw; go_simp⟩) hHeld ?_
  simp only [Act.put, List.setIfInBounds_toArray, List.set_cons_zero, List.set_cons_succ]
  refine takeA (i := 11) (v := (.bool true)) 78 rfl rfl (by kernel_rfl) (by kernel_rfl) (by kernel_rfl) (by kernel_rfl) (fun _ _ _ h => h) (Or.inl ⟨by rfl, by intro W hSw; go_simp⟩) hHeld ?_
  simp only [Act.put, List.setIfInBounds_toArray, List.set_cons_zero, List.set_cons_succ]
  refine takeA (i := 12) (v := (.bool false)) 79 rfl rfl (by kernel_rfl) (by kernel_rfl) (by kernel_rfl) (by kernel_rfl) (fun _ _ _ h => h) (Or.inl ⟨by rfl, by intro W hSw; go_simp⟩) hHeld ?_
  simp only [Act.put, List.setIfInBounds_toArray, List.set_cons_zero, List.set_cons_succ]
  refine takeA (i := 13) (v := (.bool false)) 80 rfl rfl (by kernel_rfl) (by kernel_rfl) (by kernel_rfl) (by kernel_rfl) (fun _ _ _ h => h) (Or.inl ⟨by rfl, by intro W hSw; go_simp⟩) hHeld ?_
  simp only [Act.put, List.setIfInBounds_toArray, List.set_cons_zero, List.set_cons_succ]
  refine takeA (i := 14) (v := (.bool false)) 81 rfl rfl (by kernel_rfl) (by kernel_rfl) (by kernel_rfl) (by kernel_rfl) (fun _ _ _ h => h) (Or.inl ⟨by rfl, by intro W hSw; go_simp⟩) hHeld ?_
  simp only [Act.put, List.setIfInBounds_toArray, List.set_cons_zero, List.set_cons_succ]
  refine takeA (i := 15) (v := (.bool true)) 82 rfl rfl (by kernel_rfl) (by kernel_rfl) (by kernel_rfl) (by kernel_rfl) (fun _ _ _ h => h) (Or.inl ⟨by rfl, by intro W hSw; go_simp⟩) hHeld ?_
  simp only [Act.put, List.setIfInBounds_toArray, List.set_cons_zero, List.set_cons_succ]
  refine takeA (i := 16) (v := (.bool false)) 83 rfl rfl (by kernel_rfl) (by kernel_rfl) (by kernel_rfl) (by kernel_rfl) (fun _ _ _ h => h) (Or.inl ⟨by rfl, by intro W hSw; go_simp⟩) hHeld ?_
  simp only [Act.put, List.setIfInBounds_toArray, List.set_cons_zero, List.set_cons_succ]
  refine takeA (i := 17) (v := (.bool false)) 84 rfl rfl (by kernel_rfl) (by kernel_rfl) (by kernel_rfl) (by kernel_rfl) (fun _ _ _ h => h) (Or.inl ⟨by rfl, by intro W hSw; go_simp⟩) hHeld ?_
  simp only [Act.put, List.setIfInBounds_toArray, List.set_cons_zero, List.set_cons_succ]
  refine takeA (i := 18) (v := (.bool false)) 85 rfl rfl (by kernel_rfl) (by kernel_rfl) (by kernel_rfl) (by kernel_rfl) (fun _ _ _ h => h) (Or.inl ⟨by rfl, by intro W hSw; go_simp⟩) hHeld ?_
  simp only [Act.put, List.setIfInBounds_toArray, List.set_cons_zero, List.set_cons_succ]
  refine takeA (i := 19) (v := (.agg #[.slice fam M.facts.length fcm, .slice bam M.blocks.length bcm, .int .i64 M.actual])) 86 rfl rfl (by kernel_rfl) (by kernel_rfl) (by kernel_rfl) (by kernel_rfl) (fun _ _ _ h => h) (yieldsIf_load_mid (by rfl) 27 _ rfl w2.heap.size 0 rfl [.slice fam M.facts.length fcm, .slice bam M.blocks.length bcm, .int .i64 M.actual] _ HRG.out HU rfl Try.sizeMd) hHeld ?_
  simp only [Act.put, List.setIfInBounds_toArray, List.set_cons_zero, List.set_cons_succ]
  refine takeA (i := 21) (v := (.int .i64 k)) 88 rfl rfl (by kernel_rfl) (by kernel_rfl) (by kernel_rfl) (by kernel_rfl) (fun _ _ _ h => h) (Or.inl ⟨by rfl, by intro W hSw; go_simp⟩) hHeld ?_
  simp only [Act.put, List.setIfInBounds_toArray, List.set_cons_zero, List.set_cons_succ]
  refine takeA (i := 22) (v := (.int .i64 ((2 ^ k : Nat) : Int))) 89 rfl rfl (by kernel_rfl) (by kernel_rfl) (by kernel_rfl) (by kernel_rfl) (fun _ _ _ h => h) (Or.inl ⟨by rfl, by intro W hSw; obtain rfl | rfl | rfl | rfl := hk5 <;> first | (go_simp; done) | (go_simp; decide)⟩) hHeld ?_
  simp only [Act.put, List.setIfInBounds_toArray, List.set_cons_zero, List.set_cons_succ]
  obtain ⟨-, hmv, hms⟩ := Hm.out _ (t5.out.trans (u1.mono t5.out.size))
  refine onlyL (i := 20) (by kernel_rfl) rfl (by rfl) (fun K hK => ?_)
  go_simp
  refine (implCount_any _ _ _ M _ hmv hms).mono ?_
  rintro e w12 ⟨rfl, hb⟩
  have u2 : Below w11.heap.size w11 w12 := u1.trans (hb.mono u1.size)
  rw [Q7.out, if_pos rfl, HLM.out]
  clear hb hHeld hmv hms
  refine hK.out _ _ (fun _ => u2) (fun hHeld => ?_)
  have hHeld := hHeld (by decide)
  clear hK K
  try simp only [Act.put, List.setIfInBounds_toArray, List.set_cons_zero, List.set_cons_succ]
  refine takeA (i := 23) (v := (.bool false)) 90 rfl rfl (by kernel_rfl) (by kernel_rfl) (by kernel_rfl) (by kernel_rfl) (fun _ _ _ h => h) (Or.inl ⟨by rfl, by intro W hSw; go_simp⟩) hHeld ?_
  simp only [Act.put, List.setIfInBounds_toArray, List.set_cons_zero, List.set_cons_succ]
  refine takeA (i := 24) (v := (.bool false)) 91 rfl rfl (by kernel_rfl) (by kernel_rfl) (by kernel_rfl) (by kernel_rfl) (fun _ _ _ h => h) (Or.inl ⟨by rfl, by intro W hSw; go_simp⟩) hHeld ?_
  simp only [Act.put, List.setIfInBounds_toArray, List.set_cons_zero, List.set_cons_succ]
  refine doneL (by kernel_rfl) ?_ _
  clear hHeld u1
  have B1 := Lib.hid (B1.out.trans (u2.mono B1.out.size))
  have t5 := Lib.hid (t5.out.trans (u2.mono t5.out.size))
  have t9 := Lib.hid (t9.out.trans (u2.mono t9.out.size))
  have t11 : Hid (Below w11.heap.size w11 w12) := Lib.hid u2
  have N8 := Lib.hid (N8.out.below u2 (Nat.le_refl _))
  have N10 := Lib.hid (N10.out.below u2 (Nat.le_refl _))
  clear u2 HRG
  obtain ⟨⟨xa0, xa1, xa2, xa3, xa4, xa5⟩, hmv, hms⟩ := Hm.out _ t5.out
  have xlt := (Hm.out _ t5.out).1.lt
  have KC := Lib.hid (implWhere_any _ _ _ _ M F0 w12 hmv hms N8.out)
  rw [Q1.out] at KC
  clear hmv hms
  go_wp2_with fail
  clear xa0 xa1 xa2 xa3 xa4 xa5
  refine KC.out.mono ?_
  rintro e w13 ⟨vl, rfl, hol, hb⟩
  obtain ⟨la, lc, rfl⟩ := hol.form
  clear hol
  have B1 := Lib.hid (B1.out.trans (hb.mono B1.out.size))
  have t5 := Lib.hid (t5.out.trans (hb.mono t5.out.size))
  have t9 := Lib.hid (t9.out.trans (hb.mono t9.out.size))
  have t11 := Lib.hid (t11.out.trans (hb.mono t11.out.size))
  have N8 := Lib.hid (N8.out.below hb (Nat.le_refl _))
  have N10 := Lib.hid (N10.out.below hb (Nat.le_refl _))
  clear hb KC
  obtain ⟨⟨xa0, xa1, xa2, xa3, xa4, xa5⟩, hmv, hms⟩ := Ht.out _ t9.out
  have xlt := (Ht.out _ t9.out).1.lt
  have KC := Lib.hid (implEvery_any _ _ _ _ T F0 w13 hmv hms N8.out)
  clear hmv hms
  go_wp2_with fail
  clear xa0 xa1 xa2 xa3 xa4 xa5
  refine KC.out.mono ?_
  rintro e w14 ⟨rfl, hb⟩
  rw [Q2.out]
  have B1 := Lib.hid (B1.out.trans (hb.mono B1.out.size))
  have t5 := Lib.hid (t5.out.trans (hb.mono t5.out.size))
  have t9 := Lib.hid (t9.out.trans (hb.mono t9.out.size))
  have t11 := Lib.hid (t11.out.trans (hb.mono t11.out.size))
  have N8 := Lib.hid (N8.out.below hb (Nat.le_refl _))
  have N10 := Lib.hid (N10.out.below hb (Nat.le_refl _))
  clear hb KC
  obtain ⟨⟨xa0, xa1, xa2, xa3, xa4, xa5⟩, hmv, hms⟩ := Ht.out _ t9.out
  have xlt := (Ht.out _ t9.out).1.lt
  have KC := Lib.hid (implWhere_any _ _ _ _ T F1 w14 hmv hms N10.out)
  rw [Q3.out] at KC
  clear hmv hms
  go_wp2_with fail
  clear xa0 xa1 xa2 xa3 xa4 xa5
  refine KC.out.mono ?_
  rintro e w15 ⟨vl, rfl, hol, hb⟩
  obtain ⟨la, lc, rfl⟩ := hol.form
  clear hol
  have B1 := Lib.hid (B1.out.trans (hb.mono B1.out.size))
  have t5 := Lib.hid (t5.out.trans (hb.mono t5.out.size))
  have t9 := Lib.hid (t9.out.trans (hb.mono t9.out.size))
  have t11 := Lib.hid (t11.out.trans (hb.mono t11.out.size))
  have N8 := Lib.hid (N8.out.below hb (Nat.le_refl _))
  have N10 := Lib.hid (N10.out.below hb (Nat.le_refl _))
  clear hb KC
  obtain ⟨⟨xa0, xa1, xa2, xa3, xa4, xa5⟩, hmv, hms⟩ := Hx.out _ t11.out
  have xlt := (Hx.out _ t11.out).1.lt
  have KC := Lib.hid (implHolds_any _ _ _ _ X F0 w15 hmv hms N8.out)
  clear hmv hms
  go_wp2_with fail
  clear xa0 xa1 xa2 xa3 xa4 xa5
  refine KC.out.mono ?_
  rintro e w16 ⟨rfl, hb⟩
  rw [Q4.out]
  have B1 := Lib.hid (B1.out.trans (hb.mono B1.out.size))
  have t5 := Lib.hid (t5.out.trans (hb.mono t5.out.size))
  have t9 := Lib.hid (t9.out.trans (hb.mono t9.out.size))
  have t11 := Lib.hid (t11.out.trans (hb.mono t11.out.size))
  have N8 := Lib.hid (N8.out.below hb (Nat.le_refl _))
  have N10 := Lib.hid (N10.out.below hb (Nat.le_refl _))
  clear hb KC
  obtain ⟨⟨xa0, xa1, xa2, xa3, xa4, xa5⟩, hmv, hms⟩ := Hm.out _ t5.out
  have xlt := (Hm.out _ t5.out).1.lt
  have KC := Lib.hid (implKnows_any _ _ _ M 0 w16 hmv hms)
  clear hmv hms
  go_wp2_with fail
  clear xa0 xa1 xa2 xa3 xa4 xa5
  refine KC.out.mono ?_
  rintro e w17 ⟨rfl, hb⟩
  rw [Q5.out]
  have B1 := Lib.hid (B1.out.trans (hb.mono B1.out.size))
  have t5 := Lib.hid (t5.out.trans (hb.mono t5.out.size))
  have t9 := Lib.hid (t9.out.trans (hb.mono t9.out.size))
  have t11 := Lib.hid (t11.out.trans (hb.mono t11.out.size))
  have N8 := Lib.hid (N8.out.below hb (Nat.le_refl _))
  have N10 := Lib.hid (N10.out.below hb (Nat.le_refl _))
  clear hb KC
  obtain ⟨⟨xa0, xa1, xa2, xa3, xa4, xa5⟩, hmv, hms⟩ := Hx.out _ t11.out
  have xlt := (Hx.out _ t11.out).1.lt
  have KC := Lib.hid (implKnows_any _ _ _ X 0 w17 hmv hms)
  clear hmv hms
  go_wp2_with fail
  clear xa0 xa1 xa2 xa3 xa4 xa5
  refine KC.out.mono ?_
  rintro e w18 ⟨rfl, hb⟩
  rw [Q6.out]
  have B1 := Lib.hid (B1.out.trans (hb.mono B1.out.size))
  have t5 := Lib.hid (t5.out.trans (hb.mono t5.out.size))
  have t9 := Lib.hid (t9.out.trans (hb.mono t9.out.size))
  have t11 := Lib.hid (t11.out.trans (hb.mono t11.out.size))
  have N8 := Lib.hid (N8.out.below hb (Nat.le_refl _))
  have N10 := Lib.hid (N10.out.below hb (Nat.le_refl _))
  clear hb KC
  go_wp2
  go_ret
  exact ⟨rfl, B1.out⟩
end Go.Proofs.Ytodjohdbngbpaaa
