/-
  Contract of spec.RestrictModel. Condition: the list's length, which the law checks.
-/
import Derived.Test.YthnpcbnpojhpoaaZSem
import Derived.Test.YthnpcbnpojhpoaaRsp
namespace Go.Proofs.Ythnpcbnpojhpoaa
open Go.RowKit Go.WideShapes
open Go Go.Deep
set_option linter.unusedSimpArgs false

theorem memP_take_succ {l : List Int} {k a : Nat} (hk : k < l.length) : memP (l.take (k + 1)) a = (memP (l.take k) a || (l.getD k 0 == (a : Int))) := by
  unfold memP
  rw [take_snocI hk, Bool.eq_iff_iff, Bool.or_eq_true, decide_eq_true_iff, decide_eq_true_iff, List.mem_append, List.mem_singleton, beq_iff_eq]
  exact ⟨fun h => h.imp id Eq.symm, fun h => h.imp id Eq.symm⟩
/-- a cell of a row, kept -/
theorem Iv.cellAt {lo hi : Nat} {w : World} {b o n cap : Nat} {l : List Int} (h : Iv lo hi w (.slice (some ⟨b, o, none⟩) n cap) l) {W : World} (hb : Below w.heap.size w W) (j : Nat) (hj : j < l.length) : W.cell? ⟨b, o + j, none⟩ = some (.int .i64 (l.getD j 0)) := by
  obtain ⟨b', o', e, hc⟩ := h.at' hb j hj
  cases e; exact hc

set_option maxRecDepth 100000 in
set_option maxHeartbeats 16000000 in
theorem specRM_any (lo hi lo2 hi2 : Nat) (v v2 : Value) (m : Md) (l : List Int) (w : World) (hr : Mv lo hi w v m) (hr2 : Iv lo2 hi2 w v2 l) (hn : l.length ≤ 1048576) :
    Calls Try.prog 13 #[v, v2] w (MdAns2 w (restrR m l)) := by
  have KS := Lib.hid (fun W (h : Below w.heap.size w W) => specOk_any lo hi v m W (hr.keeps (Keeps.of_all h)))
  rw [specOk_mdOk] at KS
  have KW := Lib.hid (fun x W (h : Below w.heap.size w W) => specWorld_any lo hi v m x W (hr.keeps (Keeps.of_all h)))
  have HR : Hid (restrR m l = if mdOk m && ascOk l m.facts.length && l.contains m.actual then some (restM m (lst (memP l) 16)) else none) := Lib.hid rfl
  generalize hRR : restrR m l = R at *
  clear hRR
  have KC := Lib.hid (fun (hm : mdOk m = true) (ha : ascOk l m.facts.length = true) W (h : Below w.heap.size w W) => specRestr_any lo hi lo2 hi2 v v2 m (lst (memP l) 16) W (hr.keeps (Keeps.of_all h)) (by rw [asc_lst ha (mdOk_parts hm).2.1]; exact hr2.keeps (Keeps.of_all h)) hm (fun k hk => memP_bd ha _ (mem_lst.1 (List.getElem_mem hk)).2) (lst_nodup _ _) (lst_len _ _))
  have I2 := Lib.hid hr2
  obtain ⟨fv, bv, rfl, hf, hb⟩ := hr
  obtain ⟨fa, fc, rfl⟩ := hf.form
  obtain ⟨ba, bc, rfl, -⟩ := hb.parts
  obtain ⟨la, lc, rfl, hlc, hlm, hlp⟩ := hr2.parts
  unfold maxLen at hlm
  have HLP : Hid (∀ W, Below w.heap.size w W → ∀ k, k < l.length → ∃ b o, la = some ⟨b, o, none⟩ ∧ ∀ j, j < l.length → W.cell? ⟨b, o + j, none⟩ = some (.int .i64 (l.getD j 0))) := Lib.hid (fun W hW k hk => by
    obtain ⟨b, o, e, _⟩ := hlp k hk
    subst e
    exact ⟨b, o, rfl, fun j hj => I2.out.cellAt hW j hj⟩)
  clear hf hb hlp hr2 I2
  cases hm : mdOk m with
  | false =>
    rw [hm] at KS HR
    have HR' : Hid (R = none) := Lib.hid (by rw [HR.out]; rfl)
    clear hm HR KW KC HLP
    go_enter Try.func13, Try.ntmps13
    go_wp2_with fail
    refine (KS.out _ (by go_grown)).mono ?_
    rintro e w1 ⟨rfl, hb1⟩
    have X1 := Lib.hid (Mcell.below (b := w.heap.size) ((Mcell.new rfl).alloc _) hb1)
    have M1 := Lib.hid (Mcell.below (b := w.heap.size + 1) (Mcell.new (by simp)) hb1)
    have B1 : Hid (Below w.heap.size w w1) := Lib.hid (Below.trans (by go_grown) (hb1.mono (by simp; omega)))
    clear hb1
    obtain ⟨x1c0, x1c1, x1c2, x1c3, x1c4, x1c5⟩ := X1.out
    obtain ⟨m1c0, m1c1, m1c2, m1c3, m1c4, m1c5⟩ := M1.out
    go_wp2
    clear x1c0 x1c1 x1c2 x1c3 x1c4 x1c5 m1c0 m1c1 m1c2 m1c3 m1c4 m1c5
    have M6 := M1.out.write (.slice none 0 0) (.slice none 0 0) 0
    refine bodyPost_ret (results_mid2 Try.results13 _ _ (w.heap.size + 1) _ _ (.bool false) rfl rfl M6.range Try.underlying27 rfl Try.sizeMd) rfl ?_
    rw [HR'.out]
    exact ⟨_, rfl, Mo.none _ _ _, ((B1.out.setCell (by show _ ≤ w.heap.size + 1; omega) _).setCell (by show _ ≤ w.heap.size + 1; omega) _).setCell (by show _ ≤ w.heap.size + 1; omega) _⟩
  | true =>
    rw [hm] at KS HR
    have HMD := Lib.hid hm
    obtain ⟨p1, p2, p3, p4, -, -, p7, p8⟩ := mdOk_parts hm
    obtain ⟨act, hact⟩ := Int.eq_ofNat_of_zero_le p7
    have HMEM : Hid (l.contains m.actual = memP l act) := Lib.hid (by rw [hact]; unfold memP; rw [Bool.eq_iff_iff, List.contains_iff_mem, decide_eq_true_iff])
    rw [HMEM.out] at HR
    have HACT := Lib.hid hact
    have HB0 : Hid (bef l 0 = -1) := Lib.hid rfl
    have HNO := Lib.hid (fun k hk h => ascOk_no (l := l) (n := m.facts.length) (k := k) hk h)
    have HMS := Lib.hid (fun k hk => memP_take_succ (l := l) (k := k) (a := act) hk)
    have HM0 : Hid (memP (l.take 0) act = false) := Lib.hid (by simp [memP])
    clear hm hact HMEM p3 p4 p7 p8
    go_enter Try.func13, Try.ntmps13
    go_wp2_with fail
    refine (KS.out _ (by go_grown)).mono ?_
    rintro e w1 ⟨rfl, hb1⟩
    have X1 := Lib.hid (Mcell.below (b := w.heap.size) ((Mcell.new rfl).alloc _) hb1)
    have M1 := Lib.hid (Mcell.below (b := w.heap.size + 1) (Mcell.new (by simp)) hb1)
    have B1 : Hid (Below w.heap.size w w1) := Lib.hid (Below.trans (by go_grown) (hb1.mono (by simp; omega)))
    clear hb1
    go_wp2
    go_loopw [6, 15] (fun fv iv wr => ∃ k : Nat, k ≤ l.length ∧ iv = .int .i64 k ∧ fv = .bool (memP (l.take k) act) ∧ Hid (okTo l m.facts.length k) ∧ Hid (Mcell wr w.heap.size (.slice fa m.facts.length fc) (.slice ba m.blocks.length bc) m.actual) ∧ Hid (Mcell wr (w.heap.size + 1) (.slice none 0 0) (.slice none 0 0) 0) ∧ Hid (Below w.heap.size w wr)) (fun _ iv _ => l.length - (intOf iv).toNat)
    case atStart => exact ⟨0, Nat.zero_le _, rfl, by rw [HM0.out], Lib.hid (fun i hi => by omega), X1, M1, B1⟩
    case round =>
      clear X1 M1 B1
      obtain ⟨k, hk, rfl, rfl, HOK, XR, MR, BR⟩ := hrel
      by_cases hlt : k < l.length
      · obtain ⟨b, o, rfl, hc0⟩ := HLP.out _ BR.out k hlt
        have HC0 := Lib.hid hc0
        have c0 := hc0 k hlt
        have hlow := bef_low HOK.out
        have HN := Lib.hid (HNO.out k hlt)
        have HM := Lib.hid (HMS.out k hlt)
        have HX : ∃ x, Hid (x = l.getD k 0) := ⟨_, Lib.hid rfl⟩
        obtain ⟨x, HX⟩ := HX
        rw [← HX.out] at c0 HN HM
        clear hc0
        have KWx := Lib.hid (KW.out x)
        obtain ⟨in', hin⟩ : ∃ q, q = inB x m.facts.length := ⟨_, rfl⟩
        rw [← hin] at KWx
        cases in' with
        | false =>
          have hno := inB_not hin.symm
          have HF : Hid (ascOk l m.facts.length = false) := Lib.hid (HN.out (by omega))
          have HR' : Hid (R = none) := Lib.hid (by rw [HR.out, HF.out]; rfl)
          clear hin hno HR
          obtain ⟨x1c0, x1c1, x1c2, x1c3, x1c4, x1c5⟩ := XR.out
          go_wp2_with fail
          clear x1c0 x1c1 x1c2 x1c3 x1c4 x1c5 c0
          refine (KWx.out _ BR.out).mono ?_
          rintro e w2 ⟨rfl, hb2⟩
          have M2 := Lib.hid (MR.out.below hb2)
          have B2 := Lib.hid (BR.out.trans (hb2.mono BR.out.size))
          clear hb2
          obtain ⟨m1c0, m1c1, m1c2, m1c3, m1c4, m1c5⟩ := M2.out
          go_wp2
          clear m1c0 m1c1 m1c2 m1c3 m1c4 m1c5
          have M6 := M2.out.write (.slice none 0 0) (.slice none 0 0) 0
          refine bodyPost_ret (results_mid2 Try.results13 _ _ (w.heap.size + 1) _ _ (.bool false) rfl rfl M6.range Try.underlying27 rfl Try.sizeMd) rfl ?_
          rw [HR'.out]
          exact ⟨_, rfl, Mo.none _ _ _, ((B2.out.setCell (by show _ ≤ w.heap.size + 1; omega) _).setCell (by show _ ≤ w.heap.size + 1; omega) _).setCell (by show _ ≤ w.heap.size + 1; omega) _⟩
        | true =>
          obtain ⟨hx0, hxn⟩ := inB_parts hin.symm
          clear hin
          by_cases hq : bef l k < x
          case' neg =>
            have HF : Hid (ascOk l m.facts.length = false) := Lib.hid (HN.out (by omega))
            have HR' : Hid (R = none) := Lib.hid (by rw [HR.out, HF.out]; rfl)
            have hk0 : 0 < k := by
              rcases Nat.eq_zero_or_pos k with h | h
              · subst h; rw [HB0.out] at hq; omega
              · exact h
            obtain ⟨j, rfl⟩ : ∃ j, k = j + 1 := ⟨k - 1, by omega⟩
            have hq' : x ≤ l.getD j 0 := by rw [bef_succ] at hq; omega
            obtain ⟨y, hy⟩ : ∃ y, y = l.getD j 0 := ⟨_, rfl⟩
            rw [← hy] at hq'
            have HY := Lib.hid hy
            have hd : decide (x ≤ y) = true := decide_eq_true hq'
            clear HR hq hq' hk0 hy
            have hw : IntKind.i64.wrap (((j + 1 : Nat) : Int) - 1) = (j : Int) := by rw [show ((j + 1 : Nat) : Int) - 1 = (j : Int) by omega]; exact IntWalk.i64_in _ (by omega)
            obtain ⟨x1c0, x1c1, x1c2, x1c3, x1c4, x1c5⟩ := XR.out
            go_wp2_with fail
            clear x1c0 x1c1 x1c2 x1c3 x1c4 x1c5 c0
            refine (KWx.out _ BR.out).mono ?_
            rintro e w2 ⟨rfl, hb2⟩
            have M2 := Lib.hid (MR.out.below hb2)
            have B2 := Lib.hid (BR.out.trans (hb2.mono BR.out.size))
            clear hb2
            obtain ⟨b', o', e', hc2⟩ := HLP.out _ B2.out 0 (by omega)
            cases e'
            have c1 := hc2 j (by omega)
            rw [← HY.out] at c1
            clear hc2
            obtain ⟨m1c0, m1c1, m1c2, m1c3, m1c4, m1c5⟩ := M2.out
            go_wp2
            clear m1c0 m1c1 m1c2 m1c3 m1c4 m1c5 c1
            have M6 := M2.out.write (.slice none 0 0) (.slice none 0 0) 0
            refine bodyPost_ret (results_mid2 Try.results13 _ _ (w.heap.size + 1) _ _ (.bool false) rfl rfl M6.range Try.underlying27 rfl Try.sizeMd) rfl ?_
            rw [HR'.out]
            exact ⟨_, rfl, Mo.none _ _ _, ((B2.out.setCell (by show _ ≤ w.heap.size + 1; omega) _).setCell (by show _ ≤ w.heap.size + 1; omega) _).setCell (by show _ ≤ w.heap.size + 1; omega) _⟩
          case' pos =>
            have HO2 := Lib.hid (okTo_succ HOK.out (by rw [← HX.out]; exact hq) (by rw [← HX.out]; exact hxn))
            have KEEP : 0 < k → Hid (∃ y, Hid (y = l.getD (k - 1) 0) ∧ y < x) := fun hk0 => Lib.hid ⟨_, Lib.hid rfl, by
              have h := hq
              unfold bef at h
              rw [if_neg (by omega)] at h
              exact h⟩
            clear hq HN HR
            obtain ⟨x1c0, x1c1, x1c2, x1c3, x1c4, x1c5⟩ := XR.out
            go_wp2_with fail
            clear x1c0 x1c1 x1c2 x1c3 x1c4 x1c5 c0
            refine (KWx.out _ BR.out).mono ?_
            rintro e w2 ⟨rfl, hb2⟩
            have X2 := Lib.hid (XR.out.below hb2)
            have M2 := Lib.hid (MR.out.below hb2)
            have B2 := Lib.hid (BR.out.trans (hb2.mono BR.out.size))
            clear hb2
            obtain ⟨x1c0, x1c1, x1c2, x1c3, x1c4, x1c5⟩ := X2.out
            obtain ⟨bb, hbb⟩ : ∃ bb, bb = memP (l.take k) act := ⟨_, rfl⟩
            rw [← hbb] at HM ⊢
            clear hbb
            obtain ⟨qq, hqq⟩ : ∃ qq, qq = (x == m.actual) := ⟨_, rfl⟩
            have HQ : Hid ((x == (act : Int)) = qq) := Lib.hid (by rw [hqq, HACT.out])
            have hqq' := hqq.symm
            clear hqq
            rcases Nat.eq_zero_or_pos k with hk0 | hk0
            case' inl =>
              clear KEEP
              have dk : decide (0 < k) = false := decide_eq_false (by omega)
              have dk' : decide ((0 : Int) < (k : Int)) = false := decide_eq_false (by omega)
              clear hk0
            case' inr =>
              obtain ⟨j, rfl⟩ : ∃ j, k = j + 1 := ⟨k - 1, by omega⟩
              obtain ⟨b', o', e', hc2⟩ := HLP.out _ B2.out 0 (by omega)
              cases e'
              have c1 := hc2 j (by omega)
              obtain ⟨y, HY, hyx⟩ := (KEEP hk0).out
              have HY' : Hid (y = l.getD j 0) := HY
              rw [← HY'.out] at c1
              have hd : decide (x ≤ y) = false := decide_eq_false (by omega)
              have hw : IntKind.i64.wrap (((j + 1 : Nat) : Int) - 1) = (j : Int) := by rw [show ((j + 1 : Nat) : Int) - 1 = (j : Int) by omega]; exact IntWalk.i64_in _ (by omega)
              clear hc2 KEEP hyx hk0
            all_goals
              cases bb
              all_goals
                cases qq
                all_goals
                  go_wp2
                  clear x1c0 x1c1 x1c2 x1c3 x1c4 x1c5
                  go_roundw
                  case rel => exact ⟨_, hlt, by go_num, by rw [HM.out]; simp [HQ.out], HO2, X2, M2, B2⟩
                  case measure => simp [intOf]; omega
      · have HT : Hid (ascOk l m.facts.length = true) := Lib.hid (decide_eq_true (fun i hi => HOK.out i (by omega)))
        have HLT : Hid (l.take k = l) := Lib.hid (List.take_of_length_le (by omega))
        have KC' := Lib.hid (KC.out HMD.out HT.out)
        rw [HT.out] at HR
        rw [HLT.out]
        obtain ⟨bb, hbb⟩ : ∃ bb, bb = memP l act := ⟨_, rfl⟩
        rw [← hbb] at HR ⊢
        clear hbb KC HLP HMS HNO
        cases bb with
        | false =>
          have HR' : Hid (R = none) := Lib.hid (by rw [HR.out]; rfl)
          clear HR KC'
          obtain ⟨m1c0, m1c1, m1c2, m1c3, m1c4, m1c5⟩ := MR.out
          go_wp2
          clear m1c0 m1c1 m1c2 m1c3 m1c4 m1c5
          have M6 := MR.out.write (.slice none 0 0) (.slice none 0 0) 0
          refine bodyPost_ret (results_mid2 Try.results13 _ _ (w.heap.size + 1) _ _ (.bool false) rfl rfl M6.range Try.underlying27 rfl Try.sizeMd) rfl ?_
          rw [HR'.out]
          exact ⟨_, rfl, Mo.none _ _ _, ((BR.out.setCell (by show _ ≤ w.heap.size + 1; omega) _).setCell (by show _ ≤ w.heap.size + 1; omega) _).setCell (by show _ ≤ w.heap.size + 1; omega) _⟩
        | true =>
          have HR' : Hid (R = some (restM m (lst (memP l) 16))) := Lib.hid (by rw [HR.out]; rfl)
          generalize restM m (lst (memP l) 16) = RM at *
          clear HR
          obtain ⟨x1c0, x1c1, x1c2, x1c3, x1c4, x1c5⟩ := XR.out
          go_wp2_with fail
          clear x1c0 x1c1 x1c2 x1c3 x1c4 x1c5
          refine (KC'.out _ BR.out).mono ?_
          rintro e w3 ⟨v3, rfl, ho3, hb3⟩
          have M3 := Lib.hid (MR.out.below hb3)
          have B3 := Lib.hid (BR.out.trans (hb3.mono BR.out.size))
          have O3 := Lib.hid ho3
          obtain ⟨qa, qc, pa, pc, e3⟩ := ho3.read.form
          subst e3
          have hz : w.heap.size + 1 < w3.heap.size := M3.out.lt
          have hz2 : w.heap.size + 1 < wr.heap.size := MR.out.lt
          clear ho3 hb3
          obtain ⟨m3c0, m3c1, m3c2, m3c3, m3c4, m3c5⟩ := M3.out
          go_wp2
          clear m3c0 m3c1 m3c2 m3c3 m3c4 m3c5
          obtain ⟨o6, b6, m6⟩ := ans_put (m := RM) M3.out O3.out hz2 (by omega) (Nat.le_refl _) B3.out
          refine bodyPost_ret (results_mid2 Try.results13 _ _ (w.heap.size + 1) _ _ (.bool true) rfl rfl m6.range Try.underlying27 rfl Try.sizeMd) rfl ?_
          rw [HR'.out]
          exact ⟨_, rfl, o6, b6⟩
end Go.Proofs.Ythnpcbnpojhpoaa
