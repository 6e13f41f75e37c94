/-
  The walk of the law FnModels: it returns true and writes nothing that was there. No condition.
-/
import Derived.Test.YthnpcbnpojhpoaaFmm
import Derived.Test.YthnpcbnpojhpoaaZDrw
import Derived.Test.YthnpcbnpojhpoaaRma
import Derived.Test.YthnpcbnpojhpoaaZSet
import Derived.Test.YthnpcbnpojhpoaaZMok
namespace Go.Proofs.Ythnpcbnpojhpoaa
open Go.RowKit Go.WideShapes
open Go Go.Deep
set_option linter.unusedSimpArgs false

theorem mrow_nums (n : Nat) : mrow 0 n = nums (List.range n) := by unfold mrow nums; exact List.map_congr_left fun i _ => by simp
theorem restr_all {m : Md} (hm : mdOk m = true) : restrR m (mrow 0 m.facts.length) = some m := by
  obtain ⟨p1, p2, p3, p4, p5, p6, p7, p8⟩ := mdOk_parts hm
  rw [mrow_nums, ← lst_all p2, restr_lst hm (fun i hi => of_decide_eq_true hi) (decide_eq_true (by omega)), lst_all p2, restM_all hm]
theorem reachR_eq {m : Md} {i : Nat} (hm : mdOk m = true) (hi : i < m.facts.length) : reachR m (i : Int) = nums (lst (reachB m.blocks m.facts.length m.blocks.length i) 16) := by
  unfold reachR
  rw [hm, inB_yes (Int.natCast_nonneg _) (by omega), Int.toNat_natCast]; rfl
theorem same_reached {m : Md} {x v i : Nat} (hs : sameB m 0 v i = true) (hi : reachB m.blocks m.facts.length m.blocks.length x i = true) : reachB m.blocks m.facts.length m.blocks.length x v = true := by
  unfold sameB inB at hs
  simp only [Bool.and_eq_true, decide_eq_true_eq] at hs
  obtain ⟨⟨⟨⟨h1, h2⟩, h3⟩, h4⟩, h5⟩ := hs
  refine wsh_more (fun _ _ => stepP_in) hi ?_
  unfold stepP near
  simp only [Bool.and_eq_true, decide_eq_true_eq, List.any_eq_true, List.mem_range, beq_iff_eq]
  simp only [Int.toNat_natCast] at h5
  exact ⟨⟨by omega, by omega⟩, 0, by omega, h5.symm⟩
theorem tellR_eq {m : Md} (hm : mdOk m = true) : tellR m 0 1 = some (tellM m 0 1) := by
  obtain ⟨p1, p2, p3, p4, p5, p6, p7, p8⟩ := mdOk_parts hm
  unfold tellR
  rw [hm, inB_yes (by decide) (by omega), inB_yes (by decide) (by decide)]; rfl

set_option maxRecDepth 100000 in
set_option maxHeartbeats 64000000 in
theorem walk_FnModels (v0 : Value) (len : Nat) (w : World) (h0 : InBytes w v0 len) :
    Calls Try.prog 10 #[v0] w fun e w' => e = .returned (.bool true) ∧ Below w.heap.size w w' := by
  obtain ⟨a0, cap0, rfl, hlc, hcm, -⟩ := id h0
  unfold maxLen at hcm
  by_cases hbig : 1048576 < len
  · clear h0
    go_enter Try.func10, Try.ntmps10
    go_wp2
    go_ret
    exact ⟨rfl, Below.refl _ _⟩
  have hcode := h0.code (by omega)
  have KM : Hid (Calls Try.prog 42 #[.slice a0 len cap0, .int .i64 0, .int .i64 7] w fun e w' => ∃ v m, e = .returned v ∧ Mo w.heap.size w'.heap.size w' v m ∧ drawnM m 7 ∧ Below w.heap.size w w') := Lib.hid (makeModel_any w _ 0 7 (by decide) (by omega) hcode)
  clear h0 hcode
  go_enter Try.func10, Try.ntmps10
  go_wp2_with fail
  refine KM.out.mono ?_
  rintro e w1 ⟨vm, m, rfl, hmo, ⟨hmd, hn7, ha2, hf8⟩, hb1⟩
  clear KM
  obtain ⟨fa, fc, ba, bc, e1⟩ := hmo.read.form
  subst e1
  have XO := Lib.hid hmo.read
  have HMD := Lib.hid hmd
  obtain ⟨p1, p2, p3, p4, p5, p6, p7, p8⟩ := mdOk_parts hmd
  have HRA := Lib.hid (restr_all hmd)
  obtain ⟨act, hact⟩ := Int.eq_ofNat_of_zero_le p7
  have hactn : act < m.facts.length := by omega
  obtain ⟨R, hRd⟩ : ∃ R, R = reachB m.blocks m.facts.length m.blocks.length act := ⟨_, rfl⟩
  have hRI : ∀ i, R i = true → i < m.facts.length := fun i hi => reach_in hactn (by rw [hRd] at hi; exact hi)
  have hRA0 : R act = true := by rw [hRd]; exact wsh_refl _ _ _
  have hRS : ∀ i : Nat, R i = true → reachR m (i : Int) = nums (lst R 16) := fun i hi => by
    rw [reachR_eq hmd (hRI i hi), hRd]
    exact congrArg nums (reach_cls (by rw [← hRd]; exact hi))
  have HRH := Lib.hid (fun (v i : Nat) (hs : sameB m 0 v i = true) (hi : R i = true) => (by rw [hRd] at hi ⊢; exact same_reached hs hi : R v = true))
  have hmem : m.actual.toNat ∈ lst R 16 := mem_lst.2 ⟨by omega, by rw [hact, Int.toNat_natCast]; exact hRA0⟩
  have HRY := Lib.hid (restr_lst hmd hRI (by rw [hact, Int.toNat_natCast]; exact hRA0))
  have HYO := Lib.hid (restM_ok hmd (lst_nodup R 16) (fun i hi => hRI i (mem_lst.1 hi).2) hmem)
  have HYC : Hid ((if specOk (restM m (lst R 16)) then (restM m (lst R 16)).facts.length else 0) = (nums (lst R 16)).length) := Lib.hid (by rw [specOk_mdOk, HYO.out, if_pos rfl, nums_len]; exact pick_len _ _)
  have HRE : Hid (reachR m m.actual = nums (lst R 16)) := Lib.hid (by rw [hact]; exact hRS act hRA0)
  have HEL : Hid (∀ k, k < (nums (lst R 16)).length → ∃ i : Nat, (nums (lst R 16)).getD k 0 = (i : Int) ∧ R i = true ∧ i < m.facts.length ∧ reachR m (i : Int) = nums (lst R 16)) := Lib.hid (fun k hk => by
    rw [nums_len] at hk
    have hm : (lst R 16).getD k 0 ∈ lst R 16 := by rw [List.getD_eq_getElem?_getD, List.getElem?_eq_getElem hk]; exact List.getElem_mem _
    have hr := (mem_lst.1 hm).2
    exact ⟨(lst R 16).getD k 0, getD_nums hk, hr, hRI _ hr, hRS _ hr⟩)
  have HHB : Hid (∀ v : Nat, R v = true → hasB (nums (lst R 16)) (v : Int) = true) := Lib.hid (fun v hv => decide_eq_true (mem_nums.2 ⟨v, mem_lst.2 ⟨by have := hRI v hv; omega, hv⟩, rfl⟩))
  have HRL : Hid ((nums (lst R 16)).length ≤ 16) := Lib.hid (by rw [nums_len]; exact lst_len _ _)
  generalize restM m (lst R 16) = y at *
  generalize nums (lst R 16) = rl at *
  clear hRd hRS hmem hRA0 hRI
  have B1 := Lib.hid hb1
  clear hmo hmd hf8 hb1 p5 p6 hact hactn
  go_wp2_with fail
  have A2 := Lib.hid (Mcell.new (w := w1) (T := 27) (b := w1.heap.size) (fv := .slice fa m.facts.length fc) (bv := .slice ba m.blocks.length bc) (n := m.actual) rfl)
  have hb2 : Below w1.heap.size w1 (w1.alloc (.cells #[.slice fa m.facts.length fc, .slice ba m.blocks.length bc, .int .i64 m.actual] 27)) := by go_grown
  have hz2 : (w1.alloc (.cells #[.slice fa m.facts.length fc, .slice ba m.blocks.length bc, .int .i64 m.actual] 27)).heap.size = w1.heap.size + 1 := by simp
  generalize w1.alloc (.cells #[.slice fa m.facts.length fc, .slice ba m.blocks.length bc, .int .i64 m.actual] 27) = w2 at *
  have B2 : Hid (Below w.heap.size w w2) := Lib.hid (B1.out.trans (hb2.mono B1.out.size))
  have XO := Lib.hid (XO.out.keeps (Keeps.of_all hb2))
  have s12 : w1.heap.size ≤ w2.heap.size := hb2.size
  have sw1 : w.heap.size ≤ w1.heap.size := B1.out.size
  have HM : Hid (∀ W, Below w2.heap.size w2 W → Mcell W w1.heap.size (.slice fa m.facts.length fc) (.slice ba m.blocks.length bc) m.actual) := Lib.hid (fun W h => A2.out.below h)
  have HV : Hid (∀ W, Below w2.heap.size w2 W → Mv w.heap.size w1.heap.size W (.agg #[.slice fa m.facts.length fc, .slice ba m.blocks.length bc, .int .i64 m.actual]) m ∧ w1.heap.size ≤ W.heap.size) := Lib.hid (fun W h => ⟨XO.out.keeps (Keeps.of_all h), Nat.le_trans s12 h.size⟩)
  clear hb2 B1 XO A2
  go_loopw [4, 25] (fun lv iv wr => ∃ (k : Nat) (lv' : Value), k ≤ m.facts.length ∧ iv = .int .i64 k ∧ lv' = lv ∧ Hid (wr.ownsRow w2.heap.size 3 1 lv' k (ints (mrow 0 k))) ∧ Hid (Below w2.heap.size w2 wr)) (fun _ iv _ => m.facts.length - (intOf iv).toNat)
  case atStart => exact ⟨0, _, Nat.zero_le _, rfl, rfl, Lib.hid (by rw [← hz2]; exact World.ownsRow_lit w2 #[] 0 (Nat.le_refl _) (Nat.zero_le _) rfl), Lib.hid (by go_grown)⟩
  case round =>
    obtain ⟨k, lv, hk, rfl, rfl, LR, BR⟩ := hrel
    by_cases hlt : k < m.facts.length
    · have hsz : w2.heap.size ≤ wr.heap.size := BR.out.size
      have HLB : Hid (∀ q, lv.ownBlock = some q → w2.heap.size ≤ q) := Lib.hid (fun q hq => (LR.out.lt q hq).1)
      have tk1 : True := trivial
      go_wp2_with
        (first
          | (have _t := tk1; clear _t tk1; at_builtin; refine wpList_pushL rfl (.tmp 28) (.tmp 30) 22 31 rfl rfl 3 (.int .i64 0) 8 Try.underlying22 Try.infoI rfl w2.heap.size (.int .i64 k) lv k (ints (mrow 0 k)) LR.out rfl wr.heap.size rfl rfl rfl (by unfold maxLen; omega) (by omega) hsz ?_; intro v6 w6 hown hg; have L6 := Lib.hid hown; have B6 : Hid (Below w2.heap.size w2 w6) := Lib.hid (BR.out.trans (hg.below hsz HLB.out)); clear hown hg))
      go_roundw
      case rel =>
        refine ⟨k + 1, _, by omega, by go_num, rfl, Lib.hid ?_, B6⟩
        rw [mrow_succ, ints_app]
        exact L6.out
      case measure => simp [intOf]; omega
    · obtain rfl : k = m.facts.length := by omega
      have I3 : Hid (Io w2.heap.size wr.heap.size wr lv (mrow 0 m.facts.length)) := Lib.hid (Ro.of_own LR.out)
      clear LR
      obtain ⟨w3, rfl⟩ : ∃ w3 : World, w3 = wr := ⟨_, rfl⟩
      obtain ⟨xa0, xa1, xa2, xa3, xa4, xa5⟩ := HM.out _ BR.out
      have xlt := (HM.out _ BR.out).lt
      have KR := Lib.hid (implRestr_any _ _ _ _ _ lv m _ w3 (HV.out _ BR.out).1 (HV.out _ BR.out).2 I3.out.read (by simp [mrow]; omega))
      rw [HRA.out] at KR
      go_wp2_with fail
      clear xa0 xa1 xa2 xa3 xa4 xa5
      refine KR.out.mono ?_
      rintro e w4 ⟨vx, rfl, hox, hb4⟩
      clear KR I3
      change Mo _ _ _ vx m at hox
      obtain ⟨fa4, fc4, ba4, bc4, e4⟩ := hox.read.form
      subst e4
      have X4 := Lib.hid hox.read
      have B4 := Lib.hid (BR.out.trans (hb4.mono BR.out.size))
      have s34 : w3.heap.size ≤ w4.heap.size := hb4.size
      clear hox hb4 BR
      obtain ⟨xa0, xa1, xa2, xa3, xa4, xa5⟩ := HM.out _ B4.out
      have xlt := (HM.out _ B4.out).lt
      go_wp2_with fail
      clear xa0 xa1 xa2 xa3 xa4 xa5
      have A5 := Lib.hid (Mcell.new (w := w4) (T := 27) (b := w4.heap.size) (fv := .slice fa4 m.facts.length fc4) (bv := .slice ba4 m.blocks.length bc4) (n := m.actual) rfl)
      have hb5 : Below w4.heap.size w4 (w4.alloc (.cells #[.slice fa4 m.facts.length fc4, .slice ba4 m.blocks.length bc4, .int .i64 m.actual] 27)) := by go_grown
      generalize w4.alloc (.cells #[.slice fa4 m.facts.length fc4, .slice ba4 m.blocks.length bc4, .int .i64 m.actual] 27) = w5 at *
      have B5 := Lib.hid (B4.out.trans (hb5.mono B4.out.size))
      have X5 := Lib.hid (X4.out.keeps (Keeps.of_all hb5))
      have s45 : w4.heap.size ≤ w5.heap.size := hb5.size
      clear hb5 B4 X4
      have KE := Lib.hid (implReached_any _ _ _ m m.actual w5 (HV.out _ B5.out).1 (HV.out _ B5.out).2)
      rw [HRE.out] at KE
      refine KE.out.mono ?_
      rintro e w6 ⟨vr, rfl, hor, hb6⟩
      clear KE
      have R6 := Lib.hid hor.read
      have B6 := Lib.hid (B5.out.trans (hb6.mono B5.out.size))
      have X6 := Lib.hid (X5.out.keeps (Keeps.of_all hb6))
      have A6 := Lib.hid (A5.out.below hb6)
      have s56 : w5.heap.size ≤ w6.heap.size := hb6.size
      clear hor hb6 B5 X5 A5
      obtain ⟨ra, rc, rfl⟩ := R6.out.form
      obtain ⟨xa0, xa1, xa2, xa3, xa4, xa5⟩ := HM.out _ B6.out
      have xlt := (HM.out _ B6.out).lt
      have KR := Lib.hid (implRestr_any _ _ _ _ _ (.slice ra rl.length rc) m _ w6 (HV.out _ B6.out).1 (HV.out _ B6.out).2 R6.out (by have := HRL.out; omega))
      rw [HRY.out] at KR
      go_wp2_with fail
      clear xa0 xa1 xa2 xa3 xa4 xa5
      refine KR.out.mono ?_
      rintro e w7 ⟨vy, rfl, hoy, hb7⟩
      clear KR
      change Mo _ _ _ vy y at hoy
      obtain ⟨fa7, fc7, ba7, bc7, e7⟩ := hoy.read.form
      subst e7
      have Y7 := Lib.hid hoy.read
      have R7 := Lib.hid (R6.out.keeps (Keeps.of_all hb7))
      have B7 := Lib.hid (B6.out.trans (hb7.mono B6.out.size))
      have X7 := Lib.hid (X6.out.keeps (Keeps.of_all hb7))
      have A7 := Lib.hid (A6.out.below hb7)
      have s67 : w6.heap.size ≤ w7.heap.size := hb7.size
      clear hoy hb7 B6 X6 A6 R6
      obtain ⟨xa0, xa1, xa2, xa3, xa4, xa5⟩ := HM.out _ B7.out
      have xlt := (HM.out _ B7.out).lt
      obtain ⟨xb0, xb1, xb2, xb3, xb4, xb5⟩ := A7.out
      have xblt := A7.out.lt
      go_wp2_with fail
      clear xa0 xa1 xa2 xa3 xa4 xa5 xb0 xb1 xb2 xb3 xb4 xb5
      have Z8 := Lib.hid (Mcell.new (w := w7) (T := 27) (b := w7.heap.size) (fv := .slice fa7 y.facts.length fc7) (bv := .slice ba7 y.blocks.length bc7) (n := y.actual) rfl)
      have hb8 : Below w7.heap.size w7 (w7.alloc (.cells #[.slice fa7 y.facts.length fc7, .slice ba7 y.blocks.length bc7, .int .i64 y.actual] 27)) := by go_grown
      generalize w7.alloc (.cells #[.slice fa7 y.facts.length fc7, .slice ba7 y.blocks.length bc7, .int .i64 y.actual] 27) = w8 at *
      have B8 := Lib.hid (B7.out.trans (hb8.mono B7.out.size))
      have X8 := Lib.hid (X7.out.keeps (Keeps.of_all hb8))
      have Y8 := Lib.hid (Y7.out.keeps (Keeps.of_all hb8))
      have R8 := Lib.hid (R7.out.keeps (Keeps.of_all hb8))
      have s78 : w7.heap.size ≤ w8.heap.size := hb8.size
      clear hb8 B7 X7 Y7 A7 R7
      refine (implSameM_any _ _ _ _ _ _ m m w8 X8.out (HV.out _ B8.out).1).mono ?_
      rintro e w9 ⟨rfl, hb9⟩
      rw [same_self]
      have B9 := Lib.hid (B8.out.trans (hb9.mono B8.out.size))
      have Y9 := Lib.hid (Y8.out.keeps (Keeps.of_all hb9))
      have R9 := Lib.hid (R8.out.keeps (Keeps.of_all hb9))
      have Z9 := Lib.hid (Z8.out.below hb9)
      have s89 : w8.heap.size ≤ w9.heap.size := hb9.size
      clear hb9 B8 X8 Y8 R8 Z8
      have KO := Lib.hid (implOk_m _ _ _ y w9 Y9.out (by omega))
      rw [HYO.out] at KO
      obtain ⟨xb0, xb1, xb2, xb3, xb4, xb5⟩ := Z9.out
      have xblt := Z9.out.lt
      go_wp2_with fail
      clear xb0 xb1 xb2 xb3 xb4 xb5
      refine KO.out.mono ?_
      rintro e w10 ⟨rfl, hb10⟩
      have B10 := Lib.hid (B9.out.trans (hb10.mono B9.out.size))
      have Y10 := Lib.hid (Y9.out.keeps (Keeps.of_all hb10))
      have R10 := Lib.hid (R9.out.keeps (Keeps.of_all hb10))
      have Z10 := Lib.hid (Z9.out.below hb10)
      have s910 : w9.heap.size ≤ w10.heap.size := hb10.size
      clear hb10 B9 Y9 R9 Z9 KO
      have KC := Lib.hid (implCount_any _ _ _ y w10 Y10.out (by omega))
      rw [HYC.out] at KC
      obtain ⟨xb0, xb1, xb2, xb3, xb4, xb5⟩ := Z10.out
      have xblt := Z10.out.lt
      go_wp2_with fail
      clear xb0 xb1 xb2 xb3 xb4 xb5
      refine KC.out.mono ?_
      rintro e w11 ⟨rfl, hb11⟩
      have B11 := Lib.hid (B10.out.trans (hb11.mono B10.out.size))
      have R11 := Lib.hid (R10.out.keeps (Keeps.of_all hb11))
      clear hb11 B10 Y10 R10 Z10 KC
      have hrl16 : rl.length ≤ 16 := HRL.out
      have s011 : w1.heap.size ≤ w11.heap.size := (HV.out _ B11.out).2
      have HW : Hid (∀ W, Below w11.heap.size w11 W → Below w2.heap.size w2 W) := Lib.hid (fun W h => B11.out.trans (h.mono B11.out.size))
      go_wp2
      go_loopw [75] (fun iv wr => ∃ k : Nat, k ≤ rl.length ∧ iv = .int .i64 k ∧ Hid (Below w11.heap.size w11 wr)) (fun iv _ => rl.length - (intOf iv).toNat)
      case atStart => exact ⟨0, Nat.zero_le _, rfl, Lib.hid (Below.refl _ _)⟩
      case round =>
        obtain ⟨k, hk, rfl, BR⟩ := hrel
        obtain ⟨wo, rfl⟩ : ∃ wo : World, wo = wr := ⟨_, rfl⟩
        by_cases hlt : k < rl.length
        · obtain ⟨i, e, hRi, hin, hre⟩ := HEL.out k hlt
          obtain ⟨ra', rc', e', -, -, h3⟩ := (R11.out.keeps (Keeps.of_all BR.out)).parts
          cases e'
          obtain ⟨b1, o1, rfl, -, -, hb1, d0⟩ := h3 k hlt
          rw [e] at d0
          have HRI := Lib.hid hRi
          have KE := Lib.hid (implReached_any _ _ _ m i wo (HV.out _ (HW.out _ BR.out)).1 (HV.out _ (HW.out _ BR.out)).2)
          rw [hre] at KE
          have k0 : (0 : Int) ≤ (k : Int) := Int.natCast_nonneg _
          have kn : (k : Int) < (rl.length : Int) := by omega
          clear h3 hre hRi e
          obtain ⟨xa0, xa1, xa2, xa3, xa4, xa5⟩ := HM.out _ (HW.out _ BR.out)
          have xlt := (HM.out _ (HW.out _ BR.out)).lt
          go_wp2_with fail
          clear xa0 xa1 xa2 xa3 xa4 xa5 d0
          refine KE.out.mono ?_
          rintro e w12 ⟨vq, rfl, hoq, hb12⟩
          have Q12 := Lib.hid hoq.read
          have B12 := Lib.hid (BR.out.trans (hb12.mono BR.out.size))
          obtain ⟨qa, qc, rfl⟩ := Q12.out.form
          clear hoq hb12 KE BR
          go_wp2_with fail
          refine (lawSame_any _ _ _ _ _ _ rl rl w12 Q12.out (R11.out.keeps (Keeps.of_all B12.out))).mono ?_
          rintro e wq ⟨rfl, rfl⟩
          rw [decide_eq_true (rfl : rl = rl)]
          obtain ⟨xa0, xa1, xa2, xa3, xa4, xa5⟩ := HM.out _ (HW.out _ B12.out)
          have xlt := (HM.out _ (HW.out _ B12.out)).lt
          go_wp2
          clear xa0 xa1 xa2 xa3 xa4 xa5
          go_loopw [88] (fun jv wq => ∃ j : Nat, j ≤ m.facts.length ∧ jv = .int .i64 j ∧ Hid (Below w11.heap.size w11 wq)) (fun jv _ => m.facts.length - (intOf jv).toNat)
          case atStart => exact ⟨0, Nat.zero_le _, rfl, B12⟩
          case round =>
            obtain ⟨j, hj, rfl, BQ⟩ := hrel
            by_cases hlj : j < m.facts.length
            · have KS := Lib.hid (implSame_any _ _ _ m 0 j i wr (HV.out _ (HW.out _ BQ.out)).1 (HV.out _ (HW.out _ BQ.out)).2)
              have HH := Lib.hid (fun hs : sameB m 0 j i = true => HHB.out j (HRH.out j i hs HRI.out))
              obtain ⟨q, hq⟩ : ∃ q, q = sameB m 0 j i := ⟨_, rfl⟩
              rw [← hq] at KS HH
              clear hq
              obtain ⟨xa0, xa1, xa2, xa3, xa4, xa5⟩ := HM.out _ (HW.out _ BQ.out)
              have xlt := (HM.out _ (HW.out _ BQ.out)).lt
              cases q with
              | false =>
                go_wp2_with fail
                clear xa0 xa1 xa2 xa3 xa4 xa5
                refine KS.out.mono ?_
                rintro e wx ⟨rfl, hbx⟩
                have BX := Lib.hid (BQ.out.trans (hbx.mono BQ.out.size))
                clear hbx
                go_wp2
                go_roundw
                case rel => exact ⟨j + 1, by omega, by go_num, BX⟩
                case measure => simp [intOf]; omega
              | true =>
                have HH2 := Lib.hid (HH.out rfl)
                clear HH
                go_wp2_with fail
                clear xa0 xa1 xa2 xa3 xa4 xa5
                refine KS.out.mono ?_
                rintro e wx ⟨rfl, hbx⟩
                have BX := Lib.hid (BQ.out.trans (hbx.mono BQ.out.size))
                clear hbx
                go_wp2_with fail
                refine (lawHas_any _ _ _ rl j wx (R11.out.keeps (Keeps.of_all BX.out))).mono ?_
                rintro e wy ⟨rfl, rfl⟩
                rw [HH2.out]
                go_wp2
                go_roundw
                case rel => exact ⟨j + 1, by omega, by go_num, BX⟩
                case measure => simp [intOf]; omega
            · go_wp2
              go_roundw
              case rel => exact ⟨k + 1, by omega, by go_num, BQ⟩
              case measure => simp [intOf]; omega
        · have KT := Lib.hid (implTell_any _ _ _ m 0 1 wo (HV.out _ (HW.out _ BR.out)).1 (HV.out _ (HW.out _ BR.out)).2)
          have HTO := Lib.hid (tell_ok HMD.out 1)
          have HTF : Hid ((tellM m 0 1).facts = m.facts) := Lib.hid rfl
          rw [tellR_eq HMD.out] at KT
          generalize tellM m 0 1 = tm at *
          obtain ⟨xa0, xa1, xa2, xa3, xa4, xa5⟩ := HM.out _ (HW.out _ BR.out)
          have xlt := (HM.out _ (HW.out _ BR.out)).lt
          go_wp2_with fail
          clear xa0 xa1 xa2 xa3 xa4 xa5
          refine KT.out.mono ?_
          rintro e w12 ⟨vt, rfl, hot, hb12⟩
          change Mo _ _ _ vt tm at hot
          have T12 := Lib.hid hot.read
          have B12 := Lib.hid (BR.out.trans (hb12.mono BR.out.size))
          obtain ⟨ft, gt, bt, ht, e12⟩ := T12.out.form
          subst e12
          clear hot hb12 KT BR
          go_wp2_with fail
          have A13 := Lib.hid (Mcell.new (w := w12) (T := 27) (b := w12.heap.size) (fv := .slice ft tm.facts.length gt) (bv := .slice bt tm.blocks.length ht) (n := tm.actual) rfl)
          have hb13 : Below w12.heap.size w12 (w12.alloc (.cells #[.slice ft tm.facts.length gt, .slice bt tm.blocks.length ht, .int .i64 tm.actual] 27)) := by go_grown
          generalize w12.alloc (.cells #[.slice ft tm.facts.length gt, .slice bt tm.blocks.length ht, .int .i64 tm.actual] 27) = w13 at *
          have B13 := Lib.hid (B12.out.trans (hb13.mono B12.out.size))
          have T13 := Lib.hid (T12.out.keeps (Keeps.of_all hb13))
          have s1213 : w12.heap.size ≤ w13.heap.size := hb13.size
          clear hb13 B12 T12
          have M13 := Lib.hid (HV.out _ (HW.out _ B13.out)).1
          obtain ⟨fv', bv', e', hf', hb'⟩ := id M13.out
          cases e'
          have FV := Lib.hid hf'
          obtain ⟨rb, ro, ru, rfl, -, -, hlt', hc', hu'⟩ := hb'.row rfl 0 (by omega)
          have RU := Lib.hid hu'
          have HC' : Hid (∀ W, Below w13.heap.size w13 W → W.cell? ⟨rb, ro, none⟩ = some ru) := Lib.hid (fun W h => (h.cell (p := ⟨rb, ro, none⟩) hlt').trans hc')
          obtain ⟨ua, uc, rfl⟩ := RU.out.form
          obtain ⟨q1, q2, q3, q4, q5, -⟩ := mdOk_parts HMD.out
          have hord := (q5 0 (by omega)).2
          have hrlen := (q5 0 (by omega)).1
          rw [ordOk_num] at hord
          have HNUM : Hid (nbL (m.blocks.getD 0 []) = m.blocks.getD 0 []) := Lib.hid (by unfold nbL; rw [if_neg (by omega)]; exact of_decide_eq_true hord)
          obtain ⟨ftv, gtv, etv, hft, -⟩ := id T13.out
          cases etv
          have FT : Hid (Iv _ _ w13 (.slice ft tm.facts.length gt) m.facts) := Lib.hid (by have h := hft; rw [HTF.out] at h ⊢; exact h)
          have hbl : (0 : Int) < (m.blocks.length : Int) := by omega
          have hne0 : ¬ m.blocks = [] := fun e => by rw [e] at p3; simp at p3
          have HXC : Hid (∀ W, Below w13.heap.size w13 W → Mcell W w1.heap.size (.slice fa m.facts.length fc) (.slice (some ⟨rb, ro, none⟩) m.blocks.length bc) m.actual) := Lib.hid (fun W h => HM.out W (HW.out _ (B13.out.trans (h.mono B13.out.size))))
          have HTC : Hid (∀ W, Below w13.heap.size w13 W → Mcell W w12.heap.size (.slice ft tm.facts.length gt) (.slice bt tm.blocks.length ht) tm.actual) := Lib.hid (fun W h => A13.out.below h)
          clear hf' hb' hlt' hc' hu' hord q5 hft A13 HV HM
          have HTR : Hid (∀ W, Below w13.heap.size w13 W → W.rangeAt w12.heap.size 0 [.slice ft tm.facts.length gt, .slice bt tm.blocks.length ht, .int .i64 tm.actual]) := Lib.hid (fun W h => (HTC.out W h).range)
          have HU : Try.prog.underlying 27 = some _ := Try.underlying27
          go_wp2
          refine regionL (fun W => Below w13.heap.size w13 W) [] (by kernel_rfl) (Below.refl _ _).drew (fun hHeld => ?_)
          have t1 : Below w13.heap.size w13 w13.drew := hHeld
          refine takeA (i := 0) (v := (.bool true)) 108 rfl rfl (by kernel_rfl) (by kernel_rfl) (by kernel_rfl) (by kernel_rfl) (fun _ _ _ h => h) (Or.inl ⟨by rfl, by intro W hSw; go_simp⟩) hHeld ?_
          simp only [Act.put, List.setIfInBounds_toArray, List.set_cons_zero, List.set_cons_succ]
          refine takeA (i := 1) (v := (.bool true)) 109 rfl rfl (by kernel_rfl) (by kernel_rfl) (by kernel_rfl) (by kernel_rfl) (fun _ _ _ h => h) (Or.inl ⟨by rfl, by intro W hSw; go_simp⟩) hHeld ?_
          simp only [Act.put, List.setIfInBounds_toArray, List.set_cons_zero, List.set_cons_succ]
          refine takeA (i := 2) (v := (.agg #[.slice ft tm.facts.length gt, .slice bt tm.blocks.length ht, .int .i64 tm.actual])) 110 rfl rfl (by kernel_rfl) (by kernel_rfl) (by kernel_rfl) (by kernel_rfl) (fun _ _ _ h => h) (yieldsIf_load_mid (by rfl) 27 _ rfl w12.heap.size 0 rfl [.slice ft tm.facts.length gt, .slice bt tm.blocks.length ht, .int .i64 tm.actual] _ HTR.out HU rfl Try.sizeMd) hHeld ?_
          simp only [Act.put, List.setIfInBounds_toArray, List.set_cons_zero, List.set_cons_succ]
          refine onlyL (i := 3) (by kernel_rfl) rfl (by rfl) (fun K hK => ?_)
          go_simp
          refine (implOk_m _ _ _ tm _ (T13.out.keeps (Keeps.of_all t1)) (Nat.le_trans s1213 t1.size)).mono ?_
          rintro e v2 ⟨rfl, hb⟩
          rw [HTO.out]
          have t2 : Below w13.heap.size w13 v2 := t1.trans (hb.mono t1.size)
          clear hb hHeld
          refine hK.out _ _ (fun _ => t2) (fun hHeld => ?_)
          have hHeld := hHeld (by decide)
          clear hK K
          try simp only [Act.put, List.setIfInBounds_toArray, List.set_cons_zero, List.set_cons_succ]
          refine takeA (i := 4) (v := (.bool true)) 112 rfl rfl (by kernel_rfl) (by kernel_rfl) (by kernel_rfl) (by kernel_rfl) (fun _ _ _ h => h) (Or.inl ⟨by rfl, by intro W hSw; go_simp⟩) hHeld ?_
          simp only [Act.put, List.setIfInBounds_toArray, List.set_cons_zero, List.set_cons_succ]
          refine takeA (i := 5) (v := (.bool true)) 113 rfl rfl (by kernel_rfl) (by kernel_rfl) (by kernel_rfl) (by kernel_rfl) (fun _ _ _ h => h) (Or.inl ⟨by rfl, by intro W hSw; go_simp⟩) hHeld ?_
          simp only [Act.put, List.setIfInBounds_toArray, List.set_cons_zero, List.set_cons_succ]
          refine takeA (i := 6) (v := (.pointer (some ⟨w1.heap.size, 1, none⟩))) 114 rfl rfl (by kernel_rfl) (by kernel_rfl) (by kernel_rfl) (by kernel_rfl) (fun _ _ _ h => h) (Or.inl ⟨by rfl, by intro W hSw; go_simp⟩) hHeld ?_
          simp only [Act.put, List.setIfInBounds_toArray, List.set_cons_zero, List.set_cons_succ]
          refine takeA (i := 7) (v := (.slice (some ⟨rb, ro, none⟩) m.blocks.length bc)) 115 rfl rfl (by kernel_rfl) (by kernel_rfl) (by kernel_rfl) (by kernel_rfl) (fun _ _ _ h => h) (Or.inl ⟨by rfl, by intro W hSw; obtain ⟨x0, x1, x2, x3, x4, x5⟩ := HXC.out _ hSw; go_simp⟩) hHeld ?_
          simp only [Act.put, List.setIfInBounds_toArray, List.set_cons_zero, List.set_cons_succ]
          refine takeA (i := 8) (v := (.pointer (some ⟨rb, ro, none⟩))) 116 rfl rfl (by kernel_rfl) (by kernel_rfl) (by kernel_rfl) (by kernel_rfl) (fun _ _ _ h => h) (Or.inl ⟨by rfl, by intro W hSw; first | (go_simp; done) | (go_simp; intro e; exact absurd e hne0)⟩) hHeld ?_
          simp only [Act.put, List.setIfInBounds_toArray, List.set_cons_zero, List.set_cons_succ]
          refine takeA (i := 9) (v := (.slice ua (m.blocks.getD 0 []).length uc)) 117 rfl rfl (by kernel_rfl) (by kernel_rfl) (by kernel_rfl) (by kernel_rfl) (fun _ _ _ h => h) (Or.inl ⟨by rfl, by intro W hSw; have x0 := HC'.out _ hSw; go_simp⟩) hHeld ?_
          simp only [Act.put, List.setIfInBounds_toArray, List.set_cons_zero, List.set_cons_succ]
          refine takeA (i := 11) (v := (.pointer (some ⟨w1.heap.size, 1, none⟩))) 119 rfl rfl (by kernel_rfl) (by kernel_rfl) (by kernel_rfl) (by kernel_rfl) (fun _ _ _ h => h) (Or.inl ⟨by rfl, by intro W hSw; go_simp⟩) hHeld ?_
          simp only [Act.put, List.setIfInBounds_toArray, List.set_cons_zero, List.set_cons_succ]
          refine takeA (i := 12) (v := (.slice (some ⟨rb, ro, none⟩) m.blocks.length bc)) 120 rfl rfl (by kernel_rfl) (by kernel_rfl) (by kernel_rfl) (by kernel_rfl) (fun _ _ _ h => h) (Or.inl ⟨by rfl, by intro W hSw; obtain ⟨x0, x1, x2, x3, x4, x5⟩ := HXC.out _ hSw; go_simp⟩) hHeld ?_
          simp only [Act.put, List.setIfInBounds_toArray, List.set_cons_zero, List.set_cons_succ]
          refine takeA (i := 13) (v := (.pointer (some ⟨rb, ro, none⟩))) 121 rfl rfl (by kernel_rfl) (by kernel_rfl) (by kernel_rfl) (by kernel_rfl) (fun _ _ _ h => h) (Or.inl ⟨by rfl, by intro W hSw; first | (go_simp; done) | (go_simp; intro e; exact absurd e hne0)⟩) hHeld ?_
          simp only [Act.put, List.setIfInBounds_toArray, List.set_cons_zero, List.set_cons_succ]
          refine takeA (i := 14) (v := (.slice ua (m.blocks.getD 0 []).length uc)) 122 rfl rfl (by kernel_rfl) (by kernel_rfl) (by kernel_rfl) (by kernel_rfl) (fun _ _ _ h => h) (Or.inl ⟨by rfl, by intro W hSw; have x0 := HC'.out _ hSw; go_simp⟩) hHeld ?_
          simp only [Act.put, List.setIfInBounds_toArray, List.set_cons_zero, List.set_cons_succ]
          refine onlyL (i := 10) (by kernel_rfl) rfl (by rfl) (fun K hK => ?_)
          go_simp
          refine (implNB_any _ _ _ (m.blocks.getD 0 []) _ (RU.out.keeps (Keeps.of_all t2))).mono ?_
          rintro e v3 ⟨vn, rfl, hn, hb⟩
          have t3 : Below w13.heap.size w13 v3 := t2.trans (hb.mono t2.size)
          rw [HNUM.out] at hn
          have HN := Lib.hid hn.read
          clear hn
          clear hb hHeld
          refine hK.out _ _ (fun _ => t3) (fun hHeld => ?_)
          have hHeld := hHeld (by decide)
          clear hK K
          try simp only [Act.put, List.setIfInBounds_toArray, List.set_cons_zero, List.set_cons_succ]
          refine onlyL (i := 15) (by kernel_rfl) rfl (by rfl) (fun K hK => ?_)
          go_simp
          refine (lawSame_any _ _ _ _ _ _ (m.blocks.getD 0 []) (m.blocks.getD 0 []) _ HN.out (RU.out.keeps (Keeps.of_all t3))).mono ?_
          rintro e wq ⟨rfl, rfl⟩
          rw [decide_eq_true (rfl : m.blocks.getD 0 [] = m.blocks.getD 0 [])]
          refine hK.out _ _ (fun _ => t3) (fun hHeld => ?_)
          have hHeld := hHeld (by decide)
          clear hK K
          try simp only [Act.put, List.setIfInBounds_toArray, List.set_cons_zero, List.set_cons_succ]
          refine takeA (i := 16) (v := (.bool true)) 124 rfl rfl (by kernel_rfl) (by kernel_rfl) (by kernel_rfl) (by kernel_rfl) (fun _ _ _ h => h) (Or.inl ⟨by rfl, by intro W hSw; go_simp⟩) hHeld ?_
          simp only [Act.put, List.setIfInBounds_toArray, List.set_cons_zero, List.set_cons_succ]
          refine takeA (i := 17) (v := (.bool true)) 125 rfl rfl (by kernel_rfl) (by kernel_rfl) (by kernel_rfl) (by kernel_rfl) (fun _ _ _ h => h) (Or.inl ⟨by rfl, by intro W hSw; go_simp⟩) hHeld ?_
          simp only [Act.put, List.setIfInBounds_toArray, List.set_cons_zero, List.set_cons_succ]
          refine takeA (i := 18) (v := (.pointer (some ⟨w12.heap.size, 0, none⟩))) 126 rfl rfl (by kernel_rfl) (by kernel_rfl) (by kernel_rfl) (by kernel_rfl) (fun _ _ _ h => h) (Or.inl ⟨by rfl, by intro W hSw; go_simp⟩) hHeld ?_
          simp only [Act.put, List.setIfInBounds_toArray, List.set_cons_zero, List.set_cons_succ]
          refine takeA (i := 19) (v := (.slice ft tm.facts.length gt)) 127 rfl rfl (by kernel_rfl) (by kernel_rfl) (by kernel_rfl) (by kernel_rfl) (fun _ _ _ h => h) (Or.inl ⟨by rfl, by intro W hSw; obtain ⟨x0, x1, x2, x3, x4, x5⟩ := HTC.out _ hSw; go_simp⟩) hHeld ?_
          simp only [Act.put, List.setIfInBounds_toArray, List.set_cons_zero, List.set_cons_succ]
          refine takeA (i := 20) (v := (.pointer (some ⟨w1.heap.size, 0, none⟩))) 128 rfl rfl (by kernel_rfl) (by kernel_rfl) (by kernel_rfl) (by kernel_rfl) (fun _ _ _ h => h) (Or.inl ⟨by rfl, by intro W hSw; go_simp⟩) hHeld ?_
          simp only [Act.put, List.setIfInBounds_toArray, List.set_cons_zero, List.set_cons_succ]
          refine takeA (i := 21) (v := (.slice fa m.facts.length fc)) 129 rfl rfl (by kernel_rfl) (by kernel_rfl) (by kernel_rfl) (by kernel_rfl) (fun _ _ _ h => h) (Or.inl ⟨by rfl, by intro W hSw; obtain ⟨x0, x1, x2, x3, x4, x5⟩ := HXC.out _ hSw; go_simp⟩) hHeld ?_
          simp only [Act.put, List.setIfInBounds_toArray, List.set_cons_zero, List.set_cons_succ]
          refine onlyL (i := 22) (by kernel_rfl) rfl (by rfl) (fun K hK => ?_)
          go_simp
          refine (lawSame_any _ _ _ _ _ _ m.facts m.facts _ (FT.out.keeps (Keeps.of_all t3)) (FV.out.keeps (Keeps.of_all t3))).mono ?_
          rintro e wq ⟨rfl, rfl⟩
          rw [decide_eq_true (rfl : m.facts = m.facts)]
          refine hK.out _ _ (fun _ => t3) (fun hHeld => ?_)
          have hHeld := hHeld (by decide)
          clear hK K
          try simp only [Act.put, List.setIfInBounds_toArray, List.set_cons_zero, List.set_cons_succ]
          refine takeA (i := 23) (v := (.bool true)) 131 rfl rfl (by kernel_rfl) (by kernel_rfl) (by kernel_rfl) (by kernel_rfl) (fun _ _ _ h => h) (Or.inl ⟨by rfl, by intro W hSw; go_simp⟩) hHeld ?_
          simp only [Act.put, List.setIfInBounds_toArray, List.set_cons_zero, List.set_cons_succ]
          refine takeA (i := 24) (v := (.bool true)) 2 rfl rfl (by kernel_rfl) (by kernel_rfl) (by kernel_rfl) (by kernel_rfl) (fun _ _ _ h => h) (Or.inl ⟨by rfl, by intro W hSw; go_simp⟩) hHeld ?_
          simp only [Act.put, List.setIfInBounds_toArray, List.set_cons_zero, List.set_cons_succ]
          refine doneL (by kernel_rfl) ?_ _
          go_wp2
          go_ret
          have BF : Below w2.heap.size w2 v3 := HW.out _ (B13.out.trans (t3.mono B13.out.size))
          have s2 : w.heap.size ≤ w2.heap.size := B2.out.size
          exact ⟨rfl, B2.out.trans (BF.mono s2)⟩
end Go.Proofs.Ythnpcbnpojhpoaa
