/-
  Contract of spec.ForeheadModel. No condition.
-/
import Derived.Test.YtkbpjpobmfiegaaFhm
import Derived.Test.YtkbpjpobmfiegaaZMok
namespace Go.Proofs.Ytkbpjpobmfiegaa
open Go.RowKit Go.WideShapes
open Go Go.Deep
set_option linter.unusedSimpArgs false

theorem ans_put3 {w3 : World} {b lo hi : Nat} {fv bv fv0 bv0 : Value} {m : Md} {n0 : Int} (hM : Mcell w3 b fv0 bv0 n0) (hO : Mo lo hi w3 (.agg #[fv, bv, .int .i64 m.actual]) m) (hb : b < lo) :
    Mo lo hi (((w3.setCell ⟨b, 0, none⟩ fv).setCell ⟨b, 1, none⟩ bv).setCell ⟨b, 2, none⟩ (.int .i64 m.actual)) (.agg #[fv, bv, .int .i64 m.actual]) m ∧ Mcell (((w3.setCell ⟨b, 0, none⟩ fv).setCell ⟨b, 1, none⟩ bv).setCell ⟨b, 2, none⟩ (.int .i64 m.actual)) b fv bv m.actual :=
  ⟨hO.keeps (((Keeps.setCell _ _ _ _ (.inl hb)).set (.inl hb) _ _).set (.inl hb) _ _), hM.write _ _ _⟩
theorem Mo.acts {lo hi : Nat} {w : World} {fv bv : Value} {n : Int} {m : Md} (h : Mo lo hi w (.agg #[fv, bv, .int .i64 n]) m) (x : Int) : Mo lo hi w (.agg #[fv, bv, .int .i64 x]) (actM m x) := by
  obtain ⟨fv', bv', vs, e, h1, h2, h3⟩ := h
  cases e
  exact ⟨_, _, vs, rfl, h1, h2, h3⟩
theorem tellR_yes {m : Md} (hm : mdOk m = true) {i j : Nat} (hi : i < m.blocks.length) (hj : j < 4) : tellR m (i : Int) (j : Int) = some (tellM m i j) := by
  unfold tellR
  have e1 : inB (i : Int) m.blocks.length = true := decide_eq_true (by omega)
  have e2 : inB (j : Int) 4 = true := decide_eq_true (by omega)
  rw [hm, e1, e2, Int.toNat_natCast, Int.toNat_natCast]; rfl

set_option maxRecDepth 100000 in
set_option maxHeartbeats 16000000 in
theorem specFore_out (x d : Int) (w : World) (hx : ¬ (1 ≤ x ∧ x ≤ 3)) :
    Calls Try.prog 4 #[.int .i64 x, .int .i64 d] w (MdAns2 w (foreR x d)) := by
  have KF := Lib.hid (fun W => specFree_any x x W)
  have e0 : freeR x x = none := freeR_no (by omega)
  rw [foreR_no (by omega)]
  simp only [e0] at KF
  unfold MdAns2 at KF
  simp only [Option.getD_none, Option.isSome_none] at KF
  clear e0 hx
  go_enter Try.func4, Try.ntmps4
  go_wp2_with fail
  refine (KF.out _).mono ?_
  rintro e w1 ⟨v1, rfl, ho1, hb1⟩
  have M1 := Lib.hid (Mcell.below (b := w.heap.size) (Mcell.new (by simp)) hb1)
  have B1 : Hid (Below w.heap.size w w1) := Lib.hid (Below.trans (by go_grown) (hb1.mono (by simp)))
  obtain ⟨fa, fc, ba, bc, e1⟩ := ho1.read.form
  subst e1
  clear ho1 hb1 KF
  have lt1 : w.heap.size < w1.heap.size := M1.out.lt
  obtain ⟨mc0, mc1, mc2, mc3, mc4, mc5⟩ := M1.out
  go_wp2
  clear mc0 mc1 mc2 mc3 mc4 mc5
  have M6 := (M1.out.write (.slice none 0 0) (.slice none 0 0) 0).alloc (.cells #[.slice fa 0 fc, .slice ba 0 bc, .int .i64 0] 25)
  have B6 := ((B1.out.setCell (p := ⟨w.heap.size, 0, none⟩) (by show _ ≤ w.heap.size; omega) (.slice none 0 0)).setCell (p := ⟨w.heap.size, 1, none⟩) (by show _ ≤ w.heap.size; omega) (.slice none 0 0)).setCell (p := ⟨w.heap.size, 2, none⟩) (by show _ ≤ w.heap.size; omega) (.int .i64 0)
  refine bodyPost_ret (results_mid2 Try.results4 _ _ w.heap.size _ _ (.bool false) rfl rfl M6.range Try.underlying25 rfl Try.sizeMd) rfl ?_
  exact ⟨_, rfl, Mo.none _ _ _, B6.alloc B6.size _⟩

set_option maxRecDepth 100000 in
set_option maxHeartbeats 16000000 in
theorem specFore_off (k : Nat) (d : Int) (w : World) (h1 : 1 ≤ k) (h3 : k ≤ 3) (hd : d < 0 ∨ ((2 ^ k : Nat) : Int) ≤ d) :
    Calls Try.prog 4 #[.int .i64 k, .int .i64 d] w (MdAns2 w (foreR k d)) := by
  have KF := Lib.hid (fun W => specFree_any k k W)
  rw [foreR_no (by rw [Int.toNat_natCast]; omega)]
  simp only [freeR_kk h1 h3] at KF
  unfold MdAns2 at KF
  simp only [Option.getD_some, Option.isSome_some] at KF
  have hN : (freeM (2 ^ k) k).facts.length = 2 ^ k := free_facts _ _
  have hN8 : 2 ^ k ≤ 8 := by
    have hk : k = 1 ∨ k = 2 ∨ k = 3 := by omega
    rcases hk with rfl | rfl | rfl <;> decide
  have hN1 : 1 ≤ 2 ^ k := Nat.one_le_two_pow
  generalize 2 ^ k = N at *
  generalize freeM N k = M0 at *
  have KI := Lib.hid (fun W => inI_no d 0 ((M0.facts.length : Int) - 1) W (by rw [hN]; omega))
  have wr1 : IntKind.i64.wrap ((M0.facts.length : Int) - 1) = (M0.facts.length : Int) - 1 := IntWalk.i64_in _ (by omega)
  have HW := Lib.hid wr1
  have hl1 : (1 : Int) ≤ (M0.facts.length : Int) := by omega
  have hl8 : (M0.facts.length : Int) ≤ 8 := by omega
  clear wr1 hd h1 h3 hN hN8 hN1
  go_enter Try.func4, Try.ntmps4
  go_wp2_with fail
  refine (KF.out _).mono ?_
  rintro e w1 ⟨v1, rfl, ho1, hb1⟩
  have M1 := Lib.hid (Mcell.below (b := w.heap.size) (Mcell.new (by simp)) hb1)
  have B1 : Hid (Below w.heap.size w w1) := Lib.hid (Below.trans (by go_grown) (hb1.mono (by simp)))
  obtain ⟨fa, fc, ba, bc, e1⟩ := ho1.read.form
  subst e1
  clear ho1 hb1 KF
  have lt1 : w.heap.size < w1.heap.size := M1.out.lt
  obtain ⟨mc0, mc1, mc2, mc3, mc4, mc5⟩ := M1.out
  go_wp2_with (go_at_call 10; with_reducible refine (KI.out _).mono ?_; rintro e w' ⟨rfl, rfl⟩)
  clear mc0 mc1 mc2 mc3 mc4 mc5
  have M6 := (M1.out.write (.slice none 0 0) (.slice none 0 0) 0).alloc (.cells #[.slice fa M0.facts.length fc, .slice ba M0.blocks.length bc, .int .i64 M0.actual] 25)
  have B6 := ((B1.out.setCell (p := ⟨w.heap.size, 0, none⟩) (by show _ ≤ w.heap.size; omega) (.slice none 0 0)).setCell (p := ⟨w.heap.size, 1, none⟩) (by show _ ≤ w.heap.size; omega) (.slice none 0 0)).setCell (p := ⟨w.heap.size, 2, none⟩) (by show _ ≤ w.heap.size; omega) (.int .i64 0)
  refine bodyPost_ret (results_mid2 Try.results4 _ _ w.heap.size _ _ (.bool false) rfl rfl M6.range Try.underlying25 rfl Try.sizeMd) rfl ?_
  exact ⟨_, rfl, Mo.none _ _ _, B6.alloc B6.size _⟩

set_option maxRecDepth 100000 in
set_option maxHeartbeats 16000000 in
theorem specFore_in (k : Nat) (d : Int) (w : World) (h1 : 1 ≤ k) (h3 : k ≤ 3) (hd0 : 0 ≤ d) (hd : d < ((2 ^ k : Nat) : Int)) :
    Calls Try.prog 4 #[.int .i64 k, .int .i64 d] w (MdAns2 w (foreR k d)) := by
  have KF := Lib.hid (fun W => specFree_any k k W)
  have HR : Hid (foreR k d = some (actM (tellAll (freeM (2 ^ k) k) k k) d)) := Lib.hid (by rw [foreR_yes h1 h3 hd0 hd]; unfold foreM; rw [tellAll_act])
  generalize foreR k d = RES at *
  simp only [freeR_kk h1 h3] at KF
  unfold MdAns2 at KF
  simp only [Option.getD_some, Option.isSome_some] at KF
  have hN : (freeM (2 ^ k) k).facts.length = 2 ^ k := free_facts _ _
  have hK : (freeM (2 ^ k) k).blocks.length = k := free_blocks _ _
  have hok := free_ok h1 h3
  have hN8 : 2 ^ k ≤ 8 := by
    have hk : k = 1 ∨ k = 2 ∨ k = 3 := by omega
    rcases hk with rfl | rfl | rfl <;> decide
  have hN1 : 1 ≤ 2 ^ k := Nat.one_le_two_pow
  generalize freeM (2 ^ k) k = M0 at *
  generalize 2 ^ k = N at *
  have KI := Lib.hid (fun W => inI_yes d 0 ((M0.facts.length : Int) - 1) W hd0 (by rw [hN]; omega))
  have wr1 : IntKind.i64.wrap ((M0.facts.length : Int) - 1) = (M0.facts.length : Int) - 1 := IntWalk.i64_in _ (by omega)
  have HW := Lib.hid wr1
  have HA := Lib.hid (fun (M : Md) (i j : Nat) (e : M = tellRow (tellAll M0 k i) i j) => (⟨by rw [e]; exact tellRow_ok (tellAll_ok hok _ _) _ _, by rw [e, (tellRow_same _ _ _).2.1, (tellAll_same _ _ _).2.1, hK]⟩ : mdOk M = true ∧ M.blocks.length = k))
  have HK := Lib.hid hK
  have hl1 : (1 : Int) ≤ (M0.facts.length : Int) := by omega
  have hl8 : (M0.facts.length : Int) ≤ 8 := by omega
  clear wr1 hd hd0 hN hN8 hN1 hok hK
  go_enter Try.func4, Try.ntmps4
  go_wp2_with fail
  refine (KF.out _).mono ?_
  rintro e w1 ⟨v1, rfl, ho1, hb1⟩
  have M1 := Lib.hid (Mcell.below (b := w.heap.size) (Mcell.new (by simp)) hb1)
  have B1 : Hid (Below w.heap.size w w1) := Lib.hid (Below.trans (by go_grown) (hb1.mono (by simp)))
  have L1 : Hid ((w.alloc (.cells #[.slice none 0 0, .slice none 0 0, .int .i64 0] 25)).heap.size = w.heap.size + 1) := Lib.hid (by simp)
  have O1 := Lib.hid ho1
  obtain ⟨qa, qc, pa, pc, e1⟩ := ho1.read.form
  subst e1
  clear ho1 hb1 KF
  have lt1 : w.heap.size < w1.heap.size := M1.out.lt
  have hb2 : Below w1.heap.size w1 (w1.alloc (.cells #[.slice qa M0.facts.length qc, .slice pa M0.blocks.length pc, .int .i64 M0.actual] 25)) := (Below.refl _ _).alloc (Nat.le_refl _) _
  have M1 := Lib.hid (M1.out.below hb2)
  have B1 := Lib.hid (B1.out.trans (hb2.mono B1.out.size))
  have O1 := Lib.hid (O1.out.keeps (Keeps.of_all hb2))
  have X1 : Hid (Mcell (w1.alloc (.cells #[.slice qa M0.facts.length qc, .slice pa M0.blocks.length pc, .int .i64 M0.actual] 25)) w1.heap.size (.slice qa M0.facts.length qc) (.slice pa M0.blocks.length pc) M0.actual) := Lib.hid (Mcell.new rfl)
  clear hb2
  go_wp2_with (go_at_call 10; with_reducible refine (KI.out _).mono ?_; rintro e w' ⟨rfl, rfl⟩)
  clear KI hl1 hl8
  go_loopw [8] (fun iv wr => ∃ (i : Nat) (M : Md) (fa ba : Option Addr) (fc bc lo hi : Nat), i ≤ k ∧ iv = .int .i64 i ∧ Hid (M = tellAll M0 k i) ∧ Hid (w.heap.size + 1 ≤ lo ∧ hi ≤ wr.heap.size ∧ (w1.heap.size < lo ∨ hi ≤ w1.heap.size)) ∧ Hid (Mo lo hi wr (.agg #[.slice fa M.facts.length fc, .slice ba M.blocks.length bc, .int .i64 M.actual]) M) ∧ Hid (Mcell wr w1.heap.size (.slice fa M.facts.length fc) (.slice ba M.blocks.length bc) M.actual) ∧ Hid (Mcell wr w.heap.size (.slice none 0 0) (.slice none 0 0) 0) ∧ Hid (Below w.heap.size w wr)) (fun iv _ => k - (intOf iv).toNat)
  case atStart => exact ⟨0, M0, qa, pa, qc, pc, _, _, Nat.zero_le _, rfl, Lib.hid rfl, Lib.hid ⟨by rw [L1.out]; exact Nat.le_refl _, by simp, .inr (Nat.le_refl _)⟩, O1, X1, M1, B1⟩
  case round =>
    clear O1 X1 M1 B1
    obtain ⟨i, M, fa, ba, fc, bc, lo, hi, hik, rfl, HJ, HL, HO, HX, HM, HB⟩ := hrel
    by_cases hlt : i < k
    · have HJ0 : Hid (M = tellRow (tellAll M0 k i) i 0) := Lib.hid HJ.out
      clear HJ
      obtain ⟨wo, hwo⟩ : ∃ wo, wo = wr := ⟨_, rfl⟩
      subst hwo
      go_wp2
      go_loopw [9] (fun jv wr => ∃ (j : Nat) (M : Md) (fa ba : Option Addr) (fc bc lo hi : Nat), j ≤ k ∧ jv = .int .i64 j ∧ Hid (M = tellRow (tellAll M0 k i) i j) ∧ Hid (w.heap.size + 1 ≤ lo ∧ hi ≤ wr.heap.size ∧ (w1.heap.size < lo ∨ hi ≤ w1.heap.size)) ∧ Hid (Mo lo hi wr (.agg #[.slice fa M.facts.length fc, .slice ba M.blocks.length bc, .int .i64 M.actual]) M) ∧ Hid (Mcell wr w1.heap.size (.slice fa M.facts.length fc) (.slice ba M.blocks.length bc) M.actual) ∧ Hid (Mcell wr w.heap.size (.slice none 0 0) (.slice none 0 0) 0) ∧ Hid (Below w.heap.size w wr)) (fun jv _ => k - (intOf jv).toNat)
      case atStart => exact ⟨0, M, fa, ba, fc, bc, lo, hi, Nat.zero_le _, rfl, HJ0, HL, HO, HX, HM, HB⟩
      case round =>
        clear HJ0 HL HO HX HM HB
        obtain ⟨j, M, fa, ba, fc, bc, lo, hi, hj, rfl, HJ, HL, HO, HX, HM, HB⟩ := hrel
        by_cases hlj : j < k
        · by_cases hij : i = j
          · subst hij
            go_wp2
            go_roundw
            case rel => exact ⟨i + 1, M, fa, ba, fc, bc, lo, hi, by omega, by go_num, Lib.hid (by rw [HJ.out]; show _ = if i = i then _ else _; rw [if_pos rfl]), HL, HO, HX, HM, HB⟩
            case measure => simp [intOf]; omega
          · have hne : ¬ (i : Int) = (j : Int) := by omega
            obtain ⟨q1, q2⟩ := HA.out M i j HJ.out
            have HJN : Hid (tellM M i j = tellRow (tellAll M0 k i) i (j + 1)) := Lib.hid (by rw [HJ.out]; show _ = if j = i then _ else _; rw [if_neg (fun h => hij h.symm)])
            have KT := Lib.hid (specTell_any lo hi _ M i j wr HO.out.read HL.out.2.1)
            rw [tellR_yes q1 (by rw [q2]; omega) (by omega)] at KT
            unfold MdAns2 at KT
            simp only [Option.getD_some, Option.isSome_some] at KT
            generalize tellM M i j = M' at *
            clear q1 q2 HJ HO HL
            have ltx : w1.heap.size < wr.heap.size := HX.out.lt
            obtain ⟨x0, x1, x2, x3, x4, x5⟩ := HX.out
            go_wp2_with fail
            clear x0 x1 x2 x3 x4 x5
            refine KT.out.mono ?_
            rintro e w5 ⟨v5, rfl, ho5, hb5⟩
            have HX := Lib.hid (HX.out.below hb5)
            have HM := Lib.hid (HM.out.below hb5)
            have HB := Lib.hid (HB.out.trans (hb5.mono HB.out.size))
            have lt5 : wr.heap.size ≤ w5.heap.size := hb5.size
            obtain ⟨ga, gc, da, dc, e5⟩ := ho5.read.form
            subst e5
            have HO := Lib.hid ho5
            clear hb5 KT ho5
            obtain ⟨x0, x1, x2, x3, x4, x5⟩ := HX.out
            obtain ⟨y0, y1, y2, y3, y4, y5⟩ := HM.out
            have ltx5 : w1.heap.size < w5.heap.size := HX.out.lt
            have hnb : ¬ w1.heap.size = w.heap.size := by omega
            go_wp2
            clear x0 x1 x2 x3 x4 x5 y0 y1 y2 y3 y4 y5
            go_roundw
            case rel =>
              have hbne : w.heap.size ≠ w1.heap.size := fun h => hnb h.symm
              obtain ⟨o6, m6⟩ := ans_put3 (m := M') HX.out HO.out ltx
              have hm6 := ((HM.out.other hbne 0 (.slice ga M'.facts.length gc)).other hbne 1 (.slice da M'.blocks.length dc)).other hbne 2 (.int .i64 M'.actual)
              have hb6 := ((HB.out.setCell (p := ⟨w1.heap.size, 0, none⟩) (by show _ ≤ w1.heap.size; omega) (.slice ga M'.facts.length gc)).setCell (p := ⟨w1.heap.size, 1, none⟩) (by show _ ≤ w1.heap.size; omega) (.slice da M'.blocks.length dc)).setCell (p := ⟨w1.heap.size, 2, none⟩) (by show _ ≤ w1.heap.size; omega) (.int .i64 M'.actual)
              have hwl := HB.out.size
              exact ⟨j + 1, M', ga, da, gc, dc, _, _, by omega, by go_num, HJN, Lib.hid ⟨by omega, by simp [World.setCell], .inl ltx⟩, Lib.hid o6, Lib.hid m6, Lib.hid hm6, Lib.hid hb6⟩
            case measure => simp [intOf]; omega
        · obtain ⟨j', hj'⟩ : ∃ y, y = j := ⟨_, rfl⟩
          subst hj'
          have HJN : Hid (M = tellAll M0 k (i + 1)) := Lib.hid (by rw [HJ.out, show j' = k by omega]; rfl)
          go_wp2
          go_roundw
          case rel => exact ⟨i + 1, M, fa, ba, fc, bc, lo, hi, by omega, by go_num, HJN, HL, HO, HX, HM, HB⟩
          case measure => simp [intOf]; omega
    · obtain ⟨i', hi'⟩ : ∃ y, y = i := ⟨_, rfl⟩
      subst hi'
      have HRM : Hid (RES = some (actM M d)) := Lib.hid (by rw [HR.out, HJ.out, show i' = k by omega])
      have ltx : w1.heap.size < wr.heap.size := HX.out.lt
      have hnb : ¬ w1.heap.size = w.heap.size := by omega
      obtain ⟨x0, x1, x2, x3, x4, x5⟩ := HX.out
      obtain ⟨y0, y1, y2, y3, y4, y5⟩ := HM.out
      go_wp2
      clear x0 x1 x2 x3 x4 x5 y0 y1 y2 y3 y4 y5
      have hbne : w.heap.size ≠ w1.heap.size := fun h => hnb h.symm
      have O7 := (HO.out.keeps (Keeps.setCell wr w1.heap.size 2 (.int .i64 d) HL.out.2.2)).acts d
      have M7 := HM.out.other hbne 2 (.int .i64 d)
      have B7 := HB.out.setCell (p := ⟨w1.heap.size, 2, none⟩) (by show _ ≤ w1.heap.size; omega) (.int .i64 d)
      obtain ⟨o9, m9⟩ := ans_put3 (m := actM M d) M7 O7 (by have := HL.out.1; omega)
      refine bodyPost_ret (results_mid2 Try.results4 _ _ w.heap.size _ _ (.bool true) rfl rfl m9.range Try.underlying25 rfl Try.sizeMd) rfl ?_
      rw [HRM.out]
      exact ⟨_, rfl, o9.wide (by have := HL.out.1; omega) (by have := HL.out.2.1; simp [World.setCell]; omega), ((B7.setCell (by show _ ≤ w.heap.size; omega) _).setCell (by show _ ≤ w.heap.size; omega) _).setCell (by show _ ≤ w.heap.size; omega) _⟩
theorem specFore_any (x d : Int) (w : World) : Calls Try.prog 4 #[.int .i64 x, .int .i64 d] w (MdAns2 w (foreR x d)) := by
  rcases Classical.em (1 ≤ x ∧ x ≤ 3) with hx | hx
  · obtain ⟨k, rfl⟩ := Int.eq_ofNat_of_zero_le (show 0 ≤ x by omega)
    rcases Classical.em (0 ≤ d ∧ d < ((2 ^ k : Nat) : Int)) with hd | hd
    · exact specFore_in k d w (by omega) (by omega) hd.1 hd.2
    · exact specFore_off k d w (by omega) (by omega) (by omega)
  · exact specFore_out x d w hx
end Go.Proofs.Ytkbpjpobmfiegaa
