/-
  Contract of impl.ForeheadModel. No condition.
-/
import Derived.Test.YtkbpjpobmfiegaaFhs
import Derived.Test.YtkbpjpobmfiegaaZMok
namespace Go.Proofs.Ytkbpjpobmfiegaa
open Go.RowKit Go.WideShapes
open Go Go.Deep
set_option linter.unusedSimpArgs false

/-- what the free model's maker answers, whatever it is -/
def FreeAns (M0 : Md) (ok0 : Bool) (W : World) (e : Ending) (W' : World) : Prop := ∃ v, e = .returned (.tuple #[v, .bool ok0]) ∧ Mo W.heap.size W'.heap.size W' v M0 ∧ Below W.heap.size W W'

set_option maxRecDepth 100000 in
set_option maxHeartbeats 16000000 in
theorem implFore_no (x d : Int) (M0 : Md) (ok0 : Bool) (hF : ∀ W, Calls Try.prog 12 #[.int .i64 x, .int .i64 x] W (FreeAns M0 ok0 W)) (w : World) (hm : mdOk M0 = false) :
    Calls Try.prog 5 #[.int .i64 x, .int .i64 d] w (MdAns2 w none) := by
  have KF := Lib.hid hF
  unfold FreeAns at KF
  have KG := Lib.hid (fun lo hi v W (hr : Mv lo hi W v M0) hh => gridOf_any lo hi v M0 W hr hh)
  rw [hm] at KG
  simp only [Bool.false_eq_true, if_false] at KG
  unfold GdAns at KG
  simp only [Option.getD_none, Option.isSome_none] at KG
  have HLG : Hid ((ints (gL 0 0 [] [] 0)).length = 67) := Lib.hid rfl
  have HLO := Lib.hid (fun v (hv : v ∈ ints (gL 0 0 [] [] 0)) => ints_one hv)
  obtain ⟨G, hG⟩ : ∃ G, G = gL 0 0 [] [] 0 := ⟨_, rfl⟩
  rw [← hG] at KG HLG HLO
  clear hG hF hm
  go_enter Try.func5, Try.ntmps5
  go_wp2_with fail
  refine (KF.out _).mono ?_
  rintro e w1 ⟨v1, rfl, ho1, hb1⟩
  have M1 := Lib.hid (Mcell.below (b := w.heap.size) (Mcell.new (by simp)) hb1)
  have B1 : Hid (Below w.heap.size w w1) := Lib.hid (Below.trans (by go_grown) (hb1.mono (by simp)))
  have O1 := Lib.hid ho1
  obtain ⟨qa, qc, pa, pc, e1⟩ := ho1.read.form
  subst e1
  clear ho1 hb1 KF
  have lt1 : w.heap.size < w1.heap.size := M1.out.lt
  have hb2 : Below w1.heap.size w1 (w1.alloc (.cells #[.slice qa M0.facts.length qc, .slice pa M0.blocks.length pc, .int .i64 M0.actual] 25)) := (Below.refl _ _).alloc (Nat.le_refl _) _
  have M1 := Lib.hid (M1.out.below hb2)
  have B1 := Lib.hid (B1.out.trans (hb2.mono B1.out.size))
  have O1 := Lib.hid (O1.out.keeps (Keeps.of_all hb2))
  go_wp2_with fail
  refine (KG.out _ _ _ _ O1.out.read hb2.size).mono ?_
  rintro e w3 ⟨rfl, hb3⟩
  have M1 := Lib.hid (M1.out.below hb3)
  have B1 := Lib.hid (B1.out.trans (hb3.mono B1.out.size))
  have lt3 : w.heap.size < w3.heap.size := M1.out.lt
  clear hb2 hb3 O1 KG
  go_wp2_with
    (first
      | (refine wpList_allocM rfl 37 rfl (ints (gL 0 0 [] [] 0)) Try.allocGrid ?_
         intro w4 hc4 hb4 hs4
         have CC := Lib.hid hc4
         have BB : Hid (Below w.heap.size w w4) := Lib.hid (B1.out.trans (hb4.mono B1.out.size))
         have MM := Lib.hid (M1.out.below hb4)
         clear hc4 hb4 hs4 M1)
      | (refine wpList_storeM rfl 37 _ _ rfl w3.heap.size 0 rfl (ints G) rfl 37 (ints (gL 0 0 [] [] 0)) CC.out (by rw [HLG.out]; exact Nat.le_refl _) (by rw [HLG.out]; exact Try.sizeGrid) HLO.out ?_
         intro w5 hc5 ha5
         rw [lay'_all (by rw [HLG.out]; rfl)] at hc5
         have CC := Lib.hid hc5
         have BB : Hid (Below w.heap.size w w5) := Lib.hid (BB.out.trans (ha5.below B1.out.size))
         have MM := Lib.hid (MM.out.of_block (ha5.block _ (by omega)))
         obtain ⟨mc0, mc1, mc2, mc3, mc4, mc5⟩ := MM.out
         clear hc5 ha5))
  clear mc0 mc1 mc2 mc3 mc4 mc5
  have M6 := MM.out.write (.slice none 0 0) (.slice none 0 0) 0
  refine bodyPost_ret (results_mid2 Try.results5 _ _ w.heap.size _ _ (.bool false) rfl rfl M6.range Try.underlying25 rfl Try.sizeMd) rfl ?_
  exact ⟨_, rfl, Mo.none _ _ _, ((BB.out.setCell (by show _ ≤ w.heap.size; omega) _).setCell (by show _ ≤ w.heap.size; omega) _).setCell (by show _ ≤ w.heap.size; omega) _⟩

set_option maxRecDepth 100000 in
set_option maxHeartbeats 16000000 in
theorem implFore_off (x d : Int) (M0 : Md) (ok0 : Bool) (hF : ∀ W, Calls Try.prog 12 #[.int .i64 x, .int .i64 x] W (FreeAns M0 ok0 W)) (w : World) (hm : mdOk M0 = true) (hd : inB d M0.facts.length = false) :
    Calls Try.prog 5 #[.int .i64 x, .int .i64 d] w (MdAns2 w none) := by
  have KF := Lib.hid hF
  unfold FreeAns at KF
  have KG := Lib.hid (fun lo hi v W (hr : Mv lo hi W v M0) hh => gridOf_any lo hi v M0 W hr hh)
  rw [hm] at KG
  simp only [if_true] at KG
  unfold GdAns at KG
  simp only [Option.getD_some, Option.isSome_some] at KG
  have HLG : Hid ((ints (gOf M0)).length = 67) := Lib.hid (by rw [ints_len]; exact gL_len (md_small hm))
  have HLO := Lib.hid (fun v (hv : v ∈ ints (gOf M0)) => ints_one hv)
  have KW := Lib.hid (fun W => hasWorld_any M0.facts.length M0.blocks.length M0.actual M0.facts M0.blocks d W)
  rw [hd] at KW
  rw [show gL M0.facts.length M0.blocks.length M0.facts M0.blocks M0.actual = gOf M0 from rfl] at KW
  generalize gOf M0 = G at *
  clear hF hm hd
  go_enter Try.func5, Try.ntmps5
  go_wp2_with fail
  refine (KF.out _).mono ?_
  rintro e w1 ⟨v1, rfl, ho1, hb1⟩
  have M1 := Lib.hid (Mcell.below (b := w.heap.size) (Mcell.new (by simp)) hb1)
  have B1 : Hid (Below w.heap.size w w1) := Lib.hid (Below.trans (by go_grown) (hb1.mono (by simp)))
  have O1 := Lib.hid ho1
  obtain ⟨qa, qc, pa, pc, e1⟩ := ho1.read.form
  subst e1
  clear ho1 hb1 KF
  have lt1 : w.heap.size < w1.heap.size := M1.out.lt
  have hb2 : Below w1.heap.size w1 (w1.alloc (.cells #[.slice qa M0.facts.length qc, .slice pa M0.blocks.length pc, .int .i64 M0.actual] 25)) := (Below.refl _ _).alloc (Nat.le_refl _) _
  have M1 := Lib.hid (M1.out.below hb2)
  have B1 := Lib.hid (B1.out.trans (hb2.mono B1.out.size))
  have O1 := Lib.hid (O1.out.keeps (Keeps.of_all hb2))
  go_wp2_with fail
  refine (KG.out _ _ _ _ O1.out.read hb2.size).mono ?_
  rintro e w3 ⟨rfl, hb3⟩
  have M1 := Lib.hid (M1.out.below hb3)
  have B1 := Lib.hid (B1.out.trans (hb3.mono B1.out.size))
  have lt3 : w.heap.size < w3.heap.size := M1.out.lt
  clear hb2 hb3 O1 KG
  go_wp2_with
    (first
      | (refine wpList_allocM rfl 37 rfl (ints (gL 0 0 [] [] 0)) Try.allocGrid ?_
         intro w4 hc4 hb4 hs4
         have CC := Lib.hid hc4
         have BB : Hid (Below w.heap.size w w4) := Lib.hid (B1.out.trans (hb4.mono B1.out.size))
         have MM := Lib.hid (M1.out.below hb4)
         clear hc4 hb4 hs4 M1)
      | (refine wpList_storeM rfl 37 _ _ rfl w3.heap.size 0 rfl (ints G) rfl 37 (ints (gL 0 0 [] [] 0)) CC.out (by rw [HLG.out]; exact Nat.le_refl _) (by rw [HLG.out]; exact Try.sizeGrid) HLO.out ?_
         intro w5 hc5 ha5
         rw [lay'_all (by rw [HLG.out]; rfl)] at hc5
         have CC := Lib.hid hc5
         have BB : Hid (Below w.heap.size w w5) := Lib.hid (BB.out.trans (ha5.below B1.out.size))
         have MM := Lib.hid (MM.out.of_block (ha5.block _ (by omega)))
         obtain ⟨mc0, mc1, mc2, mc3, mc4, mc5⟩ := MM.out
         clear hc5 ha5)
      | (refine wpList_loadMG rfl (by rfl) 37 _ rfl w3.heap.size 0 rfl 37 (ints G) (ints G) CC.out (fun j _ => by rw [Nat.zero_add]) _ Try.underlying37 rfl (by rw [HLG.out]; exact Try.sizeGrid) ?_)
      | (go_at_call 14; (with_reducible refine (KW.out _).mono ?_); rintro e w6 ⟨rfl, hb6⟩; clear mc0 mc1 mc2 mc3 mc4 mc5; have CC := Lib.hid (CC.out.all hb6); have MM := Lib.hid (MM.out.below hb6); have BB : Hid (Below w.heap.size w w6) := Lib.hid (BB.out.trans (hb6.mono BB.out.size)); obtain ⟨mc0, mc1, mc2, mc3, mc4, mc5⟩ := MM.out; clear hb6))
  clear mc0 mc1 mc2 mc3 mc4 mc5
  have M6 := MM.out.write (.slice none 0 0) (.slice none 0 0) 0
  refine bodyPost_ret (results_mid2 Try.results5 _ _ w.heap.size _ _ (.bool false) rfl rfl M6.range Try.underlying25 rfl Try.sizeMd) rfl ?_
  exact ⟨_, rfl, Mo.none _ _ _, ((BB.out.setCell (by show _ ≤ w.heap.size; omega) _).setCell (by show _ ≤ w.heap.size; omega) _).setCell (by show _ ≤ w.heap.size; omega) _⟩

theorem gOf_tell (M : Md) (i j : Nat) : gOf (tellM M i j) = gL M.facts.length M.blocks.length M.facts (tellM M i j).blocks M.actual := by
  show gL (tellM M i j).facts.length (tellM M i j).blocks.length (tellM M i j).facts (tellM M i j).blocks (tellM M i j).actual = _
  rw [show (tellM M i j).blocks.length = M.blocks.length by simp [tellM]]
  rfl
theorem gOf_act (M : Md) (hs : small M.facts M.blocks) (d : Int) : (ints (gOf M)).set 66 (.int .i64 d) = ints (gOf (actM M d)) := gL_setC hs
set_option maxRecDepth 100000 in
set_option maxHeartbeats 16000000 in
theorem implFore_yes (k : Nat) (d : Int) (M0 : Md) (ok0 : Bool) (hF : ∀ W, Calls Try.prog 12 #[.int .i64 k, .int .i64 k] W (FreeAns M0 ok0 W)) (w : World) (hm : mdOk M0 = true) (hd : inB d M0.facts.length = true) (hk : M0.blocks.length = k) :
    Calls Try.prog 5 #[.int .i64 k, .int .i64 d] w (MdAns2 w (some (tellAll (actM M0 d) k k))) := by
  have KF := Lib.hid hF
  unfold FreeAns at KF
  have KG := Lib.hid (fun lo hi v W (hr : Mv lo hi W v M0) hh => gridOf_any lo hi v M0 W hr hh)
  rw [hm] at KG
  simp only [if_true] at KG
  unfold GdAns at KG
  simp only [Option.getD_some, Option.isSome_some] at KG
  have hk3 : k ≤ 3 := by have := mdOk_parts hm; omega
  have hda := inB_parts hd
  have hact : mdOk (actM M0 d) = true := act_ok hm hda.1 hda.2
  have HLG : Hid ((ints (gOf M0)).length = 67) := Lib.hid (by rw [ints_len]; exact gL_len (md_small hm))
  have HLO := Lib.hid (fun v (hv : v ∈ ints (gOf M0)) => ints_one hv)
  have KW := Lib.hid (fun W => hasWorld_any M0.facts.length M0.blocks.length M0.actual M0.facts M0.blocks d W)
  rw [hd] at KW
  rw [show gL M0.facts.length M0.blocks.length M0.facts M0.blocks M0.actual = gOf M0 from rfl] at KW
  have HGC := Lib.hid (gOf_act M0 (md_small hm) d)
  have HC66 := Lib.hid (fun W b T (h : Cm W b T (ints (gOf M0))) => Cm.g66 h (md_small hm))
  have hkA : (actM M0 d).blocks.length = k := hk
  generalize actM M0 d = MA at *
  have HA := Lib.hid (fun (M : Md) (i j : Nat) (e : M = tellRow (tellAll MA k i) i j) => (⟨by rw [e]; exact tellRow_ok (tellAll_ok hact _ _) _ _, by rw [e, (tellRow_same _ _ _).2.1, (tellAll_same _ _ _).2.1, hkA]⟩ : mdOk M = true ∧ M.blocks.length = k))
  have HB1 := Lib.hid (fun (M : Md) (h : M.blocks.length = k) W b T (hc : Cm W b T (ints (gOf M))) => (by have := Cm.g1 hc; rw [h] at this; exact this : W.cell? ⟨b, 1, none⟩ = some (.int .i64 k)))
  have HLM := Lib.hid (fun (M : Md) (h : mdOk M = true) => (by rw [ints_len]; exact gL_len (md_small h) : (ints (gOf M)).length = 67))
  have HOM := Lib.hid (fun (M : Md) v (hv : v ∈ ints (gOf M)) => ints_one hv)
  have KT := Lib.hid (fun (M : Md) (i j : Nat) (h : mdOk M = true) (hi : i < M.blocks.length) (hj : j < 4) W => told_any M i j h hi hj W)
  simp only [← gOf_tell] at KT
  simp only [show ∀ M : Md, gL M.facts.length M.blocks.length M.facts M.blocks M.actual = gOf M from fun _ => rfl] at KT
  have KM := Lib.hid (fun (M : Md) (h : mdOk M = true) W => gridModel_any M (md_fits h) W)
  simp only [show ∀ M : Md, gL M.facts.length M.blocks.length M.facts M.blocks M.actual = gOf M from fun _ => rfl] at KM
  have HKA := Lib.hid hkA
  clear hF hm hd hda hact hk hkA
  generalize gOf M0 = G at *
  go_enter Try.func5, Try.ntmps5
  go_wp2_with fail
  refine (KF.out _).mono ?_
  rintro e w1 ⟨v1, rfl, ho1, hb1⟩
  have M1 := Lib.hid (Mcell.below (b := w.heap.size) (Mcell.new (by simp)) hb1)
  have B1 : Hid (Below w.heap.size w w1) := Lib.hid (Below.trans (by go_grown) (hb1.mono (by simp)))
  have O1 := Lib.hid ho1
  obtain ⟨qa, qc, pa, pc, e1⟩ := ho1.read.form
  subst e1
  clear ho1 hb1 KF
  have lt1 : w.heap.size < w1.heap.size := M1.out.lt
  have hb2 : Below w1.heap.size w1 (w1.alloc (.cells #[.slice qa M0.facts.length qc, .slice pa M0.blocks.length pc, .int .i64 M0.actual] 25)) := (Below.refl _ _).alloc (Nat.le_refl _) _
  have M1 := Lib.hid (M1.out.below hb2)
  have B1 := Lib.hid (B1.out.trans (hb2.mono B1.out.size))
  have O1 := Lib.hid (O1.out.keeps (Keeps.of_all hb2))
  go_wp2_with fail
  refine (KG.out _ _ _ _ O1.out.read hb2.size).mono ?_
  rintro e w3 ⟨rfl, hb3⟩
  have M1 := Lib.hid (M1.out.below hb3)
  have B1 := Lib.hid (B1.out.trans (hb3.mono B1.out.size))
  have lt3 : w.heap.size < w3.heap.size := M1.out.lt
  clear hb2 hb3 O1 KG
  go_wp2_with
    (first
      | (refine wpList_allocM rfl 37 rfl (ints (gL 0 0 [] [] 0)) Try.allocGrid ?_
         intro w4 hc4 hb4 hs4
         have CC := Lib.hid hc4
         have BB : Hid (Below w.heap.size w w4) := Lib.hid (B1.out.trans (hb4.mono B1.out.size))
         have MM := Lib.hid (M1.out.below hb4)
         clear hc4 hb4 hs4 M1)
      | (refine wpList_storeM rfl 37 (.tmp 8) (.tmp 21) rfl w3.heap.size 0 rfl (ints G) rfl 37 (ints (gL 0 0 [] [] 0)) CC.out (by rw [HLG.out]; exact Nat.le_refl _) (by rw [HLG.out]; exact Try.sizeGrid) HLO.out ?_
         intro w5 hc5 ha5
         rw [lay'_all (by rw [HLG.out]; rfl)] at hc5
         have CC := Lib.hid hc5
         have BB : Hid (Below w.heap.size w w5) := Lib.hid (BB.out.trans (ha5.below B1.out.size))
         have MM := Lib.hid (MM.out.of_block (ha5.block _ (by omega)))
         clear hc5 ha5)
      | (refine wpList_loadMG rfl (by rfl) 37 _ rfl w3.heap.size 0 rfl 37 (ints G) (ints G) CC.out (fun j _ => by rw [Nat.zero_add]) _ Try.underlying37 rfl (by rw [HLG.out]; exact Try.sizeGrid) ?_)
      | (go_at_call 14; (with_reducible refine (KW.out _).mono ?_); rintro e w6 ⟨rfl, hb6⟩; have CC := Lib.hid (CC.out.all hb6); have MM := Lib.hid (MM.out.below hb6); have BB : Hid (Below w.heap.size w w6) := Lib.hid (BB.out.trans (hb6.mono BB.out.size)); have c66 := HC66.out _ _ _ CC.out; have f66 := CC.out.frozen 66; have CX : Hid (Cm (w6.setCell ⟨w3.heap.size, 66, none⟩ (.int .i64 d)) w3.heap.size 37 (ints (gOf MA))) := Lib.hid (by rw [← HGC.out]; exact CC.out.set 66 _); have MX := Lib.hid (MM.out.other (b' := w3.heap.size) (by omega) 66 (.int .i64 d)); have BX : Hid (Below w.heap.size w (w6.setCell ⟨w3.heap.size, 66, none⟩ (.int .i64 d))) := Lib.hid (BB.out.setCell (by show _ ≤ w3.heap.size; omega) _); have c1 := HB1.out _ HKA.out _ _ _ CX.out; clear hb6))
  clear c66 f66 c1 CC MM BB
  generalize w6.setCell ⟨w3.heap.size, 66, none⟩ (.int .i64 d) = w7 at *
  go_loopw [36] (fun iv wr => ∃ (i : Nat) (M : Md), i ≤ k ∧ iv = .int .i64 i ∧ Hid (M = tellAll MA k i) ∧ Hid (Cm wr w3.heap.size 37 (ints (gOf M))) ∧ Hid (Mcell wr w.heap.size (.slice none 0 0) (.slice none 0 0) 0) ∧ Hid (Below w.heap.size w wr)) (fun iv _ => k - (intOf iv).toNat)
  case atStart => exact ⟨0, MA, Nat.zero_le _, rfl, Lib.hid rfl, CX, MX, BX⟩
  case round =>
    clear CX MX BX
    obtain ⟨i, M, hik, rfl, HJ, HX, HM, HB⟩ := hrel
    by_cases hlt : i < k
    · have HJ0 : Hid (M = tellRow (tellAll MA k i) i 0) := Lib.hid HJ.out
      clear HJ
      obtain ⟨wo, hwo⟩ : ∃ wo, wo = wr := ⟨_, rfl⟩
      subst hwo
      have c1 := HB1.out _ (HA.out M i 0 HJ0.out).2 _ _ _ HX.out
      go_wp2
      clear c1
      go_loopw [41] (fun jv wr => ∃ (j : Nat) (M : Md), j ≤ k ∧ jv = .int .i64 j ∧ Hid (M = tellRow (tellAll MA k i) i j) ∧ Hid (Cm wr w3.heap.size 37 (ints (gOf M))) ∧ Hid (Mcell wr w.heap.size (.slice none 0 0) (.slice none 0 0) 0) ∧ Hid (Below w.heap.size w wr)) (fun jv _ => k - (intOf jv).toNat)
      case atStart => exact ⟨0, M, Nat.zero_le _, rfl, HJ0, HX, HM, HB⟩
      case round =>
        clear HJ0 HX HM HB
        obtain ⟨j, M, hj, rfl, HJ, HX, HM, HB⟩ := hrel
        by_cases hlj : j < k
        · by_cases hij : j = i
          · subst hij
            go_wp2
            go_roundw
            case rel => exact ⟨j + 1, M, by omega, by go_num, Lib.hid (by rw [HJ.out]; show _ = if j = j then _ else _; rw [if_pos rfl]), HX, HM, HB⟩
            case measure => simp [intOf]; omega
          · have hne : ¬ (j : Int) = (i : Int) := by omega
            obtain ⟨q1, q2⟩ := HA.out M i j HJ.out
            have HJN : Hid (tellM M i j = tellRow (tellAll MA k i) i (j + 1)) := Lib.hid (by rw [HJ.out]; show _ = if j = i then _ else _; rw [if_neg hij])
            have KT := Lib.hid (KT.out M i j q1 (by rw [q2]; omega) (by omega))
            have HLM1 := Lib.hid (HLM.out M q1)
            have HLM2 := Lib.hid (HLM.out (tellM M i j) (tell_ok' q1 i j))
            have HOM2 := Lib.hid (HOM.out (tellM M i j))
            generalize tellM M i j = M' at *
            clear q1 q2 HJ
            go_wp2_with (refine wpList_loadM rfl 37 _ rfl w3.heap.size 0 rfl 37 (ints (gOf M)) (ints (gOf M)) HX.out (fun j _ => by rw [Nat.zero_add]) _ Try.underlying37 rfl (by rw [HLM1.out]; exact Try.sizeGrid) ?_)
            refine (KT.out _).mono ?_
            rintro e w8 ⟨rfl, hb8⟩
            have HX := Lib.hid (HX.out.all hb8)
            have HM := Lib.hid (HM.out.below hb8)
            have HB := Lib.hid (HB.out.trans (hb8.mono HB.out.size))
            clear hb8 KT
            go_wp2_with
              (refine wpList_storeM rfl 37 (.tmp 8) (.tmp 50) rfl w3.heap.size 0 rfl (ints (gOf M')) rfl 37 (ints (gOf M)) HX.out (by rw [HLM1.out, HLM2.out]; exact Nat.le_refl _) (by rw [HLM2.out]; exact Try.sizeGrid) HOM2.out ?_
               intro w9 hc9 ha9
               rw [lay'_all (by rw [HLM1.out, HLM2.out])] at hc9
               have HX := Lib.hid hc9
               have HB := Lib.hid (HB.out.trans (ha9.below (by omega)))
               have HM := Lib.hid (HM.out.of_block (ha9.block _ (by omega)))
               clear hc9 ha9)
            go_roundw
            case rel => exact ⟨j + 1, M', by omega, by go_num, HJN, HX, HM, HB⟩
            case measure => simp [intOf]; omega
        · obtain ⟨j', hj'⟩ : ∃ y, y = j := ⟨_, rfl⟩
          subst hj'
          have HJN : Hid (M = tellAll MA k (i + 1)) := Lib.hid (by rw [HJ.out, show j' = k by omega]; rfl)
          go_wp2
          go_roundw
          case rel => exact ⟨i + 1, M, by omega, by go_num, HJN, HX, HM, HB⟩
          case measure => simp [intOf]; omega
    · obtain ⟨i', hi'⟩ : ∃ y, y = i := ⟨_, rfl⟩
      subst hi'
      have HRM : Hid (M = tellAll MA k k) := Lib.hid (by rw [HJ.out, show i' = k by omega])
      have hmk : mdOk M = true := (HA.out M i' 0 HJ.out).1
      have KM := Lib.hid (KM.out M hmk)
      have HLM1 := Lib.hid (HLM.out M hmk)
      clear HJ hmk
      go_wp2_with (refine wpList_loadM rfl 37 _ rfl w3.heap.size 0 rfl 37 (ints (gOf M)) (ints (gOf M)) HX.out (fun j _ => by rw [Nat.zero_add]) _ Try.underlying37 rfl (by rw [HLM1.out]; exact Try.sizeGrid) ?_)
      refine (KM.out _).mono ?_
      rintro e w8 ⟨v8, rfl, ho8, hb8⟩
      have ltr : w.heap.size < wr.heap.size := HM.out.lt
      have HM := Lib.hid (HM.out.below hb8)
      have HB := Lib.hid (HB.out.trans (hb8.mono HB.out.size))
      have HO := Lib.hid ho8
      obtain ⟨ga, gc, da, dc, e8⟩ := ho8.read.form
      subst e8
      clear ho8 hb8
      obtain ⟨mc0, mc1, mc2, mc3, mc4, mc5⟩ := HM.out
      go_wp2
      clear mc0 mc1 mc2 mc3 mc4 mc5
      obtain ⟨o6, b6, m6⟩ := ans_put (m := M) HM.out HO.out ltr (Nat.le_refl _) (Nat.le_refl _) HB.out
      refine bodyPost_ret (results_mid2 Try.results5 _ _ w.heap.size _ _ (.bool true) rfl rfl m6.range Try.underlying25 rfl Try.sizeMd) rfl ?_
      rw [← HRM.out]
      exact ⟨_, rfl, o6, b6⟩
theorem fore_size (x d : Int) : msize ((foreR x d).getD ⟨[], [], 0⟩) + ((foreR x d).getD ⟨[], [], 0⟩).blocks.length ≤ 1048576 := by
  unfold foreR
  split
  · rename_i h
    refine fits_size (md_fits (fore_ok (k := x.toNat) (by omega) (by omega) h.2.2.1 h.2.2.2))
  · decide
theorem implFore_any (x d : Int) (w : World) : Calls Try.prog 5 #[.int .i64 x, .int .i64 d] w (MdAns2 w (foreR x d)) := by
  rcases Classical.em (1 ≤ x ∧ x ≤ 3) with hx | hx
  · obtain ⟨k, rfl⟩ := Int.eq_ofNat_of_zero_le (show 0 ≤ x by omega)
    have h1 : 1 ≤ k := by omega
    have h3 : k ≤ 3 := by omega
    have hF : ∀ W, Calls Try.prog 12 #[.int .i64 k, .int .i64 k] W (FreeAns (freeM (2 ^ k) k) true W) := fun W => by
      have h := implFree_any k k W
      rw [freeR_kk h1 h3] at h
      exact h
    rcases Classical.em (0 ≤ d ∧ d < ((2 ^ k : Nat) : Int)) with hd | hd
    · rw [foreR_yes h1 h3 hd.1 hd.2]
      exact implFore_yes k d _ true hF w (free_ok h1 h3) (decide_eq_true (by rw [free_facts]; exact hd)) (free_blocks _ _)
    · rw [foreR_no (by rw [Int.toNat_natCast]; omega)]
      exact implFore_off k d _ true hF w (free_ok h1 h3) (decide_eq_false (by rw [free_facts]; exact hd))
  · rw [foreR_no (by omega)]
    exact implFore_no x d ⟨[], [], 0⟩ false (fun W => by
      have h := implFree_any x x W
      rw [freeR_no (by omega)] at h
      exact h) w rfl
end Go.Proofs.Ytkbpjpobmfiegaa
