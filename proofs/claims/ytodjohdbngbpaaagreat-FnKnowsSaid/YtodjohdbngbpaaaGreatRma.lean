/-
  Contracts of spec.RestrictModel and impl.RestrictModel. Condition: the list's length, which the law checks.
-/
import Derived.Test.YtodjohdbngbpaaaGreatZRen
import Derived.Test.YtodjohdbngbpaaaGreatZSem
namespace Go.Proofs.YtodjohdbngbpaaaGreat
open Go.RowKit Go.WideShapes
open Go Go.Deep
set_option linter.unusedSimpArgs false

set_option maxRecDepth 100000 in
set_option maxHeartbeats 16000000 in
theorem implRestr_any (lo hi lo2 hi2 : Nat) (v v2 : Value) (m : Md) (l : List Int) (w : World) (hr : Mv lo hi w v m) (hhi : hi ≤ w.heap.size) (hr2 : Iv lo2 hi2 w v2 l) (hn : l.length ≤ 1048576) :
    Calls Tryz.prog 63 #[v, v2] w (MdAns2 w (restrR m l)) := by
  have KG := Lib.hid (fun W (h : Below w.heap.size w W) => gridOf_any lo hi v m W (hr.keeps (Keeps.of_all h)) (Nat.le_trans hhi h.size))
  have KS := Lib.hid (fun (hm : mdOk m = true) W (h : Below w.heap.size w W) => setOf_any lo2 hi2 v2 l m W (hr2.keeps (Keeps.of_all h)) hn hm)
  have HR : Hid (restrR m l = if mdOk m && ascOk l m.facts.length && l.contains m.actual then some (restM m (lst (memP l) 16)) else none) := Lib.hid rfl
  generalize restrR m l = R at *
  obtain ⟨fv, bv, rfl, hf, hb⟩ := hr
  clear hf hb hhi hr2
  cases hm : mdOk m with
  | false =>
    clear KS
    simp only [hm, Bool.false_eq_true, if_false] at KG
    have HR' : Hid (R = none) := Lib.hid (by rw [HR.out, hm]; rfl)
    clear HR hm
    unfold GdAns at KG
    simp only [Option.getD_none, Option.isSome_none] at KG
    have HLG : Hid ((ints (gL 0 0 [] [] 0)).length = 67) := Lib.hid rfl
    have HLO := Lib.hid (fun v (hv : v ∈ ints (gL 0 0 [] [] 0)) => ints_one hv)
    obtain ⟨G, hG⟩ : ∃ G, G = gL 0 0 [] [] 0 := ⟨_, rfl⟩
    rw [← hG] at KG HLG HLO
    clear hG
    go_enter Tryz.func63, Tryz.ntmps63
    go_wp2_with fail
    refine (KG.out _ (by go_grown)).mono ?_
    rintro e w1 ⟨rfl, hb1⟩
    have M1 := Lib.hid (Mcell.below (b := w.heap.size + 1) (Mcell.new (by simp)) hb1)
    have B1 : Hid (Below w.heap.size w w1) := Lib.hid (Below.trans (by go_grown) (hb1.mono (by simp; omega)))
    clear hb1
    go_wp2_with
      (first
        | (refine wpList_allocM rfl 85 rfl (ints (gL 0 0 [] [] 0)) Tryz.allocGrid ?_
           intro w2 hc2 hb2 hs2
           have CC := Lib.hid hc2
           have BB : Hid (Below w.heap.size w w2) := Lib.hid (B1.out.trans (hb2.mono B1.out.size))
           have MM := Lib.hid (M1.out.below hb2)
           have hgb : w.heap.size + 1 < w1.heap.size := M1.out.lt
           clear hc2 hb2 hs2 M1)
        | (refine wpList_storeM rfl 85 _ _ rfl w1.heap.size 0 rfl (ints G) rfl 85 (ints (gL 0 0 [] [] 0)) CC.out (by rw [HLG.out]; exact Nat.le_refl _) (by rw [HLG.out]; exact Tryz.sizeGrid) HLO.out ?_
           intro w3 hc3 ha3
           rw [lay'_all (by rw [HLG.out]; rfl)] at hc3
           have CC := Lib.hid hc3
           have BB : Hid (Below w.heap.size w w3) := Lib.hid (BB.out.trans (ha3.below B1.out.size))
           have MM := Lib.hid (MM.out.of_block (ha3.block _ (by omega)))
           obtain ⟨mc0, mc1, mc2, mc3, mc4, mc5⟩ := MM.out
           clear hc3 ha3))
    clear mc0 mc1 mc2 mc3 mc4 mc5
    have M6 := MM.out.write (.slice none 0 0) (.slice none 0 0) 0
    refine bodyPost_ret (results_mid2 Tryz.results63 _ _ (w.heap.size + 1) _ _ (.bool false) rfl rfl M6.range Tryz.underlying26 rfl Tryz.sizeMd) rfl ?_
    rw [HR'.out]
    exact ⟨_, rfl, Mo.none _ _ _, ((BB.out.setCell (by show _ ≤ w.heap.size + 1; omega) _).setCell (by show _ ≤ w.heap.size + 1; omega) _).setCell (by show _ ≤ w.heap.size + 1; omega) _⟩
  | true =>
    have HMD := Lib.hid hm
    have KS := Lib.hid (KS.out hm)
    simp only [hm, if_true] at KG
    have hs := md_small hm
    have HFT := Lib.hid (md_fits hm)
    have HP := Lib.hid (mdOk_parts hm)
    rw [hm] at HR
    clear hm
    unfold GdAns at KG
    simp only [Option.getD_some, Option.isSome_some] at KG
    unfold gOf at KG
    have HLG : Hid ((ints (gL m.facts.length m.blocks.length m.facts m.blocks m.actual)).length = 67) := Lib.hid (by rw [ints_len]; exact gL_len hs)
    have HLO := Lib.hid (fun v (hv : v ∈ ints (gL m.facts.length m.blocks.length m.facts m.blocks m.actual)) => ints_one hv)
    have HC66 := Lib.hid (fun W b T (h : Cm W b T (ints (gL m.facts.length m.blocks.length m.facts m.blocks m.actual))) => h.g66 hs)
    have KRS := Lib.hid (fun p hp W => restricted_any m p HMD.out hp W)
    obtain ⟨p1, p2, p3, p4, _, _, p7, p8⟩ := HP.out
    generalize gL m.facts.length m.blocks.length m.facts m.blocks m.actual = G at *
    obtain ⟨act, hact⟩ := Int.eq_ofNat_of_zero_le p7
    have ha16 : act < 16 := by omega
    have ha16' : (act : Int) < 16 := by omega
    have ha0 : (0 : Int) ≤ (act : Int) := Int.natCast_nonneg _
    have HMEM : Hid (l.contains m.actual = memP l act) := Lib.hid (by rw [hact]; unfold memP; rw [Bool.eq_iff_iff, List.contains_iff_mem, decide_eq_true_iff])
    rw [HMEM.out] at HR
    rw [hact] at HC66
    clear hs HP p7 p8 hact
    cases hok : ascOk l m.facts.length with
    | false =>
      rw [hok] at KS HR
      have HR' : Hid (R = none) := Lib.hid (by rw [HR.out]; rfl)
      have HZP : Hid ((if false = true then memP l else fun _ => false) = fun _ => false) := Lib.hid rfl
      rw [HZP.out] at KS
      clear HR hok KRS HFT HMEM HZP
      unfold SoAns at KS
      obtain ⟨PP, hPP⟩ : ∃ P : Nat → Bool, P = fun _ => false := ⟨_, rfl⟩
      rw [← hPP] at KS
      clear hPP
      go_enter Tryz.func63, Tryz.ntmps63
      go_wp2_with fail
      refine (KG.out _ (by go_grown)).mono ?_
      rintro e w1 ⟨rfl, hb1⟩
      have M1 := Lib.hid (Mcell.below (b := w.heap.size + 1) (Mcell.new (by simp)) hb1)
      have B1 : Hid (Below w.heap.size w w1) := Lib.hid (Below.trans (by go_grown) (hb1.mono (by simp; omega)))
      clear hb1
      go_wp2_with
        (first
          | (refine wpList_allocM rfl 85 rfl (ints (gL 0 0 [] [] 0)) Tryz.allocGrid ?_
             intro w2 hc2 hb2 hs2
             have CC := Lib.hid hc2
             have BB : Hid (Below w.heap.size w w2) := Lib.hid (B1.out.trans (hb2.mono B1.out.size))
             have MM := Lib.hid (M1.out.below hb2)
             have hgb : w.heap.size + 1 < w1.heap.size := M1.out.lt
             clear hc2 hb2 hs2 M1)
          | (refine wpList_storeM rfl 85 _ _ rfl w1.heap.size 0 rfl (ints G) rfl 85 (ints (gL 0 0 [] [] 0)) CC.out (by rw [HLG.out]; exact Nat.le_refl _) (by rw [HLG.out]; exact Tryz.sizeGrid) HLO.out ?_
             intro w3 hc3 ha3
             rw [lay'_all (by rw [HLG.out]; rfl)] at hc3
             have CC := Lib.hid hc3
             have BB : Hid (Below w.heap.size w w3) := Lib.hid (BB.out.trans (ha3.below B1.out.size))
             have MM := Lib.hid (MM.out.of_block (ha3.block _ (by omega)))
             obtain ⟨mc0, mc1, mc2, mc3, mc4, mc5⟩ := MM.out
             clear hc3 ha3)
          | (refine wpList_loadM rfl 85 _ rfl w1.heap.size 0 rfl 85 (ints G) (ints G) CC.out (fun j _ => by rw [Nat.zero_add]) _ Tryz.underlying85 rfl (by rw [HLG.out]; exact Tryz.sizeGrid) ?_)
          | (go_at_call 113; (with_reducible refine (KS.out _ BB.out).mono ?_); rintro e w4 ⟨rfl, hb4⟩; clear mc0 mc1 mc2 mc3 mc4 mc5; have CC := Lib.hid (CC.out.all hb4); have MM := Lib.hid (MM.out.below hb4); have BB : Hid (Below w.heap.size w w4) := Lib.hid (BB.out.trans (hb4.mono BB.out.size)); have hgl : w1.heap.size < w4.heap.size := CC.out.lt; clear hb4)
          | (refine wpList_allocM (o := ⟨some 8, _, _, _, _, _⟩) rfl 89 rfl (bL (fun _ => false)) Tryz.allocSet ?_
             intro w5 hc5 hb5 hs5
             have CS := Lib.hid hc5
             have CC := Lib.hid (CC.out.all hb5)
             have MM := Lib.hid (MM.out.below hb5)
             have BB : Hid (Below w.heap.size w w5) := Lib.hid (BB.out.trans (hb5.mono BB.out.size))
             clear hc5 hb5 hs5)
          | (refine wpList_storeM rfl 89 (.tmp 8) (.tmp 21) rfl w4.heap.size 0 rfl (bL PP) rfl 89 (bL (fun _ => false)) CS.out (by rw [bL_len, bL_len]; exact Nat.le_refl _) (by rw [bL_len]; exact Tryz.sizeSet) (fun v hv => bL_one hv) ?_
             intro w6 hc6 ha6
             rw [lay'_all (by rw [bL_len, bL_len])] at hc6
             have CS := Lib.hid hc6
             have CC := Lib.hid (ha6.cm CC.out (by omega))
             have MM := Lib.hid (MM.out.of_block (ha6.block _ (by omega)))
             have BB : Hid (Below w.heap.size w w6) := Lib.hid (BB.out.trans (ha6.below (by omega)))
             have c66 := HC66.out _ _ _ CC.out
             have cs := set_store PP ha16 CS.out
             obtain ⟨mc0, mc1, mc2, mc3, mc4, mc5⟩ := MM.out
             clear hc6 ha6))
      clear c66 cs
      clear mc0 mc1 mc2 mc3 mc4 mc5
      have M6 := MM.out.write (.slice none 0 0) (.slice none 0 0) 0
      refine bodyPost_ret (results_mid2 Tryz.results63 _ _ (w.heap.size + 1) _ _ (.bool false) rfl rfl M6.range Tryz.underlying26 rfl Tryz.sizeMd) rfl ?_
      rw [HR'.out]
      exact ⟨_, rfl, Mo.none _ _ _, ((BB.out.setCell (by show _ ≤ w.heap.size + 1; omega) _).setCell (by show _ ≤ w.heap.size + 1; omega) _).setCell (by show _ ≤ w.heap.size + 1; omega) _⟩
    | true =>
      rw [hok] at KS HR
      have HZP : Hid ((if true = true then memP l else fun _ => false) = memP l) := Lib.hid rfl
      rw [HZP.out] at KS
      have HPB := Lib.hid (memP_bd hok)
      clear hok HZP
      unfold SoAns at KS
      cases hin : memP l act with
      | false =>
        rw [hin] at HR
        have HR' : Hid (R = none) := Lib.hid (by rw [HR.out]; rfl)
        have HIN := Lib.hid hin
        clear HR hin KRS HFT HMEM
        obtain ⟨PP, hPP⟩ : ∃ P : Nat → Bool, P = memP l := ⟨_, rfl⟩
        rw [← hPP] at KS HIN
        clear hPP
        go_enter Tryz.func63, Tryz.ntmps63
        go_wp2_with fail
        refine (KG.out _ (by go_grown)).mono ?_
        rintro e w1 ⟨rfl, hb1⟩
        have M1 := Lib.hid (Mcell.below (b := w.heap.size + 1) (Mcell.new (by simp)) hb1)
        have B1 : Hid (Below w.heap.size w w1) := Lib.hid (Below.trans (by go_grown) (hb1.mono (by simp; omega)))
        clear hb1
        go_wp2_with
          (first
            | (refine wpList_allocM rfl 85 rfl (ints (gL 0 0 [] [] 0)) Tryz.allocGrid ?_
               intro w2 hc2 hb2 hs2
               have CC := Lib.hid hc2
               have BB : Hid (Below w.heap.size w w2) := Lib.hid (B1.out.trans (hb2.mono B1.out.size))
               have MM := Lib.hid (M1.out.below hb2)
               have hgb : w.heap.size + 1 < w1.heap.size := M1.out.lt
               clear hc2 hb2 hs2 M1)
            | (refine wpList_storeM rfl 85 _ _ rfl w1.heap.size 0 rfl (ints G) rfl 85 (ints (gL 0 0 [] [] 0)) CC.out (by rw [HLG.out]; exact Nat.le_refl _) (by rw [HLG.out]; exact Tryz.sizeGrid) HLO.out ?_
               intro w3 hc3 ha3
               rw [lay'_all (by rw [HLG.out]; rfl)] at hc3
               have CC := Lib.hid hc3
               have BB : Hid (Below w.heap.size w w3) := Lib.hid (BB.out.trans (ha3.below B1.out.size))
               have MM := Lib.hid (MM.out.of_block (ha3.block _ (by omega)))
               obtain ⟨mc0, mc1, mc2, mc3, mc4, mc5⟩ := MM.out
               clear hc3 ha3)
            | (refine wpList_loadM rfl 85 _ rfl w1.heap.size 0 rfl 85 (ints G) (ints G) CC.out (fun j _ => by rw [Nat.zero_add]) _ Tryz.underlying85 rfl (by rw [HLG.out]; exact Tryz.sizeGrid) ?_)
            | (go_at_call 113; (with_reducible refine (KS.out _ BB.out).mono ?_); rintro e w4 ⟨rfl, hb4⟩; clear mc0 mc1 mc2 mc3 mc4 mc5; have CC := Lib.hid (CC.out.all hb4); have MM := Lib.hid (MM.out.below hb4); have BB : Hid (Below w.heap.size w w4) := Lib.hid (BB.out.trans (hb4.mono BB.out.size)); have hgl : w1.heap.size < w4.heap.size := CC.out.lt; clear hb4)
            | (refine wpList_allocM (o := ⟨some 8, _, _, _, _, _⟩) rfl 89 rfl (bL (fun _ => false)) Tryz.allocSet ?_
               intro w5 hc5 hb5 hs5
               have CS := Lib.hid hc5
               have CC := Lib.hid (CC.out.all hb5)
               have MM := Lib.hid (MM.out.below hb5)
               have BB : Hid (Below w.heap.size w w5) := Lib.hid (BB.out.trans (hb5.mono BB.out.size))
               clear hc5 hb5 hs5)
            | (refine wpList_storeM rfl 89 (.tmp 8) (.tmp 21) rfl w4.heap.size 0 rfl (bL PP) rfl 89 (bL (fun _ => false)) CS.out (by rw [bL_len, bL_len]; exact Nat.le_refl _) (by rw [bL_len]; exact Tryz.sizeSet) (fun v hv => bL_one hv) ?_
               intro w6 hc6 ha6
               rw [lay'_all (by rw [bL_len, bL_len])] at hc6
               have CS := Lib.hid hc6
               have CC := Lib.hid (ha6.cm CC.out (by omega))
               have MM := Lib.hid (MM.out.of_block (ha6.block _ (by omega)))
               have BB : Hid (Below w.heap.size w w6) := Lib.hid (BB.out.trans (ha6.below (by omega)))
               have c66 := HC66.out _ _ _ CC.out
               have cs := set_store PP ha16 CS.out
               rw [HIN.out] at cs
               obtain ⟨mc0, mc1, mc2, mc3, mc4, mc5⟩ := MM.out
               clear hc6 ha6))
        clear c66 cs
        clear mc0 mc1 mc2 mc3 mc4 mc5
        have M6 := MM.out.write (.slice none 0 0) (.slice none 0 0) 0
        refine bodyPost_ret (results_mid2 Tryz.results63 _ _ (w.heap.size + 1) _ _ (.bool false) rfl rfl M6.range Tryz.underlying26 rfl Tryz.sizeMd) rfl ?_
        rw [HR'.out]
        exact ⟨_, rfl, Mo.none _ _ _, ((BB.out.setCell (by show _ ≤ w.heap.size + 1; omega) _).setCell (by show _ ≤ w.heap.size + 1; omega) _).setCell (by show _ ≤ w.heap.size + 1; omega) _⟩
      | true =>
        rw [hin] at HR
        have HR' : Hid (R = some (restM m (lst (memP l) 16))) := Lib.hid (by rw [HR.out]; rfl)
        have HIN := Lib.hid hin
        have KRS := Lib.hid (KRS.out _ HPB.out)
        have KM : Hid (∀ W, Calls Tryz.prog 62 #[.agg (ints (gL (lst (memP l) 16).length m.blocks.length (restM m (lst (memP l) 16)).facts (restM m (lst (memP l) 16)).blocks (restM m (lst (memP l) 16)).actual)).toArray] W (MdAns W (restM m (lst (memP l) 16)))) := Lib.hid (fun W => by
          have h := gridModel_any (restM m (lst (memP l) 16)) (rest_fits HMD.out _ (lst_len _ _)) W
          rw [show (restM m (lst (memP l) 16)).facts.length = (lst (memP l) 16).length by simp [restM, pick_len], show (restM m (lst (memP l) 16)).blocks.length = m.blocks.length by simp [restM, rawRows_len]] at h
          exact h)
        generalize restM m (lst (memP l) 16) = RM at *
        clear HR hin HFT HMEM HPB
        obtain ⟨PP, hPP⟩ : ∃ P : Nat → Bool, P = memP l := ⟨_, rfl⟩
        rw [← hPP] at KS HIN KRS KM
        clear hPP
        go_enter Tryz.func63, Tryz.ntmps63
        go_wp2_with fail
        refine (KG.out _ (by go_grown)).mono ?_
        rintro e w1 ⟨rfl, hb1⟩
        have M1 := Lib.hid (Mcell.below (b := w.heap.size + 1) (Mcell.new (by simp)) hb1)
        have B1 : Hid (Below w.heap.size w w1) := Lib.hid (Below.trans (by go_grown) (hb1.mono (by simp; omega)))
        clear hb1
        go_wp2_with
          (first
            | (refine wpList_allocM rfl 85 rfl (ints (gL 0 0 [] [] 0)) Tryz.allocGrid ?_
               intro w2 hc2 hb2 hs2
               have CC := Lib.hid hc2
               have BB : Hid (Below w.heap.size w w2) := Lib.hid (B1.out.trans (hb2.mono B1.out.size))
               have MM := Lib.hid (M1.out.below hb2)
               have hgb : w.heap.size + 1 < w1.heap.size := M1.out.lt
               clear hc2 hb2 hs2 M1)
            | (refine wpList_storeM rfl 85 _ _ rfl w1.heap.size 0 rfl (ints G) rfl 85 (ints (gL 0 0 [] [] 0)) CC.out (by rw [HLG.out]; exact Nat.le_refl _) (by rw [HLG.out]; exact Tryz.sizeGrid) HLO.out ?_
               intro w3 hc3 ha3
               rw [lay'_all (by rw [HLG.out]; rfl)] at hc3
               have CC := Lib.hid hc3
               have BB : Hid (Below w.heap.size w w3) := Lib.hid (BB.out.trans (ha3.below B1.out.size))
               have MM := Lib.hid (MM.out.of_block (ha3.block _ (by omega)))
               obtain ⟨mc0, mc1, mc2, mc3, mc4, mc5⟩ := MM.out
               clear hc3 ha3)
            | (refine wpList_loadM rfl 85 _ rfl w1.heap.size 0 rfl 85 (ints G) (ints G) CC.out (fun j _ => by rw [Nat.zero_add]) _ Tryz.underlying85 rfl (by rw [HLG.out]; exact Tryz.sizeGrid) ?_)
            | (go_at_call 113; (with_reducible refine (KS.out _ BB.out).mono ?_); rintro e w4 ⟨rfl, hb4⟩; clear mc0 mc1 mc2 mc3 mc4 mc5; have CC := Lib.hid (CC.out.all hb4); have MM := Lib.hid (MM.out.below hb4); have BB : Hid (Below w.heap.size w w4) := Lib.hid (BB.out.trans (hb4.mono BB.out.size)); have hgl : w1.heap.size < w4.heap.size := CC.out.lt; clear hb4)
            | (refine wpList_allocM (o := ⟨some 8, _, _, _, _, _⟩) rfl 89 rfl (bL (fun _ => false)) Tryz.allocSet ?_
               intro w5 hc5 hb5 hs5
               have CS := Lib.hid hc5
               have CC := Lib.hid (CC.out.all hb5)
               have MM := Lib.hid (MM.out.below hb5)
               have BB : Hid (Below w.heap.size w w5) := Lib.hid (BB.out.trans (hb5.mono BB.out.size))
               clear hc5 hb5 hs5)
            | (refine wpList_storeM rfl 89 (.tmp 8) (.tmp 21) rfl w4.heap.size 0 rfl (bL PP) rfl 89 (bL (fun _ => false)) CS.out (by rw [bL_len, bL_len]; exact Nat.le_refl _) (by rw [bL_len]; exact Tryz.sizeSet) (fun v hv => bL_one hv) ?_
               intro w6 hc6 ha6
               rw [lay'_all (by rw [bL_len, bL_len])] at hc6
               have CS := Lib.hid hc6
               have CC := Lib.hid (ha6.cm CC.out (by omega))
               have MM := Lib.hid (MM.out.of_block (ha6.block _ (by omega)))
               have BB : Hid (Below w.heap.size w w6) := Lib.hid (BB.out.trans (ha6.below (by omega)))
               have c66 := HC66.out _ _ _ CC.out
               have cs := set_store PP ha16 CS.out
               rw [HIN.out] at cs
               obtain ⟨mc0, mc1, mc2, mc3, mc4, mc5⟩ := MM.out
               clear hc6 ha6)
            | (refine wpList_loadM rfl 89 _ rfl w4.heap.size 0 rfl 89 (bL PP) (bL PP) CS.out (fun j _ => by rw [Nat.zero_add]) _ Tryz.underlying89 rfl (by rw [bL_len]; exact Tryz.sizeSet) ?_))
        clear c66 cs
        clear mc0 mc1 mc2 mc3 mc4 mc5
        refine (KRS.out _).mono ?_
        rintro e w7 ⟨rfl, hb7⟩
        have M7 := Lib.hid (MM.out.below hb7)
        have B7 := Lib.hid (BB.out.trans (hb7.mono BB.out.size))
        clear hb7
        go_wp2_with fail
        refine (KM.out _).mono ?_
        rintro e w8 ⟨v8, rfl, ho8, hb8⟩
        have M8 := Lib.hid (M7.out.below hb8)
        have B8 := Lib.hid (B7.out.trans (hb8.mono B7.out.size))
        have O8 := Lib.hid ho8
        have hz2 : w.heap.size + 1 < w7.heap.size := M7.out.lt
        obtain ⟨qa, qc, pa, pc, e3⟩ := ho8.read.form
        subst e3
        clear ho8 hb8
        obtain ⟨mc0, mc1, mc2, mc3, mc4, mc5⟩ := M8.out
        go_wp2
        clear mc0 mc1 mc2 mc3 mc4 mc5
        obtain ⟨o9, b9, m9⟩ := ans_put (m := RM) M8.out O8.out hz2 (by omega) (Nat.le_refl _) B8.out
        refine bodyPost_ret (results_mid2 Tryz.results63 _ _ (w.heap.size + 1) _ _ (.bool true) rfl rfl m9.range Tryz.underlying26 rfl Tryz.sizeMd) rfl ?_
        rw [HR'.out]
        exact ⟨_, rfl, o9, b9⟩
end Go.Proofs.YtodjohdbngbpaaaGreat
