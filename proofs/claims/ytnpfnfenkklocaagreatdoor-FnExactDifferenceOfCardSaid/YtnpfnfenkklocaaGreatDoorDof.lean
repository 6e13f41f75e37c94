/-
  impl.DifferenceOf. Condition: the library's table is laid.
-/
import Derived.Test.YtnpfnfenkklocaaGreatDoorDfi
import Derived.Test.YtnpfnfenkklocaaGreatDoorGof
import Derived.Test.YtnpfnfenkklocaaGreatDoorZMok
namespace Go.Proofs.YtnpfnfenkklocaaGreatDoor
open Go.RowKit Go.WideShapes
open Go Go.Deep
set_option linter.unusedSimpArgs false

set_option maxRecDepth 100000 in
set_option maxHeartbeats 32000000 in
theorem implDiffOf_any (lo hi : Nat) (v : Value) (m : Md) (a b : Int) (w : World) (hr : Mv lo hi w v m) (hhi : hi ≤ w.heap.size) (hT : BTab w) :
    Calls Tryz.prog 8 #[v, .int .i64 a, .int .i64 b] w (Ans w (diffR m a b)) := by
  have KG := Lib.hid (fun W (h : Below w.heap.size w W) => gridOf_any lo hi v m W (hr.keeps (Keeps.of_all h)) (Nat.le_trans hhi h.size))
  obtain ⟨R, hR⟩ : ∃ R, R = diffR m a b := ⟨_, rfl⟩
  rw [← hR]
  have HR := Lib.hid hR
  clear hR
  obtain ⟨fv, bv, rfl, hf, hb⟩ := hr
  clear hf hb hhi
  cases hm : mdOk m with
  | false =>
    have HN : Hid (R = none) := Lib.hid (HR.out.trans (by unfold diffR; rw [hm]; rfl))
    simp only [hm, Bool.false_eq_true, if_false] at KG
    unfold GdAns at KG
    simp only [Option.getD_none, Option.isSome_none] at KG
    have HLG : Hid ((ints (gL 0 0 [] [] 0)).length = 67) := Lib.hid rfl
    have HLO := Lib.hid (fun v (hv : v ∈ ints (gL 0 0 [] [] 0)) => ints_one hv)
    obtain ⟨G, hG⟩ : ∃ G, G = gL 0 0 [] [] 0 := ⟨_, rfl⟩
    rw [← hG] at KG HLG HLO
    clear hG HR hm hT
    go_enter Tryz.func8, Tryz.ntmps8
    go_wp2_with fail
    refine (KG.out _ (by go_grown)).mono ?_
    rintro e w1 ⟨rfl, hb1⟩
    have B1 : Hid (Below w.heap.size w w1) := Lib.hid (Below.trans (by go_grown) (hb1.mono (by simp)))
    clear hb1
    have tk1 : True := trivial
    have tk2 : True := trivial
    go_wp2_with
      (first
        | (have _t := tk1; clear _t tk1; refine wpList_allocM rfl 59 rfl (ints (gL 0 0 [] [] 0)) Tryz.allocGrid ?_; intro w2 hc2 hb2 hs2; have C2 := Lib.hid hc2; have B2 : Hid (Below w.heap.size w w2) := Lib.hid (B1.out.trans (hb2.mono B1.out.size)); clear hc2 hb2 hs2)
        | (have _t := tk2; clear _t tk2; refine wpList_storeM rfl 59 (.tmp 8) (.tmp 15) rfl w1.heap.size 0 rfl (ints G) rfl 59 (ints (gL 0 0 [] [] 0)) C2.out (by rw [HLG.out]; exact Nat.le_refl _) (by rw [HLG.out]; exact Tryz.sizeGrid) HLO.out ?_; intro w3 hc3 ha3; rw [lay'_all (by rw [HLG.out]; rfl)] at hc3; have C3 := Lib.hid hc3; have B3 : Hid (Below w.heap.size w w3) := Lib.hid (B2.out.trans (ha3.below B1.out.size)); clear hc3 ha3))
    go_returns
    rw [HN.out]
    exact ⟨_, rfl, World.ownsRow_nil _ _ _ _, B3.out⟩
  | true =>
    obtain ⟨p1, p2, p3, p4, p5, p6, -⟩ := mdOk_parts hm
    have hs := md_small hm
    simp only [hm, if_true] at KG
    unfold GdAns at KG
    simp only [Option.getD_some, Option.isSome_some] at KG
    unfold gOf at KG
    have HLG : Hid ((ints (gL m.facts.length m.blocks.length m.facts m.blocks m.actual)).length = 67) := Lib.hid (by rw [ints_len]; exact gL_len hs)
    have HLO := Lib.hid (fun v (hv : v ∈ ints (gL m.facts.length m.blocks.length m.facts m.blocks m.actual)) => ints_one hv)
    have HC0 : Hid (∀ W b T, Cm W b T (ints (gL m.facts.length m.blocks.length m.facts m.blocks m.actual)) → W.cell? ⟨b, 0, none⟩ = some (.int .i64 m.facts.length)) := Lib.hid (fun W b T h => h.g0)
    have KWa := Lib.hid (fun W => hasWorld_any m.facts.length m.blocks.length m.actual m.facts m.blocks a W)
    have KWb := Lib.hid (fun W => hasWorld_any m.facts.length m.blocks.length m.actual m.facts m.blocks b W)
    have KS := Lib.hid (fun W => steps_any m hm W)
    have KD := Lib.hid (fun sv W (h : Below w.heap.size w W) (h1 : StV W sv m) x y hx hy hl h0 => diff_any m hm sv W h1 (hT.below h (Nat.le_refl _)) (stab m + 2) x y W hx hy hl h0 (by omega) (Below.refl _ _))
    have HWF := Lib.hid (fun x y => combL_wf (diff_wf (m := m) p4 (stab m + 2) x y))
    have HST := Lib.hid (stab_16 p2)
    generalize (gL m.facts.length m.blocks.length m.facts m.blocks m.actual) = G at *
    have HMK := Lib.hid hm
    clear hs hm p5 p6 hT
    by_cases hn8 : m.facts.length ≤ 8
    · have hn8' : decide ((8 : Int) < (m.facts.length : Int)) = false := decide_eq_false (by omega)
      cases hia : inB a m.facts.length with
      | false =>
        have HN : Hid (R = none) := Lib.hid (HR.out.trans (by unfold diffR; rw [hia]; simp))
        rw [hia] at KWa
        clear HR KS KD HWF KWb hia
        go_enter Tryz.func8, Tryz.ntmps8
        go_wp2_with fail
        refine (KG.out _ (by go_grown)).mono ?_
        rintro e w1 ⟨rfl, hb1⟩
        have B1 : Hid (Below w.heap.size w w1) := Lib.hid (Below.trans (by go_grown) (hb1.mono (by simp)))
        clear hb1
        have tk3 : True := trivial
        have tk4 : True := trivial
        have tk5 : True := trivial
        have tk6 : True := trivial
        go_wp2_with
          (first
            | (have _t := tk3; clear _t tk3; refine wpList_allocM rfl 59 rfl (ints (gL 0 0 [] [] 0)) Tryz.allocGrid ?_; intro w2 hc2 hb2 hs2; have C2 := Lib.hid hc2; have B2 : Hid (Below w.heap.size w w2) := Lib.hid (B1.out.trans (hb2.mono B1.out.size)); clear hc2 hb2 hs2)
            | (have _t := tk4; clear _t tk4; refine wpList_storeM rfl 59 (.tmp 8) (.tmp 15) rfl w1.heap.size 0 rfl (ints G) rfl 59 (ints (gL 0 0 [] [] 0)) C2.out (by rw [HLG.out]; exact Nat.le_refl _) (by rw [HLG.out]; exact Tryz.sizeGrid) HLO.out ?_; intro w3 hc3 ha3; rw [lay'_all (by rw [HLG.out]; rfl)] at hc3; have C3 := Lib.hid hc3; have B3 : Hid (Below w.heap.size w w3) := Lib.hid (B2.out.trans (ha3.below B1.out.size)); have g0 := HC0.out _ _ _ C3.out; clear hc3 ha3)
            | (have _t := tk5; clear _t tk5; refine wpList_loadMG rfl (by rfl) 59 _ rfl w1.heap.size 0 rfl 59 (ints G) (ints G) C3.out (fun j _ => by rw [Nat.zero_add]) _ Tryz.underlying59 rfl (by rw [HLG.out]; exact Tryz.sizeGrid) ?_)
            | (have _t := tk6; clear _t tk6; go_at_call 31; (with_reducible refine (KWa.out _).mono ?_); rintro e w4 ⟨rfl, hb4⟩; have C4 := Lib.hid (C3.out.all hb4); have B4 : Hid (Below w.heap.size w w4) := Lib.hid (B3.out.trans (hb4.mono B3.out.size)); clear hb4))
        go_returns
        rw [HN.out]
        exact ⟨_, rfl, World.ownsRow_nil _ _ _ _, B4.out⟩
      | true =>
        rw [hia] at KWa
        cases hib : inB b m.facts.length with
        | false =>
          have HN : Hid (R = none) := Lib.hid (HR.out.trans (by unfold diffR; rw [hib]; simp))
          rw [hib] at KWb
          clear HR KS KD HWF hia hib
          go_enter Tryz.func8, Tryz.ntmps8
          go_wp2_with fail
          refine (KG.out _ (by go_grown)).mono ?_
          rintro e w1 ⟨rfl, hb1⟩
          have B1 : Hid (Below w.heap.size w w1) := Lib.hid (Below.trans (by go_grown) (hb1.mono (by simp)))
          clear hb1
          have tk7 : True := trivial
          have tk8 : True := trivial
          have tk9 : True := trivial
          have tk10 : True := trivial
          have tk11 : True := trivial
          have tk12 : True := trivial
          go_wp2_with
            (first
              | (have _t := tk7; clear _t tk7; refine wpList_allocM rfl 59 rfl (ints (gL 0 0 [] [] 0)) Tryz.allocGrid ?_; intro w2 hc2 hb2 hs2; have C2 := Lib.hid hc2; have B2 : Hid (Below w.heap.size w w2) := Lib.hid (B1.out.trans (hb2.mono B1.out.size)); clear hc2 hb2 hs2)
              | (have _t := tk8; clear _t tk8; refine wpList_storeM rfl 59 (.tmp 8) (.tmp 15) rfl w1.heap.size 0 rfl (ints G) rfl 59 (ints (gL 0 0 [] [] 0)) C2.out (by rw [HLG.out]; exact Nat.le_refl _) (by rw [HLG.out]; exact Tryz.sizeGrid) HLO.out ?_; intro w3 hc3 ha3; rw [lay'_all (by rw [HLG.out]; rfl)] at hc3; have C3 := Lib.hid hc3; have B3 : Hid (Below w.heap.size w w3) := Lib.hid (B2.out.trans (ha3.below B1.out.size)); have g0 := HC0.out _ _ _ C3.out; clear hc3 ha3)
              | (have _t := tk9; clear _t tk9; refine wpList_loadMG rfl (by rfl) 59 _ rfl w1.heap.size 0 rfl 59 (ints G) (ints G) C3.out (fun j _ => by rw [Nat.zero_add]) _ Tryz.underlying59 rfl (by rw [HLG.out]; exact Tryz.sizeGrid) ?_)
              | (have _t := tk10; clear _t tk10; go_at_call 31; (with_reducible refine (KWa.out _).mono ?_); rintro e w4 ⟨rfl, hb4⟩; have C4 := Lib.hid (C3.out.all hb4); have B4 : Hid (Below w.heap.size w w4) := Lib.hid (B3.out.trans (hb4.mono B3.out.size)); clear hb4)
              | (have _t := tk11; clear _t tk11; refine wpList_loadMG rfl (by rfl) 59 _ rfl w1.heap.size 0 rfl 59 (ints G) (ints G) C4.out (fun j _ => by rw [Nat.zero_add]) _ Tryz.underlying59 rfl (by rw [HLG.out]; exact Tryz.sizeGrid) ?_)
              | (have _t := tk12; clear _t tk12; go_at_call 31; (with_reducible refine (KWb.out _).mono ?_); rintro e w5 ⟨rfl, hb5⟩; have C5 := Lib.hid (C4.out.all hb5); have B5 : Hid (Below w.heap.size w w5) := Lib.hid (B4.out.trans (hb5.mono B4.out.size)); clear hb5))
          go_returns
          rw [HN.out]
          exact ⟨_, rfl, World.ownsRow_nil _ _ _ _, B5.out⟩
        | true =>
          rw [hib] at KWb
          have hax : 0 ≤ a ∧ a < m.facts.length := by unfold inB at hia; simpa using hia
          have hby : 0 ≤ b ∧ b < m.facts.length := by unfold inB at hib; simpa using hib
          have HR : Hid (R = if (lastC m).getD a.toNat 0 = (lastC m).getD b.toNat 0 then none else combL (diffT m (stab m + 2) a.toNat b.toNat)) := Lib.hid (HR.out.trans (by
            unfold diffR
            rw [HMK.out, hia, hib, decide_eq_true hn8]
            by_cases h : (lastC m).getD a.toNat 0 = (lastC m).getD b.toNat 0
            · rw [beq_iff_eq.2 h, if_pos h]; rfl
            · rw [beq_eq_false_iff_ne.2 h, if_neg h, HWF.out]; rfl))
          clear hia hib HWF HMK
          obtain ⟨x, hx⟩ := Int.eq_ofNat_of_zero_le hax.1
          obtain ⟨y, hy⟩ := Int.eq_ofNat_of_zero_le hby.1
          subst hx
          subst hy
          rw [Int.toNat_natCast, Int.toNat_natCast] at HR
          have hxn : x < m.facts.length := by omega
          have hyn : y < m.facts.length := by omega
          have hx0 : (0 : Int) ≤ (x : Int) := Int.natCast_nonneg _
          have hy0 : (0 : Int) ≤ (y : Int) := Int.natCast_nonneg _
          have hx16 : (x : Int) < 16 := by omega
          have hy16 : (y : Int) < 16 := by omega
          have HLA : Hid (∀ i, (lastC m).getD i 0 = cF m (stab m) i) := Lib.hid (fun i => rfl)
          clear hax hby
          have hs0 : (0 : Int) ≤ (stab m : Int) := Int.natCast_nonneg _
          have HRG := Lib.hid (fun i (h : i < 16) => rowF_get (cF m (stab m)) h)
          by_cases he : cF m (stab m) x = cF m (stab m) y
          · have HN : Hid (R = none) := Lib.hid (HR.out.trans (if_pos (by rw [HLA.out, HLA.out]; exact he)))
            clear HR KD HLA
            go_enter Tryz.func8, Tryz.ntmps8
            go_wp2_with fail
            refine (KG.out _ (by go_grown)).mono ?_
            rintro e w1 ⟨rfl, hb1⟩
            have B1 : Hid (Below w.heap.size w w1) := Lib.hid (Below.trans (by go_grown) (hb1.mono (by simp)))
            clear hb1
            have tk13 : True := trivial
            have tk14 : True := trivial
            have tk15 : True := trivial
            have tk16 : True := trivial
            have tk17 : True := trivial
            have tk18 : True := trivial
            have tk19 : True := trivial
            have tk20 : True := trivial
            have tk21 : True := trivial
            have tk22 : True := trivial
            have tk23 : True := trivial
            go_wp2_with
              (first
                | (have _t := tk13; clear _t tk13; refine wpList_allocM rfl 59 rfl (ints (gL 0 0 [] [] 0)) Tryz.allocGrid ?_; intro w2 hc2 hb2 hs2; have C2 := Lib.hid hc2; have B2 : Hid (Below w.heap.size w w2) := Lib.hid (B1.out.trans (hb2.mono B1.out.size)); clear hc2 hb2 hs2)
                | (have _t := tk14; clear _t tk14; refine wpList_storeM rfl 59 (.tmp 8) (.tmp 15) rfl w1.heap.size 0 rfl (ints G) rfl 59 (ints (gL 0 0 [] [] 0)) C2.out (by rw [HLG.out]; exact Nat.le_refl _) (by rw [HLG.out]; exact Tryz.sizeGrid) HLO.out ?_; intro w3 hc3 ha3; rw [lay'_all (by rw [HLG.out]; rfl)] at hc3; have C3 := Lib.hid hc3; have B3 : Hid (Below w.heap.size w w3) := Lib.hid (B2.out.trans (ha3.below B1.out.size)); have g0 := HC0.out _ _ _ C3.out; clear hc3 ha3)
                | (have _t := tk15; clear _t tk15; refine wpList_loadMG rfl (by rfl) 59 _ rfl w1.heap.size 0 rfl 59 (ints G) (ints G) C3.out (fun j _ => by rw [Nat.zero_add]) _ Tryz.underlying59 rfl (by rw [HLG.out]; exact Tryz.sizeGrid) ?_)
                | (have _t := tk16; clear _t tk16; go_at_call 31; (with_reducible refine (KWa.out _).mono ?_); rintro e w4 ⟨rfl, hb4⟩; have C4 := Lib.hid (C3.out.all hb4); have B4 : Hid (Below w.heap.size w w4) := Lib.hid (B3.out.trans (hb4.mono B3.out.size)); clear hb4)
                | (have _t := tk17; clear _t tk17; refine wpList_loadMG rfl (by rfl) 59 _ rfl w1.heap.size 0 rfl 59 (ints G) (ints G) C4.out (fun j _ => by rw [Nat.zero_add]) _ Tryz.underlying59 rfl (by rw [HLG.out]; exact Tryz.sizeGrid) ?_)
                | (have _t := tk18; clear _t tk18; go_at_call 31; (with_reducible refine (KWb.out _).mono ?_); rintro e w5 ⟨rfl, hb5⟩; have C5 := Lib.hid (C4.out.all hb5); have B5 : Hid (Below w.heap.size w w5) := Lib.hid (B4.out.trans (hb5.mono B4.out.size)); clear hb5)
                | (have _t := tk19; clear _t tk19; refine wpList_loadM rfl 59 (.tmp 8) rfl w1.heap.size 0 rfl 59 (ints G) (ints G) C5.out (fun j _ => by rw [Nat.zero_add]) _ Tryz.underlying59 rfl (by rw [HLG.out]; exact Tryz.sizeGrid) ?_)
                | (have _t := tk20; clear _t tk20; go_at_call 32; (with_reducible refine (KS.out _).mono ?_); rintro e w6 ⟨v6, rfl, ho6, hb6⟩; have ST6 := Lib.hid (StV.of_own ho6); obtain ⟨g, cap, cs, rfl, hc1, hc2, hc3, hc4, hc5⟩ := ST6.out; have C6 := Lib.hid (C5.out.all hb6); have B6 : Hid (Below w.heap.size w w6) := Lib.hid (B5.out.trans (hb6.mono B5.out.size)); have D6 := Lib.hid hc4; have E6 := Lib.hid (fun j (hj : j < (ints (rowF (cF m (stab m)))).length) => hc5 (stab m) (Nat.le_refl _) j (by rwa [rowF_ints_len] at hj)); unfold maxLen at hc2; clear ho6 hb6 hc4 hc5)
                | (have _t := tk21; clear _t tk21; refine wpList_loadM rfl 56 (.tmp 42) rfl g (stab m * 16) rfl 56 cs (ints (rowF (cF m (stab m)))) D6.out E6.out _ Tryz.underlying56 rfl (by rw [rowF_ints_len]; exact Tryz.sizeRow) ?_)
                | (have _t := tk22; clear _t tk22; refine wpList_allocM (o := ⟨some 11, _, _, _, _, _⟩) rfl 56 rfl (ints (rowF fun _ => 0)) Tryz.allocRowF ?_; intro w7 hc7 hb7 hs7; have N7 := Lib.hid hc7; have T7 := Lib.hid hb7; clear hc7 hb7 hs7)
                | (have _t := tk23; clear _t tk23; refine wpList_storeM rfl 56 (.tmp 11) (.tmp 43) rfl w6.heap.size 0 rfl (ints (rowF (cF m (stab m)))) rfl 56 _ N7.out (by rw [rowF_ints_len, rowF_ints_len]; exact Nat.le_refl _) (by rw [rowF_ints_len]; exact Tryz.sizeRow) (fun v hv => ints_one hv) ?_; intro w8 hc8 ha8; rw [lay'_all (by rw [rowF_ints_len, rowF_ints_len])] at hc8; have N8 := Lib.hid hc8; have T8 : Hid (Below w6.heap.size w6 w8) := Lib.hid (T7.out.trans (ha8.below (Nat.le_refl _))); have ST8 := Lib.hid (ST6.out.below T8.out); have C8 := Lib.hid (C6.out.all T8.out); have B8 : Hid (Below w.heap.size w w8) := Lib.hid (B6.out.trans (T8.out.mono B6.out.size)); clear hc8 ha8))
            have c1 : w8.cell? ⟨w6.heap.size, x, none⟩ = some (.int .i64 (cF m (stab m) x)) := by rw [N8.out.cell, ints_at (by rw [rowF_len]; omega), HRG.out x (by omega)]
            have c2 : w8.cell? ⟨w6.heap.size, y, none⟩ = some (.int .i64 (cF m (stab m) y)) := by rw [N8.out.cell, ints_at (by rw [rowF_len]; omega), HRG.out y (by omega)]
            rw [he] at c1
            generalize cF m (stab m) y = zz at c1 c2
            go_quiet (fail)
            clear c1 c2
            go_wp2
            go_returns
            rw [HN.out]
            exact ⟨_, rfl, World.ownsRow_nil _ _ _ _, below_drewN' B8.out _⟩
          · have HR2 : Hid (R = combL (diffT m (stab m + 2) x y)) := Lib.hid (HR.out.trans (if_neg (by rw [HLA.out, HLA.out]; exact he)))
            have hl : sameAt m (stab m) x y = false := by unfold sameAt; exact beq_eq_false_iff_ne.2 he
            have KD := Lib.hid (fun sv W h h1 => KD.out sv W h h1 x y hxn hyn hl (fun h0 => by have := (stepOf_at hl h0).2.1; omega))
            rw [← HR2.out] at KD
            unfold Ans at KD
            clear HR HR2 HLA hl
            go_enter Tryz.func8, Tryz.ntmps8
            go_wp2_with fail
            refine (KG.out _ (by go_grown)).mono ?_
            rintro e w1 ⟨rfl, hb1⟩
            have B1 : Hid (Below w.heap.size w w1) := Lib.hid (Below.trans (by go_grown) (hb1.mono (by simp)))
            clear hb1
            have tk24 : True := trivial
            have tk25 : True := trivial
            have tk26 : True := trivial
            have tk27 : True := trivial
            have tk28 : True := trivial
            have tk29 : True := trivial
            have tk30 : True := trivial
            have tk31 : True := trivial
            have tk32 : True := trivial
            have tk33 : True := trivial
            have tk34 : True := trivial
            go_wp2_with
              (first
                | (have _t := tk24; clear _t tk24; refine wpList_allocM rfl 59 rfl (ints (gL 0 0 [] [] 0)) Tryz.allocGrid ?_; intro w2 hc2 hb2 hs2; have C2 := Lib.hid hc2; have B2 : Hid (Below w.heap.size w w2) := Lib.hid (B1.out.trans (hb2.mono B1.out.size)); clear hc2 hb2 hs2)
                | (have _t := tk25; clear _t tk25; refine wpList_storeM rfl 59 (.tmp 8) (.tmp 15) rfl w1.heap.size 0 rfl (ints G) rfl 59 (ints (gL 0 0 [] [] 0)) C2.out (by rw [HLG.out]; exact Nat.le_refl _) (by rw [HLG.out]; exact Tryz.sizeGrid) HLO.out ?_; intro w3 hc3 ha3; rw [lay'_all (by rw [HLG.out]; rfl)] at hc3; have C3 := Lib.hid hc3; have B3 : Hid (Below w.heap.size w w3) := Lib.hid (B2.out.trans (ha3.below B1.out.size)); have g0 := HC0.out _ _ _ C3.out; clear hc3 ha3)
                | (have _t := tk26; clear _t tk26; refine wpList_loadMG rfl (by rfl) 59 _ rfl w1.heap.size 0 rfl 59 (ints G) (ints G) C3.out (fun j _ => by rw [Nat.zero_add]) _ Tryz.underlying59 rfl (by rw [HLG.out]; exact Tryz.sizeGrid) ?_)
                | (have _t := tk27; clear _t tk27; go_at_call 31; (with_reducible refine (KWa.out _).mono ?_); rintro e w4 ⟨rfl, hb4⟩; have C4 := Lib.hid (C3.out.all hb4); have B4 : Hid (Below w.heap.size w w4) := Lib.hid (B3.out.trans (hb4.mono B3.out.size)); clear hb4)
                | (have _t := tk28; clear _t tk28; refine wpList_loadMG rfl (by rfl) 59 _ rfl w1.heap.size 0 rfl 59 (ints G) (ints G) C4.out (fun j _ => by rw [Nat.zero_add]) _ Tryz.underlying59 rfl (by rw [HLG.out]; exact Tryz.sizeGrid) ?_)
                | (have _t := tk29; clear _t tk29; go_at_call 31; (with_reducible refine (KWb.out _).mono ?_); rintro e w5 ⟨rfl, hb5⟩; have C5 := Lib.hid (C4.out.all hb5); have B5 : Hid (Below w.heap.size w w5) := Lib.hid (B4.out.trans (hb5.mono B4.out.size)); clear hb5)
                | (have _t := tk30; clear _t tk30; refine wpList_loadM rfl 59 (.tmp 8) rfl w1.heap.size 0 rfl 59 (ints G) (ints G) C5.out (fun j _ => by rw [Nat.zero_add]) _ Tryz.underlying59 rfl (by rw [HLG.out]; exact Tryz.sizeGrid) ?_)
                | (have _t := tk31; clear _t tk31; go_at_call 32; (with_reducible refine (KS.out _).mono ?_); rintro e w6 ⟨v6, rfl, ho6, hb6⟩; have ST6 := Lib.hid (StV.of_own ho6); obtain ⟨g, cap, cs, rfl, hc1, hc2, hc3, hc4, hc5⟩ := ST6.out; have C6 := Lib.hid (C5.out.all hb6); have B6 : Hid (Below w.heap.size w w6) := Lib.hid (B5.out.trans (hb6.mono B5.out.size)); have D6 := Lib.hid hc4; have E6 := Lib.hid (fun j (hj : j < (ints (rowF (cF m (stab m)))).length) => hc5 (stab m) (Nat.le_refl _) j (by rwa [rowF_ints_len] at hj)); unfold maxLen at hc2; clear ho6 hb6 hc4 hc5)
                | (have _t := tk32; clear _t tk32; refine wpList_loadM rfl 56 (.tmp 42) rfl g (stab m * 16) rfl 56 cs (ints (rowF (cF m (stab m)))) D6.out E6.out _ Tryz.underlying56 rfl (by rw [rowF_ints_len]; exact Tryz.sizeRow) ?_)
                | (have _t := tk33; clear _t tk33; refine wpList_allocM (o := ⟨some 11, _, _, _, _, _⟩) rfl 56 rfl (ints (rowF fun _ => 0)) Tryz.allocRowF ?_; intro w7 hc7 hb7 hs7; have N7 := Lib.hid hc7; have T7 := Lib.hid hb7; clear hc7 hb7 hs7)
                | (have _t := tk34; clear _t tk34; refine wpList_storeM rfl 56 (.tmp 11) (.tmp 43) rfl w6.heap.size 0 rfl (ints (rowF (cF m (stab m)))) rfl 56 _ N7.out (by rw [rowF_ints_len, rowF_ints_len]; exact Nat.le_refl _) (by rw [rowF_ints_len]; exact Tryz.sizeRow) (fun v hv => ints_one hv) ?_; intro w8 hc8 ha8; rw [lay'_all (by rw [rowF_ints_len, rowF_ints_len])] at hc8; have N8 := Lib.hid hc8; have T8 : Hid (Below w6.heap.size w6 w8) := Lib.hid (T7.out.trans (ha8.below (Nat.le_refl _))); have ST8 := Lib.hid (ST6.out.below T8.out); have C8 := Lib.hid (C6.out.all T8.out); have B8 : Hid (Below w.heap.size w w8) := Lib.hid (B6.out.trans (T8.out.mono B6.out.size)); clear hc8 ha8))
            have c1 : w8.cell? ⟨w6.heap.size, x, none⟩ = some (.int .i64 (cF m (stab m) x)) := by rw [N8.out.cell, ints_at (by rw [rowF_len]; omega), HRG.out x (by omega)]
            have c2 : w8.cell? ⟨w6.heap.size, y, none⟩ = some (.int .i64 (cF m (stab m) y)) := by rw [N8.out.cell, ints_at (by rw [rowF_len]; omega), HRG.out y (by omega)]
            generalize cF m (stab m) x = z1 at c1 he
            generalize cF m (stab m) y = z2 at c2 he
            have e1 : (z1 == z2) = false := by simpa using he
            clear he
            go_quiet (fail)
            clear c1 c2
            have tk35 : True := trivial
            have tk36 : True := trivial
            go_wp2_with
              (first
                | (have _t := tk35; clear _t tk35; refine wpList_loadM rfl 59 (.tmp 8) rfl w1.heap.size 0 rfl 59 (ints G) (ints G) (C8.out.drewN _) (fun j _ => by rw [Nat.zero_add]) _ Tryz.underlying59 rfl (by rw [HLG.out]; exact Tryz.sizeGrid) ?_)
                | (have _t := tk36; clear _t tk36; go_at_call 33; refine (KD.out _ _ (below_drewN' B8.out _) (ST8.out.below (below_drewN' (Below.refl _ _) _))).mono ?_; rintro e w9 ⟨v9, rfl, ho9, hb9⟩; have O9 := Lib.hid (own_mono ho9 (below_drewN' B8.out _).size); have B9 := Lib.hid ((below_drewN' B8.out _).trans (hb9.mono (below_drewN' B8.out _).size)); clear ho9 hb9))
            go_returns
            exact ⟨_, rfl, O9.out, B9.out⟩
    · have hn8' : (8 : Int) < (m.facts.length : Int) := by omega
      have HN : Hid (R = none) := Lib.hid (HR.out.trans (by unfold diffR; rw [decide_eq_false hn8]; simp))
      clear HR KS KD HWF KWa KWb
      go_enter Tryz.func8, Tryz.ntmps8
      go_wp2_with fail
      refine (KG.out _ (by go_grown)).mono ?_
      rintro e w1 ⟨rfl, hb1⟩
      have B1 : Hid (Below w.heap.size w w1) := Lib.hid (Below.trans (by go_grown) (hb1.mono (by simp)))
      clear hb1
      have tk37 : True := trivial
      have tk38 : True := trivial
      go_wp2_with
        (first
          | (have _t := tk37; clear _t tk37; refine wpList_allocM rfl 59 rfl (ints (gL 0 0 [] [] 0)) Tryz.allocGrid ?_; intro w2 hc2 hb2 hs2; have C2 := Lib.hid hc2; have B2 : Hid (Below w.heap.size w w2) := Lib.hid (B1.out.trans (hb2.mono B1.out.size)); clear hc2 hb2 hs2)
          | (have _t := tk38; clear _t tk38; refine wpList_storeM rfl 59 (.tmp 8) (.tmp 15) rfl w1.heap.size 0 rfl (ints G) rfl 59 (ints (gL 0 0 [] [] 0)) C2.out (by rw [HLG.out]; exact Nat.le_refl _) (by rw [HLG.out]; exact Tryz.sizeGrid) HLO.out ?_; intro w3 hc3 ha3; rw [lay'_all (by rw [HLG.out]; rfl)] at hc3; have C3 := Lib.hid hc3; have B3 : Hid (Below w.heap.size w w3) := Lib.hid (B2.out.trans (ha3.below B1.out.size)); have g0 := HC0.out _ _ _ C3.out; clear hc3 ha3))
      go_returns
      rw [HN.out]
      exact ⟨_, rfl, World.ownsRow_nil _ _ _ _, B3.out⟩
end Go.Proofs.YtnpfnfenkklocaaGreatDoor
