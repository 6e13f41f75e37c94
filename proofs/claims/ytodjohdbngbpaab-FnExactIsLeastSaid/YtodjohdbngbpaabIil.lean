/-
  impl.IsLeast: the grid of the least equal model is the model's own. No condition but the reading.
-/
import Derived.Test.YtodjohdbngbpaabGeq
namespace Go.Proofs.Ytodjohdbngbpaab
open Go.RowKit Go.WideShapes
open Go Go.Deep
set_option linter.unusedSimpArgs false

attribute [-go_sem] run_equalIn_agg in
set_option maxRecDepth 100000 in
set_option maxHeartbeats 16000000 in
theorem implIsLeast_any (lo hi : Nat) (v : Value) (m : Md) (w : World) (hr : Mv lo hi w v m) (hhi : hi ≤ w.heap.size) :
    Calls Try.prog 7 #[v] w fun e w' => e = .returned (.bool (isLeastR m)) ∧ Below w.heap.size w w' := by
  have KG := Lib.hid (fun W (h : Below w.heap.size w W) => gridOf_any lo hi v m W (hr.keeps (Keeps.of_all h)) (Nat.le_trans hhi h.size))
  obtain ⟨fv, bv, rfl, hf, hb⟩ := hr
  clear hf hb hhi
  cases hm : mdOk m with
  | false =>
    simp only [hm, Bool.false_eq_true, if_false] at KG
    have HA : Hid (isLeastR m = false) := Lib.hid (by unfold isLeastR; rw [hm]; rfl)
    clear hm
    unfold GdAns at KG
    simp only [Option.getD_none, Option.isSome_none] at KG
    have HLG : Hid ((ints (gL 0 0 [] [] 0)).length = 67) := Lib.hid rfl
    have HLO := Lib.hid (fun v (hv : v ∈ ints (gL 0 0 [] [] 0)) => ints_one hv)
    obtain ⟨G, hG⟩ : ∃ G, G = gL 0 0 [] [] 0 := ⟨_, rfl⟩
    rw [← hG] at KG HLG HLO
    clear hG
    go_enter Try.func7, Try.ntmps7
    go_wp2_with fail
    refine (KG.out _ (by go_grown)).mono ?_
    rintro e w1 ⟨rfl, hb1⟩
    have B1 : Hid (Below w.heap.size w w1) := Lib.hid (Below.trans (by go_grown) (hb1.mono (by simp)))
    clear hb1
    have tk1 : True := trivial
    have tk2 : True := trivial
    go_wp2_with
      (first
        | (have _t := tk1; clear _t tk1; refine wpList_allocM rfl 42 rfl (ints (gL 0 0 [] [] 0)) Try.allocGrid ?_
           intro w2 hc2 hb2 hs2
           have CC := Lib.hid hc2
           have BB : Hid (Below w.heap.size w w2) := Lib.hid (B1.out.trans (hb2.mono B1.out.size))
           clear hc2 hb2 hs2)
        | (have _t := tk2; clear _t tk2; refine wpList_storeM rfl 42 _ _ rfl w1.heap.size 0 rfl (ints G) rfl 42 (ints (gL 0 0 [] [] 0)) CC.out (by rw [HLG.out]; exact Nat.le_refl _) (by rw [HLG.out]; exact Try.sizeGrid) HLO.out ?_
           intro w3 hc3 ha3
           have BB : Hid (Below w.heap.size w w3) := Lib.hid (BB.out.trans (ha3.below B1.out.size))
           clear hc3 ha3))
    refine regionL (fun W => Below w3.heap.size w3 W) [7] (by kernel_rfl) (Below.refl _ _).drew (fun hHeld => ?_)
    refine takeA (i := 0) (v := .bool false) 10 rfl rfl (by kernel_rfl) (by kernel_rfl) (by kernel_rfl) (by kernel_rfl) (fun _ _ _ h => h) (Or.inl ⟨by rfl, by intro W hSw; go_simp⟩) hHeld ?_
    simp only [Act.put, List.setIfInBounds_toArray, List.set_cons_zero, List.set_cons_succ]
    refine takeA (i := 1) (v := .bool false) 11 rfl rfl (by kernel_rfl) (by kernel_rfl) (by kernel_rfl) (by kernel_rfl) (fun _ _ _ h => h) (Or.inl ⟨by rfl, by intro W hSw; go_simp⟩) hHeld ?_
    simp only [Act.put, List.setIfInBounds_toArray, List.set_cons_zero, List.set_cons_succ]
    refine takeA (i := 2) (v := undef) 12 rfl rfl (by kernel_rfl) (by kernel_rfl) (by kernel_rfl) (by kernel_rfl) (fun _ _ _ h => h) (Or.inr ⟨by rfl, rfl⟩) hHeld ?_
    simp only [Act.put, List.setIfInBounds_toArray, List.set_cons_zero, List.set_cons_succ]
    refine takeA (i := 4) (v := undef) 14 rfl rfl (by kernel_rfl) (by kernel_rfl) (by kernel_rfl) (by kernel_rfl) (fun _ _ _ h => h) (Or.inr ⟨by rfl, rfl⟩) hHeld ?_
    simp only [Act.put, List.setIfInBounds_toArray, List.set_cons_zero, List.set_cons_succ]
    refine takeA (i := 3) (v := undef) 13 rfl rfl (by kernel_rfl) (by kernel_rfl) (by kernel_rfl) (by kernel_rfl) (fun _ _ _ h => h) (Or.inr ⟨by rfl, rfl⟩) hHeld ?_
    simp only [Act.put, List.setIfInBounds_toArray, List.set_cons_zero, List.set_cons_succ]
    refine takeA (i := 5) (v := undef) 15 rfl rfl (by kernel_rfl) (by kernel_rfl) (by kernel_rfl) (by kernel_rfl) (fun _ _ _ h => h) (Or.inr ⟨by rfl, rfl⟩) hHeld ?_
    simp only [Act.put, List.setIfInBounds_toArray, List.set_cons_zero, List.set_cons_succ]
    refine takeA (i := 6) (v := .bool false) 16 rfl rfl (by kernel_rfl) (by kernel_rfl) (by kernel_rfl) (by kernel_rfl) (fun _ _ _ h => h) (Or.inl ⟨by rfl, by intro W hSw; go_simp⟩) hHeld ?_
    simp only [Act.put, List.setIfInBounds_toArray, List.set_cons_zero, List.set_cons_succ]
    refine onlyL (i := 7) (by kernel_rfl) rfl (by rfl) (fun K hK => ?_)
    go_simp
    refine hK.out _ _ (fun h => absurd (by decide) h) (fun _ => ?_)
    clear hK K
    refine doneL (by kernel_rfl) ?_ _
    go_wp2
    go_ret
    exact ⟨ret_bool HA.out.symm, BB.out.trans (hHeld.mono BB.out.size)⟩
  | true =>
    simp only [hm, if_true] at KG
    have hs := md_small hm
    have hR := reach_ok hm
    have HLG : Hid ((ints (gM2 m)).length = 67) := Lib.hid (by rw [ints_len]; exact gL_len hs)
    have HLO := Lib.hid (fun v (hv : v ∈ ints (gM2 m)) => ints_one hv)
    unfold GdAns at KG
    simp only [Option.getD_some, Option.isSome_some] at KG
    unfold gOf at KG
    have KC := Lib.hid (fun W => least_any m hm W)
    have HEQ := Lib.hid (fun W => grid_eq (l := gM2 (leastM m)) (l' := gM2 m) (gL_len (md_small (leastOf_ok hR))) (gL_len hs) (gM2_ok (leastOf_ok hR)) (gM2_ok hm) W)
    have HD : Hid (decide (gM2 (leastM m) = gM2 m) = isLeastR m) := Lib.hid (by
      rw [Bool.eq_iff_iff, decide_eq_true_eq, ← leastM_iff hm]
      exact ⟨fun h => gM2_inj (leastOf_ok hR) hm h, fun h => by rw [h]⟩)
    rw [HD.out] at HEQ
    change Hid (∀ W, _ → Calls _ _ _ W fun e w' => e = .returned (.tuple #[.agg (ints (gM2 m)).toArray, .bool true]) ∧ _) at KG
    clear HD hs hR hm
    generalize gM2 (leastM m) = G2 at *
    generalize gM2 m = G at *
    generalize isLeastR m = ans at *
    go_enter Try.func7, Try.ntmps7
    go_wp2_with fail
    refine (KG.out _ (by go_grown)).mono ?_
    rintro e w1 ⟨rfl, hb1⟩
    have B1 : Hid (Below w.heap.size w w1) := Lib.hid (Below.trans (by go_grown) (hb1.mono (by simp)))
    clear hb1
    have tk3 : True := trivial
    have tk4 : True := trivial
    go_wp2_with
      (first
        | (have _t := tk3; clear _t tk3; refine wpList_allocM rfl 42 rfl (ints (gL 0 0 [] [] 0)) Try.allocGrid ?_
           intro w2 hc2 hb2 hs2
           have CC := Lib.hid hc2
           have BB : Hid (Below w.heap.size w w2) := Lib.hid (B1.out.trans (hb2.mono B1.out.size))
           clear hc2 hb2 hs2)
        | (have _t := tk4; clear _t tk4; refine wpList_storeM rfl 42 _ _ rfl w1.heap.size 0 rfl (ints G) rfl 42 (ints (gL 0 0 [] [] 0)) CC.out (by rw [HLG.out]; exact Nat.le_refl _) (by rw [HLG.out]; exact Try.sizeGrid) HLO.out ?_
           intro w3 hc3 ha3
           rw [lay'_all (by rw [HLG.out]; rfl)] at hc3
           have CC := Lib.hid hc3
           have BB : Hid (Below w.heap.size w w3) := Lib.hid (BB.out.trans (ha3.below B1.out.size))
           clear hc3 ha3))
    have HGr : Hid (∀ W, Below w3.heap.size w3 W → W.rangeAt w1.heap.size 0 (ints G)) := Lib.hid (fun W hW => (CC.out.all hW).whole)
    refine regionL (fun W => Below w3.heap.size w3 W) [7] (by kernel_rfl) (Below.refl _ _).drew (fun hHeld => ?_)
    refine takeA (i := 0) (v := .bool true) 10 rfl rfl (by kernel_rfl) (by kernel_rfl) (by kernel_rfl) (by kernel_rfl) (fun _ _ _ h => h) (Or.inl ⟨by rfl, by intro W hSw; go_simp⟩) hHeld ?_
    simp only [Act.put, List.setIfInBounds_toArray, List.set_cons_zero, List.set_cons_succ]
    refine takeA (i := 1) (v := .bool true) 11 rfl rfl (by kernel_rfl) (by kernel_rfl) (by kernel_rfl) (by kernel_rfl) (fun _ _ _ h => h) (Or.inl ⟨by rfl, by intro W hSw; go_simp⟩) hHeld ?_
    simp only [Act.put, List.setIfInBounds_toArray, List.set_cons_zero, List.set_cons_succ]
    refine takeA (i := 2) (v := .agg (ints G).toArray) 12 rfl rfl (by kernel_rfl) (by kernel_rfl) (by kernel_rfl) (by kernel_rfl) (fun _ _ _ h => h) (yieldsIf_load_mid (by rfl) 42 _ rfl w1.heap.size 0 rfl (ints G) _ HGr.out Try.underlying42 rfl (by rw [HLG.out]; exact Try.sizeGrid)) hHeld ?_
    simp only [Act.put, List.setIfInBounds_toArray, List.set_cons_zero, List.set_cons_succ]
    refine takeA (i := 4) (v := .agg (ints G).toArray) 14 rfl rfl (by kernel_rfl) (by kernel_rfl) (by kernel_rfl) (by kernel_rfl) (fun _ _ _ h => h) (yieldsIf_load_mid (by rfl) 42 _ rfl w1.heap.size 0 rfl (ints G) _ HGr.out Try.underlying42 rfl (by rw [HLG.out]; exact Try.sizeGrid)) hHeld ?_
    simp only [Act.put, List.setIfInBounds_toArray, List.set_cons_zero, List.set_cons_succ]
    refine onlyL (i := 3) (by kernel_rfl) rfl (by rfl) (fun K hK => ?_)
    go_simp
    refine (KC.out _).mono ?_
    rintro e w6 ⟨rfl, hb6⟩
    have t6 : Below w3.heap.size w3 w6 := hHeld.trans (hb6.mono hHeld.size)
    clear hb6 hHeld
    refine hK.out _ _ (fun _ => t6) (fun hHeld => ?_)
    have hHeld := hHeld (by decide)
    clear hK K
    try simp only [Act.put, List.setIfInBounds_toArray, List.set_cons_zero, List.set_cons_succ]
    refine takeA (i := 5) (v := .bool ans) 15 rfl rfl (by kernel_rfl) (by kernel_rfl) (by kernel_rfl) (by kernel_rfl) (fun _ _ _ h => h) (Or.inl ⟨by rfl, by intro W hSw; have heq := HEQ.out W; go_simp⟩) hHeld ?_
    simp only [Act.put, List.setIfInBounds_toArray, List.set_cons_zero, List.set_cons_succ]
    refine takeA (i := 6) (v := .bool ans) 16 rfl rfl (by kernel_rfl) (by kernel_rfl) (by kernel_rfl) (by kernel_rfl) (fun _ _ _ h => h) (Or.inl ⟨by rfl, by intro W hSw; go_simp⟩) hHeld ?_
    simp only [Act.put, List.setIfInBounds_toArray, List.set_cons_zero, List.set_cons_succ]
    refine onlyL (i := 7) (by kernel_rfl) rfl (by rfl) (fun K hK => ?_)
    go_simp
    refine hK.out _ _ (fun h => absurd (by decide) h) (fun _ => ?_)
    clear hK K
    refine doneL (by kernel_rfl) ?_ _
    go_wp2
    go_ret
    exact ⟨rfl, BB.out.trans (t6.mono BB.out.size)⟩
end Go.Proofs.Ytodjohdbngbpaab
