/-
  HoldsEverywhere of both sides. No condition.
-/
import Derived.Test.YthnpcbnpojhpoaaZSvb
namespace Go.Proofs.Ythnpcbnpojhpoaa
open Go.RowKit Go.WideShapes
open Go Go.Deep
set_option linter.unusedSimpArgs false

set_option maxRecDepth 100000 in
set_option maxHeartbeats 16000000 in
theorem specEvery_any (lo hi : Nat) (v v2 : Value) (m : Md) (xs : List Nd) (w : World) (hr : Mv lo hi w v m) (_hhi : hi ≤ w.heap.size) (hr2 : Ns w v2 xs) :
    Calls Try.prog 36 #[v, v2] w fun e w' => e = .returned (.bool (everyR m xs)) ∧ Below w.heap.size w w' := by
  have KO := Lib.hid (fun W (h : Below w.heap.size w W) => specEvOk_any lo hi v v2 m xs W (hr.keeps (Keeps.of_all h)) (hr2.below h (Nat.le_refl _)))
  have KT := Lib.hid (fun (hok : evOk m xs = true) W (h : Below w.heap.size w W) => specTruth_any lo hi v v2 m xs W (hr.keeps (Keeps.of_all h)) (hr2.below h (Nat.le_refl _)) hok)
  cases hok : evOk m xs with
  | false =>
    rw [hok] at KO
    have HA : Hid (everyR m xs = false) := Lib.hid (by unfold everyR; rw [hok]; rfl)
    clear KT hok
    obtain ⟨fv, bv, rfl, hf, hb⟩ := hr
    obtain ⟨a2, c2, rfl, -⟩ := hr2.parts
    clear hf hb hr2
    go_enter Try.func36, Try.ntmps36
    go_wp2_with fail
    have X1 := Lib.hid (Mcell.new (w := w) (T := 27) (b := w.heap.size) (fv := fv) (bv := bv) (n := m.actual) rfl)
    have hb1 : Below w.heap.size w (w.alloc (.cells #[fv, bv, .int .i64 m.actual] 27)) := by go_grown
    generalize w.alloc (.cells #[fv, bv, .int .i64 m.actual] 27) = w1 at *
    have B1 := Lib.hid hb1
    clear hb1
    have HRG : Hid (∀ W, Below w1.heap.size w1 W → W.rangeAt w.heap.size 0 [fv, bv, .int .i64 m.actual]) := Lib.hid (fun W h => (X1.out.below h).range)
    have HU : Try.prog.underlying 27 = some _ := Try.underlying27
    clear X1
    refine regionL (fun W => Below w1.heap.size w1 W) [] (by kernel_rfl) (Below.refl _ _).drew (fun hHeld => ?_)
    have t1 : Below w1.heap.size w1 w1.drew := hHeld
    refine takeA (i := 0) (v := .agg #[fv, bv, .int .i64 m.actual]) 5 rfl rfl (by kernel_rfl) (by kernel_rfl) (by kernel_rfl) (by kernel_rfl) (fun _ _ _ h => h) (yieldsIf_load_mid (by rfl) 27 _ rfl w.heap.size 0 rfl [fv, bv, .int .i64 m.actual] _ HRG.out HU rfl Try.sizeMd) hHeld ?_
    simp only [Act.put, List.setIfInBounds_toArray, List.set_cons_zero, List.set_cons_succ]
    refine takeA (i := 1) (v := (.slice a2 xs.length c2)) 6 rfl rfl (by kernel_rfl) (by kernel_rfl) (by kernel_rfl) (by kernel_rfl) (fun _ _ _ h => h) (Or.inl ⟨by rfl, by intro W hSw; go_simp⟩) hHeld ?_
    simp only [Act.put, List.setIfInBounds_toArray, List.set_cons_zero, List.set_cons_succ]
    refine onlyL (i := 2) (by kernel_rfl) rfl (by rfl) (fun K hK => ?_)
    go_simp
    refine (KO.out _ (B1.out.trans (t1.mono B1.out.size))).mono ?_
    rintro e w2 ⟨rfl, hb⟩
    have t2 : Below w1.heap.size w1 w2 := t1.trans (hb.mono t1.size)
    clear hb hHeld
    refine hK.out _ _ (fun _ => t2) (fun hHeld => ?_)
    have hHeld := hHeld (by decide)
    clear hK K
    try simp only [Act.put, List.setIfInBounds_toArray, List.set_cons_zero, List.set_cons_succ]
    refine takeA (i := 3) (v := (.bool false)) 8 rfl rfl (by kernel_rfl) (by kernel_rfl) (by kernel_rfl) (by kernel_rfl) (fun _ _ _ h => h) (Or.inl ⟨by rfl, by intro W hSw; go_simp⟩) hHeld ?_
    simp only [Act.put, List.setIfInBounds_toArray, List.set_cons_zero, List.set_cons_succ]
    refine takeA (i := 4) (v := undef) 9 rfl rfl (by kernel_rfl) (by kernel_rfl) (by kernel_rfl) (by kernel_rfl) (fun _ _ _ h => h) (Or.inr ⟨by rfl, rfl⟩) hHeld ?_
    simp only [Act.put, List.setIfInBounds_toArray, List.set_cons_zero, List.set_cons_succ]
    refine takeA (i := 5) (v := undef) 10 rfl rfl (by kernel_rfl) (by kernel_rfl) (by kernel_rfl) (by kernel_rfl) (fun _ _ _ h => h) (Or.inr ⟨by rfl, rfl⟩) hHeld ?_
    simp only [Act.put, List.setIfInBounds_toArray, List.set_cons_zero, List.set_cons_succ]
    refine takeA (i := 9) (v := undef) 14 rfl rfl (by kernel_rfl) (by kernel_rfl) (by kernel_rfl) (by kernel_rfl) (fun _ _ _ h => h) (Or.inr ⟨by rfl, rfl⟩) hHeld ?_
    simp only [Act.put, List.setIfInBounds_toArray, List.set_cons_zero, List.set_cons_succ]
    refine takeA (i := 6) (v := undef) 11 rfl rfl (by kernel_rfl) (by kernel_rfl) (by kernel_rfl) (by kernel_rfl) (fun _ _ _ h => h) (Or.inr ⟨by rfl, rfl⟩) hHeld ?_
    simp only [Act.put, List.setIfInBounds_toArray, List.set_cons_zero, List.set_cons_succ]
    refine takeA (i := 7) (v := undef) 12 rfl rfl (by kernel_rfl) (by kernel_rfl) (by kernel_rfl) (by kernel_rfl) (fun _ _ _ h => h) (Or.inr ⟨by rfl, rfl⟩) hHeld ?_
    simp only [Act.put, List.setIfInBounds_toArray, List.set_cons_zero, List.set_cons_succ]
    refine takeA (i := 8) (v := undef) 13 rfl rfl (by kernel_rfl) (by kernel_rfl) (by kernel_rfl) (by kernel_rfl) (fun _ _ _ h => h) (Or.inr ⟨by rfl, rfl⟩) hHeld ?_
    simp only [Act.put, List.setIfInBounds_toArray, List.set_cons_zero, List.set_cons_succ]
    refine takeA (i := 10) (v := undef) 15 rfl rfl (by kernel_rfl) (by kernel_rfl) (by kernel_rfl) (by kernel_rfl) (fun _ _ _ h => h) (Or.inr ⟨by rfl, rfl⟩) hHeld ?_
    simp only [Act.put, List.setIfInBounds_toArray, List.set_cons_zero, List.set_cons_succ]
    refine takeA (i := 11) (v := undef) 16 rfl rfl (by kernel_rfl) (by kernel_rfl) (by kernel_rfl) (by kernel_rfl) (fun _ _ _ h => h) (Or.inr ⟨by rfl, rfl⟩) hHeld ?_
    simp only [Act.put, List.setIfInBounds_toArray, List.set_cons_zero, List.set_cons_succ]
    refine takeA (i := 12) (v := undef) 17 rfl rfl (by kernel_rfl) (by kernel_rfl) (by kernel_rfl) (by kernel_rfl) (fun _ _ _ h => h) (Or.inr ⟨by rfl, rfl⟩) hHeld ?_
    simp only [Act.put, List.setIfInBounds_toArray, List.set_cons_zero, List.set_cons_succ]
    refine takeA (i := 13) (v := (.bool false)) 18 rfl rfl (by kernel_rfl) (by kernel_rfl) (by kernel_rfl) (by kernel_rfl) (fun _ _ _ h => h) (Or.inl ⟨by rfl, by intro W hSw; go_simp⟩) hHeld ?_
    simp only [Act.put, List.setIfInBounds_toArray, List.set_cons_zero, List.set_cons_succ]
    refine takeA (i := 14) (v := (.bool false)) 4 rfl rfl (by kernel_rfl) (by kernel_rfl) (by kernel_rfl) (by kernel_rfl) (fun _ _ _ h => h) (Or.inl ⟨by rfl, by intro W hSw; go_simp⟩) hHeld ?_
    simp only [Act.put, List.setIfInBounds_toArray, List.set_cons_zero, List.set_cons_succ]
    refine doneL (by kernel_rfl) ?_ _
    go_wp2
    go_ret
    exact ⟨ret_bool (HA.out.symm), (B1.out.trans (t2.mono B1.out.size))⟩
  | true =>
    rw [hok] at KO
    have HE := Lib.hid (every_iff hok)
    rw [← list_truth hok] at HE
    have HL : Hid ((truthR m xs).length ≤ 16) := Lib.hid (by rw [truthR_len]; exact (ok_len hok).2)
    have KT := Lib.hid (KT.out hok)
    generalize truthR m xs = tl at *
    obtain ⟨R, hR⟩ : ∃ R, R = everyR m xs := ⟨_, rfl⟩
    rw [← hR] at HE ⊢
    obtain ⟨ls, hls⟩ : ∃ l, l = nums (lst (fun i => tl.getD i false) tl.length) := ⟨_, rfl⟩
    rw [← hls] at HE
    have HLS := Lib.hid hls
    have hq : ((ls.length : Int) == (m.facts.length : Int)) = R := by
      rw [Bool.eq_iff_iff, beq_iff_eq, ← HE.out]; omega
    have hq2 : decide ((ls.length : Int) = (m.facts.length : Int)) = R := by
      rw [Bool.eq_iff_iff, decide_eq_true_eq, ← HE.out]; omega
    clear hok hR hls HE
    have HFORM : ∀ fv bv, v = .agg #[fv, bv, .int .i64 m.actual] → ∃ fa fc, fv = .slice fa m.facts.length fc := by
      obtain ⟨fv0, bv0, hv0, hf0, -⟩ := id hr
      intro fv bv h
      rw [h] at hv0
      cases hv0
      exact hf0.form
    obtain ⟨fv, bv, rfl, hf, hb⟩ := hr
    obtain ⟨a2, c2, rfl, -⟩ := hr2.parts
    clear hf hb hr2
    obtain ⟨fa, fc, rfl⟩ := HFORM _ _ rfl
    clear HFORM
    go_enter Try.func36, Try.ntmps36
    go_wp2_with fail
    have X1 := Lib.hid (Mcell.new (w := w) (T := 27) (b := w.heap.size) (fv := (.slice fa m.facts.length fc)) (bv := bv) (n := m.actual) rfl)
    have hb1 : Below w.heap.size w (w.alloc (.cells #[(.slice fa m.facts.length fc), bv, .int .i64 m.actual] 27)) := by go_grown
    generalize w.alloc (.cells #[(.slice fa m.facts.length fc), bv, .int .i64 m.actual] 27) = w1 at *
    have B1 := Lib.hid hb1
    clear hb1
    have HRG : Hid (∀ W, Below w1.heap.size w1 W → W.rangeAt w.heap.size 0 [(.slice fa m.facts.length fc), bv, .int .i64 m.actual]) := Lib.hid (fun W h => (X1.out.below h).range)
    have HU : Try.prog.underlying 27 = some _ := Try.underlying27
    have HC0 : Hid (∀ W, Below w1.heap.size w1 W → W.cell? ⟨w.heap.size, 0, none⟩ = some (.slice fa m.facts.length fc)) := Lib.hid (fun W h => (X1.out.below h).1)
    clear X1
    refine regionL (fun W => Below w1.heap.size w1 W) [] (by kernel_rfl) (Below.refl _ _).drew (fun hHeld => ?_)
    have t1 : Below w1.heap.size w1 w1.drew := hHeld
    refine takeA (i := 0) (v := .agg #[(.slice fa m.facts.length fc), bv, .int .i64 m.actual]) 5 rfl rfl (by kernel_rfl) (by kernel_rfl) (by kernel_rfl) (by kernel_rfl) (fun _ _ _ h => h) (yieldsIf_load_mid (by rfl) 27 _ rfl w.heap.size 0 rfl [(.slice fa m.facts.length fc), bv, .int .i64 m.actual] _ HRG.out HU rfl Try.sizeMd) hHeld ?_
    simp only [Act.put, List.setIfInBounds_toArray, List.set_cons_zero, List.set_cons_succ]
    refine takeA (i := 1) (v := (.slice a2 xs.length c2)) 6 rfl rfl (by kernel_rfl) (by kernel_rfl) (by kernel_rfl) (by kernel_rfl) (fun _ _ _ h => h) (Or.inl ⟨by rfl, by intro W hSw; go_simp⟩) hHeld ?_
    simp only [Act.put, List.setIfInBounds_toArray, List.set_cons_zero, List.set_cons_succ]
    refine onlyL (i := 2) (by kernel_rfl) rfl (by rfl) (fun K hK => ?_)
    go_simp
    refine (KO.out _ (B1.out.trans (t1.mono B1.out.size))).mono ?_
    rintro e w2 ⟨rfl, hb⟩
    have t2 : Below w1.heap.size w1 w2 := t1.trans (hb.mono t1.size)
    clear hb hHeld
    refine hK.out _ _ (fun _ => t2) (fun hHeld => ?_)
    have hHeld := hHeld (by decide)
    clear hK K
    try simp only [Act.put, List.setIfInBounds_toArray, List.set_cons_zero, List.set_cons_succ]
    refine takeA (i := 3) (v := (.bool true)) 8 rfl rfl (by kernel_rfl) (by kernel_rfl) (by kernel_rfl) (by kernel_rfl) (fun _ _ _ h => h) (Or.inl ⟨by rfl, by intro W hSw; go_simp⟩) hHeld ?_
    simp only [Act.put, List.setIfInBounds_toArray, List.set_cons_zero, List.set_cons_succ]
    refine takeA (i := 4) (v := .agg #[(.slice fa m.facts.length fc), bv, .int .i64 m.actual]) 9 rfl rfl (by kernel_rfl) (by kernel_rfl) (by kernel_rfl) (by kernel_rfl) (fun _ _ _ h => h) (yieldsIf_load_mid (by rfl) 27 _ rfl w.heap.size 0 rfl [(.slice fa m.facts.length fc), bv, .int .i64 m.actual] _ HRG.out HU rfl Try.sizeMd) hHeld ?_
    simp only [Act.put, List.setIfInBounds_toArray, List.set_cons_zero, List.set_cons_succ]
    refine takeA (i := 5) (v := (.slice a2 xs.length c2)) 10 rfl rfl (by kernel_rfl) (by kernel_rfl) (by kernel_rfl) (by kernel_rfl) (fun _ _ _ h => h) (Or.inl ⟨by rfl, by intro W hSw; go_simp⟩) hHeld ?_
    simp only [Act.put, List.setIfInBounds_toArray, List.set_cons_zero, List.set_cons_succ]
    refine takeA (i := 9) (v := (.pointer (some ⟨w.heap.size, 0, none⟩))) 14 rfl rfl (by kernel_rfl) (by kernel_rfl) (by kernel_rfl) (by kernel_rfl) (fun _ _ _ h => h) (Or.inl ⟨by rfl, by intro W hSw; go_simp⟩) hHeld ?_
    simp only [Act.put, List.setIfInBounds_toArray, List.set_cons_zero, List.set_cons_succ]
    refine takeA (i := 10) (v := (.slice fa m.facts.length fc)) 15 rfl rfl (by kernel_rfl) (by kernel_rfl) (by kernel_rfl) (by kernel_rfl) (fun _ _ _ h => h) (Or.inl ⟨by rfl, by intro W hSw; have c1 := HC0.out _ hSw; go_simp⟩) hHeld ?_
    simp only [Act.put, List.setIfInBounds_toArray, List.set_cons_zero, List.set_cons_succ]
    refine takeA (i := 11) (v := (.int .i64 m.facts.length)) 16 rfl rfl (by kernel_rfl) (by kernel_rfl) (by kernel_rfl) (by kernel_rfl) (fun _ _ _ h => h) (Or.inl ⟨by rfl, by intro W hSw; go_simp⟩) hHeld ?_
    simp only [Act.put, List.setIfInBounds_toArray, List.set_cons_zero, List.set_cons_succ]
    refine onlyL (i := 6) (by kernel_rfl) rfl (by rfl) (fun K hK => ?_)
    go_simp
    refine (KT.out _ (B1.out.trans (t2.mono B1.out.size))).mono ?_
    rintro e w3 ⟨vt, rfl, hot, hb⟩
    have t3 : Below w1.heap.size w1 w3 := t2.trans (hb.mono t2.size)
    have HOT := Lib.hid hot.read
    clear hot
    clear hb hHeld
    refine hK.out _ _ (fun _ => t3) (fun hHeld => ?_)
    have hHeld := hHeld (by decide)
    clear hK K
    try simp only [Act.put, List.setIfInBounds_toArray, List.set_cons_zero, List.set_cons_succ]
    refine onlyL (i := 7) (by kernel_rfl) rfl (by rfl) (fun K hK => ?_)
    go_simp
    refine (specList_any _ _ _ _ _ HOT.out (by have := HL.out; omega)).mono ?_
    rintro e w4 ⟨vl, rfl, hol, hb⟩
    have t4 : Below w1.heap.size w1 w4 := t3.trans (hb.mono t3.size)
    rw [← HLS.out] at hol
    obtain ⟨al, cl, rfl⟩ := hol.form
    clear hol
    clear hb hHeld
    refine hK.out _ _ (fun _ => t4) (fun hHeld => ?_)
    have hHeld := hHeld (by decide)
    clear hK K
    try simp only [Act.put, List.setIfInBounds_toArray, List.set_cons_zero, List.set_cons_succ]
    refine takeA (i := 8) (v := (.int .i64 ls.length)) 13 rfl rfl (by kernel_rfl) (by kernel_rfl) (by kernel_rfl) (by kernel_rfl) (fun _ _ _ h => h) (Or.inl ⟨by rfl, by intro W hSw; go_simp⟩) hHeld ?_
    simp only [Act.put, List.setIfInBounds_toArray, List.set_cons_zero, List.set_cons_succ]
    refine takeA (i := 12) (v := (.bool R)) 17 rfl rfl (by kernel_rfl) (by kernel_rfl) (by kernel_rfl) (by kernel_rfl) (fun _ _ _ h => h) (Or.inl ⟨by rfl, by intro W hSw; go_simp⟩) hHeld ?_
    simp only [Act.put, List.setIfInBounds_toArray, List.set_cons_zero, List.set_cons_succ]
    refine takeA (i := 13) (v := (.bool R)) 18 rfl rfl (by kernel_rfl) (by kernel_rfl) (by kernel_rfl) (by kernel_rfl) (fun _ _ _ h => h) (Or.inl ⟨by rfl, by intro W hSw; go_simp⟩) hHeld ?_
    simp only [Act.put, List.setIfInBounds_toArray, List.set_cons_zero, List.set_cons_succ]
    refine takeA (i := 14) (v := (.bool R)) 4 rfl rfl (by kernel_rfl) (by kernel_rfl) (by kernel_rfl) (by kernel_rfl) (fun _ _ _ h => h) (Or.inl ⟨by rfl, by intro W hSw; go_simp⟩) hHeld ?_
    simp only [Act.put, List.setIfInBounds_toArray, List.set_cons_zero, List.set_cons_succ]
    refine doneL (by kernel_rfl) ?_ _
    go_wp2
    go_ret
    exact ⟨ret_bool (rfl), (B1.out.trans (t4.mono B1.out.size))⟩

set_option maxRecDepth 100000 in
set_option maxHeartbeats 16000000 in
theorem implEvery_any (lo hi : Nat) (v v2 : Value) (m : Md) (xs : List Nd) (w : World) (hr : Mv lo hi w v m) (hhi : hi ≤ w.heap.size) (hr2 : Ns w v2 xs) :
    Calls Try.prog 37 #[v, v2] w (fun e w' => e = .returned (.bool (everyR m xs)) ∧ Below w.heap.size w w') := by
  obtain ⟨G, P, hl, hT, hF, hK⟩ := truthIn_gen lo hi v v2 m xs w hr hhi hr2
  have HLG := Lib.hid hl
  have KT := Lib.hid hK
  have HT := Lib.hid hT
  have HF := Lib.hid hF
  clear hl hK hT hF
  obtain ⟨fv, bv, rfl, hf, hb⟩ := hr
  obtain ⟨a2, c2, rfl, -⟩ := hr2.parts
  clear hf hb hr2
  cases hok : evOk m xs with
  | false =>
    have HA : Hid (everyR m xs = false) := Lib.hid (by unfold everyR; rw [hok]; rfl)
    rw [hok] at KT
    clear HT HF hok
    go_enter Try.func37, Try.ntmps37
    go_wp2_with fail
    refine (KT.out _ (by go_grown)).mono ?_
    rintro e w1 ⟨rfl, hb1⟩
    have B1 : Hid (Below w.heap.size w w1) := Lib.hid (Below.trans (by go_grown) (hb1.mono (by simp)))
    clear hb1
    have sb1 : w.heap.size ≤ w1.heap.size := B1.out.size
    have tk1 : True := trivial
    have tk2 : True := trivial
    have tk3 : True := trivial
    have tk4 : True := trivial
    go_wp2_with
      (first
        | (have _t := tk1; clear _t tk1; refine wpList_allocM rfl 76 rfl (ints (gL 0 0 [] [] 0)) Try.allocGrid ?_
           intro w2 hc1 hb1 hs1
           have G1 := Lib.hid hc1
           have B1 := Lib.hid (B1.out.trans (hb1.mono B1.out.size))
           have lt2 : w1.heap.size < w2.heap.size := G1.out.lt
           clear hc1 hb1 hs1)
        | (have _t := tk2; clear _t tk2; refine wpList_allocM rfl 80 rfl (bL (fun _ => false)) Try.allocSet ?_
           intro w3 hc1 hb1 hs1
           have Q1 := Lib.hid hc1
           have G1 := Lib.hid (G1.out.all hb1)
           have B1 := Lib.hid (B1.out.trans (hb1.mono B1.out.size))
           have lt3 : w2.heap.size < w3.heap.size := Q1.out.lt
           clear hc1 hb1 hs1)
        | (have _t := tk3; clear _t tk3; refine wpList_storeM rfl 76 (.tmp 5) (.tmp 12) rfl w1.heap.size 0 rfl (ints G) rfl 76 (ints (gL 0 0 [] [] 0)) G1.out (by rw [HLG.out]; exact Nat.le_refl _) (by rw [HLG.out]; exact Try.sizeGrid) (fun v hv => ints_one hv) ?_
           intro w4 hc3 ha3
           rw [lay'_all (by rw [HLG.out]; rfl)] at hc3
           have G1 := Lib.hid hc3
           have Q1 := Lib.hid (ha3.cm Q1.out (by omega))
           have B1 : Hid (Below w.heap.size w w4) := Lib.hid (B1.out.trans (ha3.below (by omega)))
           clear hc3 ha3)
        | (have _t := tk4; clear _t tk4; refine wpList_storeM rfl 80 (.tmp 6) (.tmp 13) rfl w2.heap.size 0 rfl (bL P) rfl 80 _ Q1.out (by rw [bL_len, bL_len]; exact Nat.le_refl _) (by rw [bL_len]; exact Try.sizeSet) (fun v hv => bL_one hv) ?_
           intro w5 hc3 ha3
           rw [lay'_all (by rw [bL_len, bL_len])] at hc3
           have Q1 := Lib.hid hc3
           have G1 := Lib.hid (ha3.cm G1.out (by omega))
           have B1 : Hid (Below w.heap.size w w5) := Lib.hid (B1.out.trans (ha3.below (by omega)))
           clear hc3 ha3))
    go_wp2
    go_ret
    exact ⟨ret_bool HA.out.symm, B1.out⟩
  | true =>
    have hs := md_small (evOk_parts hok).1
    obtain ⟨C, hC⟩ : ∃ C, C = cut m.facts.length fun i => !P i := ⟨_, rfl⟩
    obtain ⟨R, hR⟩ : ∃ R, R = everyR m xs := ⟨_, rfl⟩
    have HR : Hid (R = eqB C (fun _ => false)) := Lib.hid (by rw [hR, hC, (HT.out hok).2.2.1]; unfold everyR; rw [hok]; rfl)
    have KOT : Hid (∀ W, Calls Try.prog 81 #[.agg (ints G).toArray, .agg (bL P).toArray] W fun e w' => e = .returned (.agg (bL C).toArray) ∧ Below W.heap.size W w') := Lib.hid (fun W => by
      rw [hC, (HT.out hok).2.2.2]
      exact others_any m.facts.length m.blocks.length m.actual m.facts m.blocks hs (ok_len hok).2 P W)
    rw [← hR]
    rw [hok] at KT
    clear HT HF hok hs hC hR
    go_enter Try.func37, Try.ntmps37
    go_wp2_with fail
    refine (KT.out _ (by go_grown)).mono ?_
    rintro e w1 ⟨rfl, hb1⟩
    have B1 : Hid (Below w.heap.size w w1) := Lib.hid (Below.trans (by go_grown) (hb1.mono (by simp)))
    clear hb1
    have sb1 : w.heap.size ≤ w1.heap.size := B1.out.size
    have tk5 : True := trivial
    have tk6 : True := trivial
    have tk7 : True := trivial
    have tk8 : True := trivial
    have tk9 : True := trivial
    have tk10 : True := trivial
    have tk11 : True := trivial
    have tk12 : True := trivial
    have tk13 : True := trivial
    go_wp2_with
      (first
        | (have _t := tk5; clear _t tk5; refine wpList_allocM rfl 76 rfl (ints (gL 0 0 [] [] 0)) Try.allocGrid ?_
           intro w2 hc1 hb1 hs1
           have G1 := Lib.hid hc1
           have B1 := Lib.hid (B1.out.trans (hb1.mono B1.out.size))
           have lt2 : w1.heap.size < w2.heap.size := G1.out.lt
           clear hc1 hb1 hs1)
        | (have _t := tk6; clear _t tk6; refine wpList_allocM rfl 80 rfl (bL (fun _ => false)) Try.allocSet ?_
           intro w3 hc1 hb1 hs1
           have Q1 := Lib.hid hc1
           have G1 := Lib.hid (G1.out.all hb1)
           have B1 := Lib.hid (B1.out.trans (hb1.mono B1.out.size))
           have lt3 : w2.heap.size < w3.heap.size := Q1.out.lt
           clear hc1 hb1 hs1)
        | (have _t := tk7; clear _t tk7; refine wpList_storeM rfl 76 (.tmp 5) (.tmp 12) rfl w1.heap.size 0 rfl (ints G) rfl 76 (ints (gL 0 0 [] [] 0)) G1.out (by rw [HLG.out]; exact Nat.le_refl _) (by rw [HLG.out]; exact Try.sizeGrid) (fun v hv => ints_one hv) ?_
           intro w4 hc3 ha3
           rw [lay'_all (by rw [HLG.out]; rfl)] at hc3
           have G1 := Lib.hid hc3
           have Q1 := Lib.hid (ha3.cm Q1.out (by omega))
           have B1 : Hid (Below w.heap.size w w4) := Lib.hid (B1.out.trans (ha3.below (by omega)))
           clear hc3 ha3)
        | (have _t := tk8; clear _t tk8; refine wpList_storeM rfl 80 (.tmp 6) (.tmp 13) rfl w2.heap.size 0 rfl (bL P) rfl 80 _ Q1.out (by rw [bL_len, bL_len]; exact Nat.le_refl _) (by rw [bL_len]; exact Try.sizeSet) (fun v hv => bL_one hv) ?_
           intro w5 hc3 ha3
           rw [lay'_all (by rw [bL_len, bL_len])] at hc3
           have Q1 := Lib.hid hc3
           have G1 := Lib.hid (ha3.cm G1.out (by omega))
           have B1 : Hid (Below w.heap.size w w5) := Lib.hid (B1.out.trans (ha3.below (by omega)))
           clear hc3 ha3)
        | (have _t := tk9; clear _t tk9; refine wpList_loadMG rfl (by rfl) 76 _ rfl w1.heap.size 0 rfl 76 (ints G) (ints G) G1.out (fun j _ => by rw [Nat.zero_add]) _ Try.underlying76 rfl (by rw [HLG.out]; exact Try.sizeGrid) ?_)
        | (have _t := tk10; clear _t tk10; refine wpList_loadMG rfl (by rfl) 80 _ rfl w2.heap.size 0 rfl 80 (bL P) (bL P) Q1.out (fun j _ => by rw [Nat.zero_add]) _ Try.underlying80 rfl (by rw [bL_len]; exact Try.sizeSet) ?_)
        | (have _t := tk11; clear _t tk11; go_at_call 81; (with_reducible refine (KOT.out _).mono ?_); rintro e w6 ⟨rfl, hb6⟩; have B1 := Lib.hid (B1.out.trans (hb6.mono B1.out.size)); clear hb6)
        | (have _t := tk12; clear _t tk12; refine wpList_buildG rfl (by rfl) 80 _ rfl #[] (by simp) (bL (fun _ => false)) (Try.buildSet _) ?_)
        | (have _t := tk13; clear _t tk13; refine wpList_eqAG rfl (by rfl) 80 _ _ _ rfl (bL C).toArray (bL (fun _ => false)).toArray rfl rfl (by kernel_rfl) R (run_set_eq C _ _ R HR.out) ?_))
    go_wp2
    go_ret
    exact ⟨ret_bool rfl, B1.out⟩
end Go.Proofs.Ythnpcbnpojhpoaa
