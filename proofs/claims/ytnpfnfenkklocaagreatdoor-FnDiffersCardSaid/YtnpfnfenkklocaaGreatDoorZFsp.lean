/- ZFsp -/
import Derived.Test.YtnpfnfenkklocaaGreatDoorZKey
set_option maxRecDepth 100000
set_option maxHeartbeats 64000000
namespace Go.Proofs.YtnpfnfenkklocaaGreatDoor
open Go.RowKit Go.WideShapes
open Go Go.Deep
set_option linter.unusedSimpArgs false
theorem rowsV_lenD (m : Md) : ∀ n, (rowsV m n).length = n * 16
  | 0 => rfl
  | n + 1 => by rw [rowsV_succ, List.length_append, rowsV_lenD m n, rowF_ints_len]; omega
theorem rowsV_at {m : Md} {j : Nat} (hj : j < 16) : ∀ {n k : Nat}, k < n → (rowsV m n)[k * 16 + j]? = (ints (rowF (cF m k)))[j]?
  | 0, k, h => absurd h (Nat.not_lt_zero _)
  | n + 1, k, h => by
    rw [rowsV_succ]
    rcases Nat.lt_or_eq_of_le (Nat.le_of_lt_succ h) with h1 | rfl
    · rw [List.getElem?_append_left (by rw [rowsV_lenD]; omega), rowsV_at hj h1]
    · rw [List.getElem?_append_right (by rw [rowsV_lenD]; omega), rowsV_lenD, Nat.add_sub_cancel_left]
def StV (w : World) (v : Value) (m : Md) : Prop := ∃ g cap cs, v = .slice (some ⟨g, 0, none⟩) (stab m + 1) cap ∧ stab m + 1 ≤ cap ∧ cap ≤ maxLen ∧ g < w.heap.size ∧ Cm w g 56 cs ∧ ∀ k, k ≤ stab m → ∀ j, j < 16 → cs[k * 16 + j]? = (ints (rowF (cF m k)))[j]?
theorem StV.of_own {w : World} {base : Nat} {v : Value} {m : Md} (h : w.ownsRow base 56 16 v (stab m + 1) (rowsV m (stab m + 1))) : StV w v m := by
  rcases h.2 with ⟨_, h0⟩ | ⟨g, cap, cur, rfl, hb, hg, h1, h2, h3, h4⟩
  · omega
  · refine ⟨g, cap, cur.toList, rfl, h1, h2, (Array.getElem?_eq_some_iff.1 hg).1, by unfold Cm; rw [hg], fun k hk j hj => ?_⟩
    have e1 : cur.toList[k * 16 + j]? = (cur.toList.take ((stab m + 1) * 16))[k * 16 + j]? := by rw [List.getElem?_take_of_lt (by omega)]
    rw [e1, h4]
    exact rowsV_at hj (by omega)
theorem StV.below {w w' : World} {v : Value} {m : Md} (h : StV w v m) (hb : Below w.heap.size w w') : StV w' v m := by
  obtain ⟨g, cap, cs, h1, h2, h3, h4, h5, h6⟩ := h
  exact ⟨g, cap, cs, h1, h2, h3, Nat.lt_of_lt_of_le h4 hb.size, h5.all hb, h6⟩
def shF (m : Md) (s k : Nat) : Nat → Int := if k = 0 then fun _ => 0 else cF m (min (k - 1) s)
theorem shF_hit {m : Md} {s k : Nat} (h : k ≤ s) : shF m s (k + 1) = cF m k := by unfold shF; rw [if_neg (by omega), Nat.add_sub_cancel, Nat.min_eq_left h]
theorem shF_miss {m : Md} {s k : Nat} (h : ¬ k ≤ s) : shF m s (k + 1) = shF m s k := by unfold shF; rw [if_neg (by omega), if_neg (by omega), Nat.add_sub_cancel, Nat.min_eq_right (by omega), Nat.min_eq_right (by omega)]
theorem shF_end {m : Md} {s n : Nat} (h : s ≤ n) : shF m s (n + 1) = cF m s := by unfold shF; rw [if_neg (by omega), Nat.add_sub_cancel, Nat.min_eq_right h]
theorem lastShared_any (v : Value) (m : Md) (x y s : Nat) (w : World) (hv : StV w v m) (hx : x < 16) (hy : y < 16) (hs : s ≤ stab m) (hst : stab m ≤ 16) (hsm : ∀ k, k ≤ stab m → (cF m k x = cF m k y ↔ k ≤ s)) :
    Calls Tryz.prog 66 #[v, .int .i64 x, .int .i64 y] w fun e w' => e = .returned (.agg (ints (rowF (cF m s))).toArray) ∧ Below w.heap.size w w' := by
  obtain ⟨g, cap, cs, rfl, h2, h3, h4, h5, h6⟩ := hv
  unfold maxLen at h3
  have HC := hid (fun W (h : Below w.heap.size w W) => h5.all h)
  have HD := hid (fun k hk j (hj : j < (ints (rowF (cF m k))).length) => h6 k hk j (by rwa [rowF_ints_len] at hj))
  have HSM := hid hsm
  have HE := hid (shF_end (m := m) hs)
  have HH := hid (fun k h => shF_hit (m := m) (s := s) (k := k) h)
  have HM := hid (fun k h => shF_miss (m := m) (s := s) (k := k) h)
  have H0 : Hid (shF m s 0 = fun _ => 0) := hid rfl
  have HG := hid (fun k i (h : i < 16) => (rowF_get (cF m k) h))
  clear h5 h6 hsm
  generalize shF m s = F at *
  generalize stab m = n at *
  have hx0 : (0 : Int) ≤ (x : Int) := Int.natCast_nonneg _
  have hy0 : (0 : Int) ≤ (y : Int) := Int.natCast_nonneg _
  have hx16 : (x : Int) < 16 := by omega
  have hy16 : (y : Int) < 16 := by omega
  go_enter Tryz.func66, Tryz.ntmps66
  have tk1 : True := trivial
  have tk2 : True := trivial
  go_wp2_with
    (first
      | (have _t := tk1; clear _t tk1; refine wpList_allocM (o := ⟨some 6, _, _, _, _, _⟩) rfl 56 rfl (ints (rowF fun _ => 0)) Tryz.allocRowF ?_
         intro w1 hc1 hb1 hs1
         have R1 := hid hc1
         have B1 := hid hb1
         have lt1 : w.heap.size < w1.heap.size := hc1.lt
         have S1 := hid hs1
         clear hc1 hb1 hs1)
      | (have _t := tk2; clear _t tk2; refine wpList_allocM (o := ⟨some 7, _, _, _, _, _⟩) rfl 56 rfl (ints (rowF fun _ => 0)) Tryz.allocRowF ?_
         intro w2 hc2 hb2 hs2
         have R2 := hid (R1.out.all hb2)
         have B2 := hid (B1.out.trans (hb2.mono B1.out.size))
         have C2 : Hid (Cm w2 w1.heap.size 56 (ints (rowF (F 0)))) := hid (by rw [H0.out]; exact hc2)
         have lt2 : w1.heap.size < w2.heap.size := hc2.lt
         clear hc2 hb2 hs2 R1 B1))
  go_loopw [12] (fun iv wr => ∃ k : Nat, k ≤ n + 1 ∧ iv = .int .i64 k ∧ Hid (Cm wr w.heap.size 56 (ints (rowF fun _ => 0))) ∧ Hid (Cm wr w1.heap.size 56 (ints (rowF (F k)))) ∧ Hid (Below w.heap.size w wr) ∧ w2.heap.size ≤ wr.heap.size) (fun iv _ => n + 1 - (intOf iv).toNat)
  case atStart => exact ⟨0, Nat.zero_le _, rfl, R2, C2, B2, Nat.le_refl _⟩
  case round =>
    clear R2 C2 B2
    obtain ⟨k, hk, rfl, RR, CR, BR, hwr⟩ := hrel
    by_cases hlt : k < n + 1
    · have hk0 : (0 : Int) ≤ (k : Int) := Int.natCast_nonneg _
      have hkn : (k : Int) < ((n + 1 : Nat) : Int) := by omega
      have GC := hid (HC.out _ BR.out)
      have HDk := hid (HD.out k (by omega))
      have HSk := hid (HSM.out k (by omega))
      have tk3 : True := trivial
      have tk4 : True := trivial
      have tk5 : True := trivial
      go_wp2_with
        (first
          | (have _t := tk3; clear _t tk3; refine wpList_loadM rfl 56 (.tmp 14) rfl g (k * 16) rfl 56 cs (ints (rowF (cF m k))) GC.out HDk.out _ Tryz.underlying56 rfl (by rw [rowF_ints_len]; exact Tryz.sizeRow) ?_)
          | (have _t := tk4; clear _t tk4; refine wpList_allocM (o := ⟨some 9, _, _, _, _, _⟩) rfl 56 rfl (ints (rowF fun _ => 0)) Tryz.allocRowF ?_
             intro w5 hc5 hb5 hs5
             have N5 := hid hc5
             have R5 := hid (RR.out.all hb5)
             have C5 := hid (CR.out.all hb5)
             have B5 := hid (BR.out.trans (hb5.mono BR.out.size))
             have lt5 : wr.heap.size < w5.heap.size := hc5.lt
             clear hc5 hb5 hs5 RR CR BR)
          | (have _t := tk5; clear _t tk5; refine wpList_storeM rfl 56 (.tmp 9) (.tmp 15) rfl wr.heap.size 0 rfl (ints (rowF (cF m k))) rfl 56 _ N5.out (by rw [rowF_ints_len, rowF_ints_len]; exact Nat.le_refl _) (by rw [rowF_ints_len]; exact Tryz.sizeRow) (fun v hv => ints_one hv) ?_
             intro w6 hc6 ha6
             rw [lay'_all (by rw [rowF_ints_len, rowF_ints_len])] at hc6
             have N6 := hid hc6
             have R6 := hid (ha6.cm R5.out (by omega))
             have C6 := hid (ha6.cm C5.out (by omega))
             have B6 : Hid (Below w.heap.size w w6) := hid (B5.out.trans (ha6.below (by omega)))
             have lt6 : w5.heap.size ≤ w6.heap.size := Nat.le_of_eq ha6.size.symm
             clear hc6 ha6 N5 R5 C5 B5))
      by_cases hks : k ≤ s
      · have e := HSk.out.2 hks
        have c1 : w6.cell? ⟨wr.heap.size, x, none⟩ = some (.int .i64 (cF m k x)) := by rw [N6.out.cell, ints_at (by rw [rowF_len]; exact hx), HG.out k x hx]
        have c2 : w6.cell? ⟨wr.heap.size, y, none⟩ = some (.int .i64 (cF m k y)) := by rw [N6.out.cell, ints_at (by rw [rowF_len]; exact hy), HG.out k y hy]
        rw [e] at c1
        clear e
        generalize cF m k y = z at c1 c2
        have HHk := hid (HH.out k hks)
        clear HSk
        go_quiet (fail)
        clear c1 c2
        have tk6 : True := trivial
        have tk7 : True := trivial
        go_wp2_with
          (first
            | (have _t := tk6; clear _t tk6; refine wpList_loadM rfl 56 (.tmp 9) rfl wr.heap.size 0 rfl 56 _ _ (N6.out.drewN _) (fun j _ => by rw [Nat.zero_add]) _ Tryz.underlying56 rfl (by rw [rowF_ints_len]; exact Tryz.sizeRow) ?_)
            | (have _t := tk7; clear _t tk7; refine wpList_storeM rfl 56 (.tmp 7) (.tmp 23) rfl w1.heap.size 0 rfl (ints (rowF (cF m k))) rfl 56 _ (C6.out.drewN _) (by rw [rowF_ints_len, rowF_ints_len]; exact Nat.le_refl _) (by rw [rowF_ints_len]; exact Tryz.sizeRow) (fun v hv => ints_one hv) ?_
               intro w7 hc7 ha7
               rw [lay'_all (by rw [rowF_ints_len, rowF_ints_len])] at hc7
               have C7 := hid hc7
               have R7 := hid (ha7.cm (R6.out.drewN _) (by omega))
               have B7 : Hid (Below w.heap.size w w7) := hid ((below_drewN' B6.out _).trans (ha7.below (by omega)))
               have lt7 : w6.heap.size ≤ w7.heap.size := Nat.le_of_eq ha7.size.symm
               clear hc7 ha7 N6 R6 C6 B6))
        go_roundw
        case rel => exact ⟨k + 1, by omega, by go_num, R7, hid (by rw [HHk.out]; exact C7.out), B7, by omega⟩
        case measure => simp [intOf]; omega
      · have e : cF m k x ≠ cF m k y := fun h => hks (HSk.out.1 h)
        have c1 : w6.cell? ⟨wr.heap.size, x, none⟩ = some (.int .i64 (cF m k x)) := by rw [N6.out.cell, ints_at (by rw [rowF_len]; exact hx), HG.out k x hx]
        have c2 : w6.cell? ⟨wr.heap.size, y, none⟩ = some (.int .i64 (cF m k y)) := by rw [N6.out.cell, ints_at (by rw [rowF_len]; exact hy), HG.out k y hy]
        clear HSk
        generalize cF m k x = z1 at c1 e
        generalize cF m k y = z2 at c2 e
        have e1 : (z1 == z2) = false := by simpa using e
        clear e
        have HMk := hid (HM.out k hks)
        go_quiet (fail)
        clear c1 c2
        go_wp2
        go_roundw
        case rel => exact ⟨k + 1, by omega, by go_num, hid (R6.out.drewN _), hid (by rw [HMk.out]; exact C6.out.drewN _), hid (below_drewN' B6.out _), by show _ ≤ w6.heap.size; omega⟩
        case measure => simp [intOf]; omega
    · obtain rfl : k = n + 1 := by omega
      rw [HE.out] at CR
      have tk8 : True := trivial
      have tk9 : True := trivial
      go_wp2_with
        (first
          | (have _t := tk8; clear _t tk8; refine wpList_loadM rfl 56 (.tmp 7) rfl w1.heap.size 0 rfl 56 _ _ CR.out (fun j _ => by rw [Nat.zero_add]) _ Tryz.underlying56 rfl (by rw [rowF_ints_len]; exact Tryz.sizeRow) ?_)
          | (have _t := tk9; clear _t tk9; refine wpList_storeM rfl 56 (.tmp 6) (.tmp 25) rfl w.heap.size 0 rfl (ints (rowF (cF m s))) rfl 56 _ RR.out (by rw [rowF_ints_len, rowF_ints_len]; exact Nat.le_refl _) (by rw [rowF_ints_len]; exact Tryz.sizeRow) (fun v hv => ints_one hv) ?_
             intro w9 hc9 ha9
             rw [lay'_all (by rw [rowF_ints_len, rowF_ints_len])] at hc9
             have C9 := hid hc9
             have B9 : Hid (Below w.heap.size w w9) := hid (BR.out.trans (ha9.below (Nat.le_refl _)))
             clear hc9 ha9))
      refine bodyPost_ret (results_mid1 Tryz.results66 _ _ w.heap.size (ints (rowF (cF m s))) _ rfl C9.out.whole Tryz.underlying56 rfl (by rw [rowF_ints_len]; exact Tryz.sizeRow)) rfl ?_
      exact ⟨rfl, B9.out⟩
section
variable {P : Program} {Q : Exit → Act → World → Prop}
theorem wp_eqA {o : Oper} {a : Act} {w : World} {K : Act → World → Prop} (T : TypeId) (x y : Operand) (R : TypeId) (ho : o.op = .binOp .eql T x y R)
    (xs ys : Array Value) (hx : a.eval x = .agg xs) (hy : a.eval y = .agg ys) (hg : P.eqGuardType P.depth T = false) (b : Bool) (hr : (Op.equalIn 10000 T (.agg xs) (.agg ys)).run P w = .ok b w)
    (h : K (a.put o.dst (.bool b)) w) : Oper.wp P o a w K Q := by
  refine wp_run (.bool b) ?_ h
  unfold execOp
  simp only [ho, hx, hy, Sem.run_bind, run_eqGuard_agg w _ _ _ _ _ _ hg, run_eql_struct, hr, Result.andThen_ok, Sem.run_pure]
end
theorem splitter_any (n : Nat) (a act : Int) (f : List Int) (rows : List (List Int)) (hs : small f rows) (hn : n ≤ 16) (x y t : Nat) (ht : t < 3) (hx : x < 16) (hy : y < 16) (c : Nat → Int) (hc : ∀ v, v < 16 → 0 ≤ c v ∧ c v < 16)
    (hd : eqB (metG rows n t x c) (metG rows n t y c) = false) (he : ∀ k, k < t → eqB (metG rows n k x c) (metG rows n k y c) = true) (w : World) :
    Calls Tryz.prog 67 #[.agg (ints (gL n a f rows act)).toArray, .int .i64 x, .int .i64 y, .agg (ints (rowF c)).toArray] w
      fun e w' => e = .returned (.int .i64 t) ∧ Below w.heap.size w w' := by
  have HL : Hid ((ints (gL n a f rows act)).length = 67) := hid (by rw [ints_len]; exact gL_len hs)
  have KX := hid (fun k (hk : k < 3) W => metBy_any n a act f rows hs hn k x hk hx c hc W)
  have KY := hid (fun k (hk : k < 3) W => metBy_any n a act f rows hs hn k y hk hy c hc W)
  have HQ := hid (fun k W b hb => run_set_eq (metG rows n k x c) (metG rows n k y c) W b hb)
  have HD := hid hd
  have HE := hid he
  have HRL := hid (rowF_ints_len c)
  generalize hmx : (fun k => metG rows n k x c) = MX
  generalize hmy : (fun k => metG rows n k y c) = MY
  have ex : ∀ k, metG rows n k x c = MX k := fun k => by rw [← hmx]
  have ey : ∀ k, metG rows n k y c = MY k := fun k => by rw [← hmy]
  simp only [ex, ey] at KX KY HQ HD HE
  clear ex ey hmx hmy hs hc hd he
  generalize gL n a f rows act = G at *
  generalize rowF c = C at *
  go_enter Tryz.func67, Tryz.ntmps67
  go_wp2
  have c1 : Cm ((w.alloc (.cells (ints G).toArray 59)).alloc (.cells (ints C).toArray 56)) w.heap.size 59 (ints G) := (Cm.new rfl).alloc _
  have r1 : Cm ((w.alloc (.cells (ints G).toArray 59)).alloc (.cells (ints C).toArray 56)) (w.heap.size + 1) 56 (ints C) := Cm.new (by simp)
  have b1 : Below w.heap.size w ((w.alloc (.cells (ints G).toArray 59)).alloc (.cells (ints C).toArray 56)) := by go_grown
  generalize (w.alloc (.cells (ints G).toArray 59)).alloc (.cells (ints C).toArray 56) = w1 at *
  have C1 := hid c1
  have R1 := hid r1
  have B1 := hid b1
  clear c1 r1 b1
  have HU : Tryz.prog.underlying 59 = some _ := Tryz.underlying59
  have HUr : Tryz.prog.underlying 56 = some _ := Tryz.underlying56
  go_loopw [9] (fun iv wr => ∃ k : Nat, k ≤ t ∧ iv = .int .i64 k ∧ Hid (Cm wr w.heap.size 59 (ints G)) ∧ Hid (Cm wr (w.heap.size + 1) 56 (ints C)) ∧ Hid (Below w.heap.size w wr)) (fun iv _ => t - (intOf iv).toNat)
  case atStart => exact ⟨0, Nat.zero_le _, rfl, C1, R1, B1⟩
  case round =>
    clear C1 R1 B1
    obtain ⟨k, hk, rfl, CR, RR, BR⟩ := hrel
    have hk0 : (0 : Int) ≤ (k : Int) := Int.natCast_nonneg _
    have hk3 : (k : Int) < 3 := by omega
    have KXk := hid (KX.out k (by omega))
    have KYk := hid (KY.out k (by omega))
    have HGW : Hid (∀ W, Below wr.heap.size wr W → W.rangeAt w.heap.size 0 (ints G)) := hid (fun W hW => (CR.out.all hW).whole)
    have HRW : Hid (∀ W, Below wr.heap.size wr W → W.rangeAt (w.heap.size + 1) 0 (ints C)) := hid (fun W hW => (RR.out.all hW).whole)
    obtain ⟨b, hb⟩ : ∃ b, b = eqB (MX k) (MY k) := ⟨_, rfl⟩
    have HQk := hid (fun W => HQ.out k W b hb)
    have HBt : Hid (b = decide (k < t)) := hid (by
      rw [hb]
      rcases Nat.lt_or_eq_of_le hk with h | rfl
      · rw [HE.out k h, decide_eq_true h]
      · rw [HD.out, decide_eq_false (Nat.lt_irrefl _)])
    clear hb
    generalize MX k = PX at *
    generalize MY k = PY at *
    go_wp2
    refine regionL (fun W => Below wr.heap.size wr W) [10] (by kernel_rfl) (Below.refl _ _).drew (fun hHeld => ?_)
    refine takeA (i := 0) (v := .agg (ints G).toArray) 10 rfl rfl (by kernel_rfl) (by kernel_rfl) (by kernel_rfl) (by kernel_rfl) (fun _ _ _ h => h) (yieldsIf_load_mid (by rfl) 59 _ rfl w.heap.size 0 rfl (ints G) _ HGW.out HU rfl (by rw [HL.out]; exact Tryz.sizeGrid)) hHeld ?_
    simp only [Act.put, zA, zB, zC]
    refine takeA (i := 1) (v := .int .i64 k) 11 rfl rfl (by kernel_rfl) (by kernel_rfl) (by kernel_rfl) (by kernel_rfl) (fun _ _ _ h => h) (Or.inl ⟨by rfl, by intro W hSw; go_simp⟩) hHeld ?_
    simp only [Act.put, zA, zB, zC]
    refine takeA (i := 2) (v := .int .i64 x) 12 rfl rfl (by kernel_rfl) (by kernel_rfl) (by kernel_rfl) (by kernel_rfl) (fun _ _ _ h => h) (Or.inl ⟨by rfl, by intro W hSw; go_simp⟩) hHeld ?_
    simp only [Act.put, zA, zB, zC]
    refine takeA (i := 3) (v := .agg (ints C).toArray) 13 rfl rfl (by kernel_rfl) (by kernel_rfl) (by kernel_rfl) (by kernel_rfl) (fun _ _ _ h => h) (yieldsIf_load_mid (by rfl) 56 _ rfl (w.heap.size + 1) 0 rfl (ints C) _ HRW.out HUr rfl (by rw [HRL.out]; exact Tryz.sizeRow)) hHeld ?_
    simp only [Act.put, zA, zB, zC]
    refine takeA (i := 5) (v := .agg (ints G).toArray) 15 rfl rfl (by kernel_rfl) (by kernel_rfl) (by kernel_rfl) (by kernel_rfl) (fun _ _ _ h => h) (yieldsIf_load_mid (by rfl) 59 _ rfl w.heap.size 0 rfl (ints G) _ HGW.out HU rfl (by rw [HL.out]; exact Tryz.sizeGrid)) hHeld ?_
    simp only [Act.put, zA, zB, zC]
    refine takeA (i := 6) (v := .int .i64 k) 16 rfl rfl (by kernel_rfl) (by kernel_rfl) (by kernel_rfl) (by kernel_rfl) (fun _ _ _ h => h) (Or.inl ⟨by rfl, by intro W hSw; go_simp⟩) hHeld ?_
    simp only [Act.put, zA, zB, zC]
    refine takeA (i := 7) (v := .int .i64 y) 17 rfl rfl (by kernel_rfl) (by kernel_rfl) (by kernel_rfl) (by kernel_rfl) (fun _ _ _ h => h) (Or.inl ⟨by rfl, by intro W hSw; go_simp⟩) hHeld ?_
    simp only [Act.put, zA, zB, zC]
    refine takeA (i := 8) (v := .agg (ints C).toArray) 18 rfl rfl (by kernel_rfl) (by kernel_rfl) (by kernel_rfl) (by kernel_rfl) (fun _ _ _ h => h) (yieldsIf_load_mid (by rfl) 56 _ rfl (w.heap.size + 1) 0 rfl (ints C) _ HRW.out HUr rfl (by rw [HRL.out]; exact Tryz.sizeRow)) hHeld ?_
    simp only [Act.put, zA, zB, zC]
    generalize wr.drew = wd at hHeld ⊢
    refine onlyL (i := 4) (by kernel_rfl) rfl (by rfl) (fun K hK => ?_)
    go_simp
    refine (KXk.out _).mono ?_
    rintro e w5 ⟨rfl, hb5⟩
    have t5 : Below wr.heap.size wr w5 := hHeld.trans (hb5.mono hHeld.size)
    clear hb5
    refine hK.out _ _ (fun _ => t5) (fun hHeld => ?_)
    clear hHeld hK K
    try simp only [Act.put, zA, zB, zC]
    refine onlyL (i := 9) (by kernel_rfl) rfl (by rfl) (fun K hK => ?_)
    go_simp
    refine (KYk.out _).mono ?_
    rintro e w6 ⟨rfl, hb6⟩
    have t6 : Below wr.heap.size wr w6 := t5.trans (hb6.mono t5.size)
    clear hb6
    refine hK.out _ _ (fun _ => t6) (fun hHeld => ?_)
    clear hHeld hK K
    try simp only [Act.put, zA, zB, zC]
    refine onlyL (i := 10) (by kernel_rfl) rfl (by rfl) (fun K hK => ?_)
    refine wp_eqA 79 (.tmp 14) (.tmp 19) 79 rfl (bL PX).toArray (bL PY).toArray rfl rfl (by kernel_rfl) _ (HQk.out _) ?_
    refine hK.out _ _ (fun h => absurd (by decide) h) (fun _ => ?_)
    clear hK K
    refine doneL (by kernel_rfl) ?_ _
    have C6 := hid (CR.out.all t6)
    have R6 := hid (RR.out.all t6)
    have B6 := hid (BR.out.trans (t6.mono BR.out.size))
    try simp only [Act.put, zA, zB, zC]
    clear KXk KYk HGW HRW HQk CR RR BR t5 t6 KX KY HQ HD HE
    by_cases hlt : k < t
    · have hb2 : b = true := by rw [HBt.out, decide_eq_true hlt]
      subst hb2
      clear HBt
      go_wp2
      go_roundw
      case rel => exact ⟨k + 1, by omega, by go_num, C6, R6, B6⟩
      case measure => simp [intOf]; omega
    · have hb2 : b = false := by rw [HBt.out, decide_eq_false hlt]
      subst hb2
      clear HBt
      obtain rfl : k = t := by omega
      go_wp2
      go_ret
      exact ⟨rfl, B6.out⟩
end Go.Proofs.YtnpfnfenkklocaaGreatDoor
