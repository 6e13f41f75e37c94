/-
  grid.firstSplitter: the first agent whose blocks of two worlds meet different classes. Condition: agent t is the first.
-/
import Derived.Test.YtnpfnfenkklocaaGreatDoorZKey
import Derived.Test.YtnpfnfenkklocaaGreatDoorZRch
import Derived.Test.YtnpfnfenkklocaaGreatDoorZReg
namespace Go.Proofs.YtnpfnfenkklocaaGreatDoor
open Go.RowKit Go.WideShapes
open Go Go.Deep
set_option linter.unusedSimpArgs false

section
variable {P : Program} {Q : Exit → Act → World → Prop}
/-- two structs or arrays are compared in a drawn region -/
theorem wp_eqA {o : Oper} {a : Act} {w : World} {K : Act → World → Prop} (T : TypeId) (x y : Operand) (R : TypeId) (ho : o.op = .binOp .eql T x y R)
    (xs ys : Array Value) (hx : a.eval x = .agg xs) (hy : a.eval y = .agg ys) (hg : P.eqGuardType P.depth T = false) (b : Bool) (hr : (Op.equalIn 10000 T (.agg xs) (.agg ys)).run P w = .ok b w)
    (h : K (a.put o.dst (.bool b)) w) : Oper.wp P o a w K Q := by
  refine wp_run (.bool b) ?_ h
  unfold execOp
  simp only [ho, hx, hy, Sem.run_bind, run_eqGuard_agg w _ _ _ _ _ _ hg, run_eql_struct, hr, Result.andThen_ok, Sem.run_pure]
end

set_option maxRecDepth 100000 in
set_option maxHeartbeats 32000000 in
theorem splitter_any (n : Nat) (a act : Int) (f : List Int) (rows : List (List Int)) (hs : small f rows) (hn : n ≤ 16) (x y t : Nat) (ht : t < 3) (hx : x < 16) (hy : y < 16) (c : Nat → Int) (hc : ∀ v, v < 16 → 0 ≤ c v ∧ c v < 16)
    (hd : eqB (metG rows n t x c) (metG rows n t y c) = false) (he : ∀ k, k < t → eqB (metG rows n k x c) (metG rows n k y c) = true) (w : World) :
    Calls Tryz.prog 67 #[.agg (ints (gL n a f rows act)).toArray, .int .i64 x, .int .i64 y, .agg (ints (rowF c)).toArray] w
      fun e w' => e = .returned (.int .i64 t) ∧ Below w.heap.size w w' := by
  have HL : Hid ((ints (gL n a f rows act)).length = 67) := Lib.hid (by rw [ints_len]; exact gL_len hs)
  have KX := Lib.hid (fun k (hk : k < 3) W => metBy_any n a act f rows hs hn k x hk hx c hc W)
  have KY := Lib.hid (fun k (hk : k < 3) W => metBy_any n a act f rows hs hn k y hk hy c hc W)
  have HQ := Lib.hid (fun k W b hb => run_set_eq (metG rows n k x c) (metG rows n k y c) W b hb)
  have HD := Lib.hid hd
  have HE := Lib.hid he
  have HRL := Lib.hid (rowF_ints_len c)
  generalize hmx : (fun k => metG rows n k x c) = MX
  generalize hmy : (fun k => metG rows n k y c) = MY
  have ex : ∀ k, metG rows n k x c = MX k := fun k => by rw [← hmx]
  have ey : ∀ k, metG rows n k y c = MY k := fun k => by rw [← hmy]
  simp only [ex, ey] at KX KY HQ HD HE
  clear ex ey hmx hmy hs hc hd he
  generalize gL n a f rows act = G at *
  generalize rowF c = C at *
  go_enter Tryz.func67, Tryz.ntmps67
  go_wp2
  have c1 : Cm ((w.alloc (.cells (ints G).toArray 59)).alloc (.cells (ints C).toArray 56)) w.heap.size 59 (ints G) := (Cm.new rfl).alloc _
  have r1 : Cm ((w.alloc (.cells (ints G).toArray 59)).alloc (.cells (ints C).toArray 56)) (w.heap.size + 1) 56 (ints C) := Cm.new (by simp)
  have b1 : Below w.heap.size w ((w.alloc (.cells (ints G).toArray 59)).alloc (.cells (ints C).toArray 56)) := by go_grown
  generalize (w.alloc (.cells (ints G).toArray 59)).alloc (.cells (ints C).toArray 56) = w1 at *
  have C1 := Lib.hid c1
  have R1 := Lib.hid r1
  have B1 := Lib.hid b1
  clear c1 r1 b1
  have HU : Tryz.prog.underlying 59 = some _ := Tryz.underlying59
  have HUr : Tryz.prog.underlying 56 = some _ := Tryz.underlying56
  go_loopw [9] (fun iv wr => ∃ k : Nat, k ≤ t ∧ iv = .int .i64 k ∧ Hid (Cm wr w.heap.size 59 (ints G)) ∧ Hid (Cm wr (w.heap.size + 1) 56 (ints C)) ∧ Hid (Below w.heap.size w wr)) (fun iv _ => t - (intOf iv).toNat)
  case atStart => exact ⟨0, Nat.zero_le _, rfl, C1, R1, B1⟩
  case round =>
    clear C1 R1 B1
    obtain ⟨k, hk, rfl, CR, RR, BR⟩ := hrel
    have hk0 : (0 : Int) ≤ (k : Int) := Int.natCast_nonneg _
    have hk3 : (k : Int) < 3 := by omega
    have KXk := Lib.hid (KX.out k (by omega))
    have KYk := Lib.hid (KY.out k (by omega))
    have HGW : Hid (∀ W, Below wr.heap.size wr W → W.rangeAt w.heap.size 0 (ints G)) := Lib.hid (fun W hW => (CR.out.all hW).whole)
    have HRW : Hid (∀ W, Below wr.heap.size wr W → W.rangeAt (w.heap.size + 1) 0 (ints C)) := Lib.hid (fun W hW => (RR.out.all hW).whole)
    obtain ⟨b, hb⟩ : ∃ b, b = eqB (MX k) (MY k) := ⟨_, rfl⟩
    have HQk := Lib.hid (fun W => HQ.out k W b hb)
    have HBt : Hid (b = decide (k < t)) := Lib.hid (by
      rw [hb]
      rcases Nat.lt_or_eq_of_le hk with h | rfl
      · rw [HE.out k h, decide_eq_true h]
      · rw [HD.out, decide_eq_false (Nat.lt_irrefl _)])
    clear hb
    generalize MX k = PX at *
    generalize MY k = PY at *
    go_wp2
    refine regionL (fun W => Below wr.heap.size wr W) [10] (by kernel_rfl) (Below.refl _ _).drew (fun hHeld => ?_)
    refine takeA (i := 0) (v := .agg (ints G).toArray) 10 rfl rfl (by kernel_rfl) (by kernel_rfl) (by kernel_rfl) (by kernel_rfl) (fun _ _ _ h => h) (yieldsIf_load_mid (by rfl) 59 _ rfl w.heap.size 0 rfl (ints G) _ HGW.out HU rfl (by rw [HL.out]; exact Tryz.sizeGrid)) hHeld ?_
    simp only [Act.put, List.setIfInBounds_toArray, List.set_cons_zero, List.set_cons_succ]
    refine takeA (i := 1) (v := .int .i64 k) 11 rfl rfl (by kernel_rfl) (by kernel_rfl) (by kernel_rfl) (by kernel_rfl) (fun _ _ _ h => h) (Or.inl ⟨by rfl, by intro W hSw; go_simp⟩) hHeld ?_
    simp only [Act.put, List.setIfInBounds_toArray, List.set_cons_zero, List.set_cons_succ]
    refine takeA (i := 2) (v := .int .i64 x) 12 rfl rfl (by kernel_rfl) (by kernel_rfl) (by kernel_rfl) (by kernel_rfl) (fun _ _ _ h => h) (Or.inl ⟨by rfl, by intro W hSw; go_simp⟩) hHeld ?_
    simp only [Act.put, List.setIfInBounds_toArray, List.set_cons_zero, List.set_cons_succ]
    refine takeA (i := 3) (v := .agg (ints C).toArray) 13 rfl rfl (by kernel_rfl) (by kernel_rfl) (by kernel_rfl) (by kernel_rfl) (fun _ _ _ h => h) (yieldsIf_load_mid (by rfl) 56 _ rfl (w.heap.size + 1) 0 rfl (ints C) _ HRW.out HUr rfl (by rw [HRL.out]; exact Tryz.sizeRow)) hHeld ?_
    simp only [Act.put, List.setIfInBounds_toArray, List.set_cons_zero, List.set_cons_succ]
    refine takeA (i := 5) (v := .agg (ints G).toArray) 15 rfl rfl (by kernel_rfl) (by kernel_rfl) (by kernel_rfl) (by kernel_rfl) (fun _ _ _ h => h) (yieldsIf_load_mid (by rfl) 59 _ rfl w.heap.size 0 rfl (ints G) _ HGW.out HU rfl (by rw [HL.out]; exact Tryz.sizeGrid)) hHeld ?_
    simp only [Act.put, List.setIfInBounds_toArray, List.set_cons_zero, List.set_cons_succ]
    refine takeA (i := 6) (v := .int .i64 k) 16 rfl rfl (by kernel_rfl) (by kernel_rfl) (by kernel_rfl) (by kernel_rfl) (fun _ _ _ h => h) (Or.inl ⟨by rfl, by intro W hSw; go_simp⟩) hHeld ?_
    simp only [Act.put, List.setIfInBounds_toArray, List.set_cons_zero, List.set_cons_succ]
    refine takeA (i := 7) (v := .int .i64 y) 17 rfl rfl (by kernel_rfl) (by kernel_rfl) (by kernel_rfl) (by kernel_rfl) (fun _ _ _ h => h) (Or.inl ⟨by rfl, by intro W hSw; go_simp⟩) hHeld ?_
    simp only [Act.put, List.setIfInBounds_toArray, List.set_cons_zero, List.set_cons_succ]
    refine takeA (i := 8) (v := .agg (ints C).toArray) 18 rfl rfl (by kernel_rfl) (by kernel_rfl) (by kernel_rfl) (by kernel_rfl) (fun _ _ _ h => h) (yieldsIf_load_mid (by rfl) 56 _ rfl (w.heap.size + 1) 0 rfl (ints C) _ HRW.out HUr rfl (by rw [HRL.out]; exact Tryz.sizeRow)) hHeld ?_
    simp only [Act.put, List.setIfInBounds_toArray, List.set_cons_zero, List.set_cons_succ]
    generalize wr.drew = wd at hHeld ⊢
    refine onlyL (i := 4) (by kernel_rfl) rfl (by rfl) (fun K hK => ?_)
    go_simp
    refine (KXk.out _).mono ?_
    rintro e w5 ⟨rfl, hb5⟩
    have t5 : Below wr.heap.size wr w5 := hHeld.trans (hb5.mono hHeld.size)
    clear hb5
    refine hK.out _ _ (fun _ => t5) (fun hHeld => ?_)
    clear hHeld hK K
    try simp only [Act.put, List.setIfInBounds_toArray, List.set_cons_zero, List.set_cons_succ]
    refine onlyL (i := 9) (by kernel_rfl) rfl (by rfl) (fun K hK => ?_)
    go_simp
    refine (KYk.out _).mono ?_
    rintro e w6 ⟨rfl, hb6⟩
    have t6 : Below wr.heap.size wr w6 := t5.trans (hb6.mono t5.size)
    clear hb6
    refine hK.out _ _ (fun _ => t6) (fun hHeld => ?_)
    clear hHeld hK K
    try simp only [Act.put, List.setIfInBounds_toArray, List.set_cons_zero, List.set_cons_succ]
    refine onlyL (i := 10) (by kernel_rfl) rfl (by rfl) (fun K hK => ?_)
    refine wp_eqA 79 (.tmp 14) (.tmp 19) 79 rfl (bL PX).toArray (bL PY).toArray rfl rfl (by kernel_rfl) _ (HQk.out _) ?_
    refine hK.out _ _ (fun h => absurd (by decide) h) (fun _ => ?_)
    clear hK K
    refine doneL (by kernel_rfl) ?_ _
    have C6 := Lib.hid (CR.out.all t6)
    have R6 := Lib.hid (RR.out.all t6)
    have B6 := Lib.hid (BR.out.trans (t6.mono BR.out.size))
    try simp only [Act.put, List.setIfInBounds_toArray, List.set_cons_zero, List.set_cons_succ]
    clear KXk KYk HGW HRW HQk CR RR BR t5 t6 KX KY HQ HD HE
    by_cases hlt : k < t
    · have hb2 : b = true := by rw [HBt.out, decide_eq_true hlt]
      subst hb2
      clear HBt
      go_wp2
      go_roundw
      case rel => exact ⟨k + 1, by omega, by go_num, C6, R6, B6⟩
      case measure => simp [intOf]; omega
    · have hb2 : b = false := by rw [HBt.out, decide_eq_false hlt]
      subst hb2
      clear HBt
      obtain rfl : k = t := by omega
      go_wp2
      go_ret
      exact ⟨rfl, B6.out⟩
end Go.Proofs.YtnpfnfenkklocaaGreatDoor
