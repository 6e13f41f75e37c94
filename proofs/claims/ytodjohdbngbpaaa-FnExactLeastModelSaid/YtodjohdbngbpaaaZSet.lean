/-
  Several texts in one: Bit Num Tel Set Rst Bol. Conditions: as each theorem says.
-/
import Derived.Test.YtodjohdbngbpaaaZMok
import Derived.IntWalk
import Derived.Test.YtodjohdbngbpaaaZArr
/-
  Contracts of spec.l03Bit and grid.told. Conditions: the numbers are those of a valid model.
-/
namespace Go.Proofs.Ytodjohdbngbpaaa
open Go.RowKit Go.WideShapes
open Go Go.Deep
set_option linter.unusedSimpArgs false

/-- a fact of a world -/
def bitI (x : Int) (f : Nat) : Int := x / 2 ^ f % 2
theorem bitI_bd (x : Int) (f : Nat) : 0 ≤ bitI x f ∧ bitI x f ≤ 1 := by unfold bitI; omega
theorem bit_cases {f : Nat} (h : f < 4) : f = 0 ∨ f = 1 ∨ f = 2 ∨ f = 3 := by omega
theorem nib_cases {x : Int} (h0 : 0 ≤ x) (h1 : x < 16) : x = 0 ∨ x = 1 ∨ x = 2 ∨ x = 3 ∨ x = 4 ∨ x = 5 ∨ x = 6 ∨ x = 7 ∨ x = 8 ∨ x = 9 ∨ x = 10 ∨ x = 11 ∨ x = 12 ∨ x = 13 ∨ x = 14 ∨ x = 15 := by omega

set_option maxRecDepth 100000 in
set_option maxHeartbeats 4000000 in
theorem l03Bit_any (x : Int) (f : Nat) (w : World) (h0 : 0 ≤ x) (h1 : x < 16) (hf : f < 4) :
    Calls Try.prog 135 #[.int .i64 x, .int .i64 f] w fun e w' => e = .returned (.int .i64 (bitI x f)) ∧ w = w' := by
  rcases bit_cases hf with rfl | rfl | rfl | rfl
  all_goals
    go_enter Try.func135, Try.ntmps135
    go_wp2
    refine wp_loop_rounds 4 ?_
    repeat (rw [rounds_succ]; go_wp2)
    go_ret
    exact ⟨ret_int (by unfold bitI; omega), rfl⟩

theorem Try.shrInt (p q : Operand) (x : Int) (f : Nat) (h0 : 0 ≤ x) (h1 : x < 16) (hf : f < 4) (w : World) : (do eqGuard .shr 3 p q (.int .i64 x) (.int .i64 f); binOp .shr 3 (.int .i64 x) (.int .i64 f) : Sem Value).run Try.prog w = .ok (.int .i64 (x / 2 ^ f)) w := by
  rcases bit_cases hf with rfl | rfl | rfl | rfl <;> rcases nib_cases h0 h1 with rfl | rfl | rfl | rfl | rfl | rfl | rfl | rfl | rfl | rfl | rfl | rfl | rfl | rfl | rfl | rfl <;> kernel_rfl
theorem Try.andInt (p q : Operand) (x : Int) (h0 : 0 ≤ x) (h1 : x < 16) (w : World) : (do eqGuard .and 3 p q (.int .i64 x) (.int .i64 1); binOp .and 3 (.int .i64 x) (.int .i64 1) : Sem Value).run Try.prog w = .ok (.int .i64 (x % 2)) w := by
  rcases nib_cases h0 h1 with rfl | rfl | rfl | rfl | rfl | rfl | rfl | rfl | rfl | rfl | rfl | rfl | rfl | rfl | rfl | rfl <;> kernel_rfl
section
variable {P : Program} {ops : Array Oper} {S : World → Prop}
/-- an operation on two numbers whose run is known -/
theorem yields_bin {o : Oper} {a : Act} (hw : Region.wanted o (yielded ops a.tmps) = true) (bop : BinOp) (T R : TypeId) (x y : Operand) (u v r : Value) (ho : o.op = .binOp bop T x y R) (hx : a.eval x = u) (hy : a.eval y = v)
    (hr : ∀ W, (do eqGuard bop T x y u v; binOp bop T u v : Sem Value).run P W = .ok r W) : YieldsIf P ops S o r a :=
  .inl ⟨hw, fun W _ => by unfold execOp; simp only [ho, hx, hy]; rw [Sem.run_bind, hr]; rfl⟩
end

/-- a valid model's blocks, split by a fact -/
def splitL (m : Md) (a f : Nat) : List Int := (List.range m.facts.length).map fun w => 2 * (m.blocks.getD a []).getD w 0 + bitI (m.facts.getD w 0) f
def tellM (m : Md) (a f : Nat) : Md := ⟨m.facts, m.blocks.set a (num (splitL m a f)), m.actual⟩
theorem splitL_len (m : Md) (a f : Nat) : (splitL m a f).length = m.facts.length := by simp [splitL]
theorem splitL_take (m : Md) (a f k : Nat) (hk : k < m.facts.length) : (splitL m a f).take (k + 1) = (splitL m a f).take k ++ [2 * (m.blocks.getD a []).getD k 0 + bitI (m.facts.getD k 0) f] := by
  rw [take_snocI (by rw [splitL_len]; exact hk)]
  congr 2
  unfold splitL
  rw [List.getD_eq_getElem?_getD, List.getElem?_map, List.getElem?_range hk]; rfl
theorem set_getD_same {α : Type} {l : List α} {a : Nat} {x d : α} (h : a < l.length) : (l.set a x).getD a d = x := by
  rw [List.getD_eq_getElem?_getD, List.getElem?_set_self h]; rfl
theorem set_getD_ne {α : Type} {l : List α} {a k : Nat} {x d : α} (h : k ≠ a) : (l.set a x).getD k d = l.getD k d := by
  rw [List.getD_eq_getElem?_getD, List.getElem?_set_ne (Ne.symm h), List.getD_eq_getElem?_getD]
theorem tell_fits {m : Md} (h : fits m) (a f : Nat) (ha : a < m.blocks.length) : fits (tellM m a f) := by
  refine ⟨h.1, by simp [tellM]; exact h.2.1, fun k hk => ?_⟩
  have hk' : k < m.blocks.length := by simpa [tellM] using hk
  unfold tellM
  simp only
  by_cases e : k = a
  · subst e; rw [set_getD_same hk', num_len, splitL_len]
  · rw [set_getD_ne e]; exact h.2.2 k hk'

theorem Try.allocRow' (w : World) : (Instr.alloc 57 true (.tuple #[])).run Try.prog w = .ok (.pointer (some ⟨w.heap.size, 0, none⟩)) (w.alloc (.cells (ints (List.replicate 16 0)).toArray 57)) := by kernel_rfl

set_option maxRecDepth 100000 in
set_option maxHeartbeats 16000000 in
theorem told_any (m : Md) (a f : Nat) (hm : mdOk m = true) (ha : a < m.blocks.length) (hf : f < 4) (w : World) :
    Calls Try.prog 38 #[.agg (ints (gL m.facts.length m.blocks.length m.facts m.blocks m.actual)).toArray, .int .i64 a, .int .i64 f] w
      fun e w' => e = .returned (.agg (ints (gL m.facts.length m.blocks.length m.facts (tellM m a f).blocks m.actual)).toArray) ∧ Below w.heap.size w w' := by
  obtain ⟨p1, p2, p3, p4, p5, p6, p7, p8⟩ := mdOk_parts hm
  have hs := md_small hm
  have HL : Hid ((ints (gL m.facts.length m.blocks.length m.facts m.blocks m.actual)).length = 67) := Lib.hid (by rw [ints_len]; exact gL_len hs)
  have HC : Hid (∀ (W : World) b T, Cm W b T (ints (gL m.facts.length m.blocks.length m.facts m.blocks m.actual)) → W.cell? ⟨b, 0, none⟩ = some (.int .i64 m.facts.length)) := Lib.hid (fun W b T h => h.g0)
  have HF : Hid (∀ j, j < m.facts.length → ∀ (W : World) b T, Cm W b T (ints (gL m.facts.length m.blocks.length m.facts m.blocks m.actual)) → W.cell? ⟨b, 2 + j, none⟩ = some (.int .i64 (m.facts.getD j 0))) := Lib.hid (fun j hj W b T h => h.gf hs (by omega))
  have HR : Hid (∀ j, j < m.facts.length → ∀ (W : World) b T, Cm W b T (ints (gL m.facts.length m.blocks.length m.facts m.blocks m.actual)) → W.cell? ⟨b, 18 + a * 16 + j, none⟩ = some (.int .i64 ((m.blocks.getD a []).getD j 0))) := Lib.hid (fun j hj W b T h => h.gr hs (by omega) (by omega))
  have HST := Lib.hid (gL_set (n := m.facts.length) (a := m.blocks.length) (c := m.actual) (rows' := (tellM m a f).blocks) (r := num (splitL m a f)) (k := a) hs (by rw [num_len, splitL_len]; exact p2) (by omega) (set_getD_same ha) (fun i hi => set_getD_ne hi))
  have HNB : Hid ((splitL m a f).length = m.facts.length) := Lib.hid (splitL_len m a f)
  have KN := Lib.hid (fun W => numbered_any (pad (splitL m a f)) m.facts.length W (pad_len (by rw [splitL_len]; exact p2)) p2)
  rw [pad_take' (splitL_len m a f)] at KN
  have HPL : Hid ((ints (pad (num (splitL m a f)))).length = 16) := Lib.hid (by rw [ints_len, pad_len (by rw [num_len, splitL_len]; exact p2)])
  have HL2 : Hid ((ints (gL m.facts.length m.blocks.length m.facts (tellM m a f).blocks m.actual)).length = 67) := Lib.hid (by rw [ints_len]; exact gL_len (tell_fits (md_fits hm) a f ha).small)
  have HBD : Hid (∀ j, j < m.facts.length → 0 ≤ m.facts.getD j 0 ∧ m.facts.getD j 0 < 16 ∧ 0 ≤ (m.blocks.getD a []).getD j 0 ∧ (m.blocks.getD a []).getD j 0 < 16) := Lib.hid (fun j hj => by
    have h1 := p6 j hj
    have h2 := ord_bd (p5 a ha).2 (getD_mem (l := m.blocks.getD a []) (i := j) (by rw [(p5 a ha).1]; exact hj))
    rw [(p5 a ha).1] at h2
    omega)
  have HTK := Lib.hid (splitL_take m a f)
  have HO1 := Lib.hid (fun v (hv : v ∈ ints (pad (num (splitL m a f)))) => ints_one hv)
  have HO2 := Lib.hid (fun v (hv : v ∈ ints (gL m.facts.length m.blocks.length m.facts (tellM m a f).blocks m.actual)) => ints_one hv)
  clear hs hm p5 p6 p7 p8
  generalize gL m.facts.length m.blocks.length m.facts m.blocks m.actual = G at *
  generalize gL m.facts.length m.blocks.length m.facts (tellM m a f).blocks m.actual = G' at *
  have a0 : (0 : Int) ≤ (a : Int) := Int.natCast_nonneg _
  have a3 : (a : Int) < 3 := by omega
  have f0 : (0 : Int) ≤ (f : Int) := Int.natCast_nonneg _
  have f4 : (f : Int) < 4 := by omega
  go_enter Try.func38, Try.ntmps38
  go_wp2_with
    (first
      | (refine wpList_allocM rfl 60 rfl (ints (gL 0 0 [] [] 0)) Try.allocGrid ?_
         intro w1 hc1 hb1 hs1
         have CG := Lib.hid (Cm.all (Cm.new (w := w) (T := 60) (cs := ints G) rfl) hb1)
         have CZ : Hid (Cm w1 (w.heap.size + 1) 60 (ints (gL 0 0 [] [] 0))) := Lib.hid (by simpa using hc1)
         have BB : Hid (Below w.heap.size w w1) := Lib.hid (Below.trans (by go_grown) (hb1.mono (by simp)))
         have hg1 : w.heap.size + 1 < w1.heap.size := CZ.out.lt
         have hg0 : w.heap.size < w1.heap.size := by omega
         have c0 := HC.out _ _ _ CG.out
         clear hc1 hb1 hs1))
  clear c0
  have CR0 : Cm (w1.alloc (.cells (ints (List.replicate 16 0)).toArray 57)) w1.heap.size 57 (ints (List.replicate 16 0)) := Cm.new rfl
  have hb2 : Below w1.heap.size w1 (w1.alloc (.cells (ints (List.replicate 16 0)).toArray 57)) := (Below.refl _ _).alloc (Nat.le_refl _) _
  have CR := Lib.hid CR0
  have CZ := Lib.hid (CZ.out.all hb2)
  have CG := Lib.hid (CG.out.all hb2)
  have BB := Lib.hid (BB.out.trans (hb2.mono BB.out.size))
  clear CR0 hb2
  go_loopw [11] (fun iv wr => ∃ k : Nat, k ≤ m.facts.length ∧ iv = .int .i64 k ∧ Hid (Cm wr w1.heap.size 57 (ints (pad ((splitL m a f).take k)))) ∧ Hid (Cm wr w.heap.size 60 (ints G)) ∧ Hid (Cm wr (w.heap.size + 1) 60 (ints (gL 0 0 [] [] 0))) ∧ Hid (Below w.heap.size w wr)) (fun iv _ => m.facts.length - (intOf iv).toNat)
  case atStart => exact ⟨0, Nat.zero_le _, rfl, CR, CG, CZ, BB⟩
  case round =>
    clear CR CG CZ BB
    obtain ⟨k, hk, rfl, CR, CG, CZ, BB⟩ := hrel
    by_cases hlt : k < m.facts.length
    · obtain ⟨x0, x1, y0, y1⟩ := HBD.out k hlt
      have HT := Lib.hid (HTK.out k hlt)
      have cf := HF.out k hlt _ _ _ CG.out
      have cr := HR.out k hlt _ _ _ CG.out
      have CF := Lib.hid (HF.out k hlt)
      have CB := Lib.hid (HR.out k hlt)
      clear cf cr
      have k0 : (0 : Int) ≤ (k : Int) := Int.natCast_nonneg _
      have k16 : (k : Int) < 16 := by omega
      generalize m.facts.getD k 0 = x at *
      generalize (m.blocks.getD a []).getD k 0 = y at *
      have hx2 := bitI_bd x f
      have q0 : 0 ≤ x / 2 ^ f := Int.ediv_nonneg x0 (by
        rcases bit_cases hf with rfl | rfl | rfl | rfl <;> decide)
      have q1 : x / 2 ^ f < 16 := by
        rcases bit_cases hf with rfl | rfl | rfl | rfl <;> omega
      have wr1 : IntKind.i64.wrap (2 * y) = 2 * y := IntWalk.i64_in _ (by omega)
      have wr2 : IntKind.i64.wrap (2 * y + bitI x f) = 2 * y + bitI x f := IntWalk.i64_in _ (by omega)
      have HW1 := Lib.hid wr1
      have HW2 := Lib.hid wr2
      have HSH := Lib.hid (fun p q W => Try.shrInt p q x f x0 x1 hf W)
      have HAN := Lib.hid (fun p q W => Try.andInt p q (x / 2 ^ f) q0 q1 W)
      have HBI : Hid (x / 2 ^ f % 2 = bitI x f) := Lib.hid rfl
      rw [HBI.out] at HAN
      clear wr1 wr2
      generalize x / 2 ^ f = q at *
      generalize bitI x f = z at *
      go_wp2
      have hlk : ((splitL m a f).take k).length = k := by rw [List.length_take, HNB.out]; omega
      have HSET : Hid ((ints (pad ((splitL m a f).take k))).set k (.int .i64 (2 * y + z)) = ints (pad ((splitL m a f).take (k + 1)))) := Lib.hid (by
        rw [HT.out, ints_set]
        have := pad_set (l := (splitL m a f).take k) (x := 2 * y + z) (by omega)
        rw [hlk] at this
        rw [this])
      obtain ⟨u, hu⟩ : ∃ u, wr.cell? ⟨w1.heap.size, k, none⟩ = some u := ⟨_, by rw [CR.out.cell, ints_at (by rw [pad_len (by omega)]; omega)]⟩
      have HCU := Lib.hid hu
      clear hlk hu
      refine regionL (fun W => Below wr.heap.size wr W) [17] (by kernel_rfl) (Below.refl _ _).drew (fun hHeld => ?_)
      refine takeA (i := 0) (v := .int .i64 k) 14 rfl rfl (by kernel_rfl) (by kernel_rfl) (by kernel_rfl) (by kernel_rfl) (fun _ _ _ h => h) (Or.inl ⟨by rfl, by intro W hSw; go_simp⟩) hHeld ?_
      simp only [Act.put, List.setIfInBounds_toArray, List.set_cons_zero, List.set_cons_succ]
      refine takeA (i := 1) (v := .int .i64 a) 15 rfl rfl (by kernel_rfl) (by kernel_rfl) (by kernel_rfl) (by kernel_rfl) (fun _ _ _ h => h) (Or.inl ⟨by rfl, by intro W hSw; go_simp⟩) hHeld ?_
      simp only [Act.put, List.setIfInBounds_toArray, List.set_cons_zero, List.set_cons_succ]
      refine takeA (i := 2) (v := .int .i64 k) 16 rfl rfl (by kernel_rfl) (by kernel_rfl) (by kernel_rfl) (by kernel_rfl) (fun _ _ _ h => h) (Or.inl ⟨by rfl, by intro W hSw; go_simp⟩) hHeld ?_
      simp only [Act.put, List.setIfInBounds_toArray, List.set_cons_zero, List.set_cons_succ]
      refine takeA (i := 3) (v := .pointer (some ⟨w.heap.size, 18, none⟩)) 17 rfl rfl (by kernel_rfl) (by kernel_rfl) (by kernel_rfl) (by kernel_rfl) (fun _ _ _ h => h) (Or.inl ⟨by rfl, by intro W hSw; go_simp⟩) hHeld ?_
      simp only [Act.put, List.setIfInBounds_toArray, List.set_cons_zero, List.set_cons_succ]
      refine takeA (i := 4) (v := .pointer (some ⟨w.heap.size, 18 + a * 16, none⟩)) 18 rfl rfl (by kernel_rfl) (by kernel_rfl) (by kernel_rfl) (by kernel_rfl) (fun _ _ _ h => h) (Or.inl ⟨by rfl, by intro W hSw; go_simp⟩) hHeld ?_
      simp only [Act.put, List.setIfInBounds_toArray, List.set_cons_zero, List.set_cons_succ]
      refine takeA (i := 5) (v := .pointer (some ⟨w.heap.size, 18 + a * 16 + k, none⟩)) 19 rfl rfl (by kernel_rfl) (by kernel_rfl) (by kernel_rfl) (by kernel_rfl) (fun _ _ _ h => h) (Or.inl ⟨by rfl, by intro W hSw; go_simp⟩) hHeld ?_
      simp only [Act.put, List.setIfInBounds_toArray, List.set_cons_zero, List.set_cons_succ]
      refine takeA (i := 6) (v := .int .i64 y) 20 rfl rfl (by kernel_rfl) (by kernel_rfl) (by kernel_rfl) (by kernel_rfl) (fun _ _ _ h => h) (Or.inl ⟨by rfl, by intro W hSw; have c1 := CB.out _ _ _ (CG.out.all hSw); go_simp⟩) hHeld ?_
      simp only [Act.put, List.setIfInBounds_toArray, List.set_cons_zero, List.set_cons_succ]
      refine takeA (i := 7) (v := .int .i64 (2 * y)) 21 rfl rfl (by kernel_rfl) (by kernel_rfl) (by kernel_rfl) (by kernel_rfl) (fun _ _ _ h => h) (Or.inl ⟨by rfl, by intro W hSw; go_simp; rw [HW1.out]⟩) hHeld ?_
      simp only [Act.put, List.setIfInBounds_toArray, List.set_cons_zero, List.set_cons_succ]
      refine takeA (i := 8) (v := .int .i64 k) 22 rfl rfl (by kernel_rfl) (by kernel_rfl) (by kernel_rfl) (by kernel_rfl) (fun _ _ _ h => h) (Or.inl ⟨by rfl, by intro W hSw; go_simp⟩) hHeld ?_
      simp only [Act.put, List.setIfInBounds_toArray, List.set_cons_zero, List.set_cons_succ]
      refine takeA (i := 9) (v := .pointer (some ⟨w.heap.size, 2, none⟩)) 23 rfl rfl (by kernel_rfl) (by kernel_rfl) (by kernel_rfl) (by kernel_rfl) (fun _ _ _ h => h) (Or.inl ⟨by rfl, by intro W hSw; go_simp⟩) hHeld ?_
      simp only [Act.put, List.setIfInBounds_toArray, List.set_cons_zero, List.set_cons_succ]
      refine takeA (i := 10) (v := .pointer (some ⟨w.heap.size, 2 + k, none⟩)) 24 rfl rfl (by kernel_rfl) (by kernel_rfl) (by kernel_rfl) (by kernel_rfl) (fun _ _ _ h => h) (Or.inl ⟨by rfl, by intro W hSw; go_simp⟩) hHeld ?_
      simp only [Act.put, List.setIfInBounds_toArray, List.set_cons_zero, List.set_cons_succ]
      refine takeA (i := 11) (v := .int .i64 x) 25 rfl rfl (by kernel_rfl) (by kernel_rfl) (by kernel_rfl) (by kernel_rfl) (fun _ _ _ h => h) (Or.inl ⟨by rfl, by intro W hSw; have c1 := CF.out _ _ _ (CG.out.all hSw); go_simp⟩) hHeld ?_
      simp only [Act.put, List.setIfInBounds_toArray, List.set_cons_zero, List.set_cons_succ]
      refine takeA (i := 12) (v := .int .i64 f) 26 rfl rfl (by kernel_rfl) (by kernel_rfl) (by kernel_rfl) (by kernel_rfl) (fun _ _ _ h => h) (Or.inl ⟨by rfl, by intro W hSw; go_simp⟩) hHeld ?_
      simp only [Act.put, List.setIfInBounds_toArray, List.set_cons_zero, List.set_cons_succ]
      refine takeA (i := 13) (v := .int .i64 q) 27 rfl rfl (by kernel_rfl) (by kernel_rfl) (by kernel_rfl) (by kernel_rfl) (fun _ _ _ h => h) (yields_bin (by rfl) .shr 3 3 (.tmp 25) (.tmp 26) (.int .i64 x) (.int .i64 f) _ rfl rfl rfl (HSH.out _ _)) hHeld ?_
      simp only [Act.put, List.setIfInBounds_toArray, List.set_cons_zero, List.set_cons_succ]
      refine takeA (i := 14) (v := .int .i64 z) 28 rfl rfl (by kernel_rfl) (by kernel_rfl) (by kernel_rfl) (by kernel_rfl) (fun _ _ _ h => h) (yields_bin (by rfl) .and 3 3 (.tmp 27) (.const (.int .i64 1)) (.int .i64 q) (.int .i64 1) _ rfl rfl rfl (HAN.out _ _)) hHeld ?_
      simp only [Act.put, List.setIfInBounds_toArray, List.set_cons_zero, List.set_cons_succ]
      refine takeA (i := 15) (v := .int .i64 (2 * y + z)) 29 rfl rfl (by kernel_rfl) (by kernel_rfl) (by kernel_rfl) (by kernel_rfl) (fun _ _ _ h => h) (Or.inl ⟨by rfl, by intro W hSw; go_simp; rw [HW2.out]⟩) hHeld ?_
      simp only [Act.put, List.setIfInBounds_toArray, List.set_cons_zero, List.set_cons_succ]
      refine takeA (i := 16) (v := .pointer (some ⟨w1.heap.size, k, none⟩)) 30 rfl rfl (by kernel_rfl) (by kernel_rfl) (by kernel_rfl) (by kernel_rfl) (fun _ _ _ h => h) (Or.inl ⟨by rfl, by intro W hSw; go_simp⟩) hHeld ?_
      simp only [Act.put, List.setIfInBounds_toArray, List.set_cons_zero, List.set_cons_succ]
      refine onlyL (i := 17) (by kernel_rfl) rfl (by rfl) (fun K hK => ?_)
      have ck : wr.drew.cell? ⟨w1.heap.size, k, none⟩ = some u := HCU.out
      have fk : wr.drew.frozen? ⟨w1.heap.size, k, none⟩ = false := CR.out.frozen k
      go_simp
      refine hK.out _ _ (fun h => absurd (by decide) h) (fun _ => ?_)
      clear hK K hHeld ck fk
      refine doneL (by kernel_rfl) ?_ _
      go_wp2
      go_roundw
      case rel => exact ⟨k + 1, by omega, by go_num, Lib.hid (by rw [← HSET.out]; exact CR.out.drew.set k _), Lib.hid (CG.out.drew.other (by omega) _ _), Lib.hid (CZ.out.drew.other (by omega) _ _), Lib.hid (BB.out.drew.setCell (by show _ ≤ w1.heap.size; omega) _)⟩
      case measure => simp [intOf]; omega
    · obtain ⟨k', hk'⟩ : ∃ x, x = k := ⟨_, rfl⟩
      subst hk'
      have HKN : Hid ((splitL m a f).take k' = splitL m a f) := Lib.hid (List.take_of_length_le (by rw [HNB.out]; omega))
      have CR' : Hid (Cm wr w1.heap.size 57 (ints (pad (splitL m a f)))) := Lib.hid (by rw [← HKN.out]; exact CR.out)
      have HPL2 : Hid ((ints (pad (splitL m a f))).length = 16) := Lib.hid (by rw [ints_len, pad_len (by rw [HNB.out]; exact p2)])
      have c0 := HC.out _ _ _ CG.out
      clear CR
      go_wp2_with (refine wpList_loadM rfl 57 _ rfl w1.heap.size 0 rfl 57 (ints (pad (splitL m a f))) (ints (pad (splitL m a f))) CR'.out (fun j _ => by rw [Nat.zero_add]) _ Try.underlying57 rfl (by rw [HPL2.out]; exact Try.sizeRow) ?_)
      refine (KN.out _).mono ?_
      rintro e w5 ⟨rfl, hb5⟩
      have CG5 := Lib.hid (CG.out.all hb5)
      have CZ5 := Lib.hid (CZ.out.all hb5)
      have B5 := Lib.hid (BB.out.trans (hb5.mono BB.out.size))
      clear hb5 c0
      go_wp2_with
        (first
          | (refine wpList_storeM rfl 57 (.tmp 38) (.tmp 36) rfl w.heap.size (18 + a * 16) rfl (ints (pad (num (splitL m a f)))) rfl 60 (ints G) CG5.out (by rw [HPL.out, HL.out]; omega) (by rw [HPL.out]; exact Try.sizeRow) HO1.out ?_
             intro w6 hc6 ha6
             rw [HST.out] at hc6
             have CG6 := Lib.hid hc6
             have CZ6 := Lib.hid (ha6.cm CZ5.out (by omega))
             have B6 : Hid (Below w.heap.size w w6) := Lib.hid (B5.out.trans (ha6.below (Nat.le_refl _)))
             clear hc6 ha6)
          | (refine wpList_loadM rfl 60 _ rfl w.heap.size 0 rfl 60 (ints G') (ints G') CG6.out (fun j _ => by rw [Nat.zero_add]) _ Try.underlying60 rfl (by rw [HL2.out]; exact Try.sizeGrid) ?_)
          | (refine wpList_storeM rfl 60 (.tmp 6) (.tmp 39) rfl (w.heap.size + 1) 0 rfl (ints G') rfl 60 (ints (gL 0 0 [] [] 0)) CZ6.out (by rw [HL2.out]; exact Nat.le_refl _) (by rw [HL2.out]; exact Try.sizeGrid) HO2.out ?_
             intro w7 hc7 ha7
             rw [lay'_all (by rw [HL2.out]; rfl)] at hc7
             have CZ7 := Lib.hid hc7
             have B7 : Hid (Below w.heap.size w w7) := Lib.hid (B6.out.trans (ha7.below (by omega)))
             clear hc7 ha7))
      refine bodyPost_ret (results_mid1 Try.results38 _ _ (w.heap.size + 1) (ints G') _ rfl CZ7.out.whole Try.underlying60 rfl (by rw [HL2.out]; exact Try.sizeGrid)) rfl ?_
      exact ⟨rfl, B7.out⟩
end Go.Proofs.Ytodjohdbngbpaaa

/-
  spec.l03Number, spec.NumberBlocks and impl.NumberBlocks, and the walk of the law FnExactNumberBlocks. Conditions of the contracts: bounds on the lengths, which the law checks.
-/
namespace Go.Proofs.Ytodjohdbngbpaaa
open Go.RowKit Go.WideShapes
open Go Go.Deep

set_option maxRecDepth 100000 in
set_option maxHeartbeats 8000000 in
theorem specNumber_any (lo hi : Nat) (v : Value) (l : List Int) (w : World) (hr : Iv lo hi w v l) (hn : l.length ≤ 1048576) :
    Calls Try.prog 65 #[v] w (IntsAns w (num l)) := by
  obtain ⟨a, cap, rfl, h1, h2, h3⟩ := hr.parts
  unfold maxLen at h2
  have KEY := Lib.hid h3
  clear h3 hr
  have HLE := Lib.hid (fun k (h : k < l.length) => look_end (l := l) (i := k))
  have HLS := Lib.hid (fun k j (h : k < l.length) (h' : j < k) => look_step (l := l) h h')
  have HNL := Lib.hid (numS_len l)
  have HND : Hid ((numS l l.length).1 = num l) := Lib.hid rfl
  go_enter Try.func65, Try.ntmps65
  go_wp2
  go_loopw [3, 4, 13] (fun vv qv iv wr => ∃ (k q : Nat) (v : Value), k ≤ l.length ∧ iv = .int .i64 k ∧ qv = .int .i64 q ∧ v = vv ∧ q ≤ k ∧ Hid (q = (numS l k).2) ∧ Hid (wr.ownsRow w.heap.size 3 1 v k (ints (numS l k).1)) ∧ Hid (Below w.heap.size w wr)) (fun _ _ iv _ => l.length - (intOf iv).toNat)
  case atStart => exact ⟨0, 0, _, Nat.zero_le _, rfl, rfl, rfl, Nat.le_refl _, Lib.hid rfl, Lib.hid (World.ownsRow_lit (w := w) #[] 0 (Nat.le_refl _) (by decide) rfl), Lib.hid (by go_grown)⟩
  case round =>
    obtain ⟨k, q, v, hk, rfl, rfl, rfl, hqk, HQ, HO, HB⟩ := hrel
    have hro : Ro w.heap.size wr.heap.size wr 3 v (ints (numS l k).1) := Ro.of_own HO.out
    obtain ⟨va, vc, e0, _, hvm, hcell⟩ := hro.read.parts
    rw [ints_len, HNL.out] at e0 hcell
    unfold maxLen at hvm
    have HCE : Hid (∀ j, j < k → ∃ g, va = some ⟨g, 0, none⟩ ∧ wr.cell? ⟨g, j, none⟩ = some (.int .i64 ((numS l k).1.getD j 0))) := Lib.hid (fun j hj => by
      rcases HO.out.2 with ⟨e1, h0⟩ | ⟨g, c, cur, e1, _⟩
      · omega
      · rw [e1] at e0
        simp only [Value.slice.injEq, true_and] at e0
        refine ⟨g, e0.1.symm, ?_⟩
        have h := HO.out
        rw [e1] at h
        rw [h.cellAt j (by omega), ints_at (by rw [HNL.out]; exact hj)])
    clear hcell hro
    subst e0
    by_cases hlt : k < l.length
    · obtain ⟨b, o, rfl, _, _, hb, c0⟩ := KEY.out k hlt
      rw [← HB.out.cell (p := ⟨b, o + k, none⟩) hb] at c0
      have HLE2 := Lib.hid (HLE.out k hlt)
      have HLS2 := Lib.hid (fun j h => HLS.out k j hlt h)
      have hcap : ¬ cap = 0 := by omega
      have hk0 : (0 : Int) ≤ (k : Int) := Int.natCast_nonneg _
      have hk1 : (k : Int) ≤ (cap : Int) := by omega
      have HL0 : Hid (look l k 0 = -1) := Lib.hid (by unfold look; rw [if_neg (by omega)])
      generalize hx : l.getD k 0 = x at *
      have HX := Lib.hid hx
      clear hx
      go_wp2
      go_loop [7, 22] (fun kv jv => ∃ j : Nat, j ≤ k ∧ jv = .int .i64 j ∧ kv = .int .i64 (look l k j)) (fun _ jv => k - (intOf jv).toNat)
      case atStart => exact ⟨0, Nat.zero_le _, rfl, by rw [HL0.out]⟩
      case round =>
        obtain ⟨j, hj, rfl, rfl⟩ := hrel
        by_cases hjk : j < k
        · obtain ⟨b', o', e3, _, _, hb', d0⟩ := KEY.out j (by omega)
          cases e3
          rw [← HB.out.cell (p := ⟨b, o + j, none⟩) hb'] at d0
          obtain ⟨g, rfl, g0⟩ := HCE.out j hjk
          have HST := Lib.hid (HLS2.out j hjk)
          generalize l.getD j 0 = y at *
          generalize (numS l k).1.getD j 0 = z at *
          generalize look l k j = u at *
          by_cases e : y = x
          · rw [if_pos e] at HST
            subst e
            go_wp2
            go_round
            case rel => exact ⟨j + 1, by omega, by go_num, by rw [HST.out]⟩
            case measure => simp [intOf]; omega
          · rw [if_neg e] at HST
            have e1 : (y == x) = false := by simpa using e
            go_wp2
            go_round
            case rel => exact ⟨j + 1, by omega, by go_num, by rw [HST.out]⟩
            case measure => simp [intOf]; omega
        · obtain rfl : j = k := by omega
          clear c0 HCE HLS2
          by_cases hneg : look l j j < 0
          · have HE : Hid (numS l (j + 1) = ((numS l j).1 ++ [((numS l j).2 : Int)], (numS l j).2 + 1)) := Lib.hid (by rw [HLE2.out, if_pos hneg])
            generalize look l j j = u at *
            go_wp2_with (at_builtin; refine wpList_push rfl _ _ 24 rfl 3 (.int .i64 0) 8 Try.underlying24 Try.infoI rfl w.heap.size wr (.int .i64 q) (.slice va j vc) j (ints (numS l j).1) HO.out rfl rfl rfl (by unfold maxLen; omega) (by omega) HB.out.size ?_; intro v' w4 hown hbp _; have HO4 := Lib.hid hown; have BP := Lib.hid hbp; clear hown hbp)
            go_roundw
            case rel => exact ⟨j + 1, q + 1, v', by omega, by go_num, by go_num, rfl, by omega, Lib.hid (by rw [HE.out, HQ.out]), Lib.hid (by have h := HO4.out; rw [HQ.out] at h; rw [HE.out, ints_app]; exact h), Lib.hid (HB.out.trans BP.out)⟩
            case measure => simp [intOf]; omega
          · have HE : Hid (numS l (j + 1) = ((numS l j).1 ++ [look l j j], (numS l j).2)) := Lib.hid (by rw [HLE2.out, if_neg hneg])
            generalize look l j j = u at *
            go_wp2_with (at_builtin; refine wpList_push rfl _ _ 24 rfl 3 (.int .i64 0) 8 Try.underlying24 Try.infoI rfl w.heap.size wr (.int .i64 u) (.slice va j vc) j (ints (numS l j).1) HO.out rfl rfl rfl (by unfold maxLen; omega) (by omega) HB.out.size ?_; intro v' w4 hown hbp _; have HO4 := Lib.hid hown; have BP := Lib.hid hbp; clear hown hbp)
            go_roundw
            case rel => exact ⟨j + 1, q, v', by omega, by go_num, rfl, rfl, by omega, Lib.hid (by rw [HE.out]; exact HQ.out), Lib.hid (by rw [HE.out, ints_app]; exact HO4.out), Lib.hid (HB.out.trans BP.out)⟩
            case measure => simp [intOf]; omega
    · obtain rfl : k = l.length := by omega
      go_wp2
      go_ret
      have h := HO.out
      rw [HND.out] at h
      exact ⟨_, rfl, Ro.of_own h, HB.out⟩

/-- what NumberBlocks answers -/
def nbL (l : List Int) : List Int := if 16 < l.length then [] else num l
theorem IntsAns.nil {w w' : World} (h : Below w.heap.size w w') : IntsAns w [] (.returned (.slice none 0 0)) w' := ⟨_, rfl, Ro.nil _ _ _ _, h⟩
theorem IntsAns.later {w w1 w' : World} {l : List Int} {e : Ending} (hb : Below w.heap.size w w1) (h : IntsAns w1 l e w') : IntsAns w l e w' := by
  obtain ⟨v, he, ho, hb'⟩ := h
  exact ⟨v, he, ho.wide hb.size (Nat.le_refl _), hb.trans (hb'.mono hb.size)⟩

end Go.Proofs.Ytodjohdbngbpaaa

/-
  Contracts of spec.TellFact and impl.TellFact. No condition.
-/
namespace Go.Proofs.Ytodjohdbngbpaaa
open Go.RowKit Go.WideShapes
open Go Go.Deep
set_option linter.unusedSimpArgs false

/-- what TellFact answers -/
def tellR (m : Md) (a f : Int) : Option Md := if mdOk m && inB a m.blocks.length && inB f 4 then some (tellM m a.toNat f.toNat) else none
theorem inB_parts {x n : Int} (h : inB x n = true) : 0 ≤ x ∧ x < n := of_decide_eq_true h
theorem inB_not {x n : Int} (h : inB x n = false) : x < 0 ∨ n ≤ x := by
  have := of_decide_eq_false h; omega
/-- a row of rows is replaced by one that lies behind them -/
theorem Ioo.put {lo h1 h2 : Nat} {w : World} {pb n cap a : Nat} {vs : List Value} {ll : List (List Int)} {u : Value} {l : List Int} (hb : Ioo lo h1 w (.slice (some ⟨pb, 0, none⟩) n cap) vs ll) (hu : Io h1 h2 w u l) (ha : a < ll.length) (h12 : h1 ≤ h2) :
    Ioo lo h2 (w.setCell ⟨pb, a, none⟩ u) (.slice (some ⟨pb, 0, none⟩) n cap) (vs.set a u) (ll.set a l) ∧ w.grownBy (w.setCell ⟨pb, a, none⟩ u) (some pb) := by
  obtain ⟨r1, r2, r3⟩ := hb
  have hn : n = vs.length := by
    rcases r1.1.2 with ⟨e, _⟩ | ⟨g, c, cur, e, _⟩
    · cases e
    · cases e; rfl
  subst hn
  have st := r1.1.stored a u
  have hpb : pb < h1 := r1.2 pb rfl
  have hub : ∀ k, u.ownBlock = some k → h1 ≤ k := fun k hk => (hu.1.lt k hk).1
  refine ⟨⟨⟨by rw [List.length_set]; exact st.1, fun k hk => by have := r1.2 k hk; omega⟩, ⟨by rw [List.length_set, List.length_set]; exact r2.1, fun j hj => ?_⟩, ?_⟩, st.2⟩
  · rw [List.length_set] at hj
    by_cases e : j = a
    · subst e
      rw [set_getD_same (by rw [r2.1]; exact hj), set_getD_same hj]
      exact (hu.keeps (Keeps.setCell w pb j u (.inl hpb))).wide (by have := (r1.1.lt pb rfl).1; omega) (Nat.le_refl _)
    · rw [set_getD_ne e, set_getD_ne e]
      have hmem : vs.getD j (.bool false) ∈ vs := by
        rw [List.getD_eq_getElem?_getD, List.getElem?_eq_getElem (by rw [r2.1]; exact hj)]
        exact List.getElem_mem _
      exact Ro.wide ((r2.2 j hj).keptBy st.2 (apart_symm ((List.pairwise_cons.1 r3).1 _ hmem))) (Nat.le_refl _) h12
  · have hvb : ∀ x ∈ vs, apart x u := fun x hx => apart_lt (B := h1) (fun k hk => (Rows'.blk r2 hx k hk).2.1) hub
    have hbu : apart (.slice (some ⟨pb, 0, none⟩) vs.length cap) u := apart_lt (B := h1) (fun k hk => r1.2 k hk) hub
    obtain ⟨p1, p2⟩ := List.pairwise_cons.1 r3
    refine List.pairwise_cons.2 ⟨fun x hx => ?_, ?_⟩
    · rcases List.mem_or_eq_of_mem_set hx with hx | rfl
      · exact p1 x hx
      · exact hbu
    · rw [List.pairwise_iff_getElem] at p2 ⊢
      intro i j hi hj hij
      rw [List.length_set] at hi hj
      rw [List.getElem_set, List.getElem_set]
      by_cases e1 : a = i
      · rw [if_pos e1, if_neg (by omega)]
        exact apart_symm (hvb _ (List.getElem_mem _))
      · rw [if_neg e1]
        by_cases e2 : a = j
        · rw [if_pos e2]; exact hvb _ (List.getElem_mem _)
        · rw [if_neg e2]; exact p2 i j hi hj hij

theorem tot_bd : ∀ (ll : List (List Int)), (∀ l ∈ ll, l.length ≤ 16) → tot ll ≤ 16 * ll.length
  | [], _ => by simp [tot]
  | l :: ll, h => by
    have h1 := h l (List.mem_cons_self ..)
    have h2 := tot_bd ll (fun x hx => h x (List.mem_cons_of_mem _ hx))
    rw [tot, List.length_cons]; omega
theorem fits_size {m : Md} (h : fits m) : msize m + m.blocks.length ≤ 1048576 := by
  have h1 := tot_bd m.blocks (fun l hl => by
    obtain ⟨j, hj, rfl⟩ := List.getElem_of_mem hl
    have := h.2.2 j hj
    rw [List.getD_eq_getElem?_getD, List.getElem?_eq_getElem hj] at this
    simp only [Option.getD_some] at this
    have := h.1; omega)
  have h2 := h.1
  have h3 := h.2.1
  unfold msize
  omega
theorem tell_size (m : Md) (a f : Int) : msize ((tellR m a f).getD ⟨[], [], 0⟩) + ((tellR m a f).getD ⟨[], [], 0⟩).blocks.length ≤ 1048576 := by
  unfold tellR
  split
  · rename_i h
    simp only [Bool.and_eq_true] at h
    obtain ⟨⟨h1, h2⟩, h3⟩ := h
    have := inB_parts h2
    exact fits_size (tell_fits (md_fits h1) _ _ (by omega))
  · decide
set_option maxRecDepth 100000 in
set_option maxHeartbeats 16000000 in
theorem implTell_any (lo hi : Nat) (v : Value) (m : Md) (a f : Int) (w : World) (hr : Mv lo hi w v m) (hhi : hi ≤ w.heap.size) :
    Calls Try.prog 10 #[v, .int .i64 a, .int .i64 f] w (MdAns2 w (tellR m a f)) := by
  have KG := Lib.hid (fun W (h : Below w.heap.size w W) => gridOf_any lo hi v m W (hr.keeps (Keeps.of_all h)) (Nat.le_trans hhi h.size))
  have HR : Hid (tellR m a f = if mdOk m && inB a m.blocks.length && inB f 4 then some (tellM m a.toNat f.toNat) else none) := Lib.hid rfl
  generalize tellR m a f = R at *
  obtain ⟨fv, bv, rfl, hf, hb⟩ := hr
  clear hf hb hhi
  cases hm : mdOk m with
  | false =>
    simp only [hm, Bool.false_eq_true, if_false] at KG
    have HR' : Hid (R = none) := Lib.hid (by rw [HR.out, hm]; rfl)
    clear HR hm
    unfold GdAns at KG
    simp only [Option.getD_none, Option.isSome_none] at KG
    have HLG : Hid ((ints (gL 0 0 [] [] 0)).length = 67) := Lib.hid rfl
    have HLO := Lib.hid (fun v (hv : v ∈ ints (gL 0 0 [] [] 0)) => ints_one hv)
    obtain ⟨G, hG⟩ : ∃ G, G = gL 0 0 [] [] 0 := ⟨_, rfl⟩
    rw [← hG] at KG HLG HLO
    clear hG
    go_enter Try.func10, Try.ntmps10
    go_wp2_with fail
    refine (KG.out _ (by go_grown)).mono ?_
    rintro e w1 ⟨rfl, hb1⟩
    have M1 := Lib.hid (Mcell.below (b := w.heap.size + 1) (Mcell.new (by simp)) hb1)
    have B1 : Hid (Below w.heap.size w w1) := Lib.hid (Below.trans (by go_grown) (hb1.mono (by simp; omega)))
    clear hb1
    go_wp2_with
      (first
        | (refine wpList_allocM rfl 60 rfl (ints (gL 0 0 [] [] 0)) Try.allocGrid ?_
           intro w2 hc2 hb2 hs2
           have CC := Lib.hid hc2
           have BB : Hid (Below w.heap.size w w2) := Lib.hid (B1.out.trans (hb2.mono B1.out.size))
           have MM := Lib.hid (M1.out.below hb2)
           have hgb : w.heap.size + 1 < w1.heap.size := M1.out.lt
           clear hc2 hb2 hs2 M1)
        | (refine wpList_storeM rfl 60 _ _ rfl w1.heap.size 0 rfl (ints G) rfl 60 (ints (gL 0 0 [] [] 0)) CC.out (by rw [HLG.out]; exact Nat.le_refl _) (by rw [HLG.out]; exact Try.sizeGrid) HLO.out ?_
           intro w3 hc3 ha3
           rw [lay'_all (by rw [HLG.out]; rfl)] at hc3
           have CC := Lib.hid hc3
           have BB : Hid (Below w.heap.size w w3) := Lib.hid (BB.out.trans (ha3.below B1.out.size))
           have MM := Lib.hid (MM.out.of_block (ha3.block _ (by omega)))
           obtain ⟨mc0, mc1, mc2, mc3, mc4, mc5⟩ := MM.out
           clear hc3 ha3))
    clear mc0 mc1 mc2 mc3 mc4 mc5
    have M6 := MM.out.write (.slice none 0 0) (.slice none 0 0) 0
    refine bodyPost_ret (results_mid2 Try.results10 _ _ (w.heap.size + 1) _ _ (.bool false) rfl rfl M6.range Try.underlying27 rfl Try.sizeMd) rfl ?_
    rw [HR'.out]
    exact ⟨_, rfl, Mo.none _ _ _, ((BB.out.setCell (by show _ ≤ w.heap.size + 1; omega) _).setCell (by show _ ≤ w.heap.size + 1; omega) _).setCell (by show _ ≤ w.heap.size + 1; omega) _⟩
  | true =>
    have HMD := Lib.hid hm
    simp only [hm, if_true] at KG
    have hs := md_small hm
    have HFT := Lib.hid (md_fits hm)
    have HP := Lib.hid (mdOk_parts hm)
    rw [hm] at HR
    clear hm
    unfold GdAns at KG
    simp only [Option.getD_some, Option.isSome_some] at KG
    unfold gOf at KG
    have HLG : Hid ((ints (gL m.facts.length m.blocks.length m.facts m.blocks m.actual)).length = 67) := Lib.hid (by rw [ints_len]; exact gL_len hs)
    have HLO := Lib.hid (fun v (hv : v ∈ ints (gL m.facts.length m.blocks.length m.facts m.blocks m.actual)) => ints_one hv)
    have KW := Lib.hid (fun W => hasAgent_any m.facts.length m.blocks.length m.actual m.facts m.blocks a W)
    have KTD := Lib.hid (fun a f ha hf W => told_any m a f HMD.out ha hf W)
    have KM : Hid (∀ a f, a < m.blocks.length → ∀ W, Calls Try.prog 33 #[.agg (ints (gL m.facts.length m.blocks.length m.facts (tellM m a f).blocks m.actual)).toArray] W (MdAns W (tellM m a f))) := Lib.hid (fun a f ha W => by
      have h := gridModel_any (tellM m a f) (tell_fits HFT.out a f ha) W
      rw [show (tellM m a f).blocks.length = m.blocks.length by simp [tellM]] at h
      exact h)
    generalize gL m.facts.length m.blocks.length m.facts m.blocks m.actual = G at *
    clear hs HFT HP HMD
    cases ha : inB a m.blocks.length with
    | false =>
      rw [ha] at KW HR
      have HR' : Hid (R = none) := Lib.hid (by rw [HR.out]; rfl)
      clear HR ha KM KTD
      go_enter Try.func10, Try.ntmps10
      go_wp2_with fail
      refine (KG.out _ (by go_grown)).mono ?_
      rintro e w1 ⟨rfl, hb1⟩
      have M1 := Lib.hid (Mcell.below (b := w.heap.size + 1) (Mcell.new (by simp)) hb1)
      have B1 : Hid (Below w.heap.size w w1) := Lib.hid (Below.trans (by go_grown) (hb1.mono (by simp; omega)))
      clear hb1
      go_wp2_with
        (first
          | (refine wpList_allocM rfl 60 rfl (ints (gL 0 0 [] [] 0)) Try.allocGrid ?_
             intro w2 hc2 hb2 hs2
             have CC := Lib.hid hc2
             have BB : Hid (Below w.heap.size w w2) := Lib.hid (B1.out.trans (hb2.mono B1.out.size))
             have MM := Lib.hid (M1.out.below hb2)
             have hgb : w.heap.size + 1 < w1.heap.size := M1.out.lt
             clear hc2 hb2 hs2 M1)
          | (refine wpList_storeM rfl 60 _ _ rfl w1.heap.size 0 rfl (ints G) rfl 60 (ints (gL 0 0 [] [] 0)) CC.out (by rw [HLG.out]; exact Nat.le_refl _) (by rw [HLG.out]; exact Try.sizeGrid) HLO.out ?_
             intro w3 hc3 ha3
             rw [lay'_all (by rw [HLG.out]; rfl)] at hc3
             have CC := Lib.hid hc3
             have BB : Hid (Below w.heap.size w w3) := Lib.hid (BB.out.trans (ha3.below B1.out.size))
             have MM := Lib.hid (MM.out.of_block (ha3.block _ (by omega)))
             obtain ⟨mc0, mc1, mc2, mc3, mc4, mc5⟩ := MM.out
             clear hc3 ha3)
          | (refine wpList_loadMG rfl (by rfl) 60 _ rfl w1.heap.size 0 rfl 60 (ints G) (ints G) CC.out (fun j _ => by rw [Nat.zero_add]) _ Try.underlying60 rfl (by rw [HLG.out]; exact Try.sizeGrid) ?_)
          | (go_at_call 37; (with_reducible refine (KW.out _).mono ?_); rintro e w4 ⟨rfl, hb4⟩; clear mc0 mc1 mc2 mc3 mc4 mc5; have CC := Lib.hid (CC.out.all hb4); have MM := Lib.hid (MM.out.below hb4); have BB : Hid (Below w.heap.size w w4) := Lib.hid (BB.out.trans (hb4.mono BB.out.size)); obtain ⟨mc0, mc1, mc2, mc3, mc4, mc5⟩ := MM.out; clear hb4))
      clear mc0 mc1 mc2 mc3 mc4 mc5
      have M6 := MM.out.write (.slice none 0 0) (.slice none 0 0) 0
      refine bodyPost_ret (results_mid2 Try.results10 _ _ (w.heap.size + 1) _ _ (.bool false) rfl rfl M6.range Try.underlying27 rfl Try.sizeMd) rfl ?_
      rw [HR'.out]
      exact ⟨_, rfl, Mo.none _ _ _, ((BB.out.setCell (by show _ ≤ w.heap.size + 1; omega) _).setCell (by show _ ≤ w.heap.size + 1; omega) _).setCell (by show _ ≤ w.heap.size + 1; omega) _⟩
    | true =>
      rw [ha] at KW HR
      obtain ⟨a0, a1⟩ := inB_parts ha
      cases hf : inB f 4 with
      | false =>
        rw [hf] at HR
        have HR' : Hid (R = none) := Lib.hid (by rw [HR.out]; rfl)
        have hf' := inB_not hf
        clear HR ha hf KM KTD
        rcases hf' with hf' | hf'
        all_goals
          go_enter Try.func10, Try.ntmps10
          go_wp2_with fail
          refine (KG.out _ (by go_grown)).mono ?_
          rintro e w1 ⟨rfl, hb1⟩
          have M1 := Lib.hid (Mcell.below (b := w.heap.size + 1) (Mcell.new (by simp)) hb1)
          have B1 : Hid (Below w.heap.size w w1) := Lib.hid (Below.trans (by go_grown) (hb1.mono (by simp; omega)))
          clear hb1
          go_wp2_with
            (first
              | (refine wpList_allocM rfl 60 rfl (ints (gL 0 0 [] [] 0)) Try.allocGrid ?_
                 intro w2 hc2 hb2 hs2
                 have CC := Lib.hid hc2
                 have BB : Hid (Below w.heap.size w w2) := Lib.hid (B1.out.trans (hb2.mono B1.out.size))
                 have MM := Lib.hid (M1.out.below hb2)
                 have hgb : w.heap.size + 1 < w1.heap.size := M1.out.lt
                 clear hc2 hb2 hs2 M1)
              | (refine wpList_storeM rfl 60 _ _ rfl w1.heap.size 0 rfl (ints G) rfl 60 (ints (gL 0 0 [] [] 0)) CC.out (by rw [HLG.out]; exact Nat.le_refl _) (by rw [HLG.out]; exact Try.sizeGrid) HLO.out ?_
                 intro w3 hc3 ha3
                 rw [lay'_all (by rw [HLG.out]; rfl)] at hc3
                 have CC := Lib.hid hc3
                 have BB : Hid (Below w.heap.size w w3) := Lib.hid (BB.out.trans (ha3.below B1.out.size))
                 have MM := Lib.hid (MM.out.of_block (ha3.block _ (by omega)))
                 obtain ⟨mc0, mc1, mc2, mc3, mc4, mc5⟩ := MM.out
                 clear hc3 ha3)
              | (refine wpList_loadMG rfl (by rfl) 60 _ rfl w1.heap.size 0 rfl 60 (ints G) (ints G) CC.out (fun j _ => by rw [Nat.zero_add]) _ Try.underlying60 rfl (by rw [HLG.out]; exact Try.sizeGrid) ?_)
              | (go_at_call 37; (with_reducible refine (KW.out _).mono ?_); rintro e w4 ⟨rfl, hb4⟩; clear mc0 mc1 mc2 mc3 mc4 mc5; have CC := Lib.hid (CC.out.all hb4); have MM := Lib.hid (MM.out.below hb4); have BB : Hid (Below w.heap.size w w4) := Lib.hid (BB.out.trans (hb4.mono BB.out.size)); obtain ⟨mc0, mc1, mc2, mc3, mc4, mc5⟩ := MM.out; clear hb4))
          clear mc0 mc1 mc2 mc3 mc4 mc5
          have M6 := MM.out.write (.slice none 0 0) (.slice none 0 0) 0
          refine bodyPost_ret (results_mid2 Try.results10 _ _ (w.heap.size + 1) _ _ (.bool false) rfl rfl M6.range Try.underlying27 rfl Try.sizeMd) rfl ?_
          rw [HR'.out]
          exact ⟨_, rfl, Mo.none _ _ _, ((BB.out.setCell (by show _ ≤ w.heap.size + 1; omega) _).setCell (by show _ ≤ w.heap.size + 1; omega) _).setCell (by show _ ≤ w.heap.size + 1; omega) _⟩
      | true =>
        rw [hf] at HR
        have HR' : Hid (R = some (tellM m a.toNat f.toNat)) := Lib.hid (by rw [HR.out]; rfl)
        obtain ⟨f0, f1⟩ := inB_parts hf
        clear HR ha hf
        obtain ⟨a, rfl⟩ := Int.eq_ofNat_of_zero_le a0
        obtain ⟨f, rfl⟩ := Int.eq_ofNat_of_zero_le f0
        rw [Int.toNat_natCast, Int.toNat_natCast] at HR'
        have ha : a < m.blocks.length := by omega
        have hf : f < 4 := by omega
        have KTD := Lib.hid (KTD.out a f ha hf)
        have KM := Lib.hid (KM.out a f ha)
        go_enter Try.func10, Try.ntmps10
        go_wp2_with fail
        refine (KG.out _ (by go_grown)).mono ?_
        rintro e w1 ⟨rfl, hb1⟩
        have M1 := Lib.hid (Mcell.below (b := w.heap.size + 1) (Mcell.new (by simp)) hb1)
        have B1 : Hid (Below w.heap.size w w1) := Lib.hid (Below.trans (by go_grown) (hb1.mono (by simp; omega)))
        clear hb1
        go_wp2_with
          (first
            | (refine wpList_allocM rfl 60 rfl (ints (gL 0 0 [] [] 0)) Try.allocGrid ?_
               intro w2 hc2 hb2 hs2
               have CC := Lib.hid hc2
               have BB : Hid (Below w.heap.size w w2) := Lib.hid (B1.out.trans (hb2.mono B1.out.size))
               have MM := Lib.hid (M1.out.below hb2)
               have hgb : w.heap.size + 1 < w1.heap.size := M1.out.lt
               clear hc2 hb2 hs2 M1)
            | (refine wpList_storeM rfl 60 _ _ rfl w1.heap.size 0 rfl (ints G) rfl 60 (ints (gL 0 0 [] [] 0)) CC.out (by rw [HLG.out]; exact Nat.le_refl _) (by rw [HLG.out]; exact Try.sizeGrid) HLO.out ?_
               intro w3 hc3 ha3
               rw [lay'_all (by rw [HLG.out]; rfl)] at hc3
               have CC := Lib.hid hc3
               have BB : Hid (Below w.heap.size w w3) := Lib.hid (BB.out.trans (ha3.below B1.out.size))
               have MM := Lib.hid (MM.out.of_block (ha3.block _ (by omega)))
               obtain ⟨mc0, mc1, mc2, mc3, mc4, mc5⟩ := MM.out
               clear hc3 ha3)
            | (refine wpList_loadMG rfl (by rfl) 60 _ rfl w1.heap.size 0 rfl 60 (ints G) (ints G) CC.out (fun j _ => by rw [Nat.zero_add]) _ Try.underlying60 rfl (by rw [HLG.out]; exact Try.sizeGrid) ?_)
            | (go_at_call 37; (with_reducible refine (KW.out _).mono ?_); rintro e w4 ⟨rfl, hb4⟩; clear mc0 mc1 mc2 mc3 mc4 mc5; have CC := Lib.hid (CC.out.all hb4); have MM := Lib.hid (MM.out.below hb4); have BB : Hid (Below w.heap.size w w4) := Lib.hid (BB.out.trans (hb4.mono BB.out.size)); obtain ⟨mc0, mc1, mc2, mc3, mc4, mc5⟩ := MM.out; clear hb4)
            | (refine wpList_loadM rfl 60 _ rfl w1.heap.size 0 rfl 60 (ints G) (ints G) CC.out (fun j _ => by rw [Nat.zero_add]) _ Try.underlying60 rfl (by rw [HLG.out]; exact Try.sizeGrid) ?_))
        clear mc0 mc1 mc2 mc3 mc4 mc5
        refine (KTD.out _).mono ?_
        rintro e w5 ⟨rfl, hb5⟩
        have M5 := Lib.hid (MM.out.below hb5)
        have B5 := Lib.hid (BB.out.trans (hb5.mono BB.out.size))
        clear hb5
        go_wp2_with fail
        refine (KM.out _).mono ?_
        rintro e w6 ⟨v6, rfl, ho6, hb6⟩
        have M6 := Lib.hid (M5.out.below hb6)
        have B6 := Lib.hid (B5.out.trans (hb6.mono B5.out.size))
        have O6 := Lib.hid ho6
        have hz2 : w.heap.size + 1 < w5.heap.size := M5.out.lt
        obtain ⟨qa, qc, pa, pc, e3⟩ := ho6.read.form
        subst e3
        clear ho6 hb6
        obtain ⟨mc0, mc1, mc2, mc3, mc4, mc5⟩ := M6.out
        go_wp2
        clear mc0 mc1 mc2 mc3 mc4 mc5
        obtain ⟨o7, b7, m7⟩ := ans_put (m := tellM m a f) M6.out O6.out hz2 (by omega) (Nat.le_refl _) B6.out
        refine bodyPost_ret (results_mid2 Try.results10 _ _ (w.heap.size + 1) _ _ (.bool true) rfl rfl m7.range Try.underlying27 rfl Try.sizeMd) rfl ?_
        rw [HR'.out]
        exact ⟨_, rfl, o7, b7⟩

end Go.Proofs.Ytodjohdbngbpaaa

/-
  The program's sets of worlds: sixteen bools; contracts of worldSet.list and grid.setOf. No condition.
-/
namespace Go.Proofs.Ytodjohdbngbpaaa
open Go.RowKit Go.WideShapes
open Go Go.Deep
set_option linter.unusedSimpArgs false

/-- the cells of a set -/
def bL (p : Nat → Bool) : List Value := (List.range 16).map fun i => Value.bool (p i)
theorem bL_len (p : Nat → Bool) : (bL p).length = 16 := by simp [bL]
theorem bL_get (p : Nat → Bool) {i : Nat} (h : i < 16) : (bL p)[i]? = some (.bool (p i)) := by
  unfold bL; rw [List.getElem?_map, List.getElem?_range h]; rfl
theorem bL_one {p : Nat → Bool} {v : Value} (h : v ∈ bL p) : v.oneCell' = true := by
  unfold bL at h
  obtain ⟨i, _, rfl⟩ := List.mem_map.1 h
  rfl
def upd (p : Nat → Bool) (i : Nat) (b : Bool) : Nat → Bool := fun j => if j = i then b else p j
theorem bL_set (p : Nat → Bool) {i : Nat} (b : Bool) : (bL p).set i (.bool b) = bL (upd p i b) := by
  apply List.ext_getElem?
  intro j
  rcases Nat.lt_or_ge j 16 with h | h
  · rw [bL_get _ h]
    by_cases e : i = j
    · subst e; rw [List.getElem?_set_self (by rw [bL_len]; exact h)]; simp [upd]
    · rw [List.getElem?_set_ne e, bL_get _ h]; simp [upd, Ne.symm e]
  · rw [List.getElem?_eq_none (by rw [List.length_set, bL_len]; exact h), List.getElem?_eq_none (by rw [bL_len]; exact h)]
theorem bL_congr {p q : Nat → Bool} (h : ∀ i, i < 16 → p i = q i) : bL p = bL q := by
  unfold bL
  exact List.map_congr_left fun i hi => by rw [h i (List.mem_range.1 hi)]
theorem bL_inj {p q : Nat → Bool} (h : bL p = bL q) : ∀ i, i < 16 → p i = q i := by
  intro i hi
  have := congrArg (·[i]?) h
  simp only [bL_get _ hi, Option.some.injEq, Value.bool.injEq] at this
  exact this
/-- the members among the first k, ascending -/
def lst (p : Nat → Bool) (k : Nat) : List Nat := (List.range k).filter p
def nums (l : List Nat) : List Int := l.map fun i => Int.ofNat i
theorem lst_succ (p : Nat → Bool) (k : Nat) : lst p (k + 1) = lst p k ++ (if p k then [k] else []) := by
  unfold lst; rw [List.range_succ, List.filter_append]; cases h : p k <;> simp [h]
theorem lst_len (p : Nat → Bool) (k : Nat) : (lst p k).length ≤ k := by
  have := List.length_filter_le p (List.range k); rw [List.length_range] at this; exact this
theorem nums_len (l : List Nat) : (nums l).length = l.length := by simp [nums]
theorem nums_app (a b : List Nat) : nums (a ++ b) = nums a ++ nums b := by simp [nums]
theorem mem_lst {p : Nat → Bool} {k i : Nat} : i ∈ lst p k ↔ i < k ∧ p i = true := by unfold lst; rw [List.mem_filter, List.mem_range]
theorem lst_congr {p q : Nat → Bool} {k : Nat} (h : ∀ i, i < k → p i = q i) : lst p k = lst q k := List.filter_congr fun i hi => h i (List.mem_range.1 hi)
theorem Try.allocSet (w : World) : (Instr.alloc 74 true (.tuple #[])).run Try.prog w = .ok (.pointer (some ⟨w.heap.size, 0, none⟩)) (w.alloc (.cells (bL (fun _ => false)).toArray 74)) := by kernel_rfl
theorem Try.buildSet (w : World) : (Instr.build 74 #[]).run Try.prog w = .ok (.agg (bL (fun _ => false)).toArray) w := by kernel_rfl
theorem Try.sizeSet : (Try.prog.info? 74).map (·.size) = some 16 := by kernel_rfl
theorem Try.infoB : (Try.prog.info? 4).map (fun i => (i.zero, i.size, i.bytes)) = some (some (.bool false), 1, 1) := by kernel_rfl

set_option maxRecDepth 100000 in
set_option maxHeartbeats 8000000 in
theorem setList_any (p : Nat → Bool) (w : World) :
    Calls Try.prog 41 #[.agg (bL p).toArray] w (IntsAns w (nums (lst p 16))) := by
  obtain ⟨i0, hi, _, hi1, _⟩ := info_parts Try.infoB
  have HX := Lib.hid (fun k (h : k < 16) => bL_get p h)
  have HL := Lib.hid (bL_len p)
  have HLL := Lib.hid (fun k => lst_len p k)
  have HLS := Lib.hid (fun k => lst_succ p k)
  generalize bL p = V at *
  go_enter Try.func41, Try.ntmps41
  go_wp2_with (refine wpList_loadM rfl 74 _ rfl w.heap.size 0 rfl 74 V V (Cm.new rfl) (fun j _ => by rw [Nat.zero_add]) _ Try.underlying74 rfl (by rw [HL.out]; exact Try.sizeSet) ?_)
  have b1 : Below w.heap.size w (w.alloc (.cells V.toArray 74)) := by go_grown
  have z1 : w.heap.size ≤ (w.alloc (.cells V.toArray 74)).heap.size := b1.size
  generalize w.alloc (.cells V.toArray 74) = w1 at *
  have B1 := Lib.hid b1
  clear b1
  go_loopw [3, 7] (fun lv iv wr => ∃ (k : Nat) (lv' : Value), k ≤ 16 ∧ iv = .int .i64 k ∧ lv' = lv ∧ Hid (wr.ownsRow w.heap.size 3 1 lv' (lst p k).length (ints (nums (lst p k)))) ∧ Hid (Below w.heap.size w wr)) (fun _ iv _ => 16 - (intOf iv).toNat)
  case atStart => exact ⟨0, _, Nat.zero_le _, rfl, rfl, Lib.hid (World.ownsRow_nil _ _ _ _), B1⟩
  case round =>
    clear B1 z1
    obtain ⟨k, lv, hk, rfl, rfl, LR, BR⟩ := hrel
    by_cases hlt : k < 16
    · have HK := Lib.hid (HX.out k hlt)
      have HS := Lib.hid (HLS.out k)
      have hlk := HLL.out k
      have hsz : w.heap.size ≤ wr.heap.size := BR.out.size
      have HLB : Hid (∀ q, lv.ownBlock = some q → w.heap.size ≤ q) := Lib.hid (fun q hq => (LR.out.lt q hq).1)
      obtain ⟨b, hb⟩ : ∃ b, b = p k := ⟨_, rfl⟩
      rw [← hb] at HK HS
      clear hb
      cases b with
      | true =>
        go_wp2_with
          (first
            | (refine wpList_indexM rfl 74 (.tmp 6) (.tmp 7) rfl V rfl .i64 k rfl 16 4 Try.underlying74 (by kernel_rfl) i0 hi hi1 hlt _ HK.out ?_)
            | (at_builtin; refine wpList_pushL rfl (.tmp 12) (.tmp 14) 24 15 rfl rfl 3 (.int .i64 0) 8 Try.underlying24 Try.infoI rfl w.heap.size (.int .i64 k) lv (lst p k).length (ints (nums (lst p k))) LR.out rfl wr.heap.size rfl rfl rfl (by unfold maxLen; omega) (by omega) hsz ?_; intro v6 w6 hown hg; have L6 := Lib.hid hown; have B6 : Hid (Below w.heap.size w w6) := Lib.hid (BR.out.trans (hg.below hsz HLB.out)); clear hown hg))
        go_roundw
        case rel =>
          refine ⟨k + 1, _, by omega, by go_num, rfl, Lib.hid ?_, B6⟩
          rw [HS.out, if_pos rfl, nums_app, ints_app, List.length_append]
          exact L6.out
        case measure => simp [intOf]; omega
      | false =>
        go_wp2_with (refine wpList_indexM rfl 74 (.tmp 6) (.tmp 7) rfl V rfl .i64 k rfl 16 4 Try.underlying74 (by kernel_rfl) i0 hi hi1 hlt _ HK.out ?_)
        go_roundw
        case rel =>
          refine ⟨k + 1, _, by omega, by go_num, rfl, Lib.hid ?_, BR⟩
          rw [HS.out, if_neg (by decide), List.append_nil]
          exact LR.out
        case measure => simp [intOf]; omega
    · obtain rfl : k = 16 := by omega
      go_wp2
      go_ret
      exact ⟨_, rfl, Ro.of_own LR.out, BR.out⟩

/-- what an element is held against: the one before it -/
def bef (l : List Int) (k : Nat) : Int := if k = 0 then -1 else l.getD (k - 1) 0
/-- the first k are ascending worlds -/
def okTo (l : List Int) (n : Int) (k : Nat) : Prop := ∀ i, i < k → bef l i < l.getD i 0 ∧ l.getD i 0 < n
instance (l : List Int) (n : Int) (k : Nat) : Decidable (okTo l n k) := by unfold okTo; exact inferInstance
def ascOk (l : List Int) (n : Int) : Bool := decide (okTo l n l.length)
def memP (l : List Int) : Nat → Bool := fun i => decide ((i : Int) ∈ l)
theorem bef_succ (l : List Int) (k : Nat) : bef l (k + 1) = l.getD k 0 := by unfold bef; rw [if_neg (by omega)]; rfl
theorem bef_low {l : List Int} {n : Int} : ∀ {k : Nat}, okTo l n k → -1 ≤ bef l k
  | 0, _ => by unfold bef; simp
  | k + 1, h => by
    have h1 := bef_low (k := k) (fun i hi => h i (by omega))
    have h2 := h k (by omega)
    rw [bef_succ]; omega
theorem okTo_succ {l : List Int} {n : Int} {k : Nat} (h : okTo l n k) (h1 : bef l k < l.getD k 0) (h2 : l.getD k 0 < n) : okTo l n (k + 1) := by
  intro i hi
  rcases Nat.lt_or_eq_of_le (Nat.le_of_lt_succ hi) with h3 | h3
  · exact h i h3
  · subst h3; exact ⟨h1, h2⟩
theorem ascOk_no {l : List Int} {n : Int} {k : Nat} (hk : k < l.length) (h : ¬ (bef l k < l.getD k 0 ∧ l.getD k 0 < n)) : ascOk l n = false :=
  decide_eq_false fun e => h (e k hk)
theorem memP_succ {l : List Int} {k x : Nat} (hk : k < l.length) (hx : l.getD k 0 = x) : upd (memP (l.take k)) x true = memP (l.take (k + 1)) := by
  funext j
  unfold upd memP
  rw [take_snocI hk, hx]
  by_cases e : j = x
  · subst e; simp
  · have e' : ¬ ((j : Int) = (x : Int)) := by omega
    simp [e, e']
theorem set_store (p : Nat → Bool) {i : Nat} (h : i < 16) {w : World} {b : Nat} {T : TypeId} (hc : Cm w b T (bL p)) : w.cell? ⟨b, i, none⟩ = some (.bool (p i)) := by rw [hc.cell, bL_get _ h]
/-- what setOf answers -/
def SoAns (w : World) (ok : Bool) (p : Nat → Bool) (e : Ending) (w' : World) : Prop := e = .returned (.tuple #[.agg (bL p).toArray, .bool ok]) ∧ Below w.heap.size w w'

end Go.Proofs.Ytodjohdbngbpaaa

/-
  The model of some worlds of a model, in mathematics, and the contract of grid.restricted. Condition: the model is valid.
-/
namespace Go.Proofs.Ytodjohdbngbpaaa
open Go.RowKit Go.WideShapes
open Go Go.Deep
set_option linter.unusedSimpArgs false

/-- the elements of a row at some worlds -/
def pick (b : List Int) (ws : List Nat) : List Int := ws.map fun w => b.getD w 0
theorem pick_len (b : List Int) (ws : List Nat) : (pick b ws).length = ws.length := by simp [pick]
theorem pick_app (b : List Int) (u v : List Nat) : pick b (u ++ v) = pick b u ++ pick b v := by simp [pick]
def rawRows (m : Md) (ws : List Nat) : List (List Int) := m.blocks.map fun b => pick b ws
theorem rawRows_len (m : Md) (ws : List Nat) : (rawRows m ws).length = m.blocks.length := by simp [rawRows]
theorem rawRows_get (m : Md) (ws : List Nat) {k : Nat} (h : k < m.blocks.length) : (rawRows m ws).getD k [] = pick (m.blocks.getD k []) ws := by
  unfold rawRows
  rw [List.getD_eq_getElem?_getD, List.getElem?_map, List.getD_eq_getElem?_getD, List.getElem?_eq_getElem h]; rfl
/-- the place of the actual world; 0 if it is not there -/
def actIn (a : Int) (ws : List Nat) : Int := if (nums ws).contains a then ((nums ws).idxOf a : Nat) else 0
def restM (m : Md) (ws : List Nat) : Md := ⟨pick m.facts ws, (rawRows m ws).map num, actIn m.actual ws⟩
theorem take_snocN {ws : List Nat} {k : Nat} (h : k < ws.length) : ws.take (k + 1) = ws.take k ++ [ws[k]] := by
  rw [List.take_add_one, List.getElem?_eq_getElem h]; rfl
/-- rows of which the first j have been given one element more -/
def mix (m : Md) (ws : List Nat) (k j : Nat) : List (List Int) := (rawRows m (ws.take (k + 1))).take j ++ (rawRows m (ws.take k)).drop j
theorem mix_0 (m : Md) (ws : List Nat) (k : Nat) : mix m ws k 0 = rawRows m (ws.take k) := by simp [mix]
theorem mix_end (m : Md) (ws : List Nat) (k : Nat) : mix m ws k m.blocks.length = rawRows m (ws.take (k + 1)) := by
  unfold mix
  rw [List.take_of_length_le (by rw [rawRows_len]; exact Nat.le_refl _), List.drop_of_length_le (by rw [rawRows_len]; exact Nat.le_refl _), List.append_nil]
theorem mix_get (m : Md) (ws : List Nat) {k j : Nat} (h : j < m.blocks.length) : (mix m ws k j).getD j [] = pick (m.blocks.getD j []) (ws.take k) := by
  unfold mix
  have hl : ((rawRows m (ws.take (k + 1))).take j).length = j := by rw [List.length_take, rawRows_len]; omega
  rw [List.getD_eq_getElem?_getD, List.getElem?_append_right (by omega), hl, Nat.sub_self, List.getElem?_drop, Nat.add_zero, ← List.getD_eq_getElem?_getD, rawRows_get m _ h]
theorem mix_len (m : Md) (ws : List Nat) (k : Nat) {j : Nat} (h : j ≤ m.blocks.length) : (mix m ws k j).length = m.blocks.length := by
  unfold mix
  rw [List.length_append, List.length_take, List.length_drop, rawRows_len, rawRows_len]; omega
theorem mix_set (m : Md) (ws : List Nat) {k j : Nat} (hk : k < ws.length) (h : j < m.blocks.length) : (mix m ws k j).set j (pick (m.blocks.getD j []) (ws.take k) ++ [(m.blocks.getD j []).getD ws[k] 0]) = mix m ws k (j + 1) := by
  have e : pick (m.blocks.getD j []) (ws.take k) ++ [(m.blocks.getD j []).getD ws[k] 0] = (rawRows m (ws.take (k + 1))).getD j [] := by
    rw [rawRows_get m _ h, take_snocN hk, pick_app]; rfl
  rw [e]
  unfold mix
  have hl : ((rawRows m (ws.take (k + 1))).take j).length = j := by rw [List.length_take, rawRows_len]; omega
  have hd : j < (rawRows m (ws.take k)).length := by rw [rawRows_len]; exact h
  have hd2 : j < (rawRows m (ws.take (k + 1))).length := by rw [rawRows_len]; exact h
  generalize rawRows m (ws.take (k + 1)) = A at *
  generalize rawRows m (ws.take k) = B at *
  rw [List.set_append_right _ _ (by omega), hl, Nat.sub_self, List.drop_eq_getElem_cons hd, List.set_cons_zero, List.getD_eq_getElem?_getD, List.getElem?_eq_getElem hd2]
  simp only [Option.getD_some]
  rw [List.take_succ_eq_append_getElem hd2, List.append_assoc]; rfl
/-- rows of which the first j have been numbered -/
def nmix (rows : List (List Int)) (j : Nat) : List (List Int) := (rows.map num).take j ++ rows.drop j
theorem nmix_0 (rows : List (List Int)) : nmix rows 0 = rows := by simp [nmix]
theorem nmix_end (rows : List (List Int)) : nmix rows rows.length = rows.map num := by
  unfold nmix
  rw [List.take_of_length_le (by simp), List.drop_of_length_le (Nat.le_refl _), List.append_nil]
theorem nmix_get (rows : List (List Int)) {j : Nat} (h : j < rows.length) : (nmix rows j).getD j [] = rows.getD j [] := by
  unfold nmix
  have hl : ((rows.map num).take j).length = j := by rw [List.length_take, List.length_map]; omega
  rw [List.getD_eq_getElem?_getD, List.getElem?_append_right (by omega), hl, Nat.sub_self, List.getElem?_drop, Nat.add_zero, ← List.getD_eq_getElem?_getD]
theorem nmix_succ (rows : List (List Int)) {j : Nat} (h : j < rows.length) : (nmix rows (j + 1)).getD j [] = num (rows.getD j []) := by
  unfold nmix
  rw [List.getD_eq_getElem?_getD, List.getElem?_append_left (by rw [List.length_take, List.length_map]; omega), List.getElem?_take_of_lt (by omega), List.getElem?_map, List.getD_eq_getElem?_getD, List.getElem?_eq_getElem h]; rfl
theorem nmix_other (rows : List (List Int)) {i j : Nat} (h : j < rows.length) (e : i ≠ j) : (nmix rows (j + 1)).getD i [] = (nmix rows j).getD i [] := by
  unfold nmix
  have hl : ((rows.map num).take j).length = j := by rw [List.length_take, List.length_map]; omega
  have hl1 : ((rows.map num).take (j + 1)).length = j + 1 := by rw [List.length_take, List.length_map]; omega
  rw [List.getD_eq_getElem?_getD, List.getD_eq_getElem?_getD]
  rcases Nat.lt_or_ge i j with hi | hi
  · rw [List.getElem?_append_left (by omega), List.getElem?_append_left (by omega), List.getElem?_take_of_lt (by omega), List.getElem?_take_of_lt hi]
  · rw [List.getElem?_append_right (by omega), List.getElem?_append_right (by omega), hl, hl1, List.getElem?_drop, List.getElem?_drop]
    congr 2; omega
/-- a grid's cell is set -/
theorem gL_set0 {n a c x : Int} {f : List Int} {rows : List (List Int)} : (ints (gL n a f rows c)).set 0 (.int .i64 x) = ints (gL x a f rows c) := rfl
theorem gL_setr {n a c x : Int} {f : List Int} {rows : List (List Int)} {j k : Nat} (hs : small f rows) (hj : j < 3) (hjr : j < rows.length) (hk : (rows.getD j []).length = k) (hk16 : k < 16) :
    (ints (gL n a f rows c)).set (18 + j * 16 + k) (.int .i64 x) = ints (gL n a f (rows.set j (rows.getD j [] ++ [x])) c) := by
  have hps := pad_set (l := rows.getD j []) (x := x) (by omega)
  rw [hk] at hps
  rw [ints_set, ← gL_set (n := n) (a := a) (c := c) (rows := rows) (rows' := rows.set j (rows.getD j [] ++ [x])) (r := rows.getD j [] ++ [x]) (k := j) hs (by rw [List.length_append, hk]; simp; omega) hj (set_getD_same hjr) (fun i hi => set_getD_ne hi), ← hps]
  have hl := gL_len (n := n) (a := a) (c := c) hs
  have hpl : ((pad (rows.getD j [])).set k x).length = 16 := by rw [List.length_set, pad_len (hs.2 j)]
  rw [lay'_eq _ _ _ (by rw [ints_len, ints_len, hpl, hl]; omega)]
  apply List.ext_getElem?
  intro i
  rw [ints_get]
  have hlt : ((ints (gL n a f rows c)).take (18 + j * 16)).length = 18 + j * 16 := by rw [List.length_take, ints_len, hl]; omega
  rcases Nat.lt_or_ge i (18 + j * 16) with h1 | h1
  · rw [List.getElem?_set_ne (by omega), List.append_assoc, List.getElem?_append_left (by omega), List.getElem?_take_of_lt h1, ints_get]
  · rcases Nat.lt_or_ge i (18 + j * 16 + 16) with h2 | h2
    · rw [List.append_assoc, List.getElem?_append_right (by omega), hlt, List.getElem?_append_left (by rw [ints_len, hpl]; omega), ints_get]
      obtain ⟨t, rfl⟩ : ∃ t, i = 18 + j * 16 + t := ⟨i - (18 + j * 16), by omega⟩
      rw [Nat.add_sub_cancel_left]
      by_cases e : k = t
      · subst e
        rw [List.getElem?_set_self (by omega), List.getElem?_set_self (by rw [pad_len (hs.2 j)]; omega)]
      · rw [List.getElem?_set_ne (by omega), List.getElem?_set_ne e, gL_r hs hj (by omega)]
    · rw [List.getElem?_set_ne (by omega), List.getElem?_append_right (by rw [List.length_append, hlt, ints_len, hpl]; omega), List.length_append, hlt, ints_len, hpl, List.getElem?_drop, ints_get]
      congr 2; omega
theorem raw_small {m : Md} (ws : List Nat) (f : List Int) (hw : ws.length ≤ 16) (hf : f.length ≤ 16) : small f (rawRows m ws) := by
  refine ⟨hf, fun k => ?_⟩
  rcases Nat.lt_or_ge k m.blocks.length with h | h
  · rw [rawRows_get m ws h, pick_len]; exact hw
  · rw [List.getD_eq_getElem?_getD, List.getElem?_eq_none (by rw [rawRows_len]; exact h)]; simp
theorem mix_small {m : Md} (ws : List Nat) (f : List Int) {k j : Nat} (hj : j ≤ m.blocks.length) (hw : ws.length ≤ 16) (hf : f.length ≤ 16) : small f (mix m ws k j) := by
  refine ⟨hf, fun i => ?_⟩
  have ha : ∀ i, ((rawRows m (ws.take (k + 1))).getD i []).length ≤ 16 := (raw_small (m := m) (ws.take (k + 1)) f (by rw [List.length_take]; omega) hf).2
  have hb : ∀ i, ((rawRows m (ws.take k)).getD i []).length ≤ 16 := (raw_small (m := m) (ws.take k) f (by rw [List.length_take]; omega) hf).2
  unfold mix
  have hl : ((rawRows m (ws.take (k + 1))).take j).length = j := by rw [List.length_take, rawRows_len]; omega
  rw [List.getD_eq_getElem?_getD]
  rcases Nat.lt_or_ge i j with hi | hi
  · rw [List.getElem?_append_left (by omega), List.getElem?_take_of_lt hi, ← List.getD_eq_getElem?_getD]; exact ha i
  · rw [List.getElem?_append_right (by omega), hl, List.getElem?_drop, ← List.getD_eq_getElem?_getD]; exact hb _
theorem nmix_small (rows : List (List Int)) (f : List Int) (j : Nat) (h : small f rows) : small f (nmix rows j) := by
  refine ⟨h.1, fun i => ?_⟩
  unfold nmix
  rw [List.getD_eq_getElem?_getD]
  rcases Nat.lt_or_ge i ((rows.map num).take j).length with hi | hi
  · rw [List.getElem?_append_left hi]
    have hi' : i < j ∧ i < rows.length := by rw [List.length_take, List.length_map] at hi; omega
    rw [List.getElem?_take_of_lt hi'.1, List.getElem?_map]
    have := h.2 i
    rw [List.getD_eq_getElem?_getD] at this
    rw [List.getElem?_eq_getElem hi'.2] at this ⊢
    simp only [Option.map_some, Option.getD_some] at this ⊢
    rw [num_len]; exact this
  · rw [List.getElem?_append_right hi, List.getElem?_drop, ← List.getD_eq_getElem?_getD]; exact h.2 _

theorem nums_contains {ws : List Nat} {a : Int} : (nums ws).contains a = true ↔ ∃ i ∈ ws, (i : Int) = a := by
  unfold nums
  rw [List.contains_iff_mem, List.mem_map]
  exact Iff.rfl
theorem actIn_succ {a : Int} {ws : List Nat} {k : Nat} (hk : k < ws.length) (hnd : ws.Nodup) : actIn a (ws.take (k + 1)) = if (ws[k] : Int) = a then (k : Int) else actIn a (ws.take k) := by
  have hlk : (nums (ws.take k)).length = k := by rw [nums_len, List.length_take]; omega
  rw [take_snocN hk]
  unfold actIn
  rw [nums_app, List.contains_append]
  by_cases e : (ws[k] : Int) = a
  · rw [if_pos e]
    have hno : (nums (ws.take k)).contains a = false := by
      rw [Bool.eq_false_iff]
      intro h
      obtain ⟨i, hi, he⟩ := nums_contains.1 h
      have hik : i = ws[k] := by omega
      subst hik
      obtain ⟨j, hj, hje⟩ := List.getElem_of_mem hi
      rw [List.length_take] at hj
      rw [List.getElem_take] at hje
      have := (List.getElem_inj hnd).1 hje
      omega
    have hyes : (nums [ws[k]]).contains a = true := nums_contains.2 ⟨ws[k], by simp, e⟩
    have hnm : a ∉ nums (ws.take k) := by rw [← List.contains_iff_mem, hno]; decide
    rw [hno, hyes]
    simp only [Bool.false_or, if_true]
    rw [List.idxOf_append, if_neg hnm, hlk]
    have : (nums [ws[k]]).idxOf a = 0 := by unfold nums; simp only [List.map_cons, List.map_nil]; rw [← e]; simp
    rw [this]; simp
  · rw [if_neg e]
    have hno : (nums [ws[k]]).contains a = false := by
      rw [Bool.eq_false_iff]
      intro h
      obtain ⟨i, hi, he⟩ := nums_contains.1 h
      simp only [List.mem_singleton] at hi
      subst hi
      exact e he
    rw [hno, Bool.or_false]
    cases h : (nums (ws.take k)).contains a with
    | true =>
      simp only [if_true]
      have hm : a ∈ nums (ws.take k) := by rw [← List.contains_iff_mem, h]
      rw [List.idxOf_append, if_pos hm]
    | false => rfl
theorem lst_nodup (p : Nat → Bool) (k : Nat) : (lst p k).Nodup := List.Nodup.sublist List.filter_sublist List.nodup_range
theorem nums_getD {ws : List Nat} {k : Nat} (h : k < ws.length) : (nums ws).getD k 0 = (ws[k] : Int) := by
  unfold nums
  rw [List.getD_eq_getElem?_getD, List.getElem?_map, List.getElem?_eq_getElem h]; rfl

end Go.Proofs.Ytodjohdbngbpaaa

/-
  Slices of bools in memory: what reads as a list of bools (Bv), what is owned (Bo); spec.l03All, spec.l03List. Condition: the length.
-/
namespace Go.Proofs.Ytodjohdbngbpaaa
open Go.RowKit Go.WideShapes
open Go Go.Deep
set_option linter.unusedSimpArgs false

def bools (l : List Bool) : List Value := l.map Value.bool
theorem bools_len (l : List Bool) : (bools l).length = l.length := by simp [bools]
theorem bools_at {l : List Bool} {j : Nat} (h : j < l.length) : (bools l)[j]? = some (.bool (l.getD j false)) := by
  unfold bools; rw [List.getElem?_map, getD_some false h]; rfl
theorem bools_app (l m : List Bool) : bools (l ++ m) = bools l ++ bools m := by simp [bools]
theorem bools_one {l : List Bool} {v : Value} (h : v ∈ bools l) : v.oneCell' = true := by
  unfold bools at h
  obtain ⟨x, _, rfl⟩ := List.mem_map.1 h
  rfl
theorem bools_set (l : List Bool) (j : Nat) (b : Bool) : (bools l).set j (.bool b) = bools (l.set j b) := by unfold bools; rw [List.map_set]
/-- the slice v reads as the bools l -/
def Bv (lo hi : Nat) (w : World) (v : Value) (l : List Bool) : Prop := Rv lo hi w v (bools l)
theorem Bv.keeps {lo hi : Nat} {w w' : World} {v : Value} {l : List Bool} (h : Bv lo hi w v l) (k : Keeps lo hi w w') : Bv lo hi w' v l := Rv.keeps h k
theorem Bv.wide {lo hi lo' hi' : Nat} {w : World} {v : Value} {l : List Bool} (h : Bv lo hi w v l) (h1 : lo' ≤ lo) (h2 : hi ≤ hi') : Bv lo' hi' w v l := Rv.wide h h1 h2
theorem Bv.parts {lo hi : Nat} {w : World} {v : Value} {l : List Bool} (h : Bv lo hi w v l) : ∃ a cap, v = .slice a l.length cap ∧ l.length ≤ cap ∧ cap ≤ maxLen ∧
    ∀ j, j < l.length → ∃ b o, a = some ⟨b, o, none⟩ ∧ lo ≤ b ∧ b < hi ∧ b < w.heap.size ∧ w.cell? ⟨b, o + j, none⟩ = some (.bool (l.getD j false)) := by
  obtain ⟨a, cap, rfl, h1, h2, h3⟩ := h
  rw [bools_len] at *
  refine ⟨a, cap, rfl, h1, h2, fun j hj => ?_⟩
  rcases h3 with h3 | ⟨b, o, rfl, hl, hh, hlt, h3⟩
  · have := congrArg List.length h3; rw [bools_len] at this; simp at this; subst this; simp at hj
  · exact ⟨b, o, rfl, hl, hh, hlt, h3 j _ (bools_at hj)⟩
theorem Bv.form {lo hi : Nat} {w : World} {v : Value} {l : List Bool} (h : Bv lo hi w v l) : ∃ a c, v = .slice a l.length c := by
  obtain ⟨a, c, e, _⟩ := h.parts
  exact ⟨a, c, e⟩
/-- the cells, when the length is not 0 -/
theorem Bv.cells {lo hi : Nat} {w : World} {v : Value} {l : List Bool} (h : Bv lo hi w v l) (h0 : 0 < l.length) : ∃ b o c, v = .slice (some ⟨b, o, none⟩) l.length c ∧ l.length ≤ c ∧ c ≤ maxLen ∧ lo ≤ b ∧ b < hi ∧ b < w.heap.size ∧ ∀ j, j < l.length → w.cell? ⟨b, o + j, none⟩ = some (.bool (l.getD j false)) := by
  obtain ⟨a, c, rfl, h1, h2, h3⟩ := h.parts
  obtain ⟨b, o, rfl, q1, q2, q3, _⟩ := h3 0 h0
  refine ⟨b, o, c, rfl, h1, h2, q1, q2, q3, fun j hj => ?_⟩
  obtain ⟨b', o', e, _, _, _, hc⟩ := h3 j hj
  cases e; exact hc
/-- v owns the bools l -/
def Bo (lo hi : Nat) (w : World) (v : Value) (l : List Bool) : Prop := Ro lo hi w 4 v (bools l)
theorem Bo.read {lo hi : Nat} {w : World} {v : Value} {l : List Bool} (h : Bo lo hi w v l) : Bv lo hi w v l := Ro.read h
theorem Bo.keeps {lo hi : Nat} {w w' : World} {v : Value} {l : List Bool} (h : Bo lo hi w v l) (k : Keeps lo hi w w') : Bo lo hi w' v l := Ro.keeps h k
theorem Bo.wide {lo hi lo' hi' : Nat} {w : World} {v : Value} {l : List Bool} (h : Bo lo hi w v l) (a : lo' ≤ lo) (b : hi ≤ hi') : Bo lo' hi' w v l := Ro.wide h a b
theorem Bo.form {lo hi : Nat} {w : World} {v : Value} {l : List Bool} (h : Bo lo hi w v l) : ∃ a c, v = .slice a l.length c := by
  obtain ⟨a, c, e⟩ := Ro.form h
  exact ⟨a, c, by rw [e, bools_len]⟩
/-- an answer: a new row of bools -/
def BoolsAns (w : World) (l : List Bool) (e : Ending) (w' : World) : Prop := ∃ v, e = .returned v ∧ Bo w.heap.size w'.heap.size w' v l ∧ Below w.heap.size w w'
/-- a row that has no room to spare is known whole -/
theorem own_cm {w : World} {base : Nat} {e : TypeId} {g n : Nat} {xs : List Value} (h : w.ownsRow base e 1 (.slice (some ⟨g, 0, none⟩) n n) n xs) : Cm w g e xs := by
  rcases h.2 with ⟨e1, _⟩ | ⟨g', cap, cur, e1, hb, hg, hnc, hcm, hcs, ht⟩
  · cases e1
  · cases e1
    unfold Cm
    rw [hg]
    have : cur.toList = xs := by rw [← ht, List.take_of_length_le (by rw [Array.length_toList, hcs]; exact Nat.le_refl _)]
    rw [← this]
theorem cm_own {w : World} {e : TypeId} {g n : Nat} {xs : List Value} (h : Cm w g e xs) (hl : xs.length = n) (hn : n ≤ maxLen) : w.ownsRow g e 1 (.slice (some ⟨g, 0, none⟩) n n) n xs :=
  ⟨by omega, .inr ⟨g, n, xs.toArray, rfl, Nat.le_refl _, h, Nat.le_refl _, hn, by simp [hl], by simp [← hl]⟩⟩
section
variable {P : Program}
/-- make of a row of one-cell values -/
theorem wpList_makeM {ops : Array Oper} {rest : List Oper} {o : Oper} {a : Act} {w : World} {Q : Exit → Act → World → Prop} (hgd : o.guard = none) (x y : Operand) (t : TypeId) (d : Nat) (hd : o.dst = some d) (ho : o.op = .makeSlice t x y)
    (e : TypeId) (z : Value) (bytes : Nat) (ht : P.underlying t = some (.slice e)) (hinfo : (P.info? e).map (fun i => (i.zero, i.size, i.bytes)) = some (some z, 1, bytes)) (n : Nat) (kl kc : IntKind)
    (hx : a.eval x = .int kl n) (hy : a.eval y = .int kc n) (hb : bytes * n ≤ 281474976710656) (h63 : n ≤ maxLen) (zs : List Value) (hz : (madeCells z.cells n).toList = zs)
    (h : ∀ w', Cm w' w.heap.size e zs → Below w.heap.size w w' → wpList P ops Q rest (a.put (some d) (.slice (some ⟨w.heap.size, 0, none⟩) n n)) w') : wpList P ops Q (o :: rest) a w :=
  wpList_plain hgd fun _ hK => wp_makeF x y t d hd ho e z bytes ht hinfo n kl kc hx hy hb h63 fun w' h1 h2 _ => hK _ _ (h w' (by rw [← hz]; exact own_cm h1) h2)
end
theorem madeB (n : Nat) : (madeCells (Value.bool false).cells n).toList = bools (List.replicate n false) := by
  have h : (Value.bool false).cells = #[.bool false] := rfl
  rw [h]
  apply List.ext_getElem?
  intro j
  simp only [madeCells, bools]
  rcases Nat.lt_or_ge j n with hj | hj
  · simp [hj, Nat.mod_one]
  · simp [hj]

set_option maxRecDepth 100000 in
set_option maxHeartbeats 8000000 in
theorem specAll_any (n : Nat) (w : World) (hn : n ≤ 16) :
    Calls Try.prog 91 #[.int .i64 n] w (BoolsAns w (List.replicate n true)) := by
  have HRS := Lib.hid (fun k => rep_succ k true)
  go_enter Try.func91, Try.ntmps91
  go_wp2
  go_loopw [3, 4] (fun lv iv wr => ∃ (k : Nat) (lv' : Value), k ≤ n ∧ iv = .int .i64 k ∧ lv' = lv ∧ Hid (wr.ownsRow w.heap.size 4 1 lv' k (bools (List.replicate k true))) ∧ Hid (Below w.heap.size w wr)) (fun _ iv _ => n - (intOf iv).toNat)
  case atStart => exact ⟨0, _, Nat.zero_le _, rfl, rfl, Lib.hid (World.ownsRow_lit w #[] 0 (Nat.le_refl _) (Nat.zero_le _) rfl), Lib.hid (by go_grown)⟩
  case round =>
    obtain ⟨k, lv, hk, rfl, rfl, LR, BR⟩ := hrel
    by_cases hlt : k < n
    · have HS := Lib.hid (HRS.out k)
      have hsz : w.heap.size ≤ wr.heap.size := BR.out.size
      have HLB : Hid (∀ q, lv.ownBlock = some q → w.heap.size ≤ q) := Lib.hid (fun q hq => (LR.out.lt q hq).1)
      have tk1 : True := trivial
      go_wp2_with
        (first
          | (have _t := tk1; clear _t tk1; at_builtin; refine wpList_pushL rfl (.tmp 11) (.tmp 12) 84 13 rfl rfl 4 (.bool false) 1 Try.underlying84 Try.infoB rfl w.heap.size (.bool true) lv k (bools (List.replicate k true)) LR.out rfl wr.heap.size rfl rfl rfl (by unfold maxLen; omega) (by omega) hsz ?_; intro v6 w6 hown hg; have L6 := Lib.hid hown; have B6 : Hid (Below w.heap.size w w6) := Lib.hid (BR.out.trans (hg.below hsz HLB.out)); clear hown hg))
      go_roundw
      case rel =>
        refine ⟨k + 1, _, by omega, by go_num, rfl, Lib.hid ?_, B6⟩
        rw [HS.out, bools_app]
        exact L6.out
      case measure => simp [intOf]; omega
    · obtain rfl : k = n := by omega
      go_wp2
      go_ret
      exact ⟨_, rfl, by have h := Ro.of_own LR.out; exact h, BR.out⟩

set_option maxRecDepth 100000 in
set_option maxHeartbeats 8000000 in
theorem specList_any (lo hi : Nat) (v : Value) (l : List Bool) (w : World) (hr : Bv lo hi w v l) (hn : l.length ≤ 1048576) :
    Calls Try.prog 89 #[v] w (IntsAns w (nums (lst (fun i => l.getD i false) l.length))) := by
  obtain ⟨a, cap, rfl, h1, h2, h3⟩ := hr.parts
  unfold maxLen at h2
  have KEY := Lib.hid h3
  clear h3 hr
  obtain ⟨p, hp⟩ : ∃ p : Nat → Bool, p = fun i => l.getD i false := ⟨_, rfl⟩
  rw [← hp]
  have HLL := Lib.hid (fun k => lst_len p k)
  have HLS := Lib.hid (fun k => lst_succ p k)
  have HP : Hid (∀ k, l.getD k false = p k) := Lib.hid (fun k => by rw [hp])
  clear hp
  go_enter Try.func89, Try.ntmps89
  go_wp2
  go_loopw [3, 9] (fun lv iv wr => ∃ (k : Nat) (lv' : Value), k ≤ l.length ∧ iv = .int .i64 k ∧ lv' = lv ∧ Hid (wr.ownsRow w.heap.size 3 1 lv' (lst p k).length (ints (nums (lst p k)))) ∧ Hid (Below w.heap.size w wr)) (fun _ iv _ => l.length - (intOf iv).toNat)
  case atStart => exact ⟨0, _, Nat.zero_le _, rfl, rfl, Lib.hid (World.ownsRow_lit w #[] 0 (Nat.le_refl _) (Nat.zero_le _) rfl), Lib.hid (by go_grown)⟩
  case round =>
    obtain ⟨k, lv, hk, rfl, rfl, LR, BR⟩ := hrel
    by_cases hlt : k < l.length
    · obtain ⟨b, o, rfl, _, _, hb, c0⟩ := KEY.out k hlt
      rw [← BR.out.cell (p := ⟨b, o + k, none⟩) hb, HP.out k] at c0
      have HS := Lib.hid (HLS.out k)
      have hlk := HLL.out k
      have hsz : w.heap.size ≤ wr.heap.size := BR.out.size
      have HLB : Hid (∀ q, lv.ownBlock = some q → w.heap.size ≤ q) := Lib.hid (fun q hq => (LR.out.lt q hq).1)
      obtain ⟨q, hq⟩ : ∃ q, q = p k := ⟨_, rfl⟩
      rw [← hq] at c0 HS
      clear hq
      cases q with
      | true =>
        have tk2 : True := trivial
        go_wp2_with
          (first
            | (have _t := tk2; clear _t tk2; at_builtin; refine wpList_pushL rfl (.tmp 15) (.tmp 17) 24 18 rfl rfl 3 (.int .i64 0) 8 Try.underlying24 Try.infoI rfl w.heap.size (.int .i64 k) lv (lst p k).length (ints (nums (lst p k))) LR.out rfl wr.heap.size rfl rfl rfl (by unfold maxLen; omega) (by omega) hsz ?_; intro v6 w6 hown hg; have L6 := Lib.hid hown; have B6 : Hid (Below w.heap.size w w6) := Lib.hid (BR.out.trans (hg.below hsz HLB.out)); clear hown hg c0))
        go_roundw
        case rel =>
          refine ⟨k + 1, _, by omega, by go_num, rfl, Lib.hid ?_, B6⟩
          rw [HS.out, if_pos rfl, nums_app, ints_app, List.length_append]
          exact L6.out
        case measure => simp [intOf]; omega
      | false =>
        go_wp2
        go_roundw
        case rel =>
          refine ⟨k + 1, _, by omega, by go_num, rfl, Lib.hid ?_, BR⟩
          rw [HS.out, if_neg (by decide), List.append_nil]
          exact LR.out
        case measure => simp [intOf]; omega
    · obtain rfl : k = l.length := by omega
      go_wp2
      go_ret
      exact ⟨_, rfl, Ro.of_own LR.out, BR.out⟩
end Go.Proofs.Ytodjohdbngbpaaa
