/-
  Several texts in one: Bit Num Tel. Conditions: as each theorem says.
-/
import Derived.Test.YtkbpjpobmfiegaaZMok
import Derived.IntWalk
import Derived.Test.YtkbpjpobmfiegaaZArr
/-
  Contracts of spec.l03Bit and grid.told. Conditions: the numbers are those of a valid model.
-/
namespace Go.Proofs.Ytkbpjpobmfiegaa
open Go.RowKit Go.WideShapes
open Go Go.Deep
set_option linter.unusedSimpArgs false

/-- a fact of a world -/
def bitI (x : Int) (f : Nat) : Int := x / 2 ^ f % 2
theorem bitI_bd (x : Int) (f : Nat) : 0 ≤ bitI x f ∧ bitI x f ≤ 1 := by unfold bitI; omega
theorem bit_cases {f : Nat} (h : f < 4) : f = 0 ∨ f = 1 ∨ f = 2 ∨ f = 3 := by omega
theorem nib_cases {x : Int} (h0 : 0 ≤ x) (h1 : x < 16) : x = 0 ∨ x = 1 ∨ x = 2 ∨ x = 3 ∨ x = 4 ∨ x = 5 ∨ x = 6 ∨ x = 7 ∨ x = 8 ∨ x = 9 ∨ x = 10 ∨ x = 11 ∨ x = 12 ∨ x = 13 ∨ x = 14 ∨ x = 15 := by omega

set_option maxRecDepth 100000 in
set_option maxHeartbeats 4000000 in
theorem l03Bit_any (x : Int) (f : Nat) (w : World) (h0 : 0 ≤ x) (h1 : x < 16) (hf : f < 4) :
    Calls Try.prog 25 #[.int .i64 x, .int .i64 f] w fun e w' => e = .returned (.int .i64 (bitI x f)) ∧ w = w' := by
  rcases bit_cases hf with rfl | rfl | rfl | rfl
  all_goals
    go_enter Try.func25, Try.ntmps25
    go_wp2
    refine wp_loop_rounds 4 ?_
    repeat (rw [rounds_succ]; go_wp2)
    go_ret
    exact ⟨ret_int (by unfold bitI; omega), rfl⟩

theorem Try.shrInt (p q : Operand) (x : Int) (f : Nat) (h0 : 0 ≤ x) (h1 : x < 16) (hf : f < 4) (w : World) : (do eqGuard .shr 3 p q (.int .i64 x) (.int .i64 f); binOp .shr 3 (.int .i64 x) (.int .i64 f) : Sem Value).run Try.prog w = .ok (.int .i64 (x / 2 ^ f)) w := by
  rcases bit_cases hf with rfl | rfl | rfl | rfl <;> rcases nib_cases h0 h1 with rfl | rfl | rfl | rfl | rfl | rfl | rfl | rfl | rfl | rfl | rfl | rfl | rfl | rfl | rfl | rfl <;> kernel_rfl
theorem Try.andInt (p q : Operand) (x : Int) (h0 : 0 ≤ x) (h1 : x < 16) (w : World) : (do eqGuard .and 3 p q (.int .i64 x) (.int .i64 1); binOp .and 3 (.int .i64 x) (.int .i64 1) : Sem Value).run Try.prog w = .ok (.int .i64 (x % 2)) w := by
  rcases nib_cases h0 h1 with rfl | rfl | rfl | rfl | rfl | rfl | rfl | rfl | rfl | rfl | rfl | rfl | rfl | rfl | rfl | rfl <;> kernel_rfl
section
variable {P : Program} {ops : Array Oper} {S : World → Prop}
/-- an operation on two numbers whose run is known -/
theorem yields_bin {o : Oper} {a : Act} (hw : Region.wanted o (yielded ops a.tmps) = true) (bop : BinOp) (T R : TypeId) (x y : Operand) (u v r : Value) (ho : o.op = .binOp bop T x y R) (hx : a.eval x = u) (hy : a.eval y = v)
    (hr : ∀ W, (do eqGuard bop T x y u v; binOp bop T u v : Sem Value).run P W = .ok r W) : YieldsIf P ops S o r a :=
  .inl ⟨hw, fun W _ => by unfold execOp; simp only [ho, hx, hy]; rw [Sem.run_bind, hr]; rfl⟩
end

/-- a valid model's blocks, split by a fact -/
def splitL (m : Md) (a f : Nat) : List Int := (List.range m.facts.length).map fun w => 2 * (m.blocks.getD a []).getD w 0 + bitI (m.facts.getD w 0) f
def tellM (m : Md) (a f : Nat) : Md := ⟨m.facts, m.blocks.set a (num (splitL m a f)), m.actual⟩
theorem splitL_len (m : Md) (a f : Nat) : (splitL m a f).length = m.facts.length := by simp [splitL]
theorem splitL_take (m : Md) (a f k : Nat) (hk : k < m.facts.length) : (splitL m a f).take (k + 1) = (splitL m a f).take k ++ [2 * (m.blocks.getD a []).getD k 0 + bitI (m.facts.getD k 0) f] := by
  rw [take_snocI (by rw [splitL_len]; exact hk)]
  congr 2
  unfold splitL
  rw [List.getD_eq_getElem?_getD, List.getElem?_map, List.getElem?_range hk]; rfl
theorem set_getD_same {α : Type} {l : List α} {a : Nat} {x d : α} (h : a < l.length) : (l.set a x).getD a d = x := by
  rw [List.getD_eq_getElem?_getD, List.getElem?_set_self h]; rfl
theorem set_getD_ne {α : Type} {l : List α} {a k : Nat} {x d : α} (h : k ≠ a) : (l.set a x).getD k d = l.getD k d := by
  rw [List.getD_eq_getElem?_getD, List.getElem?_set_ne (Ne.symm h), List.getD_eq_getElem?_getD]
theorem tell_fits {m : Md} (h : fits m) (a f : Nat) (ha : a < m.blocks.length) : fits (tellM m a f) := by
  refine ⟨h.1, by simp [tellM]; exact h.2.1, fun k hk => ?_⟩
  have hk' : k < m.blocks.length := by simpa [tellM] using hk
  unfold tellM
  simp only
  by_cases e : k = a
  · subst e; rw [set_getD_same hk', num_len, splitL_len]
  · rw [set_getD_ne e]; exact h.2.2 k hk'

theorem Try.allocRow' (w : World) : (Instr.alloc 34 true (.tuple #[])).run Try.prog w = .ok (.pointer (some ⟨w.heap.size, 0, none⟩)) (w.alloc (.cells (ints (List.replicate 16 0)).toArray 34)) := by kernel_rfl

set_option maxRecDepth 100000 in
set_option maxHeartbeats 16000000 in
theorem told_any (m : Md) (a f : Nat) (hm : mdOk m = true) (ha : a < m.blocks.length) (hf : f < 4) (w : World) :
    Calls Try.prog 15 #[.agg (ints (gL m.facts.length m.blocks.length m.facts m.blocks m.actual)).toArray, .int .i64 a, .int .i64 f] w
      fun e w' => e = .returned (.agg (ints (gL m.facts.length m.blocks.length m.facts (tellM m a f).blocks m.actual)).toArray) ∧ Below w.heap.size w w' := by
  obtain ⟨p1, p2, p3, p4, p5, p6, p7, p8⟩ := mdOk_parts hm
  have hs := md_small hm
  have HL : Hid ((ints (gL m.facts.length m.blocks.length m.facts m.blocks m.actual)).length = 67) := Lib.hid (by rw [ints_len]; exact gL_len hs)
  have HC : Hid (∀ (W : World) b T, Cm W b T (ints (gL m.facts.length m.blocks.length m.facts m.blocks m.actual)) → W.cell? ⟨b, 0, none⟩ = some (.int .i64 m.facts.length)) := Lib.hid (fun W b T h => h.g0)
  have HF : Hid (∀ j, j < m.facts.length → ∀ (W : World) b T, Cm W b T (ints (gL m.facts.length m.blocks.length m.facts m.blocks m.actual)) → W.cell? ⟨b, 2 + j, none⟩ = some (.int .i64 (m.facts.getD j 0))) := Lib.hid (fun j hj W b T h => h.gf hs (by omega))
  have HR : Hid (∀ j, j < m.facts.length → ∀ (W : World) b T, Cm W b T (ints (gL m.facts.length m.blocks.length m.facts m.blocks m.actual)) → W.cell? ⟨b, 18 + a * 16 + j, none⟩ = some (.int .i64 ((m.blocks.getD a []).getD j 0))) := Lib.hid (fun j hj W b T h => h.gr hs (by omega) (by omega))
  have HST := Lib.hid (gL_set (n := m.facts.length) (a := m.blocks.length) (c := m.actual) (rows' := (tellM m a f).blocks) (r := num (splitL m a f)) (k := a) hs (by rw [num_len, splitL_len]; exact p2) (by omega) (set_getD_same ha) (fun i hi => set_getD_ne hi))
  have HNB : Hid ((splitL m a f).length = m.facts.length) := Lib.hid (splitL_len m a f)
  have KN := Lib.hid (fun W => numbered_any (pad (splitL m a f)) m.facts.length W (pad_len (by rw [splitL_len]; exact p2)) p2)
  rw [pad_take' (splitL_len m a f)] at KN
  have HPL : Hid ((ints (pad (num (splitL m a f)))).length = 16) := Lib.hid (by rw [ints_len, pad_len (by rw [num_len, splitL_len]; exact p2)])
  have HL2 : Hid ((ints (gL m.facts.length m.blocks.length m.facts (tellM m a f).blocks m.actual)).length = 67) := Lib.hid (by rw [ints_len]; exact gL_len (tell_fits (md_fits hm) a f ha).small)
  have HBD : Hid (∀ j, j < m.facts.length → 0 ≤ m.facts.getD j 0 ∧ m.facts.getD j 0 < 16 ∧ 0 ≤ (m.blocks.getD a []).getD j 0 ∧ (m.blocks.getD a []).getD j 0 < 16) := Lib.hid (fun j hj => by
    have h1 := p6 j hj
    have h2 := ord_bd (p5 a ha).2 (getD_mem (l := m.blocks.getD a []) (i := j) (by rw [(p5 a ha).1]; exact hj))
    rw [(p5 a ha).1] at h2
    omega)
  have HTK := Lib.hid (splitL_take m a f)
  have HO1 := Lib.hid (fun v (hv : v ∈ ints (pad (num (splitL m a f)))) => ints_one hv)
  have HO2 := Lib.hid (fun v (hv : v ∈ ints (gL m.facts.length m.blocks.length m.facts (tellM m a f).blocks m.actual)) => ints_one hv)
  clear hs hm p5 p6 p7 p8
  generalize gL m.facts.length m.blocks.length m.facts m.blocks m.actual = G at *
  generalize gL m.facts.length m.blocks.length m.facts (tellM m a f).blocks m.actual = G' at *
  have a0 : (0 : Int) ≤ (a : Int) := Int.natCast_nonneg _
  have a3 : (a : Int) < 3 := by omega
  have f0 : (0 : Int) ≤ (f : Int) := Int.natCast_nonneg _
  have f4 : (f : Int) < 4 := by omega
  go_enter Try.func15, Try.ntmps15
  go_wp2_with
    (first
      | (refine wpList_allocM rfl 37 rfl (ints (gL 0 0 [] [] 0)) Try.allocGrid ?_
         intro w1 hc1 hb1 hs1
         have CG := Lib.hid (Cm.all (Cm.new (w := w) (T := 37) (cs := ints G) rfl) hb1)
         have CZ : Hid (Cm w1 (w.heap.size + 1) 37 (ints (gL 0 0 [] [] 0))) := Lib.hid (by simpa using hc1)
         have BB : Hid (Below w.heap.size w w1) := Lib.hid (Below.trans (by go_grown) (hb1.mono (by simp)))
         have hg1 : w.heap.size + 1 < w1.heap.size := CZ.out.lt
         have hg0 : w.heap.size < w1.heap.size := by omega
         have c0 := HC.out _ _ _ CG.out
         clear hc1 hb1 hs1))
  clear c0
  have CR0 : Cm (w1.alloc (.cells (ints (List.replicate 16 0)).toArray 34)) w1.heap.size 34 (ints (List.replicate 16 0)) := Cm.new rfl
  have hb2 : Below w1.heap.size w1 (w1.alloc (.cells (ints (List.replicate 16 0)).toArray 34)) := (Below.refl _ _).alloc (Nat.le_refl _) _
  have CR := Lib.hid CR0
  have CZ := Lib.hid (CZ.out.all hb2)
  have CG := Lib.hid (CG.out.all hb2)
  have BB := Lib.hid (BB.out.trans (hb2.mono BB.out.size))
  clear CR0 hb2
  go_loopw [11] (fun iv wr => ∃ k : Nat, k ≤ m.facts.length ∧ iv = .int .i64 k ∧ Hid (Cm wr w1.heap.size 34 (ints (pad ((splitL m a f).take k)))) ∧ Hid (Cm wr w.heap.size 37 (ints G)) ∧ Hid (Cm wr (w.heap.size + 1) 37 (ints (gL 0 0 [] [] 0))) ∧ Hid (Below w.heap.size w wr)) (fun iv _ => m.facts.length - (intOf iv).toNat)
  case atStart => exact ⟨0, Nat.zero_le _, rfl, CR, CG, CZ, BB⟩
  case round =>
    clear CR CG CZ BB
    obtain ⟨k, hk, rfl, CR, CG, CZ, BB⟩ := hrel
    by_cases hlt : k < m.facts.length
    · obtain ⟨x0, x1, y0, y1⟩ := HBD.out k hlt
      have HT := Lib.hid (HTK.out k hlt)
      have cf := HF.out k hlt _ _ _ CG.out
      have cr := HR.out k hlt _ _ _ CG.out
      have CF := Lib.hid (HF.out k hlt)
      have CB := Lib.hid (HR.out k hlt)
      clear cf cr
      have k0 : (0 : Int) ≤ (k : Int) := Int.natCast_nonneg _
      have k16 : (k : Int) < 16 := by omega
      generalize m.facts.getD k 0 = x at *
      generalize (m.blocks.getD a []).getD k 0 = y at *
      have hx2 := bitI_bd x f
      have q0 : 0 ≤ x / 2 ^ f := Int.ediv_nonneg x0 (by
        rcases bit_cases hf with rfl | rfl | rfl | rfl <;> decide)
      have q1 : x / 2 ^ f < 16 := by
        rcases bit_cases hf with rfl | rfl | rfl | rfl <;> omega
      have wr1 : IntKind.i64.wrap (2 * y) = 2 * y := IntWalk.i64_in _ (by omega)
      have wr2 : IntKind.i64.wrap (2 * y + bitI x f) = 2 * y + bitI x f := IntWalk.i64_in _ (by omega)
      have HW1 := Lib.hid wr1
      have HW2 := Lib.hid wr2
      have HSH := Lib.hid (fun p q W => Try.shrInt p q x f x0 x1 hf W)
      have HAN := Lib.hid (fun p q W => Try.andInt p q (x / 2 ^ f) q0 q1 W)
      have HBI : Hid (x / 2 ^ f % 2 = bitI x f) := Lib.hid rfl
      rw [HBI.out] at HAN
      clear wr1 wr2
      generalize x / 2 ^ f = q at *
      generalize bitI x f = z at *
      go_wp2
      have hlk : ((splitL m a f).take k).length = k := by rw [List.length_take, HNB.out]; omega
      have HSET : Hid ((ints (pad ((splitL m a f).take k))).set k (.int .i64 (2 * y + z)) = ints (pad ((splitL m a f).take (k + 1)))) := Lib.hid (by
        rw [HT.out, ints_set]
        have := pad_set (l := (splitL m a f).take k) (x := 2 * y + z) (by omega)
        rw [hlk] at this
        rw [this])
      obtain ⟨u, hu⟩ : ∃ u, wr.cell? ⟨w1.heap.size, k, none⟩ = some u := ⟨_, by rw [CR.out.cell, ints_at (by rw [pad_len (by omega)]; omega)]⟩
      have HCU := Lib.hid hu
      clear hlk hu
      refine regionL (fun W => Below wr.heap.size wr W) [17] (by kernel_rfl) (Below.refl _ _).drew (fun hHeld => ?_)
      refine takeA (i := 0) (v := .int .i64 k) 14 rfl rfl (by kernel_rfl) (by kernel_rfl) (by kernel_rfl) (by kernel_rfl) (fun _ _ _ h => h) (Or.inl ⟨by rfl, by intro W hSw; go_simp⟩) hHeld ?_
      simp only [Act.put, List.setIfInBounds_toArray, List.set_cons_zero, List.set_cons_succ]
      refine takeA (i := 1) (v := .int .i64 a) 15 rfl rfl (by kernel_rfl) (by kernel_rfl) (by kernel_rfl) (by kernel_rfl) (fun _ _ _ h => h) (Or.inl ⟨by rfl, by intro W hSw; go_simp⟩) hHeld ?_
      simp only [Act.put, List.setIfInBounds_toArray, List.set_cons_zero, List.set_cons_succ]
      refine takeA (i := 2) (v := .int .i64 k) 16 rfl rfl (by kernel_rfl) (by kernel_rfl) (by kernel_rfl) (by kernel_rfl) (fun _ _ _ h => h) (Or.inl ⟨by rfl, by intro W hSw; go_simp⟩) hHeld ?_
      simp only [Act.put, List.setIfInBounds_toArray, List.set_cons_zero, List.set_cons_succ]
      refine takeA (i := 3) (v := .pointer (some ⟨w.heap.size, 18, none⟩)) 17 rfl rfl (by kernel_rfl) (by kernel_rfl) (by kernel_rfl) (by kernel_rfl) (fun _ _ _ h => h) (Or.inl ⟨by rfl, by intro W hSw; go_simp⟩) hHeld ?_
      simp only [Act.put, List.setIfInBounds_toArray, List.set_cons_zero, List.set_cons_succ]
      refine takeA (i := 4) (v := .pointer (some ⟨w.heap.size, 18 + a * 16, none⟩)) 18 rfl rfl (by kernel_rfl) (by kernel_rfl) (by kernel_rfl) (by kernel_rfl) (fun _ _ _ h => h) (Or.inl ⟨by rfl, by intro W hSw; go_simp⟩) hHeld ?_
      simp only [Act.put, List.setIfInBounds_toArray, List.set_cons_zero, List.set_cons_succ]
      refine takeA (i := 5) (v := .pointer (some ⟨w.heap.size, 18 + a * 16 + k, none⟩)) 19 rfl rfl (by kernel_rfl) (by kernel_rfl) (by kernel_rfl) (by kernel_rfl) (fun _ _ _ h => h) (Or.inl ⟨by rfl, by intro W hSw; go_simp⟩) hHeld ?_
      simp only [Act.put, List.setIfInBounds_toArray, List.set_cons_zero, List.set_cons_succ]
      refine takeA (i := 6) (v := .int .i64 y) 20 rfl rfl (by kernel_rfl) (by kernel_rfl) (by kernel_rfl) (by kernel_rfl) (fun _ _ _ h => h) (Or.inl ⟨by rfl, by intro W hSw; have c1 := CB.out _ _ _ (CG.out.all hSw); go_simp⟩) hHeld ?_
      simp only [Act.put, List.setIfInBounds_toArray, List.set_cons_zero, List.set_cons_succ]
      refine takeA (i := 7) (v := .int .i64 (2 * y)) 21 rfl rfl (by kernel_rfl) (by kernel_rfl) (by kernel_rfl) (by kernel_rfl) (fun _ _ _ h => h) (Or.inl ⟨by rfl, by intro W hSw; go_simp; rw [HW1.out]⟩) hHeld ?_
      simp only [Act.put, List.setIfInBounds_toArray, List.set_cons_zero, List.set_cons_succ]
      refine takeA (i := 8) (v := .int .i64 k) 22 rfl rfl (by kernel_rfl) (by kernel_rfl) (by kernel_rfl) (by kernel_rfl) (fun _ _ _ h => h) (Or.inl ⟨by rfl, by intro W hSw; go_simp⟩) hHeld ?_
      simp only [Act.put, List.setIfInBounds_toArray, List.set_cons_zero, List.set_cons_succ]
      refine takeA (i := 9) (v := .pointer (some ⟨w.heap.size, 2, none⟩)) 23 rfl rfl (by kernel_rfl) (by kernel_rfl) (by kernel_rfl) (by kernel_rfl) (fun _ _ _ h => h) (Or.inl ⟨by rfl, by intro W hSw; go_simp⟩) hHeld ?_
      simp only [Act.put, List.setIfInBounds_toArray, List.set_cons_zero, List.set_cons_succ]
      refine takeA (i := 10) (v := .pointer (some ⟨w.heap.size, 2 + k, none⟩)) 24 rfl rfl (by kernel_rfl) (by kernel_rfl) (by kernel_rfl) (by kernel_rfl) (fun _ _ _ h => h) (Or.inl ⟨by rfl, by intro W hSw; go_simp⟩) hHeld ?_
      simp only [Act.put, List.setIfInBounds_toArray, List.set_cons_zero, List.set_cons_succ]
      refine takeA (i := 11) (v := .int .i64 x) 25 rfl rfl (by kernel_rfl) (by kernel_rfl) (by kernel_rfl) (by kernel_rfl) (fun _ _ _ h => h) (Or.inl ⟨by rfl, by intro W hSw; have c1 := CF.out _ _ _ (CG.out.all hSw); go_simp⟩) hHeld ?_
      simp only [Act.put, List.setIfInBounds_toArray, List.set_cons_zero, List.set_cons_succ]
      refine takeA (i := 12) (v := .int .i64 f) 26 rfl rfl (by kernel_rfl) (by kernel_rfl) (by kernel_rfl) (by kernel_rfl) (fun _ _ _ h => h) (Or.inl ⟨by rfl, by intro W hSw; go_simp⟩) hHeld ?_
      simp only [Act.put, List.setIfInBounds_toArray, List.set_cons_zero, List.set_cons_succ]
      refine takeA (i := 13) (v := .int .i64 q) 27 rfl rfl (by kernel_rfl) (by kernel_rfl) (by kernel_rfl) (by kernel_rfl) (fun _ _ _ h => h) (yields_bin (by rfl) .shr 3 3 (.tmp 25) (.tmp 26) (.int .i64 x) (.int .i64 f) _ rfl rfl rfl (HSH.out _ _)) hHeld ?_
      simp only [Act.put, List.setIfInBounds_toArray, List.set_cons_zero, List.set_cons_succ]
      refine takeA (i := 14) (v := .int .i64 z) 28 rfl rfl (by kernel_rfl) (by kernel_rfl) (by kernel_rfl) (by kernel_rfl) (fun _ _ _ h => h) (yields_bin (by rfl) .and 3 3 (.tmp 27) (.const (.int .i64 1)) (.int .i64 q) (.int .i64 1) _ rfl rfl rfl (HAN.out _ _)) hHeld ?_
      simp only [Act.put, List.setIfInBounds_toArray, List.set_cons_zero, List.set_cons_succ]
      refine takeA (i := 15) (v := .int .i64 (2 * y + z)) 29 rfl rfl (by kernel_rfl) (by kernel_rfl) (by kernel_rfl) (by kernel_rfl) (fun _ _ _ h => h) (Or.inl ⟨by rfl, by intro W hSw; go_simp; rw [HW2.out]⟩) hHeld ?_
      simp only [Act.put, List.setIfInBounds_toArray, List.set_cons_zero, List.set_cons_succ]
      refine takeA (i := 16) (v := .pointer (some ⟨w1.heap.size, k, none⟩)) 30 rfl rfl (by kernel_rfl) (by kernel_rfl) (by kernel_rfl) (by kernel_rfl) (fun _ _ _ h => h) (Or.inl ⟨by rfl, by intro W hSw; go_simp⟩) hHeld ?_
      simp only [Act.put, List.setIfInBounds_toArray, List.set_cons_zero, List.set_cons_succ]
      refine onlyL (i := 17) (by kernel_rfl) rfl (by rfl) (fun K hK => ?_)
      have ck : wr.drew.cell? ⟨w1.heap.size, k, none⟩ = some u := HCU.out
      have fk : wr.drew.frozen? ⟨w1.heap.size, k, none⟩ = false := CR.out.frozen k
      go_simp
      refine hK.out _ _ (fun h => absurd (by decide) h) (fun _ => ?_)
      clear hK K hHeld ck fk
      refine doneL (by kernel_rfl) ?_ _
      go_wp2
      go_roundw
      case rel => exact ⟨k + 1, by omega, by go_num, Lib.hid (by rw [← HSET.out]; exact CR.out.drew.set k _), Lib.hid (CG.out.drew.other (by omega) _ _), Lib.hid (CZ.out.drew.other (by omega) _ _), Lib.hid (BB.out.drew.setCell (by show _ ≤ w1.heap.size; omega) _)⟩
      case measure => simp [intOf]; omega
    · obtain ⟨k', hk'⟩ : ∃ x, x = k := ⟨_, rfl⟩
      subst hk'
      have HKN : Hid ((splitL m a f).take k' = splitL m a f) := Lib.hid (List.take_of_length_le (by rw [HNB.out]; omega))
      have CR' : Hid (Cm wr w1.heap.size 34 (ints (pad (splitL m a f)))) := Lib.hid (by rw [← HKN.out]; exact CR.out)
      have HPL2 : Hid ((ints (pad (splitL m a f))).length = 16) := Lib.hid (by rw [ints_len, pad_len (by rw [HNB.out]; exact p2)])
      have c0 := HC.out _ _ _ CG.out
      clear CR
      go_wp2_with (refine wpList_loadM rfl 34 _ rfl w1.heap.size 0 rfl 34 (ints (pad (splitL m a f))) (ints (pad (splitL m a f))) CR'.out (fun j _ => by rw [Nat.zero_add]) _ Try.underlying34 rfl (by rw [HPL2.out]; exact Try.sizeRow) ?_)
      refine (KN.out _).mono ?_
      rintro e w5 ⟨rfl, hb5⟩
      have CG5 := Lib.hid (CG.out.all hb5)
      have CZ5 := Lib.hid (CZ.out.all hb5)
      have B5 := Lib.hid (BB.out.trans (hb5.mono BB.out.size))
      clear hb5 c0
      go_wp2_with
        (first
          | (refine wpList_storeM rfl 34 (.tmp 38) (.tmp 36) rfl w.heap.size (18 + a * 16) rfl (ints (pad (num (splitL m a f)))) rfl 37 (ints G) CG5.out (by rw [HPL.out, HL.out]; omega) (by rw [HPL.out]; exact Try.sizeRow) HO1.out ?_
             intro w6 hc6 ha6
             rw [HST.out] at hc6
             have CG6 := Lib.hid hc6
             have CZ6 := Lib.hid (ha6.cm CZ5.out (by omega))
             have B6 : Hid (Below w.heap.size w w6) := Lib.hid (B5.out.trans (ha6.below (Nat.le_refl _)))
             clear hc6 ha6)
          | (refine wpList_loadM rfl 37 _ rfl w.heap.size 0 rfl 37 (ints G') (ints G') CG6.out (fun j _ => by rw [Nat.zero_add]) _ Try.underlying37 rfl (by rw [HL2.out]; exact Try.sizeGrid) ?_)
          | (refine wpList_storeM rfl 37 (.tmp 6) (.tmp 39) rfl (w.heap.size + 1) 0 rfl (ints G') rfl 37 (ints (gL 0 0 [] [] 0)) CZ6.out (by rw [HL2.out]; exact Nat.le_refl _) (by rw [HL2.out]; exact Try.sizeGrid) HO2.out ?_
             intro w7 hc7 ha7
             rw [lay'_all (by rw [HL2.out]; rfl)] at hc7
             have CZ7 := Lib.hid hc7
             have B7 : Hid (Below w.heap.size w w7) := Lib.hid (B6.out.trans (ha7.below (by omega)))
             clear hc7 ha7))
      refine bodyPost_ret (results_mid1 Try.results15 _ _ (w.heap.size + 1) (ints G') _ rfl CZ7.out.whole Try.underlying37 rfl (by rw [HL2.out]; exact Try.sizeGrid)) rfl ?_
      exact ⟨rfl, B7.out⟩
end Go.Proofs.Ytkbpjpobmfiegaa

/-
  spec.l03Number, spec.NumberBlocks and impl.NumberBlocks, and the walk of the law FnExactNumberBlocks. Conditions of the contracts: bounds on the lengths, which the law checks.
-/
namespace Go.Proofs.Ytkbpjpobmfiegaa
open Go.RowKit Go.WideShapes
open Go Go.Deep

set_option maxRecDepth 100000 in
set_option maxHeartbeats 8000000 in
theorem specNumber_any (lo hi : Nat) (v : Value) (l : List Int) (w : World) (hr : Iv lo hi w v l) (hn : l.length ≤ 1048576) :
    Calls Try.prog 26 #[v] w (IntsAns w (num l)) := by
  obtain ⟨a, cap, rfl, h1, h2, h3⟩ := hr.parts
  unfold maxLen at h2
  have KEY := Lib.hid h3
  clear h3 hr
  have HLE := Lib.hid (fun k (h : k < l.length) => look_end (l := l) (i := k))
  have HLS := Lib.hid (fun k j (h : k < l.length) (h' : j < k) => look_step (l := l) h h')
  have HNL := Lib.hid (numS_len l)
  have HND : Hid ((numS l l.length).1 = num l) := Lib.hid rfl
  go_enter Try.func26, Try.ntmps26
  go_wp2
  go_loopw [3, 4, 13] (fun vv qv iv wr => ∃ (k q : Nat) (v : Value), k ≤ l.length ∧ iv = .int .i64 k ∧ qv = .int .i64 q ∧ v = vv ∧ q ≤ k ∧ Hid (q = (numS l k).2) ∧ Hid (wr.ownsRow w.heap.size 3 1 v k (ints (numS l k).1)) ∧ Hid (Below w.heap.size w wr)) (fun _ _ iv _ => l.length - (intOf iv).toNat)
  case atStart => exact ⟨0, 0, _, Nat.zero_le _, rfl, rfl, rfl, Nat.le_refl _, Lib.hid rfl, Lib.hid (World.ownsRow_lit (w := w) #[] 0 (Nat.le_refl _) (by decide) rfl), Lib.hid (by go_grown)⟩
  case round =>
    obtain ⟨k, q, v, hk, rfl, rfl, rfl, hqk, HQ, HO, HB⟩ := hrel
    have hro : Ro w.heap.size wr.heap.size wr 3 v (ints (numS l k).1) := Ro.of_own HO.out
    obtain ⟨va, vc, e0, _, hvm, hcell⟩ := hro.read.parts
    rw [ints_len, HNL.out] at e0 hcell
    unfold maxLen at hvm
    have HCE : Hid (∀ j, j < k → ∃ g, va = some ⟨g, 0, none⟩ ∧ wr.cell? ⟨g, j, none⟩ = some (.int .i64 ((numS l k).1.getD j 0))) := Lib.hid (fun j hj => by
      rcases HO.out.2 with ⟨e1, h0⟩ | ⟨g, c, cur, e1, _⟩
      · omega
      · rw [e1] at e0
        simp only [Value.slice.injEq, true_and] at e0
        refine ⟨g, e0.1.symm, ?_⟩
        have h := HO.out
        rw [e1] at h
        rw [h.cellAt j (by omega), ints_at (by rw [HNL.out]; exact hj)])
    clear hcell hro
    subst e0
    by_cases hlt : k < l.length
    · obtain ⟨b, o, rfl, _, _, hb, c0⟩ := KEY.out k hlt
      rw [← HB.out.cell (p := ⟨b, o + k, none⟩) hb] at c0
      have HLE2 := Lib.hid (HLE.out k hlt)
      have HLS2 := Lib.hid (fun j h => HLS.out k j hlt h)
      have hcap : ¬ cap = 0 := by omega
      have hk0 : (0 : Int) ≤ (k : Int) := Int.natCast_nonneg _
      have hk1 : (k : Int) ≤ (cap : Int) := by omega
      have HL0 : Hid (look l k 0 = -1) := Lib.hid (by unfold look; rw [if_neg (by omega)])
      generalize hx : l.getD k 0 = x at *
      have HX := Lib.hid hx
      clear hx
      go_wp2
      go_loop [7, 22] (fun kv jv => ∃ j : Nat, j ≤ k ∧ jv = .int .i64 j ∧ kv = .int .i64 (look l k j)) (fun _ jv => k - (intOf jv).toNat)
      case atStart => exact ⟨0, Nat.zero_le _, rfl, by rw [HL0.out]⟩
      case round =>
        obtain ⟨j, hj, rfl, rfl⟩ := hrel
        by_cases hjk : j < k
        · obtain ⟨b', o', e3, _, _, hb', d0⟩ := KEY.out j (by omega)
          cases e3
          rw [← HB.out.cell (p := ⟨b, o + j, none⟩) hb'] at d0
          obtain ⟨g, rfl, g0⟩ := HCE.out j hjk
          have HST := Lib.hid (HLS2.out j hjk)
          generalize l.getD j 0 = y at *
          generalize (numS l k).1.getD j 0 = z at *
          generalize look l k j = u at *
          by_cases e : y = x
          · rw [if_pos e] at HST
            subst e
            go_wp2
            go_round
            case rel => exact ⟨j + 1, by omega, by go_num, by rw [HST.out]⟩
            case measure => simp [intOf]; omega
          · rw [if_neg e] at HST
            have e1 : (y == x) = false := by simpa using e
            go_wp2
            go_round
            case rel => exact ⟨j + 1, by omega, by go_num, by rw [HST.out]⟩
            case measure => simp [intOf]; omega
        · obtain rfl : j = k := by omega
          clear c0 HCE HLS2
          by_cases hneg : look l j j < 0
          · have HE : Hid (numS l (j + 1) = ((numS l j).1 ++ [((numS l j).2 : Int)], (numS l j).2 + 1)) := Lib.hid (by rw [HLE2.out, if_pos hneg])
            generalize look l j j = u at *
            go_wp2_with (at_builtin; refine wpList_push rfl _ _ 22 rfl 3 (.int .i64 0) 8 Try.underlying22 Try.infoI rfl w.heap.size wr (.int .i64 q) (.slice va j vc) j (ints (numS l j).1) HO.out rfl rfl rfl (by unfold maxLen; omega) (by omega) HB.out.size ?_; intro v' w4 hown hbp _; have HO4 := Lib.hid hown; have BP := Lib.hid hbp; clear hown hbp)
            go_roundw
            case rel => exact ⟨j + 1, q + 1, v', by omega, by go_num, by go_num, rfl, by omega, Lib.hid (by rw [HE.out, HQ.out]), Lib.hid (by have h := HO4.out; rw [HQ.out] at h; rw [HE.out, ints_app]; exact h), Lib.hid (HB.out.trans BP.out)⟩
            case measure => simp [intOf]; omega
          · have HE : Hid (numS l (j + 1) = ((numS l j).1 ++ [look l j j], (numS l j).2)) := Lib.hid (by rw [HLE2.out, if_neg hneg])
            generalize look l j j = u at *
            go_wp2_with (at_builtin; refine wpList_push rfl _ _ 22 rfl 3 (.int .i64 0) 8 Try.underlying22 Try.infoI rfl w.heap.size wr (.int .i64 u) (.slice va j vc) j (ints (numS l j).1) HO.out rfl rfl rfl (by unfold maxLen; omega) (by omega) HB.out.size ?_; intro v' w4 hown hbp _; have HO4 := Lib.hid hown; have BP := Lib.hid hbp; clear hown hbp)
            go_roundw
            case rel => exact ⟨j + 1, q, v', by omega, by go_num, rfl, rfl, by omega, Lib.hid (by rw [HE.out]; exact HQ.out), Lib.hid (by rw [HE.out, ints_app]; exact HO4.out), Lib.hid (HB.out.trans BP.out)⟩
            case measure => simp [intOf]; omega
    · obtain rfl : k = l.length := by omega
      go_wp2
      go_ret
      have h := HO.out
      rw [HND.out] at h
      exact ⟨_, rfl, Ro.of_own h, HB.out⟩

/-- what NumberBlocks answers -/
def nbL (l : List Int) : List Int := if 16 < l.length then [] else num l
theorem IntsAns.nil {w w' : World} (h : Below w.heap.size w w') : IntsAns w [] (.returned (.slice none 0 0)) w' := ⟨_, rfl, Ro.nil _ _ _ _, h⟩
theorem IntsAns.later {w w1 w' : World} {l : List Int} {e : Ending} (hb : Below w.heap.size w w1) (h : IntsAns w1 l e w') : IntsAns w l e w' := by
  obtain ⟨v, he, ho, hb'⟩ := h
  exact ⟨v, he, ho.wide hb.size (Nat.le_refl _), hb.trans (hb'.mono hb.size)⟩

end Go.Proofs.Ytkbpjpobmfiegaa

/-
  Contracts of spec.TellFact and impl.TellFact. No condition.
-/
namespace Go.Proofs.Ytkbpjpobmfiegaa
open Go.RowKit Go.WideShapes
open Go Go.Deep
set_option linter.unusedSimpArgs false

/-- what TellFact answers -/
def tellR (m : Md) (a f : Int) : Option Md := if mdOk m && inB a m.blocks.length && inB f 4 then some (tellM m a.toNat f.toNat) else none
theorem inB_parts {x n : Int} (h : inB x n = true) : 0 ≤ x ∧ x < n := of_decide_eq_true h
theorem inB_not {x n : Int} (h : inB x n = false) : x < 0 ∨ n ≤ x := by
  have := of_decide_eq_false h; omega
/-- a row of rows is replaced by one that lies behind them -/
theorem Ioo.put {lo h1 h2 : Nat} {w : World} {pb n cap a : Nat} {vs : List Value} {ll : List (List Int)} {u : Value} {l : List Int} (hb : Ioo lo h1 w (.slice (some ⟨pb, 0, none⟩) n cap) vs ll) (hu : Io h1 h2 w u l) (ha : a < ll.length) (h12 : h1 ≤ h2) :
    Ioo lo h2 (w.setCell ⟨pb, a, none⟩ u) (.slice (some ⟨pb, 0, none⟩) n cap) (vs.set a u) (ll.set a l) ∧ w.grownBy (w.setCell ⟨pb, a, none⟩ u) (some pb) := by
  obtain ⟨r1, r2, r3⟩ := hb
  have hn : n = vs.length := by
    rcases r1.1.2 with ⟨e, _⟩ | ⟨g, c, cur, e, _⟩
    · cases e
    · cases e; rfl
  subst hn
  have st := r1.1.stored a u
  have hpb : pb < h1 := r1.2 pb rfl
  have hub : ∀ k, u.ownBlock = some k → h1 ≤ k := fun k hk => (hu.1.lt k hk).1
  refine ⟨⟨⟨by rw [List.length_set]; exact st.1, fun k hk => by have := r1.2 k hk; omega⟩, ⟨by rw [List.length_set, List.length_set]; exact r2.1, fun j hj => ?_⟩, ?_⟩, st.2⟩
  · rw [List.length_set] at hj
    by_cases e : j = a
    · subst e
      rw [set_getD_same (by rw [r2.1]; exact hj), set_getD_same hj]
      exact (hu.keeps (Keeps.setCell w pb j u (.inl hpb))).wide (by have := (r1.1.lt pb rfl).1; omega) (Nat.le_refl _)
    · rw [set_getD_ne e, set_getD_ne e]
      have hmem : vs.getD j (.bool false) ∈ vs := by
        rw [List.getD_eq_getElem?_getD, List.getElem?_eq_getElem (by rw [r2.1]; exact hj)]
        exact List.getElem_mem _
      exact Ro.wide ((r2.2 j hj).keptBy st.2 (apart_symm ((List.pairwise_cons.1 r3).1 _ hmem))) (Nat.le_refl _) h12
  · have hvb : ∀ x ∈ vs, apart x u := fun x hx => apart_lt (B := h1) (fun k hk => (Rows'.blk r2 hx k hk).2.1) hub
    have hbu : apart (.slice (some ⟨pb, 0, none⟩) vs.length cap) u := apart_lt (B := h1) (fun k hk => r1.2 k hk) hub
    obtain ⟨p1, p2⟩ := List.pairwise_cons.1 r3
    refine List.pairwise_cons.2 ⟨fun x hx => ?_, ?_⟩
    · rcases List.mem_or_eq_of_mem_set hx with hx | rfl
      · exact p1 x hx
      · exact hbu
    · rw [List.pairwise_iff_getElem] at p2 ⊢
      intro i j hi hj hij
      rw [List.length_set] at hi hj
      rw [List.getElem_set, List.getElem_set]
      by_cases e1 : a = i
      · rw [if_pos e1, if_neg (by omega)]
        exact apart_symm (hvb _ (List.getElem_mem _))
      · rw [if_neg e1]
        by_cases e2 : a = j
        · rw [if_pos e2]; exact hvb _ (List.getElem_mem _)
        · rw [if_neg e2]; exact p2 i j hi hj hij

theorem tot_bd : ∀ (ll : List (List Int)), (∀ l ∈ ll, l.length ≤ 16) → tot ll ≤ 16 * ll.length
  | [], _ => by simp [tot]
  | l :: ll, h => by
    have h1 := h l (List.mem_cons_self ..)
    have h2 := tot_bd ll (fun x hx => h x (List.mem_cons_of_mem _ hx))
    rw [tot, List.length_cons]; omega
theorem fits_size {m : Md} (h : fits m) : msize m + m.blocks.length ≤ 1048576 := by
  have h1 := tot_bd m.blocks (fun l hl => by
    obtain ⟨j, hj, rfl⟩ := List.getElem_of_mem hl
    have := h.2.2 j hj
    rw [List.getD_eq_getElem?_getD, List.getElem?_eq_getElem hj] at this
    simp only [Option.getD_some] at this
    have := h.1; omega)
  have h2 := h.1
  have h3 := h.2.1
  unfold msize
  omega
theorem tell_size (m : Md) (a f : Int) : msize ((tellR m a f).getD ⟨[], [], 0⟩) + ((tellR m a f).getD ⟨[], [], 0⟩).blocks.length ≤ 1048576 := by
  unfold tellR
  split
  · rename_i h
    simp only [Bool.and_eq_true] at h
    obtain ⟨⟨h1, h2⟩, h3⟩ := h
    have := inB_parts h2
    exact fits_size (tell_fits (md_fits h1) _ _ (by omega))
  · decide
set_option maxRecDepth 100000 in
set_option maxHeartbeats 16000000 in
theorem specTell_any (lo hi : Nat) (v : Value) (m : Md) (a f : Int) (w : World) (hr : Mv lo hi w v m) (hhi : hi ≤ w.heap.size) :
    Calls Try.prog 11 #[v, .int .i64 a, .int .i64 f] w (MdAns2 w (tellR m a f)) := by
  have KS := Lib.hid (fun W (h : Below w.heap.size w W) => specOk_any lo hi v m W (hr.keeps (Keeps.of_all h)))
  have KC := Lib.hid (fun (hm : mdOk m = true) W (h : Below w.heap.size w W) => specCopy_any lo hi v m W (hr.keeps (Keeps.of_all h)) (Nat.le_trans hhi h.size) hm)
  have HR : Hid (tellR m a f = if mdOk m && inB a m.blocks.length && inB f 4 then some (tellM m a.toNat f.toNat) else none) := Lib.hid rfl
  generalize tellR m a f = R at *
  rw [specOk_mdOk] at KS
  obtain ⟨fv, bv, rfl, hf, hb⟩ := hr
  obtain ⟨fa, fc, rfl⟩ := hf.form
  obtain ⟨ba, bc, rfl, hbl, hbc, _⟩ := hb.parts
  unfold maxLen at hbc
  have HF := Lib.hid hf
  have HB := Lib.hid hb
  clear hf hb hhi
  cases hm : mdOk m with
  | false =>
    rw [hm] at KS HR
    have HR' : Hid (R = none) := Lib.hid (by rw [HR.out]; rfl)
    clear hm HR KC HF HB
    go_enter Try.func11, Try.ntmps11
    go_wp2_with fail
    refine (KS.out _ (by go_grown)).mono ?_
    rintro e w1 ⟨rfl, hb1⟩
    have X1 := Lib.hid (Mcell.below (b := w.heap.size) ((Mcell.new rfl).alloc _) hb1)
    have M1 := Lib.hid (Mcell.below (b := w.heap.size + 1) (Mcell.new (by simp)) hb1)
    have B1 : Hid (Below w.heap.size w w1) := Lib.hid (Below.trans (by go_grown) (hb1.mono (by simp; omega)))
    clear hb1
    obtain ⟨x1c0, x1c1, x1c2, x1c3, x1c4, x1c5⟩ := X1.out
    obtain ⟨m1c0, m1c1, m1c2, m1c3, m1c4, m1c5⟩ := M1.out
    go_wp2
    clear x1c0 x1c1 x1c2 x1c3 x1c4 x1c5 m1c0 m1c1 m1c2 m1c3 m1c4 m1c5
    have M6 := M1.out.write (.slice none 0 0) (.slice none 0 0) 0
    refine bodyPost_ret (results_mid2 Try.results11 _ _ (w.heap.size + 1) _ _ (.bool false) rfl rfl M6.range Try.underlying25 rfl Try.sizeMd) rfl ?_
    rw [HR'.out]
    exact ⟨_, rfl, Mo.none _ _ _, ((B1.out.setCell (by show _ ≤ w.heap.size + 1; omega) _).setCell (by show _ ≤ w.heap.size + 1; omega) _).setCell (by show _ ≤ w.heap.size + 1; omega) _⟩
  | true =>
    rw [hm] at KS HR
    cases ha : inB a m.blocks.length with
    | false =>
      rw [ha] at HR
      have HR' : Hid (R = none) := Lib.hid (by rw [HR.out]; rfl)
      have ha' := inB_not ha
      clear hm ha HR KC HF HB
      rcases ha' with ha' | ha'
      all_goals
        go_enter Try.func11, Try.ntmps11
        go_wp2_with fail
        refine (KS.out _ (by go_grown)).mono ?_
        rintro e w1 ⟨rfl, hb1⟩
        have X1 := Lib.hid (Mcell.below (b := w.heap.size) ((Mcell.new rfl).alloc _) hb1)
        have M1 := Lib.hid (Mcell.below (b := w.heap.size + 1) (Mcell.new (by simp)) hb1)
        have B1 : Hid (Below w.heap.size w w1) := Lib.hid (Below.trans (by go_grown) (hb1.mono (by simp; omega)))
        clear hb1
        obtain ⟨x1c0, x1c1, x1c2, x1c3, x1c4, x1c5⟩ := X1.out
        obtain ⟨m1c0, m1c1, m1c2, m1c3, m1c4, m1c5⟩ := M1.out
        go_wp2
        clear x1c0 x1c1 x1c2 x1c3 x1c4 x1c5 m1c0 m1c1 m1c2 m1c3 m1c4 m1c5
        have M6 := M1.out.write (.slice none 0 0) (.slice none 0 0) 0
        refine bodyPost_ret (results_mid2 Try.results11 _ _ (w.heap.size + 1) _ _ (.bool false) rfl rfl M6.range Try.underlying25 rfl Try.sizeMd) rfl ?_
        rw [HR'.out]
        exact ⟨_, rfl, Mo.none _ _ _, ((B1.out.setCell (by show _ ≤ w.heap.size + 1; omega) _).setCell (by show _ ≤ w.heap.size + 1; omega) _).setCell (by show _ ≤ w.heap.size + 1; omega) _⟩
    | true =>
      rw [ha] at HR
      obtain ⟨a0, a1⟩ := inB_parts ha
      cases hf : inB f 4 with
      | false =>
        rw [hf] at HR
        have HR' : Hid (R = none) := Lib.hid (by rw [HR.out]; rfl)
        have hf' := inB_not hf
        clear hm ha hf HR KC HF HB
        rcases hf' with hf' | hf'
        all_goals
          go_enter Try.func11, Try.ntmps11
          go_wp2_with fail
          refine (KS.out _ (by go_grown)).mono ?_
          rintro e w1 ⟨rfl, hb1⟩
          have X1 := Lib.hid (Mcell.below (b := w.heap.size) ((Mcell.new rfl).alloc _) hb1)
          have M1 := Lib.hid (Mcell.below (b := w.heap.size + 1) (Mcell.new (by simp)) hb1)
          have B1 : Hid (Below w.heap.size w w1) := Lib.hid (Below.trans (by go_grown) (hb1.mono (by simp; omega)))
          clear hb1
          obtain ⟨x1c0, x1c1, x1c2, x1c3, x1c4, x1c5⟩ := X1.out
          obtain ⟨m1c0, m1c1, m1c2, m1c3, m1c4, m1c5⟩ := M1.out
          go_wp2_with (go_at_call 10; (first | refine (inI_yes _ _ _ _ (by omega) (by omega)).mono ?_ | refine (inI_no _ _ _ _ (by omega)).mono ?_); rintro e w' ⟨rfl, rfl⟩)
          clear x1c0 x1c1 x1c2 x1c3 x1c4 x1c5 m1c0 m1c1 m1c2 m1c3 m1c4 m1c5
          have M6 := M1.out.write (.slice none 0 0) (.slice none 0 0) 0
          refine bodyPost_ret (results_mid2 Try.results11 _ _ (w.heap.size + 1) _ _ (.bool false) rfl rfl M6.range Try.underlying25 rfl Try.sizeMd) rfl ?_
          rw [HR'.out]
          exact ⟨_, rfl, Mo.none _ _ _, ((B1.out.setCell (by show _ ≤ w.heap.size + 1; omega) _).setCell (by show _ ≤ w.heap.size + 1; omega) _).setCell (by show _ ≤ w.heap.size + 1; omega) _⟩
      | true =>
        rw [hf] at HR
        have HR' : Hid (R = some (tellM m a.toNat f.toNat)) := Lib.hid (by rw [HR.out]; rfl)
        obtain ⟨f0, f1⟩ := inB_parts hf
        obtain ⟨p1, p2, p3, p4, p5, p6, p7, p8⟩ := mdOk_parts hm
        have KC' := Lib.hid (KC.out hm)
        clear HR ha hf hm KC p7 p8
        obtain ⟨a, rfl⟩ := Int.eq_ofNat_of_zero_le a0
        obtain ⟨f, rfl⟩ := Int.eq_ofNat_of_zero_le f0
        rw [Int.toNat_natCast, Int.toNat_natCast] at HR'
        have ha : a < m.blocks.length := by omega
        have hf : f < 4 := by omega
        obtain ⟨b0, o0, u0, e0, _, _, hlt0, c0, hu0⟩ := HB.out.row rfl a ha
        subst e0
        have hrl := (p5 a ha).1
        obtain ⟨ua, uc, e0⟩ := hu0.form
        subst e0
        obtain ⟨ub, uo, e0⟩ := hu0.addr (by omega)
        subst e0
        obtain ⟨fb, fo, e0⟩ := HF.out.addr (by omega)
        subst e0
        have HCF : Hid (∀ W, Below w.heap.size w W → ∀ j, j < m.facts.length → W.cell? ⟨fb, fo + j, none⟩ = some (.int .i64 (m.facts.getD j 0))) := Lib.hid (fun W hW j hj => by
          obtain ⟨b', o', e, hc⟩ := HF.out.at' hW j hj
          cases e; exact hc)
        have HCU : Hid (∀ W, Below w.heap.size w W → ∀ j, j < m.facts.length → W.cell? ⟨ub, uo + j, none⟩ = some (.int .i64 ((m.blocks.getD a []).getD j 0))) := Lib.hid (fun W hW j hj => by
          obtain ⟨b', o', e, hc⟩ := hu0.at' hW j (by omega)
          cases e; exact hc)
        have HC0 : Hid (∀ W, Below w.heap.size w W → W.cell? ⟨b0, o0 + a, none⟩ = some (.slice (some ⟨ub, uo, none⟩) (m.blocks.getD a []).length uc)) := Lib.hid (fun W hW => (hW.cell (p := ⟨b0, o0 + a, none⟩) hlt0).trans c0)
        rw [hrl] at HC0
        obtain ⟨ua', uc', e0, hul, hum, _⟩ := hu0.parts
        cases e0
        unfold maxLen at hum
        rw [hrl] at hul
        have HBD : Hid (∀ j, j < m.facts.length → 0 ≤ m.facts.getD j 0 ∧ m.facts.getD j 0 < 16 ∧ 0 ≤ (m.blocks.getD a []).getD j 0 ∧ (m.blocks.getD a []).getD j 0 < 16) := Lib.hid (fun j hj => by
          have h1 := p6 j hj
          have h2 := ord_bd (p5 a ha).2 (getD_mem (l := m.blocks.getD a []) (i := j) (by rw [(p5 a ha).1]; exact hj))
          rw [(p5 a ha).1] at h2
          omega)
        have HTK := Lib.hid (splitL_take m a f)
        have HNB : Hid ((splitL m a f).length = m.facts.length) := Lib.hid (splitL_len m a f)
        clear c0 hu0 HF HB p5 p6 hrl
        have hda : decide ((a : Int) < 0) = false := decide_eq_false (by omega)
        go_enter Try.func11, Try.ntmps11
        go_wp2_with fail
        refine (KS.out _ (by go_grown)).mono ?_
        rintro e w1 ⟨rfl, hb1⟩
        have X1 := Lib.hid (Mcell.below (b := w.heap.size) ((Mcell.new rfl).alloc _) hb1)
        have M1 := Lib.hid (Mcell.below (b := w.heap.size + 1) (Mcell.new (by simp)) hb1)
        have B1 : Hid (Below w.heap.size w w1) := Lib.hid (Below.trans (by go_grown) (hb1.mono (by simp; omega)))
        clear hb1
        obtain ⟨x1c0, x1c1, x1c2, x1c3, x1c4, x1c5⟩ := X1.out
        obtain ⟨m1c0, m1c1, m1c2, m1c3, m1c4, m1c5⟩ := M1.out
        go_wp2_with (go_at_call 10; (first | refine (inI_yes _ _ _ _ (by omega) (by omega)).mono ?_ | refine (inI_no _ _ _ _ (by omega)).mono ?_); rintro e w' ⟨rfl, rfl⟩)
        clear x1c0 x1c1 x1c2 x1c3 x1c4 x1c5 m1c0 m1c1 m1c2 m1c3 m1c4 m1c5
        refine (KC'.out _ B1.out).mono ?_
        rintro e w3 ⟨v3, rfl, ho3, hb3⟩
        have X3 := Lib.hid (X1.out.below hb3)
        have M3 := Lib.hid (M1.out.below hb3)
        have B3 := Lib.hid (B1.out.trans (hb3.mono B1.out.size))
        have O3 := Lib.hid ho3
        obtain ⟨qa, qc, pa, pc, e3⟩ := ho3.read.form
        subst e3
        have hz : w.heap.size + 1 < w3.heap.size := M3.out.lt
        have hz1 : w.heap.size + 1 < w1.heap.size := M1.out.lt
        have hz0 : w.heap.size < w3.heap.size := by omega
        have hw0 : w.heap.size ≤ w3.heap.size := by omega
        have hl0 : b0 < w3.heap.size := by omega
        have c0 := HC0.out _ B3.out
        clear ho3 hb3 X1 M1
        obtain ⟨x3c0, x3c1, x3c2, x3c3, x3c4, x3c5⟩ := X3.out
        go_wp2
        have hW : ((w3.alloc (.cells #[.slice qa m.facts.length qc, .slice pa m.blocks.length pc, .int .i64 m.actual] 25)).alloc (.cells #[] 3)).heap.size = w3.heap.size + 2 := by simp
        have d5 : Cm ((w3.alloc (.cells #[.slice qa m.facts.length qc, .slice pa m.blocks.length pc, .int .i64 m.actual] 25)).alloc (.cells #[] 3)) w3.heap.size 25 [.slice qa m.facts.length qc, .slice pa m.blocks.length pc, .int .i64 m.actual] := (Cm.new rfl).alloc _
        have l5 : World.ownsRow ((w3.alloc (.cells #[.slice qa m.facts.length qc, .slice pa m.blocks.length pc, .int .i64 m.actual] 25)).alloc (.cells #[] 3)) (w3.heap.size + 1) 3 1 (.slice (some ⟨w3.heap.size + 1, 0, none⟩) 0 0) 0 [] := by
          have h := World.ownsRow_lit (base := w3.heap.size + 1) (e := 3) (size := 1) (w3.alloc (.cells #[.slice qa m.facts.length qc, .slice pa m.blocks.length pc, .int .i64 m.actual] 25)) #[] 0 (by simp) (by decide) rfl
          simpa using h
        have hb5 : Below w3.heap.size w3 ((w3.alloc (.cells #[.slice qa m.facts.length qc, .slice pa m.blocks.length pc, .int .i64 m.actual] 25)).alloc (.cells #[] 3)) := by go_grown
        generalize (w3.alloc (.cells #[.slice qa m.facts.length qc, .slice pa m.blocks.length pc, .int .i64 m.actual] 25)).alloc (.cells #[] 3) = w5 at *
        have D5 := Lib.hid d5
        have X5 := Lib.hid (X3.out.below hb5)
        have M5 := Lib.hid (M3.out.below hb5)
        have B5 := Lib.hid (B3.out.trans (hb5.mono B3.out.size))
        have O5 := Lib.hid (O3.out.keeps (Keeps.of_all hb5))
        have hs5 : w3.heap.size + 1 < w5.heap.size := by omega
        clear x3c0 x3c1 x3c2 x3c3 x3c4 x3c5 c0 hW d5 hb5 X3 M3 B3 O3
        go_loopw [9, 41] (fun lv iv wr => ∃ (k : Nat) (lv' : Value), k ≤ m.facts.length ∧ iv = .int .i64 k ∧ lv' = lv ∧ Hid (wr.ownsRow (w3.heap.size + 1) 3 1 lv' k (ints ((splitL m a f).take k))) ∧ Hid (Below (w3.heap.size + 1) w5 wr)) (fun _ iv _ => m.facts.length - (intOf iv).toNat)
        case atStart => exact ⟨0, _, Nat.zero_le _, rfl, rfl, Lib.hid l5, Lib.hid (Below.refl _ _)⟩
        case round =>
          clear l5
          obtain ⟨k, lv, hk, rfl, rfl, LR, BR⟩ := hrel
          have hwr : w5.heap.size ≤ wr.heap.size := BR.out.size
          have XR := Lib.hid (X5.out.of_block (BR.out.block _ (by omega)))
          have BW : Hid (Below w.heap.size w wr) := Lib.hid (B5.out.trans (BR.out.mono (by omega)))
          by_cases hlt : k < m.facts.length
          · obtain ⟨x0, x1, y0, y1⟩ := HBD.out k hlt
            have HT := Lib.hid (HTK.out k hlt)
            have cf := HCF.out _ BW.out k hlt
            have cu := HCU.out _ BW.out k hlt
            generalize m.facts.getD k 0 = x at *
            generalize (m.blocks.getD a []).getD k 0 = y at *
            have hx2 := bitI_bd x f
            obtain ⟨z, hz⟩ : ∃ z, z = bitI x f := ⟨_, rfl⟩
            have KB := Lib.hid (fun W => l03Bit_any x f W x0 x1 hf)
            rw [← hz] at hx2 KB HT
            clear hz
            obtain ⟨z0, z1⟩ := hx2
            obtain ⟨xc0, xc1, xc2, _⟩ := XR.out
            have hlb : ∀ q, lv.ownBlock = some q → w3.heap.size + 1 ≤ q := fun q hq => (LR.out.lt q hq).1
            have HLB := Lib.hid hlb
            clear hlb
            go_wp2_with
              (first
                | (go_at_call 25; refine (KB.out _).mono ?_; rintro e w' ⟨rfl, rfl⟩)
                | (at_builtin; refine wpList_pushL rfl (.tmp 46) (.tmp 57) 22 58 rfl rfl 3 (.int .i64 0) 8 Try.underlying22 Try.infoI rfl (w3.heap.size + 1) (.int .i64 (2 * y + z)) lv k (ints ((splitL m a f).take k)) LR.out rfl wr.heap.size rfl rfl rfl (by unfold maxLen; omega) (by omega) (by omega) ?_; intro v6 w6 hown hg; have L6 := Lib.hid hown; have B6 : Hid (Below (w3.heap.size + 1) w5 w6) := Lib.hid (BR.out.trans (hg.below (by omega) HLB.out)); clear hown hg xc0 xc1 xc2 cf cu))
            go_roundw
            case rel =>
              refine ⟨k + 1, _, by omega, by go_num, rfl, Lib.hid ?_, B6⟩
              rw [HT.out, ints_app]
              exact L6.out
            case measure => simp [intOf]; omega
          · obtain ⟨k', hk'⟩ : ∃ x, x = k := ⟨_, rfl⟩
            subst hk'
            have DR := Lib.hid (D5.out.of_block (BR.out.block _ (by omega)))
            have MR := Lib.hid (M5.out.of_block (BR.out.block _ (by omega)))
            have LI : Hid (Io (w3.heap.size + 1) wr.heap.size wr lv (splitL m a f)) := Lib.hid (by
              have h := Ro.of_own LR.out
              rw [List.take_of_length_le (by rw [HNB.out]; omega)] at h
              exact h)
            have OR := Lib.hid (O5.out.keeps (hi := w3.heap.size) (lo := w1.heap.size) ⟨hwr, fun q _ h2 _ => BR.out.block q (by omega)⟩)
            have hsl : (splitL m a f).length ≤ 1048576 := by rw [HNB.out]; omega
            have HSL := Lib.hid hsl
            clear hsl LR XR
            go_wp2
            obtain ⟨qv, pv, vs, e5, OI, OO, OA⟩ := OR.out
            simp only [Value.agg.injEq] at e5
            have e6 := congrArg (fun x : Array Value => x.toList) e5
            simp only [List.cons.injEq, and_true] at e6
            obtain ⟨e6, e7⟩ := e6
            subst e6
            subst e7
            clear e5
            have hpa : ∃ pb, pa = some ⟨pb, 0, none⟩ := by
              rcases OO.1.1.2 with ⟨e, h0⟩ | ⟨g, c, cur, e, _⟩
              · have := OO.2.1.1; omega
              · simp only [Value.slice.injEq] at e; exact ⟨g, e.1⟩
            obtain ⟨pb, e5⟩ := hpa
            subst e5
            have hpb : pb < w3.heap.size := OO.1.2 pb rfl
            have hpb1 : w1.heap.size ≤ pb := (OO.1.1.lt pb rfl).1
            have OI := Lib.hid OI
            have OO := Lib.hid OO
            have OA := Lib.hid OA
            refine regionL (fun W => Below wr.heap.size wr W) [6] (by kernel_rfl) (Below.refl _ _).drew (fun hHeld => ?_)
            refine takeA (i := 0) (v := .pointer (some ⟨w3.heap.size, 1, none⟩)) 60 rfl rfl (by kernel_rfl) (by kernel_rfl) (by kernel_rfl) (by kernel_rfl) (fun _ _ _ h => h) (Or.inl ⟨by rfl, by intro W hSw; go_simp⟩) hHeld ?_
            simp only [Act.put, List.setIfInBounds_toArray, List.set_cons_zero, List.set_cons_succ]
            refine takeA (i := 2) (v := .int .i64 a) 62 rfl rfl (by kernel_rfl) (by kernel_rfl) (by kernel_rfl) (by kernel_rfl) (fun _ _ _ h => h) (Or.inl ⟨by rfl, by intro W hSw; go_simp⟩) hHeld ?_
            simp only [Act.put, List.setIfInBounds_toArray, List.set_cons_zero, List.set_cons_succ]
            refine takeA (i := 3) (v := lv) 63 rfl rfl (by kernel_rfl) (by kernel_rfl) (by kernel_rfl) (by kernel_rfl) (fun _ _ _ h => h) (Or.inl ⟨by rfl, by intro W hSw; go_simp⟩) hHeld ?_
            simp only [Act.put, List.setIfInBounds_toArray, List.set_cons_zero, List.set_cons_succ]
            refine takeA (i := 1) (v := .slice (some ⟨pb, 0, none⟩) m.blocks.length pc) 61 rfl rfl (by kernel_rfl) (by kernel_rfl) (by kernel_rfl) (by kernel_rfl) (fun _ _ _ h => h) (Or.inl ⟨by rfl, by intro W hSw; have d1 := (DR.out.all hSw).cell 1; simp only [List.getElem?_cons_succ, List.getElem?_cons_zero] at d1; go_simp⟩) hHeld ?_
            simp only [Act.put, List.setIfInBounds_toArray, List.set_cons_zero, List.set_cons_succ]
            refine onlyL (i := 4) (by kernel_rfl) rfl (by rfl) (fun K hK => ?_)
            go_simp
            refine (specNumber_any _ _ _ (splitL m a f) _ (LI.out.read.keeps (Keeps.of_all hHeld)) HSL.out).mono ?_
            rintro e w6 ⟨v6, rfl, ho6, hb6⟩
            have t6 : Below wr.heap.size wr w6 := hHeld.trans (hb6.mono (Nat.le_refl _))
            have U6 : Hid (Io wr.heap.size w6.heap.size w6 v6 (num (splitL m a f))) := Lib.hid ho6
            obtain ⟨na, nc, e6⟩ := ho6.form
            subst e6
            clear ho6 hb6 hHeld
            refine hK.out _ _ (fun _ => t6) (fun hHeld => ?_)
            have hHeld := hHeld (by decide)
            clear hK K
            try simp only [Act.put, List.setIfInBounds_toArray, List.set_cons_zero, List.set_cons_succ]
            have D6 := Lib.hid (DR.out.all t6)
            have M6 := Lib.hid (MR.out.below t6)
            have B6 := Lib.hid (BW.out.trans (t6.mono BW.out.size))
            have I6 := Lib.hid (OI.out.keeps (Keeps.of_all t6))
            have O6 := Lib.hid (OO.out.keeps (Keeps.of_all t6))
            have hs6 : wr.heap.size ≤ w6.heap.size := t6.size
            clear t6 DR MR BW OI OO LI
            have aI0 : (0 : Int) ≤ (a : Int) := Int.natCast_nonneg _
            refine takeA (i := 5) (v := .pointer (some ⟨pb, a, none⟩)) 65 rfl rfl (by kernel_rfl) (by kernel_rfl) (by kernel_rfl) (by kernel_rfl) (fun _ _ _ h => h) (Or.inl ⟨by rfl, by intro W hSw; go_simp⟩) hHeld ?_
            simp only [Act.put, List.setIfInBounds_toArray, List.set_cons_zero, List.set_cons_succ]
            refine onlyL (i := 6) (by kernel_rfl) rfl (by rfl) (fun K hK => ?_)
            obtain ⟨fpb, zpb, cpb⟩ := own_one (k := a) (n := m.blocks.length) (by have h := O6.out.1.1; rw [show vs.length = m.blocks.length from O6.out.2.1.1] at h; exact h) ha
            go_simp
            refine hK.out _ _ (fun h => absurd (by decide) h) (fun _ => ?_)
            clear hK K hHeld fpb cpb
            refine doneL (by kernel_rfl) ?_ _
            obtain ⟨P7, G7⟩ := Ioo.put (h2 := w6.heap.size) O6.out (Ro.wide U6.out (by omega) (Nat.le_refl _)) ha (by omega)
            have hpne : ∀ q, q ≠ pb → (w6.setCell ⟨pb, a, none⟩ (.slice na (num (splitL m a f)).length nc)).heap[q]? = w6.heap[q]? := fun q hq => heap_setCell_other w6 ⟨pb, a, none⟩ q _ hq
            have D7 := Lib.hid (D6.out.of_block (hpne _ (by omega)))
            have M7 := Lib.hid (M6.out.of_block (hpne _ (by omega)))
            have B7 : Hid (Below w.heap.size w (w6.setCell ⟨pb, a, none⟩ (.slice na (num (splitL m a f)).length nc))) := Lib.hid (B6.out.setCell (by show _ ≤ pb; omega) _)
            have hI7 : Io w1.heap.size w3.heap.size (w6.setCell ⟨pb, a, none⟩ (.slice na (num (splitL m a f)).length nc)) (.slice qa m.facts.length qc) m.facts := Ro.keptBy I6.out G7 (OA.out _ (List.mem_cons_self ..))
            have hlw : vs.length = m.blocks.length := O6.out.2.1.1
            have hO7 : Mo w1.heap.size w6.heap.size (w6.setCell ⟨pb, a, none⟩ (.slice na (num (splitL m a f)).length nc)) (.agg #[.slice qa m.facts.length qc, .slice (some ⟨pb, 0, none⟩) m.blocks.length pc, .int .i64 (tellM m a f).actual]) (tellM m a f) := by
              refine ⟨_, _, vs.set a (.slice na (num (splitL m a f)).length nc), rfl, Ro.wide hI7 (Nat.le_refl _) (by omega), P7, fun u hu => ?_⟩
              rcases List.mem_cons.1 hu with rfl | hu
              · exact OA.out _ (List.mem_cons_self ..)
              · rcases List.mem_or_eq_of_mem_set hu with hu | rfl
                · exact OA.out _ (List.mem_cons_of_mem _ hu)
                · exact apart_lt (B := wr.heap.size) (fun q hq => by have := I6.out.2 q hq; omega) (fun q hq => (U6.out.1.lt q hq).1)
            have hsz7 : w6.heap.size ≤ (w6.setCell ⟨pb, a, none⟩ (.slice na (num (splitL m a f)).length nc)).heap.size := by simp [World.setCell]
            generalize w6.setCell ⟨pb, a, none⟩ (.slice na (num (splitL m a f)).length nc) = w7 at *
            have HO7 := Lib.hid hO7
            clear P7 G7 hpne hI7 hO7 D6 M6 B6 I6 O6
            obtain ⟨mc0, mc1, mc2, mc3, mc4, mc5⟩ := M7.out
            go_wp2_with (refine wpList_loadM rfl 25 _ rfl w3.heap.size 0 rfl 25 _ [.slice qa m.facts.length qc, .slice (some ⟨pb, 0, none⟩) m.blocks.length pc, .int .i64 m.actual] D7.out (fun j _ => by rw [Nat.zero_add]) _ Try.underlying25 rfl Try.sizeMd ?_)
            clear mc0 mc1 mc2 mc3 mc4 mc5
            obtain ⟨o8, b8, m8⟩ := ans_put (m := tellM m a f) M7.out HO7.out hz1 (by omega) hsz7 B7.out
            refine bodyPost_ret (results_mid2 Try.results11 _ _ (w.heap.size + 1) _ _ (.bool true) rfl rfl m8.range Try.underlying25 rfl Try.sizeMd) rfl ?_
            rw [HR'.out]
            exact ⟨_, rfl, o8, b8⟩
end Go.Proofs.Ytkbpjpobmfiegaa
