/-
  Contracts of spec.l03Bit and grid.told. Conditions: the numbers are those of a valid model.
-/
import Derived.Test.YtegmoojjffkacaaFre
import Derived.IntWalk
namespace Go.Proofs.Ytegmoojjffkacaa
open Go.RowKit Go.WideShapes
open Go Go.Deep
set_option linter.unusedSimpArgs false

/-- a fact of a world -/
def bitI (x : Int) (f : Nat) : Int := x / 2 ^ f % 2
theorem bitI_bd (x : Int) (f : Nat) : 0 ≤ bitI x f ∧ bitI x f ≤ 1 := by unfold bitI; omega
theorem bit_cases {f : Nat} (h : f < 4) : f = 0 ∨ f = 1 ∨ f = 2 ∨ f = 3 := by omega
theorem nib_cases {x : Int} (h0 : 0 ≤ x) (h1 : x < 16) : x = 0 ∨ x = 1 ∨ x = 2 ∨ x = 3 ∨ x = 4 ∨ x = 5 ∨ x = 6 ∨ x = 7 ∨ x = 8 ∨ x = 9 ∨ x = 10 ∨ x = 11 ∨ x = 12 ∨ x = 13 ∨ x = 14 ∨ x = 15 := by omega

set_option maxRecDepth 100000 in
set_option maxHeartbeats 4000000 in
theorem l03Bit_any (x : Int) (f : Nat) (w : World) (h0 : 0 ≤ x) (h1 : x < 16) (hf : f < 4) :
    Calls Try.prog 82 #[.int .i64 x, .int .i64 f] w fun e w' => e = .returned (.int .i64 (bitI x f)) ∧ w = w' := by
  rcases bit_cases hf with rfl | rfl | rfl | rfl
  all_goals
    go_enter Try.func82, Try.ntmps82
    go_wp2
    refine wp_loop_rounds 4 ?_
    repeat (rw [rounds_succ]; go_wp2)
    go_ret
    exact ⟨ret_int (by unfold bitI; omega), rfl⟩

theorem Try.shrInt (p q : Operand) (x : Int) (f : Nat) (h0 : 0 ≤ x) (h1 : x < 16) (hf : f < 4) (w : World) : (do eqGuard .shr 3 p q (.int .i64 x) (.int .i64 f); binOp .shr 3 (.int .i64 x) (.int .i64 f) : Sem Value).run Try.prog w = .ok (.int .i64 (x / 2 ^ f)) w := by
  rcases bit_cases hf with rfl | rfl | rfl | rfl <;> rcases nib_cases h0 h1 with rfl | rfl | rfl | rfl | rfl | rfl | rfl | rfl | rfl | rfl | rfl | rfl | rfl | rfl | rfl | rfl <;> kernel_rfl
theorem Try.andInt (p q : Operand) (x : Int) (h0 : 0 ≤ x) (h1 : x < 16) (w : World) : (do eqGuard .and 3 p q (.int .i64 x) (.int .i64 1); binOp .and 3 (.int .i64 x) (.int .i64 1) : Sem Value).run Try.prog w = .ok (.int .i64 (x % 2)) w := by
  rcases nib_cases h0 h1 with rfl | rfl | rfl | rfl | rfl | rfl | rfl | rfl | rfl | rfl | rfl | rfl | rfl | rfl | rfl | rfl <;> kernel_rfl
section
variable {P : Program} {ops : Array Oper} {S : World → Prop}
/-- an operation on two numbers whose run is known -/
theorem yields_bin {o : Oper} {a : Act} (hw : Region.wanted o (yielded ops a.tmps) = true) (bop : BinOp) (T R : TypeId) (x y : Operand) (u v r : Value) (ho : o.op = .binOp bop T x y R) (hx : a.eval x = u) (hy : a.eval y = v)
    (hr : ∀ W, (do eqGuard bop T x y u v; binOp bop T u v : Sem Value).run P W = .ok r W) : YieldsIf P ops S o r a :=
  .inl ⟨hw, fun W _ => by unfold execOp; simp only [ho, hx, hy]; rw [Sem.run_bind, hr]; rfl⟩
end

/-- a valid model's blocks, split by a fact -/
def splitL (m : Md) (a f : Nat) : List Int := (List.range m.facts.length).map fun w => 2 * (m.blocks.getD a []).getD w 0 + bitI (m.facts.getD w 0) f
def tellM (m : Md) (a f : Nat) : Md := ⟨m.facts, m.blocks.set a (num (splitL m a f)), m.actual⟩
theorem splitL_len (m : Md) (a f : Nat) : (splitL m a f).length = m.facts.length := by simp [splitL]
theorem splitL_take (m : Md) (a f k : Nat) (hk : k < m.facts.length) : (splitL m a f).take (k + 1) = (splitL m a f).take k ++ [2 * (m.blocks.getD a []).getD k 0 + bitI (m.facts.getD k 0) f] := by
  rw [take_snocI (by rw [splitL_len]; exact hk)]
  congr 2
  unfold splitL
  rw [List.getD_eq_getElem?_getD, List.getElem?_map, List.getElem?_range hk]; rfl
theorem set_getD_same {α : Type} {l : List α} {a : Nat} {x d : α} (h : a < l.length) : (l.set a x).getD a d = x := by
  rw [List.getD_eq_getElem?_getD, List.getElem?_set_self h]; rfl
theorem set_getD_ne {α : Type} {l : List α} {a k : Nat} {x d : α} (h : k ≠ a) : (l.set a x).getD k d = l.getD k d := by
  rw [List.getD_eq_getElem?_getD, List.getElem?_set_ne (Ne.symm h), List.getD_eq_getElem?_getD]
theorem tell_fits {m : Md} (h : fits m) (a f : Nat) (ha : a < m.blocks.length) : fits (tellM m a f) := by
  refine ⟨h.1, by simp [tellM]; exact h.2.1, fun k hk => ?_⟩
  have hk' : k < m.blocks.length := by simpa [tellM] using hk
  unfold tellM
  simp only
  by_cases e : k = a
  · subst e; rw [set_getD_same hk', num_len, splitL_len]
  · rw [set_getD_ne e]; exact h.2.2 k hk'

theorem Try.allocRow' (w : World) : (Instr.alloc 72 true (.tuple #[])).run Try.prog w = .ok (.pointer (some ⟨w.heap.size, 0, none⟩)) (w.alloc (.cells (ints (List.replicate 16 0)).toArray 72)) := by kernel_rfl

set_option maxRecDepth 100000 in
set_option maxHeartbeats 16000000 in
theorem told_any (m : Md) (a f : Nat) (hm : mdOk m = true) (ha : a < m.blocks.length) (hf : f < 4) (w : World) :
    Calls Try.prog 85 #[.agg (ints (gL m.facts.length m.blocks.length m.facts m.blocks m.actual)).toArray, .int .i64 a, .int .i64 f] w
      fun e w' => e = .returned (.agg (ints (gL m.facts.length m.blocks.length m.facts (tellM m a f).blocks m.actual)).toArray) ∧ Below w.heap.size w w' := by
  obtain ⟨p1, p2, p3, p4, p5, p6, p7, p8⟩ := mdOk_parts hm
  have hs := md_small hm
  have HL : Hid ((ints (gL m.facts.length m.blocks.length m.facts m.blocks m.actual)).length = 67) := Lib.hid (by rw [ints_len]; exact gL_len hs)
  have HC : Hid (∀ (W : World) b T, Cm W b T (ints (gL m.facts.length m.blocks.length m.facts m.blocks m.actual)) → W.cell? ⟨b, 0, none⟩ = some (.int .i64 m.facts.length)) := Lib.hid (fun W b T h => h.g0)
  have HF : Hid (∀ j, j < m.facts.length → ∀ (W : World) b T, Cm W b T (ints (gL m.facts.length m.blocks.length m.facts m.blocks m.actual)) → W.cell? ⟨b, 2 + j, none⟩ = some (.int .i64 (m.facts.getD j 0))) := Lib.hid (fun j hj W b T h => h.gf hs (by omega))
  have HR : Hid (∀ j, j < m.facts.length → ∀ (W : World) b T, Cm W b T (ints (gL m.facts.length m.blocks.length m.facts m.blocks m.actual)) → W.cell? ⟨b, 18 + a * 16 + j, none⟩ = some (.int .i64 ((m.blocks.getD a []).getD j 0))) := Lib.hid (fun j hj W b T h => h.gr hs (by omega) (by omega))
  have HST := Lib.hid (gL_set (n := m.facts.length) (a := m.blocks.length) (c := m.actual) (rows' := (tellM m a f).blocks) (r := num (splitL m a f)) (k := a) hs (by rw [num_len, splitL_len]; exact p2) (by omega) (set_getD_same ha) (fun i hi => set_getD_ne hi))
  have HNB : Hid ((splitL m a f).length = m.facts.length) := Lib.hid (splitL_len m a f)
  have KN := Lib.hid (fun W => numbered_any (pad (splitL m a f)) m.facts.length W (pad_len (by rw [splitL_len]; exact p2)) p2)
  rw [pad_take' (splitL_len m a f)] at KN
  have HPL : Hid ((ints (pad (num (splitL m a f)))).length = 16) := Lib.hid (by rw [ints_len, pad_len (by rw [num_len, splitL_len]; exact p2)])
  have HL2 : Hid ((ints (gL m.facts.length m.blocks.length m.facts (tellM m a f).blocks m.actual)).length = 67) := Lib.hid (by rw [ints_len]; exact gL_len (tell_fits (md_fits hm) a f ha).small)
  have HBD : Hid (∀ j, j < m.facts.length → 0 ≤ m.facts.getD j 0 ∧ m.facts.getD j 0 < 16 ∧ 0 ≤ (m.blocks.getD a []).getD j 0 ∧ (m.blocks.getD a []).getD j 0 < 16) := Lib.hid (fun j hj => by
    have h1 := p6 j hj
    have h2 := ord_bd (p5 a ha).2 (getD_mem (l := m.blocks.getD a []) (i := j) (by rw [(p5 a ha).1]; exact hj))
    rw [(p5 a ha).1] at h2
    omega)
  have HTK := Lib.hid (splitL_take m a f)
  have HO1 := Lib.hid (fun v (hv : v ∈ ints (pad (num (splitL m a f)))) => ints_one hv)
  have HO2 := Lib.hid (fun v (hv : v ∈ ints (gL m.facts.length m.blocks.length m.facts (tellM m a f).blocks m.actual)) => ints_one hv)
  clear hs hm p5 p6 p7 p8
  generalize gL m.facts.length m.blocks.length m.facts m.blocks m.actual = G at *
  generalize gL m.facts.length m.blocks.length m.facts (tellM m a f).blocks m.actual = G' at *
  have a0 : (0 : Int) ≤ (a : Int) := Int.natCast_nonneg _
  have a3 : (a : Int) < 3 := by omega
  have f0 : (0 : Int) ≤ (f : Int) := Int.natCast_nonneg _
  have f4 : (f : Int) < 4 := by omega
  go_enter Try.func85, Try.ntmps85
  go_wp2_with
    (first
      | (refine wpList_allocM rfl 75 rfl (ints (gL 0 0 [] [] 0)) Try.allocGrid ?_
         intro w1 hc1 hb1 hs1
         have CG := Lib.hid (Cm.all (Cm.new (w := w) (T := 75) (cs := ints G) rfl) hb1)
         have CZ : Hid (Cm w1 (w.heap.size + 1) 75 (ints (gL 0 0 [] [] 0))) := Lib.hid (by simpa using hc1)
         have BB : Hid (Below w.heap.size w w1) := Lib.hid (Below.trans (by go_grown) (hb1.mono (by simp)))
         have hg1 : w.heap.size + 1 < w1.heap.size := CZ.out.lt
         have hg0 : w.heap.size < w1.heap.size := by omega
         have c0 := HC.out _ _ _ CG.out
         clear hc1 hb1 hs1))
  clear c0
  have CR0 : Cm (w1.alloc (.cells (ints (List.replicate 16 0)).toArray 72)) w1.heap.size 72 (ints (List.replicate 16 0)) := Cm.new rfl
  have hb2 : Below w1.heap.size w1 (w1.alloc (.cells (ints (List.replicate 16 0)).toArray 72)) := (Below.refl _ _).alloc (Nat.le_refl _) _
  have CR := Lib.hid CR0
  have CZ := Lib.hid (CZ.out.all hb2)
  have CG := Lib.hid (CG.out.all hb2)
  have BB := Lib.hid (BB.out.trans (hb2.mono BB.out.size))
  clear CR0 hb2
  go_loopw [11] (fun iv wr => ∃ k : Nat, k ≤ m.facts.length ∧ iv = .int .i64 k ∧ Hid (Cm wr w1.heap.size 72 (ints (pad ((splitL m a f).take k)))) ∧ Hid (Cm wr w.heap.size 75 (ints G)) ∧ Hid (Cm wr (w.heap.size + 1) 75 (ints (gL 0 0 [] [] 0))) ∧ Hid (Below w.heap.size w wr)) (fun iv _ => m.facts.length - (intOf iv).toNat)
  case atStart => exact ⟨0, Nat.zero_le _, rfl, CR, CG, CZ, BB⟩
  case round =>
    clear CR CG CZ BB
    obtain ⟨k, hk, rfl, CR, CG, CZ, BB⟩ := hrel
    by_cases hlt : k < m.facts.length
    · obtain ⟨x0, x1, y0, y1⟩ := HBD.out k hlt
      have HT := Lib.hid (HTK.out k hlt)
      have cf := HF.out k hlt _ _ _ CG.out
      have cr := HR.out k hlt _ _ _ CG.out
      have CF := Lib.hid (HF.out k hlt)
      have CB := Lib.hid (HR.out k hlt)
      clear cf cr
      have k0 : (0 : Int) ≤ (k : Int) := Int.natCast_nonneg _
      have k16 : (k : Int) < 16 := by omega
      generalize m.facts.getD k 0 = x at *
      generalize (m.blocks.getD a []).getD k 0 = y at *
      have hx2 := bitI_bd x f
      have q0 : 0 ≤ x / 2 ^ f := Int.ediv_nonneg x0 (by
        rcases bit_cases hf with rfl | rfl | rfl | rfl <;> decide)
      have q1 : x / 2 ^ f < 16 := by
        rcases bit_cases hf with rfl | rfl | rfl | rfl <;> omega
      have wr1 : IntKind.i64.wrap (2 * y) = 2 * y := IntWalk.i64_in _ (by omega)
      have wr2 : IntKind.i64.wrap (2 * y + bitI x f) = 2 * y + bitI x f := IntWalk.i64_in _ (by omega)
      have HW1 := Lib.hid wr1
      have HW2 := Lib.hid wr2
      have HSH := Lib.hid (fun p q W => Try.shrInt p q x f x0 x1 hf W)
      have HAN := Lib.hid (fun p q W => Try.andInt p q (x / 2 ^ f) q0 q1 W)
      have HBI : Hid (x / 2 ^ f % 2 = bitI x f) := Lib.hid rfl
      rw [HBI.out] at HAN
      clear wr1 wr2
      generalize x / 2 ^ f = q at *
      generalize bitI x f = z at *
      go_wp2
      have hlk : ((splitL m a f).take k).length = k := by rw [List.length_take, HNB.out]; omega
      have HSET : Hid ((ints (pad ((splitL m a f).take k))).set k (.int .i64 (2 * y + z)) = ints (pad ((splitL m a f).take (k + 1)))) := Lib.hid (by
        rw [HT.out, ints_set]
        have := pad_set (l := (splitL m a f).take k) (x := 2 * y + z) (by omega)
        rw [hlk] at this
        rw [this])
      obtain ⟨u, hu⟩ : ∃ u, wr.cell? ⟨w1.heap.size, k, none⟩ = some u := ⟨_, by rw [CR.out.cell, ints_at (by rw [pad_len (by omega)]; omega)]⟩
      have HCU := Lib.hid hu
      clear hlk hu
      refine regionL (fun W => Below wr.heap.size wr W) [17] (by kernel_rfl) (Below.refl _ _).drew (fun hHeld => ?_)
      refine takeA (i := 0) (v := .int .i64 k) 14 rfl rfl (by kernel_rfl) (by kernel_rfl) (by kernel_rfl) (by kernel_rfl) (fun _ _ _ h => h) (Or.inl ⟨by rfl, by intro W hSw; go_simp⟩) hHeld ?_
      simp only [Act.put, List.setIfInBounds_toArray, List.set_cons_zero, List.set_cons_succ]
      refine takeA (i := 1) (v := .int .i64 a) 15 rfl rfl (by kernel_rfl) (by kernel_rfl) (by kernel_rfl) (by kernel_rfl) (fun _ _ _ h => h) (Or.inl ⟨by rfl, by intro W hSw; go_simp⟩) hHeld ?_
      simp only [Act.put, List.setIfInBounds_toArray, List.set_cons_zero, List.set_cons_succ]
      refine takeA (i := 2) (v := .int .i64 k) 16 rfl rfl (by kernel_rfl) (by kernel_rfl) (by kernel_rfl) (by kernel_rfl) (fun _ _ _ h => h) (Or.inl ⟨by rfl, by intro W hSw; go_simp⟩) hHeld ?_
      simp only [Act.put, List.setIfInBounds_toArray, List.set_cons_zero, List.set_cons_succ]
      refine takeA (i := 3) (v := .pointer (some ⟨w.heap.size, 18, none⟩)) 17 rfl rfl (by kernel_rfl) (by kernel_rfl) (by kernel_rfl) (by kernel_rfl) (fun _ _ _ h => h) (Or.inl ⟨by rfl, by intro W hSw; go_simp⟩) hHeld ?_
      simp only [Act.put, List.setIfInBounds_toArray, List.set_cons_zero, List.set_cons_succ]
      refine takeA (i := 4) (v := .pointer (some ⟨w.heap.size, 18 + a * 16, none⟩)) 18 rfl rfl (by kernel_rfl) (by kernel_rfl) (by kernel_rfl) (by kernel_rfl) (fun _ _ _ h => h) (Or.inl ⟨by rfl, by intro W hSw; go_simp⟩) hHeld ?_
      simp only [Act.put, List.setIfInBounds_toArray, List.set_cons_zero, List.set_cons_succ]
      refine takeA (i := 5) (v := .pointer (some ⟨w.heap.size, 18 + a * 16 + k, none⟩)) 19 rfl rfl (by kernel_rfl) (by kernel_rfl) (by kernel_rfl) (by kernel_rfl) (fun _ _ _ h => h) (Or.inl ⟨by rfl, by intro W hSw; go_simp⟩) hHeld ?_
      simp only [Act.put, List.setIfInBounds_toArray, List.set_cons_zero, List.set_cons_succ]
      refine takeA (i := 6) (v := .int .i64 y) 20 rfl rfl (by kernel_rfl) (by kernel_rfl) (by kernel_rfl) (by kernel_rfl) (fun _ _ _ h => h) (Or.inl ⟨by rfl, by intro W hSw; have c1 := CB.out _ _ _ (CG.out.all hSw); go_simp⟩) hHeld ?_
      simp only [Act.put, List.setIfInBounds_toArray, List.set_cons_zero, List.set_cons_succ]
      refine takeA (i := 7) (v := .int .i64 (2 * y)) 21 rfl rfl (by kernel_rfl) (by kernel_rfl) (by kernel_rfl) (by kernel_rfl) (fun _ _ _ h => h) (Or.inl ⟨by rfl, by intro W hSw; go_simp; rw [HW1.out]⟩) hHeld ?_
      simp only [Act.put, List.setIfInBounds_toArray, List.set_cons_zero, List.set_cons_succ]
      refine takeA (i := 8) (v := .int .i64 k) 22 rfl rfl (by kernel_rfl) (by kernel_rfl) (by kernel_rfl) (by kernel_rfl) (fun _ _ _ h => h) (Or.inl ⟨by rfl, by intro W hSw; go_simp⟩) hHeld ?_
      simp only [Act.put, List.setIfInBounds_toArray, List.set_cons_zero, List.set_cons_succ]
      refine takeA (i := 9) (v := .pointer (some ⟨w.heap.size, 2, none⟩)) 23 rfl rfl (by kernel_rfl) (by kernel_rfl) (by kernel_rfl) (by kernel_rfl) (fun _ _ _ h => h) (Or.inl ⟨by rfl, by intro W hSw; go_simp⟩) hHeld ?_
      simp only [Act.put, List.setIfInBounds_toArray, List.set_cons_zero, List.set_cons_succ]
      refine takeA (i := 10) (v := .pointer (some ⟨w.heap.size, 2 + k, none⟩)) 24 rfl rfl (by kernel_rfl) (by kernel_rfl) (by kernel_rfl) (by kernel_rfl) (fun _ _ _ h => h) (Or.inl ⟨by rfl, by intro W hSw; go_simp⟩) hHeld ?_
      simp only [Act.put, List.setIfInBounds_toArray, List.set_cons_zero, List.set_cons_succ]
      refine takeA (i := 11) (v := .int .i64 x) 25 rfl rfl (by kernel_rfl) (by kernel_rfl) (by kernel_rfl) (by kernel_rfl) (fun _ _ _ h => h) (Or.inl ⟨by rfl, by intro W hSw; have c1 := CF.out _ _ _ (CG.out.all hSw); go_simp⟩) hHeld ?_
      simp only [Act.put, List.setIfInBounds_toArray, List.set_cons_zero, List.set_cons_succ]
      refine takeA (i := 12) (v := .int .i64 f) 26 rfl rfl (by kernel_rfl) (by kernel_rfl) (by kernel_rfl) (by kernel_rfl) (fun _ _ _ h => h) (Or.inl ⟨by rfl, by intro W hSw; go_simp⟩) hHeld ?_
      simp only [Act.put, List.setIfInBounds_toArray, List.set_cons_zero, List.set_cons_succ]
      refine takeA (i := 13) (v := .int .i64 q) 27 rfl rfl (by kernel_rfl) (by kernel_rfl) (by kernel_rfl) (by kernel_rfl) (fun _ _ _ h => h) (yields_bin (by rfl) .shr 3 3 (.tmp 25) (.tmp 26) (.int .i64 x) (.int .i64 f) _ rfl rfl rfl (HSH.out _ _)) hHeld ?_
      simp only [Act.put, List.setIfInBounds_toArray, List.set_cons_zero, List.set_cons_succ]
      refine takeA (i := 14) (v := .int .i64 z) 28 rfl rfl (by kernel_rfl) (by kernel_rfl) (by kernel_rfl) (by kernel_rfl) (fun _ _ _ h => h) (yields_bin (by rfl) .and 3 3 (.tmp 27) (.const (.int .i64 1)) (.int .i64 q) (.int .i64 1) _ rfl rfl rfl (HAN.out _ _)) hHeld ?_
      simp only [Act.put, List.setIfInBounds_toArray, List.set_cons_zero, List.set_cons_succ]
      refine takeA (i := 15) (v := .int .i64 (2 * y + z)) 29 rfl rfl (by kernel_rfl) (by kernel_rfl) (by kernel_rfl) (by kernel_rfl) (fun _ _ _ h => h) (Or.inl ⟨by rfl, by intro W hSw; go_simp; rw [HW2.out]⟩) hHeld ?_
      simp only [Act.put, List.setIfInBounds_toArray, List.set_cons_zero, List.set_cons_succ]
      refine takeA (i := 16) (v := .pointer (some ⟨w1.heap.size, k, none⟩)) 30 rfl rfl (by kernel_rfl) (by kernel_rfl) (by kernel_rfl) (by kernel_rfl) (fun _ _ _ h => h) (Or.inl ⟨by rfl, by intro W hSw; go_simp⟩) hHeld ?_
      simp only [Act.put, List.setIfInBounds_toArray, List.set_cons_zero, List.set_cons_succ]
      refine onlyL (i := 17) (by kernel_rfl) rfl (by rfl) (fun K hK => ?_)
      have ck : wr.drew.cell? ⟨w1.heap.size, k, none⟩ = some u := HCU.out
      have fk : wr.drew.frozen? ⟨w1.heap.size, k, none⟩ = false := CR.out.frozen k
      go_simp
      refine hK.out _ _ (fun h => absurd (by decide) h) (fun _ => ?_)
      clear hK K hHeld ck fk
      refine doneL (by kernel_rfl) ?_ _
      go_wp2
      go_roundw
      case rel => exact ⟨k + 1, by omega, by go_num, Lib.hid (by rw [← HSET.out]; exact CR.out.drew.set k _), Lib.hid (CG.out.drew.other (by omega) _ _), Lib.hid (CZ.out.drew.other (by omega) _ _), Lib.hid (BB.out.drew.setCell (by show _ ≤ w1.heap.size; omega) _)⟩
      case measure => simp [intOf]; omega
    · obtain ⟨k', hk'⟩ : ∃ x, x = k := ⟨_, rfl⟩
      subst hk'
      have HKN : Hid ((splitL m a f).take k' = splitL m a f) := Lib.hid (List.take_of_length_le (by rw [HNB.out]; omega))
      have CR' : Hid (Cm wr w1.heap.size 72 (ints (pad (splitL m a f)))) := Lib.hid (by rw [← HKN.out]; exact CR.out)
      have HPL2 : Hid ((ints (pad (splitL m a f))).length = 16) := Lib.hid (by rw [ints_len, pad_len (by rw [HNB.out]; exact p2)])
      have c0 := HC.out _ _ _ CG.out
      clear CR
      go_wp2_with (refine wpList_loadM rfl 72 _ rfl w1.heap.size 0 rfl 72 (ints (pad (splitL m a f))) (ints (pad (splitL m a f))) CR'.out (fun j _ => by rw [Nat.zero_add]) _ Try.underlying72 rfl (by rw [HPL2.out]; exact Try.sizeRow) ?_)
      refine (KN.out _).mono ?_
      rintro e w5 ⟨rfl, hb5⟩
      have CG5 := Lib.hid (CG.out.all hb5)
      have CZ5 := Lib.hid (CZ.out.all hb5)
      have B5 := Lib.hid (BB.out.trans (hb5.mono BB.out.size))
      clear hb5 c0
      go_wp2_with
        (first
          | (refine wpList_storeM rfl 72 (.tmp 38) (.tmp 36) rfl w.heap.size (18 + a * 16) rfl (ints (pad (num (splitL m a f)))) rfl 75 (ints G) CG5.out (by rw [HPL.out, HL.out]; omega) (by rw [HPL.out]; exact Try.sizeRow) HO1.out ?_
             intro w6 hc6 ha6
             rw [HST.out] at hc6
             have CG6 := Lib.hid hc6
             have CZ6 := Lib.hid (ha6.cm CZ5.out (by omega))
             have B6 : Hid (Below w.heap.size w w6) := Lib.hid (B5.out.trans (ha6.below (Nat.le_refl _)))
             clear hc6 ha6)
          | (refine wpList_loadM rfl 75 _ rfl w.heap.size 0 rfl 75 (ints G') (ints G') CG6.out (fun j _ => by rw [Nat.zero_add]) _ Try.underlying75 rfl (by rw [HL2.out]; exact Try.sizeGrid) ?_)
          | (refine wpList_storeM rfl 75 (.tmp 6) (.tmp 39) rfl (w.heap.size + 1) 0 rfl (ints G') rfl 75 (ints (gL 0 0 [] [] 0)) CZ6.out (by rw [HL2.out]; exact Nat.le_refl _) (by rw [HL2.out]; exact Try.sizeGrid) HO2.out ?_
             intro w7 hc7 ha7
             rw [lay'_all (by rw [HL2.out]; rfl)] at hc7
             have CZ7 := Lib.hid hc7
             have B7 : Hid (Below w.heap.size w w7) := Lib.hid (B6.out.trans (ha7.below (by omega)))
             clear hc7 ha7))
      refine bodyPost_ret (results_mid1 Try.results85 _ _ (w.heap.size + 1) (ints G') _ rfl CZ7.out.whole Try.underlying75 rfl (by rw [HL2.out]; exact Try.sizeGrid)) rfl ?_
      exact ⟨rfl, B7.out⟩
end Go.Proofs.Ytegmoojjffkacaa
