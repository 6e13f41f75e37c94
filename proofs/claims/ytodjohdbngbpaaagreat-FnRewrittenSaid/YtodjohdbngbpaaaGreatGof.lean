/-
  Contract of gridOf: the grid of a valid model.
-/
import Derived.Test.YtodjohdbngbpaaaGreatZReg
namespace Go.Proofs.YtodjohdbngbpaaaGreat
open Go.RowKit Go.WideShapes
open Go Go.Deep

theorem Tryz.fieldGrid0 (w : World) (b : Nat) : (Instr.fieldAt 85 (.pointer (some ⟨b, 0, none⟩)) 0).run Tryz.prog w = .ok (.pointer (some ⟨b, 0, none⟩)) w := by kernel_rfl
theorem Tryz.fieldGrid1 (w : World) (b : Nat) : (Instr.fieldAt 85 (.pointer (some ⟨b, 0, none⟩)) 1).run Tryz.prog w = .ok (.pointer (some ⟨b, 1, none⟩)) w := by kernel_rfl
theorem Tryz.aggInt (w : World) : (isAgg 3).run Tryz.prog w = .ok false w := by kernel_rfl
theorem Tryz.gtrInt (x y : Operand) (n k : Int) (w : World) : (do eqGuard .gtr 3 x y (.int .i64 n) (.int .i64 k); binOp .gtr 3 (.int .i64 n) (.int .i64 k) : Sem Value).run Tryz.prog w = .ok (.bool (decide (k < n))) w := by kernel_rfl
theorem Tryz.lssInt (x y : Operand) (n k : Int) (w : World) : (do eqGuard .lss 3 x y (.int .i64 n) (.int .i64 k); binOp .lss 3 (.int .i64 n) (.int .i64 k) : Sem Value).run Tryz.prog w = .ok (.bool (decide (n < k))) w := by kernel_rfl
/-- the grid of a model -/
def gOf (m : Md) : List Int := gL m.facts.length m.blocks.length m.facts m.blocks m.actual
/-- a valid model -/
def mdOk (m : Md) : Bool :=
  decide (1 ≤ m.facts.length ∧ m.facts.length ≤ 16 ∧ 1 ≤ m.blocks.length ∧ m.blocks.length ≤ 3) && (List.range m.blocks.length).all (fun k => (m.blocks.getD k []).length == m.facts.length) && okNums m.facts.length m.facts m.blocks m.actual
theorem mdOk_size {m : Md} (h : ¬ (1 ≤ m.facts.length ∧ m.facts.length ≤ 16 ∧ 1 ≤ m.blocks.length ∧ m.blocks.length ≤ 3)) : mdOk m = false := by
  unfold mdOk; rw [decide_eq_false h]; rfl
theorem mdOk_row {m : Md} {k : Nat} (hk : k < m.blocks.length) (h : (m.blocks.getD k []).length ≠ m.facts.length) : mdOk m = false := by
  unfold mdOk
  rw [all_false (p := fun k => (m.blocks.getD k []).length == m.facts.length) (by simpa using h) hk]
  simp
theorem mdOk_nums {m : Md} (h : 1 ≤ m.facts.length ∧ m.facts.length ≤ 16 ∧ 1 ≤ m.blocks.length ∧ m.blocks.length ≤ 3) (h2 : (List.range m.blocks.length).all (fun k => (m.blocks.getD k []).length == m.facts.length) = true) : mdOk m = okNums m.facts.length m.facts m.blocks m.actual := by
  unfold mdOk; rw [decide_eq_true h, h2]; rfl
/-- an answer: a grid and a bool -/
def GdAns (w : World) (r : Option (List Int)) (e : Ending) (w' : World) : Prop := e = .returned (.tuple #[.agg (ints (r.getD (gL 0 0 [] [] 0))).toArray, .bool r.isSome]) ∧ Below w.heap.size w w'
theorem small_take {f : List Int} {bs : List (List Int)} {k : Nat} (hf : f.length ≤ 16) (h : ∀ j, j < k → (bs.getD j []).length ≤ 16) : small f (bs.take k) := by
  refine ⟨hf, fun j => ?_⟩
  rcases Nat.lt_or_ge j k with hj | hj
  · rw [List.getD_eq_getElem?_getD, List.getElem?_take_of_lt hj, ← List.getD_eq_getElem?_getD]; exact h j hj
  · rw [List.getD_eq_getElem?_getD, List.getElem?_eq_none (by rw [List.length_take]; omega)]; simp
theorem take_getD {bs : List (List Int)} {k j : Nat} (h : j < k) : (bs.take k).getD j [] = bs.getD j [] := by
  rw [List.getD_eq_getElem?_getD, List.getElem?_take_of_lt h, ← List.getD_eq_getElem?_getD]
theorem take_getD_none {bs : List (List Int)} {k j : Nat} (h : k ≤ j) : (bs.take k).getD j [] = [] := by
  rw [List.getD_eq_getElem?_getD, List.getElem?_eq_none (by rw [List.length_take]; omega)]; rfl

set_option maxRecDepth 100000 in
set_option maxHeartbeats 8000000 in
theorem gridOf_any (lo hi : Nat) (v : Value) (m : Md) (w : World) (hr : Mv lo hi w v m) (hhi : hi ≤ w.heap.size) :
    Calls Tryz.prog 59 #[v] w (GdAns w (if mdOk m then some (gOf m) else none)) := by
  obtain ⟨fv, bv, rfl, hf, hb⟩ := hr
  obtain ⟨fa, fc, e1⟩ := hf.form
  obtain ⟨ba, bc, e2, hbl, hbc, hxx⟩ := hb.parts
  obtain ⟨fa', fc', e3, hfl, hfc, hyy⟩ := hf.parts
  rw [e1] at e3
  simp only [Value.slice.injEq, true_and] at e3
  obtain ⟨rfl, rfl⟩ := e3
  clear hxx hyy
  subst e1
  subst e2
  unfold maxLen at hbc hfc
  have HF := Lib.hid hf
  have HBV := Lib.hid hb
  clear hf hb
  have HA0 := Lib.hid Tryz.allocGrid
  have HB0 := Lib.hid Tryz.buildGrid0
  have HZL : Hid ((ints (gL 0 0 [] [] 0)).length = 67) := Lib.hid rfl
  have HZ1 := Lib.hid (fun v (hv : v ∈ ints (gL 0 0 [] [] 0)) => ints_one hv)
  obtain ⟨r, HR⟩ : ∃ r, Hid (r = if mdOk m then some (gOf m) else none) := ⟨_, Lib.hid rfl⟩
  rw [show (if mdOk m then some (gOf m) else none) = r from HR.out.symm]
  unfold GdAns
  generalize gL 0 0 [] [] 0 = Z at *
  by_cases hsz : ¬ (1 ≤ m.facts.length ∧ m.facts.length ≤ 16 ∧ 1 ≤ m.blocks.length ∧ m.blocks.length ≤ 3)
  · obtain rfl : r = none := by rw [HR.out, mdOk_size hsz]; rfl
    have hcase : m.facts.length < 1 ∨ (1 ≤ m.facts.length ∧ 16 < m.facts.length) ∨ (1 ≤ m.facts.length ∧ m.facts.length ≤ 16 ∧ m.blocks.length < 1) ∨ (1 ≤ m.facts.length ∧ m.facts.length ≤ 16 ∧ 1 ≤ m.blocks.length ∧ 3 < m.blocks.length) := by omega
    clear hsz
    have HG1 := Lib.hid (fun v (hv : v ∈ ints (gL m.facts.length m.blocks.length [] [] m.actual)) => ints_one hv)
    have HGL : Hid ((ints (gL m.facts.length m.blocks.length [] [] m.actual)).length = 67) := Lib.hid rfl
    have HG0 : Hid (∀ W b T, Cm W b T (ints (gL m.facts.length m.blocks.length [] [] m.actual)) → W.cell? ⟨b, 0, none⟩ = some (.int .i64 m.facts.length) ∧ W.cell? ⟨b, 1, none⟩ = some (.int .i64 m.blocks.length)) := Lib.hid (fun W b T h => ⟨h.g0, h.g1⟩)
    have HBD := Lib.hid (fun W => Tryz.buildGrid W m.facts.length m.blocks.length m.actual)
    generalize gL m.facts.length m.blocks.length [] [] m.actual = G at *
    rcases hcase with h | ⟨h, k2⟩ | ⟨h, k2, k3⟩ | ⟨h, k2, k3, k4⟩
    · have d1 : decide ((m.facts.length : Int) < 1) = true := decide_eq_true (by omega)
      go_enter Tryz.func59, Tryz.ntmps59
      go_wp2_with
        (refine wpList_allocM rfl 85 rfl (ints Z) HA0.out ?_
         intro w1 hc1 hb1 hs1
         have C1 : Hid (Cm w1 (w.heap.size + 1) 85 (ints Z)) := Lib.hid (by simpa using hc1)
         have B1 : Hid (Below w.heap.size w w1) := Lib.hid (Below.trans (by go_grown) (hb1.mono (by simp)))
         have X1 := Lib.hid (Mcell.below (b := w.heap.size) (Mcell.new rfl) hb1)
         have hs1' : w1.heap.size = w.heap.size + 1 + 1 := by simpa using hs1
         have HS1 := Lib.hid hs1'
         clear hc1 hb1 hs1 hs1'
         obtain ⟨x0, x1, x2, x3, x4, x5⟩ := X1.out
         go_wp2_with
           (first
             | (refine wpList_buildM rfl 85 _ rfl #[(0, .int .i64 m.facts.length), (1, .int .i64 m.blocks.length), (4, .int .i64 m.actual)] (by simp only [List.map_toArray, List.map_cons, List.map_nil]; rfl) (ints G) (HBD.out _) ?_)
             | (refine wpList_allocM rfl 85 rfl (ints Z) HA0.out ?_
                intro w2 hc2 hb2 hs2
                have C2 := Lib.hid hc2
                have B2 := Lib.hid (B1.out.trans (hb2.mono B1.out.size))
                have Y2 := Lib.hid (C1.out.all hb2)
                clear hc2 hb2 hs2 x0 x1 x2 x3 x4 x5
                go_wp2_with
                  (refine wpList_storeM rfl 85 (.tmp 4) (.tmp 15) rfl w1.heap.size 0 rfl (ints G) rfl 85 _ C2.out (by rw [HGL.out, HZL.out]; decide) (by rw [HGL.out]; exact Tryz.sizeGrid) HG1.out ?_
                   intro w3 hc3 ha3
                   rw [lay'_all (by rw [HGL.out, HZL.out])] at hc3
                   have C3 := Lib.hid hc3
                   obtain ⟨g0, g1⟩ := HG0.out _ _ _ hc3
                   have B3 : Hid (Below w.heap.size w w3) := Lib.hid (B2.out.trans (ha3.below B1.out.size))
                   have Y3 := Lib.hid (ha3.cm Y2.out (by rw [HS1.out]; omega))
                   clear hc3 ha3
                   go_wp2_with
                     (first
                       | (refine wpList_fieldG rfl (by rfl) 85 (.tmp 4) 0 rfl w1.heap.size 0 0 rfl (Tryz.fieldGrid0 _ _) ?_)
                       | (refine wpList_fieldG rfl (by rfl) 85 (.tmp 4) 1 rfl w1.heap.size 0 1 rfl (Tryz.fieldGrid1 _ _) ?_)
                       | (refine wpList_loadG rfl (by rfl) 3 (.tmp 20) rfl w1.heap.size 0 rfl _ g0 Tryz.aggInt ?_)
                       | (refine wpList_loadG rfl (by rfl) 3 (.tmp 25) rfl w1.heap.size 1 rfl _ g1 Tryz.aggInt ?_)
                       | (refine wpList_loadG rfl (by rfl) 3 (.tmp 30) rfl w1.heap.size 1 rfl _ g1 Tryz.aggInt ?_)
                       | (refine wpList_binG rfl (by rfl) .gtr 3 (.tmp 21) _ _ rfl (.int .i64 m.facts.length) (.int .i64 16) (.bool (decide ((16 : Int) < (m.facts.length : Int)))) rfl rfl (Tryz.gtrInt _ _ _ _ _) ?_)
                       | (refine wpList_binG rfl (by rfl) .lss 3 (.tmp 26) _ _ rfl (.int .i64 m.blocks.length) (.int .i64 1) (.bool (decide ((m.blocks.length : Int) < 1))) rfl rfl (Tryz.lssInt _ _ _ _ _) ?_)
                       | (refine wpList_binG rfl (by rfl) .gtr 3 (.tmp 31) _ _ rfl (.int .i64 m.blocks.length) (.int .i64 3) (.bool (decide ((3 : Int) < (m.blocks.length : Int)))) rfl rfl (Tryz.gtrInt _ _ _ _ _) ?_)
                       | (refine wpList_buildM rfl 85 _ rfl #[] (by simp) (ints Z) (HB0.out _) ?_)
                       | (refine wpList_storeM rfl 85 (.tmp 2) (.tmp 34) rfl (w.heap.size + 1) 0 rfl (ints Z) rfl 85 _ Y3.out (by rw [HZL.out]; decide) (by rw [HZL.out]; exact Tryz.sizeGrid) HZ1.out ?_
                          intro w4 hc4 ha4
                          rw [lay'_all (Eq.refl _)] at hc4
                          have C4 := Lib.hid hc4
                          have B4 : Hid (Below w.heap.size w w4) := Lib.hid (B3.out.trans (ha4.below (by omega)))
                          clear hc4 ha4 g0 g1
                          go_wp2_with fail
                          refine bodyPost_ret (results_mid2 Tryz.results59 _ _ (w.heap.size + 1) (ints Z) _ (.bool false) rfl rfl C4.out.whole Tryz.underlying85 rfl (by rw [HZL.out]; exact Tryz.sizeGrid)) rfl ?_
                          exact ⟨rfl, B4.out⟩))))))
    · have d1 : decide ((m.facts.length : Int) < 1) = false := decide_eq_false (by omega)
      have d2 : decide ((16 : Int) < (m.facts.length : Int)) = true := decide_eq_true (by omega)
      go_enter Tryz.func59, Tryz.ntmps59
      go_wp2_with
        (refine wpList_allocM rfl 85 rfl (ints Z) HA0.out ?_
         intro w1 hc1 hb1 hs1
         have C1 : Hid (Cm w1 (w.heap.size + 1) 85 (ints Z)) := Lib.hid (by simpa using hc1)
         have B1 : Hid (Below w.heap.size w w1) := Lib.hid (Below.trans (by go_grown) (hb1.mono (by simp)))
         have X1 := Lib.hid (Mcell.below (b := w.heap.size) (Mcell.new rfl) hb1)
         have hs1' : w1.heap.size = w.heap.size + 1 + 1 := by simpa using hs1
         have HS1 := Lib.hid hs1'
         clear hc1 hb1 hs1 hs1'
         obtain ⟨x0, x1, x2, x3, x4, x5⟩ := X1.out
         go_wp2_with
           (first
             | (refine wpList_buildM rfl 85 _ rfl #[(0, .int .i64 m.facts.length), (1, .int .i64 m.blocks.length), (4, .int .i64 m.actual)] (by simp only [List.map_toArray, List.map_cons, List.map_nil]; rfl) (ints G) (HBD.out _) ?_)
             | (refine wpList_allocM rfl 85 rfl (ints Z) HA0.out ?_
                intro w2 hc2 hb2 hs2
                have C2 := Lib.hid hc2
                have B2 := Lib.hid (B1.out.trans (hb2.mono B1.out.size))
                have Y2 := Lib.hid (C1.out.all hb2)
                clear hc2 hb2 hs2 x0 x1 x2 x3 x4 x5
                go_wp2_with
                  (refine wpList_storeM rfl 85 (.tmp 4) (.tmp 15) rfl w1.heap.size 0 rfl (ints G) rfl 85 _ C2.out (by rw [HGL.out, HZL.out]; decide) (by rw [HGL.out]; exact Tryz.sizeGrid) HG1.out ?_
                   intro w3 hc3 ha3
                   rw [lay'_all (by rw [HGL.out, HZL.out])] at hc3
                   have C3 := Lib.hid hc3
                   obtain ⟨g0, g1⟩ := HG0.out _ _ _ hc3
                   have B3 : Hid (Below w.heap.size w w3) := Lib.hid (B2.out.trans (ha3.below B1.out.size))
                   have Y3 := Lib.hid (ha3.cm Y2.out (by rw [HS1.out]; omega))
                   clear hc3 ha3
                   go_wp2_with
                     (first
                       | (refine wpList_fieldG rfl (by rfl) 85 (.tmp 4) 0 rfl w1.heap.size 0 0 rfl (Tryz.fieldGrid0 _ _) ?_)
                       | (refine wpList_fieldG rfl (by rfl) 85 (.tmp 4) 1 rfl w1.heap.size 0 1 rfl (Tryz.fieldGrid1 _ _) ?_)
                       | (refine wpList_loadG rfl (by rfl) 3 (.tmp 20) rfl w1.heap.size 0 rfl _ g0 Tryz.aggInt ?_)
                       | (refine wpList_loadG rfl (by rfl) 3 (.tmp 25) rfl w1.heap.size 1 rfl _ g1 Tryz.aggInt ?_)
                       | (refine wpList_loadG rfl (by rfl) 3 (.tmp 30) rfl w1.heap.size 1 rfl _ g1 Tryz.aggInt ?_)
                       | (refine wpList_binG rfl (by rfl) .gtr 3 (.tmp 21) _ _ rfl (.int .i64 m.facts.length) (.int .i64 16) (.bool (decide ((16 : Int) < (m.facts.length : Int)))) rfl rfl (Tryz.gtrInt _ _ _ _ _) ?_)
                       | (refine wpList_binG rfl (by rfl) .lss 3 (.tmp 26) _ _ rfl (.int .i64 m.blocks.length) (.int .i64 1) (.bool (decide ((m.blocks.length : Int) < 1))) rfl rfl (Tryz.lssInt _ _ _ _ _) ?_)
                       | (refine wpList_binG rfl (by rfl) .gtr 3 (.tmp 31) _ _ rfl (.int .i64 m.blocks.length) (.int .i64 3) (.bool (decide ((3 : Int) < (m.blocks.length : Int)))) rfl rfl (Tryz.gtrInt _ _ _ _ _) ?_)
                       | (refine wpList_buildM rfl 85 _ rfl #[] (by simp) (ints Z) (HB0.out _) ?_)
                       | (refine wpList_storeM rfl 85 (.tmp 2) (.tmp 34) rfl (w.heap.size + 1) 0 rfl (ints Z) rfl 85 _ Y3.out (by rw [HZL.out]; decide) (by rw [HZL.out]; exact Tryz.sizeGrid) HZ1.out ?_
                          intro w4 hc4 ha4
                          rw [lay'_all (Eq.refl _)] at hc4
                          have C4 := Lib.hid hc4
                          have B4 : Hid (Below w.heap.size w w4) := Lib.hid (B3.out.trans (ha4.below (by omega)))
                          clear hc4 ha4 g0 g1
                          go_wp2_with fail
                          refine bodyPost_ret (results_mid2 Tryz.results59 _ _ (w.heap.size + 1) (ints Z) _ (.bool false) rfl rfl C4.out.whole Tryz.underlying85 rfl (by rw [HZL.out]; exact Tryz.sizeGrid)) rfl ?_
                          exact ⟨rfl, B4.out⟩))))))
    · have d1 : decide ((m.facts.length : Int) < 1) = false := decide_eq_false (by omega)
      have d2 : decide ((16 : Int) < (m.facts.length : Int)) = false := decide_eq_false (by omega)
      have d3 : decide ((m.blocks.length : Int) < 1) = true := decide_eq_true (by omega)
      go_enter Tryz.func59, Tryz.ntmps59
      go_wp2_with
        (refine wpList_allocM rfl 85 rfl (ints Z) HA0.out ?_
         intro w1 hc1 hb1 hs1
         have C1 : Hid (Cm w1 (w.heap.size + 1) 85 (ints Z)) := Lib.hid (by simpa using hc1)
         have B1 : Hid (Below w.heap.size w w1) := Lib.hid (Below.trans (by go_grown) (hb1.mono (by simp)))
         have X1 := Lib.hid (Mcell.below (b := w.heap.size) (Mcell.new rfl) hb1)
         have hs1' : w1.heap.size = w.heap.size + 1 + 1 := by simpa using hs1
         have HS1 := Lib.hid hs1'
         clear hc1 hb1 hs1 hs1'
         obtain ⟨x0, x1, x2, x3, x4, x5⟩ := X1.out
         go_wp2_with
           (first
             | (refine wpList_buildM rfl 85 _ rfl #[(0, .int .i64 m.facts.length), (1, .int .i64 m.blocks.length), (4, .int .i64 m.actual)] (by simp only [List.map_toArray, List.map_cons, List.map_nil]; rfl) (ints G) (HBD.out _) ?_)
             | (refine wpList_allocM rfl 85 rfl (ints Z) HA0.out ?_
                intro w2 hc2 hb2 hs2
                have C2 := Lib.hid hc2
                have B2 := Lib.hid (B1.out.trans (hb2.mono B1.out.size))
                have Y2 := Lib.hid (C1.out.all hb2)
                clear hc2 hb2 hs2 x0 x1 x2 x3 x4 x5
                go_wp2_with
                  (refine wpList_storeM rfl 85 (.tmp 4) (.tmp 15) rfl w1.heap.size 0 rfl (ints G) rfl 85 _ C2.out (by rw [HGL.out, HZL.out]; decide) (by rw [HGL.out]; exact Tryz.sizeGrid) HG1.out ?_
                   intro w3 hc3 ha3
                   rw [lay'_all (by rw [HGL.out, HZL.out])] at hc3
                   have C3 := Lib.hid hc3
                   obtain ⟨g0, g1⟩ := HG0.out _ _ _ hc3
                   have B3 : Hid (Below w.heap.size w w3) := Lib.hid (B2.out.trans (ha3.below B1.out.size))
                   have Y3 := Lib.hid (ha3.cm Y2.out (by rw [HS1.out]; omega))
                   clear hc3 ha3
                   go_wp2_with
                     (first
                       | (refine wpList_fieldG rfl (by rfl) 85 (.tmp 4) 0 rfl w1.heap.size 0 0 rfl (Tryz.fieldGrid0 _ _) ?_)
                       | (refine wpList_fieldG rfl (by rfl) 85 (.tmp 4) 1 rfl w1.heap.size 0 1 rfl (Tryz.fieldGrid1 _ _) ?_)
                       | (refine wpList_loadG rfl (by rfl) 3 (.tmp 20) rfl w1.heap.size 0 rfl _ g0 Tryz.aggInt ?_)
                       | (refine wpList_loadG rfl (by rfl) 3 (.tmp 25) rfl w1.heap.size 1 rfl _ g1 Tryz.aggInt ?_)
                       | (refine wpList_loadG rfl (by rfl) 3 (.tmp 30) rfl w1.heap.size 1 rfl _ g1 Tryz.aggInt ?_)
                       | (refine wpList_binG rfl (by rfl) .gtr 3 (.tmp 21) _ _ rfl (.int .i64 m.facts.length) (.int .i64 16) (.bool (decide ((16 : Int) < (m.facts.length : Int)))) rfl rfl (Tryz.gtrInt _ _ _ _ _) ?_)
                       | (refine wpList_binG rfl (by rfl) .lss 3 (.tmp 26) _ _ rfl (.int .i64 m.blocks.length) (.int .i64 1) (.bool (decide ((m.blocks.length : Int) < 1))) rfl rfl (Tryz.lssInt _ _ _ _ _) ?_)
                       | (refine wpList_binG rfl (by rfl) .gtr 3 (.tmp 31) _ _ rfl (.int .i64 m.blocks.length) (.int .i64 3) (.bool (decide ((3 : Int) < (m.blocks.length : Int)))) rfl rfl (Tryz.gtrInt _ _ _ _ _) ?_)
                       | (refine wpList_buildM rfl 85 _ rfl #[] (by simp) (ints Z) (HB0.out _) ?_)
                       | (refine wpList_storeM rfl 85 (.tmp 2) (.tmp 34) rfl (w.heap.size + 1) 0 rfl (ints Z) rfl 85 _ Y3.out (by rw [HZL.out]; decide) (by rw [HZL.out]; exact Tryz.sizeGrid) HZ1.out ?_
                          intro w4 hc4 ha4
                          rw [lay'_all (Eq.refl _)] at hc4
                          have C4 := Lib.hid hc4
                          have B4 : Hid (Below w.heap.size w w4) := Lib.hid (B3.out.trans (ha4.below (by omega)))
                          clear hc4 ha4 g0 g1
                          go_wp2_with fail
                          refine bodyPost_ret (results_mid2 Tryz.results59 _ _ (w.heap.size + 1) (ints Z) _ (.bool false) rfl rfl C4.out.whole Tryz.underlying85 rfl (by rw [HZL.out]; exact Tryz.sizeGrid)) rfl ?_
                          exact ⟨rfl, B4.out⟩))))))
    · have d1 : decide ((m.facts.length : Int) < 1) = false := decide_eq_false (by omega)
      have d2 : decide ((16 : Int) < (m.facts.length : Int)) = false := decide_eq_false (by omega)
      have d3 : decide ((m.blocks.length : Int) < 1) = false := decide_eq_false (by omega)
      have d4 : decide ((3 : Int) < (m.blocks.length : Int)) = true := decide_eq_true (by omega)
      go_enter Tryz.func59, Tryz.ntmps59
      go_wp2_with
        (refine wpList_allocM rfl 85 rfl (ints Z) HA0.out ?_
         intro w1 hc1 hb1 hs1
         have C1 : Hid (Cm w1 (w.heap.size + 1) 85 (ints Z)) := Lib.hid (by simpa using hc1)
         have B1 : Hid (Below w.heap.size w w1) := Lib.hid (Below.trans (by go_grown) (hb1.mono (by simp)))
         have X1 := Lib.hid (Mcell.below (b := w.heap.size) (Mcell.new rfl) hb1)
         have hs1' : w1.heap.size = w.heap.size + 1 + 1 := by simpa using hs1
         have HS1 := Lib.hid hs1'
         clear hc1 hb1 hs1 hs1'
         obtain ⟨x0, x1, x2, x3, x4, x5⟩ := X1.out
         go_wp2_with
           (first
             | (refine wpList_buildM rfl 85 _ rfl #[(0, .int .i64 m.facts.length), (1, .int .i64 m.blocks.length), (4, .int .i64 m.actual)] (by simp only [List.map_toArray, List.map_cons, List.map_nil]; rfl) (ints G) (HBD.out _) ?_)
             | (refine wpList_allocM rfl 85 rfl (ints Z) HA0.out ?_
                intro w2 hc2 hb2 hs2
                have C2 := Lib.hid hc2
                have B2 := Lib.hid (B1.out.trans (hb2.mono B1.out.size))
                have Y2 := Lib.hid (C1.out.all hb2)
                clear hc2 hb2 hs2 x0 x1 x2 x3 x4 x5
                go_wp2_with
                  (refine wpList_storeM rfl 85 (.tmp 4) (.tmp 15) rfl w1.heap.size 0 rfl (ints G) rfl 85 _ C2.out (by rw [HGL.out, HZL.out]; decide) (by rw [HGL.out]; exact Tryz.sizeGrid) HG1.out ?_
                   intro w3 hc3 ha3
                   rw [lay'_all (by rw [HGL.out, HZL.out])] at hc3
                   have C3 := Lib.hid hc3
                   obtain ⟨g0, g1⟩ := HG0.out _ _ _ hc3
                   have B3 : Hid (Below w.heap.size w w3) := Lib.hid (B2.out.trans (ha3.below B1.out.size))
                   have Y3 := Lib.hid (ha3.cm Y2.out (by rw [HS1.out]; omega))
                   clear hc3 ha3
                   go_wp2_with
                     (first
                       | (refine wpList_fieldG rfl (by rfl) 85 (.tmp 4) 0 rfl w1.heap.size 0 0 rfl (Tryz.fieldGrid0 _ _) ?_)
                       | (refine wpList_fieldG rfl (by rfl) 85 (.tmp 4) 1 rfl w1.heap.size 0 1 rfl (Tryz.fieldGrid1 _ _) ?_)
                       | (refine wpList_loadG rfl (by rfl) 3 (.tmp 20) rfl w1.heap.size 0 rfl _ g0 Tryz.aggInt ?_)
                       | (refine wpList_loadG rfl (by rfl) 3 (.tmp 25) rfl w1.heap.size 1 rfl _ g1 Tryz.aggInt ?_)
                       | (refine wpList_loadG rfl (by rfl) 3 (.tmp 30) rfl w1.heap.size 1 rfl _ g1 Tryz.aggInt ?_)
                       | (refine wpList_binG rfl (by rfl) .gtr 3 (.tmp 21) _ _ rfl (.int .i64 m.facts.length) (.int .i64 16) (.bool (decide ((16 : Int) < (m.facts.length : Int)))) rfl rfl (Tryz.gtrInt _ _ _ _ _) ?_)
                       | (refine wpList_binG rfl (by rfl) .lss 3 (.tmp 26) _ _ rfl (.int .i64 m.blocks.length) (.int .i64 1) (.bool (decide ((m.blocks.length : Int) < 1))) rfl rfl (Tryz.lssInt _ _ _ _ _) ?_)
                       | (refine wpList_binG rfl (by rfl) .gtr 3 (.tmp 31) _ _ rfl (.int .i64 m.blocks.length) (.int .i64 3) (.bool (decide ((3 : Int) < (m.blocks.length : Int)))) rfl rfl (Tryz.gtrInt _ _ _ _ _) ?_)
                       | (refine wpList_buildM rfl 85 _ rfl #[] (by simp) (ints Z) (HB0.out _) ?_)
                       | (refine wpList_storeM rfl 85 (.tmp 2) (.tmp 34) rfl (w.heap.size + 1) 0 rfl (ints Z) rfl 85 _ Y3.out (by rw [HZL.out]; decide) (by rw [HZL.out]; exact Tryz.sizeGrid) HZ1.out ?_
                          intro w4 hc4 ha4
                          rw [lay'_all (Eq.refl _)] at hc4
                          have C4 := Lib.hid hc4
                          have B4 : Hid (Below w.heap.size w w4) := Lib.hid (B3.out.trans (ha4.below (by omega)))
                          clear hc4 ha4 g0 g1
                          go_wp2_with fail
                          refine bodyPost_ret (results_mid2 Tryz.results59 _ _ (w.heap.size + 1) (ints Z) _ (.bool false) rfl rfl C4.out.whole Tryz.underlying85 rfl (by rw [HZL.out]; exact Tryz.sizeGrid)) rfl ?_
                          exact ⟨rfl, B4.out⟩))))))
  · have hsz' : 1 ≤ m.facts.length ∧ m.facts.length ≤ 16 ∧ 1 ≤ m.blocks.length ∧ m.blocks.length ≤ 3 := by
      rcases Classical.em (1 ≤ m.facts.length ∧ m.facts.length ≤ 16 ∧ 1 ≤ m.blocks.length ∧ m.blocks.length ≤ 3) with h | h
      · exact h
      · exact absurd h hsz
    clear hsz
    obtain ⟨z1, z2, z3, z4⟩ := hsz'
    have HSZ := Lib.hid (And.intro z1 (And.intro z2 (And.intro z3 z4)))
    have d1 : decide ((m.facts.length : Int) < 1) = false := decide_eq_false (by omega)
    have d2 : decide ((16 : Int) < (m.facts.length : Int)) = false := decide_eq_false (by omega)
    have d3 : decide ((m.blocks.length : Int) < 1) = false := decide_eq_false (by omega)
    have d4 : decide ((3 : Int) < (m.blocks.length : Int)) = false := decide_eq_false (by omega)
    have HG1 := Lib.hid (fun v (hv : v ∈ ints (gL m.facts.length m.blocks.length [] [] m.actual)) => ints_one hv)
    have HGL : Hid ((ints (gL m.facts.length m.blocks.length [] [] m.actual)).length = 67) := Lib.hid rfl
    have HG0 : Hid (∀ W b T, Cm W b T (ints (gL m.facts.length m.blocks.length [] [] m.actual)) → W.cell? ⟨b, 0, none⟩ = some (.int .i64 m.facts.length) ∧ W.cell? ⟨b, 1, none⟩ = some (.int .i64 m.blocks.length)) := Lib.hid (fun W b T h => ⟨h.g0, h.g1⟩)
    have HBD := Lib.hid (fun W => Tryz.buildGrid W m.facts.length m.blocks.length m.actual)
    have HGF := Lib.hid (gL_setF (n := m.facts.length) (a := m.blocks.length) (c := m.actual) (f := m.facts) z2)
    have HPF : Hid ((ints (pad m.facts)).length = 16) := Lib.hid (by rw [ints_len, pad_len z2])
    have HP1 := Lib.hid (fun v (hv : v ∈ ints (pad m.facts)) => ints_one hv)
    have KR := Lib.hid (fun W (h : Below w.heap.size w W) => rowOf_any lo hi _ m.facts W (HF.out.keeps (Keeps.of_all h)) z2)
    generalize gL m.facts.length m.blocks.length [] [] m.actual = G at *
    go_enter Tryz.func59, Tryz.ntmps59
    go_wp2_with
      (refine wpList_allocM rfl 85 rfl (ints Z) HA0.out ?_
       intro w1 hc1 hb1 hs1
       have C1 : Hid (Cm w1 (w.heap.size + 1) 85 (ints Z)) := Lib.hid (by simpa using hc1)
       have B1 : Hid (Below w.heap.size w w1) := Lib.hid (Below.trans (by go_grown) (hb1.mono (by simp)))
       have X1 := Lib.hid (Mcell.below (b := w.heap.size) (Mcell.new rfl) hb1)
       have hs1' : w1.heap.size = w.heap.size + 1 + 1 := by simpa using hs1
       have HS1 := Lib.hid hs1'
       clear hc1 hb1 hs1 hs1'
       obtain ⟨x0, x1, x2, x3, x4, x5⟩ := X1.out
       go_wp2_with
         (first
           | (refine wpList_buildM rfl 85 _ rfl #[(0, .int .i64 m.facts.length), (1, .int .i64 m.blocks.length), (4, .int .i64 m.actual)] (by simp only [List.map_toArray, List.map_cons, List.map_nil]; rfl) (ints G) (HBD.out _) ?_)
           | (refine wpList_allocM rfl 85 rfl (ints Z) HA0.out ?_
              intro w2 hc2 hb2 hs2
              have C2 := Lib.hid hc2
              have B2 := Lib.hid (B1.out.trans (hb2.mono B1.out.size))
              have Y2 := Lib.hid (C1.out.all hb2)
              have X2 := Lib.hid (X1.out.below hb2)
              clear hc2 hb2 hs2 x0 x1 x2 x3 x4 x5
              go_wp2_with
                (refine wpList_storeM rfl 85 (.tmp 4) (.tmp 15) rfl w1.heap.size 0 rfl (ints G) rfl 85 _ C2.out (by rw [HGL.out, HZL.out]; decide) (by rw [HGL.out]; exact Tryz.sizeGrid) HG1.out ?_
                 intro w3 hc3 ha3
                 rw [lay'_all (by rw [HGL.out, HZL.out])] at hc3
                 have C3 := Lib.hid hc3
                 obtain ⟨g0, g1⟩ := HG0.out _ _ _ hc3
                 have B3 : Hid (Below w.heap.size w w3) := Lib.hid (B2.out.trans (ha3.below B1.out.size))
                 have Y3 := Lib.hid (ha3.cm Y2.out (by rw [HS1.out]; omega))
                 have X3 := Lib.hid (X2.out.of_block (ha3.block w.heap.size (by rw [HS1.out]; omega)))
                 obtain ⟨x0, x1, x2, x3, x4, x5⟩ := X3.out
                 clear hc3 ha3
                 go_wp2_with
                   (first
                     | (refine wpList_fieldG rfl (by rfl) 85 (.tmp 4) 0 rfl w1.heap.size 0 0 rfl (Tryz.fieldGrid0 _ _) ?_)
                     | (refine wpList_fieldG rfl (by rfl) 85 (.tmp 4) 1 rfl w1.heap.size 0 1 rfl (Tryz.fieldGrid1 _ _) ?_)
                     | (refine wpList_loadG rfl (by rfl) 3 (.tmp 20) rfl w1.heap.size 0 rfl _ g0 Tryz.aggInt ?_)
                     | (refine wpList_loadG rfl (by rfl) 3 (.tmp 25) rfl w1.heap.size 1 rfl _ g1 Tryz.aggInt ?_)
                     | (refine wpList_loadG rfl (by rfl) 3 (.tmp 30) rfl w1.heap.size 1 rfl _ g1 Tryz.aggInt ?_)
                     | (refine wpList_binG rfl (by rfl) .gtr 3 (.tmp 21) _ _ rfl (.int .i64 m.facts.length) (.int .i64 16) (.bool (decide ((16 : Int) < (m.facts.length : Int)))) rfl rfl (Tryz.gtrInt _ _ _ _ _) ?_)
                     | (refine wpList_binG rfl (by rfl) .lss 3 (.tmp 26) _ _ rfl (.int .i64 m.blocks.length) (.int .i64 1) (.bool (decide ((m.blocks.length : Int) < 1))) rfl rfl (Tryz.lssInt _ _ _ _ _) ?_)
                     | (refine wpList_binG rfl (by rfl) .gtr 3 (.tmp 31) _ _ rfl (.int .i64 m.blocks.length) (.int .i64 3) (.bool (decide ((3 : Int) < (m.blocks.length : Int)))) rfl rfl (Tryz.gtrInt _ _ _ _ _) ?_)
                     | (go_at_call 108
                        refine (KR.out _ B3.out).mono ?_
                        rintro e w4 ⟨rfl, hb4⟩
                        have C4 := Lib.hid (C3.out.all hb4)
                        have Y4 := Lib.hid (Y3.out.all hb4)
                        have X4 := Lib.hid (X3.out.below hb4)
                        have B4 : Hid (Below w.heap.size w w4) := Lib.hid (B3.out.trans (hb4.mono B3.out.size))
                        clear hb4 x0 x1 x2 x3 x4 x5 g0 g1)
                     | (refine wpList_storeM rfl 82 (.tmp 38) (.tmp 37) rfl w1.heap.size 2 rfl (ints (pad m.facts)) rfl 85 _ C4.out (by rw [HGL.out, HPF.out]; decide) (by rw [HPF.out]; exact Tryz.sizeRow) HP1.out ?_
                        intro w5 hc5 ha5
                        rw [HGF.out] at hc5
                        have C5 := Lib.hid hc5
                        have Y5 := Lib.hid (ha5.cm Y4.out (by rw [HS1.out]; omega))
                        have B5 : Hid (Below w.heap.size w w5) := Lib.hid (B4.out.trans (ha5.below B1.out.size))
                        have X5 := Lib.hid (X4.out.of_block (ha5.block w.heap.size (by rw [HS1.out]; omega)))
                        obtain ⟨x0, x1, x2, x3, x4, x5⟩ := X5.out
                        clear hc5 ha5))))))
    clear x0 x1 x2 x3 x4 x5
    go_loopw [42] (fun iv wr => ∃ k : Nat, k ≤ m.blocks.length ∧ iv = .int .i64 k ∧ Hid (∀ j, j < k → (m.blocks.getD j []).length = m.facts.length) ∧ Hid (Cm wr w1.heap.size 85 (ints (gL m.facts.length m.blocks.length m.facts (m.blocks.take k) m.actual))) ∧ Hid (Cm wr (w.heap.size + 1) 85 (ints Z)) ∧ Hid (Below w.heap.size w wr)) (fun iv _ => m.blocks.length - (intOf iv).toNat)
    case atStart => exact ⟨0, Nat.zero_le _, rfl, Lib.hid (fun j hj => by omega), C5, Y5, B5⟩
    case round =>
      obtain ⟨k, hk, rfl, HK, CK, YK, BK⟩ := hrel
      have hsm : small m.facts (m.blocks.take k) := small_take z2 (fun j hj => by rw [HK.out j hj]; exact z2)
      by_cases hlt : k < m.blocks.length
      · obtain ⟨b, o, u, rfl, _, _, hbl, c0, hu⟩ := (HBV.out.keeps (Keeps.of_below BK.out hhi)).row rfl k hlt
        obtain ⟨a1, q1, e1⟩ := hu.form
        subst e1
        have KR2 := Lib.hid (fun W (h : Below wr.heap.size wr W) hl => rowOf_any lo hi _ (m.blocks.getD k []) W (hu.keeps (Keeps.of_all h)) hl)
        have g0 := CK.out.g0
        by_cases hl : (m.blocks.getD k []).length = m.facts.length
        · have HK2 : Hid (∀ j, j < k + 1 → (m.blocks.getD j []).length = m.facts.length) := Lib.hid (fun j hj => by
            rcases Nat.lt_or_eq_of_le (Nat.le_of_lt_succ hj) with h | h
            · exact HK.out j h
            · rw [h]; exact hl)
          have HSET := Lib.hid (gL_set (n := m.facts.length) (a := m.blocks.length) (c := m.actual) (rows' := m.blocks.take (k + 1)) hsm (r := m.blocks.getD k []) (by omega) (by omega : k < 3) (take_getD (by omega)) (fun i hi => by
            rcases Nat.lt_or_ge i k with h | h
            · rw [take_getD h, take_getD (by omega)]
            · rw [take_getD_none h, take_getD_none (by omega)]))
          have HL67 : Hid ((ints (gL m.facts.length m.blocks.length m.facts (m.blocks.take k) m.actual)).length = 67) := Lib.hid (by rw [ints_len]; exact gL_len hsm)
          have HPL : Hid ((ints (pad (m.blocks.getD k []))).length = 16) := Lib.hid (by rw [ints_len, pad_len (by omega)])
          have HPO := Lib.hid (fun v (hv : v ∈ ints (pad (m.blocks.getD k []))) => ints_one hv)
          rw [hl] at c0 KR2
          clear hu hl hsm
          generalize gL m.facts.length m.blocks.length m.facts (m.blocks.take k) m.actual = GK at *
          generalize m.blocks.getD k [] = l at *
          have hk0 : (0 : Int) ≤ (k : Int) := Int.natCast_nonneg _
          have hk1 : (k : Int) < 3 := by omega
          go_wp2_with
            (first
              | (go_at_call 108
                 refine (KR2.out _ (Below.refl _ _) z2).mono ?_
                 rintro e w6 ⟨rfl, hb6⟩
                 have C6 := Lib.hid (CK.out.all hb6)
                 have Y6 := Lib.hid (YK.out.all hb6)
                 have B6 : Hid (Below w.heap.size w w6) := Lib.hid (BK.out.trans (hb6.mono BK.out.size))
                 clear hb6 c0 g0)
              | (refine wpList_storeM rfl 82 (.tmp 57) (.tmp 55) rfl w1.heap.size (18 + k * 16) rfl (ints (pad l)) rfl 85 _ C6.out (by rw [HL67.out, HPL.out]; omega) (by rw [HPL.out]; exact Tryz.sizeRow) HPO.out ?_
                 intro w7 hc7 ha7
                 rw [HSET.out] at hc7
                 have C7 := Lib.hid hc7
                 have Y7 := Lib.hid (ha7.cm Y6.out (by rw [HS1.out]; omega))
                 have B7 : Hid (Below w.heap.size w w7) := Lib.hid (B6.out.trans (ha7.below B1.out.size))
                 clear hc7 ha7))
          go_roundw
          case rel => exact ⟨k + 1, by omega, by go_num, HK2, C7, Y7, B7⟩
          case measure => simp [intOf]; omega
        · have HNO : Hid (mdOk m = false) := Lib.hid (mdOk_row hlt hl)
          have hne : ((m.blocks.getD k []).length == m.facts.length) = false := by rw [beq_eq_false_iff_ne]; exact hl
          have hne3 : (((m.blocks.getD k []).length : Int) != (m.facts.length : Int)) = true := by rw [bne_iff_ne]; omega
          have hne4 : ((m.blocks.getD k []).length != m.facts.length) = true := by rw [bne_iff_ne]; exact hl
          have hne2 : (((m.blocks.getD k []).length : Int) == (m.facts.length : Int)) = false := by rw [beq_eq_false_iff_ne]; omega
          clear hu KR2 hsm
          generalize m.blocks.getD k [] = l at *
          go_wp2_with
            (first
              | (refine wpList_buildM rfl 85 _ rfl #[] (by simp) (ints Z) (HB0.out _) ?_)
              | (refine wpList_storeM rfl 85 (.tmp 2) (.tmp 52) rfl (w.heap.size + 1) 0 rfl (ints Z) rfl 85 _ YK.out (by rw [HZL.out]; decide) (by rw [HZL.out]; exact Tryz.sizeGrid) HZ1.out ?_
                 intro w8 hc8 ha8
                 rw [lay'_all (Eq.refl _)] at hc8
                 have C8 := Lib.hid hc8
                 have B8 : Hid (Below w.heap.size w w8) := Lib.hid (BK.out.trans (ha8.below (by omega)))
                 clear hc8 ha8
                 go_wp2_with fail
                 refine bodyPost_ret (results_mid2 Tryz.results59 _ _ (w.heap.size + 1) (ints Z) _ (.bool false) rfl rfl C8.out.whole Tryz.underlying85 rfl (by rw [HZL.out]; exact Tryz.sizeGrid)) rfl ?_
                 exact ⟨by rw [show r = none by rw [HR.out, HNO.out]; rfl]; rfl, B8.out⟩))
      · obtain rfl : k = m.blocks.length := by omega
        have HALL : Hid (mdOk m = okNums m.facts.length m.facts m.blocks m.actual) := Lib.hid (mdOk_nums ⟨z1, z2, z3, z4⟩ (by rw [List.all_eq_true]; intro j hj; rw [List.mem_range] at hj; rw [HK.out j hj]; simp))
        rw [List.take_of_length_le (Nat.le_refl _)] at hsm CK
        have KN := Lib.hid (fun W => numbersOk_any m.facts.length m.blocks.length m.actual m.facts m.blocks hsm z2 W)
        have HL67 : Hid ((ints (gL m.facts.length m.blocks.length m.facts m.blocks m.actual)).length = 67) := Lib.hid (by rw [ints_len]; exact gL_len hsm)
        have HGO := Lib.hid (fun v (hv : v ∈ ints (gL m.facts.length m.blocks.length m.facts m.blocks m.actual)) => ints_one hv)
        have HGOF : Hid (gOf m = gL m.facts.length m.blocks.length m.facts m.blocks m.actual) := Lib.hid rfl
        rw [← HALL.out] at KN
        clear hsm HALL
        generalize gL m.facts.length m.blocks.length m.facts m.blocks m.actual = GM at *
        cases hok : mdOk m with
        | false =>
          have HNO := Lib.hid hok
          rw [hok] at KN
          clear hok
          go_wp2_with
            (first
              | (refine wpList_loadM rfl 85 (.tmp 4) rfl w1.heap.size 0 rfl 85 (ints GM) (ints GM) CK.out (fun j _ => by rw [Nat.zero_add]) _ Tryz.underlying85 rfl (by rw [HL67.out]; exact Tryz.sizeGrid) ?_)
              | (go_at_call 109
                 refine (KN.out _).mono ?_
                 rintro e w6 ⟨rfl, hb6⟩
                 have Y6 := Lib.hid (YK.out.all hb6)
                 have B6 : Hid (Below w.heap.size w w6) := Lib.hid (BK.out.trans (hb6.mono BK.out.size))
                 clear hb6)
              | (refine wpList_buildM rfl 85 _ rfl #[] (by simp) (ints Z) (HB0.out _) ?_)
              | (refine wpList_storeM rfl 85 (.tmp 2) (.tmp 62) rfl (w.heap.size + 1) 0 rfl (ints Z) rfl 85 _ Y6.out (by rw [HZL.out]; decide) (by rw [HZL.out]; exact Tryz.sizeGrid) HZ1.out ?_
                 intro w8 hc8 ha8
                 rw [lay'_all (Eq.refl _)] at hc8
                 have C8 := Lib.hid hc8
                 have B8 : Hid (Below w.heap.size w w8) := Lib.hid (B6.out.trans (ha8.below (by omega)))
                 clear hc8 ha8
                 go_wp2_with fail
                 refine bodyPost_ret (results_mid2 Tryz.results59 _ _ (w.heap.size + 1) (ints Z) _ (.bool false) rfl rfl C8.out.whole Tryz.underlying85 rfl (by rw [HZL.out]; exact Tryz.sizeGrid)) rfl ?_
                 exact ⟨by rw [show r = none by rw [HR.out, HNO.out]; rfl]; rfl, B8.out⟩))
        | true =>
          have HYES := Lib.hid hok
          rw [hok] at KN
          clear hok
          go_wp2_with
            (first
              | (refine wpList_loadM rfl 85 (.tmp 4) rfl w1.heap.size 0 rfl 85 (ints GM) (ints GM) (by first | exact C6.out | exact CK.out) (fun j _ => by rw [Nat.zero_add]) _ Tryz.underlying85 rfl (by rw [HL67.out]; exact Tryz.sizeGrid) ?_)
              | (go_at_call 109
                 refine (KN.out _).mono ?_
                 rintro e w6 ⟨rfl, hb6⟩
                 have C6 := Lib.hid (CK.out.all hb6)
                 have Y6 := Lib.hid (YK.out.all hb6)
                 have B6 : Hid (Below w.heap.size w w6) := Lib.hid (BK.out.trans (hb6.mono BK.out.size))
                 clear hb6)
              | (refine wpList_storeM rfl 85 (.tmp 2) (.tmp 63) rfl (w.heap.size + 1) 0 rfl (ints GM) rfl 85 _ Y6.out (by rw [HZL.out, HL67.out]; decide) (by rw [HL67.out]; exact Tryz.sizeGrid) HGO.out ?_
                 intro w8 hc8 ha8
                 rw [lay'_all (by rw [HL67.out, HZL.out])] at hc8
                 have C8 := Lib.hid hc8
                 have B8 : Hid (Below w.heap.size w w8) := Lib.hid (B6.out.trans (ha8.below (by omega)))
                 clear hc8 ha8
                 go_wp2_with fail
                 refine bodyPost_ret (results_mid2 Tryz.results59 _ _ (w.heap.size + 1) (ints GM) _ (.bool true) rfl rfl C8.out.whole Tryz.underlying85 rfl (by rw [HL67.out]; exact Tryz.sizeGrid)) rfl ?_
                 exact ⟨by rw [show r = some (gOf m) by rw [HR.out, HYES.out]; rfl, HGOF.out]; rfl, B8.out⟩))
end Go.Proofs.YtodjohdbngbpaaaGreat
