/-
  Contract of spec.l02Parse: it reads a formula from a place of a text of at most 80 bytes.
-/
import Derived.Test.YtilpicahlgieiaaSpecP
import Derived.Test.YtilpicahlgieiaaTermC
namespace Go.Proofs.Ytilpicahlgieiaa
open Go.RowKit
open Go Go.Deep

/-- a local node in its block -/
def NdRow (w : World) (b : Nat) (x : Nd) : Prop := w.rowIs b 106 4 (fun j => if j = 0 then .int .i64 x.op else if j = 1 then .int .i64 x.n else if j = 2 then .int .i64 x.a else .int .i64 x.b)
theorem NdRow.start (w : World) (x : Nd) : NdRow (w.alloc (.cells #[.int .i64 x.op, .int .i64 x.n, .int .i64 x.a, .int .i64 x.b] 106)) w.heap.size x :=
  World.rowIs_alloc w #[.int .i64 x.op, .int .i64 x.n, .int .i64 x.a, .int .i64 x.b] 106 _ (fun i hi => by
    have hi : i < 4 := hi
    have : i = 0 ∨ i = 1 ∨ i = 2 ∨ i = 3 := by omega
    rcases this with rfl | rfl | rfl | rfl <;> rfl)
theorem NdRow.cells {w : World} {b : Nat} {x : Nd} (h : NdRow w b x) : w.cell? ⟨b, 0, none⟩ = some (.int .i64 x.op) ∧ w.cell? ⟨b, 1, none⟩ = some (.int .i64 x.n) ∧ w.cell? ⟨b, 2, none⟩ = some (.int .i64 x.a) ∧ w.cell? ⟨b, 3, none⟩ = some (.int .i64 x.b) ∧
    w.frozen? ⟨b, 0, none⟩ = false ∧ w.frozen? ⟨b, 1, none⟩ = false ∧ w.frozen? ⟨b, 2, none⟩ = false ∧ w.frozen? ⟨b, 3, none⟩ = false :=
  ⟨World.rowIs.cell h (i := 0) (by decide), World.rowIs.cell h (i := 1) (by decide), World.rowIs.cell h (i := 2) (by decide), World.rowIs.cell h (i := 3) (by decide), World.rowIs.frozen h 0, World.rowIs.frozen h 1, World.rowIs.frozen h 2, World.rowIs.frozen h 3⟩
theorem NdRow.grew {w w' : World} {v v' : Value} {b : Nat} {x : Nd} (h : NdRow w b x) (hg : Grew w v w' v') (hne : v.ownBlock ≠ some b) : NdRow w' b x :=
  World.rowIs.of_block h (hg.1.block b (World.rowIs.lt h) (fun e => hne e.symm))
theorem NdRow.setA {w : World} {b : Nat} {x : Nd} (h : NdRow w b x) (a : Int) : NdRow (w.setCell ⟨b, 2, none⟩ (.int .i64 a)) b ⟨x.op, x.n, a, x.b⟩ :=
  (World.rowIs.set h 2 (.int .i64 a)).congr fun i hi => by
    have : i = 0 ∨ i = 1 ∨ i = 2 ∨ i = 3 := by omega
    rcases this with rfl | rfl | rfl | rfl <;> rfl
theorem NdRow.setB {w : World} {b : Nat} {x : Nd} (h : NdRow w b x) (c : Int) : NdRow (w.setCell ⟨b, 3, none⟩ (.int .i64 c)) b ⟨x.op, x.n, x.a, c⟩ :=
  (World.rowIs.set h 3 (.int .i64 c)).congr fun i hi => by
    have : i = 0 ∨ i = 1 ∨ i = 2 ∨ i = 3 := by omega
    rcases this with rfl | rfl | rfl | rfl <;> rfl
theorem own_setFar {w : World} {base : Nat} {e : TypeId} {size : Nat} {v : Value} {n : Nat} {xs : List Value} {b : Nat} (h : w.ownsRow base e size v n xs) (hne : v.ownBlock ≠ some b) (j : Nat) (u : Value) :
    (w.setCell ⟨b, j, none⟩ u).ownsRow base e size v n xs := by
  refine ⟨h.1, ?_⟩
  rcases h.2 with hn | ⟨g, cap, cur, rfl, hbg, hgg, rest⟩
  · exact .inl hn
  · refine .inr ⟨g, cap, cur, rfl, hbg, ?_, rest⟩
    rw [Below.heap_setCell _ _ _ _ (fun e => hne (by show some g = some b; rw [e]))]
    exact hgg
theorem grew_setFar {w w' : World} {v v' : Value} {b : Nat} (h : Grew w v w' v') (hb : w.heap.size ≤ b) (j : Nat) (u : Value) : Grew w v (w'.setCell ⟨b, j, none⟩ u) v' :=
  ⟨⟨h.1.os, h.1.tape, h.1.output, by simpa [World.setCell] using h.1.size, fun k hk hne => by rw [Below.heap_setCell _ _ _ _ (by show k ≠ b; omega)]; exact h.1.block k hk hne⟩, h.2⟩
theorem own_ne {w : World} {base : Nat} {e : TypeId} {size : Nat} {v : Value} {n : Nat} {xs : List Value} (h : w.ownsRow base e size v n xs) : v.ownBlock ≠ some w.heap.size := by
  intro e
  have := (h.lt _ e).2
  omega

/-- what follows the head of a node -/
def sTail (f : Nat) (xs : List Nd) (op n : Int) (r : List UInt8) : Option (List Nd × List UInt8) :=
  if usesI op = 0 then some (xs ++ [⟨op, n, 0, 0⟩], r)
  else match sP f xs r with
  | none => none
  | some (ys, r1) =>
    if usesI op = 1 then some (ys ++ [⟨op, n, (ys.length : Int) - 1, 0⟩], r1)
    else match sP f ys r1 with
    | none => none
    | some (zs, r2) => some (zs ++ [⟨op, n, (ys.length : Int) - 1, (zs.length : Int) - 1⟩], r2)
theorem sP_none {f : Nat} {xs : List Nd} {l : List UInt8} (h : headOf l = none) : sP (f + 1) xs l = none := by
  simp only [sP, h]; split <;> rfl
theorem sP_head {f : Nat} {xs : List Nd} {l r : List UInt8} {op n : Int} (h40 : ¬ 40 < xs.length) (h : headOf l = some (op, n, r)) : sP (f + 1) xs l = sTail f xs op n r := by
  simp only [sP, h]; rw [if_neg h40]; rfl
theorem sTail_0 {f : Nat} {xs : List Nd} {op n : Int} {r : List UInt8} (h : usesI op = 0) : sTail f xs op n r = some (xs ++ [⟨op, n, 0, 0⟩], r) := if_pos h
theorem sTail_n {f : Nat} {xs : List Nd} {op n : Int} {r : List UInt8} (h : ¬ usesI op = 0) (h1 : sP f xs r = none) : sTail f xs op n r = none := by
  unfold sTail; rw [if_neg h, h1]
theorem sTail_1 {f : Nat} {xs ys : List Nd} {op n : Int} {r r1 : List UInt8} (h : usesI op = 1) (h1 : sP f xs r = some (ys, r1)) : sTail f xs op n r = some (ys ++ [⟨op, n, (ys.length : Int) - 1, 0⟩], r1) := by
  unfold sTail; rw [if_neg (by omega), h1]; simp only []; rw [if_pos h]
theorem sTail_2n {f : Nat} {xs ys : List Nd} {op n : Int} {r r1 : List UInt8} (h : usesI op = 2) (h1 : sP f xs r = some (ys, r1)) (h2 : sP f ys r1 = none) : sTail f xs op n r = none := by
  unfold sTail; rw [if_neg (by omega), h1]; simp only []; rw [if_neg (by omega), h2]
theorem sTail_2 {f : Nat} {xs ys zs : List Nd} {op n : Int} {r r1 r2 : List UInt8} (h : usesI op = 2) (h1 : sP f xs r = some (ys, r1)) (h2 : sP f ys r1 = some (zs, r2)) : sTail f xs op n r = some (zs ++ [⟨op, n, (ys.length : Int) - 1, (zs.length : Int) - 1⟩], r2) := by
  unfold sTail; rw [if_neg (by omega), h1]; simp only []; rw [if_neg (by omega), h2]

/-- what l02Parse answers -/
def ParPost (S : ByteArray) (base : Nat) (w : World) (v : Value) (at0 m : Nat) (r : Option (List Nd × List UInt8)) (e : Ending) (w' : World) : Prop :=
  match r with
  | some (ys, l') => ∃ (v' : Value) (at' : Nat), e = .returned (.tuple #[v', .int .i64 (at' : Nat)]) ∧ S.data.toList.drop at' = l' ∧ at' ≤ S.size ∧ at0 < at' ∧ ys.length + at0 ≤ m + at' ∧ w'.ownsRow base 106 4 v' ys.length (ndCells ys) ∧ Grew w v w' v'
  | none => ∃ v', e = .returned (.tuple #[v', .int .i64 (-1)]) ∧ Below base w w'

theorem par_end {S : ByteArray} {base : Nat} {w w3 w9 : World} {v v3 v' : Value} {a0 a' m : Nat} {ys : List Nd} {x : Nd} {l' : List UInt8} {q : Int} (hq : q = (a' : Nat)) (hl : S.data.toList.drop a' = l') (h1 : a' ≤ S.size) (h2 : a0 < a') (h3 : ys.length + 1 + a0 ≤ m + a')
    (HO : w9.ownsRow base 106 4 v' (ys.length + 1) (ndCells ys ++ [.int .i64 x.op, .int .i64 x.n, .int .i64 x.a, .int .i64 x.b])) (G : Grew w v w3 v3) (GR : Grew w3 v3 w9 v') :
    ParPost S base w v a0 m (some (ys ++ [x], l')) (.returned (.tuple #[v', .int .i64 q])) w9 := by
  subst hq
  refine ⟨v', a', rfl, hl, h1, h2, by simp; omega, ?_, G.trans GR⟩
  rw [ndCells_app, show (ys ++ [x]).length = ys.length + 1 by simp]
  exact HO

theorem drop_head {S : ByteArray} {a : Nat} (h : a < S.size) : S.data.toList.drop a = S[a] :: S.data.toList.drop (a + 1) := by
  rw [List.drop_eq_getElem_cons (by simpa using h)]; rfl

end Go.Proofs.Ytilpicahlgieiaa
