/-
  Several texts in one: SpecP SpecQ. Conditions: as each theorem says.
-/
import Derived.Test.YtodjohdbngbpaaaZTmx
import Derived.Test.YtodjohdbngbpaaaZForm
import Derived.Lib.SlBytesConst
/-
  Contracts of spec.l02Op; an append that tells where its row lies.
-/
namespace Go.Proofs.Ytodjohdbngbpaaa
open Go.RowKit
open Go Go.Deep

theorem cell_marked (w : World) (c : Array Value) (t : TypeId) (a b i : Nat) : (w.alloc (.cells c t (a, b))).cell? ⟨w.heap.size, i, none⟩ = c[i]? :=
  cell_of_row _ _ i c t (a, b) (heap_alloc_new w _)

/-- where a row lies behind an append -/
def Loc (w : World) (v v' : Value) : Prop := v'.ownBlock = v.ownBlock ∨ ∃ g, v'.ownBlock = some g ∧ w.heap.size ≤ g
theorem Loc.refl (w : World) (v : Value) : Loc w v v := .inl rfl
theorem Loc.trans {w w1 : World} {v v1 v2 : Value} (h : Loc w v v1) (hw : w.heap.size ≤ w1.heap.size) (k : Loc w1 v1 v2) : Loc w v v2 := by
  rcases k with k | ⟨g, k, hg⟩
  · rcases h with h | ⟨g, h, hg⟩
    · exact .inl (k.trans h)
    · exact .inr ⟨g, k.trans h, hg⟩
  · exact .inr ⟨g, k, Nat.le_trans hw hg⟩
/-- what a call that may append to the row v has done to memory -/
def Grew (w : World) (v : Value) (w' : World) (v' : Value) : Prop := w.grownBy w' v.ownBlock ∧ Loc w v v'
theorem Grew.trans {w w1 w2 : World} {v v1 v2 : Value} (h : Grew w v w1 v1) (k : Grew w1 v1 w2 v2) : Grew w v w2 v2 := by
  refine ⟨⟨k.1.os.trans h.1.os, k.1.tape.trans h.1.tape, k.1.output.trans h.1.output, Nat.le_trans h.1.size k.1.size, fun i hi hne => ?_⟩, h.2.trans h.1.size k.2⟩
  rw [k.1.block i (Nat.lt_of_lt_of_le hi h.1.size) (fun e => ?_)]
  · exact h.1.block i hi hne
  · rcases h.2 with h2 | ⟨g, h2, hg⟩
    · exact hne (e.trans h2)
    · rw [h2] at e
      simp at e
      omega
theorem Grew.of_below {w w' : World} (v : Value) (h : Below w.heap.size w w') : Grew w v w' v := ⟨⟨h.os, h.tape, h.output, h.size, fun k hk _ => h.block k hk⟩, .inl rfl⟩
theorem Grew.below {w w' : World} {v v' : Value} {base : Nat} (h : Grew w v w' v') (hb : base ≤ w.heap.size) (hv : ∀ k, v.ownBlock = some k → base ≤ k) : Below base w w' :=
  (Below.refl base w).grown h.1 hb hv
/-- a block that is not the row's is kept -/
theorem Grew.cell {w w' : World} {v v' : Value} (h : Grew w v w' v') {b : Nat} (hb : b < w.heap.size) (hne : v.ownBlock ≠ some b) (j : Nat) : w'.cell? ⟨b, j, none⟩ = w.cell? ⟨b, j, none⟩ :=
  World.cell?_of_block (w := w) (h.1.block b hb (fun e => hne e.symm))
theorem Grew.ne {w w' : World} {v v' : Value} (h : Grew w v w' v') {b : Nat} (hb : b < w.heap.size) (hne : v.ownBlock ≠ some b) : v'.ownBlock ≠ some b := by
  rcases h.2 with e | ⟨g, e, hg⟩
  · rw [e]; exact hne
  · rw [e]; intro h'; simp at h'; omega

section
variable {P : Program}
/-- append(s, y), y one element of four cells, and where the row lies then -/
theorem wpList_push4W {ops : Array Oper} {rest : List Oper} {o : Oper} {a : Act} {Q : Exit → Act → World → Prop} (hgd : o.guard = none) (s x : Operand) (t : TypeId)
    (ho : o.op = .call { callee := .builtin .append, args := #[s, x], argTypes := #[t, t] })
    (e : TypeId) (z : Value) (bytes : Nat) (ht : P.underlying t = some (.slice e))
    (hinfo : (P.info? e).map (fun i => (i.zero, i.size, i.bytes)) = some (some z, 4, bytes)) (hzs : z.cells.size = 4)
    (base : Nat) (w0 : World) (y0 y1 y2 y3 v : Value) (n : Nat) (xs : List Value) (hown : w0.ownsRow base e 4 v n xs)
    (hs : a.eval s = v) (b : Nat) (hx : a.eval x = .slice (some ⟨b, 0, none⟩) 1 1) (hbk : b = w0.heap.size) (h0 : y0.oneCell' = true) (h1 : y1.oneCell' = true) (h2 : y2.oneCell' = true) (h3 : y3.oneCell' = true)
    (h63 : n + 1 ≤ maxLen) (hbytes : (n + 1) * bytes ≤ 140737488355328) (hbase : base ≤ w0.heap.size)
    (h : ∀ v' w', w'.ownsRow base e 4 v' (n + 1) (xs ++ [y0, y1, y2, y3]) → Grew w0 v w' v' → wpList P ops Q rest (a.put o.dst v') w') :
    wpList P ops Q (o :: rest) a (w0.alloc (.cells #[y0, y1, y2, y3] e)) := by
  subst hbk
  obtain ⟨i0, hi, hz0, hz1, hz2⟩ := info_parts hinfo
  have hnews : ∀ j u, [y0, y1, y2, y3][j]? = some u → (w0.alloc (.cells #[y0, y1, y2, y3] e)).cell? ((⟨w0.heap.size, 0, none⟩ : Addr).add j) = some u := by
    intro j u hu
    have hj : j < 4 := by
      rcases Nat.lt_or_ge j 4 with h | h
      · exact h
      · rw [List.getElem?_eq_none (by simpa using h)] at hu; cases hu
    rw [addr_add0, World.cell?_alloc_at _ _ _ _ rfl, Nat.zero_add]
    rw [← hu]
    have : j = 0 ∨ j = 1 ∨ j = 2 ∨ j = 3 := by omega
    rcases this with rfl | rfl | rfl | rfl <;> rfl
  have hone : ∀ u ∈ [y0, y1, y2, y3], u.oneCell' = true := by
    intro u hu
    simp at hu
    rcases hu with rfl | rfl | rfl | rfl <;> assumption
  have hl4 : ([y0, y1, y2, y3] : List Value).length = 1 * i0.size := by rw [hz1]; rfl
  subst hz2
  refine wpList_plain hgd fun K hK => ?_
  obtain ⟨v', w', hr, hown', hg, _⟩ := run_append_own (P := P) (w0.alloc (.cells #[y0, y1, y2, y3] e)) base t o.type e i0 z 4 i0.bytes ht hi hz0 hz1 rfl hzs (by decide) v n xs (hown.alloc _) ⟨w0.heap.size, 0, none⟩ 1 1 [y0, y1, y2, y3] rfl hnews hone h63 hbytes (by simp; omega)
  have hloc : Loc w0 v v' := by
    rcases hown.2 with ⟨rfl, rfl⟩ | ⟨g, cap, cur, rfl, hbg, hgg, hnc, hcm, hcs, htake⟩
    · have hr' := run_append_nil (P := P) (w0.alloc (.cells #[y0, y1, y2, y3] e)) t o.type e i0 z ht hi hz0 ⟨w0.heap.size, 0, none⟩ 1 1 [y0, y1, y2, y3] hl4 hnews (by decide) (by decide) (by have hb := hbytes; omega)
      rw [hr'] at hr
      simp only [Result.ok.injEq] at hr
      rw [← hr.1]
      exact .inr ⟨_, rfl, by simp⟩
    · by_cases hroom : n + 1 ≤ cap
      · have hr' := run_append_room (P := P) (w0.alloc (.cells #[y0, y1, y2, y3] e)) t o.type e i0 ht hi g n cap cur (by rw [Below.heap_alloc _ _ _ (Array.getElem?_eq_some_iff.1 hgg).1]; exact hgg) ⟨w0.heap.size, 0, none⟩ 1 1 [y0, y1, y2, y3] hl4 hnews hone hroom (by rw [hz1, hcs]; simp only [List.length_cons, List.length_nil]; omega)
        rw [hr'] at hr
        simp only [Result.ok.injEq] at hr
        rw [← hr.1]
        exact .inl rfl
      · have holds : ∀ j u, xs[j]? = some u → (w0.alloc (.cells #[y0, y1, y2, y3] e)).cell? ((⟨g, 0, none⟩ : Addr).add j) = some u := (hown.alloc _).cells (g := g) rfl
        have hr' := run_append_grow (P := P) (w0.alloc (.cells #[y0, y1, y2, y3] e)) t o.type e i0 z ht hi hz0 ⟨g, 0, none⟩ n cap xs (by rw [hz1]; exact hown.1) holds ⟨w0.heap.size, 0, none⟩ 1 1 [y0, y1, y2, y3] hl4 hnews (by omega) (by unfold maxLen at h63; omega) (growslice_fits (by omega) hbytes)
        rw [hr'] at hr
        simp only [Result.ok.injEq] at hr
        rw [← hr.1]
        exact .inr ⟨_, rfl, by simp⟩
  have hgrew : Grew w0 v w' v' := ⟨⟨hg.os, hg.tape, hg.output, Nat.le_trans (by simp) hg.size, fun k hk hne => by rw [hg.block k (by simp; omega) hne, Below.heap_alloc _ _ _ hk]⟩, hloc⟩
  unfold Oper.wp execOp
  simp only [ho, resolve, invoke, builtin, Sem.run_bind, Sem.run_pure, Result.andThen_ok, List.map_toArray, List.map_cons, List.map_nil, hs, hx, hr]
  exact hK _ _ (h v' w' hown' hgrew)
end
end Go.Proofs.Ytodjohdbngbpaaa

/-
  Contract of spec.l02Parse: it reads a formula from a place of a text of at most 80 bytes.
-/
namespace Go.Proofs.Ytodjohdbngbpaaa
open Go.RowKit
open Go Go.Deep

/-- a local node in its block -/
def NdRow (w : World) (b : Nat) (x : Nd) : Prop := w.rowIs b 91 4 (fun j => if j = 0 then .int .i64 x.op else if j = 1 then .int .i64 x.n else if j = 2 then .int .i64 x.a else .int .i64 x.b)
theorem NdRow.start (w : World) (x : Nd) : NdRow (w.alloc (.cells #[.int .i64 x.op, .int .i64 x.n, .int .i64 x.a, .int .i64 x.b] 91)) w.heap.size x :=
  World.rowIs_alloc w #[.int .i64 x.op, .int .i64 x.n, .int .i64 x.a, .int .i64 x.b] 91 _ (fun i hi => by
    have hi : i < 4 := hi
    have : i = 0 ∨ i = 1 ∨ i = 2 ∨ i = 3 := by omega
    rcases this with rfl | rfl | rfl | rfl <;> rfl)
theorem NdRow.cells {w : World} {b : Nat} {x : Nd} (h : NdRow w b x) : w.cell? ⟨b, 0, none⟩ = some (.int .i64 x.op) ∧ w.cell? ⟨b, 1, none⟩ = some (.int .i64 x.n) ∧ w.cell? ⟨b, 2, none⟩ = some (.int .i64 x.a) ∧ w.cell? ⟨b, 3, none⟩ = some (.int .i64 x.b) ∧
    w.frozen? ⟨b, 0, none⟩ = false ∧ w.frozen? ⟨b, 1, none⟩ = false ∧ w.frozen? ⟨b, 2, none⟩ = false ∧ w.frozen? ⟨b, 3, none⟩ = false :=
  ⟨World.rowIs.cell h (i := 0) (by decide), World.rowIs.cell h (i := 1) (by decide), World.rowIs.cell h (i := 2) (by decide), World.rowIs.cell h (i := 3) (by decide), World.rowIs.frozen h 0, World.rowIs.frozen h 1, World.rowIs.frozen h 2, World.rowIs.frozen h 3⟩
theorem NdRow.grew {w w' : World} {v v' : Value} {b : Nat} {x : Nd} (h : NdRow w b x) (hg : Grew w v w' v') (hne : v.ownBlock ≠ some b) : NdRow w' b x :=
  World.rowIs.of_block h (hg.1.block b (World.rowIs.lt h) (fun e => hne e.symm))
theorem NdRow.setA {w : World} {b : Nat} {x : Nd} (h : NdRow w b x) (a : Int) : NdRow (w.setCell ⟨b, 2, none⟩ (.int .i64 a)) b ⟨x.op, x.n, a, x.b⟩ :=
  (World.rowIs.set h 2 (.int .i64 a)).congr fun i hi => by
    have : i = 0 ∨ i = 1 ∨ i = 2 ∨ i = 3 := by omega
    rcases this with rfl | rfl | rfl | rfl <;> rfl
theorem NdRow.setB {w : World} {b : Nat} {x : Nd} (h : NdRow w b x) (c : Int) : NdRow (w.setCell ⟨b, 3, none⟩ (.int .i64 c)) b ⟨x.op, x.n, x.a, c⟩ :=
  (World.rowIs.set h 3 (.int .i64 c)).congr fun i hi => by
    have : i = 0 ∨ i = 1 ∨ i = 2 ∨ i = 3 := by omega
    rcases this with rfl | rfl | rfl | rfl <;> rfl
theorem own_setFar {w : World} {base : Nat} {e : TypeId} {size : Nat} {v : Value} {n : Nat} {xs : List Value} {b : Nat} (h : w.ownsRow base e size v n xs) (hne : v.ownBlock ≠ some b) (j : Nat) (u : Value) :
    (w.setCell ⟨b, j, none⟩ u).ownsRow base e size v n xs := by
  refine ⟨h.1, ?_⟩
  rcases h.2 with hn | ⟨g, cap, cur, rfl, hbg, hgg, rest⟩
  · exact .inl hn
  · refine .inr ⟨g, cap, cur, rfl, hbg, ?_, rest⟩
    rw [Below.heap_setCell _ _ _ _ (fun e => hne (by show some g = some b; rw [e]))]
    exact hgg
theorem grew_setFar {w w' : World} {v v' : Value} {b : Nat} (h : Grew w v w' v') (hb : w.heap.size ≤ b) (j : Nat) (u : Value) : Grew w v (w'.setCell ⟨b, j, none⟩ u) v' :=
  ⟨⟨h.1.os, h.1.tape, h.1.output, by simpa [World.setCell] using h.1.size, fun k hk hne => by rw [Below.heap_setCell _ _ _ _ (by show k ≠ b; omega)]; exact h.1.block k hk hne⟩, h.2⟩
theorem own_ne {w : World} {base : Nat} {e : TypeId} {size : Nat} {v : Value} {n : Nat} {xs : List Value} (h : w.ownsRow base e size v n xs) : v.ownBlock ≠ some w.heap.size := by
  intro e
  have := (h.lt _ e).2
  omega

/-- what follows the head of a node -/
def sTail (f : Nat) (xs : List Nd) (op n : Int) (r : List UInt8) : Option (List Nd × List UInt8) :=
  if usesI op = 0 then some (xs ++ [⟨op, n, 0, 0⟩], r)
  else match sP f xs r with
  | none => none
  | some (ys, r1) =>
    if usesI op = 1 then some (ys ++ [⟨op, n, (ys.length : Int) - 1, 0⟩], r1)
    else match sP f ys r1 with
    | none => none
    | some (zs, r2) => some (zs ++ [⟨op, n, (ys.length : Int) - 1, (zs.length : Int) - 1⟩], r2)
theorem sP_none {f : Nat} {xs : List Nd} {l : List UInt8} (h : headOf l = none) : sP (f + 1) xs l = none := by
  simp only [sP, h]; split <;> rfl
theorem sP_head {f : Nat} {xs : List Nd} {l r : List UInt8} {op n : Int} (h40 : ¬ 40 < xs.length) (h : headOf l = some (op, n, r)) : sP (f + 1) xs l = sTail f xs op n r := by
  simp only [sP, h]; rw [if_neg h40]; rfl
theorem sTail_0 {f : Nat} {xs : List Nd} {op n : Int} {r : List UInt8} (h : usesI op = 0) : sTail f xs op n r = some (xs ++ [⟨op, n, 0, 0⟩], r) := if_pos h
theorem sTail_n {f : Nat} {xs : List Nd} {op n : Int} {r : List UInt8} (h : ¬ usesI op = 0) (h1 : sP f xs r = none) : sTail f xs op n r = none := by
  unfold sTail; rw [if_neg h, h1]
theorem sTail_1 {f : Nat} {xs ys : List Nd} {op n : Int} {r r1 : List UInt8} (h : usesI op = 1) (h1 : sP f xs r = some (ys, r1)) : sTail f xs op n r = some (ys ++ [⟨op, n, (ys.length : Int) - 1, 0⟩], r1) := by
  unfold sTail; rw [if_neg (by omega), h1]; simp only []; rw [if_pos h]
theorem sTail_2n {f : Nat} {xs ys : List Nd} {op n : Int} {r r1 : List UInt8} (h : usesI op = 2) (h1 : sP f xs r = some (ys, r1)) (h2 : sP f ys r1 = none) : sTail f xs op n r = none := by
  unfold sTail; rw [if_neg (by omega), h1]; simp only []; rw [if_neg (by omega), h2]
theorem sTail_2 {f : Nat} {xs ys zs : List Nd} {op n : Int} {r r1 r2 : List UInt8} (h : usesI op = 2) (h1 : sP f xs r = some (ys, r1)) (h2 : sP f ys r1 = some (zs, r2)) : sTail f xs op n r = some (zs ++ [⟨op, n, (ys.length : Int) - 1, (zs.length : Int) - 1⟩], r2) := by
  unfold sTail; rw [if_neg (by omega), h1]; simp only []; rw [if_neg (by omega), h2]

/-- what l02Parse answers -/
def ParPost (S : ByteArray) (base : Nat) (w : World) (v : Value) (at0 m : Nat) (r : Option (List Nd × List UInt8)) (e : Ending) (w' : World) : Prop :=
  match r with
  | some (ys, l') => ∃ (v' : Value) (at' : Nat), e = .returned (.tuple #[v', .int .i64 (at' : Nat)]) ∧ S.data.toList.drop at' = l' ∧ at' ≤ S.size ∧ at0 < at' ∧ ys.length + at0 ≤ m + at' ∧ w'.ownsRow base 91 4 v' ys.length (ndCells ys) ∧ Grew w v w' v'
  | none => ∃ v', e = .returned (.tuple #[v', .int .i64 (-1)]) ∧ Below base w w'

theorem par_end {S : ByteArray} {base : Nat} {w w3 w9 : World} {v v3 v' : Value} {a0 a' m : Nat} {ys : List Nd} {x : Nd} {l' : List UInt8} {q : Int} (hq : q = (a' : Nat)) (hl : S.data.toList.drop a' = l') (h1 : a' ≤ S.size) (h2 : a0 < a') (h3 : ys.length + 1 + a0 ≤ m + a')
    (HO : w9.ownsRow base 91 4 v' (ys.length + 1) (ndCells ys ++ [.int .i64 x.op, .int .i64 x.n, .int .i64 x.a, .int .i64 x.b])) (G : Grew w v w3 v3) (GR : Grew w3 v3 w9 v') :
    ParPost S base w v a0 m (some (ys ++ [x], l')) (.returned (.tuple #[v', .int .i64 q])) w9 := by
  subst hq
  refine ⟨v', a', rfl, hl, h1, h2, by simp; omega, ?_, G.trans GR⟩
  rw [ndCells_app, show (ys ++ [x]).length = ys.length + 1 by simp]
  exact HO

theorem drop_head {S : ByteArray} {a : Nat} (h : a < S.size) : S.data.toList.drop a = S[a] :: S.data.toList.drop (a + 1) := by
  rw [List.drop_eq_getElem_cons (by simpa using h)]; rfl

end Go.Proofs.Ytodjohdbngbpaaa
