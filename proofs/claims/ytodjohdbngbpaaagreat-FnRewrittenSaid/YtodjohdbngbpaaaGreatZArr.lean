/-
  Several texts in one: Arr Mdm Row Grid. Conditions: as each theorem says.
-/
import Derived.Test.YtodjohdbngbpaaaGreatZLib
import Derived.Handy
import Derived.Deep.MidRow
import Derived.Deep.WholeRow
import Derived.Laws.CopyOwn
import Derived.Laws.StructEq
import Derived.ChangeKeysEq
import Derived.WideShapes
import Derived.Deep.OwnRows
import Derived.Deep.Matrix
import Derived.Lib.SmallJoins
import Derived.ChangeSlices
/-
  Small laws over any program: structs and arrays whole, in and out of memory; a result that lies in memory.
-/
namespace Go.Proofs.YtodjohdbngbpaaaGreat
open Go.RowKit
open Go Go.Deep

section
variable {P : Program}
/-- one result, a struct or an array in a block of the call's own -/
theorem results_mid1 {fn : Func} {p : Tmp} {ty : TypeId} (h : fn.results = #[.cell p ty]) (tmps : Array Value) (w : World) (b : Nat) (cs : List Value) (d : TypeDesc)
    (hp : tmps.getD p undef = .pointer (some ⟨b, 0, none⟩)) (hc : w.rangeAt b 0 cs) (hu : P.underlying ty = some d) (hd : d.isRow = true) (hi : (P.info? ty).map (·.size) = some cs.length) :
    (results fn tmps).run P w = .ok (.agg cs.toArray) w := by
  have hp' : tmps[p]?.getD undef = .pointer (some ⟨b, 0, none⟩) := by simpa using hp
  simp [results, h, hp', asAddr, run_loadVar_mid w b 0 ty cs d hc hu hd hi]
/-- two results, the first one so -/
theorem results_mid2 {fn : Func} {p q : Tmp} {ty : TypeId} (h : fn.results = #[.cell p ty, .tmp q]) (tmps : Array Value) (w : World) (b : Nat) (cs : List Value) (d : TypeDesc) (v : Value)
    (hp : tmps.getD p undef = .pointer (some ⟨b, 0, none⟩)) (hq : tmps.getD q undef = v) (hc : w.rangeAt b 0 cs) (hu : P.underlying ty = some d) (hd : d.isRow = true) (hi : (P.info? ty).map (·.size) = some cs.length) :
    (results fn tmps).run P w = .ok (.tuple #[.agg cs.toArray, v]) w := by
  have hp' : tmps[p]?.getD undef = .pointer (some ⟨b, 0, none⟩) := by simpa using hp
  have hq' : tmps[q]?.getD undef = v := by simpa using hq
  simp [results, h, hp', hq', asAddr, run_loadVar_mid w b 0 ty cs d hc hu hd hi]
end

/-- block b holds just the cells cs -/
def Cm (w : World) (b : Nat) (T : TypeId) (cs : List Value) : Prop := w.heap[b]? = some (.cells cs.toArray T (0, 0))
theorem Cm.lt {w : World} {b : Nat} {T : TypeId} {cs : List Value} (h : Cm w b T cs) : b < w.heap.size := (Array.getElem?_eq_some_iff.1 h).1
theorem Cm.cell {w : World} {b : Nat} {T : TypeId} {cs : List Value} (h : Cm w b T cs) (j : Nat) : w.cell? ⟨b, j, none⟩ = cs[j]? := by
  rw [cell_of_row w b j _ T (0, 0) h]; simp
theorem Cm.frozen {w : World} {b : Nat} {T : TypeId} {cs : List Value} (h : Cm w b T cs) (j : Nat) : w.frozen? ⟨b, j, none⟩ = false := frozen_of_row w b j _ T h
theorem Cm.of_block {w w' : World} {b : Nat} {T : TypeId} {cs : List Value} (h : Cm w b T cs) (hb : w'.heap[b]? = w.heap[b]?) : Cm w' b T cs := hb.trans h
theorem Cm.below {w w' : World} {b B : Nat} {T : TypeId} {cs : List Value} (h : Cm w b T cs) (hb : Below B w w') (hB : b < B) : Cm w' b T cs := h.of_block (hb.block b hB)
theorem Cm.all {w w' : World} {b : Nat} {T : TypeId} {cs : List Value} (h : Cm w b T cs) (hb : Below w.heap.size w w') : Cm w' b T cs := h.below hb h.lt
theorem Cm.new {w : World} {b : Nat} {T : TypeId} {cs : List Value} (hb : b = w.heap.size) : Cm (w.alloc (.cells cs.toArray T)) b T cs := by subst hb; exact heap_alloc_new w _
theorem Cm.alloc {w : World} {b : Nat} {T : TypeId} {cs : List Value} (h : Cm w b T cs) (o : Obj) : Cm (w.alloc o) b T cs := h.all ((Below.refl _ _).alloc (Nat.le_refl _) _)
theorem Cm.drewN {w : World} {b : Nat} {T : TypeId} {cs : List Value} (h : Cm w b T cs) (n : Nat) : Cm (w.drewN n) b T cs := h
theorem Cm.drew {w : World} {b : Nat} {T : TypeId} {cs : List Value} (h : Cm w b T cs) : Cm w.drew b T cs := h
theorem Cm.set {w : World} {b : Nat} {T : TypeId} {cs : List Value} (h : Cm w b T cs) (j : Nat) (v : Value) : Cm (w.setCell ⟨b, j, none⟩ v) b T (cs.set j v) := by
  have := heap_setCell_same w b j _ T v h
  unfold Cm
  rw [this]; simp
theorem Cm.other {w : World} {b : Nat} {T : TypeId} {cs : List Value} (h : Cm w b T cs) {b' : Nat} (hb : b ≠ b') (o : Nat) (u : Value) : Cm (w.setCell ⟨b', o, none⟩ u) b T cs :=
  h.of_block (heap_setCell_other w ⟨b', o, none⟩ b u hb)
theorem Cm.range {w : World} {b : Nat} {T : TypeId} {cs : List Value} (h : Cm w b T cs) (o : Nat) (ds : List Value) (hd : ∀ j, j < ds.length → cs[o + j]? = ds[j]?) : w.rangeAt b o ds := by
  intro j v hv
  rw [h.cell, hd j (List.getElem?_eq_some_iff.1 hv).1, hv]
theorem Cm.whole {w : World} {b : Nat} {T : TypeId} {cs : List Value} (h : Cm w b T cs) : w.rangeAt b 0 cs := h.range 0 cs fun j _ => by rw [Nat.zero_add]
theorem Cm.there {w : World} {b : Nat} {T : TypeId} {cs : List Value} (h : Cm w b T cs) (o n : Nat) (hn : o + n ≤ cs.length) : w.there b o n := by
  intro j hj
  refine ⟨?_, h.frozen _⟩
  rw [h.cell, List.getElem?_eq_getElem (by omega)]; rfl
theorem heap_setCells_other : ∀ (vs : List Value) (w : World) (b o k : Nat), k ≠ b → (w.setCells b o vs).heap[k]? = w.heap[k]?
  | [], _, _, _, _, _ => rfl
  | v :: vs, w, b, o, k, h => by
    rw [World.setCells, heap_setCells_other vs _ b (o + 1) k h]
    exact heap_setCell_other w ⟨b, o, none⟩ k v h
theorem size_setCells : ∀ (vs : List Value) (w : World) (b o : Nat), (w.setCells b o vs).heap.size = w.heap.size
  | [], _, _, _ => rfl
  | v :: vs, w, b, o => by rw [World.setCells, size_setCells vs]; simp [World.setCell]
/-- a list with vs laid over it from o on -/
def lay' : List Value → Nat → List Value → List Value
  | cs, _, [] => cs
  | cs, o, v :: vs => lay' (cs.set o v) (o + 1) vs
theorem Cm.sets : ∀ (vs : List Value) {w : World} {b : Nat} {T : TypeId} {cs : List Value} (o : Nat), Cm w b T cs → Cm (w.setCells b o vs) b T (lay' cs o vs)
  | [], _, _, _, _, _, h => h
  | v :: vs, _, _, _, _, o, h => by rw [World.setCells, lay']; exact Cm.sets vs (o + 1) (h.set o v)
theorem lay'_eq : ∀ (vs cs : List Value) (o : Nat), o + vs.length ≤ cs.length → lay' cs o vs = cs.take o ++ vs ++ cs.drop (o + vs.length)
  | [], cs, o, _ => by simp [lay']
  | v :: vs, cs, o, h => by
    have h' : o + 1 + vs.length ≤ (cs.set o v).length := by simp at h ⊢; omega
    rw [lay', lay'_eq vs (cs.set o v) (o + 1) h']
    have ho : o < cs.length := by simp at h; omega
    have e1 : (cs.set o v).take (o + 1) = cs.take o ++ [v] := by
      rw [List.take_add_one, List.getElem?_set_self ho, List.take_set_of_le (Nat.le_refl _)]; rfl
    have e2 : (cs.set o v).drop (o + 1 + vs.length) = cs.drop (o + (v :: vs).length) := by
      rw [List.drop_set_of_lt (by omega), List.length_cons]; congr 1; omega
    rw [e1, e2]; simp
theorem setCells_streams : ∀ (vs : List Value) (w : World) (b o : Nat), (w.setCells b o vs).os = w.os ∧ (w.setCells b o vs).tape = w.tape ∧ (w.setCells b o vs).output = w.output
  | [], _, _, _ => ⟨rfl, rfl, rfl⟩
  | v :: vs, w, b, o => by rw [World.setCells]; exact setCells_streams vs _ b (o + 1)
theorem below_setCells {B : Nat} {a w : World} (h : Below B a w) {b : Nat} (hb : B ≤ b) (o : Nat) (vs : List Value) : Below B a (w.setCells b o vs) :=
  h.trans ⟨(setCells_streams vs w b o).1, (setCells_streams vs w b o).2.1, (setCells_streams vs w b o).2.2, Nat.le_of_eq (size_setCells vs w b o).symm, fun k hk => heap_setCells_other vs w b o k (by omega)⟩
/-- but for block b the world is as it was -/
structure At (b : Nat) (w w' : World) : Prop where
  os : w'.os = w.os
  tape : w'.tape = w.tape
  output : w'.output = w.output
  size : w'.heap.size = w.heap.size
  block : ∀ k, k ≠ b → w'.heap[k]? = w.heap[k]?
theorem At.below {b B : Nat} {w w' : World} (h : At b w w') (hB : B ≤ b) : Below B w w' := ⟨h.os, h.tape, h.output, Nat.le_of_eq h.size.symm, fun k hk => h.block k (by omega)⟩
theorem At.cm {b : Nat} {w w' : World} (h : At b w w') {b' : Nat} {T : TypeId} {cs : List Value} (hc : Cm w b' T cs) (hb : b' ≠ b) : Cm w' b' T cs := hc.of_block (h.block b' hb)
theorem At.setCells (w : World) (b o : Nat) (vs : List Value) : At b w (w.setCells b o vs) := ⟨(setCells_streams vs w b o).1, (setCells_streams vs w b o).2.1, (setCells_streams vs w b o).2.2, size_setCells vs w b o, fun k hk => heap_setCells_other vs w b o k hk⟩
section
variable {P : Program}
/-- a struct or an array is read out of a block of one's own -/
theorem wpList_loadM {ops : Array Oper} {rest : List Oper} {o : Oper} {a : Act} {w : World} {Q : Exit → Act → World → Prop} (hgd : o.guard = none) (ty : TypeId) (x : Operand) (ho : o.op = .load ty x)
    (b off : Nat) (hx : a.eval x = .pointer (some ⟨b, off, none⟩)) (B : TypeId) (cs ds : List Value) (hc : Cm w b B cs) (hd : ∀ j, j < ds.length → cs[off + j]? = ds[j]?)
    (d : TypeDesc) (hu : P.underlying ty = some d) (hr : d.isRow = true) (hi : (P.info? ty).map (·.size) = some ds.length)
    (h : wpList P ops Q rest (a.put o.dst (.agg ds.toArray)) w) : wpList P ops Q (o :: rest) a w :=
  wpList_load_mid hgd ty x ho b off hx ds d (hc.range off ds hd) hu hr hi h
/-- a struct or an array is stored into a block of one's own -/
theorem wpList_storeM {ops : Array Oper} {rest : List Oper} {o : Oper} {a : Act} {w : World} {Q : Exit → Act → World → Prop} (hgd : o.guard = none) (ty : TypeId) (x y : Operand) (ho : o.op = .store ty x y)
    (b off : Nat) (hx : a.eval x = .pointer (some ⟨b, off, none⟩)) (vs : List Value) (hy : a.eval y = .agg vs.toArray) (B : TypeId) (cs : List Value) (hc : Cm w b B cs) (hfit : off + vs.length ≤ cs.length)
    (hi : (P.info? ty).map (·.size) = some vs.length) (h1 : ∀ v ∈ vs, v.oneCell' = true)
    (h : ∀ w', Cm w' b B (lay' cs off vs) → At b w w' → wpList P ops Q rest (a.put o.dst undef) w') : wpList P ops Q (o :: rest) a w := by
  refine wpList_store_mid hgd ty x y ho b off vs.toArray hx hy (by rw [List.size_toArray]; exact hc.there _ _ hfit) (by rw [List.size_toArray]; exact hi) (all_oneCell_toArray h1) ?_
  exact h _ (hc.sets vs off) (At.setCells w b off vs)
end
/-- the whole is stored anew -/
theorem lay'_all {cs vs : List Value} (h : vs.length = cs.length) : lay' cs 0 vs = vs := by
  rw [lay'_eq _ _ _ (by omega), List.take_zero, List.nil_append, List.drop_of_length_le (by omega), List.append_nil]
section
variable {P : Program}
theorem eqItems_arr (d : Nat) {e : TypeId} (hp : P.plainKey e = true) (xs ys : List Value) (hl : xs.length = ys.length) (g : Value → Value → Bool)
    (hg : ∀ a b, a ∈ xs → b ∈ ys → ∀ w, (Op.equalIn d e a b).run P w = .ok (g a b) w) (hge : ∀ a b, a ∈ xs → b ∈ ys → (g a b = true ↔ a = b)) (w : World) :
    ∀ is : List Nat, (∀ i ∈ is, i < xs.length) → ∃ r, (Op.eqItems d e 1 xs.toArray ys.toArray is).run P w = .ok r w ∧ (r = true ↔ ∀ i ∈ is, xs[i]? = ys[i]?)
  | [], _ => ⟨true, by simp [Op.eqItems], by simp⟩
  | i :: is, h => by
    have hi := h i (List.mem_cons_self ..)
    have hx : xs.toArray[i]? = some xs[i] := by simp [hi]
    have hy : ys.toArray[i]? = some (ys[i]'(by omega)) := by simp [show i < ys.length by omega]
    obtain ⟨r, hr, hiff⟩ := eqItems_arr d hp xs ys hl g hg hge w is (fun j hj => h j (List.mem_cons_of_mem _ hj))
    have hm1 : xs[i] ∈ xs := List.getElem_mem _
    have hm2 : ys[i]'(by omega) ∈ ys := List.getElem_mem _
    have e1 := run_part_plain w hp hx
    have e2 := run_part_plain w hp hy
    have hq := hge _ _ hm1 hm2
    have e3 : xs[i]? = ys[i]? ↔ xs[i] = ys[i]'(by omega) := by
      rw [List.getElem?_eq_getElem hi, List.getElem?_eq_getElem (by omega), Option.some.injEq]
    refine ⟨g xs[i] (ys[i]'(by omega)) && r, ?_, ?_⟩
    · rw [Op.eqItems]
      simp only [Nat.mul_one, Sem.run_bind, e1, e2, Result.andThen_ok, hg _ _ hm1 hm2]
      cases g xs[i] (ys[i]'(by omega)) with
      | true => simpa using hr
      | false => simp
    · rw [Bool.and_eq_true, hq, hiff, List.forall_mem_cons, e3]
theorem equalIn_arr (d : Nat) {t e : TypeId} {n : Nat} {i : TypeInfo} (xs ys : List Value) (hu : P.underlying t = some (.array n e)) (hi : P.info? e = some i) (hp : P.plainKey e = true) (hc : P.cellsOf e = 1)
    (hx : xs.length = n) (hy : ys.length = n) (g : Value → Value → Bool) (hg : ∀ a b, a ∈ xs → b ∈ ys → ∀ w, (Op.equalIn d e a b).run P w = .ok (g a b) w) (hge : ∀ a b, a ∈ xs → b ∈ ys → (g a b = true ↔ a = b)) (w : World) :
    ∃ r, (Op.equalIn (d + 1) t (.agg xs.toArray) (.agg ys.toArray)).run P w = .ok r w ∧ (r = true ↔ xs = ys) := by
  obtain ⟨r, hr, hiff⟩ := eqItems_arr (P := P) d hp xs ys (by omega) g hg hge w (List.range n) (fun j hj => by have := List.mem_range.1 hj; omega)
  refine ⟨r, by rw [run_equalIn_array w d xs.toArray ys.toArray hu hi, hc]; exact hr, hiff.trans ⟨fun h => ?_, fun h j _ => by rw [h]⟩⟩
  apply List.ext_getElem?
  intro j
  rcases Nat.lt_or_ge j n with h' | h'
  · exact h j (List.mem_range.2 h')
  · rw [List.getElem?_eq_none (by omega), List.getElem?_eq_none (by omega)]
end
section
variable {P : Program}
/-- an element of an array value, one cell -/
theorem wpList_indexM {ops : Array Oper} {rest : List Oper} {o : Oper} {a : Act} {w : World} {Q : Exit → Act → World → Prop} (hgd : o.guard = none) (ty : TypeId) (x ix : Operand) (ho : o.op = .index ty x ix)
    (cs : List Value) (hx : a.eval x = .agg cs.toArray) (k : IntKind) (i : Nat) (hix : a.eval ix = .int k i) (n : Nat) (e : TypeId) (hu : P.underlying ty = some (.array n e)) (hp : P.plainKey e = true)
    (ti : TypeInfo) (hi : P.info? e = some ti) (hs : ti.size = 1) (hn : i < n) (v : Value) (hv : cs[i]? = some v)
    (h : wpList P ops Q rest (a.put o.dst v) w) : wpList P ops Q (o :: rest) a w := by
  have hpart := run_part_plain (P := P) w hp (xs := cs.toArray) (off := i) (v := v) (by simpa using hv)
  refine wpList_op hgd v ?_ h
  have hsz : P.cellsOf e = 1 := by simp [Program.cellsOf, hi, hs]
  unfold execOp
  simp [ho, hx, hix, Instr.index, asIntOf, run_underlying hu, run_sizeOf w hi, hsz, hn, hpart]
/-- a row of an array of arrays -/
theorem wpList_indexR {ops : Array Oper} {rest : List Oper} {o : Oper} {a : Act} {w : World} {Q : Exit → Act → World → Prop} (hgd : o.guard = none) (ty : TypeId) (x ix : Operand) (ho : o.op = .index ty x ix)
    (cs : List Value) (hx : a.eval x = .agg cs.toArray) (k : IntKind) (i : Nat) (hix : a.eval ix = .int k i) (n m : Nat) (e e' : TypeId) (hu : P.underlying ty = some (.array n e)) (hue : P.underlying e = some (.array m e'))
    (ti : TypeInfo) (hi : P.info? e = some ti) (hn : i < n) (ds : List Value) (hd : (cs.drop (i * ti.size)).take ti.size = ds)
    (h : wpList P ops Q rest (a.put o.dst (.agg ds.toArray)) w) : wpList P ops Q (o :: rest) a w := by
  have hagg : (isAgg e).run P w = .ok true w := by
    unfold isAgg
    rw [Sem.run_bind, run_underlying hue w]
    rfl
  have hsz : P.cellsOf e = ti.size := by simp [Program.cellsOf, hi]
  refine wpList_op hgd (.agg ds.toArray) ?_ h
  unfold execOp
  simp [ho, hx, hix, Instr.index, asIntOf, run_underlying hu, run_sizeOf w hi, hn, part, hagg, hsz, hd]
end
section
variable {P : Program}
/-- a struct or an array built of its parts -/
theorem wpList_buildM {ops : Array Oper} {rest : List Oper} {o : Oper} {a : Act} {w : World} {Q : Exit → Act → World → Prop} (hgd : o.guard = none) (T : TypeId) (parts : Array (Nat × Operand)) (ho : o.op = .build T parts)
    (vs : Array (Nat × Value)) (hv : (parts.map fun (i, x) => (i, a.eval x)) = vs) (cs : List Value) (hr : (Instr.build T vs).run P w = .ok (.agg cs.toArray) w)
    (h : wpList P ops Q rest (a.put o.dst (.agg cs.toArray)) w) : wpList P ops Q (o :: rest) a w := by
  refine wpList_op hgd (.agg cs.toArray) ?_ h
  unfold execOp
  simp [ho, hv, hr]
/-- a local struct or array is laid -/
theorem wpList_allocM {ops : Array Oper} {rest : List Oper} {o : Oper} {a : Act} {w : World} {Q : Exit → Act → World → Prop} (hgd : o.guard = none) (T : TypeId) (ho : o.op = .alloc T) (zs : List Value)
    (hr : ∀ W : World, (Instr.alloc T true (.tuple #[])).run P W = .ok (.pointer (some ⟨W.heap.size, 0, none⟩)) (W.alloc (.cells zs.toArray T)))
    (h : ∀ w', Cm w' w.heap.size T zs → Below w.heap.size w w' → w'.heap.size = w.heap.size + 1 → wpList P ops Q rest (a.put o.dst (.pointer (some ⟨w.heap.size, 0, none⟩))) w') : wpList P ops Q (o :: rest) a w :=
  wpList_alloc hgd T ho _ (hr w) (h _ (Cm.new rfl) ((Below.refl _ _).alloc (Nat.le_refl _) _) (by simp))
end
section
variable {P : Program}
/-- a guarded operation that is wanted -/
theorem wpList_wanted {ops : Array Oper} {rest : List Oper} {o : Oper} {a : Act} {w : World} {Q : Exit → Act → World → Prop} {g : Nat × Bool} (_hg : o.guard = some g) (hw : Region.wanted o (yielded ops a.tmps) = true)
    (h : ∀ K : Act → World → Prop, (∀ a w, wpList P ops Q rest a w → K a w) → o.wp P a w K Q) : wpList P ops Q (o :: rest) a w :=
  wpList_step fun K hK => by rw [if_pos hw]; exact h K hK
end
section
variable {P : Program}
theorem wpList_opG {ops : Array Oper} {rest : List Oper} {o : Oper} {a : Act} {w : World} {Q : Exit → Act → World → Prop} {g : Nat × Bool} (hg : o.guard = some g) (hw : Region.wanted o (yielded ops a.tmps) = true) (v : Value)
    (hr : (execOp a.eval o).run P w = .ok (.value v) w) (h : wpList P ops Q rest (a.put o.dst v) w) : wpList P ops Q (o :: rest) a w :=
  wpList_wanted hg hw fun _ hK => by unfold Oper.wp; rw [hr]; exact hK _ _ h
/-- guarded: a field's address -/
theorem wpList_fieldG {ops : Array Oper} {rest : List Oper} {o : Oper} {a : Act} {w : World} {Q : Exit → Act → World → Prop} {g : Nat × Bool} (hg : o.guard = some g) (hw : Region.wanted o (yielded ops a.tmps) = true) (T : TypeId) (x : Operand) (f : Nat) (ho : o.op = .fieldAddr T x f)
    (b off off' : Nat) (hx : a.eval x = .pointer (some ⟨b, off, none⟩)) (hr : (Instr.fieldAt T (.pointer (some ⟨b, off, none⟩)) f).run P w = .ok (.pointer (some ⟨b, off', none⟩)) w)
    (h : wpList P ops Q rest (a.put o.dst (.pointer (some ⟨b, off', none⟩))) w) : wpList P ops Q (o :: rest) a w :=
  wpList_opG hg hw _ (by unfold execOp; simp [ho, hx, hr]) h
/-- guarded: a load of one cell -/
theorem wpList_loadG {ops : Array Oper} {rest : List Oper} {o : Oper} {a : Act} {w : World} {Q : Exit → Act → World → Prop} {g : Nat × Bool} (hg : o.guard = some g) (hw : Region.wanted o (yielded ops a.tmps) = true) (T : TypeId) (x : Operand) (ho : o.op = .load T x)
    (b off : Nat) (hx : a.eval x = .pointer (some ⟨b, off, none⟩)) (v : Value) (hc : w.cell? ⟨b, off, none⟩ = some v) (hagg : ∀ W : World, (isAgg T).run P W = .ok false W)
    (h : wpList P ops Q rest (a.put o.dst v) w) : wpList P ops Q (o :: rest) a w :=
  wpList_opG hg hw _ (by unfold execOp; simp [ho, hx, Instr.loadAt, Instr.sureAddr, loadVar, hagg, hc]) h
/-- guarded: a comparison -/
theorem wpList_binG {ops : Array Oper} {rest : List Oper} {o : Oper} {a : Act} {w : World} {Q : Exit → Act → World → Prop} {g : Nat × Bool} (hg : o.guard = some g) (hw : Region.wanted o (yielded ops a.tmps) = true) (bop : BinOp) (T : TypeId) (x y : Operand) (R : TypeId) (ho : o.op = .binOp bop T x y R)
    (u v r : Value) (hx : a.eval x = u) (hy : a.eval y = v) (hr : (do eqGuard bop T x y u v; binOp bop T u v : Sem Value).run P w = .ok r w)
    (h : wpList P ops Q rest (a.put o.dst r) w) : wpList P ops Q (o :: rest) a w :=
  wpList_opG hg hw _ (by unfold execOp; simp only [ho, hx, hy]; rw [Sem.run_bind, hr]; rfl) h
end
end Go.Proofs.YtodjohdbngbpaaaGreat

/-
  Contracts of the laws' helpers over models: toModel, szModel, eqModel, markModel, heldModel; what an argument that is a model is. Conditions: bounds on the lengths, which the laws check.
-/
namespace Go.Proofs.YtodjohdbngbpaaaGreat
open Go.RowKit Go.WideShapes
open Go Go.Deep

theorem bcell {W w1 : World} (hb : Below W.heap.size W w1) : (∀ b o, b < W.heap.size → w1.cell? ⟨b, o, none⟩ = W.cell? ⟨b, o, none⟩) ∧ (∀ b o, b < W.heap.size → w1.frozen? ⟨b, o, none⟩ = W.frozen? ⟨b, o, none⟩) :=
  ⟨fun b o h => hb.cell (p := ⟨b, o, none⟩) h, fun b o h => hb.frozen (p := ⟨b, o, none⟩) h⟩
/-- a block of one's own that holds a model's three values -/
def Mcell (w : World) (b : Nat) (fv bv : Value) (n : Int) : Prop :=
  w.cell? ⟨b, 0, none⟩ = some fv ∧ w.cell? ⟨b, 1, none⟩ = some bv ∧ w.cell? ⟨b, 2, none⟩ = some (.int .i64 n) ∧ w.frozen? ⟨b, 0, none⟩ = false ∧ w.frozen? ⟨b, 1, none⟩ = false ∧ w.frozen? ⟨b, 2, none⟩ = false
theorem Mcell.below {w w' : World} {b : Nat} {fv bv : Value} {n : Int} (h : Mcell w b fv bv n) (hb : Below w.heap.size w w') : Mcell w' b fv bv n := by
  obtain ⟨h1, h2, h3, h4, h5, h6⟩ := h
  have hlt := World.block_lt_of_cell? w _ h1
  obtain ⟨hc, hf⟩ := bcell hb
  exact ⟨by rw [hc _ _ hlt, h1], by rw [hc _ _ hlt, h2], by rw [hc _ _ hlt, h3], by rw [hf _ _ hlt, h4], by rw [hf _ _ hlt, h5], by rw [hf _ _ hlt, h6]⟩
theorem Mcell.of_block {w w' : World} {b : Nat} {fv bv : Value} {n : Int} (h : Mcell w b fv bv n) (hb : w'.heap[b]? = w.heap[b]?) : Mcell w' b fv bv n := by
  obtain ⟨h1, h2, h3, h4, h5, h6⟩ := h
  have c : ∀ o, w'.cell? ⟨b, o, none⟩ = w.cell? ⟨b, o, none⟩ := fun o => World.cell?_of_block (a := ⟨b, o, none⟩) hb
  have f : ∀ o, w'.frozen? ⟨b, o, none⟩ = w.frozen? ⟨b, o, none⟩ := fun o => World.frozen?_of_block (a := ⟨b, o, none⟩) hb
  exact ⟨by rw [c, h1], by rw [c, h2], by rw [c, h3], by rw [f, h4], by rw [f, h5], by rw [f, h6]⟩
theorem Mcell.lt {w : World} {b : Nat} {fv bv : Value} {n : Int} (h : Mcell w b fv bv n) : b < w.heap.size := World.block_lt_of_cell? w _ h.1
/-- a store into a block of one's own keeps all that lies elsewhere -/
theorem Keeps.setCell {lo hi : Nat} (w : World) (b o : Nat) (u : Value) (h : b < lo ∨ hi ≤ b) : Keeps lo hi w (w.setCell ⟨b, o, none⟩ u) :=
  ⟨by simp [World.setCell], fun k h1 h2 _ => Below.heap_setCell _ _ _ _ (by show k ≠ b; omega)⟩
theorem Mcell.other {w : World} {b : Nat} {fv bv : Value} {n : Int} (h : Mcell w b fv bv n) {b' : Nat} (hb : b ≠ b') (o : Nat) (u : Value) : Mcell (w.setCell ⟨b', o, none⟩ u) b fv bv n := by
  obtain ⟨h1, h2, h3, h4, h5, h6⟩ := h
  have hne : ∀ o', (⟨b', o, none⟩ : Addr) ≠ ⟨b, o', none⟩ := fun o' e => hb (by cases e; rfl)
  exact ⟨by rw [World.cell?_setCell_other _ _ _ _ (hne _)]; exact h1, by rw [World.cell?_setCell_other _ _ _ _ (hne _)]; exact h2, by rw [World.cell?_setCell_other _ _ _ _ (hne _)]; exact h3, by simpa using h4, by simpa using h5, by simpa using h6⟩
theorem Mcell.new {w : World} {b : Nat} {fv bv : Value} {n : Int} {T : TypeId} (hb : b = w.heap.size) : Mcell (w.alloc (.cells #[fv, bv, .int .i64 n] T)) b fv bv n := by
  subst hb
  have h := heap_alloc_new w (.cells #[fv, bv, .int .i64 n] T)
  refine ⟨?_, ?_, ?_, ?_, ?_, ?_⟩
  · rw [cell_of_row _ _ _ _ _ _ h]; rfl
  · rw [cell_of_row _ _ _ _ _ _ h]; rfl
  · rw [cell_of_row _ _ _ _ _ _ h]; rfl
  · exact frozen_of_row _ _ _ _ _ h
  · exact frozen_of_row _ _ _ _ _ h
  · exact frozen_of_row _ _ _ _ _ h
theorem Mcell.alloc {w : World} {b : Nat} {fv bv : Value} {n : Int} (h : Mcell w b fv bv n) (o : Obj) : Mcell (w.alloc o) b fv bv n := h.below ((Below.refl _ _).alloc (Nat.le_refl _) _)
theorem Keeps.set {lo hi : Nat} {a w : World} (h : Keeps lo hi a w) {b : Nat} (hb : b < lo ∨ hi ≤ b) (o : Nat) (u : Value) : Keeps lo hi a (w.setCell ⟨b, o, none⟩ u) := h.trans (Keeps.setCell _ _ _ _ hb)
theorem Mcell.set0 {w : World} {b : Nat} {fv bv : Value} {n : Int} (h : Mcell w b fv bv n) (u : Value) : Mcell (w.setCell ⟨b, 0, none⟩ u) b u bv n := by
  obtain ⟨h1, h2, h3, h4, h5, h6⟩ := h
  exact ⟨World.cell?_setCell_same _ _ _ h1, by rw [World.cell?_setCell_other _ _ _ _ (by simp)]; exact h2, by rw [World.cell?_setCell_other _ _ _ _ (by simp)]; exact h3, by simpa using h4, by simpa using h5, by simpa using h6⟩
theorem Mcell.set1 {w : World} {b : Nat} {fv bv : Value} {n : Int} (h : Mcell w b fv bv n) (u : Value) : Mcell (w.setCell ⟨b, 1, none⟩ u) b fv u n := by
  obtain ⟨h1, h2, h3, h4, h5, h6⟩ := h
  exact ⟨by rw [World.cell?_setCell_other _ _ _ _ (by simp)]; exact h1, World.cell?_setCell_same _ _ _ h2, by rw [World.cell?_setCell_other _ _ _ _ (by simp)]; exact h3, by simpa using h4, by simpa using h5, by simpa using h6⟩
theorem Mcell.set2 {w : World} {b : Nat} {fv bv : Value} {n : Int} (h : Mcell w b fv bv n) (u : Int) : Mcell (w.setCell ⟨b, 2, none⟩ (.int .i64 u)) b fv bv u := by
  obtain ⟨h1, h2, h3, h4, h5, h6⟩ := h
  exact ⟨by rw [World.cell?_setCell_other _ _ _ _ (by simp)]; exact h1, by rw [World.cell?_setCell_other _ _ _ _ (by simp)]; exact h2, World.cell?_setCell_same _ _ _ h3, by simpa using h4, by simpa using h5, by simpa using h6⟩

theorem Mcell.range {w : World} {b : Nat} {fv bv : Value} {n : Int} (h : Mcell w b fv bv n) : w.rangeAt b 0 [fv, bv, .int .i64 n] := by
  intro j v hj
  obtain ⟨h1, h2, h3, _⟩ := h
  match j with
  | 0 => simp at hj; subst hj; exact h1
  | 1 => simp at hj; subst hj; exact h2
  | 2 => simp at hj; subst hj; exact h3
  | j + 3 => simp at hj
theorem Tryz.sizeMd : (Tryz.prog.info? 26).map (·.size) = some 3 := by kernel_rfl
/-- a model's three values are stored one by one -/
theorem Mcell.write {w : World} {b : Nat} {fv bv : Value} {n : Int} (h : Mcell w b fv bv n) (fv' bv' : Value) (n' : Int) : Mcell (((w.setCell ⟨b, 0, none⟩ fv').setCell ⟨b, 1, none⟩ bv').setCell ⟨b, 2, none⟩ (.int .i64 n')) b fv' bv' n' :=
  ((h.set0 fv').set1 bv').set2 n'

end Go.Proofs.YtodjohdbngbpaaaGreat

/-
  Contracts of the program's rows: slices.Index, slices.Clone at ints; rowOf, row.numbered, row.list.
-/
namespace Go.Proofs.YtodjohdbngbpaaaGreat
open Go.RowKit Go.WideShapes
open Go Go.Deep

set_option maxRecDepth 100000 in
set_option maxHeartbeats 2000000 in
theorem index_any (lo hi : Nat) (v : Value) (l : List Int) (x : Int) (w : World) (hr : Iv lo hi w v l) (hx : x ∈ l) :
    Calls Tryz.prog 161 #[v, .int .i64 x] w fun e w' => e = .returned (.int .i64 (l.idxOf x : Nat)) ∧ w = w' := by
  obtain ⟨a, cap, rfl, h1, h2, h3⟩ := hr.parts
  unfold maxLen at h2
  have KEY := Lib.hid h3
  have hidx := List.idxOf_lt_length_of_mem hx
  have HG := Lib.hid (idx_get hx)
  have HM := Lib.hid (fun j => idx_min (l := l) (x := x) (j := j))
  clear h3 hr hx
  generalize l.idxOf x = q at *
  go_enter Tryz.func161, Tryz.ntmps161
  go_wp2
  go_loop [5, 8] (fun _ i => ∃ k : Nat, k ≤ q ∧ i = .int .i64 k) (fun _ i => l.length - (intOf i).toNat)
  case atStart => exact ⟨0, Nat.zero_le _, rfl⟩
  case round =>
    obtain ⟨k, hk, rfl⟩ := hrel
    obtain ⟨b, o, rfl, _, _, hb, c0⟩ := KEY.out k (by omega)
    have hlt : k < l.length := by omega
    by_cases e : k = q
    · subst e
      rw [HG.out] at c0
      go_wp2
      go_ret
      exact ⟨rfl, rfl⟩
    · have hne : ¬ l.getD k 0 = x := fun h => by have := HM.out k hlt h; omega
      have hne1 : (x == l.getD k 0) = false := by simp; exact fun h => hne h.symm
      generalize l.getD k 0 = y at *
      clear hne
      go_wp2
      go_round
      case rel => exact ⟨k + 1, by omega, by go_num⟩
      case measure => simp [intOf]; omega

theorem Tryz.sizeRow : (Tryz.prog.info? 82).map (·.size) = some 16 := by kernel_rfl
theorem ints_one {l : List Int} {v : Value} (h : v ∈ ints l) : v.oneCell' = true := by
  unfold ints at h
  obtain ⟨x, _, rfl⟩ := List.mem_map.1 h
  rfl
/-- a list filled up with zeros to 16 -/
def pad (l : List Int) : List Int := l ++ List.replicate (16 - l.length) 0
theorem pad_len {l : List Int} (h : l.length ≤ 16) : (pad l).length = 16 := by unfold pad; simp; omega

/-- a block of numbers, cut at n, reads as a list -/
theorem Cm.iv {w : World} {b : Nat} {T : TypeId} {r : List Int} (h : Cm w b T (ints r)) (n : Nat) (hn : n ≤ r.length) (hr : r.length ≤ maxLen) : Iv b (b + 1) w (.slice (some ⟨b, 0, none⟩) n r.length) (r.take n) := by
  have hl : (ints (r.take n)).length = n := by rw [ints_len, List.length_take]; omega
  refine ⟨_, _, by rw [hl], by rw [hl]; exact hn, hr, .inr ⟨b, 0, rfl, Nat.le_refl _, Nat.lt_succ_self _, h.lt, fun j x hx => ?_⟩⟩
  have hj : j < n := by
    rcases Nat.lt_or_ge j n with h' | h'
    · exact h'
    · rw [List.getElem?_eq_none (by rw [hl]; exact h')] at hx; cases hx
  rw [Nat.zero_add, h.cell, ints_at (by omega), ← hx, ints_at (by rw [List.length_take]; omega), List.getD_eq_getElem?_getD, List.getD_eq_getElem?_getD, List.getElem?_take_of_lt hj]
theorem zeros_ints (n : Nat) : List.replicate n (Value.int .i64 0) = ints (List.replicate n 0) := by simp [ints]
/-- what numbered has laid down after k elements -/
def numRow (l : List Int) (k : Nat) : List Int := (numS l k).1 ++ List.replicate (16 - k) 0
theorem numRow_len (l : List Int) (k : Nat) (h : k ≤ 16) : (numRow l k).length = 16 := by unfold numRow; simp [numS_len]; omega
theorem numRow_get (l : List Int) {k i : Nat} (h : i < k) : (numRow l k).getD i 0 = (numS l k).1.getD i 0 := by
  unfold numRow; rw [List.getD_eq_getElem?_getD, List.getElem?_append_left (by rw [numS_len]; exact h), List.getD_eq_getElem?_getD]
theorem numRow_set (l : List Int) (k : Nat) (y : Int) (p : List Int) (hp : p = (numS l k).1 ++ [y]) (h : k < 16) : (numRow l k).set k y = p ++ List.replicate (16 - (k + 1)) 0 := by
  subst hp
  unfold numRow
  rw [List.set_append_right _ _ (by rw [numS_len]; exact Nat.le_refl _), numS_len, Nat.sub_self, show 16 - k = (16 - (k + 1)) + 1 by omega, List.replicate_succ, List.set_cons_zero]
  simp

set_option maxRecDepth 100000 in
set_option maxHeartbeats 4000000 in
theorem numbered_any (r : List Int) (n : Nat) (w : World) (hr : r.length = 16) (hn : n ≤ 16) :
    Calls Tryz.prog 141 #[.agg (ints r).toArray, .int .i64 n] w fun e w' => e = .returned (.agg (ints (pad (num (r.take n)))).toArray) ∧ Below w.heap.size w w' := by
  have HR := Lib.hid hr
  have hll : (r.take n).length = n := by rw [List.length_take]; omega
  have HL := Lib.hid hll
  have hz0 : List.replicate 16 (Value.int .i64 0) = ints (List.replicate 16 0) := zeros_ints 16
  have HZ := Lib.hid hz0
  clear hr hll hz0
  go_enter Tryz.func141, Tryz.ntmps141
  go_wp2
  go_loopw [6, 10] (fun c i wr => ∃ k q : Nat, k ≤ n ∧ i = .int .i64 k ∧ c = .int .i64 q ∧ q ≤ k ∧ Hid (q = (numS (r.take n) k).2) ∧ Hid (Cm wr w.heap.size 82 (ints r)) ∧ Hid (Cm wr (w.heap.size + 1) 82 (ints (List.replicate 16 0))) ∧ Hid (Cm wr (w.heap.size + 1 + 1) 82 (ints (numRow (r.take n) k))) ∧ Hid (Below w.heap.size w wr)) (fun _ i _ => n - (intOf i).toNat)
  case atStart => exact ⟨0, 0, Nat.zero_le _, rfl, rfl, Nat.le_refl _, Lib.hid rfl, Lib.hid (((Cm.new rfl).alloc _).alloc _), Lib.hid ((Cm.new (w := w.alloc _) (cs := ints (List.replicate 16 0)) (by simp)).alloc _), Lib.hid (Cm.new (cs := ints (numRow (r.take n) 0)) (by simp)), Lib.hid (by go_grown)⟩
  case round =>
    obtain ⟨k, q, hk, rfl, rfl, hqk, HQ, C0, C1, C2, HB⟩ := hrel
    by_cases hlt : k < n
    · have hk16 : k < 16 := by omega
      have hxl : (r.take n).getD k 0 = r.getD k 0 := by
        rw [List.getD_eq_getElem?_getD, List.getD_eq_getElem?_getD, List.getElem?_take_of_lt hlt]
      have hxm : r.getD k 0 ∈ r.take n := by rw [← hxl]; exact getD_mem (by rw [HL.out]; exact hlt)
      have KI := Lib.hid (fun m => index_any _ _ _ (r.take n) (r.getD k 0) (wr.drewN m) (((C0.out.iv n (by rw [HR.out]; exact hn) (by rw [HR.out]; decide))).drewN m) hxm)
      rw [HR.out] at KI
      have hidx : (r.take n).idxOf (r.getD k 0) ≤ k := by rw [← hxl]; exact idx_le (by rw [HL.out]; exact hlt)
      have HS : Hid (numS (r.take n) (k + 1) = if (r.take n).idxOf (r.getD k 0) < k then ((numS (r.take n) k).1 ++ [(numS (r.take n) k).1.getD ((r.take n).idxOf (r.getD k 0)) 0], (numS (r.take n) k).2) else ((numS (r.take n) k).1 ++ [((numS (r.take n) k).2 : Int)], (numS (r.take n) k).2 + 1)) := Lib.hid (by rw [numS, hxl])
      have c0 : wr.cell? ⟨w.heap.size, k, none⟩ = some (.int .i64 (r.getD k 0)) := by rw [C0.out.cell, ints_at (by rw [HR.out]; exact hk16)]
      clear hxl hxm
      generalize r.getD k 0 = x at *
      generalize hf : (r.take n).idxOf x = f at *
      have HF := Lib.hid hf
      clear hf
      have hi0 : (0 : Int) ≤ (k : Int) := Int.natCast_nonneg _
      have hi1 : (k : Int) < 16 := by omega
      have hi2 : (n : Int) ≤ 16 := by omega
      have hi3 : (0 : Int) ≤ (n : Int) := Int.natCast_nonneg _
      go_wp2
      go_quiet ((go_at_call 161; exact quiet_eq (KI.out _)))
      have gk : wr.cell? ⟨w.heap.size + 1 + 1, k, none⟩ = some (.int .i64 ((numRow (r.take n) k).getD k 0)) := by rw [C2.out.cell, ints_at (by rw [numRow_len _ _ (by omega)]; exact hk16)]
      have fk : wr.frozen? ⟨w.heap.size + 1 + 1, k, none⟩ = false := C2.out.frozen _
      generalize (numRow (r.take n) k).getD k 0 = z at gk
      by_cases hfk : f < k
      · have gf : wr.cell? ⟨w.heap.size + 1 + 1, f, none⟩ = some (.int .i64 ((numS (r.take n) k).1.getD f 0)) := by rw [C2.out.cell, ints_at (by rw [numRow_len _ _ (by omega)]; omega), numRow_get _ hfk]
        have HS2 := Lib.hid HS.out
        rw [if_pos hfk] at HS2
        generalize hy : (numS (r.take n) k).1.getD f 0 = y at gf HS2
        clear hy
        have hf1 : (f : Int) < 16 := by omega
        go_wp2
        go_roundw
        case rel =>
          refine ⟨k + 1, q, by omega, by go_num, rfl, by omega, Lib.hid (by rw [HS2.out]; exact HQ.out), Lib.hid ((C0.out.other (by omega) _ _).drewN _), Lib.hid ((C1.out.other (by omega) _ _).drewN _), Lib.hid ?_, Lib.hid (below_drewN' (HB.out.setCell (by show _ ≤ w.heap.size + 1 + 1; omega) _) _)⟩
          have h := C2.out.set k (.int .i64 y)
          rw [ints_set, numRow_set _ _ _ (numS (r.take n) (k + 1)).1 (by rw [HS2.out]) hk16] at h
          exact h
        case measure => simp [intOf]; omega
      · have HS2 := Lib.hid HS.out
        rw [if_neg hfk] at HS2
        go_wp2
        go_roundw
        case rel =>
          refine ⟨k + 1, q + 1, by omega, by go_num, by go_num, by omega, Lib.hid (by rw [HS2.out, HQ.out]), Lib.hid ((C0.out.other (by omega) _ _).drewN _), Lib.hid ((C1.out.other (by omega) _ _).drewN _), Lib.hid ?_, Lib.hid (below_drewN' (HB.out.setCell (by show _ ≤ w.heap.size + 1 + 1; omega) _) _)⟩
          have h := C2.out.set k (.int .i64 q)
          rw [ints_set, numRow_set _ _ _ (numS (r.take n) (k + 1)).1 (by rw [HS2.out, HQ.out]) hk16] at h
          exact h
        case measure => simp [intOf]; omega
    · obtain rfl : k = n := by omega
      have hnl : (numRow (r.take k) k).length = 16 := numRow_len _ _ hn
      have HE : Hid (numRow (r.take k) k = pad (num (r.take k))) := Lib.hid (by unfold numRow pad num; rw [numS_len, HL.out])
      rw [HE.out] at C2 hnl
      have hil : (ints (pad (num (r.take k)))).length = 16 := by rw [ints_len]; exact hnl
      have HI := Lib.hid hil
      have HO := Lib.hid (fun v (hv : v ∈ ints (pad (num (r.take k)))) => ints_one hv)
      clear hnl hil HE
      generalize hRR : pad (num (r.take k)) = R at *
      have HRR := Lib.hid hRR
      clear hRR
      go_wp2_with (first
        | (refine wpList_load_mid rfl 82 _ rfl (w.heap.size + 1 + 1) 0 rfl (ints R) _ C2.out.whole Tryz.underlying82 rfl (by rw [HI.out]; exact Tryz.sizeRow) ?_)
        | (refine wpList_store_mid rfl 82 _ _ rfl (w.heap.size + 1) 0 (ints R).toArray rfl rfl (C1.out.there _ _ (by rw [List.size_toArray, HI.out, ints_len]; simp)) (by rw [List.size_toArray, HI.out]; exact Tryz.sizeRow) (all_oneCell_toArray HO.out) ?_))
      have C3 := C1.out.sets (ints R) 0
      rw [lay'_eq _ _ _ (by rw [HI.out, ints_len]; simp), List.take_zero, List.nil_append, List.drop_of_length_le (by rw [HI.out, ints_len]; simp), List.append_nil] at C3
      refine bodyPost_ret (results_mid1 Tryz.results141 _ _ _ (ints R) _ rfl C3.whole Tryz.underlying82 rfl (by rw [HI.out]; exact Tryz.sizeRow)) rfl ?_
      exact ⟨by rw [HRR.out], below_setCells HB.out (by omega) _ _⟩

set_option maxRecDepth 100000 in
set_option maxHeartbeats 2000000 in
theorem clone_any (lo hi b o cap : Nat) (l : List Int) (w : World) (hr : Iv lo hi w (.slice (some ⟨b, o, none⟩) l.length cap) l) (hn : l.length ≤ 1048576) :
    Calls Tryz.prog 145 #[.slice (some ⟨b, o, none⟩) l.length cap] w (IntsAns w l) := by
  obtain ⟨i0, hi, hz0, hz1, hz2⟩ := info_parts Tryz.infoI
  have HN : Hid (∀ W : World, Below w.heap.size w W → ∀ j u, (ints l)[j]? = some u → W.cell? ((⟨b, o, none⟩ : Addr).add j) = some u) := Lib.hid (fun W hW j u hu => by
    have hj : j < l.length := by
      rcases Nat.lt_or_ge j l.length with h' | h'
      · exact h'
      · rw [List.getElem?_eq_none (by rw [ints_len]; exact h')] at hu; cases hu
    obtain ⟨a, c, e, _, _, h3⟩ := hr.parts
    simp only [Value.slice.injEq, true_and] at e
    obtain ⟨e1, e2⟩ := e
    obtain ⟨b', o', e3, _, _, hb, hc⟩ := h3 j hj
    rw [← e1] at e3
    cases e3
    rw [addr_add0, hW.cell (p := ⟨b, o + j, none⟩) hb, hc, ← hu, ints_at hj])
  have H1 := Lib.hid (fun v (hv : v ∈ ints l) => ints_one hv)
  have HL := Lib.hid (ints_len l)
  clear hr
  generalize hLL : ints l = L at *
  have HLL := Lib.hid hLL
  clear hLL
  go_enter Tryz.func145, Tryz.ntmps145
  have hsl := fun W => Lib.run_eql_slice_nil (P := Tryz.prog) W 23
  go_wp2_with (at_builtin; refine wpList_append_own _ rfl (.tmp 5) (.tmp 6) 23 rfl w.heap.size 3 i0 (.int .i64 0) 1 8 Tryz.underlying23 hi hz0 hz1 hz2 rfl (by decide) (.slice (some ⟨w.heap.size, 0, none⟩) 0 0) 0 [] rfl (World.ownsRow_lit _ #[] 0 (Nat.le_refl _) (by decide) rfl) ⟨b, o, none⟩ l.length cap L rfl (by rw [HL.out, Nat.mul_one]) (HN.out _ (by go_grown)) H1.out (by unfold maxLen; omega) (by omega) (by simp) ?_; intro v1 w1 hown hg _; have HO := Lib.hid hown; have HG := Lib.hid hg; clear hown hg)
  go_ret
  refine ⟨v1, rfl, ?_, (Below.alloc (Below.refl _ _) (Nat.le_refl _) _).grown HG.out (by simp) (fun k hk => by cases hk; exact Nat.le_refl _)⟩
  have h := HO.out
  rw [List.nil_append, ← HLL.out] at h
  exact Ro.of_own h

set_option maxRecDepth 100000 in
set_option maxHeartbeats 2000000 in
theorem rowList_any (r : List Int) (n : Nat) (w : World) (hr : r.length = 16) (hn : n ≤ 16) :
    Calls Tryz.prog 112 #[.agg (ints r).toArray, .int .i64 n] w (IntsAns w (r.take n)) := by
  have HR := Lib.hid hr
  clear hr
  have hi2 : (n : Int) ≤ 16 := by omega
  have hi3 : (0 : Int) ≤ (n : Int) := Int.natCast_nonneg _
  go_enter Tryz.func112, Tryz.ntmps112
  go_wp2_with fail
  have C1 : Cm (w.alloc (.cells (ints r).toArray 82)) w.heap.size 82 (ints r) := Cm.new rfl
  have hiv := C1.iv n (by rw [HR.out]; exact hn) (by rw [HR.out]; decide)
  have hll : (r.take n).length = n := by rw [List.length_take, HR.out]; omega
  have hc := clone_any _ _ w.heap.size 0 16 (r.take n) _ (by rw [hll]; rw [HR.out] at hiv; exact hiv) (by omega)
  rw [hll] at hc
  clear hll
  refine hc.mono ?_
  rintro e w1 ⟨v1, rfl, hi1, hb1⟩
  have HI := Lib.hid hi1
  have HB := Lib.hid hb1
  clear hi1 hb1 hc hiv C1
  go_wp2
  go_ret
  exact ⟨v1, rfl, HI.out.wide (by simp) (Nat.le_refl _), Below.trans (by go_grown) (HB.out.mono (by simp))⟩

/-- copy of a list of numbers to the head of a block of one's own -/
theorem wpList_copyI {P : Program} {lo hi : Nat} {w : World} {ops : Array Oper} {rest : List Oper} {o : Oper} {a : Act} {Q : Exit → Act → World → Prop} (hgd : o.guard = none) (d s : Operand) (T E : TypeId)
    (ho : o.op = .call { callee := .builtin .copy, args := #[d, s], argTypes := #[T, T] }) (hu : P.underlying T = some (.slice E)) (hsz : (P.info? E).map (·.size) = some 1)
    (b dLen dCap : Nat) (hd : a.eval d = .slice (some ⟨b, 0, none⟩) dLen dCap) (v : Value) (l : List Int) (hs : a.eval s = v) (hv : Iv lo hi w v l) (hl : l.length ≤ dLen)
    (B : TypeId) (cs : List Value) (hc : Cm w b B cs) (hfit : l.length ≤ cs.length)
    (h : ∀ w', Cm w' b B (lay' cs 0 (ints l)) → At b w w' → wpList P ops Q rest (a.put o.dst (goInt l.length)) w') : wpList P ops Q (o :: rest) a w := by
  replace h := h _ (hc.sets (ints l) 0) (At.setCells w b 0 (ints l))
  obtain ⟨ad, cap, rfl, _, _, h3⟩ := hv.parts
  rcases Nat.eq_zero_or_pos l.length with h0 | h0
  · obtain rfl : l = [] := List.length_eq_zero_iff.1 h0
    exact wpList_copy_nothing hgd d s T T ho E hu hsz _ _ _ _ _ _ hd hs (by simp) h
  · obtain ⟨b', o', rfl, _⟩ := h3 0 h0
    have hmin : (ints l).length = Nat.min l.length dLen := by rw [ints_len]; exact (Nat.min_eq_left hl).symm
    have hrun := run_copy_cells (P := P) w T T o.type E b 0 dLen dCap ⟨b', o', none⟩ l.length cap (ints l) hu hsz hmin
      (fun j u hj => by
        have hj' : j < l.length := by
          rcases Nat.lt_or_ge j l.length with h' | h'
          · exact h'
          · rw [List.getElem?_eq_none (by rw [ints_len]; exact h')] at hj; cases hj
        obtain ⟨b2, o2, e, _, _, _, hcj⟩ := h3 j hj'
        cases e
        rw [addr_add0, hcj, ← hj, ints_at hj'])
      (fun j hj => (hc.there 0 l.length (by omega) j (by rw [← ints_len l]; exact hj)).1) (fun j hj => (hc.there 0 l.length (by omega) j (by rw [← ints_len l]; exact hj)).2) (fun u hu => ints_one hu)
    refine wpList_plain hgd fun K hK => ?_
    unfold Oper.wp
    simp [execOp, ho, resolve, invoke, builtin, hd, hs, hrun, Result.andThen]
    rw [ints_len]
    exact hK _ _ h
/-- what rowOf lays down -/
theorem pad_splice (l : List Int) (h : l.length ≤ 16) : lay' (ints (List.replicate 16 0)) 0 (ints l) = ints (pad l) := by
  rw [lay'_eq _ _ _ (by rw [ints_len, ints_len]; simpa using h)]
  unfold pad
  rw [ints_app, List.take_zero, List.nil_append, ints_len, Nat.zero_add]
  congr 1
  unfold ints
  rw [List.map_replicate, List.drop_replicate, List.map_replicate]
set_option maxRecDepth 100000 in
set_option maxHeartbeats 4000000 in
theorem rowOf_any (lo hi : Nat) (v : Value) (l : List Int) (w : World) (hr : Iv lo hi w v l) (hn : l.length ≤ 16) :
    Calls Tryz.prog 108 #[v] w fun e w' => e = .returned (.agg (ints (pad l)).toArray) ∧ Below w.heap.size w w' := by
  obtain ⟨a, cap, e0⟩ := hr.form
  subst e0
  have HP := Lib.hid (pad_splice l hn)
  have HPL : Hid ((ints (pad l)).length = 16) := Lib.hid (by rw [ints_len]; exact pad_len hn)
  have HV := Lib.hid hr
  have H1 := Lib.hid (fun v (hv : v ∈ ints (pad l)) => ints_one hv)
  clear hr
  generalize hRR : ints (pad l) = R at *
  have HRR := Lib.hid hRR
  clear hRR
  have hsz : (Tryz.prog.info? 3).map (·.size) = some 1 := by kernel_rfl
  have HSZ := Lib.hid hsz
  clear hsz
  go_enter Tryz.func108, Tryz.ntmps108
  go_wp2_with (refine wpList_copyI (lo := lo) (hi := hi) rfl (.tmp 4) (.tmp 5) 23 3 rfl Tryz.underlying23 HSZ.out (w.heap.size + 1) 16 16 rfl _ l rfl (HV.out.keeps (Keeps.of_all (by go_grown))) hn 82 (ints (List.replicate 16 0)) (Cm.new (by simp)) (by rw [ints_len]; simpa using hn) ?_; intro w1 hc1 ha1; have C1 := Lib.hid hc1; have C0 := Lib.hid (ha1.cm (b' := w.heap.size) (T := 82) (cs := ints (List.replicate 16 0)) ((Cm.new rfl).alloc _) (by omega)); have B1 : Hid (Below w.heap.size w w1) := Lib.hid (Below.trans (by go_grown) (ha1.below (by omega))); rw [HP.out] at C1; clear hc1 ha1; go_wp2_with (first | (refine wpList_loadM rfl 82 _ rfl (w.heap.size + 1) 0 rfl 82 R R C1.out (fun j _ => by rw [Nat.zero_add]) _ Tryz.underlying82 rfl (by rw [HPL.out]; exact Tryz.sizeRow) ?_) | (refine wpList_storeM rfl 82 _ _ rfl w.heap.size 0 rfl R rfl 82 _ C0.out (by rw [HPL.out, ints_len]; simp) (by rw [HPL.out]; exact Tryz.sizeRow) H1.out ?_; intro w2 hc2 ha2; have C2 := Lib.hid hc2; have A2 := Lib.hid ha2; clear hc2 ha2)))
  rw [lay'_all (by rw [HPL.out, ints_len]; simp)] at C2
  refine bodyPost_ret (results_mid1 Tryz.results108 _ _ w.heap.size R _ rfl C2.out.whole Tryz.underlying82 rfl (by rw [HPL.out]; exact Tryz.sizeRow)) rfl ?_
  exact ⟨rfl, B1.out.trans (A2.out.below (Nat.le_refl _))⟩
end Go.Proofs.YtodjohdbngbpaaaGreat

/-
  The program's grids: a grid as a list of 67 numbers; contracts of hasWorld, hasAgent, confuses, isNear.
-/
namespace Go.Proofs.YtodjohdbngbpaaaGreat
open Go.RowKit Go.WideShapes
open Go Go.Deep

/-- the numbers of a grid: worlds, agents, facts, three rows of blocks, the actual world -/
def gL (n a : Int) (f : List Int) (rows : List (List Int)) (c : Int) : List Int :=
  [n, a] ++ (pad f ++ (pad (rows.getD 0 []) ++ (pad (rows.getD 1 []) ++ (pad (rows.getD 2 []) ++ [c]))))
/-- all lists fit into a row -/
def small (f : List Int) (rows : List (List Int)) : Prop := f.length ≤ 16 ∧ ∀ k, (rows.getD k []).length ≤ 16
theorem mid_get {α : Type} (A B C : List α) {i j : Nat} (hi : i = A.length + j) (hj : j < B.length) : (A ++ (B ++ C))[i]? = B[j]? := by
  subst hi
  rw [List.getElem?_append_right (by omega), Nat.add_sub_cancel_left, List.getElem?_append_left hj]
section
variable {n a c : Int} {f : List Int} {rows : List (List Int)}
theorem gL_len (h : small f rows) : (gL n a f rows c).length = 67 := by
  have h0 := pad_len h.1; have h1 := pad_len (h.2 0); have h2 := pad_len (h.2 1); have h3 := pad_len (h.2 2)
  unfold gL
  generalize pad (rows.getD 0 []) = R0 at *
  generalize pad (rows.getD 1 []) = R1 at *
  generalize pad (rows.getD 2 []) = R2 at *
  simp [h0, h1, h2, h3]
theorem gL_0 : (gL n a f rows c)[0]? = some n := rfl
theorem gL_1 : (gL n a f rows c)[1]? = some a := rfl
theorem gL_f (h : small f rows) {j : Nat} (hj : j < 16) : (gL n a f rows c)[2 + j]? = (pad f)[j]? := by
  unfold gL; exact mid_get _ _ _ rfl (by rw [pad_len h.1]; exact hj)
theorem gL_r (h : small f rows) {k j : Nat} (hk : k < 3) (hj : j < 16) : (gL n a f rows c)[18 + k * 16 + j]? = (pad (rows.getD k []))[j]? := by
  have h0 := pad_len h.1; have h1 := pad_len (h.2 0); have h2 := pad_len (h.2 1); have h3 := pad_len (h.2 2)
  have hk' : k = 0 ∨ k = 1 ∨ k = 2 := by omega
  unfold gL
  rcases hk' with rfl | rfl | rfl
  all_goals
    generalize pad (rows.getD 0 []) = R0 at *
    generalize pad (rows.getD 1 []) = R1 at *
    generalize pad (rows.getD 2 []) = R2 at *
  · rw [← List.append_assoc]
    exact mid_get _ _ _ (by simp [h0]) (by omega)
  · rw [← List.append_assoc, ← List.append_assoc]
    exact mid_get _ _ _ (by simp [h0, h1]) (by omega)
  · rw [← List.append_assoc, ← List.append_assoc, ← List.append_assoc]
    exact mid_get _ _ _ (by simp [h0, h1, h2]) (by omega)
theorem gL_66 (h : small f rows) : (gL n a f rows c)[66]? = some c := by
  have h0 := pad_len h.1; have h1 := pad_len (h.2 0); have h2 := pad_len (h.2 1); have h3 := pad_len (h.2 2)
  unfold gL
  generalize pad (rows.getD 0 []) = R0 at *
  generalize pad (rows.getD 1 []) = R1 at *
  generalize pad (rows.getD 2 []) = R2 at *
  rw [← List.append_assoc, ← List.append_assoc, ← List.append_assoc, ← List.append_assoc, List.getElem?_append_right (by simp [h0, h1, h2, h3])]
  simp [h0, h1, h2, h3]
theorem pad_get {l : List Int} {j : Nat} (hj : j < 16) (hl : l.length ≤ 16) : (pad l)[j]? = some (l.getD j 0) := by
  unfold pad
  rcases Nat.lt_or_ge j l.length with h | h
  · rw [List.getElem?_append_left h, getD_some 0 h]
  · rw [List.getElem?_append_right h, List.getElem?_replicate, if_pos (by omega), List.getD_eq_getElem?_getD, List.getElem?_eq_none h]; rfl
end
theorem ints_get {l : List Int} {j : Nat} : (ints l)[j]? = l[j]?.map (Value.int .i64) := by unfold ints; rw [List.getElem?_map]
/-- a grid's cells in memory -/
theorem Cm.g0 {w : World} {b : Nat} {T : TypeId} {n a c : Int} {f : List Int} {rows : List (List Int)} (h : Cm w b T (ints (gL n a f rows c))) : w.cell? ⟨b, 0, none⟩ = some (.int .i64 n) := by rw [h.cell, ints_get, gL_0]; rfl
theorem Cm.g1 {w : World} {b : Nat} {T : TypeId} {n a c : Int} {f : List Int} {rows : List (List Int)} (h : Cm w b T (ints (gL n a f rows c))) : w.cell? ⟨b, 1, none⟩ = some (.int .i64 a) := by rw [h.cell, ints_get, gL_1]; rfl
theorem Cm.g66 {w : World} {b : Nat} {T : TypeId} {n a c : Int} {f : List Int} {rows : List (List Int)} (h : Cm w b T (ints (gL n a f rows c))) (hs : small f rows) : w.cell? ⟨b, 66, none⟩ = some (.int .i64 c) := by rw [h.cell, ints_get, gL_66 hs]; rfl
theorem Cm.gf {w : World} {b : Nat} {T : TypeId} {n a c : Int} {f : List Int} {rows : List (List Int)} (h : Cm w b T (ints (gL n a f rows c))) (hs : small f rows) {j : Nat} (hj : j < 16) : w.cell? ⟨b, 2 + j, none⟩ = some (.int .i64 (f.getD j 0)) := by
  rw [h.cell, ints_get, gL_f hs hj, pad_get hj hs.1]; rfl
theorem Cm.gr {w : World} {b : Nat} {T : TypeId} {n a c : Int} {f : List Int} {rows : List (List Int)} (h : Cm w b T (ints (gL n a f rows c))) (hs : small f rows) {k j : Nat} (hk : k < 3) (hj : j < 16) : w.cell? ⟨b, 18 + k * 16 + j, none⟩ = some (.int .i64 ((rows.getD k []).getD j 0)) := by
  rw [h.cell, ints_get, gL_r hs hk hj, pad_get hj (hs.2 k)]; rfl

set_option maxRecDepth 100000 in
set_option maxHeartbeats 2000000 in
theorem confuses_any (n a c : Int) (f : List Int) (rows : List (List Int)) (hs : small f rows) (k i j : Nat) (hk : k < 3) (hi : i < 16) (hj : j < 16) (w : World) :
    Calls Tryz.prog 199 #[.agg (ints (gL n a f rows c)).toArray, .int .i64 k, .int .i64 i, .int .i64 j] w fun e w' => e = .returned (.bool ((rows.getD k []).getD i 0 == (rows.getD k []).getD j 0)) ∧ Below w.heap.size w w' := by
  go_enter Tryz.func199, Tryz.ntmps199
  go_wp2
  have C1 : Cm (w.alloc (.cells (ints (gL n a f rows c)).toArray 85)) w.heap.size 85 (ints (gL n a f rows c)) := Cm.new rfl
  have B1 : Below w.heap.size w (w.alloc (.cells (ints (gL n a f rows c)).toArray 85)) := by go_grown
  generalize w.alloc (.cells (ints (gL n a f rows c)).toArray 85) = w1 at *
  have c1 := C1.gr hs hk hi
  have c2 := C1.gr hs hk hj
  have BB := Lib.hid B1
  generalize hx : (rows.getD k []).getD i 0 = x at *
  generalize hy : (rows.getD k []).getD j 0 = y at *
  have HX := Lib.hid hx
  have HY := Lib.hid hy
  clear hx hy
  generalize gL n a f rows c = G at *
  clear C1 B1 hs
  have k0 : (0 : Int) ≤ (k : Int) := Int.natCast_nonneg _
  have k1 : (k : Int) < 3 := by omega
  have i0 : (0 : Int) ≤ (i : Int) := Int.natCast_nonneg _
  have i1 : (i : Int) < 16 := by omega
  have j0 : (0 : Int) ≤ (j : Int) := Int.natCast_nonneg _
  have j1 : (j : Int) < 16 := by omega
  go_quiet (fail)
  go_wp2
  go_ret
  exact ⟨ret_bool (by rw [HX.out, HY.out]), below_drewN' BB.out _⟩

/-- x is one of the first n -/
def inB (x n : Int) : Bool := decide (0 ≤ x ∧ x < n)
theorem inB_yes {x n : Int} (h0 : 0 ≤ x) (h1 : x < n) : inB x n = true := by unfold inB; exact decide_eq_true ⟨h0, h1⟩
theorem inB_low {x n : Int} (h : x < 0) : inB x n = false := by unfold inB; exact decide_eq_false (by omega)
theorem inB_high {x n : Int} (h : n ≤ x) : inB x n = false := by unfold inB; exact decide_eq_false (by omega)
set_option maxRecDepth 100000 in
set_option maxHeartbeats 2000000 in
theorem hasWorld_any (n a c : Int) (f : List Int) (rows : List (List Int)) (x : Int) (w : World) :
    Calls Tryz.prog 142 #[.agg (ints (gL n a f rows c)).toArray, .int .i64 x] w fun e w' => e = .returned (.bool (inB x n)) ∧ Below w.heap.size w w' := by
  rcases Int.lt_or_le x 0 with h | h
  · rw [inB_low h]
    generalize gL n a f rows c = G
    go_enter Tryz.func142, Tryz.ntmps142
    go_wp2
    go_ret
    exact ⟨rfl, by go_grown⟩
  · have HC := Lib.hid (fun (W : World) b T (h : Cm W b T (ints (gL n a f rows c))) => h.g0)
    generalize gL n a f rows c = G at *
    rcases Int.lt_or_le x n with h2 | h2
    all_goals
      first | rw [inB_yes h h2] | rw [inB_high h2]
      go_enter Tryz.func142, Tryz.ntmps142
      have hc := HC.out (w.alloc (.cells (ints G).toArray 85)) w.heap.size 85 (Cm.new rfl)
      have B1 : Below w.heap.size w (w.alloc (.cells (ints G).toArray 85)) := by go_grown
      have BB := Lib.hid B1
      clear B1
      go_wp2
      go_ret
      first | exact ⟨rfl, BB.out⟩ | exact ⟨ret_bool (decide_eq_false (by omega)), BB.out⟩
set_option maxRecDepth 100000 in
set_option maxHeartbeats 2000000 in
theorem hasAgent_any (n a c : Int) (f : List Int) (rows : List (List Int)) (x : Int) (w : World) :
    Calls Tryz.prog 143 #[.agg (ints (gL n a f rows c)).toArray, .int .i64 x] w fun e w' => e = .returned (.bool (inB x a)) ∧ Below w.heap.size w w' := by
  rcases Int.lt_or_le x 0 with h | h
  · rw [inB_low h]
    generalize gL n a f rows c = G
    go_enter Tryz.func143, Tryz.ntmps143
    go_wp2
    go_ret
    exact ⟨rfl, by go_grown⟩
  · have HC := Lib.hid (fun (W : World) b T (h : Cm W b T (ints (gL n a f rows c))) => h.g1)
    generalize gL n a f rows c = G at *
    rcases Int.lt_or_le x a with h2 | h2
    all_goals
      first | rw [inB_yes h h2] | rw [inB_high h2]
      go_enter Tryz.func143, Tryz.ntmps143
      have hc := HC.out (w.alloc (.cells (ints G).toArray 85)) w.heap.size 85 (Cm.new rfl)
      have B1 : Below w.heap.size w (w.alloc (.cells (ints G).toArray 85)) := by go_grown
      have BB := Lib.hid B1
      clear B1
      go_wp2
      go_ret
      first | exact ⟨rfl, BB.out⟩ | exact ⟨ret_bool (decide_eq_false (by omega)), BB.out⟩
/-- some of the first a agents cannot tell i and j apart -/
def near (rows : List (List Int)) (a i j : Nat) : Bool := (List.range a).any fun k => (rows.getD k []).getD i 0 == (rows.getD k []).getD j 0
theorem near_succ (rows : List (List Int)) (a i j : Nat) : near rows (a + 1) i j = (near rows a i j || ((rows.getD a []).getD i 0 == (rows.getD a []).getD j 0)) := by
  unfold near; rw [List.range_succ, List.any_append]; simp
theorem near_mono {rows : List (List Int)} {a b i j : Nat} (h : near rows a i j = true) (hab : a ≤ b) : near rows b i j = true := by
  unfold near at *
  rw [List.any_eq_true] at *
  obtain ⟨k, hk, e⟩ := h
  exact ⟨k, by rw [List.mem_range] at *; omega, e⟩
theorem Tryz.sizeGrid : (Tryz.prog.info? 85).map (·.size) = some 67 := by kernel_rfl
theorem Tryz.sizeRows : (Tryz.prog.info? 83).map (·.size) = some 48 := by kernel_rfl
/-- the first of the first a agents who cannot tell i and j apart; 0 if there is none -/
def fstA (rows : List (List Int)) (a i j : Nat) : Nat := ((List.range a).find? fun k => (rows.getD k []).getD i 0 == (rows.getD k []).getD j 0).getD 0
theorem near_none {rows : List (List Int)} {a i j : Nat} (h : near rows a i j = false) {k : Nat} (hk : k < a) : ((rows.getD k []).getD i 0 == (rows.getD k []).getD j 0) = false := by
  unfold near at h
  rw [List.any_eq_false] at h
  have := h k (List.mem_range.2 hk)
  simpa using this
theorem fstA_none {rows : List (List Int)} {a i j : Nat} (h : near rows a i j = false) : fstA rows a i j = 0 := by
  unfold fstA
  rw [List.find?_eq_none.2 fun k hk => by rw [near_none h (List.mem_range.1 hk)]; decide]
  rfl
theorem fstA_hit {rows : List (List Int)} {a i j k : Nat} (hk : k < a) (h : near rows k i j = false) (hq : ((rows.getD k []).getD i 0 == (rows.getD k []).getD j 0) = true) : fstA rows a i j = k := by
  unfold fstA
  rw [List.find?_range_eq_some.2 ⟨hq, List.mem_range.2 hk, fun l hl => by rw [near_none h hl]; rfl⟩]
  rfl
set_option maxRecDepth 100000 in
set_option maxHeartbeats 4000000 in
theorem firstConfused_any (n c : Int) (a : Nat) (f : List Int) (rows : List (List Int)) (hs : small f rows) (i j : Nat) (ha : a ≤ 3) (hi : i < 16) (hj : j < 16) (w : World) :
    Calls Tryz.prog 203 #[.agg (ints (gL n a f rows c)).toArray, .int .i64 i, .int .i64 j] w fun e w' => e = .returned (.tuple #[.int .i64 (fstA rows a i j), .bool (near rows a i j)]) ∧ Below w.heap.size w w' := by
  have HC := Lib.hid (fun (W : World) b T (h : Cm W b T (ints (gL n a f rows c))) => h.g1)
  have HL : Hid ((ints (gL n a f rows c)).length = 67) := Lib.hid (by rw [ints_len]; exact gL_len hs)
  have KC := Lib.hid (fun k hk W => confuses_any n a c f rows hs k i j hk hi hj W)
  have HN := Lib.hid (fun k => near_succ rows k i j)
  have HM := Lib.hid (fun k h hk => near_mono (rows := rows) (a := k) (b := a) (i := i) (j := j) h hk)
  have HF := Lib.hid (fun k hk h hq => fstA_hit (rows := rows) (a := a) (i := i) (j := j) (k := k) hk h hq)
  have HZ := Lib.hid (fun h => fstA_none (rows := rows) (a := a) (i := i) (j := j) h)
  generalize gL n a f rows c = G at *
  generalize fstA rows a i j = ans at *
  go_enter Tryz.func203, Tryz.ntmps203
  have hc := HC.out (w.alloc (.cells (ints G).toArray 85)) w.heap.size 85 (Cm.new rfl)
  go_wp2
  go_loopw [11] (fun iv wr => ∃ k : Nat, k ≤ a ∧ iv = .int .i64 k ∧ Hid (near rows k i j = false) ∧ Hid (Cm wr w.heap.size 85 (ints G)) ∧ Hid (Below w.heap.size w wr)) (fun iv _ => a - (intOf iv).toNat)
  case atStart => exact ⟨0, Nat.zero_le _, rfl, Lib.hid rfl, Lib.hid (Cm.new rfl), Lib.hid (by go_grown)⟩
  case round =>
    clear hc
    obtain ⟨k, hk, rfl, HK, C0, HB⟩ := hrel
    by_cases hlt : k < a
    · have KK := Lib.hid (KC.out k (by omega))
      have HN2 := Lib.hid (HN.out k)
      have HN3 := Lib.hid (HM.out (k + 1))
      have HF2 := Lib.hid (HF.out k hlt HK.out)
      cases hq : ((rows.getD k []).getD i 0 == (rows.getD k []).getD j 0) with
      | true =>
        rw [hq] at KK HN2 HF2
        have HQ : Hid (near rows a i j = true) := Lib.hid (HN3.out (by rw [HN2.out]; simp) (by omega))
        have HV : Hid (ans = k) := Lib.hid (HF2.out rfl)
        clear hq HF2
        go_wp2_with (refine wpList_loadM rfl 85 _ rfl w.heap.size 0 rfl 85 (ints G) (ints G) C0.out (fun j _ => by rw [Nat.zero_add]) _ Tryz.underlying85 rfl (by rw [HL.out]; exact Tryz.sizeGrid) ?_)
        refine (KK.out _).mono ?_
        rintro e w1 ⟨rfl, hb1⟩
        have HB1 : Hid (Below w.heap.size w w1) := Lib.hid (HB.out.trans (hb1.mono HB.out.size))
        clear hb1
        go_wp2
        go_returns
        exact ⟨by rw [HQ.out, HV.out]; rfl, HB1.out⟩
      | false =>
        rw [hq] at KK HN2
        clear hq HF2
        go_wp2_with (refine wpList_loadM rfl 85 _ rfl w.heap.size 0 rfl 85 (ints G) (ints G) C0.out (fun j _ => by rw [Nat.zero_add]) _ Tryz.underlying85 rfl (by rw [HL.out]; exact Tryz.sizeGrid) ?_)
        refine (KK.out _).mono ?_
        rintro e w1 ⟨rfl, hb1⟩
        have HB1 : Hid (Below w.heap.size w w1) := Lib.hid (HB.out.trans (hb1.mono HB.out.size))
        have C1 := Lib.hid (C0.out.all hb1)
        clear hb1
        go_wp2
        go_roundw
        case rel => exact ⟨k + 1, by omega, by go_num, Lib.hid (by rw [HN2.out, HK.out]; rfl), C1, HB1⟩
        case measure => simp [intOf]; omega
    · obtain rfl : k = a := by omega
      have HV : Hid (ans = 0) := Lib.hid (HZ.out HK.out)
      go_wp2
      go_returns
      exact ⟨by rw [HK.out, HV.out]; rfl, HB.out⟩
set_option maxRecDepth 100000 in
set_option maxHeartbeats 4000000 in
theorem isNear_any (n c : Int) (a : Nat) (f : List Int) (rows : List (List Int)) (hs : small f rows) (i j : Nat) (ha : a ≤ 3) (hi : i < 16) (hj : j < 16) (w : World) :
    Calls Tryz.prog 201 #[.agg (ints (gL n a f rows c)).toArray, .int .i64 i, .int .i64 j] w fun e w' => e = .returned (.bool (near rows a i j)) ∧ Below w.heap.size w w' := by
  have HL : Hid ((ints (gL n a f rows c)).length = 67) := Lib.hid (by rw [ints_len]; exact gL_len hs)
  have KC := Lib.hid (fun W => firstConfused_any n c a f rows hs i j ha hi hj W)
  generalize gL n a f rows c = G at *
  generalize fstA rows a i j = ans at *
  generalize near rows a i j = r at *
  go_enter Tryz.func201, Tryz.ntmps201
  have C0 : Hid (Cm (w.alloc (.cells (ints G).toArray 85)) w.heap.size 85 (ints G)) := Lib.hid (Cm.new rfl)
  have B0 : Hid (Below w.heap.size w (w.alloc (.cells (ints G).toArray 85))) := Lib.hid (by go_grown)
  go_wp2_with (refine wpList_loadM rfl 85 _ rfl w.heap.size 0 rfl 85 (ints G) (ints G) C0.out (fun j _ => by rw [Nat.zero_add]) _ Tryz.underlying85 rfl (by rw [HL.out]; exact Tryz.sizeGrid) ?_)
  refine (KC.out _).mono ?_
  rintro e w1 ⟨rfl, hb1⟩
  have B1 : Hid (Below w.heap.size w w1) := Lib.hid (B0.out.trans (hb1.mono B0.out.size))
  clear hb1 C0 B0
  go_wp2
  go_ret
  exact ⟨rfl, B1.out⟩
theorem Tryz.buildGrid (w : World) (x y z : Int) : (Instr.build 85 #[(0, .int .i64 x), (1, .int .i64 y), (4, .int .i64 z)]).run Tryz.prog w = .ok (.agg (ints (gL x y [] [] z)).toArray) w := by kernel_rfl
theorem Tryz.buildGridA (w : World) (y : Int) : (Instr.build 85 #[(1, .int .i64 y)]).run Tryz.prog w = .ok (.agg (ints (gL 0 y [] [] 0)).toArray) w := by kernel_rfl
theorem Tryz.buildGrid0 (w : World) : (Instr.build 85 #[]).run Tryz.prog w = .ok (.agg (ints (gL 0 0 [] [] 0)).toArray) w := by kernel_rfl
theorem Tryz.allocGrid (w : World) : (Instr.alloc 85 true (.tuple #[])).run Tryz.prog w = .ok (.pointer (some ⟨w.heap.size, 0, none⟩)) (w.alloc (.cells (ints (gL 0 0 [] [] 0)).toArray 85)) := by kernel_rfl

theorem ints_apps (a b c : List Int) : ints (a ++ (b ++ c)) = ints a ++ (ints b ++ ints c) := by simp [ints]
theorem lay_mid {A B B' C : List Int} {o : Nat} (ho : o = A.length) (hb : B'.length = B.length) : lay' (ints (A ++ (B ++ C))) o (ints B') = ints (A ++ (B' ++ C)) := by
  subst ho
  rw [lay'_eq _ _ _ (by simp [ints_len, hb]), ints_apps, ints_apps, ints_len, hb, List.take_left' (ints_len A)]
  rw [← List.append_assoc (ints A), List.drop_left' (by rw [List.length_append, ints_len, ints_len]), List.append_assoc]
/-- a row of a grid is laid down -/
theorem gL_set {n a c : Int} {f : List Int} {rows rows' : List (List Int)} {r : List Int} {k : Nat} (hs : small f rows) (hr : r.length ≤ 16) (hk : k < 3) (h0 : rows'.getD k [] = r) (h1 : ∀ i, i ≠ k → rows'.getD i [] = rows.getD i []) :
    lay' (ints (gL n a f rows c)) (18 + k * 16) (ints (pad r)) = ints (gL n a f rows' c) := by
  have p0 := pad_len hs.1; have p1 := pad_len (hs.2 0); have p2 := pad_len (hs.2 1); have p3 := pad_len (hs.2 2); have p4 := pad_len hr
  have hk' : k = 0 ∨ k = 1 ∨ k = 2 := by omega
  unfold gL
  rcases hk' with rfl | rfl | rfl
  · rw [h0, h1 1 (by omega), h1 2 (by omega)]
    generalize pad (rows.getD 0 []) = R0 at *
    generalize pad (rows.getD 1 []) = R1 at *
    generalize pad (rows.getD 2 []) = R2 at *
    have := lay_mid (A := [n, a] ++ pad f) (B := R0) (B' := pad r) (C := R1 ++ (R2 ++ [c])) (o := 18 + 0 * 16) (by simp [p0]) (by omega)
    simpa only [List.append_assoc] using this
  · rw [h0, h1 0 (by omega), h1 2 (by omega)]
    generalize pad (rows.getD 0 []) = R0 at *
    generalize pad (rows.getD 1 []) = R1 at *
    generalize pad (rows.getD 2 []) = R2 at *
    have := lay_mid (A := [n, a] ++ (pad f ++ R0)) (B := R1) (B' := pad r) (C := R2 ++ [c]) (o := 18 + 1 * 16) (by simp [p0, p1]) (by omega)
    simpa only [List.append_assoc] using this
  · rw [h0, h1 0 (by omega), h1 1 (by omega)]
    generalize pad (rows.getD 0 []) = R0 at *
    generalize pad (rows.getD 1 []) = R1 at *
    generalize pad (rows.getD 2 []) = R2 at *
    have := lay_mid (A := [n, a] ++ (pad f ++ (R0 ++ R1))) (B := R2) (B' := pad r) (C := [c]) (o := 18 + 2 * 16) (by simp [p0, p1, p2]) (by omega)
    simpa only [List.append_assoc] using this
theorem gL_setF {n a c : Int} {f : List Int} (hf : f.length ≤ 16) : lay' (ints (gL n a [] [] c)) 2 (ints (pad f)) = ints (gL n a f [] c) := by
  unfold gL
  exact lay_mid rfl (by rw [pad_len hf]; rfl)
end Go.Proofs.YtodjohdbngbpaaaGreat
