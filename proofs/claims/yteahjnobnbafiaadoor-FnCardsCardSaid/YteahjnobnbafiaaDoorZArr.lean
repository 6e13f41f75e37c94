/-
  Several texts in one: Arr Mdm. Conditions: as each theorem says.
-/
import Derived.Test.YteahjnobnbafiaaDoorZLib
import Derived.Handy
import Derived.Deep.MidRow
import Derived.Deep.WholeRow
import Derived.Laws.CopyOwn
import Derived.Laws.StructEq
import Derived.ChangeKeysEq
import Derived.WideShapes
import Derived.Deep.OwnRows
import Derived.Deep.Matrix
import Derived.Lib.SmallJoins
import Derived.ChangeSlices
/-
  Small laws over any program: structs and arrays whole, in and out of memory; a result that lies in memory.
-/
namespace Go.Proofs.YteahjnobnbafiaaDoor
open Go.RowKit
open Go Go.Deep

section
variable {P : Program}
theorem asAddr_some (a : Addr) (w : World) : (asAddr (.pointer (some a))).run P w = .ok a w := by simp [asAddr]
/-- one result, a struct or an array in a block of the call's own -/
theorem results_mid1 {fn : Func} {p : Tmp} {ty : TypeId} (h : fn.results = #[.cell p ty]) (tmps : Array Value) (w : World) (b : Nat) (cs : List Value) (d : TypeDesc)
    (hp : tmps.getD p undef = .pointer (some ⟨b, 0, none⟩)) (hc : w.rangeAt b 0 cs) (hu : P.underlying ty = some d) (hd : d.isRow = true) (hi : (P.info? ty).map (·.size) = some cs.length) :
    (results fn tmps).run P w = .ok (.agg cs.toArray) w := by
  have hp' : tmps[p]?.getD undef = .pointer (some ⟨b, 0, none⟩) := by simpa using hp
  simp [results, h, hp', asAddr, run_loadVar_mid w b 0 ty cs d hc hu hd hi]
/-- two results, the first one so -/
theorem results_mid2 {fn : Func} {p q : Tmp} {ty : TypeId} (h : fn.results = #[.cell p ty, .tmp q]) (tmps : Array Value) (w : World) (b : Nat) (cs : List Value) (d : TypeDesc) (v : Value)
    (hp : tmps.getD p undef = .pointer (some ⟨b, 0, none⟩)) (hq : tmps.getD q undef = v) (hc : w.rangeAt b 0 cs) (hu : P.underlying ty = some d) (hd : d.isRow = true) (hi : (P.info? ty).map (·.size) = some cs.length) :
    (results fn tmps).run P w = .ok (.tuple #[.agg cs.toArray, v]) w := by
  have hp' : tmps[p]?.getD undef = .pointer (some ⟨b, 0, none⟩) := by simpa using hp
  have hq' : tmps[q]?.getD undef = v := by simpa using hq
  simp [results, h, hp', hq', asAddr, run_loadVar_mid w b 0 ty cs d hc hu hd hi]
end

/-- block b holds just the cells cs -/
def Cm (w : World) (b : Nat) (T : TypeId) (cs : List Value) : Prop := w.heap[b]? = some (.cells cs.toArray T (0, 0))
theorem Cm.lt {w : World} {b : Nat} {T : TypeId} {cs : List Value} (h : Cm w b T cs) : b < w.heap.size := (Array.getElem?_eq_some_iff.1 h).1
theorem Cm.cell {w : World} {b : Nat} {T : TypeId} {cs : List Value} (h : Cm w b T cs) (j : Nat) : w.cell? ⟨b, j, none⟩ = cs[j]? := by
  rw [cell_of_row w b j _ T (0, 0) h]; simp
theorem Cm.frozen {w : World} {b : Nat} {T : TypeId} {cs : List Value} (h : Cm w b T cs) (j : Nat) : w.frozen? ⟨b, j, none⟩ = false := frozen_of_row w b j _ T h
theorem Cm.of_block {w w' : World} {b : Nat} {T : TypeId} {cs : List Value} (h : Cm w b T cs) (hb : w'.heap[b]? = w.heap[b]?) : Cm w' b T cs := hb.trans h
theorem Cm.below {w w' : World} {b B : Nat} {T : TypeId} {cs : List Value} (h : Cm w b T cs) (hb : Below B w w') (hB : b < B) : Cm w' b T cs := h.of_block (hb.block b hB)
theorem Cm.all {w w' : World} {b : Nat} {T : TypeId} {cs : List Value} (h : Cm w b T cs) (hb : Below w.heap.size w w') : Cm w' b T cs := h.below hb h.lt
theorem Cm.new {w : World} {b : Nat} {T : TypeId} {cs : List Value} (hb : b = w.heap.size) : Cm (w.alloc (.cells cs.toArray T)) b T cs := by subst hb; exact heap_alloc_new w _
theorem Cm.alloc {w : World} {b : Nat} {T : TypeId} {cs : List Value} (h : Cm w b T cs) (o : Obj) : Cm (w.alloc o) b T cs := h.all ((Below.refl _ _).alloc (Nat.le_refl _) _)
theorem Cm.drewN {w : World} {b : Nat} {T : TypeId} {cs : List Value} (h : Cm w b T cs) (n : Nat) : Cm (w.drewN n) b T cs := h
theorem Cm.drew {w : World} {b : Nat} {T : TypeId} {cs : List Value} (h : Cm w b T cs) : Cm w.drew b T cs := h
theorem Cm.set {w : World} {b : Nat} {T : TypeId} {cs : List Value} (h : Cm w b T cs) (j : Nat) (v : Value) : Cm (w.setCell ⟨b, j, none⟩ v) b T (cs.set j v) := by
  have := heap_setCell_same w b j _ T v h
  unfold Cm
  rw [this]; simp
theorem Cm.other {w : World} {b : Nat} {T : TypeId} {cs : List Value} (h : Cm w b T cs) {b' : Nat} (hb : b ≠ b') (o : Nat) (u : Value) : Cm (w.setCell ⟨b', o, none⟩ u) b T cs :=
  h.of_block (heap_setCell_other w ⟨b', o, none⟩ b u hb)
theorem Cm.range {w : World} {b : Nat} {T : TypeId} {cs : List Value} (h : Cm w b T cs) (o : Nat) (ds : List Value) (hd : ∀ j, j < ds.length → cs[o + j]? = ds[j]?) : w.rangeAt b o ds := by
  intro j v hv
  rw [h.cell, hd j (List.getElem?_eq_some_iff.1 hv).1, hv]
theorem Cm.whole {w : World} {b : Nat} {T : TypeId} {cs : List Value} (h : Cm w b T cs) : w.rangeAt b 0 cs := h.range 0 cs fun j _ => by rw [Nat.zero_add]
theorem Cm.there {w : World} {b : Nat} {T : TypeId} {cs : List Value} (h : Cm w b T cs) (o n : Nat) (hn : o + n ≤ cs.length) : w.there b o n := by
  intro j hj
  refine ⟨?_, h.frozen _⟩
  rw [h.cell, List.getElem?_eq_getElem (by omega)]; rfl
theorem heap_setCells_other : ∀ (vs : List Value) (w : World) (b o k : Nat), k ≠ b → (w.setCells b o vs).heap[k]? = w.heap[k]?
  | [], _, _, _, _, _ => rfl
  | v :: vs, w, b, o, k, h => by
    rw [World.setCells, heap_setCells_other vs _ b (o + 1) k h]
    exact heap_setCell_other w ⟨b, o, none⟩ k v h
theorem size_setCells : ∀ (vs : List Value) (w : World) (b o : Nat), (w.setCells b o vs).heap.size = w.heap.size
  | [], _, _, _ => rfl
  | v :: vs, w, b, o => by rw [World.setCells, size_setCells vs]; simp [World.setCell]
/-- a list with vs laid over it from o on -/
def lay' : List Value → Nat → List Value → List Value
  | cs, _, [] => cs
  | cs, o, v :: vs => lay' (cs.set o v) (o + 1) vs
theorem Cm.sets : ∀ (vs : List Value) {w : World} {b : Nat} {T : TypeId} {cs : List Value} (o : Nat), Cm w b T cs → Cm (w.setCells b o vs) b T (lay' cs o vs)
  | [], _, _, _, _, _, h => h
  | v :: vs, _, _, _, _, o, h => by rw [World.setCells, lay']; exact Cm.sets vs (o + 1) (h.set o v)
theorem lay'_eq : ∀ (vs cs : List Value) (o : Nat), o + vs.length ≤ cs.length → lay' cs o vs = cs.take o ++ vs ++ cs.drop (o + vs.length)
  | [], cs, o, _ => by simp [lay']
  | v :: vs, cs, o, h => by
    have h' : o + 1 + vs.length ≤ (cs.set o v).length := by simp at h ⊢; omega
    rw [lay', lay'_eq vs (cs.set o v) (o + 1) h']
    have ho : o < cs.length := by simp at h; omega
    have e1 : (cs.set o v).take (o + 1) = cs.take o ++ [v] := by
      rw [List.take_add_one, List.getElem?_set_self ho, List.take_set_of_le (Nat.le_refl _)]; rfl
    have e2 : (cs.set o v).drop (o + 1 + vs.length) = cs.drop (o + (v :: vs).length) := by
      rw [List.drop_set_of_lt (by omega), List.length_cons]; congr 1; omega
    rw [e1, e2]; simp
theorem Cm.setsO {w : World} {b : Nat} {T : TypeId} {cs : List Value} (h : Cm w b T cs) {b' : Nat} (hb : b ≠ b') (o : Nat) (vs : List Value) : Cm (w.setCells b' o vs) b T cs := h.of_block (heap_setCells_other vs w b' o b hb)
theorem setCells_streams : ∀ (vs : List Value) (w : World) (b o : Nat), (w.setCells b o vs).os = w.os ∧ (w.setCells b o vs).tape = w.tape ∧ (w.setCells b o vs).output = w.output
  | [], _, _, _ => ⟨rfl, rfl, rfl⟩
  | v :: vs, w, b, o => by rw [World.setCells]; exact setCells_streams vs _ b (o + 1)
theorem below_setCells {B : Nat} {a w : World} (h : Below B a w) {b : Nat} (hb : B ≤ b) (o : Nat) (vs : List Value) : Below B a (w.setCells b o vs) :=
  h.trans ⟨(setCells_streams vs w b o).1, (setCells_streams vs w b o).2.1, (setCells_streams vs w b o).2.2, Nat.le_of_eq (size_setCells vs w b o).symm, fun k hk => heap_setCells_other vs w b o k (by omega)⟩
/-- but for block b the world is as it was -/
structure At (b : Nat) (w w' : World) : Prop where
  os : w'.os = w.os
  tape : w'.tape = w.tape
  output : w'.output = w.output
  size : w'.heap.size = w.heap.size
  block : ∀ k, k ≠ b → w'.heap[k]? = w.heap[k]?
theorem At.below {b B : Nat} {w w' : World} (h : At b w w') (hB : B ≤ b) : Below B w w' := ⟨h.os, h.tape, h.output, Nat.le_of_eq h.size.symm, fun k hk => h.block k (by omega)⟩
theorem At.cm {b : Nat} {w w' : World} (h : At b w w') {b' : Nat} {T : TypeId} {cs : List Value} (hc : Cm w b' T cs) (hb : b' ≠ b) : Cm w' b' T cs := hc.of_block (h.block b' hb)
theorem At.setCells (w : World) (b o : Nat) (vs : List Value) : At b w (w.setCells b o vs) := ⟨(setCells_streams vs w b o).1, (setCells_streams vs w b o).2.1, (setCells_streams vs w b o).2.2, size_setCells vs w b o, fun k hk => heap_setCells_other vs w b o k hk⟩
theorem At.setCell (w : World) (b o : Nat) (v : Value) : At b w (w.setCell ⟨b, o, none⟩ v) := ⟨rfl, rfl, rfl, by simp [World.setCell], fun k hk => heap_setCell_other w ⟨b, o, none⟩ k v hk⟩
section
variable {P : Program}
/-- a struct or an array is read out of a block of one's own -/
theorem wpList_loadM {ops : Array Oper} {rest : List Oper} {o : Oper} {a : Act} {w : World} {Q : Exit → Act → World → Prop} (hgd : o.guard = none) (ty : TypeId) (x : Operand) (ho : o.op = .load ty x)
    (b off : Nat) (hx : a.eval x = .pointer (some ⟨b, off, none⟩)) (B : TypeId) (cs ds : List Value) (hc : Cm w b B cs) (hd : ∀ j, j < ds.length → cs[off + j]? = ds[j]?)
    (d : TypeDesc) (hu : P.underlying ty = some d) (hr : d.isRow = true) (hi : (P.info? ty).map (·.size) = some ds.length)
    (h : wpList P ops Q rest (a.put o.dst (.agg ds.toArray)) w) : wpList P ops Q (o :: rest) a w :=
  wpList_load_mid hgd ty x ho b off hx ds d (hc.range off ds hd) hu hr hi h
/-- a struct or an array is stored into a block of one's own -/
theorem wpList_storeM {ops : Array Oper} {rest : List Oper} {o : Oper} {a : Act} {w : World} {Q : Exit → Act → World → Prop} (hgd : o.guard = none) (ty : TypeId) (x y : Operand) (ho : o.op = .store ty x y)
    (b off : Nat) (hx : a.eval x = .pointer (some ⟨b, off, none⟩)) (vs : List Value) (hy : a.eval y = .agg vs.toArray) (B : TypeId) (cs : List Value) (hc : Cm w b B cs) (hfit : off + vs.length ≤ cs.length)
    (hi : (P.info? ty).map (·.size) = some vs.length) (h1 : ∀ v ∈ vs, v.oneCell' = true)
    (h : ∀ w', Cm w' b B (lay' cs off vs) → At b w w' → wpList P ops Q rest (a.put o.dst undef) w') : wpList P ops Q (o :: rest) a w := by
  refine wpList_store_mid hgd ty x y ho b off vs.toArray hx hy (by rw [List.size_toArray]; exact hc.there _ _ hfit) (by rw [List.size_toArray]; exact hi) (all_oneCell_toArray h1) ?_
  exact h _ (hc.sets vs off) (At.setCells w b off vs)
end
/-- the whole is stored anew -/
theorem lay'_all {cs vs : List Value} (h : vs.length = cs.length) : lay' cs 0 vs = vs := by
  rw [lay'_eq _ _ _ (by omega), List.take_zero, List.nil_append, List.drop_of_length_le (by omega), List.append_nil]
section
variable {P : Program}
theorem eqItems_arr (d : Nat) {e : TypeId} (hp : P.plainKey e = true) (xs ys : List Value) (hl : xs.length = ys.length) (g : Value → Value → Bool)
    (hg : ∀ a b, a ∈ xs → b ∈ ys → ∀ w, (Op.equalIn d e a b).run P w = .ok (g a b) w) (hge : ∀ a b, a ∈ xs → b ∈ ys → (g a b = true ↔ a = b)) (w : World) :
    ∀ is : List Nat, (∀ i ∈ is, i < xs.length) → ∃ r, (Op.eqItems d e 1 xs.toArray ys.toArray is).run P w = .ok r w ∧ (r = true ↔ ∀ i ∈ is, xs[i]? = ys[i]?)
  | [], _ => ⟨true, by simp [Op.eqItems], by simp⟩
  | i :: is, h => by
    have hi := h i (List.mem_cons_self ..)
    have hx : xs.toArray[i]? = some xs[i] := by simp [hi]
    have hy : ys.toArray[i]? = some (ys[i]'(by omega)) := by simp [show i < ys.length by omega]
    obtain ⟨r, hr, hiff⟩ := eqItems_arr d hp xs ys hl g hg hge w is (fun j hj => h j (List.mem_cons_of_mem _ hj))
    have hm1 : xs[i] ∈ xs := List.getElem_mem _
    have hm2 : ys[i]'(by omega) ∈ ys := List.getElem_mem _
    have e1 := run_part_plain w hp hx
    have e2 := run_part_plain w hp hy
    have hq := hge _ _ hm1 hm2
    have e3 : xs[i]? = ys[i]? ↔ xs[i] = ys[i]'(by omega) := by
      rw [List.getElem?_eq_getElem hi, List.getElem?_eq_getElem (by omega), Option.some.injEq]
    refine ⟨g xs[i] (ys[i]'(by omega)) && r, ?_, ?_⟩
    · rw [Op.eqItems]
      simp only [Nat.mul_one, Sem.run_bind, e1, e2, Result.andThen_ok, hg _ _ hm1 hm2]
      cases g xs[i] (ys[i]'(by omega)) with
      | true => simpa using hr
      | false => simp
    · rw [Bool.and_eq_true, hq, hiff, List.forall_mem_cons, e3]
theorem equalIn_arr (d : Nat) {t e : TypeId} {n : Nat} {i : TypeInfo} (xs ys : List Value) (hu : P.underlying t = some (.array n e)) (hi : P.info? e = some i) (hp : P.plainKey e = true) (hc : P.cellsOf e = 1)
    (hx : xs.length = n) (hy : ys.length = n) (g : Value → Value → Bool) (hg : ∀ a b, a ∈ xs → b ∈ ys → ∀ w, (Op.equalIn d e a b).run P w = .ok (g a b) w) (hge : ∀ a b, a ∈ xs → b ∈ ys → (g a b = true ↔ a = b)) (w : World) :
    ∃ r, (Op.equalIn (d + 1) t (.agg xs.toArray) (.agg ys.toArray)).run P w = .ok r w ∧ (r = true ↔ xs = ys) := by
  obtain ⟨r, hr, hiff⟩ := eqItems_arr (P := P) d hp xs ys (by omega) g hg hge w (List.range n) (fun j hj => by have := List.mem_range.1 hj; omega)
  refine ⟨r, by rw [run_equalIn_array w d xs.toArray ys.toArray hu hi, hc]; exact hr, hiff.trans ⟨fun h => ?_, fun h j _ => by rw [h]⟩⟩
  apply List.ext_getElem?
  intro j
  rcases Nat.lt_or_ge j n with h' | h'
  · exact h j (List.mem_range.2 h')
  · rw [List.getElem?_eq_none (by omega), List.getElem?_eq_none (by omega)]
end
section
variable {P : Program}
/-- an element of an array value, one cell -/
theorem wpList_indexM {ops : Array Oper} {rest : List Oper} {o : Oper} {a : Act} {w : World} {Q : Exit → Act → World → Prop} (hgd : o.guard = none) (ty : TypeId) (x ix : Operand) (ho : o.op = .index ty x ix)
    (cs : List Value) (hx : a.eval x = .agg cs.toArray) (k : IntKind) (i : Nat) (hix : a.eval ix = .int k i) (n : Nat) (e : TypeId) (hu : P.underlying ty = some (.array n e)) (hp : P.plainKey e = true)
    (ti : TypeInfo) (hi : P.info? e = some ti) (hs : ti.size = 1) (hn : i < n) (v : Value) (hv : cs[i]? = some v)
    (h : wpList P ops Q rest (a.put o.dst v) w) : wpList P ops Q (o :: rest) a w := by
  have hpart := run_part_plain (P := P) w hp (xs := cs.toArray) (off := i) (v := v) (by simpa using hv)
  refine wpList_op hgd v ?_ h
  have hsz : P.cellsOf e = 1 := by simp [Program.cellsOf, hi, hs]
  unfold execOp
  simp [ho, hx, hix, Instr.index, asIntOf, run_underlying hu, run_sizeOf w hi, hsz, hn, hpart]
/-- a row of an array of arrays -/
theorem wpList_indexR {ops : Array Oper} {rest : List Oper} {o : Oper} {a : Act} {w : World} {Q : Exit → Act → World → Prop} (hgd : o.guard = none) (ty : TypeId) (x ix : Operand) (ho : o.op = .index ty x ix)
    (cs : List Value) (hx : a.eval x = .agg cs.toArray) (k : IntKind) (i : Nat) (hix : a.eval ix = .int k i) (n m : Nat) (e e' : TypeId) (hu : P.underlying ty = some (.array n e)) (hue : P.underlying e = some (.array m e'))
    (ti : TypeInfo) (hi : P.info? e = some ti) (hn : i < n) (ds : List Value) (hd : (cs.drop (i * ti.size)).take ti.size = ds)
    (h : wpList P ops Q rest (a.put o.dst (.agg ds.toArray)) w) : wpList P ops Q (o :: rest) a w := by
  have hagg : (isAgg e).run P w = .ok true w := by
    unfold isAgg
    rw [Sem.run_bind, run_underlying hue w]
    rfl
  have hsz : P.cellsOf e = ti.size := by simp [Program.cellsOf, hi]
  refine wpList_op hgd (.agg ds.toArray) ?_ h
  unfold execOp
  simp [ho, hx, hix, Instr.index, asIntOf, run_underlying hu, run_sizeOf w hi, hn, part, hagg, hsz, hd]
end
section
variable {P : Program}
/-- a struct or an array built of its parts -/
theorem wpList_buildM {ops : Array Oper} {rest : List Oper} {o : Oper} {a : Act} {w : World} {Q : Exit → Act → World → Prop} (hgd : o.guard = none) (T : TypeId) (parts : Array (Nat × Operand)) (ho : o.op = .build T parts)
    (vs : Array (Nat × Value)) (hv : (parts.map fun (i, x) => (i, a.eval x)) = vs) (cs : List Value) (hr : (Instr.build T vs).run P w = .ok (.agg cs.toArray) w)
    (h : wpList P ops Q rest (a.put o.dst (.agg cs.toArray)) w) : wpList P ops Q (o :: rest) a w := by
  refine wpList_op hgd (.agg cs.toArray) ?_ h
  unfold execOp
  simp [ho, hv, hr]
/-- a local struct or array is laid -/
theorem wpList_allocM {ops : Array Oper} {rest : List Oper} {o : Oper} {a : Act} {w : World} {Q : Exit → Act → World → Prop} (hgd : o.guard = none) (T : TypeId) (ho : o.op = .alloc T) (zs : List Value)
    (hr : ∀ W : World, (Instr.alloc T true (.tuple #[])).run P W = .ok (.pointer (some ⟨W.heap.size, 0, none⟩)) (W.alloc (.cells zs.toArray T)))
    (h : ∀ w', Cm w' w.heap.size T zs → Below w.heap.size w w' → w'.heap.size = w.heap.size + 1 → wpList P ops Q rest (a.put o.dst (.pointer (some ⟨w.heap.size, 0, none⟩))) w') : wpList P ops Q (o :: rest) a w :=
  wpList_alloc hgd T ho _ (hr w) (h _ (Cm.new rfl) ((Below.refl _ _).alloc (Nat.le_refl _) _) (by simp))
end
section
variable {P : Program}
/-- a guarded operation that is wanted -/
theorem wpList_wanted {ops : Array Oper} {rest : List Oper} {o : Oper} {a : Act} {w : World} {Q : Exit → Act → World → Prop} {g : Nat × Bool} (_hg : o.guard = some g) (hw : Region.wanted o (yielded ops a.tmps) = true)
    (h : ∀ K : Act → World → Prop, (∀ a w, wpList P ops Q rest a w → K a w) → o.wp P a w K Q) : wpList P ops Q (o :: rest) a w :=
  wpList_step fun K hK => by rw [if_pos hw]; exact h K hK
end
section
variable {P : Program}
theorem wpList_opG {ops : Array Oper} {rest : List Oper} {o : Oper} {a : Act} {w : World} {Q : Exit → Act → World → Prop} {g : Nat × Bool} (hg : o.guard = some g) (hw : Region.wanted o (yielded ops a.tmps) = true) (v : Value)
    (hr : (execOp a.eval o).run P w = .ok (.value v) w) (h : wpList P ops Q rest (a.put o.dst v) w) : wpList P ops Q (o :: rest) a w :=
  wpList_wanted hg hw fun _ hK => by unfold Oper.wp; rw [hr]; exact hK _ _ h
/-- guarded: a field's address -/
theorem wpList_fieldG {ops : Array Oper} {rest : List Oper} {o : Oper} {a : Act} {w : World} {Q : Exit → Act → World → Prop} {g : Nat × Bool} (hg : o.guard = some g) (hw : Region.wanted o (yielded ops a.tmps) = true) (T : TypeId) (x : Operand) (f : Nat) (ho : o.op = .fieldAddr T x f)
    (b off off' : Nat) (hx : a.eval x = .pointer (some ⟨b, off, none⟩)) (hr : (Instr.fieldAt T (.pointer (some ⟨b, off, none⟩)) f).run P w = .ok (.pointer (some ⟨b, off', none⟩)) w)
    (h : wpList P ops Q rest (a.put o.dst (.pointer (some ⟨b, off', none⟩))) w) : wpList P ops Q (o :: rest) a w :=
  wpList_opG hg hw _ (by unfold execOp; simp [ho, hx, hr]) h
/-- guarded: a load of one cell -/
theorem wpList_loadG {ops : Array Oper} {rest : List Oper} {o : Oper} {a : Act} {w : World} {Q : Exit → Act → World → Prop} {g : Nat × Bool} (hg : o.guard = some g) (hw : Region.wanted o (yielded ops a.tmps) = true) (T : TypeId) (x : Operand) (ho : o.op = .load T x)
    (b off : Nat) (hx : a.eval x = .pointer (some ⟨b, off, none⟩)) (v : Value) (hc : w.cell? ⟨b, off, none⟩ = some v) (hagg : ∀ W : World, (isAgg T).run P W = .ok false W)
    (h : wpList P ops Q rest (a.put o.dst v) w) : wpList P ops Q (o :: rest) a w :=
  wpList_opG hg hw _ (by unfold execOp; simp [ho, hx, Instr.loadAt, Instr.sureAddr, loadVar, hagg, hc]) h
/-- guarded: a comparison -/
theorem wpList_binG {ops : Array Oper} {rest : List Oper} {o : Oper} {a : Act} {w : World} {Q : Exit → Act → World → Prop} {g : Nat × Bool} (hg : o.guard = some g) (hw : Region.wanted o (yielded ops a.tmps) = true) (bop : BinOp) (T : TypeId) (x y : Operand) (R : TypeId) (ho : o.op = .binOp bop T x y R)
    (u v r : Value) (hx : a.eval x = u) (hy : a.eval y = v) (hr : (do eqGuard bop T x y u v; binOp bop T u v : Sem Value).run P w = .ok r w)
    (h : wpList P ops Q rest (a.put o.dst r) w) : wpList P ops Q (o :: rest) a w :=
  wpList_opG hg hw _ (by unfold execOp; simp only [ho, hx, hy]; rw [Sem.run_bind, hr]; rfl) h
end
end Go.Proofs.YteahjnobnbafiaaDoor

/-
  Contracts of the laws' helpers over models: toModel, szModel, eqModel, markModel, heldModel; what an argument that is a model is. Conditions: bounds on the lengths, which the laws check.
-/
namespace Go.Proofs.YteahjnobnbafiaaDoor
open Go.RowKit Go.WideShapes
open Go Go.Deep

theorem bcell {W w1 : World} (hb : Below W.heap.size W w1) : (∀ b o, b < W.heap.size → w1.cell? ⟨b, o, none⟩ = W.cell? ⟨b, o, none⟩) ∧ (∀ b o, b < W.heap.size → w1.frozen? ⟨b, o, none⟩ = W.frozen? ⟨b, o, none⟩) :=
  ⟨fun b o h => hb.cell (p := ⟨b, o, none⟩) h, fun b o h => hb.frozen (p := ⟨b, o, none⟩) h⟩
/-- a block of one's own that holds a model's three values -/
def Mcell (w : World) (b : Nat) (fv bv : Value) (n : Int) : Prop :=
  w.cell? ⟨b, 0, none⟩ = some fv ∧ w.cell? ⟨b, 1, none⟩ = some bv ∧ w.cell? ⟨b, 2, none⟩ = some (.int .i64 n) ∧ w.frozen? ⟨b, 0, none⟩ = false ∧ w.frozen? ⟨b, 1, none⟩ = false ∧ w.frozen? ⟨b, 2, none⟩ = false
theorem Mcell.below {w w' : World} {b : Nat} {fv bv : Value} {n : Int} (h : Mcell w b fv bv n) (hb : Below w.heap.size w w') : Mcell w' b fv bv n := by
  obtain ⟨h1, h2, h3, h4, h5, h6⟩ := h
  have hlt := World.block_lt_of_cell? w _ h1
  obtain ⟨hc, hf⟩ := bcell hb
  exact ⟨by rw [hc _ _ hlt, h1], by rw [hc _ _ hlt, h2], by rw [hc _ _ hlt, h3], by rw [hf _ _ hlt, h4], by rw [hf _ _ hlt, h5], by rw [hf _ _ hlt, h6]⟩
theorem Mcell.of_block {w w' : World} {b : Nat} {fv bv : Value} {n : Int} (h : Mcell w b fv bv n) (hb : w'.heap[b]? = w.heap[b]?) : Mcell w' b fv bv n := by
  obtain ⟨h1, h2, h3, h4, h5, h6⟩ := h
  have c : ∀ o, w'.cell? ⟨b, o, none⟩ = w.cell? ⟨b, o, none⟩ := fun o => World.cell?_of_block (a := ⟨b, o, none⟩) hb
  have f : ∀ o, w'.frozen? ⟨b, o, none⟩ = w.frozen? ⟨b, o, none⟩ := fun o => World.frozen?_of_block (a := ⟨b, o, none⟩) hb
  exact ⟨by rw [c, h1], by rw [c, h2], by rw [c, h3], by rw [f, h4], by rw [f, h5], by rw [f, h6]⟩
theorem Mcell.lt {w : World} {b : Nat} {fv bv : Value} {n : Int} (h : Mcell w b fv bv n) : b < w.heap.size := World.block_lt_of_cell? w _ h.1
/-- a store into a block of one's own keeps all that lies elsewhere -/
theorem Keeps.setCell {lo hi : Nat} (w : World) (b o : Nat) (u : Value) (h : b < lo ∨ hi ≤ b) : Keeps lo hi w (w.setCell ⟨b, o, none⟩ u) :=
  ⟨by simp [World.setCell], fun k h1 h2 _ => Below.heap_setCell _ _ _ _ (by show k ≠ b; omega)⟩
theorem Mcell.other {w : World} {b : Nat} {fv bv : Value} {n : Int} (h : Mcell w b fv bv n) {b' : Nat} (hb : b ≠ b') (o : Nat) (u : Value) : Mcell (w.setCell ⟨b', o, none⟩ u) b fv bv n := by
  obtain ⟨h1, h2, h3, h4, h5, h6⟩ := h
  have hne : ∀ o', (⟨b', o, none⟩ : Addr) ≠ ⟨b, o', none⟩ := fun o' e => hb (by cases e; rfl)
  exact ⟨by rw [World.cell?_setCell_other _ _ _ _ (hne _)]; exact h1, by rw [World.cell?_setCell_other _ _ _ _ (hne _)]; exact h2, by rw [World.cell?_setCell_other _ _ _ _ (hne _)]; exact h3, by simpa using h4, by simpa using h5, by simpa using h6⟩
theorem Mcell.new {w : World} {b : Nat} {fv bv : Value} {n : Int} {T : TypeId} (hb : b = w.heap.size) : Mcell (w.alloc (.cells #[fv, bv, .int .i64 n] T)) b fv bv n := by
  subst hb
  have h := heap_alloc_new w (.cells #[fv, bv, .int .i64 n] T)
  refine ⟨?_, ?_, ?_, ?_, ?_, ?_⟩
  · rw [cell_of_row _ _ _ _ _ _ h]; rfl
  · rw [cell_of_row _ _ _ _ _ _ h]; rfl
  · rw [cell_of_row _ _ _ _ _ _ h]; rfl
  · exact frozen_of_row _ _ _ _ _ h
  · exact frozen_of_row _ _ _ _ _ h
  · exact frozen_of_row _ _ _ _ _ h
theorem Mcell.alloc {w : World} {b : Nat} {fv bv : Value} {n : Int} (h : Mcell w b fv bv n) (o : Obj) : Mcell (w.alloc o) b fv bv n := h.below ((Below.refl _ _).alloc (Nat.le_refl _) _)
theorem Mcell.drewN {w : World} {b : Nat} {fv bv : Value} {n : Int} (h : Mcell w b fv bv n) (k : Nat) : Mcell (w.drewN k) b fv bv n := h
theorem Keeps.set {lo hi : Nat} {a w : World} (h : Keeps lo hi a w) {b : Nat} (hb : b < lo ∨ hi ≤ b) (o : Nat) (u : Value) : Keeps lo hi a (w.setCell ⟨b, o, none⟩ u) := h.trans (Keeps.setCell _ _ _ _ hb)
theorem Mcell.set0 {w : World} {b : Nat} {fv bv : Value} {n : Int} (h : Mcell w b fv bv n) (u : Value) : Mcell (w.setCell ⟨b, 0, none⟩ u) b u bv n := by
  obtain ⟨h1, h2, h3, h4, h5, h6⟩ := h
  exact ⟨World.cell?_setCell_same _ _ _ h1, by rw [World.cell?_setCell_other _ _ _ _ (by simp)]; exact h2, by rw [World.cell?_setCell_other _ _ _ _ (by simp)]; exact h3, by simpa using h4, by simpa using h5, by simpa using h6⟩
theorem Mcell.set1 {w : World} {b : Nat} {fv bv : Value} {n : Int} (h : Mcell w b fv bv n) (u : Value) : Mcell (w.setCell ⟨b, 1, none⟩ u) b fv u n := by
  obtain ⟨h1, h2, h3, h4, h5, h6⟩ := h
  exact ⟨by rw [World.cell?_setCell_other _ _ _ _ (by simp)]; exact h1, World.cell?_setCell_same _ _ _ h2, by rw [World.cell?_setCell_other _ _ _ _ (by simp)]; exact h3, by simpa using h4, by simpa using h5, by simpa using h6⟩
theorem Mcell.set2 {w : World} {b : Nat} {fv bv : Value} {n : Int} (h : Mcell w b fv bv n) (u : Int) : Mcell (w.setCell ⟨b, 2, none⟩ (.int .i64 u)) b fv bv u := by
  obtain ⟨h1, h2, h3, h4, h5, h6⟩ := h
  exact ⟨by rw [World.cell?_setCell_other _ _ _ _ (by simp)]; exact h1, by rw [World.cell?_setCell_other _ _ _ _ (by simp)]; exact h2, World.cell?_setCell_same _ _ _ h3, by simpa using h4, by simpa using h5, by simpa using h6⟩

theorem Mcell.range {w : World} {b : Nat} {fv bv : Value} {n : Int} (h : Mcell w b fv bv n) : w.rangeAt b 0 [fv, bv, .int .i64 n] := by
  intro j v hj
  obtain ⟨h1, h2, h3, _⟩ := h
  match j with
  | 0 => simp at hj; subst hj; exact h1
  | 1 => simp at hj; subst hj; exact h2
  | 2 => simp at hj; subst hj; exact h3
  | j + 3 => simp at hj
/-- a model's three values are stored one by one -/
theorem Mcell.write {w : World} {b : Nat} {fv bv : Value} {n : Int} (h : Mcell w b fv bv n) (fv' bv' : Value) (n' : Int) : Mcell (((w.setCell ⟨b, 0, none⟩ fv').setCell ⟨b, 1, none⟩ bv').setCell ⟨b, 2, none⟩ (.int .i64 n')) b fv' bv' n' :=
  ((h.set0 fv').set1 bv').set2 n'

theorem mmod_facts (k : Nat) (m : Md) : (mmod k m).facts = mrow k m.facts.length := rfl
theorem mmod_blocks (k : Nat) (m : Md) : (mmod k m).blocks = mrows (k + m.facts.length) m.blocks := rfl
/-- a row that came in reads as its numbers -/
theorem Iv.of_cells {w : World} {a : Option Addr} {L C : Nat} {Z : List Int} (hL : L ≤ C) (hC : C ≤ maxLen) (hZ : Z.length = C) (h0 : a = none → C = 0) (hc : ∀ a', a = some a' → ∀ c, c < C → w.cell? (a'.add c) = some (.int .i64 (Z.getD c 0))) :
    Iv 0 w.heap.size w (.slice a L C) (Z.take L) := by
  have hl : (ints (Z.take L)).length = L := by rw [ints_len, List.length_take]; omega
  refine ⟨a, C, by rw [hl], by rw [hl]; exact hL, hC, ?_⟩
  rcases Nat.eq_zero_or_pos L with h | h
  · exact .inl (by subst h; rfl)
  · cases a with
    | none => have := h0 rfl; omega
    | some a' =>
      have c0 := hc a' rfl 0 (by omega)
      obtain ⟨b, o, s⟩ := a'
      have hs : s = none := by simpa [Addr.add] using World.cell?_spot c0
      subst hs
      refine .inr ⟨b, o, rfl, Nat.zero_le _, World.block_lt_of_cell? w _ (by rw [addr_add0] at c0; exact c0), World.block_lt_of_cell? w _ (by rw [addr_add0] at c0; exact c0), fun j x hx => ?_⟩
      have hj : j < L := by
        rcases Nat.lt_or_ge j L with h' | h'
        · exact h'
        · rw [List.getElem?_eq_none (by rw [hl]; exact h')] at hx; cases hx
      have hcj := hc _ rfl j (by omega)
      rw [addr_add0] at hcj
      rw [hcj, ← hx, ints_at (by rw [List.length_take]; omega), List.getD_eq_getElem?_getD, List.getD_eq_getElem?_getD, List.getElem?_take_of_lt hj]
theorem open_ints {H : Type} {enc : TypeId × Value → H} {W : World} {n : Nat} {v : Value} {y : DataW H × List MemPlace}
    (h : DataW.trod enc Tryd.prog W 0 (fun _ => true) true n 28 [v] = some y) : ∃ l, Iv 0 W.heap.size W v l := by
  rcases Go.ChangeShapes.open_ints Tryd.underlying28 Tryd.underlying3 (by kernel_rfl) h with ⟨hcs, _⟩ | ⟨a, len, cap, zs, hcs, _, hl, hm, hz, _, hcell, _⟩
  · simp only [List.cons.injEq, and_true] at hcs
    subst hcs
    exact ⟨[], Rv.nil _ _ _⟩
  · simp only [List.cons.injEq, and_true] at hcs
    subst hcs
    simp only [if_true] at hz
    exact ⟨_, Iv.of_cells hl hm hz (fun e => by cases e) (fun a' e c hc => by cases e; exact hcell c (by omega))⟩
set_option maxRecDepth 100000 in
theorem open_Slint {H : Type} {enc : TypeId × Value → H} (W : World) (base : Nat) (v : Value) (d : DataW H) (p : List MemPlace) (_hv : Value.okWide Tryd.prog W .any base 28 v)
    (h : DataW.Trod enc Tryd.prog W 0 (fun _ => true) true 28 v d p) : ∃ l, Iv 0 W.heap.size W v l := by
  obtain ⟨a0, len0, cap0, rfl⟩ := okWide_slice Tryd.underlying28 _hv
  obtain ⟨fuel, hf⟩ := h
  exact open_ints hf
end Go.Proofs.YteahjnobnbafiaaDoor
