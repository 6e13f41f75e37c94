/-
  What the library does for the hands of cards: append onto a slice that is full, slices.DeleteFunc, Sort, Contains, BinarySearch over numbers. Conditions: numbers from 0 to 127 for DeleteFunc; an ascending slice for BinarySearch.
-/
import Derived.Test.YteahjnobnbafiaaDoorCif
import Derived.Test.YteahjnobnbafiaaDoorShelf
import Derived.Sort.OwnSortedInts
namespace Go.Proofs.YteahjnobnbafiaaDoor
open Go.RowKit Go.WideShapes
open Go Go.Deep
set_option linter.unusedSimpArgs false

section
variable {P : Program}
/-- append of one element onto a slice whose room is used up: new memory -/
theorem wpList_pushN {ops : Array Oper} {rest : List Oper} {o : Oper} {a : Act} {w0 : World} {Q : Exit → Act → World → Prop} (hgd : o.guard = none) (s x : Operand) (t : TypeId) (d : Nat) (hd : o.dst = some d)
    (ho : o.op = .call { callee := .builtin .append, args := #[s, x], argTypes := #[t, t] })
    (e : TypeId) (z : Value) (bytes : Nat) (ht : P.underlying t = some (.slice e))
    (hinfo : (P.info? e).map (fun i => (i.zero, i.size, i.bytes)) = some (some z, 1, bytes)) (hzs : z.cells.size = 1)
    (y : Value) (g off : Nat) (n : Nat) (xs : List Value) (hxl : xs.length = n) (hb0 : g < w0.heap.size) (hcells : ∀ j u, xs[j]? = some u → w0.cell? ⟨g, off + j, none⟩ = some u) (hs : a.eval s = .slice (some ⟨g, off, none⟩) n n)
    (b : Nat) (hx : a.eval x = .slice (some ⟨b, 0, none⟩) 1 1) (hbk : b = w0.heap.size)
    (h63 : n + 1 ≤ maxLen) (hbytes : (n + 1) * bytes ≤ 140737488355328)
    (h : ∀ v' w', w'.ownsRow w0.heap.size e 1 v' (n + 1) (xs ++ [y]) → Below w0.heap.size w0 w' → wpList P ops Q rest (a.put (some d) v') w') : wpList P ops Q (o :: rest) a (w0.alloc (.cells #[y] e)) := by
  subst hbk
  obtain ⟨i0, hi, hz0, hz1, hz2⟩ := info_parts hinfo
  subst hz2
  have hb1 : Below w0.heap.size w0 (w0.alloc (.cells #[y] e)) := (Below.refl _ _).alloc (Nat.le_refl _) _
  have hnews : ∀ j u, [y][j]? = some u → (w0.alloc (.cells #[y] e)).cell? ((⟨w0.heap.size, 0, none⟩ : Addr).add j) = some u := by
    intro j u hu
    match j with
    | 0 =>
      simp at hu; subst hu
      rw [addr_add0, World.cell?_alloc_at _ _ _ _ rfl]; rfl
    | j + 1 => simp at hu
  have holds : ∀ j u, xs[j]? = some u → (w0.alloc (.cells #[y] e)).cell? ((⟨g, off, none⟩ : Addr).add j) = some u := fun j u hu => by rw [addr_add0]; exact (hb1.cell (p := ⟨g, off + j, none⟩) hb0).trans (hcells j u hu)
  have hsize : (w0.alloc (.cells #[y] e)).heap.size = w0.heap.size + 1 := by simp
  generalize hw1 : w0.alloc (.cells #[y] e) = w1 at *
  refine wpList_plain hgd fun K hK => ?_
  have hr := run_append_grow (P := P) w1 t o.type e i0 z ht hi hz0 ⟨g, off, none⟩ n n xs (by rw [hz1, Nat.mul_one]; exact hxl) holds ⟨w0.heap.size, 0, none⟩ 1 1 [y] (by rw [hz1]; rfl) hnews (by omega) (by unfold maxLen at h63; omega) (growslice_fits (by omega) hbytes)
  have hge := grownCap_ge w1 (n + 1) n e
  have hcm : grownCap w1 (n + 1) n e ≤ maxLen := grownCap_le_maxLen w1 (n + 1) n e h63
  have hlen : (xs ++ [y]).length = (n + 1) * 1 := by rw [List.length_append, hxl]; simp
  have hown : (w1.drew.alloc (.cells (xs.toArray ++ [y].toArray ++ Builtin.zeroCells z.cells (grownCap w1 (n + 1) n e - (n + 1))) e)).ownsRow w0.heap.size e 1 (.slice (some ⟨w1.heap.size, 0, none⟩) (n + 1) (grownCap w1 (n + 1) n e)) (n + 1) (xs ++ [y]) := by
    refine ⟨hlen, .inr ⟨w1.heap.size, _, _, rfl, by omega, heap_alloc_new w1.drew _, hge, hcm, ?_, ?_⟩⟩
    · simp only [Array.size_append, List.size_toArray, size_zeroCells, hzs, hxl, List.length_singleton]
      omega
    · simp only [Array.toList_append, List.append_assoc]
      rw [← List.append_assoc, ← hlen]
      exact List.take_left
  have hbel : Below w0.heap.size w0 (w1.drew.alloc (.cells (xs.toArray ++ [y].toArray ++ Builtin.zeroCells z.cells (grownCap w1 (n + 1) n e - (n + 1))) e)) := hb1.drew.alloc (by have : w1.drew.heap.size = w1.heap.size := rfl; omega) _
  have h2 := h _ _ hown hbel
  rw [← hd] at h2
  generalize w1.drew.alloc (.cells (xs.toArray ++ [y].toArray ++ Builtin.zeroCells z.cells (grownCap w1 (n + 1) n e - (n + 1))) e) = w2 at *
  unfold Oper.wp
  simp [execOp, ho, resolve, invoke, builtin, hs, hx, hr, Result.andThen]
  exact hK _ _ h2
end
theorem search_any (lo hi : Nat) (v : Value) (l : List Int) (x : Int) (w : World) (hr : Iv lo hi w v l) (hl : l.length ≤ 1048576) (hs : l.Pairwise (· < ·)) :
    Calls Tryd.prog 27 #[v, .int .i64 x] w fun e w' => e = .returned (.tuple #[.int .i64 ((l.countP (· < x) : Nat) : Int), .bool (hasI l x)]) ∧ ∃ q, w' = w.drewN q := by
  obtain ⟨a, cap, rfl, h1, h2, h3⟩ := hr.parts
  have e : hasI l x = l.contains x := by rw [Bool.eq_iff_iff, hasI_mem]; simp
  rw [e]
  rcases Nat.eq_zero_or_pos l.length with h0 | h0
  · obtain rfl : l = [] := List.length_eq_zero_iff.1 h0
    exact (Tryd.slices_BinarySearch_int_empty a cap x w).mono (by rintro e w' ⟨rfl, rfl⟩; exact ⟨rfl, 0, rfl⟩)
  · obtain ⟨b, o, rfl, -⟩ := h3 0 h0
    refine (Tryd.slices_BinarySearch_int b o l.length cap l x w (Nat.le_refl _) (by omega) (fun j hj => ?_) (by rw [List.take_of_length_le (Nat.le_refl _)]; exact hs.imp (fun h => by omega))).mono ?_
    · obtain ⟨b', o', e', -, -, -, c0⟩ := h3 j hj
      cases e'
      exact c0
    · rintro e w' ⟨rfl, hq⟩
      rw [List.take_of_length_le (Nat.le_refl _)]
      exact ⟨rfl, hq⟩
/-- a number from 0 to 127 in one cell -/
def encH (x : Fin 128) : Value := .int .i64 ((x.val : Nat) : Int)
theorem toFin : ∀ {l : List Int}, (∀ x ∈ l, 0 ≤ x ∧ x < 128) → ∃ L : List (Fin 128), l = L.map (fun x => ((x.val : Nat) : Int))
  | [], _ => ⟨[], rfl⟩
  | a :: r, h => by
    obtain ⟨L, hL⟩ := toFin (l := r) (fun x hx => h x (List.mem_cons_of_mem _ hx))
    have ha := h a (List.mem_cons_self ..)
    exact ⟨⟨a.toNat, by omega⟩ :: L, by rw [List.map_cons, ← hL]; congr 1; show a = ((a.toNat : Nat) : Int); omega⟩
theorem heap_row {α : Type} [Inhabited α] (enc : α → Value) {w : World} {g q : Nat} {cur : Array Value} {e : TypeId} {fr : Nat × Nat} (d : Array α) (hb : w.heap[g]? = some (.cells cur e fr)) :
    (Go.Sort.putRow enc (Go.Sort.ahead w q) g 0 d).heap[g]? = some (.cells (Go.Sort.putCells enc 0 d cur) e fr) := by
  simp [Go.Sort.putRow, Go.Sort.mapBlock, Go.Sort.ahead, Array.getElem?_modify, hb, Go.Sort.onCells]
theorem grown_row {α : Type} [Inhabited α] (enc : α → Value) {w : World} {g n : Nat} {os : Array Obj} (d : Array α) : w.grownBy (Go.Sort.grow (Go.Sort.putRow enc (Go.Sort.ahead w n) g 0 d) os) (some g) := by
  refine ⟨rfl, rfl, rfl, by simp, fun k hk hne => ?_⟩
  rw [Go.Sort.heap_grow_old _ _ (by simpa using hk)]
  have : g ≠ k := fun e => hne (by rw [e])
  simp [Go.Sort.putRow, Go.Sort.mapBlock, Go.Sort.ahead, Array.getElem?_modify, this]
theorem cells_row {α : Type} [Inhabited α] (enc : α → Value) (d : List α) (cur : Array Value) (h : d.length = cur.size) : Go.Sort.putCells enc 0 d.toArray cur = (d.map enc).toArray := by
  apply Array.ext
  · simp [Go.Sort.putCells, h]
  · intro j h1 h2
    have hj : j < d.length := by simpa using h2
    simp [Go.Sort.putCells, hj]
theorem keeps_row {w w' : World} {b lo hi : Nat} (hg : w.grownBy w' (some b)) (hb : b < lo) : Keeps lo hi w w' := ⟨hg.size, fun k h1 _ h3 => hg.block k h3 (by intro e; injection e with e; omega)⟩
end Go.Proofs.YteahjnobnbafiaaDoor
