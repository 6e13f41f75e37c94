/-
  Contract of layOut: it appends a term's nodes to a row of the call's own.
-/
import Derived.Test.YtgmpenchojnihaaGreatTermT
namespace Go.Proofs.YtgmpenchojnihaaGreat
open Go.RowKit
open Go Go.Deep

/-- every block that is no row of nodes is as it was -/
def Keep (w w' : World) : Prop := w.heap.size ≤ w'.heap.size ∧ ∀ k, k < w.heap.size → (∀ cur, w.heap[k]? ≠ some (.cells cur 70 (0, 0))) → w'.heap[k]? = w.heap[k]?
theorem Keep.refl (w : World) : Keep w w := ⟨Nat.le_refl _, fun _ _ _ => rfl⟩
theorem Keep.trans {a b c : World} (h : Keep a b) (k : Keep b c) : Keep a c :=
  ⟨Nat.le_trans h.1 k.1, fun i hi hn => by
    have e := h.2 i hi hn
    rw [← e] at hn
    exact (k.2 i (Nat.lt_of_lt_of_le hi h.1) hn).trans e⟩
theorem Keep.of_below {w w' : World} (h : Below w.heap.size w w') : Keep w w' := ⟨h.size, fun k hk _ => h.block k hk⟩
theorem Keep.of_grown {w w' : World} {base : Nat} {size : Nat} {v : Value} {n : Nat} {xs : List Value} (ho : w.ownsRow base 70 size v n xs) (hg : w.grownBy w' v.ownBlock) : Keep w w' := by
  refine ⟨hg.size, fun k hk hn => hg.block k hk (fun e => ?_)⟩
  rcases ho.2 with ⟨rfl, _⟩ | ⟨g, cap, cur, rfl, _, hh, _⟩
  · simp [Value.ownBlock] at e
  · simp [Value.ownBlock] at e
    subst e
    exact hn cur hh
theorem Keep.row {w w' : World} {b : Nat} {T : TypeId} {n : Nat} {f : Nat → Value} (h : Keep w w') (hr : w.rowIs b T n f) (hT : T ≠ 70) : w'.rowIs b T n f := by
  refine hr.of_block (h.2 b hr.lt (fun cur e => ?_))
  obtain ⟨c, hb, _, _⟩ := hr
  rw [hb] at e
  simp only [Option.some.injEq, Obj.cells.injEq] at e
  exact hT e.2.1
/-- a row of another type lies elsewhere -/
theorem row_ne {w : World} {b g : Nat} {T : TypeId} {n : Nat} {f : Nat → Value} {c : Array Value} (hr : w.rowIs b T n f) (hg : w.heap[g]? = some (.cells c 70 (0, 0))) (hT : T ≠ 70) : b ≠ g := by
  intro e
  subst e
  obtain ⟨c', hb, _, _⟩ := hr
  rw [hb] at hg
  simp only [Option.some.injEq, Obj.cells.injEq] at hg
  exact hT hg.2.1
theorem own_setOther {w : World} {base : Nat} {size : Nat} {v : Value} {n : Nat} {xs : List Value} {b : Nat} {T : TypeId} {m : Nat} {f : Nat → Value} (h : w.ownsRow base 70 size v n xs) (hr : w.rowIs b T m f) (hT : T ≠ 70) (j : Nat) (u : Value) :
    (w.setCell ⟨b, j, none⟩ u).ownsRow base 70 size v n xs := by
  refine ⟨h.1, ?_⟩
  rcases h.2 with hn | ⟨g, cap, cur, rfl, hbg, hgg, rest⟩
  · exact .inl hn
  · refine .inr ⟨g, cap, cur, rfl, hbg, ?_, rest⟩
    have hne := row_ne hr hgg hT
    rw [Below.heap_setCell _ _ _ _ (by show g ≠ b; omega)]
    exact hgg
theorem keep_setCell {w : World} {b : Nat} {w0 : World} (h : Keep w0 w) (hb : w0.heap.size ≤ b) (j : Nat) (u : Value) : Keep w0 (w.setCell ⟨b, j, none⟩ u) :=
  ⟨by simpa [World.setCell] using h.1, fun k hk hn => by rw [Below.heap_setCell _ _ _ _ (by show k ≠ b; omega)]; exact h.2 k hk hn⟩
theorem own_shape' {w : World} {base : Nat} {e : TypeId} {size : Nat} {v : Value} {n : Nat} {xs : List Value} (h : w.ownsRow base e size v n xs) : ∃ a cap, v = .slice a n cap ∧ n ≤ cap ∧ cap ≤ maxLen := by
  rcases h.2 with ⟨rfl, rfl⟩ | ⟨g, cap, cur, rfl, hb, _, h1, h2, _⟩
  · exact ⟨none, 0, rfl, Nat.le_refl _, by decide⟩
  · exact ⟨_, cap, rfl, h1, h2⟩

section
variable {P : Program}
/-- append(s, y): y one element of four cells, just laid in a block of its own by the walk -/
theorem wpList_push4 {ops : Array Oper} {rest : List Oper} {o : Oper} {a : Act} {Q : Exit → Act → World → Prop} (hgd : o.guard = none) (s x : Operand) (t : TypeId)
    (ho : o.op = .call { callee := .builtin .append, args := #[s, x], argTypes := #[t, t] })
    (e : TypeId) (z : Value) (bytes : Nat) (ht : P.underlying t = some (.slice e))
    (hinfo : (P.info? e).map (fun i => (i.zero, i.size, i.bytes)) = some (some z, 4, bytes)) (hzs : z.cells.size = 4)
    (base : Nat) (w0 : World) (y0 y1 y2 y3 v : Value) (n : Nat) (xs : List Value) (hown : w0.ownsRow base e 4 v n xs)
    (hs : a.eval s = v) (b : Nat) (hx : a.eval x = .slice (some ⟨b, 0, none⟩) 1 1) (hbk : b = w0.heap.size) (h0 : y0.oneCell' = true) (h1 : y1.oneCell' = true) (h2 : y2.oneCell' = true) (h3 : y3.oneCell' = true)
    (h63 : n + 1 ≤ maxLen) (hbytes : (n + 1) * bytes ≤ 140737488355328) (hbase : base ≤ w0.heap.size)
    (h : ∀ v' w', w'.ownsRow base e 4 v' (n + 1) (xs ++ [y0, y1, y2, y3]) → Below base w0 w' → w0.grownBy w' v.ownBlock → wpList P ops Q rest (a.put o.dst v') w') :
    wpList P ops Q (o :: rest) a (w0.alloc (.cells #[y0, y1, y2, y3] e)) := by
  subst hbk
  obtain ⟨i0, hi, hz0, hz1, hz2⟩ := info_parts hinfo
  refine wpList_append_own _ hgd s x t ho base e i0 z 4 bytes ht hi hz0 hz1 hz2 hzs (by decide) v n xs hs (hown.alloc _) ⟨w0.heap.size, 0, none⟩ 1 1 [y0, y1, y2, y3] hx rfl ?_ ?_ h63 hbytes (by simp; omega) ?_
  · intro j u hu
    have hj : j < 4 := by
      rcases Nat.lt_or_ge j 4 with h | h
      · exact h
      · rw [List.getElem?_eq_none (by simpa using h)] at hu; cases hu
    rw [addr_add0, World.cell?_alloc_at _ _ _ _ rfl, Nat.zero_add]
    rw [← hu]
    have : j = 0 ∨ j = 1 ∨ j = 2 ∨ j = 3 := by omega
    rcases this with rfl | rfl | rfl | rfl <;> rfl
  · intro u hu
    simp at hu
    rcases hu with rfl | rfl | rfl | rfl <;> assumption
  · intro v' w' hown' hg _
    have hb : ∀ k, v.ownBlock = some k → base ≤ k := fun k hk => (hown.lt k hk).1
    refine h v' w' hown' (((Below.refl base w0).alloc hbase _).grown hg (by simp; omega) hb) ⟨hg.os, hg.tape, hg.output, Nat.le_trans (by simp) hg.size, fun k hk hne => ?_⟩
    rw [hg.block k (by simp; omega) hne, Below.heap_alloc _ _ _ hk]
end

/-- the slice of two parts as a row of its type -/
theorem jointParts_row (op : Int) (a b : Tm) (w : World) : Calls Tryz.prog 195 #[.agg #[.int .i64 op, tv a, tv b]] w fun e w' => ∃ g, e = .returned (.slice (some ⟨g, 0, none⟩) 2 2) ∧ w'.rowIs g 99 2 (fun j => if j = 0 then tv a else tv b) ∧ Below w.heap.size w w' := by
  obtain ⟨ty, pv, hx⟩ := tv_form a
  rw [hx]
  clear hx
  obtain ⟨ty', pv', hx⟩ := tv_form b
  rw [hx]
  clear hx
  go_enter Tryz.func195, Tryz.ntmps195
  go_wp2
  go_ret
  refine ⟨_, rfl, ?_, ((Below.refl _ _).alloc (Nat.le_refl _) _).alloc (by simp) _⟩
  have h := World.rowIs_alloc (w.alloc (.cells #[.int .i64 op, .iface ty pv, .iface ty' pv'] 158)) #[.iface ty pv, .iface ty' pv'] 99 (fun j => if j = 0 then .iface ty pv else .iface ty' pv') (fun i hi => by
    have hi : i < 2 := hi
    have : i = 0 ∨ i = 1 := by omega
    rcases this with rfl | rfl <;> rfl)
  simpa using h
end Go.Proofs.YtgmpenchojnihaaGreat
