/-
  Maps from numbers to lists of pairs, in memory: a look-up, a store, clear. No condition.
-/
import Derived.Test.YtmcjimmebbkjcaaPgr
import Derived.Maps.OwnOps
import Derived.Maps.OwnSet
import Derived.Maps.Views
import Derived.Maps.AppendAt
namespace Go.Proofs.Ytmcjimmebbkjcaa
open Go.RowKit Go.WideShapes
open Go Go.Deep

/-- an element that is kept as it is -/
def HeldP : Value → Option (DataW Value × List MemPlace) := fun v => some (.held v, [])
/-- block b is a map in which each number k has the value V k: a slice of its own, of the pairs g k; the slices lie in blocks from B on, below T -/
structure Grp (P : Program) (K E : TypeId) (W : World) (B b c : Nat) (D : DataW Value) (V : Int → Value) (g : Int → List Pr) : Prop where
  own : W.ownsMap P K HeldP b c D
  elt : ∀ k : Int, D.atKey (.int .i64 k) (.held (.slice none 0 0)) = .held (V k)
  row : ∀ k, W.ownsRow B E 2 (V k) (g k).length (prCells (g k))
  apart : ∀ k k' x, k ≠ k' → (V k).ownBlock = some x → (V k').ownBlock ≠ some x
section
variable {P : Program} {K E : TypeId} {W W' : World} {B b c : Nat} {D : DataW Value} {V : Int → Value} {g : Int → List Pr}
theorem Grp.none (h : W.ownsMap P K HeldP b c (.map [])) (B : Nat) : Grp P K E W B b c (.map []) (fun _ => .slice none 0 0) (fun _ => []) :=
  ⟨h, fun _ => rfl, fun _ => World.ownsRow_nil _ _ _ _, fun _ _ _ _ h => by cases h⟩
theorem Grp.map_ne (h : Grp P K E W B b c D V g) (k : Int) : (V k).ownBlock ≠ some b := by
  intro e
  obtain ⟨es, clock, hb, _⟩ := h.own
  rcases (h.row k).2 with ⟨e1, _⟩ | ⟨r, cap, cur, e1, _, hg, _⟩
  · rw [e1] at e; cases e
  · rw [e1] at e; cases e; rw [hg] at hb; cases hb
/-- what was there stays -/
theorem Grp.kept (h : Grp P K E W B b c D V g) {row : Option Nat} (hg : W.grownBy W' row) (hb : some b ≠ row) (hr : ∀ k x, (V k).ownBlock = some x → row ≠ some x) : Grp P K E W' B b c D V g :=
  ⟨h.own.kept hg hb, h.elt, fun k => (h.row k).kept hg (by
    rcases e : (V k).ownBlock with _ | x
    · exact .inl rfl
    · exact .inr (fun e2 => hr k x e e2.symm)), h.apart⟩
theorem Grp.below (h : Grp P K E W B b c D V g) {T : Nat} (hb : Below T W W') (hT : W.heap.size ≤ T) : Grp P K E W' B b c D V g :=
  h.kept (row := .none) ⟨hb.os, hb.tape, hb.output, hb.size, fun k hk _ => hb.block k (by omega)⟩ (by simp) (by simp)
end
theorem own_upd {V : Int → Value} {k x : Int} {v : Value} : (fun y => if y = k then v else V y) x = if x = k then v else V x := rfl
section
variable {P : Program} {K E : TypeId} {W W1 W2 : World} {B b c c' : Nat} {D : DataW Value} {V : Int → Value} {g : Int → List Pr}
/-- one pair more -/
theorem Grp.push (h : Grp P K E W B b c D V g) (hK : Maps.Keyed P K) {k : Int} (hk : keyOf P K (.int .i64 k) = some (.int .i64 k)) {p : Pr} {v : Value} {n : Nat} (hn : n = (g k ++ [p]).length)
    (ho : W1.ownsRow B E 2 v n (prCells (g k ++ [p]))) (hg : W.grownBy W1 (V k).ownBlock) (hat : v.ownBlock = (V k).ownBlock ∨ ∃ x, v.ownBlock = some x ∧ W.heap.size ≤ x)
    (hm : W2.ownsMap P K HeldP b c' (D.put (.int .i64 k) (.held v))) (hg2 : W1.grownBy W2 (some b)) :
    Grp P K E W2 B b c' (D.put (.int .i64 k) (.held v)) (fun y => if y = k then v else V y) (fun y => if y = k then g k ++ [p] else g y) := by
  subst hn
  have hM : Maps.IsMap D := (h.own.tidy hK).isMap
  have hlt : ∀ y x, (V y).ownBlock = some x → x < W.heap.size := fun y x e => ((h.row y).lt x e).2
  have hb : ∀ y x, (V y).ownBlock = some x → x ≠ b := fun y x e e2 => h.map_ne y (e2 ▸ e)
  have hvb : v.ownBlock ≠ some b := by
    rcases hat with e | e
    · rw [e]; exact h.map_ne k
    · obtain ⟨x, e, hx⟩ := e; rw [e]; intro e2; have := h.own.lt; cases e2; omega
  refine ⟨hm, fun y => ?_, fun y => ?_, fun y y' x hne e => ?_⟩
  · by_cases e : y = k
    · subst e; rw [Maps.atKey_put_same hM (hK.key hk), if_pos rfl]
    · rw [Maps.atKey_put_other (fun e2 => e (by injection e2)), h.elt y, if_neg e]
  · by_cases e : y = k
    · subst e
      simp only [if_true]
      exact ho.kept hg2 (by
        rcases e : v.ownBlock with _ | x
        · exact .inl rfl
        · exact .inr (fun e2 => hvb (e.trans e2)))
    · simp only [if_neg e]
      have r1 := (h.row y).kept hg (by
        rcases e1 : (V y).ownBlock with _ | x
        · exact .inl rfl
        · exact .inr (fun e2 => h.apart y k x e e1 e2.symm))
      exact r1.kept hg2 (by
        rcases e1 : (V y).ownBlock with _ | x
        · exact .inl rfl
        · exact .inr (fun e2 => hb y x e1 (by injection e2)))
  · have key : ∀ z, z ≠ k → ∀ x, v.ownBlock = some x → (V z).ownBlock ≠ some x := fun z hz x e1 e2 => by
      rcases hat with e3 | e3
      · exact h.apart z k x hz e2 (e3 ▸ e1)
      · obtain ⟨x', e3, hx'⟩ := e3; rw [e3] at e1; cases e1; have := hlt z _ e2; omega
    by_cases e1 : y = k
    · subst e1
      simp only [if_true] at e
      have hy' : ¬ y' = y := fun e2 => hne e2.symm
      simp only [if_neg hy']
      exact key y' hy' x e
    · simp only [if_neg e1] at e
      by_cases e2 : y' = k
      · subst e2
        simp only [if_true]
        exact fun e3 => key y e1 x e3 e
      · simp only [if_neg e2]
        exact h.apart y y' x hne e
end

section
variable {P : Program} {K : TypeId} (w : World) {ops : Array Oper} {rest : List Oper} {o : Oper} {a : Act} {Q : Exit → Act → World → Prop} {b c : Nat} {D : DataW Value}
/-- a look-up of a slice -/
theorem wpList_lookup_heldP (hg : o.guard = none) (m x : Operand) (t e : TypeId) (hop : o.op = Op.lookup t m x false) (hK : Maps.Keyed P K) (ht : P.underlying t = some (.map K e)) (hz : (zeroValue e).run P w = .ok (.slice none 0 0) w)
    (hm : a.eval m = .map (some b)) (hown : w.ownsMap P K HeldP b c D) (key : Value) (l : Lit) (hx : a.eval x = key) (hkey : keyOf P K key = some l) {V : Value} (hat : D.atKey l (.held (.slice none 0 0)) = .held V)
    (h : wpList P ops Q rest (a.put o.dst V) w) : wpList P ops Q (o :: rest) a w := by
  refine wpList_plain hg fun K' hK' => ?_
  obtain ⟨v, ps, hrun, hv⟩ := hown.lookup (zd := .held (.slice none 0 0)) (zp := []) hK ht hz rfl hkey
  have e : v = V := by
    rw [hat] at hv
    have h2 : some (DataW.held v, ([] : List MemPlace)) = some (.held V, ps) := hv
    have h3 := congrArg Prod.fst (Option.some.inj h2)
    injection h3
  subst e
  unfold Oper.wp
  simp [execOp, hop, hm, hx, hrun, Result.andThen]
  exact hK' _ _ h
/-- the same under a guard that lets it through -/
theorem wpList_lookup_heldPG {gd : Nat × Bool} (_hg : o.guard = some gd) (hw : Region.wanted o (yielded ops a.tmps) = true) (m x : Operand) (t e : TypeId) (hop : o.op = Op.lookup t m x false) (hK : Maps.Keyed P K) (ht : P.underlying t = some (.map K e)) (hz : (zeroValue e).run P w = .ok (.slice none 0 0) w)
    (hm : a.eval m = .map (some b)) (hown : w.ownsMap P K HeldP b c D) (key : Value) (l : Lit) (hx : a.eval x = key) (hkey : keyOf P K key = some l) {V : Value} (hat : D.atKey l (.held (.slice none 0 0)) = .held V)
    (h : wpList P ops Q rest (a.put o.dst V) w) : wpList P ops Q (o :: rest) a w := by
  refine wpList_step fun K' hK' => ?_
  rw [if_pos hw]
  obtain ⟨v, ps, hrun, hv⟩ := hown.lookup (zd := .held (.slice none 0 0)) (zp := []) hK ht hz rfl hkey
  have e : v = V := by
    rw [hat] at hv
    have h2 : some (DataW.held v, ([] : List MemPlace)) = some (.held V, ps) := hv
    have h3 := congrArg Prod.fst (Option.some.inj h2)
    injection h3
  subst e
  unfold Oper.wp
  simp [execOp, hop, hm, hx, hrun, Result.andThen]
  exact hK' _ _ h
/-- clear of a map -/
theorem wpList_clear_map (hg : o.guard = none) (x : Operand) (t e : TypeId) (ho : o.op = .call { callee := .builtin .clear, args := #[x], argTypes := #[t] }) (ht : P.underlying t = some (.map K e))
    (hm : a.eval x = .map (some b)) (hown : w.ownsMap P K HeldP b c D)
    (h : ∀ w', w'.ownsMap P K HeldP b 0 (.map []) → w.grownBy w' (some b) → w'.heap.size = w.heap.size → wpList P ops Q rest (a.put o.dst (.tuple #[])) w') : wpList P ops Q (o :: rest) a w := by
  refine wpList_plain hg fun K' hK' => ?_
  obtain ⟨es, clock, hb, F, hs, rfl⟩ := hown
  have hrun : (Builtin.clear_ #[t] o.type #[.map (some b)]).run P w = .ok (.tuple #[]) (Go.ChangeMaps.setBlock w b (.map #[] clock)) := by
    simp [Builtin.clear_, run_underlying ht, Go.MapKept.run_getObj_map hb, Go.MapKept.run_setObj_map _ hb, Result.andThen, Go.ChangeMaps.setBlock]
  unfold Oper.wp execOp
  simp only [ho, resolve, invoke, builtin, Sem.run_bind, Sem.run_pure, Result.andThen_ok, List.map_toArray, List.map_cons, List.map_nil, hm, hrun]
  refine hK' _ _ (h _ ⟨#[], clock, Go.ChangeMaps.heap_setBlock_same hb _, ⟨by simp, Go.MapKept.stamped_empty clock, by simp⟩, Nat.le_refl _, rfl⟩ ⟨rfl, rfl, rfl, by simp [Go.ChangeMaps.setBlock], fun i _ hi => Go.ChangeMaps.heap_setBlock_other hb _ (fun e => hi (by rw [e]))⟩ (by simp [Go.ChangeMaps.setBlock]))
end

section
variable {P : Program}
/-- append of one pair that was just laid, with the place where the row lies -/
theorem wpList_push2A {ops : Array Oper} {rest : List Oper} {o : Oper} {a : Act} {Q : Exit → Act → World → Prop} (hgd : o.guard = none) (s x : Operand) (t : TypeId)
    (ho : o.op = .call { callee := .builtin .append, args := #[s, x], argTypes := #[t, t] })
    (e : TypeId) (z : Value) (bytes : Nat) (ht : P.underlying t = some (.slice e))
    (hinfo : (P.info? e).map (fun i => (i.zero, i.size, i.bytes)) = some (some z, 2, bytes)) (hzs : z.cells.size = 2)
    (base : Nat) (w0 : World) (y0 y1 v : Value) (n : Nat) (xs : List Value) (hown : w0.ownsRow base e 2 v n xs)
    (hs : a.eval s = v) (b : Nat) (hx : a.eval x = .slice (some ⟨b, 0, none⟩) 1 1) (hbk : b = w0.heap.size) (h0 : y0.oneCell' = true) (h1 : y1.oneCell' = true)
    (h63 : n + 1 ≤ maxLen) (hbytes : (n + 1) * bytes ≤ 140737488355328) (hbase : base ≤ w0.heap.size)
    (h : ∀ v' w', w'.ownsRow base e 2 v' (n + 1) (xs ++ [y0, y1]) → w0.grownBy w' v.ownBlock → (v'.ownBlock = v.ownBlock ∨ ∃ g, v'.ownBlock = some g ∧ w0.heap.size ≤ g) → wpList P ops Q rest (a.put o.dst v') w') :
    wpList P ops Q (o :: rest) a (w0.alloc (.cells #[y0, y1] e)) := by
  subst hbk
  obtain ⟨i0, hi, hz0, hz1, hz2⟩ := info_parts hinfo
  refine wpList_append_own_at _ hgd s x t ho base e i0 z 2 bytes ht hi hz0 hz1 hz2 hzs (by decide) v n xs hs (hown.alloc _) ⟨w0.heap.size, 0, none⟩ 1 1 [y0, y1] hx rfl ?_ ?_ h63 hbytes (by simp; omega) ?_
  · intro j u hu
    have hj : j < 2 := by
      rcases Nat.lt_or_ge j 2 with h | h
      · exact h
      · rw [List.getElem?_eq_none (by simpa using h)] at hu; cases hu
    rw [addr_add0, World.cell?_alloc_at _ _ _ _ rfl, Nat.zero_add]
    rw [← hu]
    have : j = 0 ∨ j = 1 := by omega
    rcases this with rfl | rfl <;> rfl
  · intro u hu
    simp at hu
    rcases hu with rfl | rfl <;> assumption
  · intro v' w' hown' hg _ hat
    refine h v' w' hown' ⟨hg.os, hg.tape, hg.output, Nat.le_trans (by simp) hg.size, fun k hk hne => ?_⟩ ?_
    · rw [hg.block k (by simp; omega) hne, Below.heap_alloc _ _ _ hk]
    · rcases hat with e | e
      · exact .inl e
      · exact .inr ⟨_, e, by simp⟩
end
end Go.Proofs.Ytmcjimmebbkjcaa
