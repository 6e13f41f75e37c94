/-
  Slices of numbers, slices of such slices, and models in memory: what reads as a list (Rv, Iv, Ivv, Mv), what is owned (Io, Ioo, Mo), within blocks from lo to hi. No program but its types' numbers.
-/
import Derived.Test.YtegmoojjffkacaaRows
import Derived.Test.YtegmoojjffkacaaLib
import Derived.Test.YtegmoojjffkacaaMod
import Derived.Handy
import Derived.Deep.OwnRows
import Derived.Deep.RegionHeld3
import Derived.WalkSpells
import Derived.Deep.Slices
import Derived.ChangeSame
import Derived.WideShapes
namespace Go.Proofs.Ytegmoojjffkacaa
open Go.RowKit Go.WideShapes
open Go Go.Deep

/-- the blocks from lo to hi are as they were -/
structure Keeps (lo hi : Nat) (w w' : World) : Prop where
  size : w.heap.size ≤ w'.heap.size
  block : ∀ k, lo ≤ k → k < hi → k < w.heap.size → w'.heap[k]? = w.heap[k]?
theorem Keeps.refl (lo hi : Nat) (w : World) : Keeps lo hi w w := ⟨Nat.le_refl _, fun _ _ _ _ => rfl⟩
theorem Keeps.trans {lo hi : Nat} {a b c : World} (h : Keeps lo hi a b) (k : Keeps lo hi b c) : Keeps lo hi a c :=
  ⟨Nat.le_trans h.size k.size, fun i h1 h2 h3 => (k.block i h1 h2 (Nat.lt_of_lt_of_le h3 h.size)).trans (h.block i h1 h2 h3)⟩
theorem Keeps.of_below {lo hi B : Nat} {w w' : World} (h : Below B w w') (hB : hi ≤ B) : Keeps lo hi w w' := ⟨h.size, fun k _ h2 _ => h.block k (by omega)⟩
theorem Keeps.of_all {lo hi : Nat} {w w' : World} (h : Below w.heap.size w w') : Keeps lo hi w w' := ⟨h.size, fun k _ _ h3 => h.block k h3⟩
/-- but for the blocks from lo to hi the world is as it was -/
structure Touch (lo hi : Nat) (w w' : World) : Prop where
  os : w'.os = w.os
  tape : w'.tape = w.tape
  output : w'.output = w.output
  size : w.heap.size ≤ w'.heap.size
  block : ∀ k, k < w.heap.size → (k < lo ∨ hi ≤ k) → w'.heap[k]? = w.heap[k]?
theorem Touch.refl (lo hi : Nat) (w : World) : Touch lo hi w w := ⟨rfl, rfl, rfl, Nat.le_refl _, fun _ _ _ => rfl⟩
theorem Touch.trans {lo hi : Nat} {a b c : World} (h : Touch lo hi a b) (k : Touch lo hi b c) : Touch lo hi a c :=
  ⟨k.os.trans h.os, k.tape.trans h.tape, k.output.trans h.output, Nat.le_trans h.size k.size, fun i h1 h2 => (k.block i (Nat.lt_of_lt_of_le h1 h.size) h2).trans (h.block i h1 h2)⟩
theorem Touch.of_all {lo hi : Nat} {w w' : World} (h : Below w.heap.size w w') : Touch lo hi w w' := ⟨h.os, h.tape, h.output, h.size, fun k h1 _ => h.block k h1⟩
theorem Touch.below {lo hi B : Nat} {w w' : World} (h : Touch lo hi w w') (hB : B ≤ lo) (hs : B ≤ w.heap.size) : Below B w w' :=
  ⟨h.os, h.tape, h.output, h.size, fun k hk => h.block k (by omega) (.inl (by omega))⟩
theorem Touch.keeps {lo hi lo' hi' : Nat} {w w' : World} (h : Touch lo hi w w') (ha : hi' ≤ lo ∨ hi ≤ lo') : Keeps lo' hi' w w' :=
  ⟨h.size, fun k h1 h2 h3 => h.block k h3 (by omega)⟩
theorem Touch.of_grown {lo hi : Nat} {w w' : World} {row : Option Nat} (h : w.grownBy w' row) (hr : ∀ k, row = some k → lo ≤ k ∧ k < hi) : Touch lo hi w w' :=
  ⟨h.os, h.tape, h.output, h.size, fun k h1 h2 => h.block k h1 (fun e => by have := hr k e.symm; omega)⟩

/-- the slice v reads, in w, as the one-cell values xs, in a block from lo to hi -/
def Rv (lo hi : Nat) (w : World) (v : Value) (xs : List Value) : Prop :=
  ∃ a cap, v = .slice a xs.length cap ∧ xs.length ≤ cap ∧ cap ≤ maxLen ∧ (xs = [] ∨ ∃ b o, a = some ⟨b, o, none⟩ ∧ lo ≤ b ∧ b < hi ∧ b < w.heap.size ∧ ∀ j x, xs[j]? = some x → w.cell? ⟨b, o + j, none⟩ = some x)
theorem Rv.keeps {lo hi : Nat} {w w' : World} {v : Value} {xs : List Value} (h : Rv lo hi w v xs) (k : Keeps lo hi w w') : Rv lo hi w' v xs := by
  obtain ⟨a, cap, rfl, h1, h2, h3⟩ := h
  refine ⟨a, cap, rfl, h1, h2, ?_⟩
  rcases h3 with h3 | ⟨b, o, rfl, hl, hh, hlt, hc⟩
  · exact .inl h3
  · exact .inr ⟨b, o, rfl, hl, hh, Nat.lt_of_lt_of_le hlt k.size, fun j x hx => by rw [World.cell?_of_block (w := w) (k.block b hl hh hlt)]; exact hc j x hx⟩
theorem Rv.wide {lo hi lo' hi' : Nat} {w : World} {v : Value} {xs : List Value} (h : Rv lo hi w v xs) (h1 : lo' ≤ lo) (h2 : hi ≤ hi') : Rv lo' hi' w v xs := by
  obtain ⟨a, cap, rfl, c1, c2, h3⟩ := h
  refine ⟨a, cap, rfl, c1, c2, ?_⟩
  rcases h3 with h3 | ⟨b, o, rfl, hl, hh, hlt, hc⟩
  · exact .inl h3
  · exact .inr ⟨b, o, rfl, by omega, by omega, hlt, hc⟩
theorem Rv.nil (lo hi : Nat) (w : World) : Rv lo hi w (.slice none 0 0) [] := ⟨none, 0, rfl, Nat.le_refl _, by decide, .inl rfl⟩
theorem Rv.of_own {hi base : Nat} {w : World} {e : TypeId} {v : Value} {n : Nat} {xs : List Value} (h : w.ownsRow base e 1 v n xs) (hk : ∀ k, v.ownBlock = some k → k < hi) : Rv base hi w v xs := by
  have hl : xs.length = n := by have := h.1; omega
  rcases h.2 with ⟨rfl, h0⟩ | ⟨g, cap, cur, rfl, hb, hg, hn, hm, hc, ht⟩
  · have : xs = [] := by cases xs with
      | nil => rfl
      | cons a t => simp at hl; omega
    subst this
    exact .nil _ _ _
  · subst hl
    refine ⟨_, cap, rfl, hn, hm, .inr ⟨g, 0, rfl, hb, hk g rfl, (Array.getElem?_eq_some_iff.1 hg).1, fun j x hx => ?_⟩⟩
    have hj : j < xs.length := by
      rcases Nat.lt_or_ge j xs.length with h' | h'
      · exact h'
      · rw [List.getElem?_eq_none h'] at hx; cases hx
    rw [Nat.zero_add, h.cellAt j (by omega), hx]
theorem getD_some {α : Type} {xs : List α} {j : Nat} (d : α) (h : j < xs.length) : xs[j]? = some (xs.getD j d) := by
  rw [List.getD_eq_getElem?_getD, List.getElem?_eq_getElem h]; rfl
theorem Rv.parts {lo hi : Nat} {w : World} {v : Value} {xs : List Value} (h : Rv lo hi w v xs) : ∃ a cap, v = .slice a xs.length cap ∧ xs.length ≤ cap ∧ cap ≤ maxLen ∧
    ∀ j, j < xs.length → ∃ b o, a = some ⟨b, o, none⟩ ∧ lo ≤ b ∧ b < hi ∧ b < w.heap.size ∧ w.cell? ⟨b, o + j, none⟩ = some (xs.getD j (.bool false)) := by
  obtain ⟨a, cap, rfl, h1, h2, h3⟩ := h
  refine ⟨a, cap, rfl, h1, h2, fun j hj => ?_⟩
  rcases h3 with h3 | ⟨b, o, rfl, hl, hh, hlt, h3⟩
  · subst h3; simp at hj
  · exact ⟨b, o, rfl, hl, hh, hlt, h3 j _ (getD_some _ hj)⟩

def ints (l : List Int) : List Value := l.map (Value.int .i64)
theorem ints_len (l : List Int) : (ints l).length = l.length := by simp [ints]
theorem ints_at {l : List Int} {j : Nat} (h : j < l.length) : (ints l)[j]? = some (.int .i64 (l.getD j 0)) := by
  unfold ints; rw [List.getElem?_map, getD_some 0 h]; rfl
theorem ints_app (l m : List Int) : ints (l ++ m) = ints l ++ ints m := by simp [ints]
/-- the slice v reads as the numbers l -/
def Iv (lo hi : Nat) (w : World) (v : Value) (l : List Int) : Prop := Rv lo hi w v (ints l)
theorem Iv.keeps {lo hi : Nat} {w w' : World} {v : Value} {l : List Int} (h : Iv lo hi w v l) (k : Keeps lo hi w w') : Iv lo hi w' v l := Rv.keeps h k
theorem Iv.wide {lo hi lo' hi' : Nat} {w : World} {v : Value} {l : List Int} (h : Iv lo hi w v l) (h1 : lo' ≤ lo) (h2 : hi ≤ hi') : Iv lo' hi' w v l := Rv.wide h h1 h2
theorem Iv.parts {lo hi : Nat} {w : World} {v : Value} {l : List Int} (h : Iv lo hi w v l) : ∃ a cap, v = .slice a l.length cap ∧ l.length ≤ cap ∧ cap ≤ maxLen ∧
    ∀ j, j < l.length → ∃ b o, a = some ⟨b, o, none⟩ ∧ lo ≤ b ∧ b < hi ∧ b < w.heap.size ∧ w.cell? ⟨b, o + j, none⟩ = some (.int .i64 (l.getD j 0)) := by
  obtain ⟨a, cap, rfl, h1, h2, h3⟩ := h
  rw [ints_len] at *
  refine ⟨a, cap, rfl, h1, h2, fun j hj => ?_⟩
  rcases h3 with h3 | ⟨b, o, rfl, hl, hh, hlt, h3⟩
  · have := congrArg List.length h3; rw [ints_len] at this; simp at this; subst this; simp at hj
  · exact ⟨b, o, rfl, hl, hh, hlt, h3 j _ (ints_at hj)⟩
/-- the slice v reads as the rows ll -/
def Ivv (lo hi : Nat) (w : World) (v : Value) (ll : List (List Int)) : Prop :=
  ∃ vs, vs.length = ll.length ∧ Rv lo hi w v vs ∧ ∀ j, j < ll.length → Iv lo hi w (vs.getD j (.bool false)) (ll.getD j [])
theorem Ivv.keeps {lo hi : Nat} {w w' : World} {v : Value} {ll : List (List Int)} (h : Ivv lo hi w v ll) (k : Keeps lo hi w w') : Ivv lo hi w' v ll := by
  obtain ⟨vs, h1, h2, h3⟩ := h
  exact ⟨vs, h1, h2.keeps k, fun j hj => (h3 j hj).keeps k⟩
theorem Ivv.wide {lo hi lo' hi' : Nat} {w : World} {v : Value} {ll : List (List Int)} (h : Ivv lo hi w v ll) (a : lo' ≤ lo) (b : hi ≤ hi') : Ivv lo' hi' w v ll := by
  obtain ⟨vs, h1, h2, h3⟩ := h
  exact ⟨vs, h1, h2.wide a b, fun j hj => (h3 j hj).wide a b⟩
theorem Ivv.parts {lo hi : Nat} {w : World} {v : Value} {ll : List (List Int)} (h : Ivv lo hi w v ll) : ∃ a cap, v = .slice a ll.length cap ∧ ll.length ≤ cap ∧ cap ≤ maxLen ∧
    ∀ j, j < ll.length → ∃ b o u, a = some ⟨b, o, none⟩ ∧ lo ≤ b ∧ b < hi ∧ b < w.heap.size ∧ w.cell? ⟨b, o + j, none⟩ = some u ∧ Iv lo hi w u (ll.getD j []) := by
  obtain ⟨vs, h1, h2, h3⟩ := h
  obtain ⟨a, cap, rfl, c1, c2, c3⟩ := h2.parts
  refine ⟨a, cap, by rw [h1], by omega, c2, fun j hj => ?_⟩
  obtain ⟨b, o, e, l1, l2, l3, l4⟩ := c3 j (by omega)
  exact ⟨b, o, _, e, l1, l2, l3, l4, h3 j hj⟩
/-- the j-th row -/
theorem Ivv.row {lo hi : Nat} {w : World} {v : Value} {ll : List (List Int)} {a : Option Addr} {n cap : Nat} (h : Ivv lo hi w v ll) (hv : v = .slice a n cap) (j : Nat) (hj : j < ll.length) :
    ∃ b o u, a = some ⟨b, o, none⟩ ∧ lo ≤ b ∧ b < hi ∧ b < w.heap.size ∧ w.cell? ⟨b, o + j, none⟩ = some u ∧ Iv lo hi w u (ll.getD j []) := by
  obtain ⟨a', cap', e, _, _, h4⟩ := h.parts
  rw [hv] at e
  cases e
  exact h4 j hj
theorem Iv.form {lo hi : Nat} {w : World} {v : Value} {l : List Int} (h : Iv lo hi w v l) : ∃ a c, v = .slice a l.length c := by
  obtain ⟨a, c, e, _⟩ := h.parts
  exact ⟨a, c, e⟩
theorem Iv.drewN {lo hi : Nat} {w : World} {v : Value} {l : List Int} (h : Iv lo hi w v l) (n : Nat) : Iv lo hi (w.drewN n) v l := h.keeps (Keeps.of_all (below_drewN' (Below.refl _ _) n))
/-- the value v reads as the model m -/
def Mv (lo hi : Nat) (w : World) (v : Value) (m : Md) : Prop :=
  ∃ fv bv, v = .agg #[fv, bv, .int .i64 m.actual] ∧ Iv lo hi w fv m.facts ∧ Ivv lo hi w bv m.blocks
theorem Mv.keeps {lo hi : Nat} {w w' : World} {v : Value} {m : Md} (h : Mv lo hi w v m) (k : Keeps lo hi w w') : Mv lo hi w' v m := by
  obtain ⟨fv, bv, e, h1, h2⟩ := h
  exact ⟨fv, bv, e, h1.keeps k, h2.keeps k⟩
theorem Mv.wide {lo hi lo' hi' : Nat} {w : World} {v : Value} {m : Md} (h : Mv lo hi w v m) (a : lo' ≤ lo) (b : hi ≤ hi') : Mv lo' hi' w v m := by
  obtain ⟨fv, bv, e, h1, h2⟩ := h
  exact ⟨fv, bv, e, h1.wide a b, h2.wide a b⟩

theorem own_keeps {w w' : World} {base : Nat} {e : TypeId} {size : Nat} {v : Value} {n : Nat} {xs : List Value} (h : w.ownsRow base e size v n xs) (hk : ∀ k, v.ownBlock = some k → w'.heap[k]? = w.heap[k]?) : w'.ownsRow base e size v n xs := by
  refine ⟨h.1, ?_⟩
  rcases h.2 with hn | ⟨g, cap, cur, rfl, hbg, hgg, rest⟩
  · exact .inl hn
  · refine .inr ⟨g, cap, cur, rfl, hbg, ?_, rest⟩
    rw [hk g rfl]; exact hgg
/-- v owns its one-cell values xs, in a block from lo to hi -/
def Ro (lo hi : Nat) (w : World) (e : TypeId) (v : Value) (xs : List Value) : Prop := w.ownsRow lo e 1 v xs.length xs ∧ ∀ k, v.ownBlock = some k → k < hi
theorem Ro.keeps {lo hi : Nat} {w w' : World} {e : TypeId} {v : Value} {xs : List Value} (h : Ro lo hi w e v xs) (k : Keeps lo hi w w') : Ro lo hi w' e v xs :=
  ⟨own_keeps h.1 fun q hq => k.block q (h.1.lt q hq).1 (h.2 q hq) (h.1.lt q hq).2, h.2⟩
theorem Ro.wide {lo hi lo' hi' : Nat} {w : World} {e : TypeId} {v : Value} {xs : List Value} (h : Ro lo hi w e v xs) (a : lo' ≤ lo) (b : hi ≤ hi') : Ro lo' hi' w e v xs :=
  ⟨own_mono h.1 a, fun k hk => by have := h.2 k hk; omega⟩
theorem Ro.read {lo hi : Nat} {w : World} {e : TypeId} {v : Value} {xs : List Value} (h : Ro lo hi w e v xs) : Rv lo hi w v xs := Rv.of_own h.1 h.2
theorem Ro.nil (lo hi : Nat) (w : World) (e : TypeId) : Ro lo hi w e (.slice none 0 0) [] := ⟨World.ownsRow_nil _ _ _ _, fun k hk => by cases hk⟩
theorem Ro.of_own {lo : Nat} {w : World} {e : TypeId} {v : Value} {n : Nat} {xs : List Value} (h : w.ownsRow lo e 1 v n xs) : Ro lo w.heap.size w e v xs := by
  obtain rfl : n = xs.length := by have := h.1; omega
  exact ⟨h, fun k hk => (h.lt k hk).2⟩
theorem Ro.keptBy {lo hi : Nat} {w w' : World} {e : TypeId} {v : Value} {xs : List Value} {row : Option Nat} (h : Ro lo hi w e v xs) (hg : w.grownBy w' row) (hne : v.ownBlock = none ∨ v.ownBlock ≠ row) : Ro lo hi w' e v xs := ⟨h.1.kept hg hne, h.2⟩
/-- v owns the numbers l -/
def Io (lo hi : Nat) (w : World) (v : Value) (l : List Int) : Prop := Ro lo hi w 3 v (ints l)
theorem Io.read {lo hi : Nat} {w : World} {v : Value} {l : List Int} (h : Io lo hi w v l) : Iv lo hi w v l := Ro.read h
theorem Io.keeps {lo hi : Nat} {w w' : World} {v : Value} {l : List Int} (h : Io lo hi w v l) (k : Keeps lo hi w w') : Io lo hi w' v l := Ro.keeps h k
theorem Io.wide {lo hi lo' hi' : Nat} {w : World} {v : Value} {l : List Int} (h : Io lo hi w v l) (a : lo' ≤ lo) (b : hi ≤ hi') : Io lo' hi' w v l := Ro.wide h a b
theorem Ro.form {lo hi : Nat} {w : World} {e : TypeId} {v : Value} {xs : List Value} (h : Ro lo hi w e v xs) : ∃ a c, v = .slice a xs.length c := by
  rcases h.1.2 with ⟨rfl, h0⟩ | ⟨g, cap, cur, rfl, _⟩
  · exact ⟨none, 0, by rw [h0]⟩
  · exact ⟨_, _, rfl⟩
theorem Io.form {lo hi : Nat} {w : World} {v : Value} {l : List Int} (h : Io lo hi w v l) : ∃ a c, v = .slice a l.length c := by
  obtain ⟨a, c, e⟩ := Ro.form h
  exact ⟨a, c, by rw [e, ints_len]⟩
/-- two rows do not share their memory -/
def apart (u v : Value) : Prop := u.ownBlock = none ∨ u.ownBlock ≠ v.ownBlock
theorem apart_symm {u v : Value} (h : apart u v) : apart v u := by
  rcases h with h | h
  · cases hv : v.ownBlock with
    | none => exact .inl hv
    | some k => exact .inr (by rw [h, hv]; exact fun e => by cases e)
  · exact .inr (Ne.symm h)
/-- rows of rows: the rows vs hold the lists ll -/
def Rows' (lo hi : Nat) (w : World) (vs : List Value) (ll : List (List Int)) : Prop := vs.length = ll.length ∧ ∀ j, j < ll.length → Io lo hi w (vs.getD j (.bool false)) (ll.getD j [])
theorem Rows'.keeps {lo hi : Nat} {w w' : World} {vs : List Value} {ll : List (List Int)} (h : Rows' lo hi w vs ll) (k : Keeps lo hi w w') : Rows' lo hi w' vs ll := ⟨h.1, fun j hj => (h.2 j hj).keeps k⟩
theorem Rows'.wide {lo hi lo' hi' : Nat} {w : World} {vs : List Value} {ll : List (List Int)} (h : Rows' lo hi w vs ll) (a : lo' ≤ lo) (b : hi ≤ hi') : Rows' lo' hi' w vs ll := ⟨h.1, fun j hj => (h.2 j hj).wide a b⟩
/-- v owns its rows ll, each row its own -/
def Ioo (lo hi : Nat) (w : World) (v : Value) (vs : List Value) (ll : List (List Int)) : Prop :=
  Ro lo hi w 22 v vs ∧ Rows' lo hi w vs ll ∧ (v :: vs).Pairwise apart
theorem Ioo.read {lo hi : Nat} {w : World} {v : Value} {vs : List Value} {ll : List (List Int)} (h : Ioo lo hi w v vs ll) : Ivv lo hi w v ll := ⟨vs, h.2.1.1, h.1.read, fun j hj => (h.2.1.2 j hj).read⟩
theorem Ioo.keeps {lo hi : Nat} {w w' : World} {v : Value} {vs : List Value} {ll : List (List Int)} (h : Ioo lo hi w v vs ll) (k : Keeps lo hi w w') : Ioo lo hi w' v vs ll := ⟨h.1.keeps k, h.2.1.keeps k, h.2.2⟩
theorem Ioo.wide {lo hi lo' hi' : Nat} {w : World} {v : Value} {vs : List Value} {ll : List (List Int)} (h : Ioo lo hi w v vs ll) (a : lo' ≤ lo) (b : hi ≤ hi') : Ioo lo' hi' w v vs ll := ⟨h.1.wide a b, h.2.1.wide a b, h.2.2⟩
/-- v owns the model m -/
def Mo (lo hi : Nat) (w : World) (v : Value) (m : Md) : Prop :=
  ∃ fv bv vs, v = .agg #[fv, bv, .int .i64 m.actual] ∧ Io lo hi w fv m.facts ∧ Ioo lo hi w bv vs m.blocks ∧ ∀ u ∈ bv :: vs, apart fv u
theorem Mo.read {lo hi : Nat} {w : World} {v : Value} {m : Md} (h : Mo lo hi w v m) : Mv lo hi w v m := by
  obtain ⟨fv, bv, vs, e, h1, h2, _⟩ := h
  exact ⟨fv, bv, e, h1.read, h2.read⟩
theorem Mo.keeps {lo hi : Nat} {w w' : World} {v : Value} {m : Md} (h : Mo lo hi w v m) (k : Keeps lo hi w w') : Mo lo hi w' v m := by
  obtain ⟨fv, bv, vs, e, h1, h2, h3⟩ := h
  exact ⟨fv, bv, vs, e, h1.keeps k, h2.keeps k, h3⟩
theorem Mo.wide {lo hi lo' hi' : Nat} {w : World} {v : Value} {m : Md} (h : Mo lo hi w v m) (a : lo' ≤ lo) (b : hi ≤ hi') : Mo lo' hi' w v m := by
  obtain ⟨fv, bv, vs, e, h1, h2, h3⟩ := h
  exact ⟨fv, bv, vs, e, h1.wide a b, h2.wide a b, h3⟩

/-- a row in an earlier block than another is apart from it -/
theorem apart_lt {u v : Value} {B : Nat} (hu : ∀ k, u.ownBlock = some k → k < B) (hv : ∀ k, v.ownBlock = some k → B ≤ k) : apart u v := by
  cases h : u.ownBlock with
  | none => exact .inl h
  | some k => exact .inr fun e => by have h1 := hu k h; have h2 := hv k (by rw [← e, h]); omega
theorem apart_nil (v : Value) : apart (.slice none 0 0) v := .inl rfl

/-- an answer: a new row of numbers -/
def IntsAns (w : World) (l : List Int) (e : Ending) (w' : World) : Prop := ∃ v, e = .returned v ∧ Io w.heap.size w'.heap.size w' v l ∧ Below w.heap.size w w'
/-- an answer: a new model -/
def MdAns (w : World) (m : Md) (e : Ending) (w' : World) : Prop := ∃ v, e = .returned v ∧ Mo w.heap.size w'.heap.size w' v m ∧ Below w.heap.size w w'
/-- an answer: a new model and a bool -/
def MdAns2 (w : World) (r : Option Md) (e : Ending) (w' : World) : Prop := ∃ v, e = .returned (.tuple #[v, .bool r.isSome]) ∧ Mo w.heap.size w'.heap.size w' v (r.getD ⟨[], [], 0⟩) ∧ Below w.heap.size w w'
theorem Mo.none (lo hi : Nat) (w : World) : Mo lo hi w (.agg #[.slice none 0 0, .slice none 0 0, .int .i64 0]) ⟨[], [], 0⟩ :=
  ⟨_, _, [], rfl, Ro.nil _ _ _ _, ⟨Ro.nil _ _ _ _, ⟨rfl, fun j hj => by simp at hj⟩, List.pairwise_singleton _ _⟩, fun u _ => apart_nil u⟩

/-- the marks of a row, from k on -/
def mrow (k n : Nat) : List Int := (List.range n).map fun i => ((k + i : Nat) : Int)
def mrows : Nat → List (List Int) → List (List Int)
  | _, [] => []
  | k, l :: ls => mrow k l.length :: mrows (k + l.length) ls
def tot : List (List Int) → Nat
  | [] => 0
  | l :: ls => l.length + tot ls
theorem mrow_len (k n : Nat) : (mrow k n).length = n := by simp [mrow]
theorem mrow_get {k n i : Nat} (h : i < n) : (mrow k n).getD i 0 = ((k + i : Nat) : Int) := by
  unfold mrow; rw [List.getD_eq_getElem?_getD, List.getElem?_map, List.getElem?_range h]; rfl
theorem mrow_set {k i : Nat} {l : List Int} (hi : i < l.length) : (mrow k i ++ l.drop i).set i ((k + i : Nat) : Int) = mrow k (i + 1) ++ l.drop (i + 1) := by
  rw [List.set_append_right _ _ (by rw [mrow_len]; exact Nat.le_refl _), mrow_len, Nat.sub_self, List.drop_eq_getElem_cons hi, List.set_cons_zero]
  unfold mrow
  rw [List.range_succ, List.map_append]; simp
theorem tot_app : ∀ (a b : List (List Int)), tot (a ++ b) = tot a + tot b
  | [], b => by simp [tot]
  | x :: a, b => by rw [List.cons_append, tot, tot, tot_app a b]; omega
theorem mrows_len : ∀ (k : Nat) (ls : List (List Int)), (mrows k ls).length = ls.length
  | _, [] => rfl
  | k, l :: ls => by rw [mrows, List.length_cons, List.length_cons, mrows_len]
theorem mrows_app : ∀ (k : Nat) (a b : List (List Int)), mrows k (a ++ b) = mrows k a ++ mrows (k + tot a) b
  | k, [], b => by simp [mrows, tot]
  | k, x :: a, b => by rw [List.cons_append, mrows, mrows, mrows_app _ a b, tot, List.cons_append, show k + x.length + tot a = k + (x.length + tot a) by omega]
theorem tot_mrows : ∀ (k : Nat) (ls : List (List Int)), tot (mrows k ls) = tot ls
  | _, [] => rfl
  | k, l :: ls => by rw [mrows, tot, tot, tot_mrows, mrow_len]
theorem take_snocL {ls : List (List Int)} {k : Nat} (h : k < ls.length) : ls.take (k + 1) = ls.take k ++ [ls.getD k []] := by
  rw [List.take_add_one, getD_some [] h]; rfl
theorem tot_take {ls : List (List Int)} {k : Nat} (h : k < ls.length) : tot (ls.take (k + 1)) = tot (ls.take k) + (ls.getD k []).length := by
  rw [take_snocL h, tot_app]; simp [tot]
theorem tot_take_le (ls : List (List Int)) (k : Nat) : tot (ls.take k) ≤ tot ls := by
  have := tot_app (ls.take k) (ls.drop k); rw [List.take_append_drop] at this; omega
theorem tot_get_le {ls : List (List Int)} {k : Nat} (h : k < ls.length) : tot (ls.take k) + (ls.getD k []).length ≤ tot ls := by
  rw [← tot_take h]; exact tot_take_le _ _
theorem mrows_get : ∀ (k : Nat) (ls : List (List Int)) (j : Nat), j < ls.length → (mrows k ls).getD j [] = mrow (k + tot (ls.take j)) (ls.getD j []).length
  | k, l :: ls, 0, _ => by simp [mrows, tot]
  | k, l :: ls, j + 1, h => by
    have := mrows_get (k + l.length) ls j (by simpa using h)
    rw [mrows, List.getD_cons_succ, this, List.take_succ_cons, tot, List.getD_cons_succ, show k + l.length + tot (ls.take j) = k + (l.length + tot (ls.take j)) by omega]
/-- the marks of a model -/
def mmod (k : Nat) (m : Md) : Md := ⟨mrow k m.facts.length, mrows (k + m.facts.length) m.blocks, m.actual⟩
def msize (m : Md) : Nat := m.facts.length + tot m.blocks
end Go.Proofs.Ytegmoojjffkacaa
