/-
  Linked formulas in memory: a value points to a node whose parts are such values. No program text.
-/
import Derived.Test.YtnpfnfenkklocaaZLib
import Derived.Test.YtnpfnfenkklocaaZTerm
namespace Go.Proofs.Ytnpfnfenkklocaa
open Go.RowKit Go.WideShapes
open Go Go.Deep
set_option linter.unusedSimpArgs false

/-- a node of a linked formula -/
def Lnode (lo : Nat) (w : World) (v : Value) (op n : Int) (us : List Value) (size : Nat) : Prop :=
  ∃ b sl, v = .pointer (some ⟨b, 0, none⟩) ∧ lo ≤ b ∧ b < w.heap.size ∧ w.cell? ⟨b, 0, none⟩ = some (.int .i64 op) ∧ w.cell? ⟨b, 1, none⟩ = some (.int .i64 n) ∧ w.cell? ⟨b, 2, none⟩ = some sl ∧ w.cell? ⟨b, 3, none⟩ = some (.int .i64 size) ∧ Rv lo w.heap.size w sl us
theorem Lnode.keeps {lo : Nat} {w w' : World} {v : Value} {op n : Int} {us : List Value} {size : Nat} (h : Lnode lo w v op n us size) (k : Keeps lo w.heap.size w w') : Lnode lo w' v op n us size := by
  obtain ⟨b, sl, e, h1, h2, c0, c1, c2, c3, hr⟩ := h
  have hb := k.block b h1 h2 h2
  exact ⟨b, sl, e, h1, Nat.lt_of_lt_of_le h2 k.size, by rw [World.cell?_of_block (w := w) hb]; exact c0, by rw [World.cell?_of_block (w := w) hb]; exact c1, by rw [World.cell?_of_block (w := w) hb]; exact c2, by rw [World.cell?_of_block (w := w) hb]; exact c3, (hr.keeps k).wide (Nat.le_refl _) k.size⟩
theorem Lnode.down {lo lo' : Nat} {w : World} {v : Value} {op n : Int} {us : List Value} {size : Nat} (h : Lnode lo w v op n us size) (hl : lo' ≤ lo) : Lnode lo' w v op n us size := by
  obtain ⟨b, sl, e, h1, h2, c0, c1, c2, c3, hr⟩ := h
  exact ⟨b, sl, e, by omega, h2, c0, c1, c2, c3, hr.wide hl (Nat.le_refl _)⟩
/-- the value v is the linked formula of a term -/
def Lk (lo : Nat) (w : World) : Tm → Value → Prop
  | .leaf op n, v => Lnode lo w v op n [] 1
  | .deny a, v => ∃ u, Lnode lo w v 3 0 [u] (a.size + 1) ∧ Lk lo w a u
  | .know op n a, v => ∃ u, Lnode lo w v op n [u] (a.size + 1) ∧ Lk lo w a u
  | .joint op a b, v => ∃ u u', Lnode lo w v op 0 [u, u'] (a.size + b.size + 1) ∧ Lk lo w a u ∧ Lk lo w b u'
theorem Lk.keeps {lo : Nat} {w w' : World} (k : Keeps lo w.heap.size w w') : ∀ {t : Tm} {v : Value}, Lk lo w t v → Lk lo w' t v
  | .leaf _ _, _, h => Lnode.keeps h k
  | .deny _, _, ⟨u, h, ha⟩ => ⟨u, h.keeps k, Lk.keeps k ha⟩
  | .know _ _ _, _, ⟨u, h, ha⟩ => ⟨u, h.keeps k, Lk.keeps k ha⟩
  | .joint _ _ _, _, ⟨u, u', h, ha, hb⟩ => ⟨u, u', h.keeps k, Lk.keeps k ha, Lk.keeps k hb⟩
theorem Lk.below {lo : Nat} {w w' : World} {t : Tm} {v : Value} (h : Lk lo w t v) (hb : Below w.heap.size w w') : Lk lo w' t v := Lk.keeps (Keeps.of_all hb) h
theorem Lk.down {lo lo' : Nat} {w : World} (hl : lo' ≤ lo) : ∀ {t : Tm} {v : Value}, Lk lo w t v → Lk lo' w t v
  | .leaf _ _, _, h => Lnode.down h hl
  | .deny _, _, ⟨u, h, ha⟩ => ⟨u, h.down hl, Lk.down hl ha⟩
  | .know _ _ _, _, ⟨u, h, ha⟩ => ⟨u, h.down hl, Lk.down hl ha⟩
  | .joint _ _ _, _, ⟨u, u', h, ha, hb⟩ => ⟨u, u', h.down hl, Lk.down hl ha, Lk.down hl hb⟩
/-- the node of a linked formula and its parts -/
def LkParts (lo : Nat) (w : World) : List Tm → List Value → Prop
  | [], us => us = []
  | a :: r, us => ∃ u us', us = u :: us' ∧ Lk lo w a u ∧ LkParts lo w r us'
theorem LkParts.below {lo : Nat} {w w' : World} (hb : Below w.heap.size w w') : ∀ {l : List Tm} {us : List Value}, LkParts lo w l us → LkParts lo w' l us
  | [], _, h => h
  | _ :: _, _, ⟨u, us', e, h, hr⟩ => ⟨u, us', e, h.below hb, LkParts.below hb hr⟩
theorem Lk.node {lo : Nat} {w : World} : ∀ {t : Tm} {v : Value}, Lk lo w t v → ∃ us, Lnode lo w v t.op t.num us t.size ∧ LkParts lo w t.parts us
  | .leaf _ _, _, h => ⟨[], h, rfl⟩
  | .deny _, _, ⟨u, h, ha⟩ => ⟨[u], h, u, [], rfl, ha, rfl⟩
  | .know _ _ _, _, ⟨u, h, ha⟩ => ⟨[u], h, u, [], rfl, ha, rfl⟩
  | .joint _ _ _, _, ⟨u, u', h, ha, hb⟩ => ⟨[u, u'], h, u, [u'], rfl, ha, u', [], rfl, hb, rfl⟩
theorem Lk.ptr {lo : Nat} {w : World} {t : Tm} {v : Value} (h : Lk lo w t v) : ∃ b, v = .pointer (some ⟨b, 0, none⟩) ∧ lo ≤ b ∧ b < w.heap.size := by
  obtain ⟨us, ⟨b, sl, e, h1, h2, -⟩, -⟩ := h.node
  exact ⟨b, e, h1, h2⟩
/-- an answer that is a linked formula -/
def LkAns (lo : Nat) (w : World) (t : Tm) (e : Ending) (w' : World) : Prop := ∃ b, e = .returned (.pointer (some ⟨b, 0, none⟩)) ∧ Lk lo w' t (.pointer (some ⟨b, 0, none⟩)) ∧ Below w.heap.size w w'
/-- an answer that is a linked formula or nil -/
def LkOpt (lo : Nat) (w : World) (r : Option Tm) (e : Ending) (w' : World) : Prop := match r with
  | some t => LkAns lo w t e w'
  | none => e = .returned (.pointer none) ∧ Below w.heap.size w w'
theorem LkAns.later {lo : Nat} {w w1 w' : World} {t : Tm} {e : Ending} (hb : Below w.heap.size w w1) (h : LkAns lo w1 t e w') : LkAns lo w t e w' := by
  obtain ⟨b, he, hl, hb'⟩ := h
  exact ⟨b, he, hl, hb.trans (hb'.mono hb.size)⟩
/-- a slice of one pointer, of two pointers -/
theorem Rv.one {lo hi : Nat} {w : World} {v x : Value} (h : Rv lo hi w v [x]) : ∃ b o cap, v = .slice (some ⟨b, o, none⟩) 1 cap ∧ 1 ≤ cap ∧ cap ≤ maxLen ∧ lo ≤ b ∧ b < w.heap.size ∧ w.cell? ⟨b, o, none⟩ = some x := by
  obtain ⟨a, cap, rfl, h1, h2, h3⟩ := h
  rcases h3 with h3 | ⟨b, o, rfl, hl, _, hlt, hc⟩
  · cases h3
  · exact ⟨b, o, cap, rfl, h1, h2, hl, hlt, hc 0 x rfl⟩
theorem Rv.two {lo hi : Nat} {w : World} {v x y : Value} (h : Rv lo hi w v [x, y]) : ∃ b o cap, v = .slice (some ⟨b, o, none⟩) 2 cap ∧ 2 ≤ cap ∧ cap ≤ maxLen ∧ lo ≤ b ∧ b < w.heap.size ∧ w.cell? ⟨b, o, none⟩ = some x ∧ w.cell? ⟨b, o + 1, none⟩ = some y := by
  obtain ⟨a, cap, rfl, h1, h2, h3⟩ := h
  rcases h3 with h3 | ⟨b, o, rfl, hl, _, hlt, hc⟩
  · cases h3
  · exact ⟨b, o, cap, rfl, h1, h2, hl, hlt, hc 0 x rfl, hc 1 y rfl⟩
end Go.Proofs.Ytnpfnfenkklocaa
