/-
  Several texts in one: Lkd Lki Afi Ltr Lnk. Conditions: as each theorem says.
-/
import Derived.Test.YtodjohdbngbpaaaGreatZLib
import Derived.Test.YtodjohdbngbpaaaGreatZTerm
import Derived.BigRegion
import Derived.Test.YtodjohdbngbpaaaGreatZRwm
import Derived.Test.YtodjohdbngbpaaaGreatZReg
/-
  Linked formulas in memory: a value points to a node whose parts are such values. No program text.
-/
namespace Go.Proofs.YtodjohdbngbpaaaGreat
open Go.RowKit Go.WideShapes
open Go Go.Deep
set_option linter.unusedSimpArgs false

/-- a node of a linked formula -/
def Lnode (lo : Nat) (w : World) (v : Value) (op n : Int) (us : List Value) (size : Nat) : Prop :=
  ∃ b sl, v = .pointer (some ⟨b, 0, none⟩) ∧ lo ≤ b ∧ b < w.heap.size ∧ w.cell? ⟨b, 0, none⟩ = some (.int .i64 op) ∧ w.cell? ⟨b, 1, none⟩ = some (.int .i64 n) ∧ w.cell? ⟨b, 2, none⟩ = some sl ∧ w.cell? ⟨b, 3, none⟩ = some (.int .i64 size) ∧ Rv lo w.heap.size w sl us
theorem Lnode.keeps {lo : Nat} {w w' : World} {v : Value} {op n : Int} {us : List Value} {size : Nat} (h : Lnode lo w v op n us size) (k : Keeps lo w.heap.size w w') : Lnode lo w' v op n us size := by
  obtain ⟨b, sl, e, h1, h2, c0, c1, c2, c3, hr⟩ := h
  have hb := k.block b h1 h2 h2
  exact ⟨b, sl, e, h1, Nat.lt_of_lt_of_le h2 k.size, by rw [World.cell?_of_block (w := w) hb]; exact c0, by rw [World.cell?_of_block (w := w) hb]; exact c1, by rw [World.cell?_of_block (w := w) hb]; exact c2, by rw [World.cell?_of_block (w := w) hb]; exact c3, (hr.keeps k).wide (Nat.le_refl _) k.size⟩
theorem Lnode.down {lo lo' : Nat} {w : World} {v : Value} {op n : Int} {us : List Value} {size : Nat} (h : Lnode lo w v op n us size) (hl : lo' ≤ lo) : Lnode lo' w v op n us size := by
  obtain ⟨b, sl, e, h1, h2, c0, c1, c2, c3, hr⟩ := h
  exact ⟨b, sl, e, by omega, h2, c0, c1, c2, c3, hr.wide hl (Nat.le_refl _)⟩
/-- the value v is the linked formula of a term -/
def Lk (lo : Nat) (w : World) : Tm → Value → Prop
  | .leaf op n, v => Lnode lo w v op n [] 1
  | .deny a, v => ∃ u, Lnode lo w v 3 0 [u] (a.size + 1) ∧ Lk lo w a u
  | .know op n a, v => ∃ u, Lnode lo w v op n [u] (a.size + 1) ∧ Lk lo w a u
  | .joint op a b, v => ∃ u u', Lnode lo w v op 0 [u, u'] (a.size + b.size + 1) ∧ Lk lo w a u ∧ Lk lo w b u'
theorem Lk.keeps {lo : Nat} {w w' : World} (k : Keeps lo w.heap.size w w') : ∀ {t : Tm} {v : Value}, Lk lo w t v → Lk lo w' t v
  | .leaf _ _, _, h => Lnode.keeps h k
  | .deny _, _, ⟨u, h, ha⟩ => ⟨u, h.keeps k, Lk.keeps k ha⟩
  | .know _ _ _, _, ⟨u, h, ha⟩ => ⟨u, h.keeps k, Lk.keeps k ha⟩
  | .joint _ _ _, _, ⟨u, u', h, ha, hb⟩ => ⟨u, u', h.keeps k, Lk.keeps k ha, Lk.keeps k hb⟩
theorem Lk.below {lo : Nat} {w w' : World} {t : Tm} {v : Value} (h : Lk lo w t v) (hb : Below w.heap.size w w') : Lk lo w' t v := Lk.keeps (Keeps.of_all hb) h
theorem Lk.down {lo lo' : Nat} {w : World} (hl : lo' ≤ lo) : ∀ {t : Tm} {v : Value}, Lk lo w t v → Lk lo' w t v
  | .leaf _ _, _, h => Lnode.down h hl
  | .deny _, _, ⟨u, h, ha⟩ => ⟨u, h.down hl, Lk.down hl ha⟩
  | .know _ _ _, _, ⟨u, h, ha⟩ => ⟨u, h.down hl, Lk.down hl ha⟩
  | .joint _ _ _, _, ⟨u, u', h, ha, hb⟩ => ⟨u, u', h.down hl, Lk.down hl ha, Lk.down hl hb⟩
/-- the node of a linked formula and its parts -/
def LkParts (lo : Nat) (w : World) : List Tm → List Value → Prop
  | [], us => us = []
  | a :: r, us => ∃ u us', us = u :: us' ∧ Lk lo w a u ∧ LkParts lo w r us'
theorem Lk.node {lo : Nat} {w : World} : ∀ {t : Tm} {v : Value}, Lk lo w t v → ∃ us, Lnode lo w v t.op t.num us t.size ∧ LkParts lo w t.parts us
  | .leaf _ _, _, h => ⟨[], h, rfl⟩
  | .deny _, _, ⟨u, h, ha⟩ => ⟨[u], h, u, [], rfl, ha, rfl⟩
  | .know _ _ _, _, ⟨u, h, ha⟩ => ⟨[u], h, u, [], rfl, ha, rfl⟩
  | .joint _ _ _, _, ⟨u, u', h, ha, hb⟩ => ⟨[u, u'], h, u, [u'], rfl, ha, u', [], rfl, hb, rfl⟩
theorem Lk.ptr {lo : Nat} {w : World} {t : Tm} {v : Value} (h : Lk lo w t v) : ∃ b, v = .pointer (some ⟨b, 0, none⟩) ∧ lo ≤ b ∧ b < w.heap.size := by
  obtain ⟨us, ⟨b, sl, e, h1, h2, -⟩, -⟩ := h.node
  exact ⟨b, e, h1, h2⟩
/-- an answer that is a linked formula -/
def LkAns (lo : Nat) (w : World) (t : Tm) (e : Ending) (w' : World) : Prop := ∃ b, e = .returned (.pointer (some ⟨b, 0, none⟩)) ∧ Lk lo w' t (.pointer (some ⟨b, 0, none⟩)) ∧ Below w.heap.size w w'
/-- an answer that is a linked formula or nil -/
def LkOpt (lo : Nat) (w : World) (r : Option Tm) (e : Ending) (w' : World) : Prop := match r with
  | some t => LkAns lo w t e w'
  | none => e = .returned (.pointer none) ∧ Below w.heap.size w w'
/-- a slice of one pointer, of two pointers -/
theorem Rv.one {lo hi : Nat} {w : World} {v x : Value} (h : Rv lo hi w v [x]) : ∃ b o cap, v = .slice (some ⟨b, o, none⟩) 1 cap ∧ 1 ≤ cap ∧ cap ≤ maxLen ∧ lo ≤ b ∧ b < w.heap.size ∧ w.cell? ⟨b, o, none⟩ = some x := by
  obtain ⟨a, cap, rfl, h1, h2, h3⟩ := h
  rcases h3 with h3 | ⟨b, o, rfl, hl, _, hlt, hc⟩
  · cases h3
  · exact ⟨b, o, cap, rfl, h1, h2, hl, hlt, hc 0 x rfl⟩
theorem Rv.two {lo hi : Nat} {w : World} {v x y : Value} (h : Rv lo hi w v [x, y]) : ∃ b o cap, v = .slice (some ⟨b, o, none⟩) 2 cap ∧ 2 ≤ cap ∧ cap ≤ maxLen ∧ lo ≤ b ∧ b < w.heap.size ∧ w.cell? ⟨b, o, none⟩ = some x ∧ w.cell? ⟨b, o + 1, none⟩ = some y := by
  obtain ⟨a, cap, rfl, h1, h2, h3⟩ := h
  rcases h3 with h3 | ⟨b, o, rfl, hl, _, hlt, hc⟩
  · cases h3
  · exact ⟨b, o, cap, rfl, h1, h2, hl, hlt, hc 0 x rfl, hc 1 y rfl⟩
end Go.Proofs.YtodjohdbngbpaaaGreat

/-
  Contracts of impl.newLinked and the methods denied, and, implies. Conditions: the parts are linked formulas, and the sizes' sum is far from the greatest int.
-/
namespace Go.Proofs.YtodjohdbngbpaaaGreat
open Go.RowKit Go.WideShapes
open Go Go.Deep
set_option linter.unusedSimpArgs false

/-- a new node -/
def NewAns (w : World) (op n : Int) (sl : Value) (size : Nat) (e : Ending) (w' : World) : Prop :=
  ∃ b, e = .returned (.pointer (some ⟨b, 0, none⟩)) ∧ w.heap.size ≤ b ∧ b < w'.heap.size ∧ w'.cell? ⟨b, 0, none⟩ = some (.int .i64 op) ∧ w'.cell? ⟨b, 1, none⟩ = some (.int .i64 n) ∧ w'.cell? ⟨b, 2, none⟩ = some sl ∧ w'.cell? ⟨b, 3, none⟩ = some (.int .i64 size) ∧ Below w.heap.size w w'

set_option maxRecDepth 100000 in
set_option maxHeartbeats 4000000 in
theorem newL_0 (op n : Int) (a : Option Addr) (c : Nat) (w : World) :
    Calls Tryz.prog 155 #[.int .i64 op, .int .i64 n, .slice a 0 c] w (NewAns w op n (.slice a 0 c) 1) := by
  go_enter Tryz.func155, Tryz.ntmps155
  go_wp2
  refine wp_loop_rounds 1 ?_
  rw [rounds_succ]
  go_wp2
  go_ret
  exact ⟨_, rfl, Nat.le_refl _, by simp, by rw [World.cell?_alloc_at _ _ _ _ rfl]; rfl, by rw [World.cell?_alloc_at _ _ _ _ rfl]; rfl, by rw [World.cell?_alloc_at _ _ _ _ rfl]; rfl, by rw [World.cell?_alloc_at _ _ _ _ rfl]; rfl, (Below.refl _ _).alloc (Nat.le_refl _) _⟩

set_option maxRecDepth 100000 in
set_option maxHeartbeats 4000000 in
theorem newL_1 (op n : Int) (g o c b s : Nat) (w : World) (hgl : g < w.heap.size) (hbl : b < w.heap.size) (hg : w.cell? ⟨g, o, none⟩ = some (.pointer (some ⟨b, 0, none⟩))) (hb : w.cell? ⟨b, 3, none⟩ = some (.int .i64 s)) (hs : s ≤ 140737488355328) :
    Calls Tryz.prog 155 #[.int .i64 op, .int .i64 n, .slice (some ⟨g, o, none⟩) 1 c] w (NewAns w op n (.slice (some ⟨g, o, none⟩) 1 c) (s + 1)) := by
  have hs0 : (0 : Int) ≤ (s : Int) := Int.natCast_nonneg _
  have hs1 : (s : Int) ≤ 140737488355328 := by omega
  have hg1 : ∀ cs T, (w.alloc (.cells cs T)).cell? ⟨g, o, none⟩ = some (.pointer (some ⟨b, 0, none⟩)) := fun cs T => (((Below.refl _ _).alloc (Nat.le_refl _) _ : Below w.heap.size w _).cell (p := ⟨g, o, none⟩) hgl).trans hg
  have hb1 : ∀ cs T, (w.alloc (.cells cs T)).cell? ⟨b, 3, none⟩ = some (.int .i64 s) := fun cs T => (((Below.refl _ _).alloc (Nat.le_refl _) _ : Below w.heap.size w _).cell (p := ⟨b, 3, none⟩) hbl).trans hb
  clear hs hg hb
  go_enter Tryz.func155, Tryz.ntmps155
  go_wp2
  refine wp_loop_rounds 2 ?_
  rw [rounds_succ]
  go_wp2
  go_region
  go_wp2
  rw [rounds_succ]
  go_wp2
  go_ret
  refine ⟨_, rfl, Nat.le_refl _, by simp, ?_, ?_, ?_, ?_, by go_grown⟩
  · go_simp
  · go_simp
  · go_simp
  · go_simp
    rw [Int.add_comm]

set_option maxRecDepth 100000 in
set_option maxHeartbeats 4000000 in
theorem newL_2 (op n : Int) (g o c b s b' s' : Nat) (w : World) (hgl : g < w.heap.size) (hbl : b < w.heap.size) (hbl' : b' < w.heap.size) (hg : w.cell? ⟨g, o, none⟩ = some (.pointer (some ⟨b, 0, none⟩))) (hg' : w.cell? ⟨g, o + 1, none⟩ = some (.pointer (some ⟨b', 0, none⟩))) (hb : w.cell? ⟨b, 3, none⟩ = some (.int .i64 s)) (hb' : w.cell? ⟨b', 3, none⟩ = some (.int .i64 s')) (hs : s ≤ 140737488355328) (hs' : s' ≤ 140737488355328) :
    Calls Tryz.prog 155 #[.int .i64 op, .int .i64 n, .slice (some ⟨g, o, none⟩) 2 c] w (NewAns w op n (.slice (some ⟨g, o, none⟩) 2 c) (s + s' + 1)) := by
  have hs0 : (0 : Int) ≤ (s : Int) := Int.natCast_nonneg _
  have hs1 : (s : Int) ≤ 140737488355328 := by omega
  have hs2 : (0 : Int) ≤ (s' : Int) := Int.natCast_nonneg _
  have hs3 : (s' : Int) ≤ 140737488355328 := by omega
  have hg1 : ∀ cs T, (w.alloc (.cells cs T)).cell? ⟨g, o, none⟩ = some (.pointer (some ⟨b, 0, none⟩)) := fun cs T => (((Below.refl _ _).alloc (Nat.le_refl _) _ : Below w.heap.size w _).cell (p := ⟨g, o, none⟩) hgl).trans hg
  have hg2 : ∀ cs T, (w.alloc (.cells cs T)).cell? ⟨g, o + 1, none⟩ = some (.pointer (some ⟨b', 0, none⟩)) := fun cs T => (((Below.refl _ _).alloc (Nat.le_refl _) _ : Below w.heap.size w _).cell (p := ⟨g, o + 1, none⟩) hgl).trans hg'
  have hb1 : ∀ cs T, (w.alloc (.cells cs T)).cell? ⟨b, 3, none⟩ = some (.int .i64 s) := fun cs T => (((Below.refl _ _).alloc (Nat.le_refl _) _ : Below w.heap.size w _).cell (p := ⟨b, 3, none⟩) hbl).trans hb
  have hb2 : ∀ cs T, (w.alloc (.cells cs T)).cell? ⟨b', 3, none⟩ = some (.int .i64 s') := fun cs T => (((Below.refl _ _).alloc (Nat.le_refl _) _ : Below w.heap.size w _).cell (p := ⟨b', 3, none⟩) hbl').trans hb'
  clear hs hs' hg hb hg' hb'
  go_enter Tryz.func155, Tryz.ntmps155
  go_wp2
  refine wp_loop_rounds 3 ?_
  rw [rounds_succ]
  go_wp2
  go_region
  go_wp2
  rw [rounds_succ]
  go_wp2
  go_region
  go_wp2
  rw [rounds_succ]
  go_wp2
  go_ret
  refine ⟨_, rfl, Nat.le_refl _, by simp, ?_, ?_, ?_, ?_, by go_grown⟩
  · go_simp
  · go_simp
  · go_simp
  · go_simp
    rw [show (1 : Int) + s + s' = s + s' + 1 by omega]

theorem Lnode.of_new {lo : Nat} {w w' : World} {op n : Int} {sl : Value} {us : List Value} {size : Nat} {e : Ending} (hlo : lo ≤ w.heap.size) (hr : Rv lo w.heap.size w sl us) (h : NewAns w op n sl size e w') :
    ∃ b, e = .returned (.pointer (some ⟨b, 0, none⟩)) ∧ Lnode lo w' (.pointer (some ⟨b, 0, none⟩)) op n us size ∧ Below w.heap.size w w' := by
  obtain ⟨b, he, h1, h2, c0, c1, c2, c3, hb⟩ := h
  exact ⟨b, he, ⟨b, sl, rfl, by omega, h2, c0, c1, c2, c3, (hr.keeps (Keeps.of_all hb)).wide (Nat.le_refl _) hb.size⟩, hb⟩
theorem Lk.sizeCell {lo : Nat} {w : World} {t : Tm} {v : Value} (h : Lk lo w t v) : ∃ b, v = .pointer (some ⟨b, 0, none⟩) ∧ lo ≤ b ∧ b < w.heap.size ∧ w.cell? ⟨b, 3, none⟩ = some (.int .i64 t.size) := by
  obtain ⟨us, ⟨b, sl, e, h1, h2, c0, c1, c2, c3, hr⟩, -⟩ := h.node
  exact ⟨b, e, h1, h2, c3⟩
theorem newLk_0 (lo : Nat) (op n : Int) (sl : Value) (w : World) (hlo : lo ≤ w.heap.size) (hr : Rv lo w.heap.size w sl []) :
    Calls Tryz.prog 155 #[.int .i64 op, .int .i64 n, sl] w (LkAns lo w (.leaf op n)) := by
  obtain ⟨a, c, rfl, -⟩ := id hr
  exact (newL_0 op n a c w).mono fun e w' h => by
    obtain ⟨b, he, hl, hb⟩ := Lnode.of_new hlo hr h
    exact ⟨b, he, hl, hb⟩
theorem newLk_1 (lo : Nat) (op n : Int) (sl u : Value) (a : Tm) (w : World) (hlo : lo ≤ w.heap.size) (hr : Rv lo w.heap.size w sl [u]) (hu : Lk lo w a u) (hs : a.size ≤ 140737488355328) :
    Calls Tryz.prog 155 #[.int .i64 op, .int .i64 n, sl] w (fun e w' => ∃ b, e = .returned (.pointer (some ⟨b, 0, none⟩)) ∧ (Lnode lo w' (.pointer (some ⟨b, 0, none⟩)) op n [u] (a.size + 1) ∧ Lk lo w' a u) ∧ Below w.heap.size w w') := by
  obtain ⟨g, o, c, rfl, h1, h2, h3, h4, h5⟩ := hr.one
  obtain ⟨b, rfl, b1, b2, b3⟩ := hu.sizeCell
  exact (newL_1 op n g o c b a.size w h4 b2 h5 b3 hs).mono fun e w' h => by
    obtain ⟨b', he, hl, hb⟩ := Lnode.of_new hlo hr h
    exact ⟨b', he, ⟨hl, hu.below hb⟩, hb⟩
theorem newLk_2 (lo : Nat) (op n : Int) (sl u u' : Value) (a a' : Tm) (w : World) (hlo : lo ≤ w.heap.size) (hr : Rv lo w.heap.size w sl [u, u']) (hu : Lk lo w a u) (hu' : Lk lo w a' u') (hs : a.size ≤ 140737488355328) (hs' : a'.size ≤ 140737488355328) :
    Calls Tryz.prog 155 #[.int .i64 op, .int .i64 n, sl] w (fun e w' => ∃ b, e = .returned (.pointer (some ⟨b, 0, none⟩)) ∧ (Lnode lo w' (.pointer (some ⟨b, 0, none⟩)) op n [u, u'] (a.size + a'.size + 1) ∧ Lk lo w' a u ∧ Lk lo w' a' u') ∧ Below w.heap.size w w') := by
  obtain ⟨g, o, c, rfl, h1, h2, h3, h4, h5, h6⟩ := hr.two
  obtain ⟨b, rfl, b1, b2, b3⟩ := hu.sizeCell
  obtain ⟨b', rfl, b1', b2', b3'⟩ := hu'.sizeCell
  exact (newL_2 op n g o c b a.size b' a'.size w h4 b2 b2' h5 h6 b3 b3' hs hs').mono fun e w' h => by
    obtain ⟨b', he, hl, hb⟩ := Lnode.of_new hlo hr h
    exact ⟨b', he, ⟨hl, hu.below hb, hu'.below hb⟩, hb⟩
/-- the slice of one or two pointers just made -/
theorem Rv.lit1 {lo : Nat} {w : World} {u : Value} {T : TypeId} (hlo : lo ≤ w.heap.size) : Rv lo (w.alloc (.cells #[u] T)).heap.size (w.alloc (.cells #[u] T)) (.slice (some ⟨w.heap.size, 0, none⟩) 1 1) [u] := by
  refine ⟨_, 1, rfl, Nat.le_refl _, by decide, .inr ⟨w.heap.size, 0, rfl, hlo, by simp, by simp, fun j x hx => ?_⟩⟩
  rw [World.cell?_alloc_at _ _ _ _ rfl]
  match j with
  | 0 => simpa using hx
  | j + 1 => simp at hx
theorem Rv.lit2 {lo : Nat} {w : World} {u u' : Value} {T : TypeId} (hlo : lo ≤ w.heap.size) : Rv lo (w.alloc (.cells #[u, u'] T)).heap.size (w.alloc (.cells #[u, u'] T)) (.slice (some ⟨w.heap.size, 0, none⟩) 2 2) [u, u'] := by
  refine ⟨_, 2, rfl, Nat.le_refl _, by decide, .inr ⟨w.heap.size, 0, rfl, hlo, by simp, by simp, fun j x hx => ?_⟩⟩
  rw [World.cell?_alloc_at _ _ _ _ rfl]
  match j with
  | 0 => simpa using hx
  | 1 => simpa using hx
  | j + 2 => simp at hx

set_option maxHeartbeats 4000000 in
theorem denied_any (lo : Nat) (v : Value) (t : Tm) (w : World) (hlo : lo ≤ w.heap.size) (h : Lk lo w t v) (hs : t.size ≤ 140737488355328) :
    Calls Tryz.prog 154 #[v] w (LkAns lo w (.deny t)) := by
  have hb0 : ∀ T, Below w.heap.size w (w.alloc (.cells #[v] T)) := fun T => (Below.refl _ _).alloc (Nat.le_refl _) _
  have K := Lib.hid (fun T => newLk_1 lo 3 0 _ v t (w.alloc (.cells #[v] T)) (by simp; omega) (Rv.lit1 hlo) (h.below (hb0 T)) hs)
  have HB := Lib.hid hb0
  obtain ⟨b, rfl, -⟩ := h.ptr
  clear h hb0 hlo hs
  go_enter Tryz.func154, Tryz.ntmps154
  go_wp2_with fail
  refine (K.out _).mono ?_
  rintro e w1 ⟨b1, rfl, hl, hb1⟩
  have HL := Lib.hid hl
  have B1 := Lib.hid ((HB.out _).trans (hb1.mono (HB.out _).size))
  clear hl hb1
  go_wp2
  go_ret
  exact ⟨_, rfl, ⟨_, HL.out.1, HL.out.2⟩, B1.out⟩
set_option maxHeartbeats 4000000 in
theorem and_any (lo : Nat) (v v' : Value) (t t' : Tm) (w : World) (hlo : lo ≤ w.heap.size) (h : Lk lo w t v) (h' : Lk lo w t' v') (hs : t.size ≤ 140737488355328) (hs' : t'.size ≤ 140737488355328) :
    Calls Tryz.prog 153 #[v, v'] w (LkAns lo w (.joint 4 t t')) := by
  have hb0 : ∀ T, Below w.heap.size w (w.alloc (.cells #[v, v'] T)) := fun T => (Below.refl _ _).alloc (Nat.le_refl _) _
  have K := Lib.hid (fun T => newLk_2 lo 4 0 _ v v' t t' (w.alloc (.cells #[v, v'] T)) (by simp; omega) (Rv.lit2 hlo) (h.below (hb0 T)) (h'.below (hb0 T)) hs hs')
  have HB := Lib.hid hb0
  obtain ⟨b, rfl, -⟩ := h.ptr
  obtain ⟨b', rfl, -⟩ := h'.ptr
  clear h h' hb0 hlo hs hs'
  go_enter Tryz.func153, Tryz.ntmps153
  go_wp2_with fail
  refine (K.out _).mono ?_
  rintro e w1 ⟨b1, rfl, hl, hb1⟩
  have HL := Lib.hid hl
  have B1 := Lib.hid ((HB.out _).trans (hb1.mono (HB.out _).size))
  clear hl hb1
  go_wp2
  go_ret
  exact ⟨_, rfl, ⟨_, _, HL.out.1, HL.out.2⟩, B1.out⟩
set_option maxHeartbeats 4000000 in
theorem implies_any (lo : Nat) (v v' : Value) (t t' : Tm) (w : World) (hlo : lo ≤ w.heap.size) (h : Lk lo w t v) (h' : Lk lo w t' v') (hs : t.size + t'.size ≤ 140737488355320) :
    Calls Tryz.prog 152 #[v, v'] w (LkAns lo w (.deny (.joint 4 t (.deny t')))) := by
  have K1 := Lib.hid (denied_any lo v' t' w hlo h' (by omega))
  have K2 := Lib.hid (fun u W (hW : Below w.heap.size w W) hu => and_any lo v u t (.deny t') W (Nat.le_trans hlo hW.size) (h.below hW) hu (by omega) (by simp only [Tm.size]; omega))
  have K3 := Lib.hid (fun u W (hW : Below w.heap.size w W) hu => denied_any lo u (.joint 4 t (.deny t')) W (Nat.le_trans hlo hW.size) hu (by simp only [Tm.size]; omega))
  unfold LkAns at K1 K2 K3
  obtain ⟨b, rfl, -⟩ := h.ptr
  obtain ⟨b', rfl, -⟩ := h'.ptr
  clear h h' hlo hs
  go_enter Tryz.func152, Tryz.ntmps152
  go_wp2_with fail
  refine K1.out.mono ?_
  rintro e w1 ⟨b1, rfl, hl, hb1⟩
  have H1 := Lib.hid hl
  have B1 := Lib.hid hb1
  clear hl hb1
  go_wp2_with fail
  refine (K2.out _ _ B1.out H1.out).mono ?_
  rintro e w2 ⟨b2, rfl, hl, hb2⟩
  have H2 := Lib.hid hl
  have B2 := Lib.hid (B1.out.trans (hb2.mono B1.out.size))
  clear hl hb2
  go_wp2_with fail
  refine (K3.out _ _ B2.out H2.out).mono ?_
  rintro e w3 ⟨b3, rfl, hl, hb3⟩
  have H3 := Lib.hid hl
  have B3 := Lib.hid (B2.out.trans (hb3.mono B2.out.size))
  clear hl hb3
  go_wp2
  go_ret
  exact ⟨_, rfl, H3.out, B3.out⟩
end Go.Proofs.YtodjohdbngbpaaaGreat

/-
  Contract of impl.after: the rewritten announcement of one linked formula before another. Conditions: neither announcements nor common knowledge in the second one; at most 40 nodes in each.
-/
namespace Go.Proofs.YtodjohdbngbpaaaGreat
open Go.RowKit Go.WideShapes
open Go Go.Deep
set_option linter.unusedSimpArgs false

/-- the cells of a linked formula's node, as long as nothing old is changed -/
theorem Lk.cells {lo : Nat} {w : World} {t : Tm} {v : Value} (h : Lk lo w t v) : ∃ b sl, v = .pointer (some ⟨b, 0, none⟩) ∧ b < w.heap.size ∧ (∀ W, Below w.heap.size w W → W.cell? ⟨b, 0, none⟩ = some (.int .i64 t.op) ∧ W.cell? ⟨b, 1, none⟩ = some (.int .i64 t.num) ∧ W.cell? ⟨b, 2, none⟩ = some sl) ∧
    ∃ us, Rv lo w.heap.size w sl us ∧ LkParts lo w t.parts us := by
  obtain ⟨us, ⟨b, sl, e, h1, h2, c0, c1, c2, c3, hr⟩, hp⟩ := h.node
  exact ⟨b, sl, e, h2, fun W hW => ⟨(hW.cell (p := ⟨b, 0, none⟩) h2).trans c0, (hW.cell (p := ⟨b, 1, none⟩) h2).trans c1, (hW.cell (p := ⟨b, 2, none⟩) h2).trans c2⟩, us, hr, hp⟩
theorem Lk.part1 {lo : Nat} {w : World} {t a : Tm} {v : Value} (h : Lk lo w t v) (hp : t.parts = [a]) : ∃ b g o c u, v = .pointer (some ⟨b, 0, none⟩) ∧ b < w.heap.size ∧ g < w.heap.size ∧ 1 ≤ c ∧ c ≤ maxLen ∧
    (∀ W, Below w.heap.size w W → W.cell? ⟨b, 0, none⟩ = some (.int .i64 t.op) ∧ W.cell? ⟨b, 1, none⟩ = some (.int .i64 t.num) ∧ W.cell? ⟨b, 2, none⟩ = some (.slice (some ⟨g, o, none⟩) 1 c) ∧ W.cell? ⟨g, o, none⟩ = some u) ∧ Lk lo w a u := by
  obtain ⟨b, sl, e, h2, hc, us, hr, hps⟩ := h.cells
  rw [hp] at hps
  obtain ⟨u, us', rfl, hu, rfl⟩ := hps
  obtain ⟨g, o, c, rfl, c1, c2, g1, g2, g3⟩ := hr.one
  exact ⟨b, g, o, c, u, e, h2, g2, c1, c2, fun W hW => ⟨(hc W hW).1, (hc W hW).2.1, (hc W hW).2.2, (hW.cell (p := ⟨g, o, none⟩) g2).trans g3⟩, hu⟩
theorem Lk.part2 {lo : Nat} {w : World} {t a a' : Tm} {v : Value} (h : Lk lo w t v) (hp : t.parts = [a, a']) : ∃ b g o c u u', v = .pointer (some ⟨b, 0, none⟩) ∧ b < w.heap.size ∧ g < w.heap.size ∧ 2 ≤ c ∧ c ≤ maxLen ∧
    (∀ W, Below w.heap.size w W → W.cell? ⟨b, 0, none⟩ = some (.int .i64 t.op) ∧ W.cell? ⟨b, 1, none⟩ = some (.int .i64 t.num) ∧ W.cell? ⟨b, 2, none⟩ = some (.slice (some ⟨g, o, none⟩) 2 c) ∧ W.cell? ⟨g, o, none⟩ = some u ∧ W.cell? ⟨g, o + 1, none⟩ = some u') ∧ Lk lo w a u ∧ Lk lo w a' u' := by
  obtain ⟨b, sl, e, h2, hc, us, hr, hps⟩ := h.cells
  rw [hp] at hps
  obtain ⟨u, us', rfl, hu, u', us'', rfl, hu', rfl⟩ := hps
  obtain ⟨g, o, c, rfl, c1, c2, g1, g2, g3, g4⟩ := hr.two
  exact ⟨b, g, o, c, u, u', e, h2, g2, c1, c2, fun W hW => ⟨(hc W hW).1, (hc W hW).2.1, (hc W hW).2.2, (hW.cell (p := ⟨g, o, none⟩) g2).trans g3, (hW.cell (p := ⟨g, o + 1, none⟩) g2).trans g4⟩, hu, hu'⟩

theorem newKn_any (lo : Nat) (op n : Int) (sl u : Value) (a : Tm) (w : World) (hlo : lo ≤ w.heap.size) (hr : Rv lo w.heap.size w sl [u]) (hu : Lk lo w a u) (hs : a.size ≤ 140737488355328) :
    Calls Tryz.prog 155 #[.int .i64 op, .int .i64 n, sl] w (LkAns lo w (.know op n a)) :=
  (newLk_1 lo op n sl u a w hlo hr hu hs).mono fun _ _ ⟨b, he, ⟨h1, h2⟩, hb⟩ => ⟨b, he, ⟨u, h1, h2⟩, hb⟩

set_option maxRecDepth 100000 in
set_option maxHeartbeats 16000000 in
theorem after_any (lo : Nat) (a : Tm) (v : Value) (ha : a.size ≤ 40) : ∀ (c : Tm) (v' : Value) (w : World), lo ≤ w.heap.size → Lk lo w a v → Lk lo w c v' → quietT c → c.size ≤ 40 →
    Calls Tryz.prog 120 #[v, v'] w (LkAns lo w (pushT a c)) := by
  intro c
  induction c with
  | leaf op n =>
    intro v' w hlo h h' hq hs
    have HI := Lib.hid (implies_any lo v v' a (.leaf op n) w hlo h h' (by simp only [Tm.size]; omega))
    unfold LkAns at HI
    obtain ⟨b, sl, rfl, hbl, hc, -⟩ := h'.cells
    have H' := Lib.hid h'
    obtain ⟨ba, rfl, -⟩ := h.ptr
    have c0 := (hc w (Below.refl _ _)).1
    clear hc h h' hlo hs
    rcases hq with rfl | ⟨rfl, rfl⟩
    · rw [show pushT a (.leaf 1 n) = .deny (.joint 4 a (.deny (.leaf 1 n))) from if_pos rfl]
      rw [show (Tm.leaf 1 n).op = 1 from rfl] at c0
      go_enter Tryz.func120, Tryz.ntmps120
      go_wp2_with fail
      refine HI.out.mono ?_
      rintro e w1 ⟨b1, rfl, hl, hb1⟩
      have H1 := Lib.hid hl
      have B1 := Lib.hid hb1
      clear hl hb1 c0
      go_wp2
      go_ret
      exact ⟨_, rfl, H1.out, B1.out⟩
    · rw [show pushT a (.leaf 2 0) = .leaf 2 0 from if_neg (by decide)]
      rw [show (Tm.leaf 2 0).op = 2 from rfl] at c0
      clear HI
      go_enter Tryz.func120, Tryz.ntmps120
      go_wp2
      go_ret
      exact ⟨_, rfl, H'.out, Below.refl _ _⟩
  | deny c ih =>
    intro v' w hlo h h' hq hs
    obtain ⟨b, g, o, cc, u, rfl, hbl, hgl, hc1, hc2, hcs, hu⟩ := h'.part1 (a := c) rfl
    unfold maxLen at hc2
    have hsc : c.size ≤ 40 := by simp only [Tm.size] at hs; omega
    have hpb := push_big (a := a) (c := c) ha hsc
    have KI := Lib.hid (ih u w hlo h hu hq hsc)
    have KA := Lib.hid (fun p W (hW : Below w.heap.size w W) hp => and_any lo v p a (pushT a c) W (Nat.le_trans hlo hW.size) (h.below hW) hp (by omega) hpb)
    have hsz : (Tm.joint 4 a (pushT a c)).size ≤ 140737488355328 := by have := push_big (a := a) (c := .deny c) ha hs; simp only [pushT, Tm.size] at this ⊢; omega
    have KD := Lib.hid (fun p W (hW : Below w.heap.size w W) hp => denied_any lo p (.joint 4 a (pushT a c)) W (Nat.le_trans hlo hW.size) hp hsz)
    unfold LkAns at KI KA KD
    obtain ⟨ba, rfl, -⟩ := h.ptr
    obtain ⟨bu, rfl, -⟩ := hu.ptr
    rw [show pushT a (.deny c) = .deny (.joint 4 a (pushT a c)) from rfl]
    have HC := Lib.hid hcs
    obtain ⟨c0, c1, c2, c3⟩ := hcs w (Below.refl _ _)
    rw [show (Tm.deny c).op = 3 from rfl] at c0
    clear hcs h h' hu ih hlo hs hsc hpb hsz hq
    go_enter Tryz.func120, Tryz.ntmps120
    go_wp2_with fail
    refine KI.out.mono ?_
    rintro e w1 ⟨b1, rfl, hl, hb1⟩
    have H1 := Lib.hid hl
    have B1 := Lib.hid hb1
    clear hl hb1 c0 c1 c2 c3
    have c0 := (HC.out w1 B1.out).1
    rw [show (Tm.deny c).op = 3 from rfl] at c0
    go_wp2_with fail
    refine (KA.out _ _ B1.out H1.out).mono ?_
    rintro e w2 ⟨b2, rfl, hl, hb2⟩
    have H2 := Lib.hid hl
    have B2 := Lib.hid (B1.out.trans (hb2.mono B1.out.size))
    clear hl hb2 c0
    go_wp2_with fail
    refine (KD.out _ _ B2.out H2.out).mono ?_
    rintro e w3 ⟨b3, rfl, hl, hb3⟩
    have H3 := Lib.hid hl
    have B3 := Lib.hid (B2.out.trans (hb3.mono B2.out.size))
    clear hl hb3
    go_wp2
    go_ret
    exact ⟨_, rfl, H3.out, B3.out⟩
  | joint op c d ihc ihd =>
    intro v' w hlo h h' hq hs
    obtain ⟨rfl, hqc, hqd⟩ := hq
    obtain ⟨b, g, o, cc, u, u', rfl, hbl, hgl, hc1, hc2, hcs, hu, hu'⟩ := h'.part2 (a := c) (a' := d) rfl
    unfold maxLen at hc2
    have hsc : c.size ≤ 40 := by simp only [Tm.size] at hs; omega
    have hsd : d.size ≤ 40 := by simp only [Tm.size] at hs; omega
    have hpc := push_big (a := a) (c := c) ha hsc
    have hpd := push_big (a := a) (c := d) ha hsd
    have KI := Lib.hid (ihc u w hlo h hu hqc hsc)
    have KJ := Lib.hid (fun W (hW : Below w.heap.size w W) => ihd u' W (Nat.le_trans hlo hW.size) (h.below hW) (hu'.below hW) hqd hsd)
    have KA := Lib.hid (fun p q W (hW : Below w.heap.size w W) hp hq => and_any lo p q (pushT a c) (pushT a d) W (Nat.le_trans hlo hW.size) hp hq hpc hpd)
    unfold LkAns at KI KJ KA
    obtain ⟨ba, rfl, -⟩ := h.ptr
    obtain ⟨bu, rfl, -⟩ := hu.ptr
    obtain ⟨bu', rfl, -⟩ := hu'.ptr
    rw [show pushT a (.joint 4 c d) = .joint 4 (pushT a c) (pushT a d) from rfl]
    have HC := Lib.hid hcs
    obtain ⟨c0, c1, c2, c3, c4⟩ := hcs w (Below.refl _ _)
    rw [show (Tm.joint 4 c d).op = 4 from rfl] at c0
    clear hcs h h' hu hu' ihc ihd hlo hs hsc hsd hpc hpd hqc hqd
    go_enter Tryz.func120, Tryz.ntmps120
    go_wp2_with fail
    refine KI.out.mono ?_
    rintro e w1 ⟨b1, rfl, hl, hb1⟩
    have H1 := Lib.hid hl
    have B1 := Lib.hid hb1
    clear hl hb1 c0 c1 c2 c3 c4
    obtain ⟨c0, c1, c2, c3, c4⟩ := HC.out w1 B1.out
    rw [show (Tm.joint 4 c d).op = 4 from rfl] at c0
    go_wp2_with fail
    refine (KJ.out _ B1.out).mono ?_
    rintro e w2 ⟨b2, rfl, hl, hb2⟩
    have H2 := Lib.hid hl
    have H1' := Lib.hid (H1.out.below hb2)
    have B2 := Lib.hid (B1.out.trans (hb2.mono B1.out.size))
    clear hl hb2 c0 c1 c2 c3 c4
    go_wp2_with fail
    refine (KA.out _ _ _ B2.out H1'.out H2.out).mono ?_
    rintro e w3 ⟨b3, rfl, hl, hb3⟩
    have H3 := Lib.hid hl
    have B3 := Lib.hid (B2.out.trans (hb3.mono B2.out.size))
    clear hl hb3
    go_wp2
    go_ret
    exact ⟨_, rfl, H3.out, B3.out⟩
  | know op n c ih =>
    intro v' w hlo h h' hq hs
    obtain ⟨hop, hqc⟩ := hq
    obtain ⟨b, g, o, cc, u, rfl, hbl, hgl, hc1, hc2, hcs, hu⟩ := h'.part1 (a := c) rfl
    unfold maxLen at hc2
    have hsc : c.size ≤ 40 := by simp only [Tm.size] at hs; omega
    have hpb := push_size (a := a) ha (.know op n c)
    have hpc := push_big (a := a) (c := c) ha hsc
    have hpw := push_big (a := a) (c := .know op n c) ha hs
    have KI := Lib.hid (ih u w hlo h hu hqc hsc)
    have hpn : ∀ k, (Tm.know k n (pushT a c)).size ≤ 140737488355328 := fun k => by
      have h1 := push_size (a := a) ha c
      have h2 : 2 ^ c.size ≤ 2 ^ 39 := Nat.pow_le_pow_right (by decide) (by simp only [Tm.size] at hs; omega)
      have h3 : (2 : Nat) ^ 39 = 549755813888 := by decide
      simp only [Tm.size]; omega
    have hps : (pushT a c).size ≤ 54975581388800 := by
      have h1 := push_size (a := a) ha c
      have h2 : 2 ^ c.size ≤ 2 ^ 39 := Nat.pow_le_pow_right (by decide) (by simp only [Tm.size] at hs; omega)
      have h3 : (2 : Nat) ^ 39 = 549755813888 := by decide
      omega
    have KN := Lib.hid (fun k sl p t W (hW : Below w.heap.size w W) hr hp ht => newKn_any lo k n sl p t W (Nat.le_trans hlo hW.size) hr hp ht)
    have KA := Lib.hid (fun p q t t' W (hW : Below w.heap.size w W) hp hq hs hs' => and_any lo p q t t' W (Nat.le_trans hlo hW.size) hp hq hs hs')
    have KD := Lib.hid (fun p t W (hW : Below w.heap.size w W) hp hs => denied_any lo p t W (Nat.le_trans hlo hW.size) hp hs)
    have KM := Lib.hid (fun p t W (hW : Below w.heap.size w W) hp hs => implies_any lo v p a t W (Nat.le_trans hlo hW.size) (h.below hW) hp hs)
    unfold LkAns at KI KN KA KD KM
    have HV := Lib.hid (fun W (hW : Below w.heap.size w W) => h.below hW)
    obtain ⟨ba, rfl, -⟩ := h.ptr
    obtain ⟨bu, rfl, -⟩ := hu.ptr
    have HC := Lib.hid hcs
    have HLO := Lib.hid hlo
    have HPS := Lib.hid hps
    have HA := Lib.hid ha
    obtain ⟨c0, c1, c2, c3⟩ := hcs w (Below.refl _ _)
    clear hcs h h' hu ih hlo hs hsc hpb hpc hpw hqc hpn hps
    rcases hop with rfl | rfl | rfl
    · rw [show pushT a (.know 5 n c) = .deny (.joint 4 a (.deny (.know 5 n (pushT a c)))) from if_neg (by decide)]
      rw [show (Tm.know 5 n c).op = 5 from rfl] at c0
      rw [show (Tm.know 5 n c).num = n from rfl] at c1
      go_enter Tryz.func120, Tryz.ntmps120
      go_wp2_with fail
      refine KI.out.mono ?_
      rintro e w1 ⟨b1, rfl, hl, hb1⟩
      have H1 := Lib.hid hl
      have B1 := Lib.hid hb1
      have HCW := Lib.hid (fun W (h : Below w1.heap.size w1 W) => HC.out W (hb1.trans (h.mono hb1.size)))
      clear hl hb1 c0 c1 c2 c3
      obtain ⟨c0, -⟩ := HC.out w1 B1.out
      rw [show (Tm.know 5 n c).op = 5 from rfl] at c0
      go_wp2
      clear c0
      refine regionL (fun W => Below w1.heap.size w1 W) [] (by kernel_rfl) (Below.refl _ _).drew (fun hHeld => ?_)
      refine takeA (i := 0) (v := .pointer (some ⟨ba, 0, none⟩)) 77 rfl rfl (by kernel_rfl) (by kernel_rfl) (by kernel_rfl) (by kernel_rfl) (fun _ _ _ h => h) (Or.inl ⟨by rfl, by intro W hSw; go_simp⟩) hHeld ?_
      simp only [Act.put, List.setIfInBounds_toArray, List.set_cons_zero, List.set_cons_succ]
      refine takeA (i := 1) (v := .pointer (some ⟨b, 0, none⟩)) 78 rfl rfl (by kernel_rfl) (by kernel_rfl) (by kernel_rfl) (by kernel_rfl) (fun _ _ _ h => h) (Or.inl ⟨by rfl, by intro W hSw; go_simp⟩) hHeld ?_
      simp only [Act.put, List.setIfInBounds_toArray, List.set_cons_zero, List.set_cons_succ]
      refine takeA (i := 2) (v := .pointer (some ⟨b, 0, none⟩)) 79 rfl rfl (by kernel_rfl) (by kernel_rfl) (by kernel_rfl) (by kernel_rfl) (fun _ _ _ h => h) (Or.inl ⟨by rfl, by intro W hSw; go_simp⟩) hHeld ?_
      simp only [Act.put, List.setIfInBounds_toArray, List.set_cons_zero, List.set_cons_succ]
      refine takeA (i := 3) (v := .pointer (some ⟨b, 0, none⟩)) 80 rfl rfl (by kernel_rfl) (by kernel_rfl) (by kernel_rfl) (by kernel_rfl) (fun _ _ _ h => h) (Or.inl ⟨by rfl, by intro W hSw; go_simp⟩) hHeld ?_
      simp only [Act.put, List.setIfInBounds_toArray, List.set_cons_zero, List.set_cons_succ]
      refine takeA (i := 4) (v := .int .i64 5) 81 rfl rfl (by kernel_rfl) (by kernel_rfl) (by kernel_rfl) (by kernel_rfl) (fun _ _ _ h => h) (Or.inl ⟨by rfl, by intro W hSw; have c1 := (HCW.out _ hSw).1; go_simp; rfl⟩) hHeld ?_
      simp only [Act.put, List.setIfInBounds_toArray, List.set_cons_zero, List.set_cons_succ]
      refine takeA (i := 5) (v := .pointer (some ⟨b, 0, none⟩)) 82 rfl rfl (by kernel_rfl) (by kernel_rfl) (by kernel_rfl) (by kernel_rfl) (fun _ _ _ h => h) (Or.inl ⟨by rfl, by intro W hSw; go_simp⟩) hHeld ?_
      simp only [Act.put, List.setIfInBounds_toArray, List.set_cons_zero, List.set_cons_succ]
      refine takeA (i := 6) (v := .pointer (some ⟨b, 0, none⟩)) 83 rfl rfl (by kernel_rfl) (by kernel_rfl) (by kernel_rfl) (by kernel_rfl) (fun _ _ _ h => h) (Or.inl ⟨by rfl, by intro W hSw; go_simp⟩) hHeld ?_
      simp only [Act.put, List.setIfInBounds_toArray, List.set_cons_zero, List.set_cons_succ]
      refine takeA (i := 7) (v := .pointer (some ⟨b, 1, none⟩)) 84 rfl rfl (by kernel_rfl) (by kernel_rfl) (by kernel_rfl) (by kernel_rfl) (fun _ _ _ h => h) (Or.inl ⟨by rfl, by intro W hSw; go_simp⟩) hHeld ?_
      simp only [Act.put, List.setIfInBounds_toArray, List.set_cons_zero, List.set_cons_succ]
      refine takeA (i := 8) (v := .int .i64 n) 85 rfl rfl (by kernel_rfl) (by kernel_rfl) (by kernel_rfl) (by kernel_rfl) (fun _ _ _ h => h) (Or.inl ⟨by rfl, by intro W hSw; have c1 := (HCW.out _ hSw).2.1; go_simp; rfl⟩) hHeld ?_
      simp only [Act.put, List.setIfInBounds_toArray, List.set_cons_zero, List.set_cons_succ]
      refine takeA (i := 9) (v := .pointer (some ⟨b1, 0, none⟩)) 86 rfl rfl (by kernel_rfl) (by kernel_rfl) (by kernel_rfl) (by kernel_rfl) (fun _ _ _ h => h) (Or.inl ⟨by rfl, by intro W hSw; go_simp⟩) hHeld ?_
      simp only [Act.put, List.setIfInBounds_toArray, List.set_cons_zero, List.set_cons_succ]
      generalize (World.drew _) = wd at hHeld ⊢
      refine onlyL (i := 10) (by kernel_rfl) rfl (by rfl) (fun K hK => ?_)
      go_simp
      have ta : Below w1.heap.size w1 (wd.alloc (.cells #[.pointer (some ⟨b1, 0, none⟩)] 102)) := hHeld.trans ((Below.refl wd.heap.size wd).alloc (Nat.le_refl _) _ |>.mono hHeld.size)
      have hra : Rv lo (wd.alloc (.cells #[.pointer (some ⟨b1, 0, none⟩)] 102)).heap.size (wd.alloc (.cells #[.pointer (some ⟨b1, 0, none⟩)] 102)) (.slice (some ⟨wd.heap.size, 0, none⟩) 1 1) [.pointer (some ⟨b1, 0, none⟩)] := Rv.lit1 (Nat.le_trans HLO.out (Nat.le_trans B1.out.size hHeld.size))
      have HRA := Lib.hid hra
      have HP1 := Lib.hid (H1.out.below ta)
      have TA := Lib.hid ta
      clear hra ta hHeld
      generalize wd.alloc (.cells #[.pointer (some ⟨b1, 0, none⟩)] 102) = wa at *
      refine hK.out _ _ (fun _ => TA.out) (fun _ => ?_)
      clear hK K
      have hHeld := TA.out
      try simp only [Act.put, List.setIfInBounds_toArray, List.set_cons_zero, List.set_cons_succ]
      refine onlyL (i := 11) (by kernel_rfl) rfl (by rfl) (fun K hK => ?_)
      go_simp
      refine (KN.out 5 _ _ (pushT a c) _ (B1.out.trans (TA.out.mono B1.out.size)) HRA.out HP1.out (by have := HPS.out; omega)).mono ?_
      rintro e w2 ⟨b2, rfl, hl, hb2⟩
      have t2 : Below w1.heap.size w1 w2 := TA.out.trans (hb2.mono TA.out.size)
      have H2 := Lib.hid hl
      clear hl hb2 hHeld
      refine hK.out _ _ (fun _ => t2) (fun _ => ?_)
      clear hK K
      have hHeld := t2
      try simp only [Act.put, List.setIfInBounds_toArray, List.set_cons_zero, List.set_cons_succ]
      refine onlyL (i := 12) (by kernel_rfl) rfl (by rfl) (fun K hK => ?_)
      go_simp
      refine (KM.out _ (.know 5 n (pushT a c)) _ (B1.out.trans (t2.mono B1.out.size)) H2.out (by have := HPS.out; have := HA.out; simp only [Tm.size]; omega)).mono ?_
      rintro e w3 ⟨b3, rfl, hl, hb3⟩
      have t3 : Below w1.heap.size w1 w3 := t2.trans (hb3.mono t2.size)
      have H3 := Lib.hid hl
      clear hl hb3 hHeld
      refine hK.out _ _ (fun _ => t3) (fun _ => ?_)
      clear hK K
      have hHeld := t3
      try simp only [Act.put, List.setIfInBounds_toArray, List.set_cons_zero, List.set_cons_succ]
      refine takeA (i := 13) (v := .pointer (some ⟨b3, 0, none⟩)) 4 rfl rfl (by kernel_rfl) (by kernel_rfl) (by kernel_rfl) (by kernel_rfl) (fun _ _ _ h => h) (Or.inl ⟨by rfl, by intro W hSw; go_simp⟩) hHeld ?_
      simp only [Act.put, List.setIfInBounds_toArray, List.set_cons_zero, List.set_cons_succ]
      clear hHeld
      refine doneL (by kernel_rfl) ?_ _
      try simp only [Act.put, List.setIfInBounds_toArray, List.set_cons_zero, List.set_cons_succ]
      go_wp2
      go_ret
      exact ⟨_, rfl, H3.out, B1.out.trans (t3.mono B1.out.size)⟩
    · rw [show pushT a (.know 6 n c) = .deny (.joint 4 a (.joint 4 (.deny (.know 5 n (pushT a c))) (.deny (.know 5 n (.deny (.joint 4 a (pushT a c))))))) from if_pos rfl]
      rw [show (Tm.know 6 n c).op = 6 from rfl] at c0
      rw [show (Tm.know 6 n c).num = n from rfl] at c1
      go_enter Tryz.func120, Tryz.ntmps120
      go_wp2_with fail
      refine KI.out.mono ?_
      rintro e w1 ⟨b1, rfl, hl, hb1⟩
      have H1 := Lib.hid hl
      have B1 := Lib.hid hb1
      clear hl hb1 c0 c1 c2 c3
      obtain ⟨c0, c1, -⟩ := HC.out w1 B1.out
      rw [show (Tm.know 6 n c).op = 6 from rfl] at c0
      rw [show (Tm.know 6 n c).num = n from rfl] at c1
      have ta : Below w1.heap.size w1 (w1.alloc (.cells #[.pointer (some ⟨b1, 0, none⟩)] 102)) := (Below.refl _ _).alloc (Nat.le_refl _) _
      have HRA : Hid (Rv lo (w1.alloc (.cells #[.pointer (some ⟨b1, 0, none⟩)] 102)).heap.size (w1.alloc (.cells #[.pointer (some ⟨b1, 0, none⟩)] 102)) (.slice (some ⟨w1.heap.size, 0, none⟩) 1 1) [.pointer (some ⟨b1, 0, none⟩)]) := Lib.hid (Rv.lit1 (Nat.le_trans HLO.out B1.out.size))
      have TA := Lib.hid ta
      clear ta
      go_wp2_with fail
      clear c0 c1
      refine (KN.out 5 _ _ (pushT a c) _ (B1.out.trans (TA.out.mono B1.out.size)) HRA.out (H1.out.below TA.out) (by have := HPS.out; omega)).mono ?_
      rintro e w2 ⟨b2, rfl, hl, hb2⟩
      have T2 := Lib.hid (TA.out.trans (hb2.mono TA.out.size))
      have H2 := Lib.hid hl
      have H1 := Lib.hid (H1.out.below T2.out)
      have B2 := Lib.hid (B1.out.trans (T2.out.mono B1.out.size))
      have HCW := Lib.hid (fun W (h : Below w2.heap.size w2 W) => HC.out W (B2.out.trans (h.mono B2.out.size)))
      clear hl hb2 TA HRA
      go_wp2
      refine regionL (fun W => Below w2.heap.size w2 W) [] (by kernel_rfl) (Below.refl _ _).drew (fun hHeld => ?_)
      refine takeA (i := 0) (v := .pointer (some ⟨b, 0, none⟩)) 59 rfl rfl (by kernel_rfl) (by kernel_rfl) (by kernel_rfl) (by kernel_rfl) (fun _ _ _ h => h) (Or.inl ⟨by rfl, by intro W hSw; go_simp⟩) hHeld ?_
      simp only [Act.put, List.setIfInBounds_toArray, List.set_cons_zero, List.set_cons_succ]
      refine takeA (i := 1) (v := .pointer (some ⟨b, 0, none⟩)) 60 rfl rfl (by kernel_rfl) (by kernel_rfl) (by kernel_rfl) (by kernel_rfl) (fun _ _ _ h => h) (Or.inl ⟨by rfl, by intro W hSw; go_simp⟩) hHeld ?_
      simp only [Act.put, List.setIfInBounds_toArray, List.set_cons_zero, List.set_cons_succ]
      refine takeA (i := 2) (v := .pointer (some ⟨b, 1, none⟩)) 61 rfl rfl (by kernel_rfl) (by kernel_rfl) (by kernel_rfl) (by kernel_rfl) (fun _ _ _ h => h) (Or.inl ⟨by rfl, by intro W hSw; go_simp⟩) hHeld ?_
      simp only [Act.put, List.setIfInBounds_toArray, List.set_cons_zero, List.set_cons_succ]
      refine takeA (i := 3) (v := .int .i64 n) 62 rfl rfl (by kernel_rfl) (by kernel_rfl) (by kernel_rfl) (by kernel_rfl) (fun _ _ _ h => h) (Or.inl ⟨by rfl, by intro W hSw; have c1 := (HCW.out _ hSw).2.1; go_simp; rfl⟩) hHeld ?_
      simp only [Act.put, List.setIfInBounds_toArray, List.set_cons_zero, List.set_cons_succ]
      refine takeA (i := 4) (v := .pointer (some ⟨ba, 0, none⟩)) 63 rfl rfl (by kernel_rfl) (by kernel_rfl) (by kernel_rfl) (by kernel_rfl) (fun _ _ _ h => h) (Or.inl ⟨by rfl, by intro W hSw; go_simp⟩) hHeld ?_
      simp only [Act.put, List.setIfInBounds_toArray, List.set_cons_zero, List.set_cons_succ]
      refine takeA (i := 5) (v := .pointer (some ⟨b1, 0, none⟩)) 64 rfl rfl (by kernel_rfl) (by kernel_rfl) (by kernel_rfl) (by kernel_rfl) (fun _ _ _ h => h) (Or.inl ⟨by rfl, by intro W hSw; go_simp⟩) hHeld ?_
      simp only [Act.put, List.setIfInBounds_toArray, List.set_cons_zero, List.set_cons_succ]
      generalize (World.drew _) = wd at hHeld ⊢
      refine onlyL (i := 6) (by kernel_rfl) rfl (by rfl) (fun K hK => ?_)
      go_simp
      refine (KA.out _ _ a (pushT a c) _ (B2.out.trans (hHeld.mono B2.out.size)) (HV.out _ (B2.out.trans (hHeld.mono B2.out.size))) (H1.out.below hHeld) (by have := HA.out; omega) (by have := HPS.out; omega)).mono ?_
      rintro e w3 ⟨b3, rfl, hl, hb3⟩
      have t3 : Below w2.heap.size w2 w3 := hHeld.trans (hb3.mono hHeld.size)
      have H3 := Lib.hid hl
      clear hl hb3 hHeld
      refine hK.out _ _ (fun _ => t3) (fun _ => ?_)
      clear hK K
      have hHeld := t3
      try simp only [Act.put, List.setIfInBounds_toArray, List.set_cons_zero, List.set_cons_succ]
      refine onlyL (i := 7) (by kernel_rfl) rfl (by rfl) (fun K hK => ?_)
      go_simp
      refine (KD.out _ (.joint 4 a (pushT a c)) _ (B2.out.trans (t3.mono B2.out.size)) H3.out (by have := HA.out; have := HPS.out; simp only [Tm.size]; omega)).mono ?_
      rintro e w4 ⟨b4, rfl, hl, hb4⟩
      have t4 : Below w2.heap.size w2 w4 := t3.trans (hb4.mono t3.size)
      have H4 := Lib.hid hl
      clear hl hb4 hHeld
      refine hK.out _ _ (fun _ => t4) (fun _ => ?_)
      clear hK K
      have hHeld := t4
      try simp only [Act.put, List.setIfInBounds_toArray, List.set_cons_zero, List.set_cons_succ]
      refine onlyL (i := 8) (by kernel_rfl) rfl (by rfl) (fun K hK => ?_)
      go_simp
      have ta : Below w2.heap.size w2 (w4.alloc (.cells #[.pointer (some ⟨b4, 0, none⟩)] 102)) := t4.trans ((Below.refl w4.heap.size w4).alloc (Nat.le_refl _) _ |>.mono t4.size)
      have HRA : Hid (Rv lo (w4.alloc (.cells #[.pointer (some ⟨b4, 0, none⟩)] 102)).heap.size (w4.alloc (.cells #[.pointer (some ⟨b4, 0, none⟩)] 102)) (.slice (some ⟨w4.heap.size, 0, none⟩) 1 1) [.pointer (some ⟨b4, 0, none⟩)]) := Lib.hid (Rv.lit1 (Nat.le_trans HLO.out (Nat.le_trans B2.out.size t4.size)))
      have HP4 := Lib.hid (H4.out.below ((Below.refl w4.heap.size w4).alloc (Nat.le_refl _) (.cells #[.pointer (some ⟨b4, 0, none⟩)] 102)))
      have TA := Lib.hid ta
      clear ta hHeld
      generalize w4.alloc (.cells #[.pointer (some ⟨b4, 0, none⟩)] 102) = wa at *
      refine hK.out _ _ (fun _ => TA.out) (fun _ => ?_)
      clear hK K
      have hHeld := TA.out
      try simp only [Act.put, List.setIfInBounds_toArray, List.set_cons_zero, List.set_cons_succ]
      refine onlyL (i := 9) (by kernel_rfl) rfl (by rfl) (fun K hK => ?_)
      go_simp
      refine (KN.out 5 _ _ (.deny (.joint 4 a (pushT a c))) _ (B2.out.trans (TA.out.mono B2.out.size)) HRA.out HP4.out (by have := HA.out; have := HPS.out; simp only [Tm.size]; omega)).mono ?_
      rintro e w5 ⟨b5, rfl, hl, hb5⟩
      have t5 : Below w2.heap.size w2 w5 := TA.out.trans (hb5.mono TA.out.size)
      have H5 := Lib.hid hl
      clear hl hb5 hHeld
      refine hK.out _ _ (fun _ => t5) (fun _ => ?_)
      clear hK K
      have hHeld := t5
      try simp only [Act.put, List.setIfInBounds_toArray, List.set_cons_zero, List.set_cons_succ]
      refine takeA (i := 10) (v := .pointer (some ⟨b5, 0, none⟩)) 7 rfl rfl (by kernel_rfl) (by kernel_rfl) (by kernel_rfl) (by kernel_rfl) (fun _ _ _ h => h) (Or.inl ⟨by rfl, by intro W hSw; go_simp⟩) hHeld ?_
      simp only [Act.put, List.setIfInBounds_toArray, List.set_cons_zero, List.set_cons_succ]
      clear hHeld
      refine doneL (by kernel_rfl) ?_ _
      try simp only [Act.put, List.setIfInBounds_toArray, List.set_cons_zero, List.set_cons_succ]
      have H2 := Lib.hid (H2.out.below t5)
      have B5 := Lib.hid (B2.out.trans (t5.mono B2.out.size))
      clear t3 t4 t5
      go_wp2_with fail
      refine (KD.out _ (.know 5 n (pushT a c)) _ B5.out H2.out (by have := HPS.out; simp only [Tm.size]; omega)).mono ?_
      rintro e w6 ⟨b6, rfl, hl, hb6⟩
      have H6 := Lib.hid hl
      have B6 := Lib.hid (B5.out.trans (hb6.mono B5.out.size))
      have H5 := Lib.hid (H5.out.below hb6)
      clear hl hb6
      go_wp2_with fail
      refine (KD.out _ (.know 5 n (.deny (.joint 4 a (pushT a c)))) _ B6.out H5.out (by have := HA.out; have := HPS.out; simp only [Tm.size]; omega)).mono ?_
      rintro e w7 ⟨b7, rfl, hl, hb7⟩
      have H7 := Lib.hid hl
      have B7 := Lib.hid (B6.out.trans (hb7.mono B6.out.size))
      have H6 := Lib.hid (H6.out.below hb7)
      clear hl hb7
      go_wp2_with fail
      refine (KA.out _ _ (.deny (.know 5 n (pushT a c))) (.deny (.know 5 n (.deny (.joint 4 a (pushT a c))))) _ B7.out H6.out H7.out (by have := HPS.out; simp only [Tm.size]; omega) (by have := HA.out; have := HPS.out; simp only [Tm.size]; omega)).mono ?_
      rintro e w8 ⟨b8, rfl, hl, hb8⟩
      have H8 := Lib.hid hl
      have B8 := Lib.hid (B7.out.trans (hb8.mono B7.out.size))
      clear hl hb8
      go_wp2_with fail
      refine (KA.out _ _ a (.joint 4 (.deny (.know 5 n (pushT a c))) (.deny (.know 5 n (.deny (.joint 4 a (pushT a c)))))) _ B8.out (HV.out _ B8.out) H8.out (by have := HA.out; omega) (by have := HA.out; have := HPS.out; simp only [Tm.size]; omega)).mono ?_
      rintro e w9 ⟨b9, rfl, hl, hb9⟩
      have H9 := Lib.hid hl
      have B9 := Lib.hid (B8.out.trans (hb9.mono B8.out.size))
      clear hl hb9
      go_wp2_with fail
      refine (KD.out _ (.joint 4 a (.joint 4 (.deny (.know 5 n (pushT a c))) (.deny (.know 5 n (.deny (.joint 4 a (pushT a c))))))) _ B9.out H9.out (by have := HA.out; have := HPS.out; simp only [Tm.size]; omega)).mono ?_
      rintro e w10 ⟨b10, rfl, hl, hb10⟩
      have H10 := Lib.hid hl
      have B10 := Lib.hid (B9.out.trans (hb10.mono B9.out.size))
      clear hl hb10
      go_wp2
      go_ret
      exact ⟨_, rfl, H10.out, B10.out⟩
    · rw [show pushT a (.know 7 n c) = .deny (.joint 4 a (.deny (.know 7 n (pushT a c)))) from if_neg (by decide)]
      rw [show (Tm.know 7 n c).op = 7 from rfl] at c0
      rw [show (Tm.know 7 n c).num = n from rfl] at c1
      go_enter Tryz.func120, Tryz.ntmps120
      go_wp2_with fail
      refine KI.out.mono ?_
      rintro e w1 ⟨b1, rfl, hl, hb1⟩
      have H1 := Lib.hid hl
      have B1 := Lib.hid hb1
      have HCW := Lib.hid (fun W (h : Below w1.heap.size w1 W) => HC.out W (hb1.trans (h.mono hb1.size)))
      clear hl hb1 c0 c1 c2 c3
      obtain ⟨c0, -⟩ := HC.out w1 B1.out
      rw [show (Tm.know 7 n c).op = 7 from rfl] at c0
      go_wp2
      clear c0
      refine regionL (fun W => Below w1.heap.size w1 W) [] (by kernel_rfl) (Below.refl _ _).drew (fun hHeld => ?_)
      refine takeA (i := 0) (v := .pointer (some ⟨ba, 0, none⟩)) 77 rfl rfl (by kernel_rfl) (by kernel_rfl) (by kernel_rfl) (by kernel_rfl) (fun _ _ _ h => h) (Or.inl ⟨by rfl, by intro W hSw; go_simp⟩) hHeld ?_
      simp only [Act.put, List.setIfInBounds_toArray, List.set_cons_zero, List.set_cons_succ]
      refine takeA (i := 1) (v := .pointer (some ⟨b, 0, none⟩)) 78 rfl rfl (by kernel_rfl) (by kernel_rfl) (by kernel_rfl) (by kernel_rfl) (fun _ _ _ h => h) (Or.inl ⟨by rfl, by intro W hSw; go_simp⟩) hHeld ?_
      simp only [Act.put, List.setIfInBounds_toArray, List.set_cons_zero, List.set_cons_succ]
      refine takeA (i := 2) (v := .pointer (some ⟨b, 0, none⟩)) 79 rfl rfl (by kernel_rfl) (by kernel_rfl) (by kernel_rfl) (by kernel_rfl) (fun _ _ _ h => h) (Or.inl ⟨by rfl, by intro W hSw; go_simp⟩) hHeld ?_
      simp only [Act.put, List.setIfInBounds_toArray, List.set_cons_zero, List.set_cons_succ]
      refine takeA (i := 3) (v := .pointer (some ⟨b, 0, none⟩)) 80 rfl rfl (by kernel_rfl) (by kernel_rfl) (by kernel_rfl) (by kernel_rfl) (fun _ _ _ h => h) (Or.inl ⟨by rfl, by intro W hSw; go_simp⟩) hHeld ?_
      simp only [Act.put, List.setIfInBounds_toArray, List.set_cons_zero, List.set_cons_succ]
      refine takeA (i := 4) (v := .int .i64 7) 81 rfl rfl (by kernel_rfl) (by kernel_rfl) (by kernel_rfl) (by kernel_rfl) (fun _ _ _ h => h) (Or.inl ⟨by rfl, by intro W hSw; have c1 := (HCW.out _ hSw).1; go_simp; rfl⟩) hHeld ?_
      simp only [Act.put, List.setIfInBounds_toArray, List.set_cons_zero, List.set_cons_succ]
      refine takeA (i := 5) (v := .pointer (some ⟨b, 0, none⟩)) 82 rfl rfl (by kernel_rfl) (by kernel_rfl) (by kernel_rfl) (by kernel_rfl) (fun _ _ _ h => h) (Or.inl ⟨by rfl, by intro W hSw; go_simp⟩) hHeld ?_
      simp only [Act.put, List.setIfInBounds_toArray, List.set_cons_zero, List.set_cons_succ]
      refine takeA (i := 6) (v := .pointer (some ⟨b, 0, none⟩)) 83 rfl rfl (by kernel_rfl) (by kernel_rfl) (by kernel_rfl) (by kernel_rfl) (fun _ _ _ h => h) (Or.inl ⟨by rfl, by intro W hSw; go_simp⟩) hHeld ?_
      simp only [Act.put, List.setIfInBounds_toArray, List.set_cons_zero, List.set_cons_succ]
      refine takeA (i := 7) (v := .pointer (some ⟨b, 1, none⟩)) 84 rfl rfl (by kernel_rfl) (by kernel_rfl) (by kernel_rfl) (by kernel_rfl) (fun _ _ _ h => h) (Or.inl ⟨by rfl, by intro W hSw; go_simp⟩) hHeld ?_
      simp only [Act.put, List.setIfInBounds_toArray, List.set_cons_zero, List.set_cons_succ]
      refine takeA (i := 8) (v := .int .i64 n) 85 rfl rfl (by kernel_rfl) (by kernel_rfl) (by kernel_rfl) (by kernel_rfl) (fun _ _ _ h => h) (Or.inl ⟨by rfl, by intro W hSw; have c1 := (HCW.out _ hSw).2.1; go_simp; rfl⟩) hHeld ?_
      simp only [Act.put, List.setIfInBounds_toArray, List.set_cons_zero, List.set_cons_succ]
      refine takeA (i := 9) (v := .pointer (some ⟨b1, 0, none⟩)) 86 rfl rfl (by kernel_rfl) (by kernel_rfl) (by kernel_rfl) (by kernel_rfl) (fun _ _ _ h => h) (Or.inl ⟨by rfl, by intro W hSw; go_simp⟩) hHeld ?_
      simp only [Act.put, List.setIfInBounds_toArray, List.set_cons_zero, List.set_cons_succ]
      generalize (World.drew _) = wd at hHeld ⊢
      refine onlyL (i := 10) (by kernel_rfl) rfl (by rfl) (fun K hK => ?_)
      go_simp
      have ta : Below w1.heap.size w1 (wd.alloc (.cells #[.pointer (some ⟨b1, 0, none⟩)] 102)) := hHeld.trans ((Below.refl wd.heap.size wd).alloc (Nat.le_refl _) _ |>.mono hHeld.size)
      have hra : Rv lo (wd.alloc (.cells #[.pointer (some ⟨b1, 0, none⟩)] 102)).heap.size (wd.alloc (.cells #[.pointer (some ⟨b1, 0, none⟩)] 102)) (.slice (some ⟨wd.heap.size, 0, none⟩) 1 1) [.pointer (some ⟨b1, 0, none⟩)] := Rv.lit1 (Nat.le_trans HLO.out (Nat.le_trans B1.out.size hHeld.size))
      have HRA := Lib.hid hra
      have HP1 := Lib.hid (H1.out.below ta)
      have TA := Lib.hid ta
      clear hra ta hHeld
      generalize wd.alloc (.cells #[.pointer (some ⟨b1, 0, none⟩)] 102) = wa at *
      refine hK.out _ _ (fun _ => TA.out) (fun _ => ?_)
      clear hK K
      have hHeld := TA.out
      try simp only [Act.put, List.setIfInBounds_toArray, List.set_cons_zero, List.set_cons_succ]
      refine onlyL (i := 11) (by kernel_rfl) rfl (by rfl) (fun K hK => ?_)
      go_simp
      refine (KN.out 7 _ _ (pushT a c) _ (B1.out.trans (TA.out.mono B1.out.size)) HRA.out HP1.out (by have := HPS.out; omega)).mono ?_
      rintro e w2 ⟨b2, rfl, hl, hb2⟩
      have t2 : Below w1.heap.size w1 w2 := TA.out.trans (hb2.mono TA.out.size)
      have H2 := Lib.hid hl
      clear hl hb2 hHeld
      refine hK.out _ _ (fun _ => t2) (fun _ => ?_)
      clear hK K
      have hHeld := t2
      try simp only [Act.put, List.setIfInBounds_toArray, List.set_cons_zero, List.set_cons_succ]
      refine onlyL (i := 12) (by kernel_rfl) rfl (by rfl) (fun K hK => ?_)
      go_simp
      refine (KM.out _ (.know 7 n (pushT a c)) _ (B1.out.trans (t2.mono B1.out.size)) H2.out (by have := HPS.out; have := HA.out; simp only [Tm.size]; omega)).mono ?_
      rintro e w3 ⟨b3, rfl, hl, hb3⟩
      have t3 : Below w1.heap.size w1 w3 := t2.trans (hb3.mono t2.size)
      have H3 := Lib.hid hl
      clear hl hb3 hHeld
      refine hK.out _ _ (fun _ => t3) (fun _ => ?_)
      clear hK K
      have hHeld := t3
      try simp only [Act.put, List.setIfInBounds_toArray, List.set_cons_zero, List.set_cons_succ]
      refine takeA (i := 13) (v := .pointer (some ⟨b3, 0, none⟩)) 4 rfl rfl (by kernel_rfl) (by kernel_rfl) (by kernel_rfl) (by kernel_rfl) (fun _ _ _ h => h) (Or.inl ⟨by rfl, by intro W hSw; go_simp⟩) hHeld ?_
      simp only [Act.put, List.setIfInBounds_toArray, List.set_cons_zero, List.set_cons_succ]
      clear hHeld
      refine doneL (by kernel_rfl) ?_ _
      try simp only [Act.put, List.setIfInBounds_toArray, List.set_cons_zero, List.set_cons_succ]
      go_wp2
      go_ret
      exact ⟨_, rfl, H3.out, B1.out.trans (t3.mono B1.out.size)⟩
end Go.Proofs.YtodjohdbngbpaaaGreat

/-
  Contract of the method term of a linked formula: the term itself. Condition: the operations fit the forms.
-/
namespace Go.Proofs.YtodjohdbngbpaaaGreat
open Go.RowKit Go.WideShapes
open Go Go.Deep
set_option linter.unusedSimpArgs false

set_option maxRecDepth 100000 in
set_option maxHeartbeats 16000000 in
theorem term_any (lo : Nat) : ∀ (t : Tm) (v : Value) (w : World), Lk lo w t v → t.ops →
    Calls Tryz.prog 74 #[v] w fun e w' => e = .returned (tv t) ∧ Below w.heap.size w w' := by
  have hz0 : (0 : Nat) + 1 ≤ maxLen := by decide
  have hz1 : (0 + 1) * 16 ≤ 140737488355328 := by decide
  have hy1 : (1 : Nat) + 1 ≤ maxLen := by decide
  have hy2 : (1 + 1) * 16 ≤ 140737488355328 := by decide
  intro t
  induction t with
  | leaf op n =>
    intro v w h ho
    obtain ⟨b, sl, rfl, hbl, hcs, us, hr, rfl⟩ := h.cells
    obtain ⟨pa, pc, rfl, -⟩ := hr
    have KT := Lib.hid (fun v W => newTerm_0 op n v W ho)
    have HC := Lib.hid hcs
    have B0 := Lib.hid (Below.refl w.heap.size w)
    obtain ⟨c0, c1, c2⟩ := hcs w (Below.refl _ _)
    clear hcs h ho hz0 hz1 hy1 hy2 c0 c1
    generalize tv (.leaf op n) = R at *
    go_enter Tryz.func74, Tryz.ntmps74
    go_wp2
    clear c2
    refine wp_loop_rounds 1 ?_
    rw [rounds_succ]
    go_wp2
    have HCW := Lib.hid (fun U (h : Below w.heap.size w U) => HC.out U (B0.out.trans (h.mono B0.out.size)))
    refine regionL (fun U => Below w.heap.size w U) [] (by kernel_rfl) (Below.refl _ _).drew (fun hHeld => ?_)
    refine takeA (i := 0) (v := .pointer (some ⟨b, 0, none⟩)) 21 rfl rfl (by kernel_rfl) (by kernel_rfl) (by kernel_rfl) (by kernel_rfl) (fun _ _ _ h => h) (Or.inl ⟨by rfl, by intro W hSw; go_simp⟩) hHeld ?_
    simp only [Act.put, List.setIfInBounds_toArray, List.set_cons_zero, List.set_cons_succ]
    refine takeA (i := 1) (v := .pointer (some ⟨b, 0, none⟩)) 22 rfl rfl (by kernel_rfl) (by kernel_rfl) (by kernel_rfl) (by kernel_rfl) (fun _ _ _ h => h) (Or.inl ⟨by rfl, by intro W hSw; go_simp⟩) hHeld ?_
    simp only [Act.put, List.setIfInBounds_toArray, List.set_cons_zero, List.set_cons_succ]
    refine takeA (i := 2) (v := .pointer (some ⟨b, 0, none⟩)) 23 rfl rfl (by kernel_rfl) (by kernel_rfl) (by kernel_rfl) (by kernel_rfl) (fun _ _ _ h => h) (Or.inl ⟨by rfl, by intro W hSw; go_simp⟩) hHeld ?_
    simp only [Act.put, List.setIfInBounds_toArray, List.set_cons_zero, List.set_cons_succ]
    refine takeA (i := 3) (v := .int .i64 op) 24 rfl rfl (by kernel_rfl) (by kernel_rfl) (by kernel_rfl) (by kernel_rfl) (fun _ _ _ h => h) (Or.inl ⟨by rfl, by intro W hSw; have c1 := (HCW.out _ hSw).1; go_simp; rfl⟩) hHeld ?_
    simp only [Act.put, List.setIfInBounds_toArray, List.set_cons_zero, List.set_cons_succ]
    refine takeA (i := 4) (v := .pointer (some ⟨b, 0, none⟩)) 25 rfl rfl (by kernel_rfl) (by kernel_rfl) (by kernel_rfl) (by kernel_rfl) (fun _ _ _ h => h) (Or.inl ⟨by rfl, by intro W hSw; go_simp⟩) hHeld ?_
    simp only [Act.put, List.setIfInBounds_toArray, List.set_cons_zero, List.set_cons_succ]
    refine takeA (i := 5) (v := .pointer (some ⟨b, 0, none⟩)) 26 rfl rfl (by kernel_rfl) (by kernel_rfl) (by kernel_rfl) (by kernel_rfl) (fun _ _ _ h => h) (Or.inl ⟨by rfl, by intro W hSw; go_simp⟩) hHeld ?_
    simp only [Act.put, List.setIfInBounds_toArray, List.set_cons_zero, List.set_cons_succ]
    refine takeA (i := 6) (v := .pointer (some ⟨b, 1, none⟩)) 27 rfl rfl (by kernel_rfl) (by kernel_rfl) (by kernel_rfl) (by kernel_rfl) (fun _ _ _ h => h) (Or.inl ⟨by rfl, by intro W hSw; go_simp⟩) hHeld ?_
    simp only [Act.put, List.setIfInBounds_toArray, List.set_cons_zero, List.set_cons_succ]
    refine takeA (i := 7) (v := .int .i64 n) 28 rfl rfl (by kernel_rfl) (by kernel_rfl) (by kernel_rfl) (by kernel_rfl) (fun _ _ _ h => h) (Or.inl ⟨by rfl, by intro W hSw; have c1 := (HCW.out _ hSw).2.1; go_simp; rfl⟩) hHeld ?_
    simp only [Act.put, List.setIfInBounds_toArray, List.set_cons_zero, List.set_cons_succ]
    refine takeA (i := 8) (v := .slice none 0 0) 29 rfl rfl (by kernel_rfl) (by kernel_rfl) (by kernel_rfl) (by kernel_rfl) (fun _ _ _ h => h) (Or.inl ⟨by rfl, by intro W hSw; go_simp⟩) hHeld ?_
    simp only [Act.put, List.setIfInBounds_toArray, List.set_cons_zero, List.set_cons_succ]
    generalize (World.drew _) = wd at hHeld ⊢
    refine onlyL (i := 9) (by kernel_rfl) rfl (by rfl) (fun K hK => ?_)
    go_simp
    refine (KT.out _ _).mono ?_
    rintro e w9 ⟨rfl, rfl⟩
    have t9 := hHeld
    clear hHeld
    refine hK.out _ _ (fun _ => t9) (fun _ => ?_)
    clear hK K
    have hHeld := t9
    try simp only [Act.put, List.setIfInBounds_toArray, List.set_cons_zero, List.set_cons_succ]
    refine takeA (i := 10) (v := R) 2 rfl rfl (by kernel_rfl) (by kernel_rfl) (by kernel_rfl) (by kernel_rfl) (fun _ _ _ h => h) (Or.inl ⟨by rfl, by intro W hSw; go_simp⟩) hHeld ?_
    simp only [Act.put, List.setIfInBounds_toArray, List.set_cons_zero, List.set_cons_succ]
    clear hHeld
    refine doneL (by kernel_rfl) ?_ _
    try simp only [Act.put, List.setIfInBounds_toArray, List.set_cons_zero, List.set_cons_succ]
    go_wp2
    go_ret
    exact ⟨rfl, B0.out.trans (t9.mono B0.out.size)⟩
  | deny a ih =>
    intro v w h ho
    obtain ⟨b, g, o, cc, u, rfl, hbl, hgl, hc1, hc2, hcs, hu⟩ := h.part1 (a := a) rfl
    unfold maxLen at hc2
    have KD := Lib.hid (ih u w hu ho)
    have KT := Lib.hid (fun v W h => newTerm_3 0 v a W h)
    generalize tv (Tm.deny a) = R at *
    obtain ⟨bu, rfl, -⟩ := hu.ptr
    obtain ⟨ty, pv, hx⟩ := tv_form a
    rw [hx] at KD KT
    clear hx
    have HC := Lib.hid hcs
    obtain ⟨c0, c1, c2, c3⟩ := hcs w (Below.refl _ _)
    clear hcs h hu ih ho hy1 hy2 c0 c1
    go_enter Tryz.func74, Tryz.ntmps74
    go_wp2
    clear c2
    refine wp_loop_rounds 2 ?_
    rw [rounds_succ]
    go_wp2_with fail
    refine KD.out.mono ?_
    rintro e w1 ⟨rfl, hb1⟩
    have B1 := Lib.hid hb1
    clear hb1 c3
    go_wp2_with (at_builtin; refine wpList_push rfl _ _ 123 rfl 75 .nilIface 16 Tryz.underlying123 Tryz.infoTm rfl w1.heap.size w1 (.iface ty pv) (.slice none 0 0) 0 [] (World.ownsRow_nil _ _ _ _) rfl rfl rfl hz0 hz1 (Nat.le_refl _) ?_; intro v' w4 hown hbp _; have HO := Lib.hid hown; have BP := Lib.hid hbp; clear hown hbp)
    have B4 := Lib.hid (B1.out.trans (BP.out.mono B1.out.size))
    have HO := Lib.hid (Rs.of_own HO.out)
    rw [rounds_succ]
    go_wp2
    have HCW := Lib.hid (fun U (h : Below w4.heap.size w4 U) => HC.out U (B4.out.trans (h.mono B4.out.size)))
    refine regionL (fun U => Below w4.heap.size w4 U) [] (by kernel_rfl) (Below.refl _ _).drew (fun hHeld => ?_)
    refine takeA (i := 0) (v := .pointer (some ⟨b, 0, none⟩)) 21 rfl rfl (by kernel_rfl) (by kernel_rfl) (by kernel_rfl) (by kernel_rfl) (fun _ _ _ h => h) (Or.inl ⟨by rfl, by intro W hSw; go_simp⟩) hHeld ?_
    simp only [Act.put, List.setIfInBounds_toArray, List.set_cons_zero, List.set_cons_succ]
    refine takeA (i := 1) (v := .pointer (some ⟨b, 0, none⟩)) 22 rfl rfl (by kernel_rfl) (by kernel_rfl) (by kernel_rfl) (by kernel_rfl) (fun _ _ _ h => h) (Or.inl ⟨by rfl, by intro W hSw; go_simp⟩) hHeld ?_
    simp only [Act.put, List.setIfInBounds_toArray, List.set_cons_zero, List.set_cons_succ]
    refine takeA (i := 2) (v := .pointer (some ⟨b, 0, none⟩)) 23 rfl rfl (by kernel_rfl) (by kernel_rfl) (by kernel_rfl) (by kernel_rfl) (fun _ _ _ h => h) (Or.inl ⟨by rfl, by intro W hSw; go_simp⟩) hHeld ?_
    simp only [Act.put, List.setIfInBounds_toArray, List.set_cons_zero, List.set_cons_succ]
    refine takeA (i := 3) (v := .int .i64 3) 24 rfl rfl (by kernel_rfl) (by kernel_rfl) (by kernel_rfl) (by kernel_rfl) (fun _ _ _ h => h) (Or.inl ⟨by rfl, by intro W hSw; have c1 := (HCW.out _ hSw).1; go_simp; rfl⟩) hHeld ?_
    simp only [Act.put, List.setIfInBounds_toArray, List.set_cons_zero, List.set_cons_succ]
    refine takeA (i := 4) (v := .pointer (some ⟨b, 0, none⟩)) 25 rfl rfl (by kernel_rfl) (by kernel_rfl) (by kernel_rfl) (by kernel_rfl) (fun _ _ _ h => h) (Or.inl ⟨by rfl, by intro W hSw; go_simp⟩) hHeld ?_
    simp only [Act.put, List.setIfInBounds_toArray, List.set_cons_zero, List.set_cons_succ]
    refine takeA (i := 5) (v := .pointer (some ⟨b, 0, none⟩)) 26 rfl rfl (by kernel_rfl) (by kernel_rfl) (by kernel_rfl) (by kernel_rfl) (fun _ _ _ h => h) (Or.inl ⟨by rfl, by intro W hSw; go_simp⟩) hHeld ?_
    simp only [Act.put, List.setIfInBounds_toArray, List.set_cons_zero, List.set_cons_succ]
    refine takeA (i := 6) (v := .pointer (some ⟨b, 1, none⟩)) 27 rfl rfl (by kernel_rfl) (by kernel_rfl) (by kernel_rfl) (by kernel_rfl) (fun _ _ _ h => h) (Or.inl ⟨by rfl, by intro W hSw; go_simp⟩) hHeld ?_
    simp only [Act.put, List.setIfInBounds_toArray, List.set_cons_zero, List.set_cons_succ]
    refine takeA (i := 7) (v := .int .i64 0) 28 rfl rfl (by kernel_rfl) (by kernel_rfl) (by kernel_rfl) (by kernel_rfl) (fun _ _ _ h => h) (Or.inl ⟨by rfl, by intro W hSw; have c1 := (HCW.out _ hSw).2.1; go_simp; rfl⟩) hHeld ?_
    simp only [Act.put, List.setIfInBounds_toArray, List.set_cons_zero, List.set_cons_succ]
    refine takeA (i := 8) (v := v') 29 rfl rfl (by kernel_rfl) (by kernel_rfl) (by kernel_rfl) (by kernel_rfl) (fun _ _ _ h => h) (Or.inl ⟨by rfl, by intro W hSw; go_simp⟩) hHeld ?_
    simp only [Act.put, List.setIfInBounds_toArray, List.set_cons_zero, List.set_cons_succ]
    generalize (World.drew _) = wd at hHeld ⊢
    refine onlyL (i := 9) (by kernel_rfl) rfl (by rfl) (fun K hK => ?_)
    go_simp
    refine (KT.out _ _ (HO.out.below hHeld (Nat.le_refl _))).mono ?_
    rintro e w9 ⟨rfl, rfl⟩
    have t9 := hHeld
    clear hHeld
    refine hK.out _ _ (fun _ => t9) (fun _ => ?_)
    clear hK K
    have hHeld := t9
    try simp only [Act.put, List.setIfInBounds_toArray, List.set_cons_zero, List.set_cons_succ]
    refine takeA (i := 10) (v := R) 2 rfl rfl (by kernel_rfl) (by kernel_rfl) (by kernel_rfl) (by kernel_rfl) (fun _ _ _ h => h) (Or.inl ⟨by rfl, by intro W hSw; go_simp⟩) hHeld ?_
    simp only [Act.put, List.setIfInBounds_toArray, List.set_cons_zero, List.set_cons_succ]
    clear hHeld
    refine doneL (by kernel_rfl) ?_ _
    try simp only [Act.put, List.setIfInBounds_toArray, List.set_cons_zero, List.set_cons_succ]
    go_wp2
    go_ret
    exact ⟨rfl, B4.out.trans (t9.mono B4.out.size)⟩
  | know op n a ih =>
    intro v w h ho
    obtain ⟨b, g, o, cc, u, rfl, hbl, hgl, hc1, hc2, hcs, hu⟩ := h.part1 (a := a) rfl
    unfold maxLen at hc2
    have KD := Lib.hid (ih u w hu ho.2)
    have KT := Lib.hid (fun v W h => newTerm_1 op n v a W (by have := ho.1; omega) h)
    generalize tv (Tm.know op n a) = R at *
    obtain ⟨bu, rfl, -⟩ := hu.ptr
    obtain ⟨ty, pv, hx⟩ := tv_form a
    rw [hx] at KD KT
    clear hx
    have HC := Lib.hid hcs
    obtain ⟨c0, c1, c2, c3⟩ := hcs w (Below.refl _ _)
    clear hcs h hu ih ho hy1 hy2 c0 c1
    go_enter Tryz.func74, Tryz.ntmps74
    go_wp2
    clear c2
    refine wp_loop_rounds 2 ?_
    rw [rounds_succ]
    go_wp2_with fail
    refine KD.out.mono ?_
    rintro e w1 ⟨rfl, hb1⟩
    have B1 := Lib.hid hb1
    clear hb1 c3
    go_wp2_with (at_builtin; refine wpList_push rfl _ _ 123 rfl 75 .nilIface 16 Tryz.underlying123 Tryz.infoTm rfl w1.heap.size w1 (.iface ty pv) (.slice none 0 0) 0 [] (World.ownsRow_nil _ _ _ _) rfl rfl rfl hz0 hz1 (Nat.le_refl _) ?_; intro v' w4 hown hbp _; have HO := Lib.hid hown; have BP := Lib.hid hbp; clear hown hbp)
    have B4 := Lib.hid (B1.out.trans (BP.out.mono B1.out.size))
    have HO := Lib.hid (Rs.of_own HO.out)
    rw [rounds_succ]
    go_wp2
    have HCW := Lib.hid (fun U (h : Below w4.heap.size w4 U) => HC.out U (B4.out.trans (h.mono B4.out.size)))
    refine regionL (fun U => Below w4.heap.size w4 U) [] (by kernel_rfl) (Below.refl _ _).drew (fun hHeld => ?_)
    refine takeA (i := 0) (v := .pointer (some ⟨b, 0, none⟩)) 21 rfl rfl (by kernel_rfl) (by kernel_rfl) (by kernel_rfl) (by kernel_rfl) (fun _ _ _ h => h) (Or.inl ⟨by rfl, by intro W hSw; go_simp⟩) hHeld ?_
    simp only [Act.put, List.setIfInBounds_toArray, List.set_cons_zero, List.set_cons_succ]
    refine takeA (i := 1) (v := .pointer (some ⟨b, 0, none⟩)) 22 rfl rfl (by kernel_rfl) (by kernel_rfl) (by kernel_rfl) (by kernel_rfl) (fun _ _ _ h => h) (Or.inl ⟨by rfl, by intro W hSw; go_simp⟩) hHeld ?_
    simp only [Act.put, List.setIfInBounds_toArray, List.set_cons_zero, List.set_cons_succ]
    refine takeA (i := 2) (v := .pointer (some ⟨b, 0, none⟩)) 23 rfl rfl (by kernel_rfl) (by kernel_rfl) (by kernel_rfl) (by kernel_rfl) (fun _ _ _ h => h) (Or.inl ⟨by rfl, by intro W hSw; go_simp⟩) hHeld ?_
    simp only [Act.put, List.setIfInBounds_toArray, List.set_cons_zero, List.set_cons_succ]
    refine takeA (i := 3) (v := .int .i64 op) 24 rfl rfl (by kernel_rfl) (by kernel_rfl) (by kernel_rfl) (by kernel_rfl) (fun _ _ _ h => h) (Or.inl ⟨by rfl, by intro W hSw; have c1 := (HCW.out _ hSw).1; go_simp; rfl⟩) hHeld ?_
    simp only [Act.put, List.setIfInBounds_toArray, List.set_cons_zero, List.set_cons_succ]
    refine takeA (i := 4) (v := .pointer (some ⟨b, 0, none⟩)) 25 rfl rfl (by kernel_rfl) (by kernel_rfl) (by kernel_rfl) (by kernel_rfl) (fun _ _ _ h => h) (Or.inl ⟨by rfl, by intro W hSw; go_simp⟩) hHeld ?_
    simp only [Act.put, List.setIfInBounds_toArray, List.set_cons_zero, List.set_cons_succ]
    refine takeA (i := 5) (v := .pointer (some ⟨b, 0, none⟩)) 26 rfl rfl (by kernel_rfl) (by kernel_rfl) (by kernel_rfl) (by kernel_rfl) (fun _ _ _ h => h) (Or.inl ⟨by rfl, by intro W hSw; go_simp⟩) hHeld ?_
    simp only [Act.put, List.setIfInBounds_toArray, List.set_cons_zero, List.set_cons_succ]
    refine takeA (i := 6) (v := .pointer (some ⟨b, 1, none⟩)) 27 rfl rfl (by kernel_rfl) (by kernel_rfl) (by kernel_rfl) (by kernel_rfl) (fun _ _ _ h => h) (Or.inl ⟨by rfl, by intro W hSw; go_simp⟩) hHeld ?_
    simp only [Act.put, List.setIfInBounds_toArray, List.set_cons_zero, List.set_cons_succ]
    refine takeA (i := 7) (v := .int .i64 n) 28 rfl rfl (by kernel_rfl) (by kernel_rfl) (by kernel_rfl) (by kernel_rfl) (fun _ _ _ h => h) (Or.inl ⟨by rfl, by intro W hSw; have c1 := (HCW.out _ hSw).2.1; go_simp; rfl⟩) hHeld ?_
    simp only [Act.put, List.setIfInBounds_toArray, List.set_cons_zero, List.set_cons_succ]
    refine takeA (i := 8) (v := v') 29 rfl rfl (by kernel_rfl) (by kernel_rfl) (by kernel_rfl) (by kernel_rfl) (fun _ _ _ h => h) (Or.inl ⟨by rfl, by intro W hSw; go_simp⟩) hHeld ?_
    simp only [Act.put, List.setIfInBounds_toArray, List.set_cons_zero, List.set_cons_succ]
    generalize (World.drew _) = wd at hHeld ⊢
    refine onlyL (i := 9) (by kernel_rfl) rfl (by rfl) (fun K hK => ?_)
    go_simp
    refine (KT.out _ _ (HO.out.below hHeld (Nat.le_refl _))).mono ?_
    rintro e w9 ⟨rfl, rfl⟩
    have t9 := hHeld
    clear hHeld
    refine hK.out _ _ (fun _ => t9) (fun _ => ?_)
    clear hK K
    have hHeld := t9
    try simp only [Act.put, List.setIfInBounds_toArray, List.set_cons_zero, List.set_cons_succ]
    refine takeA (i := 10) (v := R) 2 rfl rfl (by kernel_rfl) (by kernel_rfl) (by kernel_rfl) (by kernel_rfl) (fun _ _ _ h => h) (Or.inl ⟨by rfl, by intro W hSw; go_simp⟩) hHeld ?_
    simp only [Act.put, List.setIfInBounds_toArray, List.set_cons_zero, List.set_cons_succ]
    clear hHeld
    refine doneL (by kernel_rfl) ?_ _
    try simp only [Act.put, List.setIfInBounds_toArray, List.set_cons_zero, List.set_cons_succ]
    go_wp2
    go_ret
    exact ⟨rfl, B4.out.trans (t9.mono B4.out.size)⟩
  | joint op a a' iha ihb =>
    intro v w h ho
    obtain ⟨b, g, o, cc, u, u', rfl, hbl, hgl, hc1, hc2, hcs, hu, hu'⟩ := h.part2 (a := a) (a' := a') rfl
    unfold maxLen at hc2
    have KD := Lib.hid (iha u w hu ho.2.1)
    have KE := Lib.hid (fun W (hW : Below w.heap.size w W) => ihb u' W (hu'.below hW) ho.2.2)
    have KT := Lib.hid (fun v W h => newTerm_2 op 0 v a a' W ho.1 h)
    generalize tv (Tm.joint op a a') = R at *
    obtain ⟨bu, rfl, -⟩ := hu.ptr
    obtain ⟨bu', rfl, -⟩ := hu'.ptr
    obtain ⟨ty, pv, hx⟩ := tv_form a
    rw [hx] at KD KT
    clear hx
    obtain ⟨ty', pv', hx⟩ := tv_form a'
    rw [hx] at KE KT
    clear hx
    have HC := Lib.hid hcs
    obtain ⟨c0, c1, c2, c3, c4⟩ := hcs w (Below.refl _ _)
    clear hcs h hu hu' iha ihb ho c0 c1 c4
    go_enter Tryz.func74, Tryz.ntmps74
    go_wp2
    clear c2
    refine wp_loop_rounds 3 ?_
    rw [rounds_succ]
    go_wp2_with fail
    refine KD.out.mono ?_
    rintro e w1 ⟨rfl, hb1⟩
    have B1 := Lib.hid hb1
    clear hb1 c3
    go_wp2_with (at_builtin; refine wpList_push rfl _ _ 123 rfl 75 .nilIface 16 Tryz.underlying123 Tryz.infoTm rfl w1.heap.size w1 (.iface ty pv) (.slice none 0 0) 0 [] (World.ownsRow_nil _ _ _ _) rfl rfl rfl hz0 hz1 (Nat.le_refl _) ?_; intro v' w4 hown hbp _; have HO := Lib.hid hown; have BP := Lib.hid hbp; clear hown hbp)
    have hz14 := BP.out.size
    have B4 := Lib.hid (B1.out.trans (BP.out.mono B1.out.size))
    have c4 := (HC.out w4 B4.out).2.2.2.2
    rw [rounds_succ]
    go_wp2_with fail
    refine (KE.out _ B4.out).mono ?_
    rintro e w5 ⟨rfl, hb5⟩
    have HO5 := Lib.hid (own_below HO.out hb5 (Nat.le_refl _))
    have B5 := Lib.hid (B4.out.trans (hb5.mono B4.out.size))
    have hz15 : w1.heap.size ≤ w5.heap.size := Nat.le_trans hz14 hb5.size
    clear hb5 c4
    go_wp2_with (at_builtin; refine wpList_push rfl _ _ 123 rfl 75 .nilIface 16 Tryz.underlying123 Tryz.infoTm rfl w1.heap.size w5 (.iface ty' pv') v' 1 [.iface ty pv] HO5.out rfl rfl rfl hy1 hy2 hz15 ?_; intro v'' w6 hown hbp _; have HO6 := Lib.hid hown; have BP6 := Lib.hid hbp; clear hown hbp)
    have B6 := Lib.hid (B5.out.trans (BP6.out.mono B1.out.size))
    have HO6 := Lib.hid (Rs.of_own HO6.out)
    rw [rounds_succ]
    go_wp2
    have HCW := Lib.hid (fun U (h : Below w6.heap.size w6 U) => HC.out U (B6.out.trans (h.mono B6.out.size)))
    refine regionL (fun U => Below w6.heap.size w6 U) [] (by kernel_rfl) (Below.refl _ _).drew (fun hHeld => ?_)
    refine takeA (i := 0) (v := .pointer (some ⟨b, 0, none⟩)) 21 rfl rfl (by kernel_rfl) (by kernel_rfl) (by kernel_rfl) (by kernel_rfl) (fun _ _ _ h => h) (Or.inl ⟨by rfl, by intro W hSw; go_simp⟩) hHeld ?_
    simp only [Act.put, List.setIfInBounds_toArray, List.set_cons_zero, List.set_cons_succ]
    refine takeA (i := 1) (v := .pointer (some ⟨b, 0, none⟩)) 22 rfl rfl (by kernel_rfl) (by kernel_rfl) (by kernel_rfl) (by kernel_rfl) (fun _ _ _ h => h) (Or.inl ⟨by rfl, by intro W hSw; go_simp⟩) hHeld ?_
    simp only [Act.put, List.setIfInBounds_toArray, List.set_cons_zero, List.set_cons_succ]
    refine takeA (i := 2) (v := .pointer (some ⟨b, 0, none⟩)) 23 rfl rfl (by kernel_rfl) (by kernel_rfl) (by kernel_rfl) (by kernel_rfl) (fun _ _ _ h => h) (Or.inl ⟨by rfl, by intro W hSw; go_simp⟩) hHeld ?_
    simp only [Act.put, List.setIfInBounds_toArray, List.set_cons_zero, List.set_cons_succ]
    refine takeA (i := 3) (v := .int .i64 op) 24 rfl rfl (by kernel_rfl) (by kernel_rfl) (by kernel_rfl) (by kernel_rfl) (fun _ _ _ h => h) (Or.inl ⟨by rfl, by intro W hSw; have c1 := (HCW.out _ hSw).1; go_simp; rfl⟩) hHeld ?_
    simp only [Act.put, List.setIfInBounds_toArray, List.set_cons_zero, List.set_cons_succ]
    refine takeA (i := 4) (v := .pointer (some ⟨b, 0, none⟩)) 25 rfl rfl (by kernel_rfl) (by kernel_rfl) (by kernel_rfl) (by kernel_rfl) (fun _ _ _ h => h) (Or.inl ⟨by rfl, by intro W hSw; go_simp⟩) hHeld ?_
    simp only [Act.put, List.setIfInBounds_toArray, List.set_cons_zero, List.set_cons_succ]
    refine takeA (i := 5) (v := .pointer (some ⟨b, 0, none⟩)) 26 rfl rfl (by kernel_rfl) (by kernel_rfl) (by kernel_rfl) (by kernel_rfl) (fun _ _ _ h => h) (Or.inl ⟨by rfl, by intro W hSw; go_simp⟩) hHeld ?_
    simp only [Act.put, List.setIfInBounds_toArray, List.set_cons_zero, List.set_cons_succ]
    refine takeA (i := 6) (v := .pointer (some ⟨b, 1, none⟩)) 27 rfl rfl (by kernel_rfl) (by kernel_rfl) (by kernel_rfl) (by kernel_rfl) (fun _ _ _ h => h) (Or.inl ⟨by rfl, by intro W hSw; go_simp⟩) hHeld ?_
    simp only [Act.put, List.setIfInBounds_toArray, List.set_cons_zero, List.set_cons_succ]
    refine takeA (i := 7) (v := .int .i64 0) 28 rfl rfl (by kernel_rfl) (by kernel_rfl) (by kernel_rfl) (by kernel_rfl) (fun _ _ _ h => h) (Or.inl ⟨by rfl, by intro W hSw; have c1 := (HCW.out _ hSw).2.1; go_simp; rfl⟩) hHeld ?_
    simp only [Act.put, List.setIfInBounds_toArray, List.set_cons_zero, List.set_cons_succ]
    refine takeA (i := 8) (v := v'') 29 rfl rfl (by kernel_rfl) (by kernel_rfl) (by kernel_rfl) (by kernel_rfl) (fun _ _ _ h => h) (Or.inl ⟨by rfl, by intro W hSw; go_simp⟩) hHeld ?_
    simp only [Act.put, List.setIfInBounds_toArray, List.set_cons_zero, List.set_cons_succ]
    generalize (World.drew _) = wd at hHeld ⊢
    refine onlyL (i := 9) (by kernel_rfl) rfl (by rfl) (fun K hK => ?_)
    go_simp
    refine (KT.out _ _ (HO6.out.below hHeld (Nat.le_refl _))).mono ?_
    rintro e w9 ⟨rfl, hb9⟩
    have t9 : Below w6.heap.size w6 w9 := hHeld.trans (hb9.mono hHeld.size)
    clear hb9 hHeld
    refine hK.out _ _ (fun _ => t9) (fun _ => ?_)
    clear hK K
    have hHeld := t9
    try simp only [Act.put, List.setIfInBounds_toArray, List.set_cons_zero, List.set_cons_succ]
    refine takeA (i := 10) (v := R) 2 rfl rfl (by kernel_rfl) (by kernel_rfl) (by kernel_rfl) (by kernel_rfl) (fun _ _ _ h => h) (Or.inl ⟨by rfl, by intro W hSw; go_simp⟩) hHeld ?_
    simp only [Act.put, List.setIfInBounds_toArray, List.set_cons_zero, List.set_cons_succ]
    clear hHeld
    refine doneL (by kernel_rfl) ?_ _
    try simp only [Act.put, List.setIfInBounds_toArray, List.set_cons_zero, List.set_cons_succ]
    go_wp2
    go_ret
    exact ⟨rfl, B6.out.trans (t9.mono B6.out.size)⟩
end Go.Proofs.YtodjohdbngbpaaaGreat

/-
  Contract of impl.linkNode: the linked formula of a node out of those of the nodes that it uses. Condition: the node is right where it stands, and its parts have at most 40 nodes.
-/
namespace Go.Proofs.YtodjohdbngbpaaaGreat
open Go.RowKit Go.WideShapes
open Go Go.Deep
set_option linter.unusedSimpArgs false

theorem Tryz.infoLk : (Tryz.prog.info? 102).map (fun i => (i.zero, i.size, i.bytes)) = some (some (.pointer none), 1, 8) := by kernel_rfl
theorem Rv.of_row {lo base : Nat} {w : World} {e : TypeId} {v : Value} {n : Nat} {xs : List Value} (h : w.ownsRow base e 1 v n xs) (hl : lo ≤ base) : Rv lo w.heap.size w v xs := (Rv.of_own h (fun k hk => (h.lt k hk).2)).wide hl (Nat.le_refl _)
/-- what stands at the places of a list of linked formulas -/
def MadeAt (lo : Nat) (w : World) (mb i : Nat) (T : Nat → Tm) : Prop := mb < w.heap.size ∧ ∀ j, j < i → ∃ p, w.cell? ⟨mb, j, none⟩ = some p ∧ Lk lo w (T j) p
theorem MadeAt.below {lo : Nat} {w w' : World} {mb i : Nat} {T : Nat → Tm} (h : MadeAt lo w mb i T) (hb : Below w.heap.size w w') : MadeAt lo w' mb i T :=
  ⟨Nat.lt_of_lt_of_le h.1 hb.size, fun j hj => by
    obtain ⟨p, h1, h2⟩ := h.2 j hj
    exact ⟨p, (hb.cell (p := ⟨mb, j, none⟩) h.1).trans h1, h2.below hb⟩⟩

set_option maxRecDepth 100000 in
set_option maxHeartbeats 16000000 in
theorem linkNode_any (lo : Nat) (op n xa xb : Int) (i : Nat) (hx : okAt ⟨op, n, xa, xb⟩ i = true) (mb ml : Nat) (hml : i < ml) (_hmx : ml ≤ 40) (T : Nat → Tm) (hT : ∀ j, j < i → (T j).size ≤ 40) (w : World) (hlo : lo ≤ w.heap.size) (hM : MadeAt lo w mb i T) :
    Calls Tryz.prog 121 #[.agg #[.int .i64 op, .int .i64 n, .int .i64 xa, .int .i64 xb], .slice (some ⟨mb, 0, none⟩) ml ml] w (LkAns lo w (mkTm op n (T xa.toNat) (T xb.toNat))) := by
  have hp := okAt_parts hx
  simp only [] at hp
  have hz0 : (0 : Nat) + 1 ≤ maxLen := by decide
  have hz1 : (0 + 1) * 8 ≤ 140737488355328 := by decide
  have hy1 : (1 : Nat) + 1 ≤ maxLen := by decide
  have hy2 : (1 + 1) * 8 ≤ 140737488355328 := by decide
  have hml0 : (0 : Int) ≤ (ml : Int) := Int.natCast_nonneg _
  have KB := Lib.hid (fun W => usedBy_any ⟨op, n, xa, xb⟩ W (fun h => (hp.2.1 h).1) (fun h => (hp.2.2.1 h).1))
  have e0 : usesI op = 0 → usedOf ⟨op, n, xa, xb⟩ = [] := fun h => by unfold usedOf; rw [h]; rfl
  have e1 : usesI op = 1 → usedOf ⟨op, n, xa, xb⟩ = [xa.toNat] := fun h => by unfold usedOf; rw [h]; rfl
  have e2 : usesI op = 2 → usedOf ⟨op, n, xa, xb⟩ = [xa.toNat, xb.toNat] := fun h => by unfold usedOf; rw [h]; rfl
  have HLO := Lib.hid hlo
  by_cases hu : usesI op = 0
  · have ho : op = 1 ∨ op = 2 := by have := op_kinds hp.1.1 hp.1.2.1; omega
    rw [mkTm_leaf ho]
    rw [e0 hu] at KB
    have KT := Lib.hid (fun sl W h hr => newLk_0 lo op n sl W h hr)
    unfold LkAns at KT
    clear e0 e1 e2 hp ho hu hx hT hM hz0 hz1 hy1 hy2
    go_enter Tryz.func121, Tryz.ntmps121
    go_wp2_with fail
    refine (KB.out _).mono ?_
    rintro e w1 ⟨g, rfl, hg1, hg2, _, hb1⟩
    have n0 := node_kept' hb1 0
    have n1 := node_kept' hb1 1
    have B1 := Lib.hid (((Below.refl w.heap.size w).alloc (Nat.le_refl _) _).trans (hb1.mono (by simp)))
    clear hb1
    simp at n0 n1
    go_wp2
    refine wp_loop_rounds 1 ?_
    rw [rounds_succ]
    go_wp2_with fail
    refine (KT.out _ _ (Nat.le_trans HLO.out B1.out.size) (Rv.nil _ _ _)).mono ?_
    rintro e w2 ⟨b2, rfl, hl2, hb2⟩
    have H2 := Lib.hid hl2
    have B2 := Lib.hid (B1.out.trans (hb2.mono B1.out.size))
    clear hl2 hb2 n0 n1
    go_wp2
    go_ret
    exact ⟨_, rfl, H2.out, B2.out⟩
  by_cases hu1 : usesI op = 1
  · have ha := hp.2.1 (by omega)
    have hop : op = 3 ∨ (op = 5 ∨ op = 6 ∨ op = 7 ∨ op = 8) := by have := op_kinds hp.1.1 hp.1.2.1; omega
    have hn0 : op = 3 → n = 0 := fun h => by subst h; have h1 := hp.1.2.2; have : limN 3 = 1 := rfl; omega
    rw [e1 hu1] at KB
    obtain ⟨k, rfl⟩ : ∃ k : Nat, xa = k := ⟨xa.toNat, by omega⟩
    rw [Int.toNat_natCast] at *
    have hki : k < i := by omega
    have hk0 : (0 : Int) ≤ (k : Int) := Int.natCast_nonneg _
    have hkm : (k : Int) < (ml : Int) := by omega
    have hTs := hT k hki
    have hMk := Lib.hid (fun W (h : Below w.heap.size w W) => (hM.below h).2 k hki)
    have e3 : mkTm op n (T k) (T xb.toNat) = if op = 3 then .deny (T k) else .know op n (T k) := by
      rcases hop with rfl | h
      · rw [mkTm_deny]; rfl
      · rw [if_neg (by omega), mkTm_know h]
    rw [e3]
    have KT : Hid (∀ sl u W, lo ≤ W.heap.size → Rv lo W.heap.size W sl [u] → Lk lo W (T k) u → Calls Tryz.prog 155 #[.int .i64 op, .int .i64 n, sl] W (LkAns lo W (if op = 3 then .deny (T k) else .know op n (T k)))) := Lib.hid (fun sl u W h1 h2 h3 => by
      refine (newLk_1 lo op n sl u (T k) W h1 h2 h3 (by omega)).mono fun e w' ⟨b, he, ⟨h4, h5⟩, hb⟩ => ⟨b, he, ?_, hb⟩
      rcases hop with rfl | h'
      · rw [if_pos rfl]; rw [hn0 rfl] at h4; exact ⟨u, h4, h5⟩
      · rw [if_neg (by omega)]; exact ⟨u, h4, h5⟩)
    unfold LkAns at KT
    clear e0 e1 e2 e3 hp hu hu1 hki ha hop hn0 hx hT hM hy1 hy2 hTs
    generalize (if op = 3 then Tm.deny (T k) else .know op n (T k)) = R at *
    generalize T k = Tk at *
    go_enter Tryz.func121, Tryz.ntmps121
    go_wp2_with fail
    refine (KB.out _).mono ?_
    rintro e w1 ⟨g, rfl, hg1, hg2, hgc, hb1⟩
    have n0 := node_kept' hb1 0
    have n1 := node_kept' hb1 1
    have B1 := Lib.hid (((Below.refl w.heap.size w).alloc (Nat.le_refl _) _).trans (hb1.mono (by simp)))
    have q0 : w1.cell? ⟨g, 0, none⟩ = some (.int .i64 k) := hgc 0 (by simp)
    have hN : w.heap.size < w1.heap.size := by have := hb1.size; simp at this; omega
    clear hb1 hgc
    simp at n0 n1
    obtain ⟨u, m0, hu⟩ := hMk.out _ B1.out
    obtain ⟨bu, rfl, -⟩ := hu.ptr
    have HU := Lib.hid hu
    clear hu
    go_wp2
    refine wp_loop_rounds 2 ?_
    rw [rounds_succ]
    go_wp2_with (at_builtin; refine wpList_push rfl _ _ 149 rfl 102 (.pointer none) 8 Tryz.underlying149 Tryz.infoLk rfl w1.heap.size w1 (.pointer (some ⟨bu, 0, none⟩)) (.slice none 0 0) 0 [] (World.ownsRow_nil _ _ _ _) rfl rfl rfl hz0 hz1 (Nat.le_refl _) ?_; intro v' w4 hown hbp _; have HO := Lib.hid hown; have BP := Lib.hid hbp; clear hown hbp)
    clear q0 m0
    have B4 := Lib.hid (B1.out.trans (BP.out.mono B1.out.size))
    have hs4 := B4.out.size
    rw [← BP.out.cell (p := ⟨w.heap.size, 0, none⟩) hN] at n0
    rw [← BP.out.cell (p := ⟨w.heap.size, 1, none⟩) hN] at n1
    rw [rounds_succ]
    go_wp2_with fail
    refine (KT.out _ _ _ (Nat.le_trans HLO.out hs4) (Rv.of_row HO.out (Nat.le_trans HLO.out B1.out.size)) (HU.out.below BP.out)).mono ?_
    rintro e w5 ⟨b5, rfl, hl5, hb5⟩
    have H5 := Lib.hid hl5
    have B5 := Lib.hid (B4.out.trans (hb5.mono B4.out.size))
    clear hl5 hb5 n0 n1
    go_wp2
    go_ret
    exact ⟨_, rfl, H5.out, B5.out⟩
  · have hu2 : usesI op = 2 := by have := usesI_le op; omega
    have ho : op = 4 ∨ op = 9 := by have := op_kinds hp.1.1 hp.1.2.1; omega
    have hn0 : n = 0 := by have h1 := hp.1.2.2; have := limN_48 ho; omega
    subst hn0
    have ha := hp.2.1 (by omega)
    have hb' := hp.2.2.1 hu2
    rw [mkTm_joint ho]
    rw [e2 hu2] at KB
    obtain ⟨k, rfl⟩ : ∃ k : Nat, xa = k := ⟨xa.toNat, by omega⟩
    obtain ⟨k', rfl⟩ : ∃ k : Nat, xb = k := ⟨xb.toNat, by omega⟩
    rw [Int.toNat_natCast, Int.toNat_natCast] at *
    have hki : k < i := by omega
    have hki' : k' < i := by omega
    have hk0 : (0 : Int) ≤ (k : Int) := Int.natCast_nonneg _
    have hkm : (k : Int) < (ml : Int) := by omega
    have hk0' : (0 : Int) ≤ (k' : Int) := Int.natCast_nonneg _
    have hkm' : (k' : Int) < (ml : Int) := by omega
    have hTs := hT k hki
    have hTs' := hT k' hki'
    have hMk := Lib.hid (fun W (h : Below w.heap.size w W) => (hM.below h).2 k hki)
    have hMk' := Lib.hid (fun W (h : Below w.heap.size w W) => (hM.below h).2 k' hki')
    have hM1 := Lib.hid (fun W (h : Below w.heap.size w W) => hM.below h)
    have KT : Hid (∀ sl u u' W, lo ≤ W.heap.size → Rv lo W.heap.size W sl [u, u'] → Lk lo W (T k) u → Lk lo W (T k') u' → Calls Tryz.prog 155 #[.int .i64 op, .int .i64 0, sl] W (LkAns lo W (.joint op (T k) (T k')))) := Lib.hid (fun sl u u' W h1 h2 h3 h3' =>
      (newLk_2 lo op 0 sl u u' (T k) (T k') W h1 h2 h3 h3' (by omega) (by omega)).mono fun e w' ⟨b, he, ⟨h4, h5, h6⟩, hb⟩ => ⟨b, he, ⟨u, u', h4, h5, h6⟩, hb⟩)
    unfold LkAns at KT
    clear e0 e1 e2 hp hu hu1 hu2 hki hki' ha hb' ho hx hT hM hTs hTs'
    generalize Tm.joint op (T k) (T k') = R at *
    generalize T k = Tk at *
    generalize T k' = Tk' at *
    go_enter Tryz.func121, Tryz.ntmps121
    go_wp2_with fail
    refine (KB.out _).mono ?_
    rintro e w1 ⟨g, rfl, hg1, hg2, hgc, hb1⟩
    have n0 := node_kept' hb1 0
    have n1 := node_kept' hb1 1
    have B1 := Lib.hid (((Below.refl w.heap.size w).alloc (Nat.le_refl _) _).trans (hb1.mono (by simp)))
    have q0 : w1.cell? ⟨g, 0, none⟩ = some (.int .i64 k) := hgc 0 (by simp)
    have q1 : w1.cell? ⟨g, 1, none⟩ = some (.int .i64 k') := hgc 1 (by simp)
    have hN : w.heap.size < w1.heap.size := by have := hb1.size; simp at this; omega
    clear hb1 hgc
    simp at n0 n1
    obtain ⟨u, m0, hu⟩ := hMk.out _ B1.out
    obtain ⟨bu, rfl, -⟩ := hu.ptr
    have HU := Lib.hid hu
    clear hu
    have hmbl := (hM1.out _ B1.out).1
    obtain ⟨u', m1', hu'⟩ := hMk'.out _ B1.out
    obtain ⟨bu', rfl, -⟩ := hu'.ptr
    have HU' := Lib.hid hu'
    clear hu'
    go_wp2
    refine wp_loop_rounds 3 ?_
    rw [rounds_succ]
    go_wp2_with (at_builtin; refine wpList_push rfl _ _ 149 rfl 102 (.pointer none) 8 Tryz.underlying149 Tryz.infoLk rfl w1.heap.size w1 (.pointer (some ⟨bu, 0, none⟩)) (.slice none 0 0) 0 [] (World.ownsRow_nil _ _ _ _) rfl rfl rfl hz0 hz1 (Nat.le_refl _) ?_; intro v' w4 hown hbp _; have HO := Lib.hid hown; have BP := Lib.hid hbp; clear hown hbp)
    clear q0 m0
    have B4 := Lib.hid (B1.out.trans (BP.out.mono B1.out.size))
    have hs14 := BP.out.size
    rw [← BP.out.cell (p := ⟨w.heap.size, 0, none⟩) hN] at n0
    rw [← BP.out.cell (p := ⟨w.heap.size, 1, none⟩) hN] at n1
    rw [← BP.out.cell (p := ⟨g, 1, none⟩) hg1] at q1
    have m1 := (BP.out.cell (p := ⟨mb, k', none⟩) hmbl).trans m1'
    rw [rounds_succ]
    go_wp2_with (at_builtin; refine wpList_push rfl _ _ 149 rfl 102 (.pointer none) 8 Tryz.underlying149 Tryz.infoLk rfl w1.heap.size w4 (.pointer (some ⟨bu', 0, none⟩)) v' 1 [.pointer (some ⟨bu, 0, none⟩)] HO.out rfl rfl rfl hy1 hy2 hs14 ?_; intro v'' w6 hown hbp hgr; have HO6 := Lib.hid hown; have BP6 := Lib.hid hbp; have HG := Lib.hid hgr; clear hown hbp hgr)
    clear q1 m1 m1'
    have B6 := Lib.hid (B4.out.trans (BP6.out.mono B1.out.size))
    have hs6 := B6.out.size
    rw [← BP6.out.cell (p := ⟨w.heap.size, 0, none⟩) hN] at n0
    rw [← BP6.out.cell (p := ⟨w.heap.size, 1, none⟩) hN] at n1
    rw [rounds_succ]
    have B16 := Lib.hid (BP.out.trans BP6.out)
    go_wp2_with fail
    refine (KT.out _ _ _ _ (Nat.le_trans HLO.out hs6) (Rv.of_row HO6.out (Nat.le_trans HLO.out B1.out.size)) (HU.out.below B16.out) (HU'.out.below B16.out)).mono ?_
    rintro e w7 ⟨b7, rfl, hl7, hb7⟩
    have H7 := Lib.hid hl7
    have B7 := Lib.hid (B6.out.trans (hb7.mono B6.out.size))
    clear hl7 hb7 n0 n1
    go_wp2
    go_ret
    exact ⟨_, rfl, H7.out, B7.out⟩
end Go.Proofs.YtodjohdbngbpaaaGreat
