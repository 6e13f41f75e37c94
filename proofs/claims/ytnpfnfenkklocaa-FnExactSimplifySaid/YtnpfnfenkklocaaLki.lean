/-
  Contracts of impl.newLinked and the methods denied, and, implies. Conditions: the parts are linked formulas, and the sizes' sum is far from the greatest int.
-/
import Derived.Test.YtnpfnfenkklocaaLkd
import Derived.BigRegion
namespace Go.Proofs.Ytnpfnfenkklocaa
open Go.RowKit Go.WideShapes
open Go Go.Deep
set_option linter.unusedSimpArgs false

/-- a new node -/
def NewAns (w : World) (op n : Int) (sl : Value) (size : Nat) (e : Ending) (w' : World) : Prop :=
  ∃ b, e = .returned (.pointer (some ⟨b, 0, none⟩)) ∧ w.heap.size ≤ b ∧ b < w'.heap.size ∧ w'.cell? ⟨b, 0, none⟩ = some (.int .i64 op) ∧ w'.cell? ⟨b, 1, none⟩ = some (.int .i64 n) ∧ w'.cell? ⟨b, 2, none⟩ = some sl ∧ w'.cell? ⟨b, 3, none⟩ = some (.int .i64 size) ∧ Below w.heap.size w w'

set_option maxRecDepth 100000 in
set_option maxHeartbeats 4000000 in
theorem newL_0 (op n : Int) (a : Option Addr) (c : Nat) (w : World) :
    Calls Try.prog 78 #[.int .i64 op, .int .i64 n, .slice a 0 c] w (NewAns w op n (.slice a 0 c) 1) := by
  go_enter Try.func78, Try.ntmps78
  go_wp2
  refine wp_loop_rounds 1 ?_
  rw [rounds_succ]
  go_wp2
  go_ret
  exact ⟨_, rfl, Nat.le_refl _, by simp, by rw [World.cell?_alloc_at _ _ _ _ rfl]; rfl, by rw [World.cell?_alloc_at _ _ _ _ rfl]; rfl, by rw [World.cell?_alloc_at _ _ _ _ rfl]; rfl, by rw [World.cell?_alloc_at _ _ _ _ rfl]; rfl, (Below.refl _ _).alloc (Nat.le_refl _) _⟩

set_option maxRecDepth 100000 in
set_option maxHeartbeats 4000000 in
theorem newL_1 (op n : Int) (g o c b s : Nat) (w : World) (hgl : g < w.heap.size) (hbl : b < w.heap.size) (hg : w.cell? ⟨g, o, none⟩ = some (.pointer (some ⟨b, 0, none⟩))) (hb : w.cell? ⟨b, 3, none⟩ = some (.int .i64 s)) (hs : s ≤ 140737488355328) :
    Calls Try.prog 78 #[.int .i64 op, .int .i64 n, .slice (some ⟨g, o, none⟩) 1 c] w (NewAns w op n (.slice (some ⟨g, o, none⟩) 1 c) (s + 1)) := by
  have hs0 : (0 : Int) ≤ (s : Int) := Int.natCast_nonneg _
  have hs1 : (s : Int) ≤ 140737488355328 := by omega
  have hg1 : ∀ cs T, (w.alloc (.cells cs T)).cell? ⟨g, o, none⟩ = some (.pointer (some ⟨b, 0, none⟩)) := fun cs T => (((Below.refl _ _).alloc (Nat.le_refl _) _ : Below w.heap.size w _).cell (p := ⟨g, o, none⟩) hgl).trans hg
  have hb1 : ∀ cs T, (w.alloc (.cells cs T)).cell? ⟨b, 3, none⟩ = some (.int .i64 s) := fun cs T => (((Below.refl _ _).alloc (Nat.le_refl _) _ : Below w.heap.size w _).cell (p := ⟨b, 3, none⟩) hbl).trans hb
  clear hs hg hb
  go_enter Try.func78, Try.ntmps78
  go_wp2
  refine wp_loop_rounds 2 ?_
  rw [rounds_succ]
  go_wp2
  go_region
  go_wp2
  rw [rounds_succ]
  go_wp2
  go_ret
  refine ⟨_, rfl, Nat.le_refl _, by simp, ?_, ?_, ?_, ?_, by go_grown⟩
  · go_simp
  · go_simp
  · go_simp
  · go_simp
    rw [Int.add_comm]

set_option maxRecDepth 100000 in
set_option maxHeartbeats 4000000 in
theorem newL_2 (op n : Int) (g o c b s b' s' : Nat) (w : World) (hgl : g < w.heap.size) (hbl : b < w.heap.size) (hbl' : b' < w.heap.size) (hg : w.cell? ⟨g, o, none⟩ = some (.pointer (some ⟨b, 0, none⟩))) (hg' : w.cell? ⟨g, o + 1, none⟩ = some (.pointer (some ⟨b', 0, none⟩))) (hb : w.cell? ⟨b, 3, none⟩ = some (.int .i64 s)) (hb' : w.cell? ⟨b', 3, none⟩ = some (.int .i64 s')) (hs : s ≤ 140737488355328) (hs' : s' ≤ 140737488355328) :
    Calls Try.prog 78 #[.int .i64 op, .int .i64 n, .slice (some ⟨g, o, none⟩) 2 c] w (NewAns w op n (.slice (some ⟨g, o, none⟩) 2 c) (s + s' + 1)) := by
  have hs0 : (0 : Int) ≤ (s : Int) := Int.natCast_nonneg _
  have hs1 : (s : Int) ≤ 140737488355328 := by omega
  have hs2 : (0 : Int) ≤ (s' : Int) := Int.natCast_nonneg _
  have hs3 : (s' : Int) ≤ 140737488355328 := by omega
  have hg1 : ∀ cs T, (w.alloc (.cells cs T)).cell? ⟨g, o, none⟩ = some (.pointer (some ⟨b, 0, none⟩)) := fun cs T => (((Below.refl _ _).alloc (Nat.le_refl _) _ : Below w.heap.size w _).cell (p := ⟨g, o, none⟩) hgl).trans hg
  have hg2 : ∀ cs T, (w.alloc (.cells cs T)).cell? ⟨g, o + 1, none⟩ = some (.pointer (some ⟨b', 0, none⟩)) := fun cs T => (((Below.refl _ _).alloc (Nat.le_refl _) _ : Below w.heap.size w _).cell (p := ⟨g, o + 1, none⟩) hgl).trans hg'
  have hb1 : ∀ cs T, (w.alloc (.cells cs T)).cell? ⟨b, 3, none⟩ = some (.int .i64 s) := fun cs T => (((Below.refl _ _).alloc (Nat.le_refl _) _ : Below w.heap.size w _).cell (p := ⟨b, 3, none⟩) hbl).trans hb
  have hb2 : ∀ cs T, (w.alloc (.cells cs T)).cell? ⟨b', 3, none⟩ = some (.int .i64 s') := fun cs T => (((Below.refl _ _).alloc (Nat.le_refl _) _ : Below w.heap.size w _).cell (p := ⟨b', 3, none⟩) hbl').trans hb'
  clear hs hs' hg hb hg' hb'
  go_enter Try.func78, Try.ntmps78
  go_wp2
  refine wp_loop_rounds 3 ?_
  rw [rounds_succ]
  go_wp2
  go_region
  go_wp2
  rw [rounds_succ]
  go_wp2
  go_region
  go_wp2
  rw [rounds_succ]
  go_wp2
  go_ret
  refine ⟨_, rfl, Nat.le_refl _, by simp, ?_, ?_, ?_, ?_, by go_grown⟩
  · go_simp
  · go_simp
  · go_simp
  · go_simp
    rw [show (1 : Int) + s + s' = s + s' + 1 by omega]

theorem Lnode.of_new {lo : Nat} {w w' : World} {op n : Int} {sl : Value} {us : List Value} {size : Nat} {e : Ending} (hlo : lo ≤ w.heap.size) (hr : Rv lo w.heap.size w sl us) (h : NewAns w op n sl size e w') :
    ∃ b, e = .returned (.pointer (some ⟨b, 0, none⟩)) ∧ Lnode lo w' (.pointer (some ⟨b, 0, none⟩)) op n us size ∧ Below w.heap.size w w' := by
  obtain ⟨b, he, h1, h2, c0, c1, c2, c3, hb⟩ := h
  exact ⟨b, he, ⟨b, sl, rfl, by omega, h2, c0, c1, c2, c3, (hr.keeps (Keeps.of_all hb)).wide (Nat.le_refl _) hb.size⟩, hb⟩
theorem Lk.sizeCell {lo : Nat} {w : World} {t : Tm} {v : Value} (h : Lk lo w t v) : ∃ b, v = .pointer (some ⟨b, 0, none⟩) ∧ lo ≤ b ∧ b < w.heap.size ∧ w.cell? ⟨b, 3, none⟩ = some (.int .i64 t.size) := by
  obtain ⟨us, ⟨b, sl, e, h1, h2, c0, c1, c2, c3, hr⟩, -⟩ := h.node
  exact ⟨b, e, h1, h2, c3⟩
theorem newLk_0 (lo : Nat) (op n : Int) (sl : Value) (w : World) (hlo : lo ≤ w.heap.size) (hr : Rv lo w.heap.size w sl []) :
    Calls Try.prog 78 #[.int .i64 op, .int .i64 n, sl] w (LkAns lo w (.leaf op n)) := by
  obtain ⟨a, c, rfl, -⟩ := id hr
  exact (newL_0 op n a c w).mono fun e w' h => by
    obtain ⟨b, he, hl, hb⟩ := Lnode.of_new hlo hr h
    exact ⟨b, he, hl, hb⟩
theorem newLk_1 (lo : Nat) (op n : Int) (sl u : Value) (a : Tm) (w : World) (hlo : lo ≤ w.heap.size) (hr : Rv lo w.heap.size w sl [u]) (hu : Lk lo w a u) (hs : a.size ≤ 140737488355328) :
    Calls Try.prog 78 #[.int .i64 op, .int .i64 n, sl] w (fun e w' => ∃ b, e = .returned (.pointer (some ⟨b, 0, none⟩)) ∧ (Lnode lo w' (.pointer (some ⟨b, 0, none⟩)) op n [u] (a.size + 1) ∧ Lk lo w' a u) ∧ Below w.heap.size w w') := by
  obtain ⟨g, o, c, rfl, h1, h2, h3, h4, h5⟩ := hr.one
  obtain ⟨b, rfl, b1, b2, b3⟩ := hu.sizeCell
  exact (newL_1 op n g o c b a.size w h4 b2 h5 b3 hs).mono fun e w' h => by
    obtain ⟨b', he, hl, hb⟩ := Lnode.of_new hlo hr h
    exact ⟨b', he, ⟨hl, hu.below hb⟩, hb⟩
theorem newLk_2 (lo : Nat) (op n : Int) (sl u u' : Value) (a a' : Tm) (w : World) (hlo : lo ≤ w.heap.size) (hr : Rv lo w.heap.size w sl [u, u']) (hu : Lk lo w a u) (hu' : Lk lo w a' u') (hs : a.size ≤ 140737488355328) (hs' : a'.size ≤ 140737488355328) :
    Calls Try.prog 78 #[.int .i64 op, .int .i64 n, sl] w (fun e w' => ∃ b, e = .returned (.pointer (some ⟨b, 0, none⟩)) ∧ (Lnode lo w' (.pointer (some ⟨b, 0, none⟩)) op n [u, u'] (a.size + a'.size + 1) ∧ Lk lo w' a u ∧ Lk lo w' a' u') ∧ Below w.heap.size w w') := by
  obtain ⟨g, o, c, rfl, h1, h2, h3, h4, h5, h6⟩ := hr.two
  obtain ⟨b, rfl, b1, b2, b3⟩ := hu.sizeCell
  obtain ⟨b', rfl, b1', b2', b3'⟩ := hu'.sizeCell
  exact (newL_2 op n g o c b a.size b' a'.size w h4 b2 b2' h5 h6 b3 b3' hs hs').mono fun e w' h => by
    obtain ⟨b', he, hl, hb⟩ := Lnode.of_new hlo hr h
    exact ⟨b', he, ⟨hl, hu.below hb, hu'.below hb⟩, hb⟩
/-- the slice of one or two pointers just made -/
theorem Rv.lit1 {lo : Nat} {w : World} {u : Value} {T : TypeId} (hlo : lo ≤ w.heap.size) : Rv lo (w.alloc (.cells #[u] T)).heap.size (w.alloc (.cells #[u] T)) (.slice (some ⟨w.heap.size, 0, none⟩) 1 1) [u] := by
  refine ⟨_, 1, rfl, Nat.le_refl _, by decide, .inr ⟨w.heap.size, 0, rfl, hlo, by simp, by simp, fun j x hx => ?_⟩⟩
  rw [World.cell?_alloc_at _ _ _ _ rfl]
  match j with
  | 0 => simpa using hx
  | j + 1 => simp at hx
theorem Rv.lit2 {lo : Nat} {w : World} {u u' : Value} {T : TypeId} (hlo : lo ≤ w.heap.size) : Rv lo (w.alloc (.cells #[u, u'] T)).heap.size (w.alloc (.cells #[u, u'] T)) (.slice (some ⟨w.heap.size, 0, none⟩) 2 2) [u, u'] := by
  refine ⟨_, 2, rfl, Nat.le_refl _, by decide, .inr ⟨w.heap.size, 0, rfl, hlo, by simp, by simp, fun j x hx => ?_⟩⟩
  rw [World.cell?_alloc_at _ _ _ _ rfl]
  match j with
  | 0 => simpa using hx
  | 1 => simpa using hx
  | j + 2 => simp at hx

set_option maxHeartbeats 4000000 in
theorem denied_any (lo : Nat) (v : Value) (t : Tm) (w : World) (hlo : lo ≤ w.heap.size) (h : Lk lo w t v) (hs : t.size ≤ 140737488355328) :
    Calls Try.prog 77 #[v] w (LkAns lo w (.deny t)) := by
  have hb0 : ∀ T, Below w.heap.size w (w.alloc (.cells #[v] T)) := fun T => (Below.refl _ _).alloc (Nat.le_refl _) _
  have K := Lib.hid (fun T => newLk_1 lo 3 0 _ v t (w.alloc (.cells #[v] T)) (by simp; omega) (Rv.lit1 hlo) (h.below (hb0 T)) hs)
  have HB := Lib.hid hb0
  obtain ⟨b, rfl, -⟩ := h.ptr
  clear h hb0 hlo hs
  go_enter Try.func77, Try.ntmps77
  go_wp2_with fail
  refine (K.out _).mono ?_
  rintro e w1 ⟨b1, rfl, hl, hb1⟩
  have HL := Lib.hid hl
  have B1 := Lib.hid ((HB.out _).trans (hb1.mono (HB.out _).size))
  clear hl hb1
  go_wp2
  go_ret
  exact ⟨_, rfl, ⟨_, HL.out.1, HL.out.2⟩, B1.out⟩
set_option maxHeartbeats 4000000 in
theorem and_any (lo : Nat) (v v' : Value) (t t' : Tm) (w : World) (hlo : lo ≤ w.heap.size) (h : Lk lo w t v) (h' : Lk lo w t' v') (hs : t.size ≤ 140737488355328) (hs' : t'.size ≤ 140737488355328) :
    Calls Try.prog 76 #[v, v'] w (LkAns lo w (.joint 4 t t')) := by
  have hb0 : ∀ T, Below w.heap.size w (w.alloc (.cells #[v, v'] T)) := fun T => (Below.refl _ _).alloc (Nat.le_refl _) _
  have K := Lib.hid (fun T => newLk_2 lo 4 0 _ v v' t t' (w.alloc (.cells #[v, v'] T)) (by simp; omega) (Rv.lit2 hlo) (h.below (hb0 T)) (h'.below (hb0 T)) hs hs')
  have HB := Lib.hid hb0
  obtain ⟨b, rfl, -⟩ := h.ptr
  obtain ⟨b', rfl, -⟩ := h'.ptr
  clear h h' hb0 hlo hs hs'
  go_enter Try.func76, Try.ntmps76
  go_wp2_with fail
  refine (K.out _).mono ?_
  rintro e w1 ⟨b1, rfl, hl, hb1⟩
  have HL := Lib.hid hl
  have B1 := Lib.hid ((HB.out _).trans (hb1.mono (HB.out _).size))
  clear hl hb1
  go_wp2
  go_ret
  exact ⟨_, rfl, ⟨_, _, HL.out.1, HL.out.2⟩, B1.out⟩
set_option maxHeartbeats 4000000 in
theorem implies_any (lo : Nat) (v v' : Value) (t t' : Tm) (w : World) (hlo : lo ≤ w.heap.size) (h : Lk lo w t v) (h' : Lk lo w t' v') (hs : t.size + t'.size ≤ 140737488355320) :
    Calls Try.prog 75 #[v, v'] w (LkAns lo w (.deny (.joint 4 t (.deny t')))) := by
  have K1 := Lib.hid (denied_any lo v' t' w hlo h' (by omega))
  have K2 := Lib.hid (fun u W (hW : Below w.heap.size w W) hu => and_any lo v u t (.deny t') W (Nat.le_trans hlo hW.size) (h.below hW) hu (by omega) (by simp only [Tm.size]; omega))
  have K3 := Lib.hid (fun u W (hW : Below w.heap.size w W) hu => denied_any lo u (.joint 4 t (.deny t')) W (Nat.le_trans hlo hW.size) hu (by simp only [Tm.size]; omega))
  unfold LkAns at K1 K2 K3
  obtain ⟨b, rfl, -⟩ := h.ptr
  obtain ⟨b', rfl, -⟩ := h'.ptr
  clear h h' hlo hs
  go_enter Try.func75, Try.ntmps75
  go_wp2_with fail
  refine K1.out.mono ?_
  rintro e w1 ⟨b1, rfl, hl, hb1⟩
  have H1 := Lib.hid hl
  have B1 := Lib.hid hb1
  clear hl hb1
  go_wp2_with fail
  refine (K2.out _ _ B1.out H1.out).mono ?_
  rintro e w2 ⟨b2, rfl, hl, hb2⟩
  have H2 := Lib.hid hl
  have B2 := Lib.hid (B1.out.trans (hb2.mono B1.out.size))
  clear hl hb2
  go_wp2_with fail
  refine (K3.out _ _ B2.out H2.out).mono ?_
  rintro e w3 ⟨b3, rfl, hl, hb3⟩
  have H3 := Lib.hid hl
  have B3 := Lib.hid (B2.out.trans (hb3.mono B2.out.size))
  clear hl hb3
  go_wp2
  go_ret
  exact ⟨_, rfl, H3.out, B3.out⟩
end Go.Proofs.Ytnpfnfenkklocaa
