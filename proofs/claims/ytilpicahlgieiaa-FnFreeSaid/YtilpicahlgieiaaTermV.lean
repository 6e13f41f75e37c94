/-
  Terms in memory; contracts of letterOf, FormatInt (of 0 to 2), the methods head and parts, nodeOf, newTerm, textOf, depthOfTerm.
-/
import Derived.Test.YtilpicahlgieiaaZForm
import Derived.Test.YtilpicahlgieiaaTermC
namespace Go.Proofs.Ytilpicahlgieiaa
open Go.RowKit
open Go Go.Deep

/-- the value of a term -/
def tv : Tm → Value
  | .leaf op n => .iface 96 (.agg #[.int .i64 op, .int .i64 n])
  | .deny a => .iface 98 (.agg #[tv a])
  | .know op n a => .iface 102 (.agg #[.int .i64 op, .int .i64 n, tv a])
  | .joint op a b => .iface 100 (.agg #[.int .i64 op, tv a, tv b])
theorem tv_one (t : Tm) : (tv t).oneCell' = true := by cases t <;> rfl
theorem tv_cells (t : Tm) : (tv t).cells = #[tv t] := by cases t <;> rfl
theorem tv_form (t : Tm) : ∃ ty pv, tv t = .iface ty pv := by cases t <;> exact ⟨_, _, rfl⟩
/-- a string of bytes -/
def str (l : List UInt8) : ByteArray := ⟨l.toArray⟩
theorem str_app (l r : List UInt8) : str l ++ str r = str (l ++ r) := ByteArray.mk_append_mk l r
theorem str_size (l : List UInt8) : (str l).size = l.length := rfl

/-- the slice of parts that a method makes -/
def PartsAre (w w' : World) (v : Value) (xs : List Value) : Prop :=
  ∃ g, v = .slice (some ⟨g, 0, none⟩) xs.length xs.length ∧ w.heap.size ≤ g ∧ g < w'.heap.size ∧ ∀ j, j < xs.length → w'.cell? ⟨g, j, none⟩ = some (xs.getD j undef)
set_option maxHeartbeats 1000000 in
theorem leafParts_any (op n : Int) (w : World) : Calls Try.prog 104 #[.agg #[.int .i64 op, .int .i64 n]] w fun e w' => e = .returned (.slice none 0 0) ∧ Below w.heap.size w w' := by
  go_enter Try.func104, Try.ntmps104
  go_wp2
  go_ret
  exact ⟨rfl, (Below.refl _ _).alloc (Nat.le_refl _) _⟩
set_option maxHeartbeats 1000000 in
theorem denyParts_any (a : Tm) (w : World) : Calls Try.prog 106 #[.agg #[tv a]] w fun e w' => ∃ v, e = .returned v ∧ PartsAre w w' v [tv a] ∧ Below w.heap.size w w' := by
  obtain ⟨ty, pv, hx⟩ := tv_form a
  rw [hx]
  clear hx
  go_enter Try.func106, Try.ntmps106
  go_wp2
  go_ret
  refine ⟨_, rfl, ⟨_, rfl, by simp, by simp, fun j hj => ?_⟩, ((Below.refl _ _).alloc (Nat.le_refl _) _).alloc (by simp) _⟩
  obtain rfl : j = 0 := by have : j < 1 := hj; omega
  rw [World.cell?_alloc_at _ _ _ _ (by simp)]; rfl
set_option maxHeartbeats 1000000 in
theorem knowParts_any (op n : Int) (a : Tm) (w : World) : Calls Try.prog 110 #[.agg #[.int .i64 op, .int .i64 n, tv a]] w fun e w' => ∃ v, e = .returned v ∧ PartsAre w w' v [tv a] ∧ Below w.heap.size w w' := by
  obtain ⟨ty, pv, hx⟩ := tv_form a
  rw [hx]
  clear hx
  go_enter Try.func110, Try.ntmps110
  go_wp2
  go_ret
  refine ⟨_, rfl, ⟨_, rfl, by simp, by simp, fun j hj => ?_⟩, ((Below.refl _ _).alloc (Nat.le_refl _) _).alloc (by simp) _⟩
  obtain rfl : j = 0 := by have : j < 1 := hj; omega
  rw [World.cell?_alloc_at _ _ _ _ (by simp)]; rfl
set_option maxHeartbeats 1000000 in
theorem jointParts_any (op : Int) (a b : Tm) (w : World) : Calls Try.prog 108 #[.agg #[.int .i64 op, tv a, tv b]] w fun e w' => ∃ v, e = .returned v ∧ PartsAre w w' v [tv a, tv b] ∧ Below w.heap.size w w' := by
  obtain ⟨ty, pv, hx⟩ := tv_form a
  rw [hx]
  clear hx
  obtain ⟨ty', pv', hx⟩ := tv_form b
  rw [hx]
  clear hx
  go_enter Try.func108, Try.ntmps108
  go_wp2
  go_ret
  refine ⟨_, rfl, ⟨_, rfl, by simp, by simp, fun j hj => ?_⟩, ((Below.refl _ _).alloc (Nat.le_refl _) _).alloc (by simp) _⟩
  have hj' : j = 0 ∨ j = 1 := by have : j < 2 := hj; omega
  rcases hj' with rfl | rfl
  · rw [World.cell?_alloc_at _ _ _ _ (by simp)]; rfl
  · rw [World.cell?_alloc_at _ _ _ _ (by simp)]; rfl
end Go.Proofs.Ytilpicahlgieiaa
