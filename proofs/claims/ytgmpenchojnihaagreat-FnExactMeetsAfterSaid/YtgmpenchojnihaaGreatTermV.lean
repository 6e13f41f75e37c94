/-
  Terms in memory; contracts of letterOf, FormatInt (of 0 to 2), the methods head and parts, nodeOf, newTerm, textOf, depthOfTerm.
-/
import Derived.Test.YtgmpenchojnihaaGreatZForm
import Derived.Test.YtgmpenchojnihaaGreatTermC
namespace Go.Proofs.YtgmpenchojnihaaGreat
open Go.RowKit
open Go Go.Deep

/-- the value of a term -/
def tv : Tm → Value
  | .leaf op n => .iface 154 (.agg #[.int .i64 op, .int .i64 n])
  | .deny a => .iface 156 (.agg #[tv a])
  | .know op n a => .iface 160 (.agg #[.int .i64 op, .int .i64 n, tv a])
  | .joint op a b => .iface 158 (.agg #[.int .i64 op, tv a, tv b])
theorem tv_one (t : Tm) : (tv t).oneCell' = true := by cases t <;> rfl
theorem tv_cells (t : Tm) : (tv t).cells = #[tv t] := by cases t <;> rfl
theorem tv_form (t : Tm) : ∃ ty pv, tv t = .iface ty pv := by cases t <;> exact ⟨_, _, rfl⟩
/-- a string of bytes -/
def str (l : List UInt8) : ByteArray := ⟨l.toArray⟩
theorem str_app (l r : List UInt8) : str l ++ str r = str (l ++ r) := ByteArray.mk_append_mk l r
theorem str_size (l : List UInt8) : (str l).size = l.length := rfl

set_option maxHeartbeats 400000 in
theorem letterOf_any (op : Int) (w : World) (h1 : 2 ≤ op) (h2 : op ≤ 9) : Calls Tryz.prog 191 #[.int .i64 op] w fun e w' => e = .returned (.string (str [letterI op])) ∧ w = w' := by
  have hop : op = 2 ∨ op = 3 ∨ op = 4 ∨ op = 5 ∨ op = 6 ∨ op = 7 ∨ op = 8 ∨ op = 9 := by omega
  rcases hop with rfl | rfl | rfl | rfl | rfl | rfl | rfl | rfl
  all_goals
    go_enter Tryz.func191, Tryz.ntmps191
    go_wp2
    go_ret
    exact ⟨ret_str (by rfl), rfl⟩

set_option maxHeartbeats 1000000 in
theorem small_any (n : Int) (w : World) (h : n = 0 ∨ n = 1 ∨ n = 2) : Calls Tryz.prog 198 #[.int .i64 n] w fun e w' => e = .returned (.string (str [UInt8.ofNat (48 + n.toNat)])) ∧ w = w' := by
  rcases h with rfl | rfl | rfl
  all_goals
    go_enter Tryz.func198, Tryz.ntmps198
    go_wp2
    go_ret
    exact ⟨ret_str (by rfl), rfl⟩

set_option maxHeartbeats 1000000 in
theorem leafHead_any (op n : Int) (w : World) (h : (op = 1 ∨ op = 2) ∧ 0 ≤ n ∧ n < limN op) : Calls Tryz.prog 189 #[.agg #[.int .i64 op, .int .i64 n]] w fun e w' => e = .returned (.string (str (headB op n))) ∧ Below w.heap.size w w' := by
  obtain ⟨h0, h1, h2⟩ := h
  rcases h0 with rfl | rfl
  · have hn : n = 0 ∨ n = 1 ∨ n = 2 ∨ n = 3 := by have : limN 1 = 4 := rfl; omega
    clear h1 h2
    rcases hn with rfl | rfl | rfl | rfl
    all_goals
      go_enter Tryz.func189, Tryz.ntmps189
      go_wp2
      go_ret
      exact ⟨ret_str (by rfl), (Below.refl _ _).alloc (Nat.le_refl _) _⟩
  · clear h1 h2
    have K := Lib.hid (fun W => letterOf_any 2 W (by decide) (by decide))
    go_enter Tryz.func189, Tryz.ntmps189
    go_wp2_with fail
    refine (K.out _).mono ?_
    rintro e w' ⟨rfl, rfl⟩
    go_wp2
    go_ret
    exact ⟨ret_str (by rfl), (Below.refl _ _).alloc (Nat.le_refl _) _⟩
set_option maxHeartbeats 1000000 in
theorem denyHead_any (a : Value) (w : World) : Calls Tryz.prog 192 #[.agg #[a]] w fun e w' => e = .returned (.string (str (headB 3 0))) ∧ Below w.heap.size w w' := by
  have K := Lib.hid (fun W => letterOf_any 3 W (by decide) (by decide))
  go_enter Tryz.func192, Tryz.ntmps192
  go_wp2_with fail
  refine (K.out _).mono ?_
  rintro e w' ⟨rfl, rfl⟩
  go_wp2
  go_ret
  exact ⟨ret_str (by rfl), (Below.refl _ _).alloc (Nat.le_refl _) _⟩
set_option maxHeartbeats 1000000 in
theorem jointHead_any (op : Int) (a b : Value) (w : World) (h : op = 4 ∨ op = 9) : Calls Tryz.prog 194 #[.agg #[.int .i64 op, a, b]] w fun e w' => e = .returned (.string (str (headB op 0))) ∧ Below w.heap.size w w' := by
  have K := Lib.hid (fun W => letterOf_any op W (by omega) (by omega))
  have E : Hid (headB op 0 = [letterI op]) := Lib.hid (by unfold headB; rw [if_neg (by omega), if_neg (by omega)])
  clear h
  go_enter Tryz.func194, Tryz.ntmps194
  go_wp2_with fail
  refine (K.out _).mono ?_
  rintro e w' ⟨rfl, rfl⟩
  go_wp2
  go_ret
  exact ⟨ret_str (by rw [E.out]), (Below.refl _ _).alloc (Nat.le_refl _) _⟩
set_option maxHeartbeats 1000000 in
theorem knowHead_any (op n : Int) (a : Value) (w : World) (h : (op = 5 ∨ op = 6 ∨ op = 7 ∨ op = 8) ∧ 0 ≤ n ∧ n < limN op) : Calls Tryz.prog 196 #[.agg #[.int .i64 op, .int .i64 n, a]] w fun e w' => e = .returned (.string (str (headB op n))) ∧ Below w.heap.size w w' := by
  obtain ⟨h0, h1, h2⟩ := h
  have K := Lib.hid (fun W => letterOf_any op W (by omega) (by omega))
  by_cases h5 : op = 5 ∨ op = 6
  · rw [limN_eq h5] at h2
    have KA := Lib.hid (fun W => namesAgent_any op W)
    rw [show decide (op = 5 ∨ op = 6) = true by simpa using h5] at KA
    have KS := Lib.hid (fun W => small_any n W (by omega))
    have E : Hid (headB op n = [letterI op] ++ [UInt8.ofNat (48 + n.toNat)]) := Lib.hid (by unfold headB; rw [if_neg (by omega), if_pos h5]; rfl)
    clear h0 h1 h2 h5
    have z1 : (str [letterI op]).size ≤ 1 := Nat.le_refl _
    have z2 : (str [UInt8.ofNat (48 + n.toNat)]).size ≤ 1 := Nat.le_refl _
    rw [show str (headB op n) = str [letterI op] ++ str [UInt8.ofNat (48 + n.toNat)] by rw [E.out, str_app]]
    clear E
    generalize str [letterI op] = s1 at *
    generalize str [UInt8.ofNat (48 + n.toNat)] = s2 at *
    have hadd := fun W => run_string_add_sum (P := Tryz.prog) W s1 s2 (by omega)
    go_enter Tryz.func196, Tryz.ntmps196
    go_wp2_with fail
    refine (KA.out _).mono ?_
    rintro e w' ⟨rfl, rfl⟩
    go_wp2
    go_quiet ((first | (go_at_call 191; exact quiet_eq (K.out _)) | (go_at_call 198; exact quiet_eq (KS.out _))))
    go_wp2
    go_ret
    exact ⟨rfl, below_drewN' ((Below.refl _ _).alloc (Nat.le_refl _) _) _⟩
  · have KA := Lib.hid (fun W => namesAgent_any op W)
    rw [show decide (op = 5 ∨ op = 6) = false by simpa using h5] at KA
    have E : Hid (headB op n = [letterI op]) := Lib.hid (by unfold headB; rw [if_neg (by omega), if_neg h5])
    clear h0 h1 h2 h5
    go_enter Tryz.func196, Tryz.ntmps196
    go_wp2_with fail
    refine (KA.out _).mono ?_
    rintro e w' ⟨rfl, rfl⟩
    go_wp2_with fail
    refine (K.out _).mono ?_
    rintro e w' ⟨rfl, rfl⟩
    go_wp2
    go_ret
    exact ⟨ret_str (by rw [E.out]), (Below.refl _ _).alloc (Nat.le_refl _) _⟩

/-- the slice of parts that a method makes -/
def PartsAre (w w' : World) (v : Value) (xs : List Value) : Prop :=
  ∃ g, v = .slice (some ⟨g, 0, none⟩) xs.length xs.length ∧ w.heap.size ≤ g ∧ g < w'.heap.size ∧ ∀ j, j < xs.length → w'.cell? ⟨g, j, none⟩ = some (xs.getD j undef)
set_option maxHeartbeats 1000000 in
theorem leafParts_any (op n : Int) (w : World) : Calls Tryz.prog 190 #[.agg #[.int .i64 op, .int .i64 n]] w fun e w' => e = .returned (.slice none 0 0) ∧ Below w.heap.size w w' := by
  go_enter Tryz.func190, Tryz.ntmps190
  go_wp2
  go_ret
  exact ⟨rfl, (Below.refl _ _).alloc (Nat.le_refl _) _⟩
set_option maxHeartbeats 1000000 in
theorem denyParts_any (a : Tm) (w : World) : Calls Tryz.prog 193 #[.agg #[tv a]] w fun e w' => ∃ v, e = .returned v ∧ PartsAre w w' v [tv a] ∧ Below w.heap.size w w' := by
  obtain ⟨ty, pv, hx⟩ := tv_form a
  rw [hx]
  clear hx
  go_enter Tryz.func193, Tryz.ntmps193
  go_wp2
  go_ret
  refine ⟨_, rfl, ⟨_, rfl, by simp, by simp, fun j hj => ?_⟩, ((Below.refl _ _).alloc (Nat.le_refl _) _).alloc (by simp) _⟩
  obtain rfl : j = 0 := by have : j < 1 := hj; omega
  rw [World.cell?_alloc_at _ _ _ _ (by simp)]; rfl
set_option maxHeartbeats 1000000 in
theorem knowParts_any (op n : Int) (a : Tm) (w : World) : Calls Tryz.prog 197 #[.agg #[.int .i64 op, .int .i64 n, tv a]] w fun e w' => ∃ v, e = .returned v ∧ PartsAre w w' v [tv a] ∧ Below w.heap.size w w' := by
  obtain ⟨ty, pv, hx⟩ := tv_form a
  rw [hx]
  clear hx
  go_enter Tryz.func197, Tryz.ntmps197
  go_wp2
  go_ret
  refine ⟨_, rfl, ⟨_, rfl, by simp, by simp, fun j hj => ?_⟩, ((Below.refl _ _).alloc (Nat.le_refl _) _).alloc (by simp) _⟩
  obtain rfl : j = 0 := by have : j < 1 := hj; omega
  rw [World.cell?_alloc_at _ _ _ _ (by simp)]; rfl
set_option maxHeartbeats 1000000 in
theorem jointParts_any (op : Int) (a b : Tm) (w : World) : Calls Tryz.prog 195 #[.agg #[.int .i64 op, tv a, tv b]] w fun e w' => ∃ v, e = .returned v ∧ PartsAre w w' v [tv a, tv b] ∧ Below w.heap.size w w' := by
  obtain ⟨ty, pv, hx⟩ := tv_form a
  rw [hx]
  clear hx
  obtain ⟨ty', pv', hx⟩ := tv_form b
  rw [hx]
  clear hx
  go_enter Tryz.func195, Tryz.ntmps195
  go_wp2
  go_ret
  refine ⟨_, rfl, ⟨_, rfl, by simp, by simp, fun j hj => ?_⟩, ((Below.refl _ _).alloc (Nat.le_refl _) _).alloc (by simp) _⟩
  have hj' : j = 0 ∨ j = 1 := by have : j < 2 := hj; omega
  rcases hj' with rfl | rfl
  · rw [World.cell?_alloc_at _ _ _ _ (by simp)]; rfl
  · rw [World.cell?_alloc_at _ _ _ _ (by simp)]; rfl
end Go.Proofs.YtgmpenchojnihaaGreat
