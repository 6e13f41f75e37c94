/-
  Contracts of impl.FormulaOk and of what it calls.
-/
import Derived.Test.YtcdccdcalmnocaaNodes
import Derived.Test.YtcdccdcalmnocaaTermB
namespace Go.Proofs.Ytcdccdcalmnocaa
open Go.RowKit
open Go Go.Deep

set_option maxHeartbeats 400000 in
theorem namesAgent_any (op : Int) (w : World) : Calls Try.prog 64 #[.int .i64 op] w fun e w' => e = .returned (.bool (decide (op = 5 ∨ op = 6))) ∧ w = w' := by
  by_cases h5 : op = 5
  · subst h5
    go_enter Try.func64, Try.ntmps64
    go_wp2
    go_ret
    exact ⟨rfl, rfl⟩
  · by_cases h6 : op = 6
    · subst h6
      go_enter Try.func64, Try.ntmps64
      go_wp2
      go_ret
      exact ⟨rfl, rfl⟩
    · rw [show decide (op = 5 ∨ op = 6) = false by simp [h5, h6]]
      have h6' : (op == 6) = false := by simpa using h6
      have h5' : (op == 5) = false := by simpa using h5
      go_enter Try.func64, Try.ntmps64
      go_wp2
      go_ret
      exact ⟨rfl, rfl⟩

set_option maxHeartbeats 400000 in
theorem limitOfN_any (op : Int) (w : World) : Calls Try.prog 55 #[.int .i64 op] w fun e w' => e = .returned (.int .i64 (limN op)) ∧ w = w' := by
  by_cases h1 : op = 1
  · subst h1
    go_enter Try.func55, Try.ntmps55
    go_wp2
    go_ret
    exact ⟨rfl, rfl⟩
  · by_cases h5 : op = 5 ∨ op = 6
    · rw [limN_eq h5]
      have hd : decide (op = 5 ∨ op = 6) = true := by simpa using h5
      have H1 := Lib.hid h1
      have h1' : (op == 1) = false := by simpa using h1
      have H := fun W => namesAgent_any op W
      rw [hd] at H
      clear hd h5 h1
      go_enter Try.func55, Try.ntmps55
      go_wp2_with (go_at_call 64; refine (H _).mono ?_; rintro e w' ⟨rfl, rfl⟩)
      go_ret
      exact ⟨rfl, rfl⟩
    · rw [show limN op = 1 by unfold limN; rw [if_neg h1, if_neg h5]]
      have hd : decide (op = 5 ∨ op = 6) = false := by simpa using h5
      have h1' : (op == 1) = false := by simpa using h1
      have H := fun W => namesAgent_any op W
      rw [hd] at H
      clear hd h5 h1
      go_enter Try.func55, Try.ntmps55
      go_wp2_with (go_at_call 64; refine (H _).mono ?_; rintro e w' ⟨rfl, rfl⟩)
      go_ret
      exact ⟨rfl, rfl⟩

set_option maxHeartbeats 400000 in
theorem countParts_any (op : Int) (w : World) : Calls Try.prog 56 #[.int .i64 op] w fun e w' => e = .returned (.int .i64 (usesI op : Nat)) ∧ w = w' := by
  by_cases h0 : op = 1 ∨ op = 2
  · rw [usesI_0 h0]
    rcases h0 with rfl | rfl
    all_goals
      go_enter Try.func56, Try.ntmps56
      go_wp2
      go_ret
      exact ⟨rfl, rfl⟩
  · by_cases h4 : op = 4 ∨ op = 9
    · rw [usesI_2 h4]
      rcases h4 with rfl | rfl
      all_goals
        go_enter Try.func56, Try.ntmps56
        go_wp2
        go_ret
        exact ⟨rfl, rfl⟩
    · rw [usesI_1 (by omega)]
      have e1 : (op == 1) = false := by simp; omega
      have e2 : (op == 2) = false := by simp; omega
      have e4 : (op == 4) = false := by simp; omega
      have e9 : (op == 9) = false := by simp; omega
      clear h0 h4
      go_enter Try.func56, Try.ntmps56
      go_wp2
      go_ret
      exact ⟨rfl, rfl⟩

set_option maxHeartbeats 400000 in
theorem indexOk_any (i : Int) (u : Bool) (b : Int) (w : World) : Calls Try.prog 57 #[.int .i64 i, .bool u, .int .i64 b] w fun e w' => e = .returned (.bool (idxOk i u b)) ∧ w = w' := by
  cases u with
  | false =>
    unfold idxOk
    rw [if_neg (by decide)]
    go_enter Try.func57, Try.ntmps57
    go_wp2
    go_ret
    exact ⟨ret_bool (by by_cases h : i = 0 <;> simp [h]), rfl⟩
  | true =>
    unfold idxOk
    rw [if_pos rfl]
    by_cases h0 : 0 ≤ i
    · rw [show decide (0 ≤ i) = true by simpa using h0, Bool.true_and]
      go_enter Try.func57, Try.ntmps57
      go_wp2
      go_ret
      exact ⟨rfl, rfl⟩
    · rw [show decide (0 ≤ i) = false by simpa using h0, Bool.false_and]
      have hn : i < 0 := by omega
      clear h0
      go_enter Try.func57, Try.ntmps57
      go_wp2
      go_ret
      exact ⟨rfl, rfl⟩

set_option maxHeartbeats 2000000 in
theorem nodeOk_no (op n a b : Int) (i : Nat) (w : World) (h : op < 1 ∨ 9 < op ∨ n < 0 ∨ limN op ≤ n) : Calls Try.prog 42 #[.agg #[.int .i64 op, .int .i64 n, .int .i64 a, .int .i64 b], .int .i64 i] w fun e w' => e = .returned (.bool false) ∧ Below w.heap.size w w' := by
  by_cases h1 : op < 1
  · clear h
    go_enter Try.func42, Try.ntmps42
    go_wp2
    go_quiet ((go_at_call 55; exact quiet_eq (limitOfN_any _ _)))
    go_wp2
    go_ret
    exact ⟨rfl, below_drewN' ((Below.refl _ _).alloc (Nat.le_refl _) _) _⟩
  have d1 : decide (op < 1) = false := by simp; omega
  by_cases h2 : 9 < op
  · clear h h1
    go_enter Try.func42, Try.ntmps42
    go_wp2
    go_quiet ((go_at_call 55; exact quiet_eq (limitOfN_any _ _)))
    go_wp2
    go_ret
    exact ⟨rfl, below_drewN' ((Below.refl _ _).alloc (Nat.le_refl _) _) _⟩
  have d2 : decide (9 < op) = false := by simp; omega
  by_cases h3 : n < 0
  · clear h h1 h2
    go_enter Try.func42, Try.ntmps42
    go_wp2
    go_quiet ((go_at_call 55; exact quiet_eq (limitOfN_any _ _)))
    go_wp2
    go_ret
    exact ⟨rfl, below_drewN' ((Below.refl _ _).alloc (Nat.le_refl _) _) _⟩
  have d3 : decide (n < 0) = false := by simp; omega
  have d4 : decide (limN op ≤ n) = true := by simp; omega
  clear h h1 h2 h3
  go_enter Try.func42, Try.ntmps42
  go_wp2
  go_quiet ((go_at_call 55; exact quiet_eq (limitOfN_any _ _)))
  go_wp2
  go_ret
  exact ⟨rfl, below_drewN' ((Below.refl _ _).alloc (Nat.le_refl _) _) _⟩

set_option maxHeartbeats 4000000 in
theorem nodeOk_yes (op n a b : Int) (i : Nat) (w : World) (h : ¬ (op < 1 ∨ 9 < op ∨ n < 0 ∨ limN op ≤ n)) : Calls Try.prog 42 #[.agg #[.int .i64 op, .int .i64 n, .int .i64 a, .int .i64 b], .int .i64 i] w fun e w' => e = .returned (.bool (idxOk a (decide (1 ≤ usesI op)) i && idxOk b (decide (usesI op = 2)) i)) ∧ Below w.heap.size w w' := by
  have d1 : decide (op < 1) = false := by simp; omega
  have d2 : decide (9 < op) = false := by simp; omega
  have d3 : decide (n < 0) = false := by simp; omega
  have d4 : decide (limN op ≤ n) = false := by simp; omega
  have hu := usesI_le op
  have C := fun W => countParts_any op W
  generalize usesI op = u at hu C
  clear h
  have hu' : u = 0 ∨ u = 1 ∨ u = 2 := by omega
  clear hu
  rcases hu' with rfl | rfl | rfl
  · rw [show decide (1 ≤ 0) = false from rfl, show decide (0 = 2) = false from rfl]
    have KC := Lib.hid C
    have K1 := Lib.hid (fun W => indexOk_any a false i W)
    have K2 := Lib.hid (fun W => indexOk_any b false i W)
    clear C
    generalize idxOk a false i = x at K1
    generalize idxOk b false i = y at K2
    cases x
    all_goals
      go_enter Try.func42, Try.ntmps42
      go_wp2
      go_quiet ((go_at_call 55; exact quiet_eq (limitOfN_any _ _)))
      go_wp2_with fail
      refine (KC.out _).mono ?_
      rintro e w' ⟨rfl, rfl⟩
      go_wp2_with fail
      refine (K1.out _).mono ?_
      rintro e w' ⟨rfl, rfl⟩
    · go_wp2
      go_ret
      exact ⟨rfl, below_drewN' ((Below.refl _ _).alloc (Nat.le_refl _) _) _⟩
    · go_wp2_with fail
      refine (K2.out _).mono ?_
      rintro e w' ⟨rfl, rfl⟩
      go_wp2
      go_ret
      exact ⟨rfl, below_drewN' ((Below.refl _ _).alloc (Nat.le_refl _) _) _⟩
  · rw [show decide (1 ≤ 1) = true from rfl, show decide (1 = 2) = false from rfl]
    have KC := Lib.hid C
    have K1 := Lib.hid (fun W => indexOk_any a true i W)
    have K2 := Lib.hid (fun W => indexOk_any b false i W)
    clear C
    generalize idxOk a true i = x at K1
    generalize idxOk b false i = y at K2
    cases x
    all_goals
      go_enter Try.func42, Try.ntmps42
      go_wp2
      go_quiet ((go_at_call 55; exact quiet_eq (limitOfN_any _ _)))
      go_wp2_with fail
      refine (KC.out _).mono ?_
      rintro e w' ⟨rfl, rfl⟩
      go_wp2_with fail
      refine (K1.out _).mono ?_
      rintro e w' ⟨rfl, rfl⟩
    · go_wp2
      go_ret
      exact ⟨rfl, below_drewN' ((Below.refl _ _).alloc (Nat.le_refl _) _) _⟩
    · go_wp2_with fail
      refine (K2.out _).mono ?_
      rintro e w' ⟨rfl, rfl⟩
      go_wp2
      go_ret
      exact ⟨rfl, below_drewN' ((Below.refl _ _).alloc (Nat.le_refl _) _) _⟩
  · rw [show decide (1 ≤ 2) = true from rfl, show decide (2 = 2) = true from rfl]
    have KC := Lib.hid C
    have K1 := Lib.hid (fun W => indexOk_any a true i W)
    have K2 := Lib.hid (fun W => indexOk_any b true i W)
    clear C
    generalize idxOk a true i = x at K1
    generalize idxOk b true i = y at K2
    cases x
    all_goals
      go_enter Try.func42, Try.ntmps42
      go_wp2
      go_quiet ((go_at_call 55; exact quiet_eq (limitOfN_any _ _)))
      go_wp2_with fail
      refine (KC.out _).mono ?_
      rintro e w' ⟨rfl, rfl⟩
      go_wp2_with fail
      refine (K1.out _).mono ?_
      rintro e w' ⟨rfl, rfl⟩
    · go_wp2
      go_ret
      exact ⟨rfl, below_drewN' ((Below.refl _ _).alloc (Nat.le_refl _) _) _⟩
    · go_wp2_with fail
      refine (K2.out _).mono ?_
      rintro e w' ⟨rfl, rfl⟩
      go_wp2
      go_ret
      exact ⟨rfl, below_drewN' ((Below.refl _ _).alloc (Nat.le_refl _) _) _⟩

theorem nodeOk_any (x : Nd) (i : Nat) (w : World) : Calls Try.prog 42 #[x.v, .int .i64 i] w fun e w' => e = .returned (.bool (okAt x i)) ∧ Below w.heap.size w w' := by
  obtain ⟨op, n, a, b⟩ := x
  by_cases h : op < 1 ∨ 9 < op ∨ n < 0 ∨ limN op ≤ n
  · have e : okAt ⟨op, n, a, b⟩ i = false := by
      have : headOk ⟨op, n, a, b⟩ = false := by
        cases hh : headOk ⟨op, n, a, b⟩ with
        | false => rfl
        | true =>
          unfold headOk at hh
          simp only [Bool.and_eq_true, decide_eq_true_eq] at hh
          omega
      unfold okAt; rw [this]; rfl
    rw [e]
    exact nodeOk_no op n a b i w h
  · have e : okAt ⟨op, n, a, b⟩ i = (idxOk a (decide (1 ≤ usesI op)) i && idxOk b (decide (usesI op = 2)) i) := by
      have : headOk ⟨op, n, a, b⟩ = true := by
        unfold headOk
        simp only [Bool.and_eq_true, decide_eq_true_eq]
        omega
      unfold okAt; rw [this, Bool.true_and]
    rw [e]
    exact nodeOk_yes op n a b i w h
end Go.Proofs.Ytcdccdcalmnocaa
