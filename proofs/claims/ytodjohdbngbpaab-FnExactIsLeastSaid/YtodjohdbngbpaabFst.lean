/-
  slices.Index at bools and worldSet.first: the least world of a set that has one. No condition but that.
-/
import Derived.Test.YtodjohdbngbpaabZFen
namespace Go.Proofs.Ytodjohdbngbpaab
open Go.RowKit Go.WideShapes
open Go Go.Deep
set_option linter.unusedSimpArgs false

set_option maxRecDepth 100000 in
set_option maxHeartbeats 4000000 in
theorem indexB_any (b : Nat) (T : TypeId) (p : Nat → Bool) (q : Nat) (w : World) (hc : Cm w b T (bL p)) (hq : q < 16) (hp : p q = true) (hmin : ∀ j, j < q → p j = false) :
    Calls Try.prog 49 #[.slice (some ⟨b, 0, none⟩) 16 16, .bool true] w fun e w' => e = .returned (.int .i64 q) ∧ w = w' := by
  have HC := Lib.hid (fun j (h : j < 16) => (show w.cell? ⟨b, j, none⟩ = some (.bool (p j)) by rw [hc.cell, bL_get p h]))
  have HP := Lib.hid hp
  have HM := Lib.hid hmin
  clear hc hp hmin
  go_enter Try.func49, Try.ntmps49
  go_wp2
  go_loop [5, 8] (fun _ i => ∃ k : Nat, k ≤ q ∧ i = .int .i64 k) (fun _ i => 16 - (intOf i).toNat)
  case atStart => exact ⟨0, Nat.zero_le _, rfl⟩
  case round =>
    obtain ⟨k, hk, rfl⟩ := hrel
    have hlt : k < 16 := by omega
    have hlt' : (k : Int) < 16 := by omega
    have hk0 : (0 : Int) ≤ (k : Int) := Int.natCast_nonneg _
    have c0 := HC.out k hlt
    by_cases e : k = q
    · subst e
      rw [HP.out] at c0
      go_wp2
      go_ret
      exact ⟨rfl, rfl⟩
    · rw [HM.out k (by omega)] at c0
      go_wp2
      go_round
      case rel => exact ⟨k + 1, by omega, by go_num⟩
      case measure => simp [intOf]; omega

/-- the least world of a set -/
def headL (p : Nat → Bool) : Nat := (lst p 16).headD 0
theorem headL_at {p : Nat → Bool} {i : Nat} (hi : i < 16) (hp : p i = true) : headL p < 16 ∧ p (headL p) = true ∧ ∀ j, j < headL p → p j = false := by
  have hm : i ∈ lst p 16 := mem_lst.2 ⟨hi, hp⟩
  have hpw : (lst p 16).Pairwise (· < ·) := List.Pairwise.sublist List.filter_sublist List.pairwise_lt_range
  unfold headL
  cases hl : lst p 16 with
  | nil => rw [hl] at hm; cases hm
  | cons a r =>
    have ha : a ∈ lst p 16 := by rw [hl]; exact List.mem_cons_self ..
    refine ⟨(mem_lst.1 ha).1, (mem_lst.1 ha).2, fun j hj => ?_⟩
    have hj' : j < a := hj
    rw [Bool.eq_false_iff]
    intro hpj
    have hjm : j ∈ lst p 16 := mem_lst.2 ⟨by have := (mem_lst.1 ha).1; omega, hpj⟩
    rw [hl] at hjm hpw
    rcases List.mem_cons.1 hjm with e | e
    · omega
    · have := (List.pairwise_cons.1 hpw).1 j e
      omega

set_option maxRecDepth 100000 in
set_option maxHeartbeats 4000000 in
theorem first_any (p : Nat → Bool) (w : World) (h : ∃ i, i < 16 ∧ p i = true) :
    Calls Try.prog 42 #[.agg (bL p).toArray] w fun e w' => e = .returned (.int .i64 (headL p : Nat)) ∧ Below w.heap.size w w' := by
  obtain ⟨i, hi, hp⟩ := h
  obtain ⟨h1, h2, h3⟩ := headL_at hi hp
  have KI := Lib.hid (fun b W (hc : Cm W b 60 (bL p)) => indexB_any b 60 p (headL p) W hc h1 h2 h3)
  generalize headL p = q at *
  generalize bL p = V at *
  clear h1 h2 h3 hi hp
  go_enter Try.func42, Try.ntmps42
  go_wp2_with fail
  refine (KI.out _ _ (Cm.new rfl)).mono ?_
  rintro e w1 ⟨rfl, rfl⟩
  go_wp2
  go_ret
  exact ⟨rfl, by go_grown⟩
end Go.Proofs.Ytodjohdbngbpaab
