/-
  The walks of the laws FnExactIsDigits and FnExactIsName: each returns true, the world has at most new blocks. No condition.
-/
import Derived.Test.YtmniigplfhmbjaaTextA
namespace Go.Proofs.Ytmniigplfhmbjaa
open Go.RowKit
open Go

set_option maxHeartbeats 400000 in
theorem walk_FnExactIsDigits (a0 : ByteArray) (w : World) (w0 : a0.size ≤ maxLen) :
    Calls Try.prog 3 #[.string a0] w fun e w' => e = .returned (.bool true) ∧ Below w.heap.size w w' := by
  by_cases h : 1048576 < a0.size
  · go_enter Try.func3, Try.ntmps3
    go_wp2
    go_ret
    exact ⟨rfl, Below.refl _ _⟩
  · go_enter Try.func3, Try.ntmps3
    go_wp2_with (first | (go_at_call 9; refine (specDigits_any _ _ w0).mono ?_; rintro e w' ⟨rfl, rfl⟩) | (go_at_call 10; refine (implDigits_any _ _).mono ?_; rintro e w' ⟨rfl, pos, rfl⟩))
    go_ret
    exact ⟨rfl, (Below.refl _ _).alloc (Nat.le_refl _) _⟩

set_option maxHeartbeats 400000 in
theorem walk_FnExactIsName (a0 : ByteArray) (w : World) (w0 : a0.size ≤ maxLen) :
    Calls Try.prog 4 #[.string a0] w fun e w' => e = .returned (.bool true) ∧ Below w.heap.size w w' := by
  by_cases h : 1048576 < a0.size
  · go_enter Try.func4, Try.ntmps4
    go_wp2
    go_ret
    exact ⟨rfl, Below.refl _ _⟩
  · go_enter Try.func4, Try.ntmps4
    go_wp2_with fail
    refine (specName_any _ _ w0).mono ?_
    rintro e w' ⟨rfl, rfl⟩
    go_wp2_with fail
    refine (implName_any _ _ w0).mono ?_
    rintro e w' ⟨rfl, rfl | ⟨pos, rfl⟩⟩
    · go_wp2
      go_ret
      exact ⟨rfl, Below.refl _ _⟩
    · go_wp2
      go_ret
      exact ⟨rfl, (Below.refl _ _).alloc (Nat.le_refl _) _⟩
end Go.Proofs.Ytmniigplfhmbjaa
