/- Strs -/
import Derived.Test.YtnpfnfenkklocaaGreatDoorZLib
set_option maxRecDepth 100000
set_option maxHeartbeats 64000000
namespace Go.Proofs.YtnpfnfenkklocaaGreatDoor
open Go.RowKit
open Go Go.Deep
def Rs (w : World) (v : Value) (xs : List Value) : Prop :=
  ∃ a cap, v = .slice a xs.length cap ∧ xs.length ≤ cap ∧ cap ≤ maxLen ∧ (xs = [] ∨ ∃ b o, a = some ⟨b, o, none⟩ ∧ b < w.heap.size ∧ ∀ j x, xs[j]? = some x → w.cell? ⟨b, o + j, none⟩ = some x)
theorem Rs.of_own {w : World} {base : Nat} {e : TypeId} {v : Value} {n : Nat} {xs : List Value} (h : w.ownsRow base e 1 v n xs) : Rs w v xs := by
  have hl : xs.length = n := by have := h.1; omega
  rcases h.2 with ⟨rfl, h0⟩ | ⟨g, cap, cur, rfl, hb, hg, hn, hm, hc, ht⟩
  · have : xs = [] := by cases xs with
      | nil => rfl
      | cons a t => simp at hl; omega
    subst this
    exact ⟨none, 0, rfl, Nat.le_refl _, by decide, .inl rfl⟩
  · subst hl
    refine ⟨_, cap, rfl, hn, hm, .inr ⟨g, 0, rfl, (Array.getElem?_eq_some_iff.1 hg).1, fun j x hx => ?_⟩⟩
    have hj : j < xs.length := by
      rcases Nat.lt_or_ge j xs.length with h' | h'
      · exact h'
      · rw [List.getElem?_eq_none h'] at hx; cases hx
    rw [Nat.zero_add, h.cellAt j (by omega), hx]
def mdigs : Nat → Nat → List UInt8 → List UInt8
  | 0, _, acc => acc
  | f + 1, k, acc => if k = 0 then acc else mdigs f (k / 10) ((48 + UInt8.ofNat (k % 10)) :: acc)
def mtext (k : Nat) : ByteArray := ⟨(109 :: mdigs k k []).toArray⟩
def marks (k n : Nat) : List Value := (List.range n).map fun i => .string (mtext (k + i))
end Go.Proofs.YtnpfnfenkklocaaGreatDoor
