/-
  Contracts of the laws' helpers over []string: eqStringS (of equal lists), markText, markStringS, heldStringS. Conditions: lists of at most 2097152 elements.
-/
import Derived.Test.YtodjohdbngbpaaaGreatRows
import Derived.Test.YtodjohdbngbpaaaGreatZLib
import Derived.Deep.OwnRows
import Derived.Deep.RegionHeld3
import Derived.WalkSpells
namespace Go.Proofs.YtodjohdbngbpaaaGreat
open Go.RowKit
open Go Go.Deep

theorem Tryz.infoStr : (Tryz.prog.info? 9).map (fun i => (i.zero, i.size, i.bytes)) = some (some (.string ByteArray.empty), 1, 16) := by kernel_rfl
/-- the slice v reads, in w, as the one-cell values xs -/
def Rs (w : World) (v : Value) (xs : List Value) : Prop :=
  ∃ a cap, v = .slice a xs.length cap ∧ xs.length ≤ cap ∧ cap ≤ maxLen ∧ (xs = [] ∨ ∃ b o, a = some ⟨b, o, none⟩ ∧ b < w.heap.size ∧ ∀ j x, xs[j]? = some x → w.cell? ⟨b, o + j, none⟩ = some x)
theorem Rs.of_own {w : World} {base : Nat} {e : TypeId} {v : Value} {n : Nat} {xs : List Value} (h : w.ownsRow base e 1 v n xs) : Rs w v xs := by
  have hl : xs.length = n := by have := h.1; omega
  rcases h.2 with ⟨rfl, h0⟩ | ⟨g, cap, cur, rfl, hb, hg, hn, hm, hc, ht⟩
  · have : xs = [] := by cases xs with
      | nil => rfl
      | cons a t => simp at hl; omega
    subst this
    exact ⟨none, 0, rfl, Nat.le_refl _, by decide, .inl rfl⟩
  · subst hl
    refine ⟨_, cap, rfl, hn, hm, .inr ⟨g, 0, rfl, (Array.getElem?_eq_some_iff.1 hg).1, fun j x hx => ?_⟩⟩
    have hj : j < xs.length := by
      rcases Nat.lt_or_ge j xs.length with h' | h'
      · exact h'
      · rw [List.getElem?_eq_none h'] at hx; cases hx
    rw [Nat.zero_add, h.cellAt j (by omega), hx]
theorem Rs.below {w w' : World} {v : Value} {xs : List Value} {B : Nat} (h : Rs w v xs) (hb : Below B w w') (hB : w.heap.size ≤ B) : Rs w' v xs := by
  obtain ⟨a, cap, rfl, h1, h2, h3⟩ := h
  refine ⟨a, cap, rfl, h1, h2, ?_⟩
  rcases h3 with h3 | ⟨b, o, rfl, hlt, hc⟩
  · exact .inl h3
  · exact .inr ⟨b, o, rfl, Nat.lt_of_lt_of_le hlt hb.size, fun j x hx => by rw [hb.cell (p := ⟨b, o + j, none⟩) (by show b < B; omega)]; exact hc j x hx⟩
theorem Rs.drewN {w : World} {v : Value} {xs : List Value} (h : Rs w v xs) (n : Nat) : Rs (w.drewN n) v xs := h

/-- markText's loop -/
def mdigs : Nat → Nat → List UInt8 → List UInt8
  | 0, _, acc => acc
  | f + 1, k, acc => if k = 0 then acc else mdigs f (k / 10) ((48 + UInt8.ofNat (k % 10)) :: acc)
def mtext (k : Nat) : ByteArray := ⟨(109 :: mdigs k k []).toArray⟩
theorem mdigs_zero : ∀ (f : Nat) (acc : List UInt8), mdigs f 0 acc = acc
  | 0, _ => rfl
  | f + 1, _ => by simp [mdigs]
theorem mdigs_len : ∀ (f k : Nat) (acc : List UInt8), (mdigs f k acc).length ≤ acc.length + f
  | 0, _, _ => by simp [mdigs]
  | f + 1, k, acc => by
    unfold mdigs
    split
    · omega
    · have := mdigs_len f (k / 10) ((48 + UInt8.ofNat (k % 10)) :: acc)
      simp at this ⊢; omega

/-- what markStringS leaves: the texts of k, k + 1 .. -/
def marks (k n : Nat) : List Value := (List.range n).map fun i => .string (mtext (k + i))

theorem marks_len (k n : Nat) : (marks k n).length = n := by simp [marks]
theorem marks_succ (k n : Nat) : marks k (n + 1) = marks k n ++ [.string (mtext (k + n))] := by
  unfold marks; rw [List.range_succ, List.map_append]; rfl
theorem marks_cell {w1 : World} {base g cap k n i : Nat} {xs : List Value} (h : w1.ownsRow base 9 1 (.slice (some ⟨g, 0, none⟩) n cap) n (marks k i ++ xs.drop i)) (hi : i < n) (hl : xs.length = n) : ∃ x0, w1.cell? ⟨g, i, none⟩ = some x0 := by
  rw [h.cellAt i (by omega), List.getElem?_append_right (by rw [marks_len]; exact Nat.le_refl _), marks_len, Nat.sub_self, List.getElem?_drop, List.getElem?_eq_getElem (by omega)]
  exact ⟨_, rfl⟩
theorem marks_step {wr w1 : World} {base g cap k n i : Nat} {xs : List Value} (h : wr.ownsRow base 9 1 (.slice (some ⟨g, 0, none⟩) n cap) n (marks k i ++ xs.drop i)) (hb : Below wr.heap.size wr w1) (hi : i < n) (hl : xs.length = n) :
    (w1.setCell ⟨g, i, none⟩ (.string (mtext (k + i)))).ownsRow base 9 1 (.slice (some ⟨g, 0, none⟩) n cap) n (marks k (i + 1) ++ xs.drop (i + 1)) := by
  have h1 := ((own_below h hb (Nat.le_refl _)).stored i (.string (mtext (k + i)))).1
  rw [marks_succ, List.append_assoc]
  rw [List.set_append_right _ _ (by rw [marks_len]; exact Nat.le_refl _), marks_len, Nat.sub_self, List.drop_eq_getElem_cons (by omega), List.set_cons_zero] at h1
  exact h1

end Go.Proofs.YtodjohdbngbpaaaGreat
