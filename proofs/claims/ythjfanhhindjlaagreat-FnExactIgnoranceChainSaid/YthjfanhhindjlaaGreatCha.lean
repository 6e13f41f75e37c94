/-
  impl.ChainAgents: the first agents who confuse the neighbours in a list. No condition but the readings.
-/
import Derived.Test.YthjfanhhindjlaaGreatZRch
import Derived.Test.YthjfanhhindjlaaGreatZSem
namespace Go.Proofs.YthjfanhhindjlaaGreat
open Go.RowKit Go.WideShapes
open Go Go.Deep
set_option linter.unusedSimpArgs false

/-- an answer: a new list of ints, and a bool -/
def IntsAns2 (w : World) (l : List Int) (ok : Bool) (e : Ending) (w' : World) : Prop := ∃ v, e = .returned (.tuple #[v, .bool ok]) ∧ Io w.heap.size w'.heap.size w' v l ∧ Below w.heap.size w w'
/-- the worlds at places i and i + 1 of a list are near -/
def nrA (m : Md) (l : List Int) (i : Nat) : Bool := near m.blocks m.blocks.length (l.getD i 0).toNat (l.getD (i + 1) 0).toNat
def agA (m : Md) (l : List Int) (i : Nat) : Nat := fstA m.blocks m.blocks.length (l.getD i 0).toNat (l.getD (i + 1) 0).toNat
def inAll (l : List Int) (n : Nat) : Bool := (List.range l.length).all fun i => inB (l.getD i 0) n
def chOk (m : Md) (l : List Int) : Bool := mdOk m && inAll l m.facts.length && (List.range (l.length - 1)).all (nrA m l)
def chR (m : Md) (l : List Int) : List Int := if chOk m l then nums ((List.range (l.length - 1)).map (agA m l)) else []
theorem chR_len (m : Md) (l : List Int) : (chR m l).length ≤ l.length := by
  unfold chR
  split
  · rw [nums_len, List.length_map, List.length_range]; omega
  · simp
theorem inAll_at {l : List Int} {n k : Nat} (h : inAll l n = true) (hk : k < l.length) : ∃ i : Nat, i < n ∧ l.getD k 0 = (i : Int) := by
  unfold inAll at h
  rw [List.all_eq_true] at h
  obtain ⟨h0, h1⟩ := inB_parts (h k (List.mem_range.2 hk))
  obtain ⟨i, hi⟩ := Int.eq_ofNat_of_zero_le h0
  exact ⟨i, by omega, hi⟩
theorem mapR_succ {f : Nat → Nat} (k : Nat) : nums ((List.range (k + 1)).map f) = nums ((List.range k).map f) ++ [(f k : Int)] := by
  rw [List.range_succ, List.map_append, nums_app]; rfl

end Go.Proofs.YthjfanhhindjlaaGreat
