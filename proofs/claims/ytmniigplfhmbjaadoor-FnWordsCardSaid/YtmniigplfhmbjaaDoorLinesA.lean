/-
  Contracts of spec.SplitLines and impl.SplitLines, and the walk of the law FnExactSplitLines. Condition of the contracts: the string has at most 1048576 bytes.
-/
import Derived.Test.YtmniigplfhmbjaaDoorSplitA
import Derived.Test.YtmniigplfhmbjaaDoorStrs
namespace Go.Proofs.YtmniigplfhmbjaaDoor
open Go.RowKit
open Go Go.Deep

def nlB : ByteArray := ⟨#[10]⟩
def lineInit (s : ByteArray) : List ByteArray := (splitTo nlB.data.toList s s.size).1
def lineLast (s : ByteArray) : ByteArray := s.extract (splitTo nlB.data.toList s s.size).2 s.size
def linesOf (s : ByteArray) : List ByteArray := if (lineLast s).toList = [] then lineInit s else lineInit s ++ [lineLast s]
theorem linesOf_len (s : ByteArray) (h : s.size ≤ 1048576) : (linesOf s).length ≤ 2097152 := by
  have := (splitTo_le nlB.data.toList s s.size).2
  unfold linesOf lineInit
  split <;> simp <;> omega
theorem own_shape {w : World} {base : Nat} {e : TypeId} {v : Value} {n : Nat} {xs : List Value} (h : w.ownsRow base e 1 v n xs) (hn : 0 < n) : ∃ g cap, v = .slice (some ⟨g, 0, none⟩) n cap ∧ base ≤ g ∧ n ≤ cap ∧ cap ≤ maxLen := by
  rcases h.2 with ⟨rfl, h0⟩ | ⟨g, cap, cur, rfl, hb, _, h1, h2, _⟩
  · omega
  · exact ⟨g, cap, rfl, hb, h1, h2⟩
/-- a row cut by its last element -/
theorem own_pop {w : World} {base g cap n : Nat} {e : TypeId} {xs : List Value} {x : Value} (h : w.ownsRow base e 1 (.slice (some ⟨g, 0, none⟩) (n + 1) cap) (n + 1) (xs ++ [x])) : w.ownsRow base e 1 (.slice (some ⟨g, 0, none⟩) n cap) n xs := by
  rcases h.2 with ⟨h', _⟩ | ⟨g', cap', cur, h', hb, hg, h1, h2, h3, h4⟩
  · simp at h'
  · simp only [Value.slice.injEq, Option.some.injEq, Addr.mk.injEq, and_true, true_and] at h'
    obtain ⟨rfl, rfl⟩ := h'
    have hl : xs.length = n := by have := h.1; simp at this; omega
    refine ⟨by omega, .inr ⟨g, cap, cur, rfl, hb, hg, by omega, h2, h3, ?_⟩⟩
    have h5 := congrArg (List.take n) h4
    rw [List.take_take, List.take_append_of_le_length (by omega), List.take_of_length_le (l := xs) (by omega)] at h5
    rw [← h5]
    congr 1
    omega

set_option maxHeartbeats 1000000 in
theorem implLines_any (s : ByteArray) (w : World) (hs : s.size ≤ 1048576) :
    Calls Tryd.prog 13 #[.string s] w fun e w' => ∃ v, e = .returned v ∧
      w'.ownsRow w.heap.size 9 1 v (linesOf s).length ((linesOf s).map Value.string) ∧ Below w.heap.size w w' := by
  have H1 : ∀ W, Calls Tryd.prog 11 #[.string s, .string ⟨#[10]⟩] W fun e w' => ∃ v, e = .returned v ∧ w'.ownsRow W.heap.size 9 1 v ((lineInit s).length + 1) ((lineInit s).map Value.string ++ [.string (lineLast s)]) ∧ Below W.heap.size W w' := fun W =>
    (implSplit_any s nlB W hs (by decide)).mono fun e w' ⟨v, h1, h2, h3⟩ => ⟨v, h1, by simpa [splitAll, lineInit, lineLast] using h2, h3⟩
  have hlen : (lineInit s).length ≤ s.size := (splitTo_le nlB.data.toList s s.size).2
  have K1 := Lib.hid H1
  clear H1
  by_cases hx : (lineLast s).toList = []
  · rw [show linesOf s = lineInit s from if_pos hx]
    generalize lineInit s = ps at K1 hlen ⊢
    generalize lineLast s = x at K1 hx ⊢
    have HX := Lib.hid hx
    clear hx
    go_enter Tryd.func13, Tryd.ntmps13
    go_wp2_with fail
    refine (K1.out _).mono ?_
    rintro e w1 ⟨v, rfl, ho, hb⟩
    obtain ⟨g, cap, rfl, hbg, hcap, hmax⟩ := own_shape ho (by omega)
    have hc : w1.cell? ⟨g, ps.length, none⟩ = some (.string x) := by rw [ho.cellAt _ (by omega)]; simp
    have O1 := Lib.hid (own_pop ho); have B1 := Lib.hid hb; clear ho hb
    unfold maxLen at hmax
    have hxe : x.toList.isEmpty = true := by rw [HX.out]; rfl
    have hxl : x.toList = [] := HX.out
    go_wp2
    go_ret
    exact ⟨_, rfl, O1.out, B1.out⟩
  · rw [show linesOf s = lineInit s ++ [lineLast s] from if_neg hx]
    generalize lineInit s = ps at K1 hlen ⊢
    generalize lineLast s = x at K1 hx ⊢
    have hxe : x.toList.isEmpty = false := by simpa using hx
    have HX := Lib.hid hx
    clear hx
    go_enter Tryd.func13, Tryd.ntmps13
    go_wp2_with fail
    refine (K1.out _).mono ?_
    rintro e w1 ⟨v, rfl, ho, hb⟩
    obtain ⟨g, cap, rfl, hbg, hcap, hmax⟩ := own_shape ho (by omega)
    have hc : w1.cell? ⟨g, ps.length, none⟩ = some (.string x) := by rw [ho.cellAt _ (by omega)]; simp
    have O1 := Lib.hid ho; have B1 := Lib.hid hb; clear ho hb
    unfold maxLen at hmax
    go_wp2
    go_ret
    exact ⟨_, rfl, by simpa using O1.out, B1.out⟩

end Go.Proofs.YtmniigplfhmbjaaDoor
