/-
  Contracts of spec.SplitLines and impl.SplitLines, and the walk of the law FnExactSplitLines. Condition of the contracts: the string has at most 1048576 bytes.
-/
import Derived.Test.YtmniigplfhmbjaaSplitA
import Derived.Test.YtmniigplfhmbjaaStrs
namespace Go.Proofs.Ytmniigplfhmbjaa
open Go.RowKit
open Go Go.Deep

def nlB : ByteArray := ⟨#[10]⟩
def lineInit (s : ByteArray) : List ByteArray := (splitTo nlB.data.toList s s.size).1
def lineLast (s : ByteArray) : ByteArray := s.extract (splitTo nlB.data.toList s s.size).2 s.size
def linesOf (s : ByteArray) : List ByteArray := if (lineLast s).toList = [] then lineInit s else lineInit s ++ [lineLast s]
theorem linesOf_len (s : ByteArray) (h : s.size ≤ 1048576) : (linesOf s).length ≤ 2097152 := by
  have := (splitTo_le nlB.data.toList s s.size).2
  unfold linesOf lineInit
  split <;> simp <;> omega
theorem own_shape {w : World} {base : Nat} {e : TypeId} {v : Value} {n : Nat} {xs : List Value} (h : w.ownsRow base e 1 v n xs) (hn : 0 < n) : ∃ g cap, v = .slice (some ⟨g, 0, none⟩) n cap ∧ base ≤ g ∧ n ≤ cap ∧ cap ≤ maxLen := by
  rcases h.2 with ⟨rfl, h0⟩ | ⟨g, cap, cur, rfl, hb, _, h1, h2, _⟩
  · omega
  · exact ⟨g, cap, rfl, hb, h1, h2⟩
/-- a row cut by its last element -/
theorem own_pop {w : World} {base g cap n : Nat} {e : TypeId} {xs : List Value} {x : Value} (h : w.ownsRow base e 1 (.slice (some ⟨g, 0, none⟩) (n + 1) cap) (n + 1) (xs ++ [x])) : w.ownsRow base e 1 (.slice (some ⟨g, 0, none⟩) n cap) n xs := by
  rcases h.2 with ⟨h', _⟩ | ⟨g', cap', cur, h', hb, hg, h1, h2, h3, h4⟩
  · simp at h'
  · simp only [Value.slice.injEq, Option.some.injEq, Addr.mk.injEq, and_true, true_and] at h'
    obtain ⟨rfl, rfl⟩ := h'
    have hl : xs.length = n := by have := h.1; simp at this; omega
    refine ⟨by omega, .inr ⟨g, cap, cur, rfl, hb, hg, by omega, h2, h3, ?_⟩⟩
    have h5 := congrArg (List.take n) h4
    rw [List.take_take, List.take_append_of_le_length (by omega), List.take_of_length_le (l := xs) (by omega)] at h5
    rw [← h5]
    congr 1
    omega

set_option maxHeartbeats 1000000 in
theorem specLines_any (s : ByteArray) (w : World) (hs : s.size ≤ 1048576) :
    Calls Try.prog 18 #[.string s] w fun e w' => ∃ v, e = .returned v ∧
      w'.ownsRow w.heap.size 9 1 v (linesOf s).length ((linesOf s).map Value.string) ∧ Below w.heap.size w w' := by
  have H1 : ∀ W, Calls Try.prog 13 #[.string s, .string ⟨#[10]⟩] W fun e w' => ∃ v, e = .returned v ∧ w'.ownsRow W.heap.size 9 1 v ((lineInit s).length + 1) ((lineInit s).map Value.string ++ [.string (lineLast s)]) ∧ Below W.heap.size W w' := fun W =>
    (specSplit_any s nlB W hs (by decide)).mono fun e w' ⟨v, h1, h2, h3⟩ => ⟨v, h1, by simpa [splitAll, lineInit, lineLast] using h2, h3⟩
  have hlen : (lineInit s).length ≤ s.size := (splitTo_le nlB.data.toList s s.size).2
  have K1 := Lib.hid H1
  clear H1
  by_cases hx : (lineLast s).toList = []
  · rw [show linesOf s = lineInit s from if_pos hx]
    generalize lineInit s = ps at K1 hlen ⊢
    generalize lineLast s = x at K1 hx ⊢
    have HX := Lib.hid hx
    clear hx
    go_enter Try.func18, Try.ntmps18
    go_wp2_with fail
    refine (K1.out _).mono ?_
    rintro e w1 ⟨v, rfl, ho, hb⟩
    obtain ⟨g, cap, rfl, hbg, hcap, hmax⟩ := own_shape ho (by omega)
    have hc : w1.cell? ⟨g, ps.length, none⟩ = some (.string x) := by rw [ho.cellAt _ (by omega)]; simp
    have O1 := Lib.hid (own_pop ho); have B1 := Lib.hid hb; clear ho hb
    unfold maxLen at hmax
    have hxe : x.toList.isEmpty = true := by rw [HX.out]; rfl
    have hxl : x.toList = [] := HX.out
    go_wp2
    go_ret
    exact ⟨_, rfl, O1.out, B1.out⟩
  · rw [show linesOf s = lineInit s ++ [lineLast s] from if_neg hx]
    generalize lineInit s = ps at K1 hlen ⊢
    generalize lineLast s = x at K1 hx ⊢
    have hxe : x.toList.isEmpty = false := by simpa using hx
    have HX := Lib.hid hx
    clear hx
    go_enter Try.func18, Try.ntmps18
    go_wp2_with fail
    refine (K1.out _).mono ?_
    rintro e w1 ⟨v, rfl, ho, hb⟩
    obtain ⟨g, cap, rfl, hbg, hcap, hmax⟩ := own_shape ho (by omega)
    have hc : w1.cell? ⟨g, ps.length, none⟩ = some (.string x) := by rw [ho.cellAt _ (by omega)]; simp
    have O1 := Lib.hid ho; have B1 := Lib.hid hb; clear ho hb
    unfold maxLen at hmax
    go_wp2
    go_ret
    exact ⟨_, rfl, by simpa using O1.out, B1.out⟩

set_option maxHeartbeats 1000000 in
theorem implLines_any (s : ByteArray) (w : World) (hs : s.size ≤ 1048576) :
    Calls Try.prog 19 #[.string s] w fun e w' => ∃ v, e = .returned v ∧
      w'.ownsRow w.heap.size 9 1 v (linesOf s).length ((linesOf s).map Value.string) ∧ Below w.heap.size w w' := by
  have H1 : ∀ W, Calls Try.prog 14 #[.string s, .string ⟨#[10]⟩] W fun e w' => ∃ v, e = .returned v ∧ w'.ownsRow W.heap.size 9 1 v ((lineInit s).length + 1) ((lineInit s).map Value.string ++ [.string (lineLast s)]) ∧ Below W.heap.size W w' := fun W =>
    (implSplit_any s nlB W hs (by decide)).mono fun e w' ⟨v, h1, h2, h3⟩ => ⟨v, h1, by simpa [splitAll, lineInit, lineLast] using h2, h3⟩
  have hlen : (lineInit s).length ≤ s.size := (splitTo_le nlB.data.toList s s.size).2
  have K1 := Lib.hid H1
  clear H1
  by_cases hx : (lineLast s).toList = []
  · rw [show linesOf s = lineInit s from if_pos hx]
    generalize lineInit s = ps at K1 hlen ⊢
    generalize lineLast s = x at K1 hx ⊢
    have HX := Lib.hid hx
    clear hx
    go_enter Try.func19, Try.ntmps19
    go_wp2_with fail
    refine (K1.out _).mono ?_
    rintro e w1 ⟨v, rfl, ho, hb⟩
    obtain ⟨g, cap, rfl, hbg, hcap, hmax⟩ := own_shape ho (by omega)
    have hc : w1.cell? ⟨g, ps.length, none⟩ = some (.string x) := by rw [ho.cellAt _ (by omega)]; simp
    have O1 := Lib.hid (own_pop ho); have B1 := Lib.hid hb; clear ho hb
    unfold maxLen at hmax
    have hxe : x.toList.isEmpty = true := by rw [HX.out]; rfl
    have hxl : x.toList = [] := HX.out
    go_wp2
    go_ret
    exact ⟨_, rfl, O1.out, B1.out⟩
  · rw [show linesOf s = lineInit s ++ [lineLast s] from if_neg hx]
    generalize lineInit s = ps at K1 hlen ⊢
    generalize lineLast s = x at K1 hx ⊢
    have hxe : x.toList.isEmpty = false := by simpa using hx
    have HX := Lib.hid hx
    clear hx
    go_enter Try.func19, Try.ntmps19
    go_wp2_with fail
    refine (K1.out _).mono ?_
    rintro e w1 ⟨v, rfl, ho, hb⟩
    obtain ⟨g, cap, rfl, hbg, hcap, hmax⟩ := own_shape ho (by omega)
    have hc : w1.cell? ⟨g, ps.length, none⟩ = some (.string x) := by rw [ho.cellAt _ (by omega)]; simp
    have O1 := Lib.hid ho; have B1 := Lib.hid hb; clear ho hb
    unfold maxLen at hmax
    go_wp2
    go_ret
    exact ⟨_, rfl, by simpa using O1.out, B1.out⟩

set_option maxHeartbeats 1000000 in
theorem walk_FnExactSplitLines (a0 : ByteArray) (w : World) (_w0 : a0.size ≤ maxLen) :
    Calls Try.prog 6 #[.string a0] w fun e w' => e = .returned (.bool true) ∧ Below w.heap.size w w' := by
  by_cases h : 1048576 < a0.size
  · go_enter Try.func6, Try.ntmps6
    go_wp2
    go_ret
    exact ⟨rfl, Below.refl _ _⟩
  have hlen := linesOf_len a0 (by omega)
  have H1 := fun W => specLines_any a0 W (by omega)
  have H2 := fun W => implLines_any a0 W (by omega)
  generalize linesOf a0 = ps at H1 H2 hlen
  have K1 := Lib.hid H1
  have K2 := Lib.hid H2
  clear H1 H2
  go_enter Try.func6, Try.ntmps6
  go_wp2_with fail
  refine (K1.out _).mono ?_
  rintro e x1 ⟨v, rfl, ho0, hb0⟩
  have O0 := Lib.hid ho0; have B0 := Lib.hid hb0; clear ho0 hb0
  go_wp2_with fail
  refine (K2.out _).mono ?_
  rintro e x2 ⟨g, rfl, ho1, hb1⟩
  have O1 := Lib.hid ho1; have B1 := Lib.hid hb1; clear ho1 hb1
  have R0 := Lib.hid ((Rs.of_own O0.out).below B1.out (Nat.le_refl _))
  go_wp2_with fail
  refine (eqStringS_same _ _ ps _ (Rs.of_own O1.out) R0.out).mono ?_
  rintro e x3 ⟨rfl, n3, rfl⟩
  go_wp2_with fail
  refine (markStringS_own x1.heap.size g ps.length _ 1 (x2.drewN n3) hlen (by omega) (by omega) O1.out).mono ?_
  rintro e x4 ⟨rfl, ho4, hb4⟩
  have O4 := Lib.hid ho4; have B4 := Lib.hid hb4; clear ho4 hb4
  go_wp2_with fail
  refine (heldStringS_any g ps.length 1 _ hlen (by omega) (by omega) (Rs.of_own O4.out)).mono ?_
  rintro e x5 ⟨rfl, hb5⟩
  have B5 := Lib.hid hb5; clear hb5
  go_wp2_with fail
  refine (K2.out _).mono ?_
  rintro e x6 ⟨g', rfl, ho6, hb6⟩
  have O6 := Lib.hid ho6; have B6 := Lib.hid hb6; clear ho6 hb6
  have hs12 : x1.heap.size ≤ x2.heap.size := B1.out.size
  have hs24 : x2.heap.size ≤ x4.heap.size := B4.out.size
  have hs45 : x4.heap.size ≤ x5.heap.size := B5.out.size
  have hs56 : x5.heap.size ≤ x6.heap.size := B6.out.size
  have B16 : Hid (Below x1.heap.size x1 x6) := Lib.hid (((B1.out.trans (below_drewN' (Below.refl _ _) n3)).trans B4.out).trans ((B5.out.mono (by omega)).trans (B6.out.mono (by omega))))
  have B46 : Hid (Below x4.heap.size x4 x6) := Lib.hid (B5.out.trans (B6.out.mono (by omega)))
  go_wp2_with fail
  refine (eqStringS_same _ _ ps _ (Rs.of_own O6.out) ((Rs.of_own O0.out).below B16.out (Nat.le_refl _))).mono ?_
  rintro e x7 ⟨rfl, n7, rfl⟩
  go_wp2_with fail
  refine (heldStringS_any g ps.length 1 _ hlen (by omega) (by omega) (((Rs.of_own O4.out).below B46.out (Nat.le_refl _)).drewN n7)).mono ?_
  rintro e x8 ⟨rfl, hb8⟩
  have B8 := Lib.hid hb8; clear hb8
  have hs01 : w.heap.size ≤ x1.heap.size := B0.out.size
  go_wp2
  go_ret
  exact ⟨rfl, (B0.out.trans (B16.out.mono hs01)).trans ((below_drewN' (Below.refl _ _) n7).trans (B8.out.mono (by show _ ≤ x6.heap.size; omega)))⟩
end Go.Proofs.Ytmniigplfhmbjaa
