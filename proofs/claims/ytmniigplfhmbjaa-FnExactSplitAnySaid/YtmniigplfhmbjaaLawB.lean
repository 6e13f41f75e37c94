/-
  The walk of the law FnExactSplitAny: it returns true and writes nothing that was there. No condition.
-/
import Derived.Test.YtmniigplfhmbjaaSplitA
import Derived.Test.YtmniigplfhmbjaaStrs
namespace Go.Proofs.Ytmniigplfhmbjaa
open Go.RowKit
open Go Go.Deep

theorem splitAll_len (by' : List UInt8) (s : ByteArray) (h : s.size ≤ 1048576) : (splitAll by' s).length ≤ 2097152 := by
  have := (splitTo_le by' s s.size).2
  unfold splitAll; simp; omega

set_option maxHeartbeats 1000000 in
theorem walk_FnExactSplitAny (a0 a1 : ByteArray) (w : World) (_w0 : a0.size ≤ maxLen) (_w1 : a1.size ≤ maxLen) :
    Calls Try.prog 5 #[.string a0, .string a1] w fun e w' => e = .returned (.bool true) ∧ Below w.heap.size w w' := by
  by_cases h : 1048576 < a0.size
  · go_enter Try.func5, Try.ntmps5
    go_wp2
    go_ret
    exact ⟨rfl, Below.refl _ _⟩
  by_cases h' : 1048576 < a1.size
  · go_enter Try.func5, Try.ntmps5
    go_wp2
    go_ret
    exact ⟨rfl, Below.refl _ _⟩
  have hlen := splitAll_len a1.data.toList a0 (by omega)
  have H1 := fun W => specSplit_any a0 a1 W (by omega) (by omega)
  have H2 := fun W => implSplit_any a0 a1 W (by omega) (by omega)
  generalize splitAll a1.data.toList a0 = ps at H1 H2 hlen
  have K1 := Lib.hid H1
  have K2 := Lib.hid H2
  clear H1 H2
  go_enter Try.func5, Try.ntmps5
  go_wp2_with fail
  refine (K1.out _).mono ?_
  rintro e x1 ⟨v, rfl, ho0, hb0⟩
  have O0 := Lib.hid ho0; have B0 := Lib.hid hb0; clear ho0 hb0
  go_wp2_with fail
  refine (K2.out _).mono ?_
  rintro e x2 ⟨g, rfl, ho1, hb1⟩
  have O1 := Lib.hid ho1; have B1 := Lib.hid hb1; clear ho1 hb1
  have R0 := Lib.hid ((Rs.of_own O0.out).below B1.out (Nat.le_refl _))
  go_wp2_with fail
  refine (eqStringS_same _ _ ps _ (Rs.of_own O1.out) R0.out).mono ?_
  rintro e x3 ⟨rfl, n3, rfl⟩
  go_wp2_with fail
  refine (markStringS_own x1.heap.size g ps.length _ 1 (x2.drewN n3) hlen (by omega) (by omega) O1.out).mono ?_
  rintro e x4 ⟨rfl, ho4, hb4⟩
  have O4 := Lib.hid ho4; have B4 := Lib.hid hb4; clear ho4 hb4
  go_wp2_with fail
  refine (heldStringS_any g ps.length 1 _ hlen (by omega) (by omega) (Rs.of_own O4.out)).mono ?_
  rintro e x5 ⟨rfl, hb5⟩
  have B5 := Lib.hid hb5; clear hb5
  go_wp2_with fail
  refine (K2.out _).mono ?_
  rintro e x6 ⟨g', rfl, ho6, hb6⟩
  have O6 := Lib.hid ho6; have B6 := Lib.hid hb6; clear ho6 hb6
  have hs12 : x1.heap.size ≤ x2.heap.size := B1.out.size
  have hs24 : x2.heap.size ≤ x4.heap.size := B4.out.size
  have hs45 : x4.heap.size ≤ x5.heap.size := B5.out.size
  have hs56 : x5.heap.size ≤ x6.heap.size := B6.out.size
  have B16 : Hid (Below x1.heap.size x1 x6) := Lib.hid (((B1.out.trans (below_drewN' (Below.refl _ _) n3)).trans B4.out).trans ((B5.out.mono (by omega)).trans (B6.out.mono (by omega))))
  have B46 : Hid (Below x4.heap.size x4 x6) := Lib.hid (B5.out.trans (B6.out.mono (by omega)))
  go_wp2_with fail
  refine (eqStringS_same _ _ ps _ (Rs.of_own O6.out) ((Rs.of_own O0.out).below B16.out (Nat.le_refl _))).mono ?_
  rintro e x7 ⟨rfl, n7, rfl⟩
  go_wp2_with fail
  refine (heldStringS_any g ps.length 1 _ hlen (by omega) (by omega) (((Rs.of_own O4.out).below B46.out (Nat.le_refl _)).drewN n7)).mono ?_
  rintro e x8 ⟨rfl, hb8⟩
  have B8 := Lib.hid hb8; clear hb8
  have hs01 : w.heap.size ≤ x1.heap.size := B0.out.size
  go_wp2
  go_ret
  exact ⟨rfl, (B0.out.trans (B16.out.mono hs01)).trans ((below_drewN' (Below.refl _ _) n7).trans (B8.out.mono (by show _ ≤ x6.heap.size; omega)))⟩
end Go.Proofs.Ytmniigplfhmbjaa
