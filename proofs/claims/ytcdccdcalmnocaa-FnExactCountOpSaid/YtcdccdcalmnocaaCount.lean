/-
  Contracts of spec.CountOp and impl.CountOp, and the walk of the law FnExactCountOp. No condition on the law.
-/
import Derived.Test.YtcdccdcalmnocaaNodes
namespace Go.Proofs.Ytcdccdcalmnocaa
open Go.RowKit
open Go Go.Deep

/-- how many nodes have the operation -/
def cntOp (xs : List Nd) (op : Int) : Nat := xs.countP fun x => decide (x.op = op)
theorem cntOp_le (xs : List Nd) (op : Int) : cntOp xs op ≤ xs.length := List.countP_le_length
theorem cntOp_take {xs : List Nd} (op : Int) {k : Nat} (hk : k < xs.length) : cntOp (xs.take (k + 1)) op = if (xs.getD k default).op = op then cntOp (xs.take k) op + 1 else cntOp (xs.take k) op := by
  have e : xs.take (k + 1) = xs.take k ++ [xs.getD k default] := by
    rw [List.take_succ_eq_append_getElem hk, List.getD_eq_getElem?_getD, List.getElem?_eq_getElem hk]; rfl
  rw [e]
  unfold cntOp
  rw [List.countP_append]
  by_cases h : (xs.getD k default).op = op
  · rw [if_pos h, List.countP_cons_of_pos (by simpa using h)]; rfl
  · rw [if_neg h, List.countP_cons_of_neg (by simpa using h)]; rfl

set_option maxRecDepth 100000 in
set_option maxHeartbeats 2000000 in
theorem specCount_any (v : Value) (xs : List Nd) (op : Int) (w : World) (hr : Ns w v xs) (_hn : xs.length ≤ 1048576) :
    Calls Try.prog 28 #[v, .int .i64 op] w fun e w' => e = .returned (.int .i64 (cntOp xs op : Nat)) ∧ Below w.heap.size w w' := by
  obtain ⟨a, cap, rfl, h1, h2, h3⟩ := hr.parts
  have HR := Lib.hid hr
  have KEY := Lib.hid h3
  clear h3 hr
  unfold maxLen at h2
  go_enter Try.func28, Try.ntmps28
  go_wp2
  go_loopw [5, 10] (fun nv iv wr => ∃ k : Nat, k ≤ xs.length ∧ iv = .int .i64 k ∧ nv = .int .i64 (cntOp (xs.take k) op : Nat) ∧ Hid (Below w.heap.size w wr)) (fun _ iv _ => xs.length - (intOf iv).toNat)
  case atStart => exact ⟨0, Nat.zero_le _, rfl, rfl, Lib.hid (Below.refl _ _)⟩
  case round =>
    obtain ⟨k, hk, rfl, rfl, HB⟩ := hrel
    by_cases hlt : k < xs.length
    · obtain ⟨b, o, rfl, hb, c0, c1, c2, c3⟩ := KEY.out k hlt
      rw [← HB.out.cell (p := ⟨b, o + k * 4, none⟩) hb] at c0
      rw [← HB.out.cell (p := ⟨b, o + k * 4 + 1, none⟩) hb] at c1
      rw [← HB.out.cell (p := ⟨b, o + k * 4 + 2, none⟩) hb] at c2
      rw [← HB.out.cell (p := ⟨b, o + k * 4 + 3, none⟩) hb] at c3
      have HT := Lib.hid (cntOp_take op hlt)
      have hc := cntOp_le (xs.take k) op
      have htl : (xs.take k).length ≤ k := by rw [List.length_take]; omega
      have hc0 : (0 : Int) ≤ ((cntOp (xs.take k) op : Nat) : Int) := Int.natCast_nonneg _
      have hsz := HB.out.size
      generalize xs.getD k default = x at c0 c1 c2 c3 HT
      by_cases hx : x.op = op
      · have hx' : (x.op == op) = true := by simpa using hx
        have HX := Lib.hid hx
        clear hx
        go_wp2
        go_roundw
        case rel => exact ⟨k + 1, by omega, by go_num, by rw [HT.out, if_pos HX.out]; go_num, Lib.hid (HB.out.alloc hsz _)⟩
        case measure => simp [intOf]; omega
      · have hx' : (x.op == op) = false := by simpa using hx
        have HX := Lib.hid hx
        clear hx
        go_wp2
        go_roundw
        case rel => exact ⟨k + 1, by omega, by go_num, by rw [HT.out, if_neg HX.out], Lib.hid (HB.out.alloc hsz _)⟩
        case measure => simp [intOf]; omega
    · obtain rfl : k = xs.length := by omega
      go_wp2
      go_ret
      exact ⟨ret_int (by rw [List.take_of_length_le (Nat.le_refl _)]), HB.out⟩

set_option maxRecDepth 100000 in
set_option maxHeartbeats 2000000 in
theorem implCount_any (v : Value) (xs : List Nd) (op : Int) (w : World) (hr : Ns w v xs) (_hn : xs.length ≤ 1048576) :
    Calls Try.prog 29 #[v, .int .i64 op] w fun e w' => e = .returned (.int .i64 (cntOp xs op : Nat)) ∧ Below w.heap.size w w' := by
  obtain ⟨a, cap, rfl, h1, h2, h3⟩ := hr.parts
  have HR := Lib.hid hr
  have KEY := Lib.hid h3
  clear h3 hr
  unfold maxLen at h2
  go_enter Try.func29, Try.ntmps29
  go_wp2
  go_loopw [5, 10] (fun nv iv wr => ∃ k : Nat, k ≤ xs.length ∧ iv = .int .i64 k ∧ nv = .int .i64 (cntOp (xs.take k) op : Nat) ∧ Hid (Below w.heap.size w wr)) (fun _ iv _ => xs.length - (intOf iv).toNat)
  case atStart => exact ⟨0, Nat.zero_le _, rfl, rfl, Lib.hid (Below.refl _ _)⟩
  case round =>
    obtain ⟨k, hk, rfl, rfl, HB⟩ := hrel
    by_cases hlt : k < xs.length
    · obtain ⟨b, o, rfl, hb, c0, c1, c2, c3⟩ := KEY.out k hlt
      rw [← HB.out.cell (p := ⟨b, o + k * 4, none⟩) hb] at c0
      rw [← HB.out.cell (p := ⟨b, o + k * 4 + 1, none⟩) hb] at c1
      rw [← HB.out.cell (p := ⟨b, o + k * 4 + 2, none⟩) hb] at c2
      rw [← HB.out.cell (p := ⟨b, o + k * 4 + 3, none⟩) hb] at c3
      have HT := Lib.hid (cntOp_take op hlt)
      have hc := cntOp_le (xs.take k) op
      have htl : (xs.take k).length ≤ k := by rw [List.length_take]; omega
      have hc0 : (0 : Int) ≤ ((cntOp (xs.take k) op : Nat) : Int) := Int.natCast_nonneg _
      have hsz := HB.out.size
      generalize xs.getD k default = x at c0 c1 c2 c3 HT
      by_cases hx : x.op = op
      · have hx' : (x.op == op) = true := by simpa using hx
        have HX := Lib.hid hx
        clear hx
        go_wp2
        go_roundw
        case rel => exact ⟨k + 1, by omega, by go_num, by rw [HT.out, if_pos HX.out]; go_num, Lib.hid (HB.out.alloc hsz _)⟩
        case measure => simp [intOf]; omega
      · have hx' : (x.op == op) = false := by simpa using hx
        have HX := Lib.hid hx
        clear hx
        go_wp2
        go_roundw
        case rel => exact ⟨k + 1, by omega, by go_num, by rw [HT.out, if_neg HX.out], Lib.hid (HB.out.alloc hsz _)⟩
        case measure => simp [intOf]; omega
    · obtain rfl : k = xs.length := by omega
      go_wp2
      go_ret
      exact ⟨ret_int (by rw [List.take_of_length_le (Nat.le_refl _)]), HB.out⟩

set_option maxRecDepth 100000 in
set_option maxHeartbeats 2000000 in
theorem walk_FnExactCountOp (v0 : Value) (xs : List Nd) (a1 : Int) (w : World) (h0 : Ns w v0 xs) (_w1 : (Lit.int .i64 a1).wf = true) :
    Calls Try.prog 8 #[v0, .int .i64 a1] w fun e w' => e = .returned (.bool true) ∧ Below w.heap.size w w' := by
  clear _w1
  have S0 := fun W (h : Ns W v0 xs) => szNodeS_any v0 xs 1048576 W h (by omega) (by omega)
  by_cases hlen : 1048576 < xs.length
  · rw [if_pos (by omega)] at S0
    have K0 := Lib.hid (S0 w h0)
    clear S0
    go_enter Try.func8, Try.ntmps8
    go_wp2_with fail
    refine K0.out.mono ?_
    rintro e w' ⟨rfl, rfl⟩
    go_wp2
    go_ret
    exact ⟨rfl, Below.refl _ _⟩
  rw [if_neg (by omega)] at S0
  have K0 := Lib.hid (S0 w h0)
  have H0 := Lib.hid h0
  clear S0 h0
  have hn : xs.length ≤ 1048576 := by omega
  go_enter Try.func8, Try.ntmps8
  go_wp2_with fail
  refine K0.out.mono ?_
  rintro e w' ⟨rfl, rfl⟩
  go_wp2_with fail
  refine (toNodeS_any _ xs _ H0.out hn).mono ?_
  rintro e w1 ⟨g1, rfl, ho1, hb1⟩
  have O1 := Lib.hid ho1; have B1 := Lib.hid hb1; clear ho1 hb1
  go_wp2_with fail
  refine (specCount_any _ xs _ _ (Ns.of_own O1.out) hn).mono ?_
  rintro e w2 ⟨rfl, hb2⟩
  have B2 := Lib.hid (B1.out.trans (hb2.mono B1.out.size)); clear hb2
  generalize hfo : cntOp xs a1 = res
  have HF := Lib.hid hfo
  clear hfo
  go_wp2_with fail
  refine (toNodeS_any _ xs _ (H0.out.below B2.out (Nat.le_refl _)) hn).mono ?_
  rintro e w3 ⟨g3, rfl, ho3, hb3⟩
  have O3 := Lib.hid ho3; have B3 := Lib.hid (B2.out.trans (hb3.mono B2.out.size)); clear ho3 hb3
  go_wp2_with fail
  refine (implCount_any _ xs _ _ (Ns.of_own O3.out) hn).mono ?_
  rintro e w4 ⟨rfl, hb4⟩
  have N4 := Lib.hid ((Ns.of_own O3.out).below hb4 (Nat.le_refl _))
  have B4 := Lib.hid (B3.out.trans (hb4.mono B3.out.size)); clear hb4
  rw [HF.out]
  go_wp2_with fail
  refine (toNodeS_any _ xs _ (H0.out.below B4.out (Nat.le_refl _)) hn).mono ?_
  rintro e w5 ⟨g5, rfl, ho5, hb5⟩
  have N5 := Lib.hid (N4.out.below hb5 (Nat.le_refl _))
  have O5 := Lib.hid ho5; have B5 := Lib.hid (B4.out.trans (hb5.mono B4.out.size)); clear ho5 hb5
  go_wp2_with fail
  refine (eqNodeS_same _ _ xs _ N5.out (Ns.of_own O5.out)).mono ?_
  rintro e w6 ⟨rfl, hb6⟩
  have B6 := Lib.hid (B5.out.trans (hb6.mono B5.out.size)); clear hb6
  go_wp2
  go_ret
  exact ⟨rfl, B6.out⟩
end Go.Proofs.Ytcdccdcalmnocaa
