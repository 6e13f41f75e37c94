/-
  Contracts of spec.CountOp and impl.CountOp, and the walk of the law FnExactCountOp. No condition on the law.
-/
import Derived.Test.YtodjohdbngbpaaaGreatZTerm
namespace Go.Proofs.YtodjohdbngbpaaaGreat
open Go.RowKit
open Go Go.Deep

/-- how many nodes have the operation -/
def cntOp (xs : List Nd) (op : Int) : Nat := xs.countP fun x => decide (x.op = op)
theorem cntOp_le (xs : List Nd) (op : Int) : cntOp xs op ≤ xs.length := List.countP_le_length
theorem cntOp_take {xs : List Nd} (op : Int) {k : Nat} (hk : k < xs.length) : cntOp (xs.take (k + 1)) op = if (xs.getD k default).op = op then cntOp (xs.take k) op + 1 else cntOp (xs.take k) op := by
  have e : xs.take (k + 1) = xs.take k ++ [xs.getD k default] := by
    rw [List.take_succ_eq_append_getElem hk, List.getD_eq_getElem?_getD, List.getElem?_eq_getElem hk]; rfl
  rw [e]
  unfold cntOp
  rw [List.countP_append]
  by_cases h : (xs.getD k default).op = op
  · rw [if_pos h, List.countP_cons_of_pos (by simpa using h)]; rfl
  · rw [if_neg h, List.countP_cons_of_neg (by simpa using h)]; rfl

set_option maxRecDepth 100000 in
set_option maxHeartbeats 2000000 in
theorem specCountOp_any (v : Value) (xs : List Nd) (op : Int) (w : World) (hr : Ns w v xs) (_hn : xs.length ≤ 1048576) :
    Calls Tryz.prog 69 #[v, .int .i64 op] w fun e w' => e = .returned (.int .i64 (cntOp xs op : Nat)) ∧ Below w.heap.size w w' := by
  obtain ⟨a, cap, rfl, h1, h2, h3⟩ := hr.parts
  have HR := Lib.hid hr
  have KEY := Lib.hid h3
  clear h3 hr
  unfold maxLen at h2
  go_enter Tryz.func69, Tryz.ntmps69
  go_wp2
  go_loopw [5, 10] (fun nv iv wr => ∃ k : Nat, k ≤ xs.length ∧ iv = .int .i64 k ∧ nv = .int .i64 (cntOp (xs.take k) op : Nat) ∧ Hid (Below w.heap.size w wr)) (fun _ iv _ => xs.length - (intOf iv).toNat)
  case atStart => exact ⟨0, Nat.zero_le _, rfl, rfl, Lib.hid (Below.refl _ _)⟩
  case round =>
    obtain ⟨k, hk, rfl, rfl, HB⟩ := hrel
    by_cases hlt : k < xs.length
    · obtain ⟨b, o, rfl, hb, c0, c1, c2, c3⟩ := KEY.out k hlt
      rw [← HB.out.cell (p := ⟨b, o + k * 4, none⟩) hb] at c0
      rw [← HB.out.cell (p := ⟨b, o + k * 4 + 1, none⟩) hb] at c1
      rw [← HB.out.cell (p := ⟨b, o + k * 4 + 2, none⟩) hb] at c2
      rw [← HB.out.cell (p := ⟨b, o + k * 4 + 3, none⟩) hb] at c3
      have HT := Lib.hid (cntOp_take op hlt)
      have hc := cntOp_le (xs.take k) op
      have htl : (xs.take k).length ≤ k := by rw [List.length_take]; omega
      have hc0 : (0 : Int) ≤ ((cntOp (xs.take k) op : Nat) : Int) := Int.natCast_nonneg _
      have hsz := HB.out.size
      generalize xs.getD k default = x at c0 c1 c2 c3 HT
      by_cases hx : x.op = op
      · have hx' : (x.op == op) = true := by simpa using hx
        have HX := Lib.hid hx
        clear hx
        go_wp2
        go_roundw
        case rel => exact ⟨k + 1, by omega, by go_num, by rw [HT.out, if_pos HX.out]; go_num, Lib.hid (HB.out.alloc hsz _)⟩
        case measure => simp [intOf]; omega
      · have hx' : (x.op == op) = false := by simpa using hx
        have HX := Lib.hid hx
        clear hx
        go_wp2
        go_roundw
        case rel => exact ⟨k + 1, by omega, by go_num, by rw [HT.out, if_neg HX.out], Lib.hid (HB.out.alloc hsz _)⟩
        case measure => simp [intOf]; omega
    · obtain rfl : k = xs.length := by omega
      go_wp2
      go_ret
      exact ⟨ret_int (by rw [List.take_of_length_le (Nat.le_refl _)]), HB.out⟩

set_option maxRecDepth 100000 in
set_option maxHeartbeats 2000000 in
theorem implCountOp_any (v : Value) (xs : List Nd) (op : Int) (w : World) (hr : Ns w v xs) (_hn : xs.length ≤ 1048576) :
    Calls Tryz.prog 72 #[v, .int .i64 op] w fun e w' => e = .returned (.int .i64 (cntOp xs op : Nat)) ∧ Below w.heap.size w w' := by
  obtain ⟨a, cap, rfl, h1, h2, h3⟩ := hr.parts
  have HR := Lib.hid hr
  have KEY := Lib.hid h3
  clear h3 hr
  unfold maxLen at h2
  go_enter Tryz.func72, Tryz.ntmps72
  go_wp2
  go_loopw [5, 10] (fun nv iv wr => ∃ k : Nat, k ≤ xs.length ∧ iv = .int .i64 k ∧ nv = .int .i64 (cntOp (xs.take k) op : Nat) ∧ Hid (Below w.heap.size w wr)) (fun _ iv _ => xs.length - (intOf iv).toNat)
  case atStart => exact ⟨0, Nat.zero_le _, rfl, rfl, Lib.hid (Below.refl _ _)⟩
  case round =>
    obtain ⟨k, hk, rfl, rfl, HB⟩ := hrel
    by_cases hlt : k < xs.length
    · obtain ⟨b, o, rfl, hb, c0, c1, c2, c3⟩ := KEY.out k hlt
      rw [← HB.out.cell (p := ⟨b, o + k * 4, none⟩) hb] at c0
      rw [← HB.out.cell (p := ⟨b, o + k * 4 + 1, none⟩) hb] at c1
      rw [← HB.out.cell (p := ⟨b, o + k * 4 + 2, none⟩) hb] at c2
      rw [← HB.out.cell (p := ⟨b, o + k * 4 + 3, none⟩) hb] at c3
      have HT := Lib.hid (cntOp_take op hlt)
      have hc := cntOp_le (xs.take k) op
      have htl : (xs.take k).length ≤ k := by rw [List.length_take]; omega
      have hc0 : (0 : Int) ≤ ((cntOp (xs.take k) op : Nat) : Int) := Int.natCast_nonneg _
      have hsz := HB.out.size
      generalize xs.getD k default = x at c0 c1 c2 c3 HT
      by_cases hx : x.op = op
      · have hx' : (x.op == op) = true := by simpa using hx
        have HX := Lib.hid hx
        clear hx
        go_wp2
        go_roundw
        case rel => exact ⟨k + 1, by omega, by go_num, by rw [HT.out, if_pos HX.out]; go_num, Lib.hid (HB.out.alloc hsz _)⟩
        case measure => simp [intOf]; omega
      · have hx' : (x.op == op) = false := by simpa using hx
        have HX := Lib.hid hx
        clear hx
        go_wp2
        go_roundw
        case rel => exact ⟨k + 1, by omega, by go_num, by rw [HT.out, if_neg HX.out], Lib.hid (HB.out.alloc hsz _)⟩
        case measure => simp [intOf]; omega
    · obtain rfl : k = xs.length := by omega
      go_wp2
      go_ret
      exact ⟨ret_int (by rw [List.take_of_length_le (Nat.le_refl _)]), HB.out⟩

end Go.Proofs.YtodjohdbngbpaaaGreat
