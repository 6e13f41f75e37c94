/-
  slices.Index and Contains over pairs; a person. Condition: the numbers are such as a machine has.
-/
import Derived.Test.YtmcjimmebbkjcaaPgm
import Derived.BigQuiet
namespace Go.Proofs.Ytmcjimmebbkjcaa
open Go.RowKit Go.WideShapes
open Go Go.Deep
set_option linter.unusedSimpArgs false

def IdxP (xs : List Pr) (p : Pr) (w : World) (e : Ending) (w' : World) : Prop := ∃ i : Int, e = .returned (.int .i64 i) ∧ decide (0 ≤ i) = hasP xs p ∧ (Lit.int .i64 i).wf = true ∧ Below w.heap.size w w'
theorem hasP_at {xs : List Pr} {p : Pr} {k : Nat} (hk : k < xs.length) (h : xs.getD k default = p) : hasP xs p = true := by
  rw [hasP_iff, ← h, List.getD_eq_getElem?_getD, List.getElem?_eq_getElem hk]
  exact List.getElem_mem hk
theorem hasP_none {xs : List Pr} {p : Pr} (h : ∀ j, j < xs.length → xs.getD j default ≠ p) : hasP xs p = false := by
  rw [Bool.eq_false_iff]
  intro hh
  rw [hasP_iff] at hh
  obtain ⟨j, hj, e⟩ := List.mem_iff_getElem.1 hh
  exact h j hj (by rw [List.getD_eq_getElem?_getD, List.getElem?_eq_getElem hj]; exact e)

set_option maxRecDepth 100000 in
set_option maxHeartbeats 4000000 in
theorem indexP_any (v : Value) (xs : List Pr) (p : Pr) (w : World) (hr : Ps w v xs) :
    Calls Try.prog 69 #[v, p.v] w (IdxP xs p w) := by
  obtain ⟨a, cap, rfl, h1, h2, h3⟩ := hr.parts
  have KEY := Lib.hid h3
  unfold maxLen at h2
  have HY := Lib.hid (fun k hk h => hasP_at (xs := xs) (p := p) (k := k) hk h)
  have HN := Lib.hid (fun h => hasP_none (xs := xs) (p := p) h)
  clear h3 hr
  unfold Pr.v
  go_enter Try.func69, Try.ntmps69
  go_wp2
  have P1 : Hid ((w.alloc (.cells #[.int .i64 p.a, .int .i64 p.b] 33)).cell? ⟨w.heap.size, 0, none⟩ = some (.int .i64 p.a) ∧ (w.alloc (.cells #[.int .i64 p.a, .int .i64 p.b] 33)).cell? ⟨w.heap.size, 1, none⟩ = some (.int .i64 p.b)) := Lib.hid ⟨(World.cell?_alloc_at _ _ _ _ rfl).trans rfl, (World.cell?_alloc_at _ _ _ _ rfl).trans rfl⟩
  have hb0 : Below w.heap.size w (w.alloc (.cells #[.int .i64 p.a, .int .i64 p.b] 33)) := (Below.refl _ _).alloc (Nat.le_refl _) _
  have hz0 : (w.alloc (.cells #[.int .i64 p.a, .int .i64 p.b] 33)).heap.size = w.heap.size + 1 := by simp
  generalize w.alloc (.cells #[.int .i64 p.a, .int .i64 p.b] 33) = w1 at *
  have B1 := Lib.hid hb0
  have Z1 := Lib.hid hz0
  clear hb0 hz0
  go_loopw [5, 8] (fun _ iv wr => ∃ k : Nat, k ≤ xs.length ∧ iv = .int .i64 k ∧ Hid (∀ j, j < k → xs.getD j default ≠ p) ∧ Hid (Below w1.heap.size w1 wr)) (fun _ iv _ => xs.length - (intOf iv).toNat)
  case atStart => exact ⟨0, Nat.zero_le _, rfl, Lib.hid (fun j hj => absurd hj (Nat.not_lt_zero _)), Lib.hid (Below.refl _ _)⟩
  case round =>
    obtain ⟨k, hk, rfl, HNk, HB⟩ := hrel
    by_cases hlt : k < xs.length
    · obtain ⟨b, o, rfl, hb, c0, c1⟩ := KEY.out k hlt
      have hww := B1.out.trans (HB.out.mono B1.out.size)
      rw [← hww.cell (p := ⟨b, o + k * 2, none⟩) hb] at c0
      rw [← hww.cell (p := ⟨b, o + k * 2 + 1, none⟩) hb] at c1
      have p0 : wr.cell? ⟨w.heap.size, 0, none⟩ = some (.int .i64 p.a) := (HB.out.cell (p := ⟨w.heap.size, 0, none⟩) (by show w.heap.size < _; have := Z1.out; omega)).trans P1.out.1
      have p1 : wr.cell? ⟨w.heap.size, 1, none⟩ = some (.int .i64 p.b) := (HB.out.cell (p := ⟨w.heap.size, 1, none⟩) (by show w.heap.size < _; have := Z1.out; omega)).trans P1.out.2
      have hwl : w.heap.size < wr.heap.size := by have := HB.out.size; have := Z1.out; omega
      have hi0 : (0 : Int) ≤ (k : Int) := Int.natCast_nonneg _
      have hi1 : (k : Int) < (xs.length : Int) := by omega
      have hwf : (Lit.int .i64 (k : Int)).wf = true := WalkArith.wf_i64 (by omega)
      have HW := Lib.hid hwf
      clear hww hwf
      have HYk := Lib.hid (HY.out k hlt)
      have HNX : Hid (xs.getD k default ≠ p → ∀ j, j < k + 1 → xs.getD j default ≠ p) := Lib.hid (fun h j hj => by
        rcases Nat.lt_or_eq_of_le (Nat.le_of_lt_succ hj) with h1 | h1
        · exact HNk.out j h1
        · subst h1; exact h)
      generalize xs.getD k default = x at c0 c1 HYk HNX
      obtain ⟨xa, xb⟩ := x
      simp only at c0 c1
      by_cases hxa : xa = p.a
      · by_cases hxb : xb = p.b
        · have HR : Hid (hasP xs p = true) := Lib.hid (HYk.out (by rw [hxa, hxb]))
          rw [hxa] at c0
          rw [hxb] at c1
          clear hxa hxb HNk HNX HYk
          go_wp2
          go_quiet (fail)
          go_wp2
          go_ret
          exact ⟨_, rfl, by rw [HR.out, decide_eq_true_eq]; exact hi0, HW.out, B1.out.trans ((below_drewN' HB.out _).mono B1.out.size)⟩
        · have HR : Hid (∀ j, j < k + 1 → xs.getD j default ≠ p) := Lib.hid (HNX.out (fun e => hxb (by rw [← e])))
          clear HNk HNX HYk
          rw [hxa] at c0
          clear hxa
          have hne : (p.b == xb) = false := beq_eq_false_iff_ne.2 (fun e => hxb e.symm)
          go_wp2
          go_quiet (fail)
          go_wp2
          go_roundw
          case rel => exact ⟨k + 1, by omega, by go_num, HR, Lib.hid (below_drewN' HB.out _)⟩
          case measure => simp [intOf]; omega
      · have HR : Hid (∀ j, j < k + 1 → xs.getD j default ≠ p) := Lib.hid (HNX.out (fun e => hxa (by rw [← e])))
        clear HNk HNX HYk
        have hne : (p.a == xa) = false := beq_eq_false_iff_ne.2 (fun e => hxa e.symm)
        go_wp2
        go_quiet (fail)
        go_wp2
        go_roundw
        case rel => exact ⟨k + 1, by omega, by go_num, HR, Lib.hid (below_drewN' HB.out _)⟩
        case measure => simp [intOf]; omega
    · obtain rfl : k = xs.length := by omega
      have HR := Lib.hid (HN.out HNk.out)
      go_wp2
      go_ret
      exact ⟨-1, rfl, by rw [HR.out]; rfl, by decide, B1.out.trans (HB.out.mono B1.out.size)⟩

set_option maxHeartbeats 1000000 in
theorem containsP_any (v : Value) (xs : List Pr) (p : Pr) (w : World) (hr : Ps w v xs) :
    Calls Try.prog 58 #[v, p.v] w fun e w' => e = .returned (.bool (hasP xs p)) ∧ Below w.heap.size w w' := by
  have KI := Lib.hid (fun W (h : Below w.heap.size w W) => indexP_any v xs p W (hr.below h (Nat.le_refl _)))
  obtain ⟨a, cap, rfl⟩ := hr.form
  clear hr
  unfold Pr.v IdxP at *
  go_enter Try.func58, Try.ntmps58
  go_wp2_with fail
  refine (KI.out _ (by go_grown)).mono ?_
  rintro e w2 ⟨i, rfl, hi, hwf, hb2⟩
  have B2 : Hid (Below w.heap.size w w2) := Lib.hid (Below.trans (by go_grown) (hb2.mono (by simp)))
  clear hb2
  have HI := Lib.hid hi
  clear hi
  by_cases h0 : 0 ≤ i
  · go_wp2
    go_ret
    exact ⟨ret_bool (by simp [← HI.out, h0]), B2.out⟩
  · go_wp2
    go_ret
    exact ⟨ret_bool (by simp [← HI.out, h0]), B2.out⟩

/-- a person: the function that tells the number that is seen, and the map of the pairs that are possible -/
def fv (n : FuncId) : Value := .func (.func n) #[] #[]
def pv (n : FuncId) (b : Nat) : Value := .agg #[fv n, .map (some b)]
/-- the function n tells the number κ of a pair -/
def SeesP (n : FuncId) (κ : Pr → Int) : Prop := ∀ (p : Pr) (w : World), Calls Try.prog n #[p.v] w fun e w' => e = .returned (.int .i64 (κ p)) ∧ Below w.heap.size w w'
end Go.Proofs.Ytmcjimmebbkjcaa
