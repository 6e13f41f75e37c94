/-
  The functions that tell the number which a person sees; slices.IndexFunc and ContainsFunc over pairs, for any predicate that keeps what was there. No condition.
-/
import Derived.Test.YtmcjimmebbkjcaaPic
import Derived.Shelf.Abstract
namespace Go.Proofs.Ytmcjimmebbkjcaa
open Go.RowKit Go.WideShapes
open Go Go.Deep
set_option linter.unusedSimpArgs false

/-- the function n can be called -/
def EntP (n : FuncId) : Prop := Enters Try.prog n
theorem entB : EntP 67 := enters_of Try.func67 (by kernel_rfl) rfl
theorem entA : EntP 68 := enters_of Try.func68 (by kernel_rfl) rfl
theorem entProduct : EntP 51 := enters_of Try.func51 (by kernel_rfl) rfl
theorem entSum : EntP 53 := enters_of Try.func53 (by kernel_rfl) rfl
set_option maxHeartbeats 1000000 in
theorem seesB : SeesP 67 (keyP true) := fun p w => by
  unfold Pr.v keyP
  go_enter Try.func67, Try.ntmps67
  go_wp2
  go_ret
  exact ⟨rfl, by go_grown⟩
set_option maxHeartbeats 1000000 in
theorem seesA : SeesP 68 (keyP false) := fun p w => by
  unfold Pr.v keyP
  go_enter Try.func68, Try.ntmps68
  go_wp2
  go_ret
  exact ⟨rfl, by go_grown⟩
set_option maxHeartbeats 1000000 in
theorem seesProduct : SeesP 51 prodW := fun p w => by
  obtain ⟨R, hR⟩ : ∃ R, R = prodW p := ⟨_, rfl⟩
  rw [← hR]
  have wp : IntKind.i64.wrap (p.a * p.b) = R := hR.symm
  clear hR
  unfold Pr.v
  go_enter Try.func51, Try.ntmps51
  go_wp2
  go_ret
  exact ⟨rfl, by go_grown⟩
set_option maxHeartbeats 1000000 in
theorem seesSum : SeesP 53 sumW := fun p w => by
  obtain ⟨R, hR⟩ : ∃ R, R = sumW p := ⟨_, rfl⟩
  rw [← hR]
  have wp : IntKind.i64.wrap (p.a + p.b) = R := hR.symm
  clear hR
  unfold Pr.v
  go_enter Try.func53, Try.ntmps53
  go_wp2
  go_ret
  exact ⟨rfl, by go_grown⟩

theorem any_prefix {xs : List Pr} {t : Pr → Bool} (h : ∀ j, j < xs.length → t (xs.getD j default) = false) : xs.any t = false := by
  rw [Bool.eq_false_iff, Ne, List.any_eq_true]
  rintro ⟨x, hx, e⟩
  obtain ⟨j, hj, rfl⟩ := List.mem_iff_getElem.1 hx
  have := h j hj
  rw [List.getD_eq_getElem?_getD, List.getElem?_eq_getElem hj] at this
  rw [show (some xs[j]).getD default = xs[j] from rfl, e] at this
  cases this
theorem any_at {xs : List Pr} {t : Pr → Bool} {k : Nat} (hk : k < xs.length) (h : t (xs.getD k default) = true) : xs.any t = true := by
  rw [List.any_eq_true]
  refine ⟨_, ?_, h⟩
  rw [List.getD_eq_getElem?_getD, List.getElem?_eq_getElem hk]
  exact List.getElem_mem hk
def IdxF (r : Bool) (w : World) (e : Ending) (w' : World) : Prop := ∃ i : Int, e = .returned (.int .i64 i) ∧ decide (0 ≤ i) = r ∧ (Lit.int .i64 i).wf = true ∧ Below w.heap.size w w'
/-- a predicate that keeps what was there in w -/
def PredP (g : FuncId) (lb : Array Value) (t : Pr → Bool) (w : World) : Prop := ∀ (W : World) (x : Pr), Below w.heap.size w W → Calls Try.prog g (#[x.v] ++ lb) W fun e w' => e = .returned (.bool (t x)) ∧ Below W.heap.size W w'

set_option maxRecDepth 100000 in
set_option maxHeartbeats 4000000 in
theorem indexF_any (g : FuncId) (lb : Array Value) (t : Pr → Bool) (v : Value) (xs : List Pr) (w : World) (hr : Ps w v xs) (eg : EntP g) (hp : PredP g lb t w) :
    Calls Try.prog 71 #[v, .func (.func g) #[] lb] w (IdxF (xs.any t) w) := by
  obtain ⟨a, cap, rfl, h1, h2, h3⟩ := hr.parts
  have KEY := Lib.hid h3
  have HPR := Lib.hid hp
  unfold maxLen at h2
  have HEG := Lib.hid eg
  have HY := Lib.hid (fun k hk h => any_at (xs := xs) (t := t) (k := k) hk h)
  have HN := Lib.hid (fun h => any_prefix (xs := xs) (t := t) h)
  clear h3 hr hp eg
  generalize xs.any t = R at *
  go_enter Try.func71, Try.ntmps71
  go_wp2
  go_loopw [5, 8] (fun _ iv wr => ∃ k : Nat, k ≤ xs.length ∧ iv = .int .i64 k ∧ Hid (∀ j, j < k → t (xs.getD j default) = false) ∧ Hid (Below w.heap.size w wr)) (fun _ iv _ => xs.length - (intOf iv).toNat)
  case atStart => exact ⟨0, Nat.zero_le _, rfl, Lib.hid (fun j hj => absurd hj (Nat.not_lt_zero _)), Lib.hid (Below.refl _ _)⟩
  case round =>
    obtain ⟨k, hk, rfl, HNk, HB⟩ := hrel
    by_cases hlt : k < xs.length
    · obtain ⟨b, o, rfl, hb, c0, c1⟩ := KEY.out k hlt
      rw [← HB.out.cell (p := ⟨b, o + k * 2, none⟩) hb] at c0
      rw [← HB.out.cell (p := ⟨b, o + k * 2 + 1, none⟩) hb] at c1
      have hi0 : (0 : Int) ≤ (k : Int) := Int.natCast_nonneg _
      have hi1 : (k : Int) < (xs.length : Int) := by omega
      have hwf : (Lit.int .i64 (k : Int)).wf = true := WalkArith.wf_i64 (by omega)
      have HW := Lib.hid hwf
      clear hwf
      have HYk := Lib.hid (HY.out k hlt)
      have HNX : Hid (t (xs.getD k default) = false → ∀ j, j < k + 1 → t (xs.getD j default) = false) := Lib.hid (fun h j hj => by
        rcases Nat.lt_or_eq_of_le (Nat.le_of_lt_succ hj) with h1 | h1
        · exact HNk.out j h1
        · subst h1; exact h)
      have KT := Lib.hid (HPR.out wr (xs.getD k default) HB.out)
      generalize xs.getD k default = x at c0 c1 HYk HNX KT
      obtain ⟨xa, xb⟩ := x
      unfold Pr.v at KT
      simp only at c0 c1
      have hent : ∀ args w, (callFunc g args).run Try.prog w = .ok (.enter g args) w := HEG.out
      cases ht : t ⟨xa, xb⟩ with
      | true =>
        rw [ht] at KT
        have HR := Lib.hid (HYk.out ht)
        clear ht HYk HNX
        go_wp2_with (with_reducible refine KT.out.mono ?_; rintro e w' ⟨rfl, hb'⟩)
        go_ret
        exact ⟨_, rfl, by rw [HR.out, decide_eq_true_eq]; exact hi0, HW.out, HB.out.trans (hb'.mono HB.out.size)⟩
      | false =>
        rw [ht] at KT
        have HR := Lib.hid (HNX.out ht)
        clear ht HYk HNX
        go_wp2_with (with_reducible refine KT.out.mono ?_; rintro e w' ⟨rfl, hb'⟩)
        have B' : Hid (Below w.heap.size w w') := Lib.hid (HB.out.trans (hb'.mono HB.out.size))
        clear hb'
        go_roundw
        case rel => exact ⟨k + 1, by omega, by go_num, HR, B'⟩
        case measure => simp [intOf]; omega
    · obtain rfl : k = xs.length := by omega
      have HR := Lib.hid (HN.out HNk.out)
      go_wp2
      go_ret
      exact ⟨-1, rfl, by rw [HR.out]; rfl, by decide, HB.out⟩

set_option maxHeartbeats 1000000 in
theorem containsF_any (g : FuncId) (lb : Array Value) (t : Pr → Bool) (v : Value) (xs : List Pr) (w : World) (hr : Ps w v xs) (eg : EntP g) (hp : PredP g lb t w) :
    Calls Try.prog 64 #[v, .func (.func g) #[] lb] w fun e w' => e = .returned (.bool (xs.any t)) ∧ Below w.heap.size w w' := by
  have KI := Lib.hid (indexF_any g lb t v xs w hr eg hp)
  obtain ⟨a, cap, rfl⟩ := hr.form
  clear hr hp
  generalize xs.any t = R at *
  unfold IdxF at KI
  go_enter Try.func64, Try.ntmps64
  go_wp2_with fail
  refine KI.out.mono ?_
  rintro e w2 ⟨i, rfl, hi, hwf, hb2⟩
  have B2 := Lib.hid hb2
  have HI := Lib.hid hi
  clear hi hb2
  by_cases h0 : 0 ≤ i
  · go_wp2
    go_ret
    exact ⟨ret_bool (by simp [← HI.out, h0]), B2.out⟩
  · go_wp2
    go_ret
    exact ⟨ret_bool (by simp [← HI.out, h0]), B2.out⟩
end Go.Proofs.Ytmcjimmebbkjcaa
