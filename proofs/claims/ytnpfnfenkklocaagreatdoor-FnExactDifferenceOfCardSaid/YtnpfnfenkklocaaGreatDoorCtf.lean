/-
  slices.IndexFunc, slices.ContainsFunc over []int with a test; the test of impl.firstMissing.
-/
import Derived.Test.YtnpfnfenkklocaaGreatDoorZRch
import Derived.Test.YtnpfnfenkklocaaGreatDoorDfs
import Derived.Test.YtnpfnfenkklocaaGreatDoorZKey
namespace Go.Proofs.YtnpfnfenkklocaaGreatDoor
open Go.RowKit Go.WideShapes
open Go Go.Deep
set_option linter.unusedSimpArgs false

theorem any_at {L : List Nat} {q : Nat → Bool} {j : Nat} (hj : j < L.length) (h : q (L.getD j 0) = true) : L.any q = true := by
  rw [List.any_eq_true]
  refine ⟨_, ?_, h⟩
  rw [List.getD_eq_getElem?_getD, List.getElem?_eq_getElem hj]
  exact List.getElem_mem hj
theorem any_no {L : List Nat} {q : Nat → Bool} (h : ∀ i, i < L.length → q (L.getD i 0) = false) : L.any q = false := by
  rw [Bool.eq_false_iff]
  intro h2
  obtain ⟨z, hz, hq⟩ := List.any_eq_true.1 h2
  obtain ⟨i, hi, rfl⟩ := List.mem_iff_getElem.1 hz
  have := h i hi
  rw [List.getD_eq_getElem?_getD, List.getElem?_eq_getElem hi] at this
  simp only [Option.getD_some] at this
  rw [this] at hq; cases hq

set_option maxRecDepth 100000 in
set_option maxHeartbeats 8000000 in
theorem indexF_any (lo hi : Nat) (v : Value) (L : List Nat) (k : FuncId) (caps : Array Value) (n : Nat) (q : Nat → Bool) (w : World) (hv : Iv lo hi w v (nums L)) (h0 : 0 < L.length) (hn : ∀ z ∈ L, z < n) (ht : Test w k caps n q) :
    Calls Tryz.prog 110 #[v, .func (.func k) #[] caps] w fun e w' => ∃ r : Int, e = .returned (.int .i64 r) ∧ decide (0 ≤ r) = L.any q ∧ Below w.heap.size w w' := by
  obtain ⟨ub, uo, uc, rfl, u1, u2, u3, hU⟩ := iv_open hv (by rw [nums_len]; exact h0)
  rw [nums_len] at u1 hU ⊢
  unfold maxLen at u2
  have HU := Lib.hid (fun W (h : Below w.heap.size w W) j (hj : j < L.length) => (hU W h j hj).trans (by rw [nums_at hj]))
  have HM := Lib.hid (fun j (hj : j < L.length) => hn (L.getD j 0) (by rw [List.getD_eq_getElem?_getD, List.getElem?_eq_getElem hj]; exact List.getElem_mem hj))
  have HE := Lib.hid ht.1
  have HT := Lib.hid ht.2
  have HY := Lib.hid (fun j hj h => any_at (L := L) (q := q) (j := j) hj h)
  have HN := Lib.hid (fun h => any_no (L := L) (q := q) h)
  generalize L.any q = R at *
  clear hv hn ht hU
  go_enter Tryz.func110, Tryz.ntmps110
  go_wp2
  go_loopw [8] (fun iv wr => ∃ j : Nat, j ≤ L.length ∧ iv = .int .i64 j ∧ Hid (∀ i, i < j → q (L.getD i 0) = false) ∧ Hid (Below w.heap.size w wr)) (fun iv _ => L.length - (intOf iv).toNat)
  case atStart => exact ⟨0, Nat.zero_le _, rfl, Lib.hid (fun i h => absurd h (Nat.not_lt_zero _)), Lib.hid (Below.refl _ _)⟩
  case round =>
    obtain ⟨j, hj, rfl, HF, BR⟩ := hrel
    by_cases hlt : j < L.length
    · have hj0 : (0 : Int) ≤ (j : Int) := Int.natCast_nonneg _
      have hjn : (j : Int) < (L.length : Int) := by omega
      have hu := HU.out _ BR.out j hlt
      have hzn := HM.out j hlt
      have HYj := Lib.hid (HY.out j hlt)
      have KT := Lib.hid (HT.out _ hzn)
      have HF2 : Hid (q (L.getD j 0) = false → ∀ i, i < j + 1 → q (L.getD i 0) = false) := Lib.hid (fun h i hi => by
        rcases Nat.lt_or_eq_of_le (Nat.le_of_lt_succ hi) with h1 | rfl
        · exact HF.out i h1
        · exact h)
      obtain ⟨z, hz⟩ : ∃ z, z = L.getD j 0 := ⟨_, rfl⟩
      rw [← hz] at hu hzn HYj KT HF2
      clear hz
      obtain ⟨b, hb⟩ : ∃ b, b = q z := ⟨_, rfl⟩
      rw [← hb] at HYj KT HF2
      clear hb
      have hent : ∀ args w, (callFunc k args).run Tryz.prog w = .ok (.enter k args) w := HE.out
      have tk3 : True := trivial
      cases b with
      | true =>
        have HRt := Lib.hid (HYj.out rfl)
        clear HYj HF2
        go_wp2_with
          (first
            | (have _t := tk3; clear _t tk3; with_reducible refine (KT.out _ BR.out).mono ?_
               rintro e w5 ⟨rfl, hb5⟩
               have BR : Hid (Below w.heap.size w w5) := Lib.hid (BR.out.trans (hb5.mono BR.out.size))
               clear hb5))
        go_ret
        exact ⟨_, rfl, by rw [HRt.out, decide_eq_true hj0], BR.out⟩
      | false =>
        have HF3 := Lib.hid (HF2.out rfl)
        clear HYj HF2
        go_wp2_with
          (first
            | (have _t := tk3; clear _t tk3; with_reducible refine (KT.out _ BR.out).mono ?_
               rintro e w5 ⟨rfl, hb5⟩
               have BR : Hid (Below w.heap.size w w5) := Lib.hid (BR.out.trans (hb5.mono BR.out.size))
               clear hb5))
        go_roundw
        case rel => exact ⟨j + 1, by omega, by go_num, HF3, BR⟩
        case measure => simp [intOf]; omega
    · obtain rfl : j = L.length := by omega
      have HRf := Lib.hid (HN.out HF.out)
      go_wp2
      go_ret
      exact ⟨_, rfl, by rw [HRf.out]; rfl, BR.out⟩

set_option maxRecDepth 100000 in
set_option maxHeartbeats 8000000 in
theorem containsF_any (lo hi : Nat) (v : Value) (L : List Nat) (k : FuncId) (caps : Array Value) (n : Nat) (q : Nat → Bool) (w : World) (hv : Iv lo hi w v (nums L)) (h0 : 0 < L.length) (hn : ∀ z ∈ L, z < n) (ht : Test w k caps n q) :
    Calls Tryz.prog 98 #[v, .func (.func k) #[] caps] w fun e w' => e = .returned (.bool (L.any q)) ∧ Below w.heap.size w w' := by
  have K := Lib.hid (indexF_any lo hi v L k caps n q w hv h0 hn ht)
  obtain ⟨ub, uo, uc, rfl, -⟩ := iv_open hv (by rw [nums_len]; exact h0)
  generalize L.any q = R at *
  clear hv hn ht h0
  go_enter Tryz.func98, Tryz.ntmps98
  go_wp2_with fail
  refine K.out.mono ?_
  rintro e w1 ⟨r, rfl, hr, hb⟩
  have HR := Lib.hid hr
  have HB := Lib.hid hb
  clear hr hb
  go_wp2
  go_ret
  exact ⟨ret_bool HR.out, HB.out⟩

set_option maxRecDepth 100000 in
set_option maxHeartbeats 8000000 in
theorem same_test (w : World) (b5 b8 : Nat) (c : Nat → Int) (x : Nat) (hx : x < 16) (h5 : Cm w b5 56 (ints (rowF c))) (h8 : Cm w b8 3 [.int .i64 x]) :
    Test w 97 #[.pointer (some ⟨b5, 0, none⟩), .pointer (some ⟨b8, 0, none⟩)] 16 (fun i => c i == c x) := by
  refine ⟨enters_of Tryz.func97 (by kernel_rfl) rfl, fun i hi W hW => ?_⟩
  show Calls Tryz.prog 97 #[.int .i64 i, .pointer (some ⟨b5, 0, none⟩), .pointer (some ⟨b8, 0, none⟩)] W fun e W' => e = .returned (.bool (c i == c x)) ∧ Below W.heap.size W W'
  have c1 : W.cell? ⟨b5, i, none⟩ = some (.int .i64 (c i)) := by rw [(h5.all hW).cell, ints_at (by rw [rowF_len]; exact hi), rowF_get c hi]
  have c2 : W.cell? ⟨b5, x, none⟩ = some (.int .i64 (c x)) := by rw [(h5.all hW).cell, ints_at (by rw [rowF_len]; exact hx), rowF_get c hx]
  have c3 : W.cell? ⟨b8, 0, none⟩ = some (.int .i64 x) := (h8.all hW).cell 0
  have hi0 : (0 : Int) ≤ (i : Int) := Int.natCast_nonneg _
  have hi16 : (i : Int) < 16 := by omega
  have hx0 : (0 : Int) ≤ (x : Int) := Int.natCast_nonneg _
  have hx16 : (x : Int) < 16 := by omega
  generalize c i = a1 at *
  generalize c x = a2 at *
  clear h5 h8 hW
  go_enter Tryz.func97, Tryz.ntmps97
  go_wp2
  go_quiet (fail)
  go_wp2
  go_ret
  exact ⟨rfl, below_drewN' (Below.refl _ _) _⟩
end Go.Proofs.YtnpfnfenkklocaaGreatDoor
