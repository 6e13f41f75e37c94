/-
  spec.WorldsLeft, and the walk of the law FnExactWorldsLeft: it returns true and writes nothing that was there. No condition.
-/
import Derived.Test.YtodjohdbngbpaaaWle
import Derived.Test.YtodjohdbngbpaaaZAnn
import Derived.Test.YtodjohdbngbpaaaZTerm
namespace Go.Proofs.Ytodjohdbngbpaaa
open Go.RowKit Go.WideShapes
open Go Go.Deep
set_option linter.unusedSimpArgs false

theorem ann_left {m : Md} {xs : List Nd} (h : holdsR m xs = true) : leftR m xs = (restM m (lst (evP m xs) 16)).facts.length := by
  unfold leftR stayP
  rw [if_pos h]
  show _ = (pick m.facts (lst (evP m xs) 16)).length
  rw [pick_len]
theorem ann_left0 {m : Md} {xs : List Nd} (h : holdsR m xs = false) : leftR m xs = 0 := by
  unfold leftR stayP
  rw [h]
  rfl

set_option maxRecDepth 100000 in
set_option maxHeartbeats 16000000 in
theorem specLeft_any (lo hi : Nat) (v v2 : Value) (m : Md) (xs : List Nd) (w : World) (hr : Mv lo hi w v m) (hhi : hi ≤ w.heap.size) (hr2 : Ns w v2 xs) :
    Calls Try.prog 25 #[v, v2] w fun e w' => e = .returned (.int .i64 (leftR m xs)) ∧ Below w.heap.size w w' := by
  have KA := Lib.hid (fun W (h : Below w.heap.size w W) => specAnn_any lo hi v v2 m xs W (hr.keeps (Keeps.of_all h)) (Nat.le_trans hhi h.size) (hr2.below h (Nat.le_refl _)))
  have HL : Hid (((annR m xs).getD ⟨[], [], 0⟩).facts.length = leftR m xs) := Lib.hid (by
    unfold annR
    cases h : holdsR m xs with
    | true => rw [if_pos rfl, ann_left h]; rfl
    | false => rw [ann_left0 h]; rfl)
  have HL0 : Hid ((annR m xs).isSome = false → leftR m xs = 0) := Lib.hid (by
    unfold annR
    cases h : holdsR m xs with
    | true => intro h'; simp at h'
    | false => intro _; exact ann_left0 h)
  have hle := leftR_le m xs
  have h0 : (0 : Int) ≤ (leftR m xs : Int) := Int.natCast_nonneg _
  unfold MdAns2 at KA
  generalize (annR m xs).getD ⟨[], [], 0⟩ = R at *
  generalize (annR m xs).isSome = ok at *
  generalize leftR m xs = q at *
  obtain ⟨fv, bv, rfl, hf, hb⟩ := hr
  obtain ⟨a2, c2, rfl, -⟩ := hr2.parts
  clear hf hb hr2
  cases ok with
  | false =>
    have HQ := Lib.hid (HL0.out rfl)
    clear HL0
    go_enter Try.func25, Try.ntmps25
    go_wp2_with fail
    refine (KA.out _ (by go_grown)).mono ?_
    rintro e w1 ⟨v1, rfl, ho, hb1⟩
    obtain ⟨fa, fc, ba, bc, e1⟩ := ho.read.form
    subst e1
    have B1 : Hid (Below w.heap.size w w1) := Lib.hid (Below.trans (by go_grown) (hb1.mono (by simp)))
    clear ho hb1
    have sb1 : w.heap.size ≤ w1.heap.size := B1.out.size
    go_wp2
    go_ret
    exact ⟨by rw [HQ.out]; rfl, by have := B1.out; go_grown⟩
  | true =>
    clear HL0
    go_enter Try.func25, Try.ntmps25
    go_wp2_with fail
    refine (KA.out _ (by go_grown)).mono ?_
    rintro e w1 ⟨v1, rfl, ho, hb1⟩
    obtain ⟨fa, fc, ba, bc, e1⟩ := ho.read.form
    subst e1
    rw [HL.out]
    have B1 : Hid (Below w.heap.size w w1) := Lib.hid (Below.trans (by go_grown) (hb1.mono (by simp)))
    clear ho hb1
    have sb1 : w.heap.size ≤ w1.heap.size := B1.out.size
    go_wp2
    go_ret
    exact ⟨rfl, by have := B1.out; go_grown⟩
end Go.Proofs.Ytodjohdbngbpaaa
