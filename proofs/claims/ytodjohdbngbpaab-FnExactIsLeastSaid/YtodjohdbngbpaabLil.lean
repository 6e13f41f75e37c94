/-
  The walk of the law FnExactIsLeast: it returns true and writes nothing that was there. No condition.
-/
import Derived.Test.YtodjohdbngbpaabIil
import Derived.Test.YtodjohdbngbpaabSil
namespace Go.Proofs.Ytodjohdbngbpaab
open Go.RowKit Go.WideShapes
open Go Go.Deep

set_option maxRecDepth 100000 in
set_option maxHeartbeats 16000000 in
theorem walk_FnExactIsLeast (v00 : Value) (m : Md) (w : World) (h0 : Mv 0 w.heap.size w v00 m) :
    Calls Try.prog 3 #[v00] w fun e w' => e = .returned (.bool true) ∧ Below w.heap.size w w' := by
  obtain ⟨fv0, bv0, rfl, hf0, hbb0⟩ := id h0
  have KZ := Lib.hid (fun W (h : Below w.heap.size w W) => szModel_any 0 w.heap.size _ m W (h0.keeps (Keeps.of_all h)))
  have KT := Lib.hid (fun W (h : Below w.heap.size w W) => toModel_any 0 w.heap.size _ m W (h0.keeps (Keeps.of_all h)) h.size)
  have KE := Lib.hid (fun lo hi lo' hi' u v W h h' => eqModel_same lo hi lo' hi' u v m W h h')
  clear h0 hf0 hbb0
  by_cases hbig : 1048576 < msize m + m.blocks.length
  · rw [budget_big hbig] at KZ
    clear KT hbig KE
    go_enter Try.func3, Try.ntmps3
    go_wp2_with fail
    refine (KZ.out _ (by go_grown)).mono ?_
    rintro e w1 ⟨rfl, hb1⟩
    have B1 : Hid (Below w.heap.size w w1) := Lib.hid (Below.trans (by go_grown) (hb1.mono (by simp)))
    clear hb1
    go_wp2
    go_ret
    exact ⟨rfl, B1.out⟩
  have hsm : msize m + m.blocks.length ≤ 1048576 := by omega
  rw [budget_small hsm] at KZ
  have hbn : (0 : Int) ≤ 1048576 - ((msize m + m.blocks.length : Nat) : Int) := by omega
  have HSM := Lib.hid hsm
  have hbl : 1048576 - ((msize m + m.blocks.length : Nat) : Int) ≤ 1048576 := by omega
  generalize (1048576 : Int) - ((msize m + m.blocks.length : Nat) : Int) = left at *
  clear hbig hsm
  have KS := Lib.hid (fun lo hi v W h (_ : hi ≤ W.heap.size) => specIsLeast_any lo hi v m W h)
  have KI := Lib.hid (fun lo hi v W h hh => implIsLeast_any lo hi v m W h hh)
  generalize isLeastR m = ok at *
  go_enter Try.func3, Try.ntmps3
  have B0 : Hid (Below w.heap.size w w) := Lib.hid (Below.refl _ _)
  go_wp2_with fail
  have A1 := Lib.hid (Mcell.new (w := w) (T := 25) (b := w.heap.size) (fv := fv0) (bv := bv0) (n := m.actual) rfl)
  have hb1 : Below w.heap.size w (w.alloc (.cells #[fv0, bv0, .int .i64 m.actual] 25)) := by go_grown
  have hz1 : (w.alloc (.cells #[fv0, bv0, .int .i64 m.actual] 25)).heap.size = w.heap.size + 1 := by simp
  generalize w.alloc (.cells #[fv0, bv0, .int .i64 m.actual] 25) = w1 at *
  have B2 : Hid (Below w.heap.size w w1) := Lib.hid (B0.out.trans (hb1.mono B0.out.size))
  clear B0
  have Z1 := Lib.hid hz1
  clear hb1 hz1
  refine (KZ.out _ B2.out).mono ?_
  rintro e w2 ⟨rfl, hb2⟩
  have B3 : Hid (Below w.heap.size w w2) := Lib.hid (B2.out.trans (hb2.mono B2.out.size))
  have A4 := Lib.hid (A1.out.below hb2)
  clear B2 A1
  have Z2 : Hid (w1.heap.size ≤ w2.heap.size) := Lib.hid hb2.size
  clear hb2
  obtain ⟨ac0, ac1, ac2, _⟩ := A4.out
  have alt := A4.out.lt
  go_wp2_with fail
  refine (KT.out _ B3.out HSM.out).mono ?_
  rintro e w3 ⟨v3, rfl, ho3, hb3⟩
  clear ac0 ac1 ac2 alt
  have B5 : Hid (Below w.heap.size w w3) := Lib.hid (B3.out.trans (hb3.mono B3.out.size))
  have A6 := Lib.hid (A4.out.below hb3)
  clear B3 A4
  have Z3 : Hid (w2.heap.size ≤ w3.heap.size) := Lib.hid hb3.size
  have P7 := Lib.hid ho3
  clear ho3 hb3
  go_wp2_with fail
  refine (KS.out _ _ _ _ P7.out.read (by have z1 := Z1.out; have z2 := Z2.out; have z3 := Z3.out; omega)).mono ?_
  rintro e w4 ⟨rfl, hb4⟩
  have B8 : Hid (Below w.heap.size w w4) := Lib.hid (B5.out.trans (hb4.mono B5.out.size))
  have A9 := Lib.hid (A6.out.below hb4)
  have P10 := Lib.hid (P7.out.keeps (Keeps.of_all hb4))
  clear B5 A6 P7
  have Z4 : Hid (w3.heap.size ≤ w4.heap.size) := Lib.hid hb4.size
  clear hb4
  clear P10
  obtain ⟨ac0, ac1, ac2, _⟩ := A9.out
  have alt := A9.out.lt
  go_wp2_with fail
  clear ac0 ac1 ac2 alt
  refine (KT.out _ B8.out HSM.out).mono ?_
  rintro e w5 ⟨v5, rfl, ho5, hb5⟩
  have B11 : Hid (Below w.heap.size w w5) := Lib.hid (B8.out.trans (hb5.mono B8.out.size))
  have A12 := Lib.hid (A9.out.below hb5)
  clear B8 A9
  have Z5 : Hid (w4.heap.size ≤ w5.heap.size) := Lib.hid hb5.size
  have X13 := Lib.hid ho5
  clear ho5 hb5
  obtain ⟨fa5, fc5, ba5, bc5, e5⟩ := X13.out.read.form
  subst e5
  go_wp2_with fail
  have Xb14 := Lib.hid (Mcell.new (w := w5) (T := 28) (b := w5.heap.size) (fv := .slice fa5 m.facts.length fc5) (bv := .slice ba5 m.blocks.length bc5) (n := m.actual) rfl)
  have hb6 : Below w5.heap.size w5 (w5.alloc (.cells #[.slice fa5 m.facts.length fc5, .slice ba5 m.blocks.length bc5, .int .i64 m.actual] 28)) := by go_grown
  have hz6 : (w5.alloc (.cells #[.slice fa5 m.facts.length fc5, .slice ba5 m.blocks.length bc5, .int .i64 m.actual] 28)).heap.size = w5.heap.size + 1 := by simp
  generalize w5.alloc (.cells #[.slice fa5 m.facts.length fc5, .slice ba5 m.blocks.length bc5, .int .i64 m.actual] 28) = w6 at *
  have B15 : Hid (Below w.heap.size w w6) := Lib.hid (B11.out.trans (hb6.mono B11.out.size))
  have A16 := Lib.hid (A12.out.below hb6)
  have X17 := Lib.hid (X13.out.keeps (Keeps.of_all hb6))
  clear B11 A12 X13
  have Z6 := Lib.hid hz6
  clear hb6 hz6
  refine (KI.out _ _ _ _ X17.out.read (by have z1 := Z1.out; have z2 := Z2.out; have z3 := Z3.out; have z4 := Z4.out; have z5 := Z5.out; have z6 := Z6.out; omega)).mono ?_
  rintro e w7 ⟨rfl, hb7⟩
  have B18 : Hid (Below w.heap.size w w7) := Lib.hid (B15.out.trans (hb7.mono B15.out.size))
  have A19 := Lib.hid (A16.out.below hb7)
  have X20 := Lib.hid (X17.out.keeps (Keeps.of_all hb7))
  have Xb21 := Lib.hid (Xb14.out.below hb7)
  clear B15 A16 X17 Xb14
  have Z7 : Hid (w6.heap.size ≤ w7.heap.size) := Lib.hid hb7.size
  clear hb7
  go_wp2
  refine wp_region_held_drew (S := fun w' => Below w7.heap.size w7 w') (by kernel_rfl) (Below.refl _ _).drew (fun hHeld => ?_)
  refine wpAnyH_take (i := 0) (v := .agg #[.slice fa5 m.facts.length fc5, .slice ba5 m.blocks.length bc5, .int .i64 m.actual]) rfl (by kernel_rfl) (by kernel_rfl) (by kernel_rfl) (fun _ _ _ h => h) (Or.inl ⟨by rfl, by intro W hSw; obtain ⟨c0, c1, c2, _⟩ := Xb21.out.below hSw; go_simp⟩) hHeld ?_
  simp only [Act.put]
  refine wpAnyH_take (i := 1) (v := .agg #[fv0, bv0, .int .i64 m.actual]) rfl (by kernel_rfl) (by kernel_rfl) (by kernel_rfl) (fun _ _ _ h => h) (Or.inl ⟨by rfl, by intro W hSw; obtain ⟨c0, c1, c2, _⟩ := A19.out.below hSw; go_simp⟩) hHeld ?_
  simp only [Act.put]
  refine wpAnyH_ready (rs := [2]) (by kernel_rfl) (by simp) ?_
  refine AllReadyH.cons rfl (fun K hK => ?_) AllReadyH.nil
  go_simp
  refine (KT.out _ (B18.out.trans (hHeld.mono B18.out.size)) HSM.out).mono ?_
  rintro e w8 ⟨v8, rfl, ho8, hb8⟩
  have hB8 : Below w7.heap.size w7 w8 := hHeld.trans (hb8.mono hHeld.size)
  have M8 := Lib.hid ho8.read
  clear ho8 hb8 hHeld
  refine hK.out _ _ hB8 (fun hHeld => ?_)
  clear hK K
  refine wpAnyH_ready (rs := [3]) (by kernel_rfl) (by simp) ?_
  refine AllReadyH.cons rfl (fun K hK => ?_) AllReadyH.nil
  go_simp
  refine (KE.out _ _ _ _ _ _ _ (X20.out.read.keeps (Keeps.of_all hB8)) M8.out).mono ?_
  rintro e w9 ⟨rfl, hb9⟩
  have hB9 : Below w7.heap.size w7 w9 := hB8.trans (hb9.mono hB8.size)
  clear hB8 hb9 hHeld M8
  refine hK.out _ _ hB9 (fun hHeld => ?_)
  clear hK K
  refine wpAnyH_take (i := 4) (v := .bool false) rfl (by kernel_rfl) (by kernel_rfl) (by kernel_rfl) (fun _ _ _ h => h) (Or.inl ⟨by rfl, by intro w hSw; go_simp⟩) hHeld ?_
  simp only [Act.put]
  refine wpAnyH_done (by kernel_rfl) ?_ _
  clear hHeld
  have B22 : Hid (Below w.heap.size w w9) := Lib.hid (B18.out.trans (hB9.mono B18.out.size))
  have A23 := Lib.hid (A19.out.below hB9)
  have X24 := Lib.hid (X20.out.keeps (Keeps.of_all hB9))
  have Xb25 := Lib.hid (Xb21.out.below hB9)
  clear B18 A19 X20 Xb21
  have Z9 : Hid (w7.heap.size ≤ w9.heap.size) := Lib.hid hB9.size
  clear hB9
  go_wp2
  go_ret
  exact ⟨rfl, B22.out⟩
end Go.Proofs.Ytodjohdbngbpaab
