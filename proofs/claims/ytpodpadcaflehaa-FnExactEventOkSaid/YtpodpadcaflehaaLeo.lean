/-
  The walk of the law FnExactEventOk: it returns true and writes nothing that was there. No condition.
-/
import Derived.Test.YtpodpadcaflehaaEos
import Derived.Test.YtpodpadcaflehaaFrm
namespace Go.Proofs.Ytpodpadcaflehaa
open Go.RowKit Go.WideShapes
open Go Go.Deep
set_option linter.unusedSimpArgs false


set_option maxRecDepth 100000 in
set_option maxHeartbeats 16000000 in
theorem walk_FnExactEventOk (v00 : Value) (x : Ed) (w : World) (h0 : Vv 0 w.heap.size w v00 x) :
    Calls Try.prog 4 #[v00] w fun e w' => e = .returned (.bool true) ∧ Below w.heap.size w w' := by
  obtain ⟨fv0, bv0, rfl, hf0, hbb0⟩ := id h0
  clear hf0 hbb0
  have KZ0 := Lib.hid (fun left W (h : Below w.heap.size w W) hz0 hz1 => szEvent_any 0 w.heap.size _ x left W (h0.later h) hz0 hz1)
  unfold budget at KZ0
  have KT0 := Lib.hid (fun hn W (h : Below w.heap.size w W) => toEvent_any 0 w.heap.size _ x W (h0.later h) h.size hn)
  unfold EvAns at KT0
  have KE0 := Lib.hid (fun lo hi lo' hi' u v W h h' => eqEvent_same lo hi lo' hi' u v x W h h')
  clear h0
  have hl0 : (0 : Int) ≤ 1048576 := by decide
  have hl1 : (1048576 : Int) ≤ 1048576 := by decide
  have KZ0 := Lib.hid (fun W h => KZ0.out 1048576 W h hl0 hl1)
  by_cases hs0 : 1048576 - ((esize x : Nat) : Int) < 0
  · simp only [if_pos hs0] at KZ0
    clear KT0 KE0 
    go_enter Try.func4, Try.ntmps4
    go_wp2_with fail
    have A1 : Hid (Mcell (w.alloc (.cells #[fv0, bv0, .int .i64 x.actual] 33)) (w.heap.size) fv0 bv0 x.actual) := Lib.hid (Mcell.new (b := w.heap.size) rfl)
    have hb1 : Below w.heap.size w (w.alloc (.cells #[fv0, bv0, .int .i64 x.actual] 33)) := by go_grown
    have hz1 : (w.alloc (.cells #[fv0, bv0, .int .i64 x.actual] 33)).heap.size = w.heap.size + 1 := by simp
    generalize (w.alloc (.cells #[fv0, bv0, .int .i64 x.actual] 33)) = w1 at *
    have B1 := Lib.hid hb1
    have Z1 := Lib.hid hz1
    clear hb1 hz1
    refine (KZ0.out _ B1.out).mono ?_
    rintro e w2 ⟨rfl, hb2⟩
    have A2 := Lib.hid (A1.out.below hb2)
    have B3 : Hid (Below w.heap.size w w2) := Lib.hid (B1.out.trans (hb2.mono B1.out.size))
    clear A1 B1
    have Z2 : Hid (w1.heap.size ≤ w2.heap.size) := Lib.hid hb2.size
    clear hb2
    go_wp2
    go_ret
    exact ⟨rfl, B3.out⟩
  simp only [if_neg hs0] at KZ0
  have hn0 : (esize x : Nat) ≤ 1048576 := by omega
  have KT0 := Lib.hid (KT0.out hn0)
  have HN0 := Lib.hid hn0
  obtain ⟨left0, heq0⟩ : ∃ l, l = 1048576 - ((esize x : Nat) : Int) := ⟨_, rfl⟩
  rw [← heq0] at KZ0
  have hl0 : 0 ≤ left0 := by omega
  have hl1 : left0 ≤ 1048576 := by omega
  have HTOT : Hid ((esize x : Nat) ≤ 1048576) := Lib.hid (by omega)
  clear hs0 hn0
  clear heq0
  have KS := Lib.hid (fun lo hi v W h (_ : hi ≤ W.heap.size) => specEdOk_any lo hi v x W h)
  have KI := Lib.hid (fun lo hi v W h hh => implEdOk_any lo hi v x W h hh)
  generalize edOk x = ok at *
  go_enter Try.func4, Try.ntmps4
  go_wp2_with fail
  have A1 : Hid (Mcell (w.alloc (.cells #[fv0, bv0, .int .i64 x.actual] 33)) (w.heap.size) fv0 bv0 x.actual) := Lib.hid (Mcell.new (b := w.heap.size) rfl)
  have hb1 : Below w.heap.size w (w.alloc (.cells #[fv0, bv0, .int .i64 x.actual] 33)) := by go_grown
  have hz1 : (w.alloc (.cells #[fv0, bv0, .int .i64 x.actual] 33)).heap.size = w.heap.size + 1 := by simp
  generalize (w.alloc (.cells #[fv0, bv0, .int .i64 x.actual] 33)) = w1 at *
  have B1 := Lib.hid hb1
  have Z1 := Lib.hid hz1
  clear hb1 hz1
  refine (KZ0.out _ B1.out).mono ?_
  rintro e w2 ⟨rfl, hb2⟩
  have A2 := Lib.hid (A1.out.below hb2)
  have B3 : Hid (Below w.heap.size w w2) := Lib.hid (B1.out.trans (hb2.mono B1.out.size))
  clear A1 B1
  have Z2 : Hid (w1.heap.size ≤ w2.heap.size) := Lib.hid hb2.size
  clear hb2
  obtain ⟨ac0, ac1, ac2, _⟩ := A2.out
  have alt := A2.out.lt
  go_wp2_with fail
  refine (KT0.out _ B3.out).mono ?_
  rintro e w3 ⟨v3, rfl, ho3, hb3⟩
  clear ac0 ac1 ac2 alt
  have A4 := Lib.hid (A2.out.below hb3)
  have B5 : Hid (Below w.heap.size w w3) := Lib.hid (B3.out.trans (hb3.mono B3.out.size))
  clear A2 B3
  have Z3 : Hid (w2.heap.size ≤ w3.heap.size) := Lib.hid hb3.size
  have P6 := Lib.hid ho3
  clear ho3 hb3
  go_wp2_with fail
  refine (KS.out _ _ _ _ P6.out.read (by have z1 := Z1.out; have z2 := Z2.out; have z3 := Z3.out; omega)).mono ?_
  rintro e w4 ⟨rfl, hb4⟩
  have A7 := Lib.hid (A4.out.below hb4)
  have B8 : Hid (Below w.heap.size w w4) := Lib.hid (B5.out.trans (hb4.mono B5.out.size))
  have P9 := Lib.hid (P6.out.keeps (Keeps.of_all hb4))
  clear A4 B5 P6
  have Z4 : Hid (w3.heap.size ≤ w4.heap.size) := Lib.hid hb4.size
  clear hb4
  clear P9
  obtain ⟨ac0, ac1, ac2, _⟩ := A7.out
  have alt := A7.out.lt
  go_wp2_with fail
  clear ac0 ac1 ac2 alt
  refine (KT0.out _ B8.out).mono ?_
  rintro e w5 ⟨v5, rfl, ho5, hb5⟩
  have A10 := Lib.hid (A7.out.below hb5)
  have B11 : Hid (Below w.heap.size w w5) := Lib.hid (B8.out.trans (hb5.mono B8.out.size))
  clear A7 B8
  have Z5 : Hid (w4.heap.size ≤ w5.heap.size) := Lib.hid hb5.size
  have X12 := Lib.hid ho5
  clear ho5 hb5
  obtain ⟨fa5, fc5, ba5, bc5, e5⟩ := X12.out.read.form
  subst e5
  go_wp2_with fail
  have Xb13 := Lib.hid (Mcell.new (w := w5) (T := 38) (b := w5.heap.size) (fv := .slice fa5 x.conds.length fc5) (bv := .slice ba5 x.blocks.length bc5) (n := x.actual) rfl)
  have hb6 : Below w5.heap.size w5 (w5.alloc (.cells #[.slice fa5 x.conds.length fc5, .slice ba5 x.blocks.length bc5, .int .i64 x.actual] 38)) := by go_grown
  have hz6 : (w5.alloc (.cells #[.slice fa5 x.conds.length fc5, .slice ba5 x.blocks.length bc5, .int .i64 x.actual] 38)).heap.size = w5.heap.size + 1 := by simp
  generalize w5.alloc (.cells #[.slice fa5 x.conds.length fc5, .slice ba5 x.blocks.length bc5, .int .i64 x.actual] 38) = w6 at *
  have A14 := Lib.hid (A10.out.below hb6)
  have B15 : Hid (Below w.heap.size w w6) := Lib.hid (B11.out.trans (hb6.mono B11.out.size))
  have X16 := Lib.hid (X12.out.keeps (Keeps.of_all hb6))
  clear A10 B11 X12
  have Z6 := Lib.hid hz6
  clear hb6 hz6
  refine (KI.out _ _ _ _ X16.out.read (by have z1 := Z1.out; have z2 := Z2.out; have z3 := Z3.out; have z4 := Z4.out; have z5 := Z5.out; have z6 := Z6.out; omega)).mono ?_
  rintro e w7 ⟨rfl, hb7⟩
  have A17 := Lib.hid (A14.out.below hb7)
  have B18 : Hid (Below w.heap.size w w7) := Lib.hid (B15.out.trans (hb7.mono B15.out.size))
  have X19 := Lib.hid (X16.out.keeps (Keeps.of_all hb7))
  have Xb20 := Lib.hid (Xb13.out.below hb7)
  clear A14 B15 X16 Xb13
  have Z7 : Hid (w6.heap.size ≤ w7.heap.size) := Lib.hid hb7.size
  clear hb7
  go_wp2
  refine wp_region_held_drew (S := fun w' => Below w7.heap.size w7 w') (by kernel_rfl) (Below.refl _ _).drew (fun hHeld => ?_)
  refine wpAnyH_take (i := 0) (v := .agg #[.slice fa5 x.conds.length fc5, .slice ba5 x.blocks.length bc5, .int .i64 x.actual]) rfl (by kernel_rfl) (by kernel_rfl) (by kernel_rfl) (fun _ _ _ h => h) (Or.inl ⟨by rfl, by intro W hSw; obtain ⟨c0, c1, c2, _⟩ := Xb20.out.below hSw; go_simp⟩) hHeld ?_
  simp only [Act.put]
  refine wpAnyH_take (i := 1) (v := .agg #[fv0, bv0, .int .i64 x.actual]) rfl (by kernel_rfl) (by kernel_rfl) (by kernel_rfl) (fun _ _ _ h => h) (Or.inl ⟨by rfl, by intro W hSw; obtain ⟨c0, c1, c2, _⟩ := A17.out.below hSw; go_simp⟩) hHeld ?_
  simp only [Act.put]
  refine wpAnyH_ready (rs := [2]) (by kernel_rfl) (by simp) ?_
  refine AllReadyH.cons rfl (fun K hK => ?_) AllReadyH.nil
  go_simp
  refine (KT0.out _ (B18.out.trans (hHeld.mono B18.out.size))).mono ?_
  rintro e w8 ⟨v8, rfl, ho8, hb8⟩
  have hB8 : Below w7.heap.size w7 w8 := hHeld.trans (hb8.mono hHeld.size)
  have M8 := Lib.hid ho8.read
  clear ho8 hb8 hHeld
  refine hK.out _ _ hB8 (fun hHeld => ?_)
  clear hK K
  refine wpAnyH_ready (rs := [3]) (by kernel_rfl) (by simp) ?_
  refine AllReadyH.cons rfl (fun K hK => ?_) AllReadyH.nil
  go_simp
  refine (KE0.out _ _ _ _ _ _ _ (X19.out.read.later hB8) M8.out).mono ?_
  rintro e w9 ⟨rfl, hb9⟩
  have hB9 : Below w7.heap.size w7 w9 := hHeld.trans (hb9.mono hHeld.size)
  clear hB8 hb9 hHeld M8
  refine hK.out _ _ hB9 (fun hHeld => ?_)
  clear hK K
  refine wpAnyH_take (i := 4) (v := .bool false) rfl (by kernel_rfl) (by kernel_rfl) (by kernel_rfl) (fun _ _ _ h => h) (Or.inl ⟨by rfl, by intro w hSw; go_simp⟩) hHeld ?_
  simp only [Act.put]
  refine wpAnyH_done (by kernel_rfl) ?_ _
  clear hHeld
  have A21 := Lib.hid (A17.out.below hB9)
  have B22 : Hid (Below w.heap.size w w9) := Lib.hid (B18.out.trans (hB9.mono B18.out.size))
  have X23 := Lib.hid (X19.out.keeps (Keeps.of_all hB9))
  have Xb24 := Lib.hid (Xb20.out.below hB9)
  clear A17 B18 X19 Xb20
  have Z9 : Hid (w7.heap.size ≤ w9.heap.size) := Lib.hid hB9.size
  clear hB9
  go_wp2
  go_ret
  exact ⟨rfl, B22.out⟩
end Go.Proofs.Ytpodpadcaflehaa
