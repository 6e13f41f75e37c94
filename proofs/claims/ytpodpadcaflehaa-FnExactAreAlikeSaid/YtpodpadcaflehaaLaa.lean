/-
  The walk of the law FnExactAreAlike: it returns true and writes nothing that was there. No condition.
-/
import Derived.Test.YtpodpadcaflehaaSzm
import Derived.Test.YtpodpadcaflehaaIal
import Derived.Test.YtpodpadcaflehaaSal
namespace Go.Proofs.Ytpodpadcaflehaa
open Go.RowKit Go.WideShapes
open Go Go.Deep
set_option linter.unusedSimpArgs false


set_option maxRecDepth 100000 in
set_option maxHeartbeats 16000000 in
theorem walk_FnExactAreAlike (v00 : Value) (m : Md) (v10 : Value) (m2 : Md) (w : World) (h0 : Mv 0 w.heap.size w v00 m) (h1 : Mv 0 w.heap.size w v10 m2) :
    Calls Try.prog 3 #[v00, v10] w fun e w' => e = .returned (.bool true) ∧ Below w.heap.size w w' := by
  obtain ⟨fv0, bv0, rfl, hf0, hbb0⟩ := id h0
  clear hf0 hbb0
  obtain ⟨fv1, bv1, rfl, hf1, hbb1⟩ := id h1
  clear hf1 hbb1
  have KZ0 := Lib.hid (fun left W (h : Below w.heap.size w W) hz0 hz1 => szModelK_any 0 w.heap.size _ m left W (h0.keeps (Keeps.of_all h)) hz0 hz1)
  unfold budget at KZ0
  have KT0 := Lib.hid (fun hn W (h : Below w.heap.size w W) => toModel_any 0 w.heap.size _ m W (h0.keeps (Keeps.of_all h)) h.size hn)
  unfold MdAns at KT0
  have KE0 := Lib.hid (fun lo hi lo' hi' u v W h h' => eqModel_same lo hi lo' hi' u v m W h h')
  clear h0
  have KZ1 := Lib.hid (fun left W (h : Below w.heap.size w W) hz0 hz1 => szModelK_any 0 w.heap.size _ m2 left W (h1.keeps (Keeps.of_all h)) hz0 hz1)
  unfold budget at KZ1
  have KT1 := Lib.hid (fun hn W (h : Below w.heap.size w W) => toModel_any 0 w.heap.size _ m2 W (h1.keeps (Keeps.of_all h)) h.size hn)
  unfold MdAns at KT1
  have KE1 := Lib.hid (fun lo hi lo' hi' u v W h h' => eqModel_same lo hi lo' hi' u v m2 W h h')
  clear h1
  have hl0 : (0 : Int) ≤ 1048576 := by decide
  have hl1 : (1048576 : Int) ≤ 1048576 := by decide
  have KZ0 := Lib.hid (fun W h => KZ0.out 1048576 W h hl0 hl1)
  by_cases hs0 : 1048576 - (((msize m + m.blocks.length) : Nat) : Int) < 0
  · simp only [if_pos hs0] at KZ0
    clear hs0 hl0 hl1
    clear KT0 KT1 KE0 KE1 KZ1
    go_enter Try.func3, Try.ntmps3
    go_wp2_with fail
    have A1 : Hid (Mcell ((w.alloc (.cells #[fv0, bv0, .int .i64 m.actual] 25)).alloc (.cells #[fv1, bv1, .int .i64 m2.actual] 25)) (w.heap.size) fv0 bv0 m.actual) := Lib.hid (Mcell.alloc (Mcell.new (b := w.heap.size) rfl) _)
    have D1 : Hid (Mcell ((w.alloc (.cells #[fv0, bv0, .int .i64 m.actual] 25)).alloc (.cells #[fv1, bv1, .int .i64 m2.actual] 25)) (w.heap.size + 1) fv1 bv1 m2.actual) := Lib.hid (Mcell.new (b := w.heap.size + 1) (by simp))
    have hb1 : Below w.heap.size w ((w.alloc (.cells #[fv0, bv0, .int .i64 m.actual] 25)).alloc (.cells #[fv1, bv1, .int .i64 m2.actual] 25)) := by go_grown
    have hz1 : ((w.alloc (.cells #[fv0, bv0, .int .i64 m.actual] 25)).alloc (.cells #[fv1, bv1, .int .i64 m2.actual] 25)).heap.size = w.heap.size + 2 := by simp
    generalize ((w.alloc (.cells #[fv0, bv0, .int .i64 m.actual] 25)).alloc (.cells #[fv1, bv1, .int .i64 m2.actual] 25)) = w1 at *
    have B1 := Lib.hid hb1
    have Z1 := Lib.hid hz1
    clear hb1 hz1
    refine (KZ0.out _ B1.out).mono ?_
    rintro e w2 ⟨rfl, hb2⟩
    have A2 := Lib.hid (A1.out.below hb2)
    have D3 := Lib.hid (D1.out.below hb2)
    have B4 : Hid (Below w.heap.size w w2) := Lib.hid (B1.out.trans (hb2.mono B1.out.size))
    clear A1 D1 B1
    have Z2 : Hid (w1.heap.size ≤ w2.heap.size) := Lib.hid hb2.size
    clear hb2
    go_wp2
    go_ret
    exact ⟨rfl, B4.out⟩
  simp only [if_neg hs0] at KZ0
  have hn0 : ((msize m + m.blocks.length) : Nat) ≤ 1048576 := by omega
  have KT0 := Lib.hid (KT0.out hn0)
  have HN0 := Lib.hid hn0
  obtain ⟨left0, heq0⟩ : ∃ l, l = 1048576 - (((msize m + m.blocks.length) : Nat) : Int) := ⟨_, rfl⟩
  rw [← heq0] at KZ0
  have hl0 : 0 ≤ left0 := by omega
  have hl1 : left0 ≤ 1048576 := by omega
  have KZ1 := Lib.hid (fun W h => KZ1.out left0 W h hl0 hl1)
  by_cases hs1 : left0 - (((msize m2 + m2.blocks.length) : Nat) : Int) < 0
  · simp only [if_pos hs1] at KZ1
    clear hs0 hs1 hn0 heq0
    clear KT0 KT1 KE0 KE1 
    go_enter Try.func3, Try.ntmps3
    go_wp2_with fail
    have A1 : Hid (Mcell ((w.alloc (.cells #[fv0, bv0, .int .i64 m.actual] 25)).alloc (.cells #[fv1, bv1, .int .i64 m2.actual] 25)) (w.heap.size) fv0 bv0 m.actual) := Lib.hid (Mcell.alloc (Mcell.new (b := w.heap.size) rfl) _)
    have D1 : Hid (Mcell ((w.alloc (.cells #[fv0, bv0, .int .i64 m.actual] 25)).alloc (.cells #[fv1, bv1, .int .i64 m2.actual] 25)) (w.heap.size + 1) fv1 bv1 m2.actual) := Lib.hid (Mcell.new (b := w.heap.size + 1) (by simp))
    have hb1 : Below w.heap.size w ((w.alloc (.cells #[fv0, bv0, .int .i64 m.actual] 25)).alloc (.cells #[fv1, bv1, .int .i64 m2.actual] 25)) := by go_grown
    have hz1 : ((w.alloc (.cells #[fv0, bv0, .int .i64 m.actual] 25)).alloc (.cells #[fv1, bv1, .int .i64 m2.actual] 25)).heap.size = w.heap.size + 2 := by simp
    generalize ((w.alloc (.cells #[fv0, bv0, .int .i64 m.actual] 25)).alloc (.cells #[fv1, bv1, .int .i64 m2.actual] 25)) = w1 at *
    have B1 := Lib.hid hb1
    have Z1 := Lib.hid hz1
    clear hb1 hz1
    refine (KZ0.out _ B1.out).mono ?_
    rintro e w2 ⟨rfl, hb2⟩
    have A2 := Lib.hid (A1.out.below hb2)
    have D3 := Lib.hid (D1.out.below hb2)
    have B4 : Hid (Below w.heap.size w w2) := Lib.hid (B1.out.trans (hb2.mono B1.out.size))
    clear A1 D1 B1
    have Z2 : Hid (w1.heap.size ≤ w2.heap.size) := Lib.hid hb2.size
    clear hb2
    obtain ⟨dc0, dc1, dc2, _⟩ := D3.out
    have dlt := D3.out.lt
    go_wp2_with fail
    clear dc0 dc1 dc2 dlt
    refine (KZ1.out _ B4.out).mono ?_
    rintro e w3 ⟨rfl, hb3⟩
    have A5 := Lib.hid (A2.out.below hb3)
    have D6 := Lib.hid (D3.out.below hb3)
    have B7 : Hid (Below w.heap.size w w3) := Lib.hid (B4.out.trans (hb3.mono B4.out.size))
    clear A2 D3 B4
    have Z3 : Hid (w2.heap.size ≤ w3.heap.size) := Lib.hid hb3.size
    clear hb3
    go_wp2
    go_ret
    exact ⟨rfl, B7.out⟩
  simp only [if_neg hs1] at KZ1
  have hn1 : ((msize m2 + m2.blocks.length) : Nat) ≤ 1048576 := by omega
  have KT1 := Lib.hid (KT1.out hn1)
  have HN1 := Lib.hid hn1
  obtain ⟨left1, heq1⟩ : ∃ l, l = left0 - (((msize m2 + m2.blocks.length) : Nat) : Int) := ⟨_, rfl⟩
  rw [← heq1] at KZ1
  have hl0 : 0 ≤ left1 := by omega
  have hl1 : left1 ≤ 1048576 := by omega
  have HTOT : Hid (((msize m + m.blocks.length) : Nat) + ((msize m2 + m2.blocks.length) : Nat) ≤ 1048576) := Lib.hid (by omega)
  clear hs0 hn0 hs1 hn1
  clear heq0
  clear heq1
  have KS := Lib.hid (fun lo hi v lo2 hi2 v2 W h hh h2 hh2 => specAlike_any lo hi lo2 hi2 v v2 m m2 W h hh h2 hh2)
  have KI := Lib.hid (fun lo hi v lo2 hi2 v2 W h hh h2 hh2 => implAlike_any lo hi lo2 hi2 v v2 m m2 W h hh h2 hh2)
  generalize alikeR m m2 = ok at *
  go_enter Try.func3, Try.ntmps3
  go_wp2_with fail
  have A1 : Hid (Mcell ((w.alloc (.cells #[fv0, bv0, .int .i64 m.actual] 25)).alloc (.cells #[fv1, bv1, .int .i64 m2.actual] 25)) (w.heap.size) fv0 bv0 m.actual) := Lib.hid (Mcell.alloc (Mcell.new (b := w.heap.size) rfl) _)
  have D1 : Hid (Mcell ((w.alloc (.cells #[fv0, bv0, .int .i64 m.actual] 25)).alloc (.cells #[fv1, bv1, .int .i64 m2.actual] 25)) (w.heap.size + 1) fv1 bv1 m2.actual) := Lib.hid (Mcell.new (b := w.heap.size + 1) (by simp))
  have hb1 : Below w.heap.size w ((w.alloc (.cells #[fv0, bv0, .int .i64 m.actual] 25)).alloc (.cells #[fv1, bv1, .int .i64 m2.actual] 25)) := by go_grown
  have hz1 : ((w.alloc (.cells #[fv0, bv0, .int .i64 m.actual] 25)).alloc (.cells #[fv1, bv1, .int .i64 m2.actual] 25)).heap.size = w.heap.size + 2 := by simp
  generalize ((w.alloc (.cells #[fv0, bv0, .int .i64 m.actual] 25)).alloc (.cells #[fv1, bv1, .int .i64 m2.actual] 25)) = w1 at *
  have B1 := Lib.hid hb1
  have Z1 := Lib.hid hz1
  clear hb1 hz1
  refine (KZ0.out _ B1.out).mono ?_
  rintro e w2 ⟨rfl, hb2⟩
  have A2 := Lib.hid (A1.out.below hb2)
  have D3 := Lib.hid (D1.out.below hb2)
  have B4 : Hid (Below w.heap.size w w2) := Lib.hid (B1.out.trans (hb2.mono B1.out.size))
  clear A1 D1 B1
  have Z2 : Hid (w1.heap.size ≤ w2.heap.size) := Lib.hid hb2.size
  clear hb2
  obtain ⟨dc0, dc1, dc2, _⟩ := D3.out
  have dlt := D3.out.lt
  go_wp2_with fail
  clear dc0 dc1 dc2 dlt
  refine (KZ1.out _ B4.out).mono ?_
  rintro e w3 ⟨rfl, hb3⟩
  have A5 := Lib.hid (A2.out.below hb3)
  have D6 := Lib.hid (D3.out.below hb3)
  have B7 : Hid (Below w.heap.size w w3) := Lib.hid (B4.out.trans (hb3.mono B4.out.size))
  clear A2 D3 B4
  have Z3 : Hid (w2.heap.size ≤ w3.heap.size) := Lib.hid hb3.size
  clear hb3
  go_wp2
  refine wp_region_held_drew (S := fun w' => Below w3.heap.size w3 w') (by kernel_rfl) (Below.refl _ _).drew (fun hHeld => ?_)
  refine wpAnyH_take (i := 0) (v := .agg #[fv0, bv0, .int .i64 m.actual]) rfl (by kernel_rfl) (by kernel_rfl) (by kernel_rfl) (fun _ _ _ h => h) (Or.inl ⟨by rfl, by intro W hSw; obtain ⟨c0, c1, c2, _⟩ := A5.out.below hSw; go_simp⟩) hHeld ?_
  simp only [Act.put]
  refine wpAnyH_take (i := 2) (v := .agg #[fv1, bv1, .int .i64 m2.actual]) rfl (by kernel_rfl) (by kernel_rfl) (by kernel_rfl) (fun _ _ _ h => h) (Or.inl ⟨by rfl, by intro W hSw; obtain ⟨c0, c1, c2, _⟩ := D6.out.below hSw; go_simp⟩) hHeld ?_
  simp only [Act.put]
  refine wpAnyH_ready (rs := [1]) (by kernel_rfl) (by simp) ?_
  refine AllReadyH.cons rfl (fun K hK => ?_) AllReadyH.nil
  go_simp
  refine (KT0.out _ (B7.out.trans (hHeld.mono B7.out.size))).mono ?_
  rintro e w4 ⟨v4, rfl, ho4, hb4⟩
  have hB4 : Below w3.heap.size w3 w4 := hHeld.trans (hb4.mono hHeld.size)
  have M4 := Lib.hid ho4
  have hZ4 : Hid (w3.heap.size ≤ w4.heap.size) := Lib.hid hB4.size
  clear ho4 hb4 hHeld
  refine hK.out _ _ hB4 (fun hHeld => ?_)
  clear hK K hB4
  refine wpAnyH_ready (rs := [3]) (by kernel_rfl) (by simp) ?_
  refine AllReadyH.cons rfl (fun K hK => ?_) AllReadyH.nil
  go_simp
  refine (KT1.out _ (B7.out.trans (hHeld.mono B7.out.size))).mono ?_
  rintro e w5 ⟨v5, rfl, ho5, hb5⟩
  have hB5 : Below w3.heap.size w3 w5 := hHeld.trans (hb5.mono hHeld.size)
  have hY5 := Lib.hid hb5.size
  have M4' := Lib.hid (M4.out.keeps (Keeps.of_all hb5))
  clear M4
  have M5 := Lib.hid ho5
  have hZ5 : Hid (w3.heap.size ≤ w5.heap.size) := Lib.hid hB5.size
  clear ho5 hb5 hHeld
  refine hK.out _ _ hB5 (fun hHeld => ?_)
  clear hK K hB5
  refine wpAnyH_ready (rs := [4]) (by kernel_rfl) (by simp) ?_
  refine AllReadyH.cons rfl (fun K hK => ?_) AllReadyH.nil
  go_simp
  refine (KS.out _ _ _ _ _ _ _ M4'.out.read (by first | exact Nat.le_refl _ | exact hHeld.size | (have z := hHeld.size; have zz := hZ5.out; have y5 := hY5.out; omega)) M5.out.read (by first | exact Nat.le_refl _ | exact hHeld.size | (have z := hHeld.size; have zz := hZ5.out; have y5 := hY5.out; omega))).mono ?_
  rintro e w6 ⟨rfl, hb6⟩
  have hB6 : Below w3.heap.size w3 w6 := hHeld.trans (hb6.mono hHeld.size)
  clear M4' M5 hb6 hHeld
  refine hK.out _ _ hB6 (fun hHeld => ?_)
  clear hK K
  refine wpAnyH_take (i := 5) (v := .bool ok) rfl (by kernel_rfl) (by kernel_rfl) (by kernel_rfl) (fun _ _ _ h => h) (Or.inl ⟨by rfl, by intro W hSw; go_simp⟩) hHeld ?_
  simp only [Act.put]
  refine wpAnyH_done (by kernel_rfl) ?_ _
  try simp only [List.getElem_toArray, List.getElem_cons_succ, List.getElem_cons_zero]
  clear hHeld
  have A8 := Lib.hid (A5.out.below hB6)
  have D9 := Lib.hid (D6.out.below hB6)
  have B10 : Hid (Below w.heap.size w w6) := Lib.hid (B7.out.trans (hB6.mono B7.out.size))
  clear A5 D6 B7
  have Z6 : Hid (w3.heap.size ≤ w6.heap.size) := Lib.hid hB6.size
  clear hB6
  obtain ⟨ac0, ac1, ac2, _⟩ := A8.out
  have alt := A8.out.lt
  go_wp2_with fail
  clear ac0 ac1 ac2 alt
  refine (KT0.out _ B10.out).mono ?_
  rintro e w7 ⟨v7, rfl, ho7, hb7⟩
  have A11 := Lib.hid (A8.out.below hb7)
  have D12 := Lib.hid (D9.out.below hb7)
  have B13 : Hid (Below w.heap.size w w7) := Lib.hid (B10.out.trans (hb7.mono B10.out.size))
  clear A8 D9 B10
  have Z7 : Hid (w6.heap.size ≤ w7.heap.size) := Lib.hid hb7.size
  have X14 := Lib.hid ho7
  clear ho7 hb7
  obtain ⟨fa7, fc7, ba7, bc7, e7⟩ := X14.out.read.form
  subst e7
  obtain ⟨dc0, dc1, dc2, _⟩ := D12.out
  have dlt := D12.out.lt
  go_wp2_with fail
  clear dc0 dc1 dc2 dlt
  have Xb15 := Lib.hid (Mcell.new (w := w7) (T := 28) (b := w7.heap.size) (fv := .slice fa7 m.facts.length fc7) (bv := .slice ba7 m.blocks.length bc7) (n := m.actual) rfl)
  have hb8 : Below w7.heap.size w7 (w7.alloc (.cells #[.slice fa7 m.facts.length fc7, .slice ba7 m.blocks.length bc7, .int .i64 m.actual] 28)) := by go_grown
  have hz8 : (w7.alloc (.cells #[.slice fa7 m.facts.length fc7, .slice ba7 m.blocks.length bc7, .int .i64 m.actual] 28)).heap.size = w7.heap.size + 1 := by simp
  generalize w7.alloc (.cells #[.slice fa7 m.facts.length fc7, .slice ba7 m.blocks.length bc7, .int .i64 m.actual] 28) = w8 at *
  have A16 := Lib.hid (A11.out.below hb8)
  have D17 := Lib.hid (D12.out.below hb8)
  have B18 : Hid (Below w.heap.size w w8) := Lib.hid (B13.out.trans (hb8.mono B13.out.size))
  have X19 := Lib.hid (X14.out.keeps (Keeps.of_all hb8))
  clear A11 D12 B13 X14
  have Z8 := Lib.hid hz8
  clear hb8 hz8
  refine (KT1.out _ B18.out).mono ?_
  rintro e w9 ⟨v9, rfl, ho9, hb9⟩
  have A20 := Lib.hid (A16.out.below hb9)
  have D21 := Lib.hid (D17.out.below hb9)
  have B22 : Hid (Below w.heap.size w w9) := Lib.hid (B18.out.trans (hb9.mono B18.out.size))
  have X23 := Lib.hid (X19.out.keeps (Keeps.of_all hb9))
  have Xb24 := Lib.hid (Xb15.out.below hb9)
  clear A16 D17 B18 X19 Xb15
  have Z9 : Hid (w8.heap.size ≤ w9.heap.size) := Lib.hid hb9.size
  have Y25 := Lib.hid ho9
  clear ho9 hb9
  obtain ⟨fa9, fc9, ba9, bc9, e9⟩ := Y25.out.read.form
  subst e9
  obtain ⟨xbc0, xbc1, xbc2, _⟩ := Xb24.out
  have xblt := Xb24.out.lt
  go_wp2_with fail
  clear xbc0 xbc1 xbc2 xblt
  have Yb26 := Lib.hid (Mcell.new (w := w9) (T := 28) (b := w9.heap.size) (fv := .slice fa9 m2.facts.length fc9) (bv := .slice ba9 m2.blocks.length bc9) (n := m2.actual) rfl)
  have hb10 : Below w9.heap.size w9 (w9.alloc (.cells #[.slice fa9 m2.facts.length fc9, .slice ba9 m2.blocks.length bc9, .int .i64 m2.actual] 28)) := by go_grown
  have hz10 : (w9.alloc (.cells #[.slice fa9 m2.facts.length fc9, .slice ba9 m2.blocks.length bc9, .int .i64 m2.actual] 28)).heap.size = w9.heap.size + 1 := by simp
  generalize w9.alloc (.cells #[.slice fa9 m2.facts.length fc9, .slice ba9 m2.blocks.length bc9, .int .i64 m2.actual] 28) = w10 at *
  have A27 := Lib.hid (A20.out.below hb10)
  have D28 := Lib.hid (D21.out.below hb10)
  have B29 : Hid (Below w.heap.size w w10) := Lib.hid (B22.out.trans (hb10.mono B22.out.size))
  have X30 := Lib.hid (X23.out.keeps (Keeps.of_all hb10))
  have Xb31 := Lib.hid (Xb24.out.below hb10)
  have Y32 := Lib.hid (Y25.out.keeps (Keeps.of_all hb10))
  clear A20 D21 B22 X23 Xb24 Y25
  have Z10 := Lib.hid hz10
  clear hb10 hz10
  refine (KI.out _ _ _ _ _ _ _ X30.out.read (by have z1 := Z1.out; have z2 := Z2.out; have z3 := Z3.out; have z6 := Z6.out; have z7 := Z7.out; have z8 := Z8.out; have z9 := Z9.out; have z10 := Z10.out; omega) Y32.out.read (by have z1 := Z1.out; have z2 := Z2.out; have z3 := Z3.out; have z6 := Z6.out; have z7 := Z7.out; have z8 := Z8.out; have z9 := Z9.out; have z10 := Z10.out; omega)).mono ?_
  rintro e w11 ⟨rfl, hb11⟩
  have A33 := Lib.hid (A27.out.below hb11)
  have D34 := Lib.hid (D28.out.below hb11)
  have B35 : Hid (Below w.heap.size w w11) := Lib.hid (B29.out.trans (hb11.mono B29.out.size))
  have X36 := Lib.hid (X30.out.keeps (Keeps.of_all hb11))
  have Xb37 := Lib.hid (Xb31.out.below hb11)
  have Y38 := Lib.hid (Y32.out.keeps (Keeps.of_all hb11))
  have Yb39 := Lib.hid (Yb26.out.below hb11)
  clear A27 D28 B29 X30 Xb31 Y32 Yb26
  have Z11 : Hid (w10.heap.size ≤ w11.heap.size) := Lib.hid hb11.size
  clear hb11
  go_wp2
  refine wp_region_held_drew (S := fun w' => Below w11.heap.size w11 w') (by kernel_rfl) (Below.refl _ _).drew (fun hHeld => ?_)
  refine wpAnyH_take (i := 0) (v := .agg #[.slice fa7 m.facts.length fc7, .slice ba7 m.blocks.length bc7, .int .i64 m.actual]) rfl (by kernel_rfl) (by kernel_rfl) (by kernel_rfl) (fun _ _ _ h => h) (Or.inl ⟨by rfl, by intro W hSw; obtain ⟨c0, c1, c2, _⟩ := Xb37.out.below hSw; go_simp⟩) hHeld ?_
  simp only [Act.put]
  refine wpAnyH_take (i := 1) (v := .agg #[fv0, bv0, .int .i64 m.actual]) rfl (by kernel_rfl) (by kernel_rfl) (by kernel_rfl) (fun _ _ _ h => h) (Or.inl ⟨by rfl, by intro W hSw; obtain ⟨c0, c1, c2, _⟩ := A33.out.below hSw; go_simp⟩) hHeld ?_
  simp only [Act.put]
  refine wpAnyH_ready (rs := [2]) (by kernel_rfl) (by simp) ?_
  refine AllReadyH.cons rfl (fun K hK => ?_) AllReadyH.nil
  go_simp
  refine (KT0.out _ (B35.out.trans (hHeld.mono B35.out.size))).mono ?_
  rintro e w12 ⟨v12, rfl, ho12, hb12⟩
  have hB12 : Below w11.heap.size w11 w12 := hHeld.trans (hb12.mono hHeld.size)
  have M12 := Lib.hid ho12.read
  clear ho12 hb12 hHeld
  refine hK.out _ _ hB12 (fun hHeld => ?_)
  clear hK K
  refine wpAnyH_ready (rs := [3]) (by kernel_rfl) (by simp) ?_
  refine AllReadyH.cons rfl (fun K hK => ?_) AllReadyH.nil
  go_simp
  refine (KE0.out _ _ _ _ _ _ _ (X36.out.read.keeps (Keeps.of_all hB12)) M12.out).mono ?_
  rintro e w13 ⟨rfl, hb13⟩
  have hB13 : Below w11.heap.size w11 w13 := hHeld.trans (hb13.mono hHeld.size)
  clear hB12 hb13 hHeld M12
  refine hK.out _ _ hB13 (fun hHeld => ?_)
  clear hK K
  refine wpAnyH_take (i := 4) (v := .bool false) rfl (by kernel_rfl) (by kernel_rfl) (by kernel_rfl) (fun _ _ _ h => h) (Or.inl ⟨by rfl, by intro w hSw; go_simp⟩) hHeld ?_
  simp only [Act.put]
  refine wpAnyH_done (by kernel_rfl) ?_ _
  try simp only [List.getElem_toArray, List.getElem_cons_succ, List.getElem_cons_zero]
  clear hHeld
  have A40 := Lib.hid (A33.out.below hB13)
  have D41 := Lib.hid (D34.out.below hB13)
  have B42 : Hid (Below w.heap.size w w13) := Lib.hid (B35.out.trans (hB13.mono B35.out.size))
  have X43 := Lib.hid (X36.out.keeps (Keeps.of_all hB13))
  have Xb44 := Lib.hid (Xb37.out.below hB13)
  have Y45 := Lib.hid (Y38.out.keeps (Keeps.of_all hB13))
  have Yb46 := Lib.hid (Yb39.out.below hB13)
  clear A33 D34 B35 X36 Xb37 Y38 Yb39
  have Z13 : Hid (w11.heap.size ≤ w13.heap.size) := Lib.hid hB13.size
  clear hB13
  go_wp2
  refine wp_region_held_drew (S := fun w' => Below w13.heap.size w13 w') (by kernel_rfl) (Below.refl _ _).drew (fun hHeld => ?_)
  refine wpAnyH_take (i := 0) (v := .agg #[.slice fa9 m2.facts.length fc9, .slice ba9 m2.blocks.length bc9, .int .i64 m2.actual]) rfl (by kernel_rfl) (by kernel_rfl) (by kernel_rfl) (fun _ _ _ h => h) (Or.inl ⟨by rfl, by intro W hSw; obtain ⟨c0, c1, c2, _⟩ := Yb46.out.below hSw; go_simp⟩) hHeld ?_
  simp only [Act.put]
  refine wpAnyH_take (i := 1) (v := .agg #[fv1, bv1, .int .i64 m2.actual]) rfl (by kernel_rfl) (by kernel_rfl) (by kernel_rfl) (fun _ _ _ h => h) (Or.inl ⟨by rfl, by intro W hSw; obtain ⟨c0, c1, c2, _⟩ := D41.out.below hSw; go_simp⟩) hHeld ?_
  simp only [Act.put]
  refine wpAnyH_ready (rs := [2]) (by kernel_rfl) (by simp) ?_
  refine AllReadyH.cons rfl (fun K hK => ?_) AllReadyH.nil
  go_simp
  refine (KT1.out _ (B42.out.trans (hHeld.mono B42.out.size))).mono ?_
  rintro e w14 ⟨v14, rfl, ho14, hb14⟩
  have hB14 : Below w13.heap.size w13 w14 := hHeld.trans (hb14.mono hHeld.size)
  have M14 := Lib.hid ho14.read
  clear ho14 hb14 hHeld
  refine hK.out _ _ hB14 (fun hHeld => ?_)
  clear hK K
  refine wpAnyH_ready (rs := [3]) (by kernel_rfl) (by simp) ?_
  refine AllReadyH.cons rfl (fun K hK => ?_) AllReadyH.nil
  go_simp
  refine (KE1.out _ _ _ _ _ _ _ (Y45.out.read.keeps (Keeps.of_all hB14)) M14.out).mono ?_
  rintro e w15 ⟨rfl, hb15⟩
  have hB15 : Below w13.heap.size w13 w15 := hHeld.trans (hb15.mono hHeld.size)
  clear hB14 hb15 hHeld M14
  refine hK.out _ _ hB15 (fun hHeld => ?_)
  clear hK K
  refine wpAnyH_take (i := 4) (v := .bool false) rfl (by kernel_rfl) (by kernel_rfl) (by kernel_rfl) (fun _ _ _ h => h) (Or.inl ⟨by rfl, by intro w hSw; go_simp⟩) hHeld ?_
  simp only [Act.put]
  refine wpAnyH_done (by kernel_rfl) ?_ _
  try simp only [List.getElem_toArray, List.getElem_cons_succ, List.getElem_cons_zero]
  clear hHeld
  have A47 := Lib.hid (A40.out.below hB15)
  have D48 := Lib.hid (D41.out.below hB15)
  have B49 : Hid (Below w.heap.size w w15) := Lib.hid (B42.out.trans (hB15.mono B42.out.size))
  have X50 := Lib.hid (X43.out.keeps (Keeps.of_all hB15))
  have Xb51 := Lib.hid (Xb44.out.below hB15)
  have Y52 := Lib.hid (Y45.out.keeps (Keeps.of_all hB15))
  have Yb53 := Lib.hid (Yb46.out.below hB15)
  clear A40 D41 B42 X43 Xb44 Y45 Yb46
  have Z15 : Hid (w13.heap.size ≤ w15.heap.size) := Lib.hid hB15.size
  clear hB15
  go_wp2
  go_ret
  exact ⟨rfl, B49.out⟩
end Go.Proofs.Ytpodpadcaflehaa
