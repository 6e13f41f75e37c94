/-
  The walk of the law FnExactDifferenceOf: it returns true and writes nothing that was there. No condition.
-/
import Derived.Test.YtnpfnfenkklocaaGreatDoorSzm
import Derived.Test.YtnpfnfenkklocaaGreatDoorNno
import Derived.Test.YtnpfnfenkklocaaGreatDoorZTerm
import Derived.Test.YtnpfnfenkklocaaGreatDoorDof
import Derived.Test.YtnpfnfenkklocaaGreatDoorDfe
namespace Go.Proofs.YtnpfnfenkklocaaGreatDoor
open Go.RowKit Go.WideShapes
open Go Go.Deep
set_option linter.unusedSimpArgs false

/-- an answer that is a list of nodes, with the blocks in which it lies -/
def AnsN (w : World) (mr : List Nd) (ok : Bool) (e : Ending) (w' : World) : Prop := ∃ v, e = .returned (.tuple #[v, .bool ok]) ∧ No w.heap.size w'.heap.size w' v mr ∧ Below w.heap.size w w'
theorem Ans.no {w w' : World} {r : Option (List Nd)} {e : Ending} (h : Ans w r e w') : AnsN w (r.getD []) r.isSome e w' := by
  obtain ⟨v, he, ho, hb⟩ := h
  exact ⟨v, he, ⟨ho, fun k hk => (ho.lt k hk).2⟩, hb⟩
theorem diffR_len (m : Md) (a b : Int) : ((diffR m a b).getD []).length ≤ 40 := by
  cases h : diffR m a b with
  | none => simp
  | some xs =>
    obtain ⟨t, rfl, _, hs, _⟩ := diffR_some h
    show (lay 0 t).length ≤ 40
    rw [lay_len]; exact hs
set_option maxRecDepth 100000 in
set_option maxHeartbeats 16000000 in
theorem walk_FnExactDifferenceOf (v00 : Value) (m : Md) (a : Int) (b : Int) (w : World) (h0 : Mv 0 w.heap.size w v00 m) (_h1 : (Lit.int .i64 a).wf = true) (_h2 : (Lit.int .i64 b).wf = true) (hL : laidMetH Tryz.prog Rows.fnExactDifferenceOfRow.laid w) :
    Calls Tryz.prog 3 #[v00, .int .i64 a, .int .i64 b] w fun e w' => e = .returned (.bool true) ∧ Below w.heap.size w w' := by
  have HT := Lib.hid (tab_Difference hL)
  clear hL
  obtain ⟨fv0, bv0, rfl, hf0, hbb0⟩ := id h0
  clear hf0 hbb0
  have KZ0 := Lib.hid (fun left W (h : Below w.heap.size w W) hz0 hz1 => szModelK_any 0 w.heap.size _ m left W (h0.keeps (Keeps.of_all h)) hz0 hz1)
  unfold budget at KZ0
  have KT0 := Lib.hid (fun hn W (h : Below w.heap.size w W) => toModel_any 0 w.heap.size _ m W (h0.keeps (Keeps.of_all h)) h.size hn)
  unfold MdAns at KT0
  have KE0 := Lib.hid (fun lo hi lo' hi' u v W h h' => eqModel_same lo hi lo' hi' u v m W h h')
  clear h0
  have hl0 : (0 : Int) ≤ 1048576 := by decide
  have hl1 : (1048576 : Int) ≤ 1048576 := by decide
  have KZ0 := Lib.hid (fun W h => KZ0.out 1048576 W h hl0 hl1)
  by_cases hs0 : 1048576 - (((msize m + m.blocks.length) : Nat) : Int) < 0
  · simp only [if_pos hs0] at KZ0
    clear hs0 hl0 hl1
    clear KT0 KE0 
    go_enter Tryz.func3, Tryz.ntmps3
    go_wp2_with fail
    have A1 : Hid (Mcell (w.alloc (.cells #[fv0, bv0, .int .i64 m.actual] 25)) (w.heap.size) fv0 bv0 m.actual) := Lib.hid (Mcell.new (b := w.heap.size) rfl)
    have hb1 : Below w.heap.size w (w.alloc (.cells #[fv0, bv0, .int .i64 m.actual] 25)) := by go_grown
    have hz1 : (w.alloc (.cells #[fv0, bv0, .int .i64 m.actual] 25)).heap.size = w.heap.size + 1 := by simp
    generalize (w.alloc (.cells #[fv0, bv0, .int .i64 m.actual] 25)) = w1 at *
    have B1 := Lib.hid hb1
    have Z1 := Lib.hid hz1
    clear hb1 hz1
    refine (KZ0.out _ B1.out).mono ?_
    rintro e w2 ⟨rfl, hb2⟩
    have A2 := Lib.hid (A1.out.below hb2)
    have B3 : Hid (Below w.heap.size w w2) := Lib.hid (B1.out.trans (hb2.mono B1.out.size))
    clear A1 B1
    have Z2 : Hid (w1.heap.size ≤ w2.heap.size) := Lib.hid hb2.size
    clear hb2
    go_wp2
    go_ret
    exact ⟨rfl, B3.out⟩
  simp only [if_neg hs0] at KZ0
  have hn0 : ((msize m + m.blocks.length) : Nat) ≤ 1048576 := by omega
  have KT0 := Lib.hid (KT0.out hn0)
  have HN0 := Lib.hid hn0
  obtain ⟨left0, heq0⟩ : ∃ l, l = 1048576 - (((msize m + m.blocks.length) : Nat) : Int) := ⟨_, rfl⟩
  rw [← heq0] at KZ0
  have hl0 : 0 ≤ left0 := by omega
  have hl1 : left0 ≤ 1048576 := by omega
  have HTOT : Hid (((msize m + m.blocks.length) : Nat) ≤ 1048576) := Lib.hid (by omega)
  clear hs0 hn0
  clear heq0
  have KS := Lib.hid (fun lo hi v W h (_ : hi ≤ W.heap.size) => (specDiffOf_any lo hi v m a b W h).mono fun _ _ h => h.no)
  have KI := Lib.hid (fun lo hi v W h hh (hb : Below w.heap.size w W) => (implDiffOf_any lo hi v m a b W h hh (HT.out.below hb (Nat.le_refl _))).mono fun _ _ h => h.no)
  have HMR : Hid (((diffR m a b).getD []).length ≤ 1048576) := Lib.hid (Nat.le_trans (diffR_len m a b) (by decide))
  unfold AnsN at KS KI
  clear HT
  generalize (diffR m a b).getD [] = mr at *
  generalize (diffR m a b).isSome = ok at *
  go_enter Tryz.func3, Tryz.ntmps3
  go_wp2_with fail
  have A1 : Hid (Mcell (w.alloc (.cells #[fv0, bv0, .int .i64 m.actual] 25)) (w.heap.size) fv0 bv0 m.actual) := Lib.hid (Mcell.new (b := w.heap.size) rfl)
  have hb1 : Below w.heap.size w (w.alloc (.cells #[fv0, bv0, .int .i64 m.actual] 25)) := by go_grown
  have hz1 : (w.alloc (.cells #[fv0, bv0, .int .i64 m.actual] 25)).heap.size = w.heap.size + 1 := by simp
  generalize (w.alloc (.cells #[fv0, bv0, .int .i64 m.actual] 25)) = w1 at *
  have B1 := Lib.hid hb1
  have Z1 := Lib.hid hz1
  clear hb1 hz1
  refine (KZ0.out _ B1.out).mono ?_
  rintro e w2 ⟨rfl, hb2⟩
  have A2 := Lib.hid (A1.out.below hb2)
  have B3 : Hid (Below w.heap.size w w2) := Lib.hid (B1.out.trans (hb2.mono B1.out.size))
  clear A1 B1
  have Z2 : Hid (w1.heap.size ≤ w2.heap.size) := Lib.hid hb2.size
  clear hb2
  obtain ⟨ac0, ac1, ac2, _⟩ := A2.out
  have alt := A2.out.lt
  go_wp2_with fail
  refine (KT0.out _ B3.out).mono ?_
  rintro e w3 ⟨v3, rfl, ho3, hb3⟩
  clear ac0 ac1 ac2 alt
  have A4 := Lib.hid (A2.out.below hb3)
  have B5 : Hid (Below w.heap.size w w3) := Lib.hid (B3.out.trans (hb3.mono B3.out.size))
  clear A2 B3
  have Z3 : Hid (w2.heap.size ≤ w3.heap.size) := Lib.hid hb3.size
  have P6 := Lib.hid ho3
  clear ho3 hb3
  go_wp2_with fail
  refine (KS.out _ _ _ _ P6.out.read (by have z1 := Z1.out; have z2 := Z2.out; have z3 := Z3.out; omega)).mono ?_
  rintro e w4 ⟨v4, rfl, ho4, hb4⟩
  have A7 := Lib.hid (A4.out.below hb4)
  have B8 : Hid (Below w.heap.size w w4) := Lib.hid (B5.out.trans (hb4.mono B5.out.size))
  have P9 := Lib.hid (P6.out.keeps (Keeps.of_all hb4))
  clear A4 B5 P6
  have Z4 : Hid (w3.heap.size ≤ w4.heap.size) := Lib.hid hb4.size
  have V10 := Lib.hid ho4
  clear ho4 hb4
  clear P9
  obtain ⟨ac0, ac1, ac2, _⟩ := A7.out
  have alt := A7.out.lt
  go_wp2_with fail
  clear ac0 ac1 ac2 alt
  refine (KT0.out _ B8.out).mono ?_
  rintro e w5 ⟨v5, rfl, ho5, hb5⟩
  have A11 := Lib.hid (A7.out.below hb5)
  have B12 : Hid (Below w.heap.size w w5) := Lib.hid (B8.out.trans (hb5.mono B8.out.size))
  have V13 := Lib.hid (V10.out.keeps (Keeps.of_all hb5))
  clear A7 B8 V10
  have Z5 : Hid (w4.heap.size ≤ w5.heap.size) := Lib.hid hb5.size
  have X14 := Lib.hid ho5
  clear ho5 hb5
  obtain ⟨fa5, fc5, ba5, bc5, e5⟩ := X14.out.read.form
  subst e5
  go_wp2_with fail
  have Xb15 := Lib.hid (Mcell.new (w := w5) (T := 30) (b := w5.heap.size) (fv := .slice fa5 m.facts.length fc5) (bv := .slice ba5 m.blocks.length bc5) (n := m.actual) rfl)
  have hb6 : Below w5.heap.size w5 (w5.alloc (.cells #[.slice fa5 m.facts.length fc5, .slice ba5 m.blocks.length bc5, .int .i64 m.actual] 30)) := by go_grown
  have hz6 : (w5.alloc (.cells #[.slice fa5 m.facts.length fc5, .slice ba5 m.blocks.length bc5, .int .i64 m.actual] 30)).heap.size = w5.heap.size + 1 := by simp
  generalize w5.alloc (.cells #[.slice fa5 m.facts.length fc5, .slice ba5 m.blocks.length bc5, .int .i64 m.actual] 30) = w6 at *
  have A16 := Lib.hid (A11.out.below hb6)
  have B17 : Hid (Below w.heap.size w w6) := Lib.hid (B12.out.trans (hb6.mono B12.out.size))
  have V18 := Lib.hid (V13.out.keeps (Keeps.of_all hb6))
  have X19 := Lib.hid (X14.out.keeps (Keeps.of_all hb6))
  clear A11 B12 V13 X14
  have Z6 := Lib.hid hz6
  clear hb6 hz6
  refine (KI.out _ _ _ _ X19.out.read (by have z1 := Z1.out; have z2 := Z2.out; have z3 := Z3.out; have z4 := Z4.out; have z5 := Z5.out; have z6 := Z6.out; omega) B17.out).mono ?_
  rintro e w7 ⟨v7, rfl, ho7, hb7⟩
  have A20 := Lib.hid (A16.out.below hb7)
  have B21 : Hid (Below w.heap.size w w7) := Lib.hid (B17.out.trans (hb7.mono B17.out.size))
  have V22 := Lib.hid (V18.out.keeps (Keeps.of_all hb7))
  have X23 := Lib.hid (X19.out.keeps (Keeps.of_all hb7))
  have Xb24 := Lib.hid (Xb15.out.below hb7)
  clear A16 B17 V18 X19 Xb15
  have Z7 : Hid (w6.heap.size ≤ w7.heap.size) := Lib.hid hb7.size
  have S25 := Lib.hid ho7
  clear ho7 hb7
  go_wp2_with fail
  refine (eqNodeS_same _ _ mr _ S25.out.read V22.out.read).mono ?_
  rintro e w8 ⟨rfl, hb8⟩
  have A26 := Lib.hid (A20.out.below hb8)
  have B27 : Hid (Below w.heap.size w w8) := Lib.hid (B21.out.trans (hb8.mono B21.out.size))
  have V28 := Lib.hid (V22.out.keeps (Keeps.of_all hb8))
  have X29 := Lib.hid (X23.out.keeps (Keeps.of_all hb8))
  have Xb30 := Lib.hid (Xb24.out.below hb8)
  have S31 := Lib.hid (S25.out.keeps (Keeps.of_all hb8))
  clear A20 B21 V22 X23 Xb24 S25
  have Z8 : Hid (w7.heap.size ≤ w8.heap.size) := Lib.hid hb8.size
  clear hb8
  go_wp2
  refine wp_region_held_drew (S := fun w' => Below w8.heap.size w8 w') (by kernel_rfl) (Below.refl _ _).drew (fun hHeld => ?_)
  refine wpAnyH_take (i := 0) (v := .agg #[.slice fa5 m.facts.length fc5, .slice ba5 m.blocks.length bc5, .int .i64 m.actual]) rfl (by kernel_rfl) (by kernel_rfl) (by kernel_rfl) (fun _ _ _ h => h) (Or.inl ⟨by rfl, by intro W hSw; obtain ⟨c0, c1, c2, _⟩ := Xb30.out.below hSw; go_simp⟩) hHeld ?_
  simp only [Act.put]
  refine wpAnyH_take (i := 1) (v := .agg #[fv0, bv0, .int .i64 m.actual]) rfl (by kernel_rfl) (by kernel_rfl) (by kernel_rfl) (fun _ _ _ h => h) (Or.inl ⟨by rfl, by intro W hSw; obtain ⟨c0, c1, c2, _⟩ := A26.out.below hSw; go_simp⟩) hHeld ?_
  simp only [Act.put]
  refine wpAnyH_ready (rs := [2]) (by kernel_rfl) (by simp) ?_
  refine AllReadyH.cons rfl (fun K hK => ?_) AllReadyH.nil
  go_simp
  refine (KT0.out _ (B27.out.trans (hHeld.mono B27.out.size))).mono ?_
  rintro e w9 ⟨v9, rfl, ho9, hb9⟩
  have hB9 : Below w8.heap.size w8 w9 := hHeld.trans (hb9.mono hHeld.size)
  have M9 := Lib.hid ho9.read
  clear ho9 hb9 hHeld
  refine hK.out _ _ hB9 (fun hHeld => ?_)
  clear hK K
  refine wpAnyH_ready (rs := [3]) (by kernel_rfl) (by simp) ?_
  refine AllReadyH.cons rfl (fun K hK => ?_) AllReadyH.nil
  go_simp
  refine (KE0.out _ _ _ _ _ _ _ (X29.out.read.keeps (Keeps.of_all hB9)) M9.out).mono ?_
  rintro e w10 ⟨rfl, hb10⟩
  have hB10 : Below w8.heap.size w8 w10 := hHeld.trans (hb10.mono hHeld.size)
  clear hB9 hb10 hHeld M9
  refine hK.out _ _ hB10 (fun hHeld => ?_)
  clear hK K
  refine wpAnyH_take (i := 4) (v := .bool false) rfl (by kernel_rfl) (by kernel_rfl) (by kernel_rfl) (fun _ _ _ h => h) (Or.inl ⟨by rfl, by intro w hSw; go_simp⟩) hHeld ?_
  simp only [Act.put]
  refine wpAnyH_done (by kernel_rfl) ?_ _
  try simp only [List.getElem_toArray, List.getElem_cons_succ, List.getElem_cons_zero]
  clear hHeld
  have A32 := Lib.hid (A26.out.below hB10)
  have B33 : Hid (Below w.heap.size w w10) := Lib.hid (B27.out.trans (hB10.mono B27.out.size))
  have V34 := Lib.hid (V28.out.keeps (Keeps.of_all hB10))
  have X35 := Lib.hid (X29.out.keeps (Keeps.of_all hB10))
  have Xb36 := Lib.hid (Xb30.out.below hB10)
  have S37 := Lib.hid (S31.out.keeps (Keeps.of_all hB10))
  clear A26 B27 V28 X29 Xb30 S31
  have Z10 : Hid (w8.heap.size ≤ w10.heap.size) := Lib.hid hB10.size
  clear hB10
  obtain ⟨xbc0, xbc1, xbc2, _⟩ := Xb36.out
  have xblt := Xb36.out.lt
  go_wp2_with fail
  clear xbc0 xbc1 xbc2 xblt
  refine (markModel_own _ _ _ _ (1) _ HN0.out (by have ht := HTOT.out; omega) (by have z1 := Z1.out; have z2 := Z2.out; have z3 := Z3.out; have z4 := Z4.out; have z5 := Z5.out; have z6 := Z6.out; have z7 := Z7.out; have z8 := Z8.out; have z10 := Z10.out; omega) X35.out).mono ?_
  rintro e w11 ⟨rfl, hm11, ht11⟩
  clear hm11
  clear X35
  clear Xb36
  have A38 := Lib.hid (A32.out.of_block (ht11.block _ A32.out.lt (by have z1 := Z1.out; have z2 := Z2.out; have z3 := Z3.out; have z4 := Z4.out; have z5 := Z5.out; have z6 := Z6.out; have z7 := Z7.out; have z8 := Z8.out; have z10 := Z10.out; omega)))
  have B39 : Hid (Below w.heap.size w w11) := Lib.hid (B33.out.trans (ht11.below (by have z1 := Z1.out; have z2 := Z2.out; have z3 := Z3.out; have z4 := Z4.out; have z5 := Z5.out; have z6 := Z6.out; have z7 := Z7.out; have z8 := Z8.out; have z10 := Z10.out; omega) B33.out.size))
  have V40 := Lib.hid (V34.out.keeps (ht11.keeps (by have z1 := Z1.out; have z2 := Z2.out; have z3 := Z3.out; have z4 := Z4.out; have z5 := Z5.out; have z6 := Z6.out; have z7 := Z7.out; have z8 := Z8.out; have z10 := Z10.out; omega)))
  have S41 := Lib.hid (S37.out.keeps (ht11.keeps (by have z1 := Z1.out; have z2 := Z2.out; have z3 := Z3.out; have z4 := Z4.out; have z5 := Z5.out; have z6 := Z6.out; have z7 := Z7.out; have z8 := Z8.out; have z10 := Z10.out; omega)))
  clear A32 B33 V34 S37
  have Z11 : Hid (w10.heap.size ≤ w11.heap.size) := Lib.hid ht11.size
  clear ht11
  go_wp2_with fail
  refine (eqNodeS_same _ _ mr _ S41.out.read V40.out.read).mono ?_
  rintro e w12 ⟨rfl, hb12⟩
  have A42 := Lib.hid (A38.out.below hb12)
  have B43 : Hid (Below w.heap.size w w12) := Lib.hid (B39.out.trans (hb12.mono B39.out.size))
  have V44 := Lib.hid (V40.out.keeps (Keeps.of_all hb12))
  have S45 := Lib.hid (S41.out.keeps (Keeps.of_all hb12))
  clear A38 B39 V40 S41
  have Z12 : Hid (w11.heap.size ≤ w12.heap.size) := Lib.hid hb12.size
  clear hb12
  go_wp2_with fail
  refine (markNodeS_rw _ _ _ mr 1 _ (by have := HMR.out; omega) (by omega) (by omega) S45.out.1).mono ?_
  rintro e w13 ⟨rfl, hm13, hg13⟩
  have ht13 : Touch w6.heap.size w7.heap.size w12 w13 := Touch.of_grown hg13 (fun k hk => ⟨(S45.out.1.lt k hk).1, S45.out.2 k hk⟩)
  have hm13 : No w6.heap.size w7.heap.size w13 v7 (marksNd 1 mr.length) := ⟨by rw [marksNd_len]; exact hm13, S45.out.2⟩
  clear hg13
  have H46 := Lib.hid hm13
  clear hm13
  clear S45
  have A47 := Lib.hid (A42.out.of_block (ht13.block _ A42.out.lt (by have z1 := Z1.out; have z2 := Z2.out; have z3 := Z3.out; have z4 := Z4.out; have z5 := Z5.out; have z6 := Z6.out; have z7 := Z7.out; have z8 := Z8.out; have z10 := Z10.out; have z11 := Z11.out; have z12 := Z12.out; omega)))
  have B48 : Hid (Below w.heap.size w w13) := Lib.hid (B43.out.trans (ht13.below (by have z1 := Z1.out; have z2 := Z2.out; have z3 := Z3.out; have z4 := Z4.out; have z5 := Z5.out; have z6 := Z6.out; have z7 := Z7.out; have z8 := Z8.out; have z10 := Z10.out; have z11 := Z11.out; have z12 := Z12.out; omega) B43.out.size))
  have V49 := Lib.hid (V44.out.keeps (ht13.keeps (by have z1 := Z1.out; have z2 := Z2.out; have z3 := Z3.out; have z4 := Z4.out; have z5 := Z5.out; have z6 := Z6.out; have z7 := Z7.out; have z8 := Z8.out; have z10 := Z10.out; have z11 := Z11.out; have z12 := Z12.out; omega)))
  clear A42 B43 V44
  have Z13 : Hid (w12.heap.size ≤ w13.heap.size) := Lib.hid ht13.size
  clear ht13
  go_wp2_with fail
  refine (heldNodeS_any _ mr.length 1 _ (by have := HMR.out; omega) (by omega) (by omega) H46.out.read).mono ?_
  rintro e wq ⟨rfl, rfl⟩
  obtain ⟨ac0, ac1, ac2, _⟩ := A47.out
  have alt := A47.out.lt
  go_wp2_with fail
  refine (KT0.out _ B48.out).mono ?_
  rintro e w14 ⟨v14, rfl, ho14, hb14⟩
  clear ac0 ac1 ac2 alt
  have A50 := Lib.hid (A47.out.below hb14)
  have B51 : Hid (Below w.heap.size w w14) := Lib.hid (B48.out.trans (hb14.mono B48.out.size))
  have V52 := Lib.hid (V49.out.keeps (Keeps.of_all hb14))
  have H53 := Lib.hid (H46.out.keeps (Keeps.of_all hb14))
  clear A47 B48 V49 H46
  have Z14 : Hid (w13.heap.size ≤ w14.heap.size) := Lib.hid hb14.size
  have P54 := Lib.hid ho14
  clear ho14 hb14
  go_wp2_with fail
  refine (KI.out _ _ _ _ P54.out.read (by have z1 := Z1.out; have z2 := Z2.out; have z3 := Z3.out; have z4 := Z4.out; have z5 := Z5.out; have z6 := Z6.out; have z7 := Z7.out; have z8 := Z8.out; have z10 := Z10.out; have z11 := Z11.out; have z12 := Z12.out; have z13 := Z13.out; have z14 := Z14.out; omega) B51.out).mono ?_
  rintro e w15 ⟨v15, rfl, ho15, hb15⟩
  have A55 := Lib.hid (A50.out.below hb15)
  have B56 : Hid (Below w.heap.size w w15) := Lib.hid (B51.out.trans (hb15.mono B51.out.size))
  have V57 := Lib.hid (V52.out.keeps (Keeps.of_all hb15))
  have H58 := Lib.hid (H53.out.keeps (Keeps.of_all hb15))
  have P59 := Lib.hid (P54.out.keeps (Keeps.of_all hb15))
  clear A50 B51 V52 H53 P54
  have Z15 : Hid (w14.heap.size ≤ w15.heap.size) := Lib.hid hb15.size
  have O60 := Lib.hid ho15
  clear ho15 hb15
  clear P59
  go_wp2_with fail
  refine (eqNodeS_same _ _ mr _ O60.out.read V57.out.read).mono ?_
  rintro e w16 ⟨rfl, hb16⟩
  have A61 := Lib.hid (A55.out.below hb16)
  have B62 : Hid (Below w.heap.size w w16) := Lib.hid (B56.out.trans (hb16.mono B56.out.size))
  have V63 := Lib.hid (V57.out.keeps (Keeps.of_all hb16))
  have H64 := Lib.hid (H58.out.keeps (Keeps.of_all hb16))
  have O65 := Lib.hid (O60.out.keeps (Keeps.of_all hb16))
  clear A55 B56 V57 H58 O60
  have Z16 : Hid (w15.heap.size ≤ w16.heap.size) := Lib.hid hb16.size
  clear hb16
  go_wp2_with fail
  refine (heldNodeS_any _ mr.length 1 _ (by have := HMR.out; omega) (by omega) (by omega) H64.out.read).mono ?_
  rintro e wq ⟨rfl, rfl⟩
  go_wp2
  go_ret
  exact ⟨rfl, B62.out⟩
end Go.Proofs.YtnpfnfenkklocaaGreatDoor
