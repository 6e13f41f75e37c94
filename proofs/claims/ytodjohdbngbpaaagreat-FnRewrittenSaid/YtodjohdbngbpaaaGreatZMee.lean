/-
  Several texts in one: Meb Mee. Conditions: as each theorem says.
-/
import Derived.Test.YtodjohdbngbpaaaGreatZMea
import Derived.Deep.DeepCutAuto
import Derived.Test.YtodjohdbngbpaaaGreatZRen
/-
  The program's rules for conjunction, whether and after, as function values. Condition: the grid fits, its facts are numbers from 0 to 15.
-/
namespace Go.Proofs.YtodjohdbngbpaaaGreat
open Go.RowKit Go.WideShapes
open Go Go.Deep
set_option linter.unusedSimpArgs false

section
variable {P : Program} {ops : Array Oper} {Q : Exit → Act → World → Prop} {md : Region.Mode} {S : World → Prop} {L : List Nat}
theorem threeL {i j k : Nat} {oi oj ok : Oper} {fuel : Nat} {listed : Array Bool} {a : Act} {w : World} (hr : Region.ready md ops listed = [i, j, k]) (hi : ops[i]? = some oi) (hj : ops[j]? = some oj) (hk : ops[k]? = some ok)
    (hwi : Region.wanted oi (yielded ops a.tmps) = true) (hwj : Region.wanted oj (yielded ops a.tmps) = true) (hwk : Region.wanted ok (yielded ops a.tmps) = true)
    (h1 : ∀ K : Act → World → Prop, Shut (∀ a w, (i ∉ L → S w) → ((i ∉ L → S w) → wpAnyL P md ops Q S L fuel (listed.setIfInBounds i true) a w) → K a w) → Oper.wp P oi a w K Q)
    (h2 : ∀ K : Act → World → Prop, Shut (∀ a w, (j ∉ L → S w) → ((j ∉ L → S w) → wpAnyL P md ops Q S L fuel (listed.setIfInBounds j true) a w) → K a w) → Oper.wp P oj a w K Q)
    (h3 : ∀ K : Act → World → Prop, Shut (∀ a w, (k ∉ L → S w) → ((k ∉ L → S w) → wpAnyL P md ops Q S L fuel (listed.setIfInBounds k true) a w) → K a w) → Oper.wp P ok a w K Q) : wpAnyL P md ops Q S L (fuel + 1) listed a w := by
  refine ⟨fun h0 => (by rw [hr] at h0; cases h0), fun l hl => ?_⟩
  rw [hr] at hl
  simp only [List.mem_cons, List.not_mem_nil, or_false] at hl
  rcases hl with rfl | rfl | rfl
  · exact wpOp_step hi (fun K hK => by rw [if_pos hwi]; exact h1 K (fun a w hS hW => hK a w ⟨hS, hW hS⟩))
  · exact wpOp_step hj (fun K hK => by rw [if_pos hwj]; exact h2 K (fun a w hS hW => hK a w ⟨hS, hW hS⟩))
  · exact wpOp_step hk (fun K hK => by rw [if_pos hwk]; exact h3 K (fun a w hS hW => hK a w ⟨hS, hW hS⟩))
end
theorem Keeps.at2 {lo : Nat} {w W W' : World} (h : Keeps lo w.heap.size w W) (h2 : Below W.heap.size W W') : Keeps lo w.heap.size w W' := h.trans (Keeps.of_all h2)

set_option maxRecDepth 100000 in
set_option maxHeartbeats 4000000 in
theorem and_test (w : World) (b4 b5 n : Nat) (hn : n ≤ 16) (p q : Nat → Bool) (h4 : Cm w b4 89 (bL p)) (h5 : Cm w b5 89 (bL q)) :
    Test w 183 #[.pointer (some ⟨b4, 0, none⟩), .pointer (some ⟨b5, 0, none⟩)] n (fun i => p i && q i) := by
  refine ⟨enters_of Tryz.func183 (by kernel_rfl) rfl, fun i hi W hW => ?_⟩
  show Calls Tryz.prog 183 #[.int .i64 i, .pointer (some ⟨b4, 0, none⟩), .pointer (some ⟨b5, 0, none⟩)] W _
  have c4 := set_store p (show i < 16 by omega) (h4.all hW)
  have c5 := set_store q (show i < 16 by omega) (h5.all hW)
  have i0 : (0 : Int) ≤ (i : Int) := Int.natCast_nonneg _
  have i16 : (i : Int) < 16 := by omega
  obtain ⟨x, hx⟩ : ∃ x, x = p i := ⟨_, rfl⟩
  obtain ⟨y, hy⟩ : ∃ y, y = q i := ⟨_, rfl⟩
  have HX := Lib.hid hx
  have HY := Lib.hid hy
  rw [← hx] at c4
  rw [← hy] at c5
  clear h4 h5 hW hx hy
  cases x with
  | false =>
    go_enter Tryz.func183, Tryz.ntmps183
    go_wp2
    go_ret
    exact ⟨ret_bool (by rw [← HX.out]; rfl), Below.refl _ _⟩
  | true =>
    go_enter Tryz.func183, Tryz.ntmps183
    go_wp2
    go_ret
    exact ⟨ret_bool (by rw [← HX.out, ← HY.out]; rfl), Below.refl _ _⟩
set_option maxRecDepth 100000 in
set_option maxHeartbeats 16000000 in
theorem meanAnd (lo b pb po c : Nat) (u1 u2 : Value) (x y : Tm) (w : World) (hb : Cm w b 183 [.slice (some ⟨pb, po, none⟩) 2 c]) (hlb : lo ≤ b) (hlp : lo ≤ pb) (hu1 : w.cell? ⟨pb, po, none⟩ = some u1) (hu2 : w.cell? ⟨pb, po + 1, none⟩ = some u2) (hM1 : Mean lo w u1 x) (hM2 : Mean lo w u2 y) :
    Mean lo w (.func (.func 182) #[] #[.pointer (some ⟨b, 0, none⟩)]) (.joint 4 x y) := by
  refine ⟨_, _, rfl, enters_of Tryz.func182 (by kernel_rfl) rfl, fun m hg W hW => ?_⟩
  show Calls Tryz.prog 182 #[.agg (ints (gM m)).toArray, .pointer (some ⟨b, 0, none⟩)] W _
  obtain ⟨k1, caps1, rfl, hen1, hM1⟩ := hM1
  obtain ⟨k2, caps2, rfl, hen2, hM2⟩ := hM2
  have hbl := hb.lt
  have hpl : pb < w.heap.size := World.block_lt_of_cell? _ _ hu1
  have HB : Hid (∀ W', Below W.heap.size W W' → W'.cell? ⟨b, 0, none⟩ = some (.slice (some ⟨pb, po, none⟩) 2 c)) := Lib.hid (fun W' h => ((hb.keeps hW hlb hbl).all h).one)
  have HU1 : Hid (∀ W', Below W.heap.size W W' → W'.cell? ⟨pb, po, none⟩ = some (.func (.func k1) #[] caps1)) := Lib.hid (fun W' h => cell_keeps hu1 (hW.at2 h) hlp hpl)
  have HU2 : Hid (∀ W', Below W.heap.size W W' → W'.cell? ⟨pb, po + 1, none⟩ = some (.func (.func k2) #[] caps2)) := Lib.hid (fun W' h => cell_keeps hu2 (hW.at2 h) hlp hpl)
  have KM1 := Lib.hid (fun W' (h : Below W.heap.size W W') => hM1 m hg W' (hW.at2 h))
  have KM2 := Lib.hid (fun W' (h : Below W.heap.size W W') => hM2 m hg W' (hW.at2 h))
  have KW := Lib.hid (fun caps q W' h => where_any m.facts.length m.blocks.length m.actual m.facts m.blocks hg.1.small hg.1.1 183 caps q W' h)
  have KT := Lib.hid (fun W' b4 b5 h4 h5 => and_test W' b4 b5 m.facts.length hg.1.1 (evI x m) (evI y m) h4 h5)
  have HL : Hid ((ints (gM m)).length = 67) := Lib.hid (gM_len hg)
  have HEV : Hid (evI (.joint 4 x y) m = cut m.facts.length fun i => evI x m i && evI y m i) := Lib.hid rfl
  rw [HEV.out]
  have KW := Lib.hid (fun caps W' h => KW.out caps (fun i => evI x m i && evI y m i) W' h)
  generalize hPF : (cut m.facts.length fun i => evI x m i && evI y m i) = PF at *
  change Hid (∀ caps W', _ → Calls _ _ #[.agg (ints (gM m)).toArray, _] W' _) at KW
  generalize gM m = G at *
  generalize evI x m = PA at *
  generalize evI y m = PB at *
  have hent1 : ∀ args w, (callFunc k1 args).run Tryz.prog w = .ok (.enter k1 args) w := hen1
  have hent2 : ∀ args w, (callFunc k2 args).run Tryz.prog w = .ok (.enter k2 args) w := hen2
  have hmf : ∀ (fn : Fn) (first cap : Array Value) (w : World), (Instr.makeFunc fn first cap).run Tryz.prog w = .ok (.func fn first cap) w := fun _ _ _ _ => rfl
  clear hb hu1 hu2 hM1 hM2 hW hg HEV hPF hen1 hen2
  go_enter Tryz.func182, Tryz.ntmps182
  have tk1 : True := trivial
  go_wp2_with
    (first
      | (have _t := tk1; clear _t tk1; refine wpList_allocM rfl 89 rfl (bL (fun _ => false)) Tryz.allocSet ?_
         intro w1 hc1 hb1 hs1
         have hzz : (W.alloc (.cells (ints G).toArray 85)).heap.size = W.heap.size + 1 := by simp
         rw [hzz] at hc1 ⊢
         have C0 : Hid (Cm w1 W.heap.size 85 (ints G)) := Lib.hid (Cm.all (Cm.new rfl) hb1)
         have R0 : Hid (Cm w1 (W.heap.size + 1) 89 (bL (fun _ => false))) := Lib.hid hc1
         have B0 : Hid (Below W.heap.size W w1) := Lib.hid (Below.trans (by go_grown) (hb1.mono (by simp)))
         have hq1 : W.heap.size + 1 < w1.heap.size := R0.out.lt
         clear hc1 hb1 hs1 hzz))
  have HRG : Hid (∀ W', Below w1.heap.size w1 W' → W'.rangeAt W.heap.size 0 (ints G)) := Lib.hid (fun W' h => (C0.out.all h).whole)
  have HB1 : Hid (∀ W', Below w1.heap.size w1 W' → W'.cell? ⟨b, 0, none⟩ = some (.slice (some ⟨pb, po, none⟩) 2 c)) := Lib.hid (fun W' h => HB.out W' (B0.out.trans (h.mono B0.out.size)))
  have HV1 : Hid (∀ W', Below w1.heap.size w1 W' → W'.cell? ⟨pb, po, none⟩ = some (.func (.func k1) #[] caps1)) := Lib.hid (fun W' h => HU1.out W' (B0.out.trans (h.mono B0.out.size)))
  have HV2 : Hid (∀ W', Below w1.heap.size w1 W' → W'.cell? ⟨pb, po + 1, none⟩ = some (.func (.func k2) #[] caps2)) := Lib.hid (fun W' h => HU2.out W' (B0.out.trans (h.mono B0.out.size)))
  have HU : Tryz.prog.underlying 85 = some _ := Tryz.underlying85
  try simp only [Act.put, List.setIfInBounds_toArray, List.set_cons_zero, List.set_cons_succ]
  go_cut [4, 5] (fun p4 p5 w' => ∃ b4 b5, p4 = .pointer (some ⟨b4, 0, none⟩) ∧ p5 = .pointer (some ⟨b5, 0, none⟩) ∧ Hid (Cm w' b4 89 (bL PA)) ∧ Hid (Cm w' b5 89 (bL PB)) ∧ Hid (Cm w' W.heap.size 85 (ints G)) ∧ Hid (Cm w' (W.heap.size + 1) 89 (bL (fun _ => false))) ∧ Hid (Below W.heap.size W w'))
  case first =>
    refine regionL (fun W => Below w1.heap.size w1 W) [12, 13] (by kernel_rfl) (Below.refl _ _).drew (fun hHeld => ?_)
    refine takeA (i := 0) (v := .slice (some ⟨pb, po, none⟩) 2 c) 6 rfl rfl (by kernel_rfl) (by kernel_rfl) (by kernel_rfl) (by kernel_rfl) (fun _ _ _ h => h) (Or.inl ⟨by rfl, by intro W hSw; have c1 := HB1.out _ hSw; go_simp⟩) hHeld ?_
    simp only [Act.put, List.setIfInBounds_toArray, List.set_cons_zero, List.set_cons_succ]
    refine takeA (i := 1) (v := .pointer (some ⟨pb, po, none⟩)) 7 rfl rfl (by kernel_rfl) (by kernel_rfl) (by kernel_rfl) (by kernel_rfl) (fun _ _ _ h => h) (Or.inl ⟨by rfl, by intro W hSw; go_simp⟩) hHeld ?_
    simp only [Act.put, List.setIfInBounds_toArray, List.set_cons_zero, List.set_cons_succ]
    refine takeA (i := 2) (v := .func (.func k1) #[] caps1) 8 rfl rfl (by kernel_rfl) (by kernel_rfl) (by kernel_rfl) (by kernel_rfl) (fun _ _ _ h => h) (Or.inl ⟨by rfl, by intro W hSw; have c1 := HV1.out _ hSw; go_simp⟩) hHeld ?_
    simp only [Act.put, List.setIfInBounds_toArray, List.set_cons_zero, List.set_cons_succ]
    refine takeA (i := 3) (v := .agg (ints G).toArray) 9 rfl rfl (by kernel_rfl) (by kernel_rfl) (by kernel_rfl) (by kernel_rfl) (fun _ _ _ h => h) (yieldsIf_load_mid (by rfl) 85 _ rfl W.heap.size 0 rfl (ints G) _ HRG.out HU rfl (by rw [HL.out]; exact Tryz.sizeGrid)) hHeld ?_
    simp only [Act.put, List.setIfInBounds_toArray, List.set_cons_zero, List.set_cons_succ]
    refine takeA (i := 5) (v := .slice (some ⟨pb, po, none⟩) 2 c) 11 rfl rfl (by kernel_rfl) (by kernel_rfl) (by kernel_rfl) (by kernel_rfl) (fun _ _ _ h => h) (Or.inl ⟨by rfl, by intro W hSw; have c1 := HB1.out _ hSw; go_simp⟩) hHeld ?_
    simp only [Act.put, List.setIfInBounds_toArray, List.set_cons_zero, List.set_cons_succ]
    refine takeA (i := 6) (v := .pointer (some ⟨pb, po + 1, none⟩)) 12 rfl rfl (by kernel_rfl) (by kernel_rfl) (by kernel_rfl) (by kernel_rfl) (fun _ _ _ h => h) (Or.inl ⟨by rfl, by intro W hSw; go_simp⟩) hHeld ?_
    simp only [Act.put, List.setIfInBounds_toArray, List.set_cons_zero, List.set_cons_succ]
    refine takeA (i := 7) (v := .func (.func k2) #[] caps2) 13 rfl rfl (by kernel_rfl) (by kernel_rfl) (by kernel_rfl) (by kernel_rfl) (fun _ _ _ h => h) (Or.inl ⟨by rfl, by intro W hSw; have c1 := HV2.out _ hSw; go_simp⟩) hHeld ?_
    simp only [Act.put, List.setIfInBounds_toArray, List.set_cons_zero, List.set_cons_succ]
    refine takeA (i := 8) (v := .agg (ints G).toArray) 14 rfl rfl (by kernel_rfl) (by kernel_rfl) (by kernel_rfl) (by kernel_rfl) (fun _ _ _ h => h) (yieldsIf_load_mid (by rfl) 85 _ rfl W.heap.size 0 rfl (ints G) _ HRG.out HU rfl (by rw [HL.out]; exact Tryz.sizeGrid)) hHeld ?_
    simp only [Act.put, List.setIfInBounds_toArray, List.set_cons_zero, List.set_cons_succ]
    generalize w1.drew = wd at hHeld ⊢
    refine threeL (i := 4) (j := 10) (k := 11) (by kernel_rfl) rfl rfl rfl (by rfl) (by rfl) (by rfl) (fun K hK => ?_) (fun K hK => ?_) (fun K hK => ?_)
    · skip
      go_simp
      refine (KM1.out _ (B0.out.trans (hHeld.mono B0.out.size))).mono ?_
      rintro e w101 ⟨rfl, hb101⟩
      have t101 : Below w1.heap.size w1 w101 := hHeld.trans (hb101.mono hHeld.size)
      clear hb101
      refine hK.out _ _ (fun _ => t101) (fun hHeld => ?_)
      have hHeld := hHeld (by decide)
      clear hK K
      try simp only [Act.put, List.setIfInBounds_toArray, List.set_cons_zero, List.set_cons_succ]
      refine threeL (i := 9) (j := 10) (k := 11) (by kernel_rfl) rfl rfl rfl (by rfl) (by rfl) (by rfl) (fun K hK => ?_) (fun K hK => ?_) (fun K hK => ?_)
      · skip
        go_simp
        refine (KM2.out _ (B0.out.trans (t101.mono B0.out.size))).mono ?_
        rintro e w102 ⟨rfl, hb102⟩
        have t102 : Below w1.heap.size w1 w102 := t101.trans (hb102.mono t101.size)
        clear hb102
        refine hK.out _ _ (fun _ => t102) (fun hHeld => ?_)
        have hHeld := hHeld (by decide)
        clear hK K
        try simp only [Act.put, List.setIfInBounds_toArray, List.set_cons_zero, List.set_cons_succ]
        refine twoL (i := 10) (j := 11) (by kernel_rfl) rfl rfl (by rfl) (by rfl) (fun K hK => ?_) (fun K hK => ?_)
        · skip
          refine wp_allocM 89 4 rfl rfl (bL (fun _ => false)) Tryz.allocSet ?_
          have Z10_103 := Lib.hid (Cm.new (w := w102) (T := 89) (cs := bL (fun _ => false)) rfl)
          have t103 : Below w1.heap.size w1 (w102.alloc (.cells (bL (fun _ => false)).toArray 89)) := t102.alloc t102.size _
          have hs103 := t102.size
          have hz103 : w102.heap.size < (w102.alloc (.cells (bL (fun _ => false)).toArray 89)).heap.size := by simp
          generalize w102.alloc (.cells (bL (fun _ => false)).toArray 89) = w103 at *
          refine hK.out _ _ (fun _ => t103) (fun hHeld => ?_)
          have hHeld := hHeld (by decide)
          clear hK K
          try simp only [Act.put, List.setIfInBounds_toArray, List.set_cons_zero, List.set_cons_succ]
          refine onlyL (i := 11) (by kernel_rfl) rfl (by rfl) (fun K hK => ?_)
          refine wp_allocM 89 5 rfl rfl (bL (fun _ => false)) Tryz.allocSet ?_
          have Z11_104 := Lib.hid (Cm.new (w := w103) (T := 89) (cs := bL (fun _ => false)) rfl)
          have t104 : Below w1.heap.size w1 (w103.alloc (.cells (bL (fun _ => false)).toArray 89)) := t103.alloc t103.size _
          have hs104 := t103.size
          have hz104 : w103.heap.size < (w103.alloc (.cells (bL (fun _ => false)).toArray 89)).heap.size := by simp
          have Z10_104 := Lib.hid (Z10_103.out.alloc (.cells (bL (fun _ => false)).toArray 89))
          have hl10_104 := Z10_103.out.lt
          generalize w103.alloc (.cells (bL (fun _ => false)).toArray 89) = w104 at *
          refine hK.out _ _ (fun _ => t104) (fun hHeld => ?_)
          have hHeld := hHeld (by decide)
          clear hK K
          try simp only [Act.put, List.setIfInBounds_toArray, List.set_cons_zero, List.set_cons_succ]
          have CG105 := Lib.hid (C0.out.all t104)
          have CR105 := Lib.hid (R0.out.all t104)
          have BB105 := Lib.hid (B0.out.trans (t104.mono B0.out.size))
          clear hHeld
          refine onlyL (i := 12) (by kernel_rfl) rfl (by rfl) (fun K hK => ?_)
          refine wp_storeM 89 (.tmp 4) (.tmp 10) rfl rfl w102.heap.size 0 rfl (bL PA) rfl 89 _ Z10_104.out (by rw [bL_len, bL_len]; exact Nat.le_refl _) (by rw [bL_len]; exact Tryz.sizeSet) (fun v hv => bL_one hv) ?_
          intro y1 hc1 ha1
          rw [lay'_all (by rw [bL_len, bL_len])] at hc1
          have ZA105 := Lib.hid hc1
          have ZB105 := Lib.hid (ha1.cm Z11_104.out (by omega))
          have CG105 := Lib.hid (ha1.cm CG105.out (by omega))
          have CR105 := Lib.hid (ha1.cm CR105.out (by omega))
          have BB105 : Hid (Below W.heap.size W y1) := Lib.hid (BB105.out.trans (ha1.below (by omega)))
          clear hc1 ha1
          refine hK.out _ _ (fun h => absurd (by decide) h) (fun _ => ?_)
          clear hK K
          try simp only [Act.put, List.setIfInBounds_toArray, List.set_cons_zero, List.set_cons_succ]
          refine onlyL (i := 13) (by kernel_rfl) rfl (by rfl) (fun K hK => ?_)
          refine wp_storeM 89 (.tmp 5) (.tmp 15) rfl rfl w103.heap.size 0 rfl (bL PB) rfl 89 _ ZB105.out (by rw [bL_len, bL_len]; exact Nat.le_refl _) (by rw [bL_len]; exact Tryz.sizeSet) (fun v hv => bL_one hv) ?_
          intro y2 hc1 ha1
          rw [lay'_all (by rw [bL_len, bL_len])] at hc1
          have ZB105 := Lib.hid hc1
          have ZA105 := Lib.hid (ha1.cm ZA105.out (by omega))
          have CG105 := Lib.hid (ha1.cm CG105.out (by omega))
          have CR105 := Lib.hid (ha1.cm CR105.out (by omega))
          have BB105 : Hid (Below W.heap.size W y2) := Lib.hid (BB105.out.trans (ha1.below (by omega)))
          clear hc1 ha1
          refine hK.out _ _ (fun h => absurd (by decide) h) (fun _ => ?_)
          clear hK K
          refine doneL (by kernel_rfl) ?_ _
          go_wp2_with fail
          go_meet
          case rel => exact ⟨_, _, rfl, rfl, ZA105, ZB105, CG105, CR105, BB105⟩
        · skip
          refine wp_allocM 89 5 rfl rfl (bL (fun _ => false)) Tryz.allocSet ?_
          have Z11_106 := Lib.hid (Cm.new (w := w102) (T := 89) (cs := bL (fun _ => false)) rfl)
          have t106 : Below w1.heap.size w1 (w102.alloc (.cells (bL (fun _ => false)).toArray 89)) := t102.alloc t102.size _
          have hs106 := t102.size
          have hz106 : w102.heap.size < (w102.alloc (.cells (bL (fun _ => false)).toArray 89)).heap.size := by simp
          generalize w102.alloc (.cells (bL (fun _ => false)).toArray 89) = w106 at *
          refine hK.out _ _ (fun _ => t106) (fun hHeld => ?_)
          have hHeld := hHeld (by decide)
          clear hK K
          try simp only [Act.put, List.setIfInBounds_toArray, List.set_cons_zero, List.set_cons_succ]
          refine onlyL (i := 10) (by kernel_rfl) rfl (by rfl) (fun K hK => ?_)
          refine wp_allocM 89 4 rfl rfl (bL (fun _ => false)) Tryz.allocSet ?_
          have Z10_107 := Lib.hid (Cm.new (w := w106) (T := 89) (cs := bL (fun _ => false)) rfl)
          have t107 : Below w1.heap.size w1 (w106.alloc (.cells (bL (fun _ => false)).toArray 89)) := t106.alloc t106.size _
          have hs107 := t106.size
          have hz107 : w106.heap.size < (w106.alloc (.cells (bL (fun _ => false)).toArray 89)).heap.size := by simp
          have Z11_107 := Lib.hid (Z11_106.out.alloc (.cells (bL (fun _ => false)).toArray 89))
          have hl11_107 := Z11_106.out.lt
          generalize w106.alloc (.cells (bL (fun _ => false)).toArray 89) = w107 at *
          refine hK.out _ _ (fun _ => t107) (fun hHeld => ?_)
          have hHeld := hHeld (by decide)
          clear hK K
          try simp only [Act.put, List.setIfInBounds_toArray, List.set_cons_zero, List.set_cons_succ]
          have CG108 := Lib.hid (C0.out.all t107)
          have CR108 := Lib.hid (R0.out.all t107)
          have BB108 := Lib.hid (B0.out.trans (t107.mono B0.out.size))
          clear hHeld
          refine onlyL (i := 12) (by kernel_rfl) rfl (by rfl) (fun K hK => ?_)
          refine wp_storeM 89 (.tmp 4) (.tmp 10) rfl rfl w106.heap.size 0 rfl (bL PA) rfl 89 _ Z10_107.out (by rw [bL_len, bL_len]; exact Nat.le_refl _) (by rw [bL_len]; exact Tryz.sizeSet) (fun v hv => bL_one hv) ?_
          intro y1 hc1 ha1
          rw [lay'_all (by rw [bL_len, bL_len])] at hc1
          have ZA108 := Lib.hid hc1
          have ZB108 := Lib.hid (ha1.cm Z11_107.out (by omega))
          have CG108 := Lib.hid (ha1.cm CG108.out (by omega))
          have CR108 := Lib.hid (ha1.cm CR108.out (by omega))
          have BB108 : Hid (Below W.heap.size W y1) := Lib.hid (BB108.out.trans (ha1.below (by omega)))
          clear hc1 ha1
          refine hK.out _ _ (fun h => absurd (by decide) h) (fun _ => ?_)
          clear hK K
          try simp only [Act.put, List.setIfInBounds_toArray, List.set_cons_zero, List.set_cons_succ]
          refine onlyL (i := 13) (by kernel_rfl) rfl (by rfl) (fun K hK => ?_)
          refine wp_storeM 89 (.tmp 5) (.tmp 15) rfl rfl w102.heap.size 0 rfl (bL PB) rfl 89 _ ZB108.out (by rw [bL_len, bL_len]; exact Nat.le_refl _) (by rw [bL_len]; exact Tryz.sizeSet) (fun v hv => bL_one hv) ?_
          intro y2 hc1 ha1
          rw [lay'_all (by rw [bL_len, bL_len])] at hc1
          have ZB108 := Lib.hid hc1
          have ZA108 := Lib.hid (ha1.cm ZA108.out (by omega))
          have CG108 := Lib.hid (ha1.cm CG108.out (by omega))
          have CR108 := Lib.hid (ha1.cm CR108.out (by omega))
          have BB108 : Hid (Below W.heap.size W y2) := Lib.hid (BB108.out.trans (ha1.below (by omega)))
          clear hc1 ha1
          refine hK.out _ _ (fun h => absurd (by decide) h) (fun _ => ?_)
          clear hK K
          refine doneL (by kernel_rfl) ?_ _
          go_wp2_with fail
          go_meet
          case rel => exact ⟨_, _, rfl, rfl, ZA108, ZB108, CG108, CR108, BB108⟩
      · skip
        refine wp_allocM 89 4 rfl rfl (bL (fun _ => false)) Tryz.allocSet ?_
        have Z10_109 := Lib.hid (Cm.new (w := w101) (T := 89) (cs := bL (fun _ => false)) rfl)
        have t109 : Below w1.heap.size w1 (w101.alloc (.cells (bL (fun _ => false)).toArray 89)) := t101.alloc t101.size _
        have hs109 := t101.size
        have hz109 : w101.heap.size < (w101.alloc (.cells (bL (fun _ => false)).toArray 89)).heap.size := by simp
        generalize w101.alloc (.cells (bL (fun _ => false)).toArray 89) = w109 at *
        refine hK.out _ _ (fun _ => t109) (fun hHeld => ?_)
        have hHeld := hHeld (by decide)
        clear hK K
        try simp only [Act.put, List.setIfInBounds_toArray, List.set_cons_zero, List.set_cons_succ]
        refine twoL (i := 9) (j := 11) (by kernel_rfl) rfl rfl (by rfl) (by rfl) (fun K hK => ?_) (fun K hK => ?_)
        · skip
          go_simp
          refine (KM2.out _ (B0.out.trans (t109.mono B0.out.size))).mono ?_
          rintro e w110 ⟨rfl, hb110⟩
          have t110 : Below w1.heap.size w1 w110 := t109.trans (hb110.mono t109.size)
          have Z10_110 := Lib.hid (Z10_109.out.all hb110)
          clear hb110
          refine hK.out _ _ (fun _ => t110) (fun hHeld => ?_)
          have hHeld := hHeld (by decide)
          clear hK K
          try simp only [Act.put, List.setIfInBounds_toArray, List.set_cons_zero, List.set_cons_succ]
          refine onlyL (i := 11) (by kernel_rfl) rfl (by rfl) (fun K hK => ?_)
          refine wp_allocM 89 5 rfl rfl (bL (fun _ => false)) Tryz.allocSet ?_
          have Z11_111 := Lib.hid (Cm.new (w := w110) (T := 89) (cs := bL (fun _ => false)) rfl)
          have t111 : Below w1.heap.size w1 (w110.alloc (.cells (bL (fun _ => false)).toArray 89)) := t110.alloc t110.size _
          have hs111 := t110.size
          have hz111 : w110.heap.size < (w110.alloc (.cells (bL (fun _ => false)).toArray 89)).heap.size := by simp
          have Z10_111 := Lib.hid (Z10_110.out.alloc (.cells (bL (fun _ => false)).toArray 89))
          have hl10_111 := Z10_110.out.lt
          generalize w110.alloc (.cells (bL (fun _ => false)).toArray 89) = w111 at *
          refine hK.out _ _ (fun _ => t111) (fun hHeld => ?_)
          have hHeld := hHeld (by decide)
          clear hK K
          try simp only [Act.put, List.setIfInBounds_toArray, List.set_cons_zero, List.set_cons_succ]
          have CG112 := Lib.hid (C0.out.all t111)
          have CR112 := Lib.hid (R0.out.all t111)
          have BB112 := Lib.hid (B0.out.trans (t111.mono B0.out.size))
          clear hHeld
          refine onlyL (i := 12) (by kernel_rfl) rfl (by rfl) (fun K hK => ?_)
          refine wp_storeM 89 (.tmp 4) (.tmp 10) rfl rfl w101.heap.size 0 rfl (bL PA) rfl 89 _ Z10_111.out (by rw [bL_len, bL_len]; exact Nat.le_refl _) (by rw [bL_len]; exact Tryz.sizeSet) (fun v hv => bL_one hv) ?_
          intro y1 hc1 ha1
          rw [lay'_all (by rw [bL_len, bL_len])] at hc1
          have ZA112 := Lib.hid hc1
          have ZB112 := Lib.hid (ha1.cm Z11_111.out (by omega))
          have CG112 := Lib.hid (ha1.cm CG112.out (by omega))
          have CR112 := Lib.hid (ha1.cm CR112.out (by omega))
          have BB112 : Hid (Below W.heap.size W y1) := Lib.hid (BB112.out.trans (ha1.below (by omega)))
          clear hc1 ha1
          refine hK.out _ _ (fun h => absurd (by decide) h) (fun _ => ?_)
          clear hK K
          try simp only [Act.put, List.setIfInBounds_toArray, List.set_cons_zero, List.set_cons_succ]
          refine onlyL (i := 13) (by kernel_rfl) rfl (by rfl) (fun K hK => ?_)
          refine wp_storeM 89 (.tmp 5) (.tmp 15) rfl rfl w110.heap.size 0 rfl (bL PB) rfl 89 _ ZB112.out (by rw [bL_len, bL_len]; exact Nat.le_refl _) (by rw [bL_len]; exact Tryz.sizeSet) (fun v hv => bL_one hv) ?_
          intro y2 hc1 ha1
          rw [lay'_all (by rw [bL_len, bL_len])] at hc1
          have ZB112 := Lib.hid hc1
          have ZA112 := Lib.hid (ha1.cm ZA112.out (by omega))
          have CG112 := Lib.hid (ha1.cm CG112.out (by omega))
          have CR112 := Lib.hid (ha1.cm CR112.out (by omega))
          have BB112 : Hid (Below W.heap.size W y2) := Lib.hid (BB112.out.trans (ha1.below (by omega)))
          clear hc1 ha1
          refine hK.out _ _ (fun h => absurd (by decide) h) (fun _ => ?_)
          clear hK K
          refine doneL (by kernel_rfl) ?_ _
          go_wp2_with fail
          go_meet
          case rel => exact ⟨_, _, rfl, rfl, ZA112, ZB112, CG112, CR112, BB112⟩
        · skip
          refine wp_allocM 89 5 rfl rfl (bL (fun _ => false)) Tryz.allocSet ?_
          have Z11_113 := Lib.hid (Cm.new (w := w109) (T := 89) (cs := bL (fun _ => false)) rfl)
          have t113 : Below w1.heap.size w1 (w109.alloc (.cells (bL (fun _ => false)).toArray 89)) := t109.alloc t109.size _
          have hs113 := t109.size
          have hz113 : w109.heap.size < (w109.alloc (.cells (bL (fun _ => false)).toArray 89)).heap.size := by simp
          have Z10_113 := Lib.hid (Z10_109.out.alloc (.cells (bL (fun _ => false)).toArray 89))
          have hl10_113 := Z10_109.out.lt
          generalize w109.alloc (.cells (bL (fun _ => false)).toArray 89) = w113 at *
          refine hK.out _ _ (fun _ => t113) (fun hHeld => ?_)
          have hHeld := hHeld (by decide)
          clear hK K
          try simp only [Act.put, List.setIfInBounds_toArray, List.set_cons_zero, List.set_cons_succ]
          refine onlyL (i := 9) (by kernel_rfl) rfl (by rfl) (fun K hK => ?_)
          go_simp
          refine (KM2.out _ (B0.out.trans (t113.mono B0.out.size))).mono ?_
          rintro e w114 ⟨rfl, hb114⟩
          have t114 : Below w1.heap.size w1 w114 := t113.trans (hb114.mono t113.size)
          have Z10_114 := Lib.hid (Z10_113.out.all hb114)
          have Z11_114 := Lib.hid (Z11_113.out.all hb114)
          clear hb114
          refine hK.out _ _ (fun _ => t114) (fun hHeld => ?_)
          have hHeld := hHeld (by decide)
          clear hK K
          try simp only [Act.put, List.setIfInBounds_toArray, List.set_cons_zero, List.set_cons_succ]
          have CG115 := Lib.hid (C0.out.all t114)
          have CR115 := Lib.hid (R0.out.all t114)
          have BB115 := Lib.hid (B0.out.trans (t114.mono B0.out.size))
          clear hHeld
          refine onlyL (i := 12) (by kernel_rfl) rfl (by rfl) (fun K hK => ?_)
          refine wp_storeM 89 (.tmp 4) (.tmp 10) rfl rfl w101.heap.size 0 rfl (bL PA) rfl 89 _ Z10_114.out (by rw [bL_len, bL_len]; exact Nat.le_refl _) (by rw [bL_len]; exact Tryz.sizeSet) (fun v hv => bL_one hv) ?_
          intro y1 hc1 ha1
          rw [lay'_all (by rw [bL_len, bL_len])] at hc1
          have ZA115 := Lib.hid hc1
          have ZB115 := Lib.hid (ha1.cm Z11_114.out (by omega))
          have CG115 := Lib.hid (ha1.cm CG115.out (by omega))
          have CR115 := Lib.hid (ha1.cm CR115.out (by omega))
          have BB115 : Hid (Below W.heap.size W y1) := Lib.hid (BB115.out.trans (ha1.below (by omega)))
          clear hc1 ha1
          refine hK.out _ _ (fun h => absurd (by decide) h) (fun _ => ?_)
          clear hK K
          try simp only [Act.put, List.setIfInBounds_toArray, List.set_cons_zero, List.set_cons_succ]
          refine onlyL (i := 13) (by kernel_rfl) rfl (by rfl) (fun K hK => ?_)
          refine wp_storeM 89 (.tmp 5) (.tmp 15) rfl rfl w109.heap.size 0 rfl (bL PB) rfl 89 _ ZB115.out (by rw [bL_len, bL_len]; exact Nat.le_refl _) (by rw [bL_len]; exact Tryz.sizeSet) (fun v hv => bL_one hv) ?_
          intro y2 hc1 ha1
          rw [lay'_all (by rw [bL_len, bL_len])] at hc1
          have ZB115 := Lib.hid hc1
          have ZA115 := Lib.hid (ha1.cm ZA115.out (by omega))
          have CG115 := Lib.hid (ha1.cm CG115.out (by omega))
          have CR115 := Lib.hid (ha1.cm CR115.out (by omega))
          have BB115 : Hid (Below W.heap.size W y2) := Lib.hid (BB115.out.trans (ha1.below (by omega)))
          clear hc1 ha1
          refine hK.out _ _ (fun h => absurd (by decide) h) (fun _ => ?_)
          clear hK K
          refine doneL (by kernel_rfl) ?_ _
          go_wp2_with fail
          go_meet
          case rel => exact ⟨_, _, rfl, rfl, ZA115, ZB115, CG115, CR115, BB115⟩
      · skip
        refine wp_allocM 89 5 rfl rfl (bL (fun _ => false)) Tryz.allocSet ?_
        have Z11_116 := Lib.hid (Cm.new (w := w101) (T := 89) (cs := bL (fun _ => false)) rfl)
        have t116 : Below w1.heap.size w1 (w101.alloc (.cells (bL (fun _ => false)).toArray 89)) := t101.alloc t101.size _
        have hs116 := t101.size
        have hz116 : w101.heap.size < (w101.alloc (.cells (bL (fun _ => false)).toArray 89)).heap.size := by simp
        generalize w101.alloc (.cells (bL (fun _ => false)).toArray 89) = w116 at *
        refine hK.out _ _ (fun _ => t116) (fun hHeld => ?_)
        have hHeld := hHeld (by decide)
        clear hK K
        try simp only [Act.put, List.setIfInBounds_toArray, List.set_cons_zero, List.set_cons_succ]
        refine twoL (i := 9) (j := 10) (by kernel_rfl) rfl rfl (by rfl) (by rfl) (fun K hK => ?_) (fun K hK => ?_)
        · skip
          go_simp
          refine (KM2.out _ (B0.out.trans (t116.mono B0.out.size))).mono ?_
          rintro e w117 ⟨rfl, hb117⟩
          have t117 : Below w1.heap.size w1 w117 := t116.trans (hb117.mono t116.size)
          have Z11_117 := Lib.hid (Z11_116.out.all hb117)
          clear hb117
          refine hK.out _ _ (fun _ => t117) (fun hHeld => ?_)
          have hHeld := hHeld (by decide)
          clear hK K
          try simp only [Act.put, List.setIfInBounds_toArray, List.set_cons_zero, List.set_cons_succ]
          refine onlyL (i := 10) (by kernel_rfl) rfl (by rfl) (fun K hK => ?_)
          refine wp_allocM 89 4 rfl rfl (bL (fun _ => false)) Tryz.allocSet ?_
          have Z10_118 := Lib.hid (Cm.new (w := w117) (T := 89) (cs := bL (fun _ => false)) rfl)
          have t118 : Below w1.heap.size w1 (w117.alloc (.cells (bL (fun _ => false)).toArray 89)) := t117.alloc t117.size _
          have hs118 := t117.size
          have hz118 : w117.heap.size < (w117.alloc (.cells (bL (fun _ => false)).toArray 89)).heap.size := by simp
          have Z11_118 := Lib.hid (Z11_117.out.alloc (.cells (bL (fun _ => false)).toArray 89))
          have hl11_118 := Z11_117.out.lt
          generalize w117.alloc (.cells (bL (fun _ => false)).toArray 89) = w118 at *
          refine hK.out _ _ (fun _ => t118) (fun hHeld => ?_)
          have hHeld := hHeld (by decide)
          clear hK K
          try simp only [Act.put, List.setIfInBounds_toArray, List.set_cons_zero, List.set_cons_succ]
          have CG119 := Lib.hid (C0.out.all t118)
          have CR119 := Lib.hid (R0.out.all t118)
          have BB119 := Lib.hid (B0.out.trans (t118.mono B0.out.size))
          clear hHeld
          refine onlyL (i := 12) (by kernel_rfl) rfl (by rfl) (fun K hK => ?_)
          refine wp_storeM 89 (.tmp 4) (.tmp 10) rfl rfl w117.heap.size 0 rfl (bL PA) rfl 89 _ Z10_118.out (by rw [bL_len, bL_len]; exact Nat.le_refl _) (by rw [bL_len]; exact Tryz.sizeSet) (fun v hv => bL_one hv) ?_
          intro y1 hc1 ha1
          rw [lay'_all (by rw [bL_len, bL_len])] at hc1
          have ZA119 := Lib.hid hc1
          have ZB119 := Lib.hid (ha1.cm Z11_118.out (by omega))
          have CG119 := Lib.hid (ha1.cm CG119.out (by omega))
          have CR119 := Lib.hid (ha1.cm CR119.out (by omega))
          have BB119 : Hid (Below W.heap.size W y1) := Lib.hid (BB119.out.trans (ha1.below (by omega)))
          clear hc1 ha1
          refine hK.out _ _ (fun h => absurd (by decide) h) (fun _ => ?_)
          clear hK K
          try simp only [Act.put, List.setIfInBounds_toArray, List.set_cons_zero, List.set_cons_succ]
          refine onlyL (i := 13) (by kernel_rfl) rfl (by rfl) (fun K hK => ?_)
          refine wp_storeM 89 (.tmp 5) (.tmp 15) rfl rfl w101.heap.size 0 rfl (bL PB) rfl 89 _ ZB119.out (by rw [bL_len, bL_len]; exact Nat.le_refl _) (by rw [bL_len]; exact Tryz.sizeSet) (fun v hv => bL_one hv) ?_
          intro y2 hc1 ha1
          rw [lay'_all (by rw [bL_len, bL_len])] at hc1
          have ZB119 := Lib.hid hc1
          have ZA119 := Lib.hid (ha1.cm ZA119.out (by omega))
          have CG119 := Lib.hid (ha1.cm CG119.out (by omega))
          have CR119 := Lib.hid (ha1.cm CR119.out (by omega))
          have BB119 : Hid (Below W.heap.size W y2) := Lib.hid (BB119.out.trans (ha1.below (by omega)))
          clear hc1 ha1
          refine hK.out _ _ (fun h => absurd (by decide) h) (fun _ => ?_)
          clear hK K
          refine doneL (by kernel_rfl) ?_ _
          go_wp2_with fail
          go_meet
          case rel => exact ⟨_, _, rfl, rfl, ZA119, ZB119, CG119, CR119, BB119⟩
        · skip
          refine wp_allocM 89 4 rfl rfl (bL (fun _ => false)) Tryz.allocSet ?_
          have Z10_120 := Lib.hid (Cm.new (w := w116) (T := 89) (cs := bL (fun _ => false)) rfl)
          have t120 : Below w1.heap.size w1 (w116.alloc (.cells (bL (fun _ => false)).toArray 89)) := t116.alloc t116.size _
          have hs120 := t116.size
          have hz120 : w116.heap.size < (w116.alloc (.cells (bL (fun _ => false)).toArray 89)).heap.size := by simp
          have Z11_120 := Lib.hid (Z11_116.out.alloc (.cells (bL (fun _ => false)).toArray 89))
          have hl11_120 := Z11_116.out.lt
          generalize w116.alloc (.cells (bL (fun _ => false)).toArray 89) = w120 at *
          refine hK.out _ _ (fun _ => t120) (fun hHeld => ?_)
          have hHeld := hHeld (by decide)
          clear hK K
          try simp only [Act.put, List.setIfInBounds_toArray, List.set_cons_zero, List.set_cons_succ]
          refine onlyL (i := 9) (by kernel_rfl) rfl (by rfl) (fun K hK => ?_)
          go_simp
          refine (KM2.out _ (B0.out.trans (t120.mono B0.out.size))).mono ?_
          rintro e w121 ⟨rfl, hb121⟩
          have t121 : Below w1.heap.size w1 w121 := t120.trans (hb121.mono t120.size)
          have Z11_121 := Lib.hid (Z11_120.out.all hb121)
          have Z10_121 := Lib.hid (Z10_120.out.all hb121)
          clear hb121
          refine hK.out _ _ (fun _ => t121) (fun hHeld => ?_)
          have hHeld := hHeld (by decide)
          clear hK K
          try simp only [Act.put, List.setIfInBounds_toArray, List.set_cons_zero, List.set_cons_succ]
          have CG122 := Lib.hid (C0.out.all t121)
          have CR122 := Lib.hid (R0.out.all t121)
          have BB122 := Lib.hid (B0.out.trans (t121.mono B0.out.size))
          clear hHeld
          refine onlyL (i := 12) (by kernel_rfl) rfl (by rfl) (fun K hK => ?_)
          refine wp_storeM 89 (.tmp 4) (.tmp 10) rfl rfl w116.heap.size 0 rfl (bL PA) rfl 89 _ Z10_121.out (by rw [bL_len, bL_len]; exact Nat.le_refl _) (by rw [bL_len]; exact Tryz.sizeSet) (fun v hv => bL_one hv) ?_
          intro y1 hc1 ha1
          rw [lay'_all (by rw [bL_len, bL_len])] at hc1
          have ZA122 := Lib.hid hc1
          have ZB122 := Lib.hid (ha1.cm Z11_121.out (by omega))
          have CG122 := Lib.hid (ha1.cm CG122.out (by omega))
          have CR122 := Lib.hid (ha1.cm CR122.out (by omega))
          have BB122 : Hid (Below W.heap.size W y1) := Lib.hid (BB122.out.trans (ha1.below (by omega)))
          clear hc1 ha1
          refine hK.out _ _ (fun h => absurd (by decide) h) (fun _ => ?_)
          clear hK K
          try simp only [Act.put, List.setIfInBounds_toArray, List.set_cons_zero, List.set_cons_succ]
          refine onlyL (i := 13) (by kernel_rfl) rfl (by rfl) (fun K hK => ?_)
          refine wp_storeM 89 (.tmp 5) (.tmp 15) rfl rfl w101.heap.size 0 rfl (bL PB) rfl 89 _ ZB122.out (by rw [bL_len, bL_len]; exact Nat.le_refl _) (by rw [bL_len]; exact Tryz.sizeSet) (fun v hv => bL_one hv) ?_
          intro y2 hc1 ha1
          rw [lay'_all (by rw [bL_len, bL_len])] at hc1
          have ZB122 := Lib.hid hc1
          have ZA122 := Lib.hid (ha1.cm ZA122.out (by omega))
          have CG122 := Lib.hid (ha1.cm CG122.out (by omega))
          have CR122 := Lib.hid (ha1.cm CR122.out (by omega))
          have BB122 : Hid (Below W.heap.size W y2) := Lib.hid (BB122.out.trans (ha1.below (by omega)))
          clear hc1 ha1
          refine hK.out _ _ (fun h => absurd (by decide) h) (fun _ => ?_)
          clear hK K
          refine doneL (by kernel_rfl) ?_ _
          go_wp2_with fail
          go_meet
          case rel => exact ⟨_, _, rfl, rfl, ZA122, ZB122, CG122, CR122, BB122⟩
    · skip
      refine wp_allocM 89 4 rfl rfl (bL (fun _ => false)) Tryz.allocSet ?_
      have Z10_123 := Lib.hid (Cm.new (w := wd) (T := 89) (cs := bL (fun _ => false)) rfl)
      have t123 : Below w1.heap.size w1 (wd.alloc (.cells (bL (fun _ => false)).toArray 89)) := hHeld.alloc hHeld.size _
      have hs123 := hHeld.size
      have hz123 : wd.heap.size < (wd.alloc (.cells (bL (fun _ => false)).toArray 89)).heap.size := by simp
      generalize wd.alloc (.cells (bL (fun _ => false)).toArray 89) = w123 at *
      refine hK.out _ _ (fun _ => t123) (fun hHeld => ?_)
      have hHeld := hHeld (by decide)
      clear hK K
      try simp only [Act.put, List.setIfInBounds_toArray, List.set_cons_zero, List.set_cons_succ]
      refine twoL (i := 4) (j := 11) (by kernel_rfl) rfl rfl (by rfl) (by rfl) (fun K hK => ?_) (fun K hK => ?_)
      · skip
        go_simp
        refine (KM1.out _ (B0.out.trans (t123.mono B0.out.size))).mono ?_
        rintro e w124 ⟨rfl, hb124⟩
        have t124 : Below w1.heap.size w1 w124 := t123.trans (hb124.mono t123.size)
        have Z10_124 := Lib.hid (Z10_123.out.all hb124)
        clear hb124
        refine hK.out _ _ (fun _ => t124) (fun hHeld => ?_)
        have hHeld := hHeld (by decide)
        clear hK K
        try simp only [Act.put, List.setIfInBounds_toArray, List.set_cons_zero, List.set_cons_succ]
        refine twoL (i := 9) (j := 11) (by kernel_rfl) rfl rfl (by rfl) (by rfl) (fun K hK => ?_) (fun K hK => ?_)
        · skip
          go_simp
          refine (KM2.out _ (B0.out.trans (t124.mono B0.out.size))).mono ?_
          rintro e w125 ⟨rfl, hb125⟩
          have t125 : Below w1.heap.size w1 w125 := t124.trans (hb125.mono t124.size)
          have Z10_125 := Lib.hid (Z10_124.out.all hb125)
          clear hb125
          refine hK.out _ _ (fun _ => t125) (fun hHeld => ?_)
          have hHeld := hHeld (by decide)
          clear hK K
          try simp only [Act.put, List.setIfInBounds_toArray, List.set_cons_zero, List.set_cons_succ]
          refine onlyL (i := 11) (by kernel_rfl) rfl (by rfl) (fun K hK => ?_)
          refine wp_allocM 89 5 rfl rfl (bL (fun _ => false)) Tryz.allocSet ?_
          have Z11_126 := Lib.hid (Cm.new (w := w125) (T := 89) (cs := bL (fun _ => false)) rfl)
          have t126 : Below w1.heap.size w1 (w125.alloc (.cells (bL (fun _ => false)).toArray 89)) := t125.alloc t125.size _
          have hs126 := t125.size
          have hz126 : w125.heap.size < (w125.alloc (.cells (bL (fun _ => false)).toArray 89)).heap.size := by simp
          have Z10_126 := Lib.hid (Z10_125.out.alloc (.cells (bL (fun _ => false)).toArray 89))
          have hl10_126 := Z10_125.out.lt
          generalize w125.alloc (.cells (bL (fun _ => false)).toArray 89) = w126 at *
          refine hK.out _ _ (fun _ => t126) (fun hHeld => ?_)
          have hHeld := hHeld (by decide)
          clear hK K
          try simp only [Act.put, List.setIfInBounds_toArray, List.set_cons_zero, List.set_cons_succ]
          have CG127 := Lib.hid (C0.out.all t126)
          have CR127 := Lib.hid (R0.out.all t126)
          have BB127 := Lib.hid (B0.out.trans (t126.mono B0.out.size))
          clear hHeld
          refine onlyL (i := 12) (by kernel_rfl) rfl (by rfl) (fun K hK => ?_)
          refine wp_storeM 89 (.tmp 4) (.tmp 10) rfl rfl wd.heap.size 0 rfl (bL PA) rfl 89 _ Z10_126.out (by rw [bL_len, bL_len]; exact Nat.le_refl _) (by rw [bL_len]; exact Tryz.sizeSet) (fun v hv => bL_one hv) ?_
          intro y1 hc1 ha1
          rw [lay'_all (by rw [bL_len, bL_len])] at hc1
          have ZA127 := Lib.hid hc1
          have ZB127 := Lib.hid (ha1.cm Z11_126.out (by omega))
          have CG127 := Lib.hid (ha1.cm CG127.out (by omega))
          have CR127 := Lib.hid (ha1.cm CR127.out (by omega))
          have BB127 : Hid (Below W.heap.size W y1) := Lib.hid (BB127.out.trans (ha1.below (by omega)))
          clear hc1 ha1
          refine hK.out _ _ (fun h => absurd (by decide) h) (fun _ => ?_)
          clear hK K
          try simp only [Act.put, List.setIfInBounds_toArray, List.set_cons_zero, List.set_cons_succ]
          refine onlyL (i := 13) (by kernel_rfl) rfl (by rfl) (fun K hK => ?_)
          refine wp_storeM 89 (.tmp 5) (.tmp 15) rfl rfl w125.heap.size 0 rfl (bL PB) rfl 89 _ ZB127.out (by rw [bL_len, bL_len]; exact Nat.le_refl _) (by rw [bL_len]; exact Tryz.sizeSet) (fun v hv => bL_one hv) ?_
          intro y2 hc1 ha1
          rw [lay'_all (by rw [bL_len, bL_len])] at hc1
          have ZB127 := Lib.hid hc1
          have ZA127 := Lib.hid (ha1.cm ZA127.out (by omega))
          have CG127 := Lib.hid (ha1.cm CG127.out (by omega))
          have CR127 := Lib.hid (ha1.cm CR127.out (by omega))
          have BB127 : Hid (Below W.heap.size W y2) := Lib.hid (BB127.out.trans (ha1.below (by omega)))
          clear hc1 ha1
          refine hK.out _ _ (fun h => absurd (by decide) h) (fun _ => ?_)
          clear hK K
          refine doneL (by kernel_rfl) ?_ _
          go_wp2_with fail
          go_meet
          case rel => exact ⟨_, _, rfl, rfl, ZA127, ZB127, CG127, CR127, BB127⟩
        · skip
          refine wp_allocM 89 5 rfl rfl (bL (fun _ => false)) Tryz.allocSet ?_
          have Z11_128 := Lib.hid (Cm.new (w := w124) (T := 89) (cs := bL (fun _ => false)) rfl)
          have t128 : Below w1.heap.size w1 (w124.alloc (.cells (bL (fun _ => false)).toArray 89)) := t124.alloc t124.size _
          have hs128 := t124.size
          have hz128 : w124.heap.size < (w124.alloc (.cells (bL (fun _ => false)).toArray 89)).heap.size := by simp
          have Z10_128 := Lib.hid (Z10_124.out.alloc (.cells (bL (fun _ => false)).toArray 89))
          have hl10_128 := Z10_124.out.lt
          generalize w124.alloc (.cells (bL (fun _ => false)).toArray 89) = w128 at *
          refine hK.out _ _ (fun _ => t128) (fun hHeld => ?_)
          have hHeld := hHeld (by decide)
          clear hK K
          try simp only [Act.put, List.setIfInBounds_toArray, List.set_cons_zero, List.set_cons_succ]
          refine onlyL (i := 9) (by kernel_rfl) rfl (by rfl) (fun K hK => ?_)
          go_simp
          refine (KM2.out _ (B0.out.trans (t128.mono B0.out.size))).mono ?_
          rintro e w129 ⟨rfl, hb129⟩
          have t129 : Below w1.heap.size w1 w129 := t128.trans (hb129.mono t128.size)
          have Z10_129 := Lib.hid (Z10_128.out.all hb129)
          have Z11_129 := Lib.hid (Z11_128.out.all hb129)
          clear hb129
          refine hK.out _ _ (fun _ => t129) (fun hHeld => ?_)
          have hHeld := hHeld (by decide)
          clear hK K
          try simp only [Act.put, List.setIfInBounds_toArray, List.set_cons_zero, List.set_cons_succ]
          have CG130 := Lib.hid (C0.out.all t129)
          have CR130 := Lib.hid (R0.out.all t129)
          have BB130 := Lib.hid (B0.out.trans (t129.mono B0.out.size))
          clear hHeld
          refine onlyL (i := 12) (by kernel_rfl) rfl (by rfl) (fun K hK => ?_)
          refine wp_storeM 89 (.tmp 4) (.tmp 10) rfl rfl wd.heap.size 0 rfl (bL PA) rfl 89 _ Z10_129.out (by rw [bL_len, bL_len]; exact Nat.le_refl _) (by rw [bL_len]; exact Tryz.sizeSet) (fun v hv => bL_one hv) ?_
          intro y1 hc1 ha1
          rw [lay'_all (by rw [bL_len, bL_len])] at hc1
          have ZA130 := Lib.hid hc1
          have ZB130 := Lib.hid (ha1.cm Z11_129.out (by omega))
          have CG130 := Lib.hid (ha1.cm CG130.out (by omega))
          have CR130 := Lib.hid (ha1.cm CR130.out (by omega))
          have BB130 : Hid (Below W.heap.size W y1) := Lib.hid (BB130.out.trans (ha1.below (by omega)))
          clear hc1 ha1
          refine hK.out _ _ (fun h => absurd (by decide) h) (fun _ => ?_)
          clear hK K
          try simp only [Act.put, List.setIfInBounds_toArray, List.set_cons_zero, List.set_cons_succ]
          refine onlyL (i := 13) (by kernel_rfl) rfl (by rfl) (fun K hK => ?_)
          refine wp_storeM 89 (.tmp 5) (.tmp 15) rfl rfl w124.heap.size 0 rfl (bL PB) rfl 89 _ ZB130.out (by rw [bL_len, bL_len]; exact Nat.le_refl _) (by rw [bL_len]; exact Tryz.sizeSet) (fun v hv => bL_one hv) ?_
          intro y2 hc1 ha1
          rw [lay'_all (by rw [bL_len, bL_len])] at hc1
          have ZB130 := Lib.hid hc1
          have ZA130 := Lib.hid (ha1.cm ZA130.out (by omega))
          have CG130 := Lib.hid (ha1.cm CG130.out (by omega))
          have CR130 := Lib.hid (ha1.cm CR130.out (by omega))
          have BB130 : Hid (Below W.heap.size W y2) := Lib.hid (BB130.out.trans (ha1.below (by omega)))
          clear hc1 ha1
          refine hK.out _ _ (fun h => absurd (by decide) h) (fun _ => ?_)
          clear hK K
          refine doneL (by kernel_rfl) ?_ _
          go_wp2_with fail
          go_meet
          case rel => exact ⟨_, _, rfl, rfl, ZA130, ZB130, CG130, CR130, BB130⟩
      · skip
        refine wp_allocM 89 5 rfl rfl (bL (fun _ => false)) Tryz.allocSet ?_
        have Z11_131 := Lib.hid (Cm.new (w := w123) (T := 89) (cs := bL (fun _ => false)) rfl)
        have t131 : Below w1.heap.size w1 (w123.alloc (.cells (bL (fun _ => false)).toArray 89)) := t123.alloc t123.size _
        have hs131 := t123.size
        have hz131 : w123.heap.size < (w123.alloc (.cells (bL (fun _ => false)).toArray 89)).heap.size := by simp
        have Z10_131 := Lib.hid (Z10_123.out.alloc (.cells (bL (fun _ => false)).toArray 89))
        have hl10_131 := Z10_123.out.lt
        generalize w123.alloc (.cells (bL (fun _ => false)).toArray 89) = w131 at *
        refine hK.out _ _ (fun _ => t131) (fun hHeld => ?_)
        have hHeld := hHeld (by decide)
        clear hK K
        try simp only [Act.put, List.setIfInBounds_toArray, List.set_cons_zero, List.set_cons_succ]
        refine onlyL (i := 4) (by kernel_rfl) rfl (by rfl) (fun K hK => ?_)
        go_simp
        refine (KM1.out _ (B0.out.trans (t131.mono B0.out.size))).mono ?_
        rintro e w132 ⟨rfl, hb132⟩
        have t132 : Below w1.heap.size w1 w132 := t131.trans (hb132.mono t131.size)
        have Z10_132 := Lib.hid (Z10_131.out.all hb132)
        have Z11_132 := Lib.hid (Z11_131.out.all hb132)
        clear hb132
        refine hK.out _ _ (fun _ => t132) (fun hHeld => ?_)
        have hHeld := hHeld (by decide)
        clear hK K
        try simp only [Act.put, List.setIfInBounds_toArray, List.set_cons_zero, List.set_cons_succ]
        refine onlyL (i := 9) (by kernel_rfl) rfl (by rfl) (fun K hK => ?_)
        go_simp
        refine (KM2.out _ (B0.out.trans (t132.mono B0.out.size))).mono ?_
        rintro e w133 ⟨rfl, hb133⟩
        have t133 : Below w1.heap.size w1 w133 := t132.trans (hb133.mono t132.size)
        have Z10_133 := Lib.hid (Z10_132.out.all hb133)
        have Z11_133 := Lib.hid (Z11_132.out.all hb133)
        clear hb133
        refine hK.out _ _ (fun _ => t133) (fun hHeld => ?_)
        have hHeld := hHeld (by decide)
        clear hK K
        try simp only [Act.put, List.setIfInBounds_toArray, List.set_cons_zero, List.set_cons_succ]
        have CG134 := Lib.hid (C0.out.all t133)
        have CR134 := Lib.hid (R0.out.all t133)
        have BB134 := Lib.hid (B0.out.trans (t133.mono B0.out.size))
        clear hHeld
        refine onlyL (i := 12) (by kernel_rfl) rfl (by rfl) (fun K hK => ?_)
        refine wp_storeM 89 (.tmp 4) (.tmp 10) rfl rfl wd.heap.size 0 rfl (bL PA) rfl 89 _ Z10_133.out (by rw [bL_len, bL_len]; exact Nat.le_refl _) (by rw [bL_len]; exact Tryz.sizeSet) (fun v hv => bL_one hv) ?_
        intro y1 hc1 ha1
        rw [lay'_all (by rw [bL_len, bL_len])] at hc1
        have ZA134 := Lib.hid hc1
        have ZB134 := Lib.hid (ha1.cm Z11_133.out (by omega))
        have CG134 := Lib.hid (ha1.cm CG134.out (by omega))
        have CR134 := Lib.hid (ha1.cm CR134.out (by omega))
        have BB134 : Hid (Below W.heap.size W y1) := Lib.hid (BB134.out.trans (ha1.below (by omega)))
        clear hc1 ha1
        refine hK.out _ _ (fun h => absurd (by decide) h) (fun _ => ?_)
        clear hK K
        try simp only [Act.put, List.setIfInBounds_toArray, List.set_cons_zero, List.set_cons_succ]
        refine onlyL (i := 13) (by kernel_rfl) rfl (by rfl) (fun K hK => ?_)
        refine wp_storeM 89 (.tmp 5) (.tmp 15) rfl rfl w123.heap.size 0 rfl (bL PB) rfl 89 _ ZB134.out (by rw [bL_len, bL_len]; exact Nat.le_refl _) (by rw [bL_len]; exact Tryz.sizeSet) (fun v hv => bL_one hv) ?_
        intro y2 hc1 ha1
        rw [lay'_all (by rw [bL_len, bL_len])] at hc1
        have ZB134 := Lib.hid hc1
        have ZA134 := Lib.hid (ha1.cm ZA134.out (by omega))
        have CG134 := Lib.hid (ha1.cm CG134.out (by omega))
        have CR134 := Lib.hid (ha1.cm CR134.out (by omega))
        have BB134 : Hid (Below W.heap.size W y2) := Lib.hid (BB134.out.trans (ha1.below (by omega)))
        clear hc1 ha1
        refine hK.out _ _ (fun h => absurd (by decide) h) (fun _ => ?_)
        clear hK K
        refine doneL (by kernel_rfl) ?_ _
        go_wp2_with fail
        go_meet
        case rel => exact ⟨_, _, rfl, rfl, ZA134, ZB134, CG134, CR134, BB134⟩
    · skip
      refine wp_allocM 89 5 rfl rfl (bL (fun _ => false)) Tryz.allocSet ?_
      have Z11_135 := Lib.hid (Cm.new (w := wd) (T := 89) (cs := bL (fun _ => false)) rfl)
      have t135 : Below w1.heap.size w1 (wd.alloc (.cells (bL (fun _ => false)).toArray 89)) := hHeld.alloc hHeld.size _
      have hs135 := hHeld.size
      have hz135 : wd.heap.size < (wd.alloc (.cells (bL (fun _ => false)).toArray 89)).heap.size := by simp
      generalize wd.alloc (.cells (bL (fun _ => false)).toArray 89) = w135 at *
      refine hK.out _ _ (fun _ => t135) (fun hHeld => ?_)
      have hHeld := hHeld (by decide)
      clear hK K
      try simp only [Act.put, List.setIfInBounds_toArray, List.set_cons_zero, List.set_cons_succ]
      refine twoL (i := 4) (j := 10) (by kernel_rfl) rfl rfl (by rfl) (by rfl) (fun K hK => ?_) (fun K hK => ?_)
      · skip
        go_simp
        refine (KM1.out _ (B0.out.trans (t135.mono B0.out.size))).mono ?_
        rintro e w136 ⟨rfl, hb136⟩
        have t136 : Below w1.heap.size w1 w136 := t135.trans (hb136.mono t135.size)
        have Z11_136 := Lib.hid (Z11_135.out.all hb136)
        clear hb136
        refine hK.out _ _ (fun _ => t136) (fun hHeld => ?_)
        have hHeld := hHeld (by decide)
        clear hK K
        try simp only [Act.put, List.setIfInBounds_toArray, List.set_cons_zero, List.set_cons_succ]
        refine twoL (i := 9) (j := 10) (by kernel_rfl) rfl rfl (by rfl) (by rfl) (fun K hK => ?_) (fun K hK => ?_)
        · skip
          go_simp
          refine (KM2.out _ (B0.out.trans (t136.mono B0.out.size))).mono ?_
          rintro e w137 ⟨rfl, hb137⟩
          have t137 : Below w1.heap.size w1 w137 := t136.trans (hb137.mono t136.size)
          have Z11_137 := Lib.hid (Z11_136.out.all hb137)
          clear hb137
          refine hK.out _ _ (fun _ => t137) (fun hHeld => ?_)
          have hHeld := hHeld (by decide)
          clear hK K
          try simp only [Act.put, List.setIfInBounds_toArray, List.set_cons_zero, List.set_cons_succ]
          refine onlyL (i := 10) (by kernel_rfl) rfl (by rfl) (fun K hK => ?_)
          refine wp_allocM 89 4 rfl rfl (bL (fun _ => false)) Tryz.allocSet ?_
          have Z10_138 := Lib.hid (Cm.new (w := w137) (T := 89) (cs := bL (fun _ => false)) rfl)
          have t138 : Below w1.heap.size w1 (w137.alloc (.cells (bL (fun _ => false)).toArray 89)) := t137.alloc t137.size _
          have hs138 := t137.size
          have hz138 : w137.heap.size < (w137.alloc (.cells (bL (fun _ => false)).toArray 89)).heap.size := by simp
          have Z11_138 := Lib.hid (Z11_137.out.alloc (.cells (bL (fun _ => false)).toArray 89))
          have hl11_138 := Z11_137.out.lt
          generalize w137.alloc (.cells (bL (fun _ => false)).toArray 89) = w138 at *
          refine hK.out _ _ (fun _ => t138) (fun hHeld => ?_)
          have hHeld := hHeld (by decide)
          clear hK K
          try simp only [Act.put, List.setIfInBounds_toArray, List.set_cons_zero, List.set_cons_succ]
          have CG139 := Lib.hid (C0.out.all t138)
          have CR139 := Lib.hid (R0.out.all t138)
          have BB139 := Lib.hid (B0.out.trans (t138.mono B0.out.size))
          clear hHeld
          refine onlyL (i := 12) (by kernel_rfl) rfl (by rfl) (fun K hK => ?_)
          refine wp_storeM 89 (.tmp 4) (.tmp 10) rfl rfl w137.heap.size 0 rfl (bL PA) rfl 89 _ Z10_138.out (by rw [bL_len, bL_len]; exact Nat.le_refl _) (by rw [bL_len]; exact Tryz.sizeSet) (fun v hv => bL_one hv) ?_
          intro y1 hc1 ha1
          rw [lay'_all (by rw [bL_len, bL_len])] at hc1
          have ZA139 := Lib.hid hc1
          have ZB139 := Lib.hid (ha1.cm Z11_138.out (by omega))
          have CG139 := Lib.hid (ha1.cm CG139.out (by omega))
          have CR139 := Lib.hid (ha1.cm CR139.out (by omega))
          have BB139 : Hid (Below W.heap.size W y1) := Lib.hid (BB139.out.trans (ha1.below (by omega)))
          clear hc1 ha1
          refine hK.out _ _ (fun h => absurd (by decide) h) (fun _ => ?_)
          clear hK K
          try simp only [Act.put, List.setIfInBounds_toArray, List.set_cons_zero, List.set_cons_succ]
          refine onlyL (i := 13) (by kernel_rfl) rfl (by rfl) (fun K hK => ?_)
          refine wp_storeM 89 (.tmp 5) (.tmp 15) rfl rfl wd.heap.size 0 rfl (bL PB) rfl 89 _ ZB139.out (by rw [bL_len, bL_len]; exact Nat.le_refl _) (by rw [bL_len]; exact Tryz.sizeSet) (fun v hv => bL_one hv) ?_
          intro y2 hc1 ha1
          rw [lay'_all (by rw [bL_len, bL_len])] at hc1
          have ZB139 := Lib.hid hc1
          have ZA139 := Lib.hid (ha1.cm ZA139.out (by omega))
          have CG139 := Lib.hid (ha1.cm CG139.out (by omega))
          have CR139 := Lib.hid (ha1.cm CR139.out (by omega))
          have BB139 : Hid (Below W.heap.size W y2) := Lib.hid (BB139.out.trans (ha1.below (by omega)))
          clear hc1 ha1
          refine hK.out _ _ (fun h => absurd (by decide) h) (fun _ => ?_)
          clear hK K
          refine doneL (by kernel_rfl) ?_ _
          go_wp2_with fail
          go_meet
          case rel => exact ⟨_, _, rfl, rfl, ZA139, ZB139, CG139, CR139, BB139⟩
        · skip
          refine wp_allocM 89 4 rfl rfl (bL (fun _ => false)) Tryz.allocSet ?_
          have Z10_140 := Lib.hid (Cm.new (w := w136) (T := 89) (cs := bL (fun _ => false)) rfl)
          have t140 : Below w1.heap.size w1 (w136.alloc (.cells (bL (fun _ => false)).toArray 89)) := t136.alloc t136.size _
          have hs140 := t136.size
          have hz140 : w136.heap.size < (w136.alloc (.cells (bL (fun _ => false)).toArray 89)).heap.size := by simp
          have Z11_140 := Lib.hid (Z11_136.out.alloc (.cells (bL (fun _ => false)).toArray 89))
          have hl11_140 := Z11_136.out.lt
          generalize w136.alloc (.cells (bL (fun _ => false)).toArray 89) = w140 at *
          refine hK.out _ _ (fun _ => t140) (fun hHeld => ?_)
          have hHeld := hHeld (by decide)
          clear hK K
          try simp only [Act.put, List.setIfInBounds_toArray, List.set_cons_zero, List.set_cons_succ]
          refine onlyL (i := 9) (by kernel_rfl) rfl (by rfl) (fun K hK => ?_)
          go_simp
          refine (KM2.out _ (B0.out.trans (t140.mono B0.out.size))).mono ?_
          rintro e w141 ⟨rfl, hb141⟩
          have t141 : Below w1.heap.size w1 w141 := t140.trans (hb141.mono t140.size)
          have Z11_141 := Lib.hid (Z11_140.out.all hb141)
          have Z10_141 := Lib.hid (Z10_140.out.all hb141)
          clear hb141
          refine hK.out _ _ (fun _ => t141) (fun hHeld => ?_)
          have hHeld := hHeld (by decide)
          clear hK K
          try simp only [Act.put, List.setIfInBounds_toArray, List.set_cons_zero, List.set_cons_succ]
          have CG142 := Lib.hid (C0.out.all t141)
          have CR142 := Lib.hid (R0.out.all t141)
          have BB142 := Lib.hid (B0.out.trans (t141.mono B0.out.size))
          clear hHeld
          refine onlyL (i := 12) (by kernel_rfl) rfl (by rfl) (fun K hK => ?_)
          refine wp_storeM 89 (.tmp 4) (.tmp 10) rfl rfl w136.heap.size 0 rfl (bL PA) rfl 89 _ Z10_141.out (by rw [bL_len, bL_len]; exact Nat.le_refl _) (by rw [bL_len]; exact Tryz.sizeSet) (fun v hv => bL_one hv) ?_
          intro y1 hc1 ha1
          rw [lay'_all (by rw [bL_len, bL_len])] at hc1
          have ZA142 := Lib.hid hc1
          have ZB142 := Lib.hid (ha1.cm Z11_141.out (by omega))
          have CG142 := Lib.hid (ha1.cm CG142.out (by omega))
          have CR142 := Lib.hid (ha1.cm CR142.out (by omega))
          have BB142 : Hid (Below W.heap.size W y1) := Lib.hid (BB142.out.trans (ha1.below (by omega)))
          clear hc1 ha1
          refine hK.out _ _ (fun h => absurd (by decide) h) (fun _ => ?_)
          clear hK K
          try simp only [Act.put, List.setIfInBounds_toArray, List.set_cons_zero, List.set_cons_succ]
          refine onlyL (i := 13) (by kernel_rfl) rfl (by rfl) (fun K hK => ?_)
          refine wp_storeM 89 (.tmp 5) (.tmp 15) rfl rfl wd.heap.size 0 rfl (bL PB) rfl 89 _ ZB142.out (by rw [bL_len, bL_len]; exact Nat.le_refl _) (by rw [bL_len]; exact Tryz.sizeSet) (fun v hv => bL_one hv) ?_
          intro y2 hc1 ha1
          rw [lay'_all (by rw [bL_len, bL_len])] at hc1
          have ZB142 := Lib.hid hc1
          have ZA142 := Lib.hid (ha1.cm ZA142.out (by omega))
          have CG142 := Lib.hid (ha1.cm CG142.out (by omega))
          have CR142 := Lib.hid (ha1.cm CR142.out (by omega))
          have BB142 : Hid (Below W.heap.size W y2) := Lib.hid (BB142.out.trans (ha1.below (by omega)))
          clear hc1 ha1
          refine hK.out _ _ (fun h => absurd (by decide) h) (fun _ => ?_)
          clear hK K
          refine doneL (by kernel_rfl) ?_ _
          go_wp2_with fail
          go_meet
          case rel => exact ⟨_, _, rfl, rfl, ZA142, ZB142, CG142, CR142, BB142⟩
      · skip
        refine wp_allocM 89 4 rfl rfl (bL (fun _ => false)) Tryz.allocSet ?_
        have Z10_143 := Lib.hid (Cm.new (w := w135) (T := 89) (cs := bL (fun _ => false)) rfl)
        have t143 : Below w1.heap.size w1 (w135.alloc (.cells (bL (fun _ => false)).toArray 89)) := t135.alloc t135.size _
        have hs143 := t135.size
        have hz143 : w135.heap.size < (w135.alloc (.cells (bL (fun _ => false)).toArray 89)).heap.size := by simp
        have Z11_143 := Lib.hid (Z11_135.out.alloc (.cells (bL (fun _ => false)).toArray 89))
        have hl11_143 := Z11_135.out.lt
        generalize w135.alloc (.cells (bL (fun _ => false)).toArray 89) = w143 at *
        refine hK.out _ _ (fun _ => t143) (fun hHeld => ?_)
        have hHeld := hHeld (by decide)
        clear hK K
        try simp only [Act.put, List.setIfInBounds_toArray, List.set_cons_zero, List.set_cons_succ]
        refine onlyL (i := 4) (by kernel_rfl) rfl (by rfl) (fun K hK => ?_)
        go_simp
        refine (KM1.out _ (B0.out.trans (t143.mono B0.out.size))).mono ?_
        rintro e w144 ⟨rfl, hb144⟩
        have t144 : Below w1.heap.size w1 w144 := t143.trans (hb144.mono t143.size)
        have Z11_144 := Lib.hid (Z11_143.out.all hb144)
        have Z10_144 := Lib.hid (Z10_143.out.all hb144)
        clear hb144
        refine hK.out _ _ (fun _ => t144) (fun hHeld => ?_)
        have hHeld := hHeld (by decide)
        clear hK K
        try simp only [Act.put, List.setIfInBounds_toArray, List.set_cons_zero, List.set_cons_succ]
        refine onlyL (i := 9) (by kernel_rfl) rfl (by rfl) (fun K hK => ?_)
        go_simp
        refine (KM2.out _ (B0.out.trans (t144.mono B0.out.size))).mono ?_
        rintro e w145 ⟨rfl, hb145⟩
        have t145 : Below w1.heap.size w1 w145 := t144.trans (hb145.mono t144.size)
        have Z11_145 := Lib.hid (Z11_144.out.all hb145)
        have Z10_145 := Lib.hid (Z10_144.out.all hb145)
        clear hb145
        refine hK.out _ _ (fun _ => t145) (fun hHeld => ?_)
        have hHeld := hHeld (by decide)
        clear hK K
        try simp only [Act.put, List.setIfInBounds_toArray, List.set_cons_zero, List.set_cons_succ]
        have CG146 := Lib.hid (C0.out.all t145)
        have CR146 := Lib.hid (R0.out.all t145)
        have BB146 := Lib.hid (B0.out.trans (t145.mono B0.out.size))
        clear hHeld
        refine onlyL (i := 12) (by kernel_rfl) rfl (by rfl) (fun K hK => ?_)
        refine wp_storeM 89 (.tmp 4) (.tmp 10) rfl rfl w135.heap.size 0 rfl (bL PA) rfl 89 _ Z10_145.out (by rw [bL_len, bL_len]; exact Nat.le_refl _) (by rw [bL_len]; exact Tryz.sizeSet) (fun v hv => bL_one hv) ?_
        intro y1 hc1 ha1
        rw [lay'_all (by rw [bL_len, bL_len])] at hc1
        have ZA146 := Lib.hid hc1
        have ZB146 := Lib.hid (ha1.cm Z11_145.out (by omega))
        have CG146 := Lib.hid (ha1.cm CG146.out (by omega))
        have CR146 := Lib.hid (ha1.cm CR146.out (by omega))
        have BB146 : Hid (Below W.heap.size W y1) := Lib.hid (BB146.out.trans (ha1.below (by omega)))
        clear hc1 ha1
        refine hK.out _ _ (fun h => absurd (by decide) h) (fun _ => ?_)
        clear hK K
        try simp only [Act.put, List.setIfInBounds_toArray, List.set_cons_zero, List.set_cons_succ]
        refine onlyL (i := 13) (by kernel_rfl) rfl (by rfl) (fun K hK => ?_)
        refine wp_storeM 89 (.tmp 5) (.tmp 15) rfl rfl wd.heap.size 0 rfl (bL PB) rfl 89 _ ZB146.out (by rw [bL_len, bL_len]; exact Nat.le_refl _) (by rw [bL_len]; exact Tryz.sizeSet) (fun v hv => bL_one hv) ?_
        intro y2 hc1 ha1
        rw [lay'_all (by rw [bL_len, bL_len])] at hc1
        have ZB146 := Lib.hid hc1
        have ZA146 := Lib.hid (ha1.cm ZA146.out (by omega))
        have CG146 := Lib.hid (ha1.cm CG146.out (by omega))
        have CR146 := Lib.hid (ha1.cm CR146.out (by omega))
        have BB146 : Hid (Below W.heap.size W y2) := Lib.hid (BB146.out.trans (ha1.below (by omega)))
        clear hc1 ha1
        refine hK.out _ _ (fun h => absurd (by decide) h) (fun _ => ?_)
        clear hK K
        refine doneL (by kernel_rfl) ?_ _
        go_wp2_with fail
        go_meet
        case rel => exact ⟨_, _, rfl, rfl, ZA146, ZB146, CG146, CR146, BB146⟩
  case rest =>
    clear C0 R0 B0 HRG HB1 HV1 HV2 HU KM1 KM2 HB HU1 HU2 hent1 hent2
    obtain ⟨b4, b5, rfl, rfl, Z4, Z5, CC, RR, BB⟩ := hcut
    have tk2 : True := trivial
    have tk3 : True := trivial
    have tk4 : True := trivial
    go_wp2_with
      (first
        | (have _t := tk2; clear _t tk2; refine wpList_loadM rfl 85 _ rfl W.heap.size 0 rfl 85 (ints G) (ints G) CC.out (fun j _ => by rw [Nat.zero_add]) _ Tryz.underlying85 rfl (by rw [HL.out]; exact Tryz.sizeGrid) ?_)
        | (have _t := tk3; clear _t tk3; go_at_call 176; (with_reducible refine (KW.out _ _ (KT.out _ _ _ Z4.out Z5.out)).mono ?_); rintro e w2 ⟨rfl, hb2⟩; have R2 := Lib.hid (RR.out.all hb2); have B2 := Lib.hid (BB.out.trans (hb2.mono BB.out.size)); clear hb2)
        | (have _t := tk4; clear _t tk4; refine wpList_storeM rfl 89 (.tmp 3) (.tmp 18) rfl (W.heap.size + 1) 0 rfl (bL PF) rfl 89 _ R2.out (by rw [bL_len, bL_len]; exact Nat.le_refl _) (by rw [bL_len]; exact Tryz.sizeSet) (fun v hv => bL_one hv) ?_
           intro w5 hc5 ha5
           rw [lay'_all (by rw [bL_len, bL_len])] at hc5
           have R5 := Lib.hid hc5
           have B5 : Hid (Below W.heap.size W w5) := Lib.hid (B2.out.trans (ha5.below (by omega)))
           clear hc5 ha5))
    refine bodyPost_ret (results_mid1 Tryz.results182 _ _ (W.heap.size + 1) (bL PF) _ rfl R5.out.whole Tryz.underlying89 rfl (by rw [bL_len]; exact Tryz.sizeSet)) rfl ?_
    exact ⟨rfl, B5.out⟩
end Go.Proofs.YtodjohdbngbpaaaGreat

/-
  The program's rules for whether and after, as function values. Condition: the grid fits, its facts are numbers from 0 to 15.
-/
namespace Go.Proofs.YtodjohdbngbpaaaGreat
open Go.RowKit Go.WideShapes
open Go Go.Deep
set_option linter.unusedSimpArgs false

set_option maxRecDepth 100000 in
set_option maxHeartbeats 8000000 in
theorem whether_test (w : World) (bg bn bt bf n : Nat) (m : Md) (p q : Nat → Bool) (hg : gok m) (hn : n < 3) (hG : Cm w bg 85 (ints (gM m))) (hN : Cm w bn 3 [.int .i64 n]) (hT : Cm w bt 89 (bL p)) (hF : Cm w bf 89 (bL q)) :
    Test w 188 #[.pointer (some ⟨bg, 0, none⟩), .pointer (some ⟨bn, 0, none⟩), .pointer (some ⟨bt, 0, none⟩), .pointer (some ⟨bf, 0, none⟩)] m.facts.length (fun i => subB (blkB m.blocks m.facts.length n i) p || subB (blkB m.blocks m.facts.length n i) q) := by
  refine ⟨enters_of Tryz.func188 (by kernel_rfl) rfl, fun i hi W hW => ?_⟩
  show Calls Tryz.prog 188 #[.int .i64 i, .pointer (some ⟨bg, 0, none⟩), .pointer (some ⟨bn, 0, none⟩), .pointer (some ⟨bt, 0, none⟩), .pointer (some ⟨bf, 0, none⟩)] W _
  have hn16 := hg.1.1
  have KB := Lib.hid (fun W' => block_any m.facts.length m.blocks.length m.actual m.facts m.blocks hg.1.small hg.1.1 n i hn (by omega) W')
  have HL : Hid ((ints (gM m)).length = 67) := Lib.hid (gM_len hg)
  have CG := Lib.hid (hG.all hW)
  have CN := Lib.hid (hN.all hW)
  have CT := Lib.hid (hT.all hW)
  have CF := Lib.hid (hF.all hW)
  have cn := CN.out.one
  have ht := CT.out.lt
  have hf := CF.out.lt
  obtain ⟨PB, hPB⟩ : ∃ PB, PB = blkB m.blocks m.facts.length n i := ⟨_, rfl⟩
  rw [← hPB] at KB
  have HPB := Lib.hid hPB
  change Hid (∀ W', Calls _ _ #[.agg (ints (gM m)).toArray, _, _] W' _) at KB
  generalize gM m = G at *
  clear hG hN hT hF hW hg hPB CN
  obtain ⟨x, hx⟩ : ∃ x, x = subB PB p := ⟨_, rfl⟩
  have KX := Lib.hid (fun W => isWithin_any PB p W)
  rw [← hx] at KX
  have HX := Lib.hid hx
  clear hx
  cases x with
  | true =>
    go_enter Tryz.func188, Tryz.ntmps188
    have tk1 : True := trivial
    have tk2 : True := trivial
    have tk3 : True := trivial
    have tk4 : True := trivial
    have tk5 : True := trivial
    have tk6 : True := trivial
    have tk7 : True := trivial
    go_wp2_with
      (first
        | (have _t := tk1; clear _t tk1; refine wpList_loadM rfl 85 _ rfl bg 0 rfl 85 (ints G) (ints G) CG.out (fun j _ => by rw [Nat.zero_add]) _ Tryz.underlying85 rfl (by rw [HL.out]; exact Tryz.sizeGrid) ?_)
        | (have _t := tk2; clear _t tk2; go_at_call 186; (with_reducible refine (KB.out _).mono ?_); rintro e w2 ⟨rfl, hb2⟩; have CT := Lib.hid (CT.out.all hb2); have B2 := Lib.hid hb2; have hz2 := hb2.size; clear hb2 cn)
        | (have _t := tk3; clear _t tk3; refine wpList_allocM rfl 89 rfl (bL (fun _ => false)) Tryz.allocSet ?_
           intro w3 hc1 hb1 hs1
           have CZ := Lib.hid hc1
           have CT := Lib.hid (CT.out.all hb1)
           have B3 := Lib.hid (B2.out.trans (hb1.mono B2.out.size))
           clear hc1 hb1 hs1)
        | (have _t := tk4; clear _t tk4; refine wpList_storeM rfl 89 (.tmp 7) (.tmp 11) rfl w2.heap.size 0 rfl (bL PB) rfl 89 _ CZ.out (by rw [bL_len, bL_len]; exact Nat.le_refl _) (by rw [bL_len]; exact Tryz.sizeSet) (fun v hv => bL_one hv) ?_
           intro w4 hc5 ha5
           rw [lay'_all (by rw [bL_len, bL_len])] at hc5
           have CZ := Lib.hid hc5
           have CT := Lib.hid (ha5.cm CT.out (by omega))
           have B4 : Hid (Below W.heap.size W w4) := Lib.hid (B3.out.trans (ha5.below (by omega)))
           clear hc5 ha5)
        | (have _t := tk5; clear _t tk5; refine wpList_loadM rfl 89 _ rfl w2.heap.size 0 rfl 89 (bL PB) (bL PB) CZ.out (fun j _ => by rw [Nat.zero_add]) _ Tryz.underlying89 rfl (by rw [bL_len]; exact Tryz.sizeSet) ?_)
        | (have _t := tk6; clear _t tk6; refine wpList_loadM rfl 89 _ rfl bt 0 rfl 89 (bL p) (bL p) CT.out (fun j _ => by rw [Nat.zero_add]) _ Tryz.underlying89 rfl (by rw [bL_len]; exact Tryz.sizeSet) ?_)
        | (have _t := tk7; clear _t tk7; go_at_call 189; (with_reducible refine (KX.out _).mono ?_); rintro e w5 ⟨rfl, hb2⟩; have B5 := Lib.hid (B4.out.trans (hb2.mono B4.out.size)); clear hb2))
    go_ret
    exact ⟨ret_bool (by rw [← HPB.out, ← HX.out]; rfl), B5.out⟩
  | false =>
    have KY := Lib.hid (fun W => isWithin_any PB q W)
    obtain ⟨y, hy⟩ : ∃ y, y = subB PB q := ⟨_, rfl⟩
    rw [← hy] at KY
    have HY := Lib.hid hy
    clear hy
    go_enter Tryz.func188, Tryz.ntmps188
    have tk8 : True := trivial
    have tk9 : True := trivial
    have tk10 : True := trivial
    have tk11 : True := trivial
    have tk12 : True := trivial
    have tk13 : True := trivial
    have tk14 : True := trivial
    have tk15 : True := trivial
    have tk16 : True := trivial
    have tk17 : True := trivial
    go_wp2_with
      (first
        | (have _t := tk8; clear _t tk8; refine wpList_loadM rfl 85 _ rfl bg 0 rfl 85 (ints G) (ints G) CG.out (fun j _ => by rw [Nat.zero_add]) _ Tryz.underlying85 rfl (by rw [HL.out]; exact Tryz.sizeGrid) ?_)
        | (have _t := tk9; clear _t tk9; go_at_call 186; (with_reducible refine (KB.out _).mono ?_); rintro e w2 ⟨rfl, hb2⟩; have CT := Lib.hid (CT.out.all hb2); have CF := Lib.hid (CF.out.all hb2); have B2 := Lib.hid hb2; have hz2 := hb2.size; clear hb2 cn)
        | (have _t := tk10; clear _t tk10; refine wpList_allocM rfl 89 rfl (bL (fun _ => false)) Tryz.allocSet ?_
           intro w3 hc1 hb1 hs1
           have CZ := Lib.hid hc1
           have CT := Lib.hid (CT.out.all hb1)
           have CF := Lib.hid (CF.out.all hb1)
           have B3 := Lib.hid (B2.out.trans (hb1.mono B2.out.size))
           clear hc1 hb1 hs1)
        | (have _t := tk11; clear _t tk11; refine wpList_storeM rfl 89 (.tmp 7) (.tmp 11) rfl w2.heap.size 0 rfl (bL PB) rfl 89 _ CZ.out (by rw [bL_len, bL_len]; exact Nat.le_refl _) (by rw [bL_len]; exact Tryz.sizeSet) (fun v hv => bL_one hv) ?_
           intro w4 hc5 ha5
           rw [lay'_all (by rw [bL_len, bL_len])] at hc5
           have CZ := Lib.hid hc5
           have CT := Lib.hid (ha5.cm CT.out (by omega))
           have CF := Lib.hid (ha5.cm CF.out (by omega))
           have B4 : Hid (Below W.heap.size W w4) := Lib.hid (B3.out.trans (ha5.below (by omega)))
           clear hc5 ha5)
        | (have _t := tk12; clear _t tk12; refine wpList_loadM rfl 89 _ rfl w2.heap.size 0 rfl 89 (bL PB) (bL PB) CZ.out (fun j _ => by rw [Nat.zero_add]) _ Tryz.underlying89 rfl (by rw [bL_len]; exact Tryz.sizeSet) ?_)
        | (have _t := tk13; clear _t tk13; refine wpList_loadM rfl 89 _ rfl bt 0 rfl 89 (bL p) (bL p) CT.out (fun j _ => by rw [Nat.zero_add]) _ Tryz.underlying89 rfl (by rw [bL_len]; exact Tryz.sizeSet) ?_)
        | (have _t := tk14; clear _t tk14; go_at_call 189; (with_reducible refine (KX.out _).mono ?_); rintro e w5 ⟨rfl, hb2⟩; have CZ := Lib.hid (CZ.out.all hb2); have CF := Lib.hid (CF.out.all hb2); have B5 := Lib.hid (B4.out.trans (hb2.mono B4.out.size)); clear hb2)
        | (have _t := tk15; clear _t tk15; refine wpList_loadMG rfl (by rfl) 89 _ rfl w2.heap.size 0 rfl 89 (bL PB) (bL PB) CZ.out (fun j _ => by rw [Nat.zero_add]) _ Tryz.underlying89 rfl (by rw [bL_len]; exact Tryz.sizeSet) ?_)
        | (have _t := tk16; clear _t tk16; refine wpList_loadMG rfl (by rfl) 89 _ rfl bf 0 rfl 89 (bL q) (bL q) CF.out (fun j _ => by rw [Nat.zero_add]) _ Tryz.underlying89 rfl (by rw [bL_len]; exact Tryz.sizeSet) ?_)
        | (have _t := tk17; clear _t tk17; go_at_call 189; (with_reducible refine (KY.out _).mono ?_); rintro e w6 ⟨rfl, hb2⟩; have B6 := Lib.hid (B5.out.trans (hb2.mono B5.out.size)); clear hb2))
    go_ret
    exact ⟨ret_bool (by rw [← HPB.out, ← HX.out, ← HY.out]; rfl), B6.out⟩

set_option maxRecDepth 100000 in
set_option maxHeartbeats 16000000 in
theorem meanWhether (lo b bn pb po c n : Nat) (u : Value) (a : Tm) (w : World) (hb : Cm w b 183 [.slice (some ⟨pb, po, none⟩) 1 c]) (hN : Cm w bn 3 [.int .i64 n]) (hlb : lo ≤ b) (hln : lo ≤ bn) (hlp : lo ≤ pb) (hn : n < 3) (hu : w.cell? ⟨pb, po, none⟩ = some u) (hM : Mean lo w u a) :
    Mean lo w (.func (.func 187) #[] #[.pointer (some ⟨b, 0, none⟩), .pointer (some ⟨bn, 0, none⟩)]) (.know 6 n a) := by
  refine ⟨_, _, rfl, enters_of Tryz.func187 (by kernel_rfl) rfl, fun m hg W hW => ?_⟩
  show Calls Tryz.prog 187 #[.agg (ints (gM m)).toArray, .pointer (some ⟨b, 0, none⟩), .pointer (some ⟨bn, 0, none⟩)] W _
  obtain ⟨k1, caps1, rfl, hen1, hM1⟩ := hM
  have hbl := hb.lt
  have hpl : pb < w.heap.size := World.block_lt_of_cell? _ _ hu
  have CN := Lib.hid (hN.keeps hW hln hN.lt)
  have HB : Hid (∀ W', Below W.heap.size W W' → W'.cell? ⟨b, 0, none⟩ = some (.slice (some ⟨pb, po, none⟩) 1 c)) := Lib.hid (fun W' h => ((hb.keeps hW hlb hbl).all h).one)
  have HU1 : Hid (∀ W', Below W.heap.size W W' → W'.cell? ⟨pb, po, none⟩ = some (.func (.func k1) #[] caps1)) := Lib.hid (fun W' h => cell_keeps hu (hW.at h) hlp hpl)
  have KM1 := Lib.hid (fun W' (h : Below W.heap.size W W') => hM1 m hg W' (hW.at h))
  have KO := Lib.hid (fun W' => others_any m.facts.length m.blocks.length m.actual m.facts m.blocks hg.1.small hg.1.1 (evI a m) W')
  have KW := Lib.hid (fun caps W' h => where_any m.facts.length m.blocks.length m.actual m.facts m.blocks hg.1.small hg.1.1 188 caps (fun i => subB (blkB m.blocks m.facts.length n i) (evI a m) || subB (blkB m.blocks m.facts.length n i) (cut m.facts.length fun i => !evI a m i)) W' h)
  have KT := Lib.hid (fun W' bg bt bf h1 h2 h3 h4 => whether_test W' bg bn bt bf n m (evI a m) (cut m.facts.length fun i => !evI a m i) hg hn h1 h2 h3 h4)
  have HL : Hid ((ints (gM m)).length = 67) := Lib.hid (gM_len hg)
  have HEV : Hid (evI (.know 6 n a) m = cut m.facts.length fun i => subB (blkB m.blocks m.facts.length n i) (evI a m) || subB (blkB m.blocks m.facts.length n i) (cut m.facts.length fun i => !evI a m i)) := Lib.hid (by simp only [evI]; rw [if_pos trivial]; rfl)
  rw [HEV.out]
  generalize hPF : (cut m.facts.length fun i => subB (blkB m.blocks m.facts.length n i) (evI a m) || subB (blkB m.blocks m.facts.length n i) (cut m.facts.length fun i => !evI a m i)) = PF at *
  change Hid (∀ caps W', _ → Calls _ _ #[.agg (ints (gM m)).toArray, _] W' _) at KW
  change Hid (∀ W', Calls _ _ #[.agg (ints (gM m)).toArray, _] W' _) at KO
  generalize gM m = G at *
  generalize hPQ : (cut m.facts.length fun i => !evI a m i) = PQ at *
  generalize evI a m = PA at *
  have hent1 : ∀ args w, (callFunc k1 args).run Tryz.prog w = .ok (.enter k1 args) w := hen1
  have hmf : ∀ (fn : Fn) (first cap : Array Value) (w : World), (Instr.makeFunc fn first cap).run Tryz.prog w = .ok (.func fn first cap) w := fun _ _ _ _ => rfl
  clear hb hN hu hM1 hW hg HEV hPF hPQ hen1
  go_enter Tryz.func187, Tryz.ntmps187
  have tk18 : True := trivial
  go_wp2_with
    (first
      | (have _t := tk18; clear _t tk18; refine wpList_allocM rfl 89 rfl (bL (fun _ => false)) Tryz.allocSet ?_
         intro w1 hc1 hb1 hs1
         have hzz : (W.alloc (.cells (ints G).toArray 85)).heap.size = W.heap.size + 1 := by simp
         rw [hzz] at hc1 ⊢
         have C0 : Hid (Cm w1 W.heap.size 85 (ints G)) := Lib.hid (Cm.all (Cm.new rfl) hb1)
         have R0 : Hid (Cm w1 (W.heap.size + 1) 89 (bL (fun _ => false))) := Lib.hid hc1
         have B0 : Hid (Below W.heap.size W w1) := Lib.hid (Below.trans (by go_grown) (hb1.mono (by simp)))
         have hq1 : W.heap.size + 1 < w1.heap.size := R0.out.lt
         clear hc1 hb1 hs1 hzz))
  have HRG : Hid (∀ W', Below w1.heap.size w1 W' → W'.rangeAt W.heap.size 0 (ints G)) := Lib.hid (fun W' h => (C0.out.all h).whole)
  have HB1 : Hid (∀ W', Below w1.heap.size w1 W' → W'.cell? ⟨b, 0, none⟩ = some (.slice (some ⟨pb, po, none⟩) 1 c)) := Lib.hid (fun W' h => HB.out W' (B0.out.trans (h.mono B0.out.size)))
  have HV1 : Hid (∀ W', Below w1.heap.size w1 W' → W'.cell? ⟨pb, po, none⟩ = some (.func (.func k1) #[] caps1)) := Lib.hid (fun W' h => HU1.out W' (B0.out.trans (h.mono B0.out.size)))
  have HU : Tryz.prog.underlying 85 = some _ := Tryz.underlying85
  try simp only [Act.put, List.setIfInBounds_toArray, List.set_cons_zero, List.set_cons_succ]
  go_cut [5] (fun p5 w' => ∃ b5, p5 = .pointer (some ⟨b5, 0, none⟩) ∧ Hid (Cm w' b5 89 (bL PA)) ∧ Hid (Cm w' W.heap.size 85 (ints G)) ∧ Hid (Cm w' (W.heap.size + 1) 89 (bL (fun _ => false))) ∧ Hid (Below W.heap.size W w') ∧ W.heap.size + 1 < b5)
  case first =>
    refine regionL (fun W => Below w1.heap.size w1 W) [6] (by kernel_rfl) (Below.refl _ _).drew (fun hHeld => ?_)
    refine takeA (i := 0) (v := .slice (some ⟨pb, po, none⟩) 1 c) 7 rfl rfl (by kernel_rfl) (by kernel_rfl) (by kernel_rfl) (by kernel_rfl) (fun _ _ _ h => h) (Or.inl ⟨by rfl, by intro W hSw; have c1 := HB1.out _ hSw; go_simp⟩) hHeld ?_
    simp only [Act.put, List.setIfInBounds_toArray, List.set_cons_zero, List.set_cons_succ]
    refine takeA (i := 1) (v := .pointer (some ⟨pb, po, none⟩)) 8 rfl rfl (by kernel_rfl) (by kernel_rfl) (by kernel_rfl) (by kernel_rfl) (fun _ _ _ h => h) (Or.inl ⟨by rfl, by intro W hSw; go_simp⟩) hHeld ?_
    simp only [Act.put, List.setIfInBounds_toArray, List.set_cons_zero, List.set_cons_succ]
    refine takeA (i := 2) (v := .func (.func k1) #[] caps1) 9 rfl rfl (by kernel_rfl) (by kernel_rfl) (by kernel_rfl) (by kernel_rfl) (fun _ _ _ h => h) (Or.inl ⟨by rfl, by intro W hSw; have c1 := HV1.out _ hSw; go_simp⟩) hHeld ?_
    simp only [Act.put, List.setIfInBounds_toArray, List.set_cons_zero, List.set_cons_succ]
    refine takeA (i := 3) (v := .agg (ints G).toArray) 10 rfl rfl (by kernel_rfl) (by kernel_rfl) (by kernel_rfl) (by kernel_rfl) (fun _ _ _ h => h) (yieldsIf_load_mid (by rfl) 85 _ rfl W.heap.size 0 rfl (ints G) _ HRG.out HU rfl (by rw [HL.out]; exact Tryz.sizeGrid)) hHeld ?_
    simp only [Act.put, List.setIfInBounds_toArray, List.set_cons_zero, List.set_cons_succ]
    generalize w1.drew = wd at hHeld ⊢
    refine twoL (i := 4) (j := 5) (by kernel_rfl) rfl rfl (by rfl) (by rfl) (fun K hK => ?_) (fun K hK => ?_)
    · skip
      go_simp
      refine (KM1.out _ (B0.out.trans (hHeld.mono B0.out.size))).mono ?_
      rintro e w101 ⟨rfl, hb101⟩
      have t101 : Below w1.heap.size w1 w101 := hHeld.trans (hb101.mono hHeld.size)
      clear hb101
      refine hK.out _ _ (fun _ => t101) (fun hHeld => ?_)
      have hHeld := hHeld (by decide)
      clear hK K
      try simp only [Act.put, List.setIfInBounds_toArray, List.set_cons_zero, List.set_cons_succ]
      refine onlyL (i := 5) (by kernel_rfl) rfl (by rfl) (fun K hK => ?_)
      refine wp_allocM 89 5 rfl rfl (bL (fun _ => false)) Tryz.allocSet ?_
      have Z5_102 := Lib.hid (Cm.new (w := w101) (T := 89) (cs := bL (fun _ => false)) rfl)
      have t102 : Below w1.heap.size w1 (w101.alloc (.cells (bL (fun _ => false)).toArray 89)) := t101.alloc t101.size _
      have hs102 := t101.size
      have hz102 : w101.heap.size < (w101.alloc (.cells (bL (fun _ => false)).toArray 89)).heap.size := by simp
      generalize w101.alloc (.cells (bL (fun _ => false)).toArray 89) = w102 at *
      refine hK.out _ _ (fun _ => t102) (fun hHeld => ?_)
      have hHeld := hHeld (by decide)
      clear hK K
      try simp only [Act.put, List.setIfInBounds_toArray, List.set_cons_zero, List.set_cons_succ]
      have CG103 := Lib.hid (C0.out.all t102)
      have CR103 := Lib.hid (R0.out.all t102)
      have BB103 := Lib.hid (B0.out.trans (t102.mono B0.out.size))
      clear hHeld
      refine onlyL (i := 6) (by kernel_rfl) rfl (by rfl) (fun K hK => ?_)
      refine wp_storeM 89 (.tmp 5) (.tmp 11) rfl rfl w101.heap.size 0 rfl (bL PA) rfl 89 _ Z5_102.out (by rw [bL_len, bL_len]; exact Nat.le_refl _) (by rw [bL_len]; exact Tryz.sizeSet) (fun v hv => bL_one hv) ?_
      intro y1 hc1 ha1
      rw [lay'_all (by rw [bL_len, bL_len])] at hc1
      have ZA103 := Lib.hid hc1
      have CG103 := Lib.hid (ha1.cm CG103.out (by omega))
      have CR103 := Lib.hid (ha1.cm CR103.out (by omega))
      have BB103 : Hid (Below W.heap.size W y1) := Lib.hid (BB103.out.trans (ha1.below (by omega)))
      clear hc1 ha1
      refine hK.out _ _ (fun h => absurd (by decide) h) (fun _ => ?_)
      clear hK K
      refine doneL (by kernel_rfl) ?_ _
      go_wp2_with fail
      go_meet
      case rel => exact ⟨_, rfl, ZA103, CG103, CR103, BB103, by omega⟩
    · skip
      refine wp_allocM 89 5 rfl rfl (bL (fun _ => false)) Tryz.allocSet ?_
      have Z5_104 := Lib.hid (Cm.new (w := wd) (T := 89) (cs := bL (fun _ => false)) rfl)
      have t104 : Below w1.heap.size w1 (wd.alloc (.cells (bL (fun _ => false)).toArray 89)) := hHeld.alloc hHeld.size _
      have hs104 := hHeld.size
      have hz104 : wd.heap.size < (wd.alloc (.cells (bL (fun _ => false)).toArray 89)).heap.size := by simp
      generalize wd.alloc (.cells (bL (fun _ => false)).toArray 89) = w104 at *
      refine hK.out _ _ (fun _ => t104) (fun hHeld => ?_)
      have hHeld := hHeld (by decide)
      clear hK K
      try simp only [Act.put, List.setIfInBounds_toArray, List.set_cons_zero, List.set_cons_succ]
      refine onlyL (i := 4) (by kernel_rfl) rfl (by rfl) (fun K hK => ?_)
      go_simp
      refine (KM1.out _ (B0.out.trans (t104.mono B0.out.size))).mono ?_
      rintro e w105 ⟨rfl, hb105⟩
      have t105 : Below w1.heap.size w1 w105 := t104.trans (hb105.mono t104.size)
      have Z5_105 := Lib.hid (Z5_104.out.all hb105)
      clear hb105
      refine hK.out _ _ (fun _ => t105) (fun hHeld => ?_)
      have hHeld := hHeld (by decide)
      clear hK K
      try simp only [Act.put, List.setIfInBounds_toArray, List.set_cons_zero, List.set_cons_succ]
      have CG106 := Lib.hid (C0.out.all t105)
      have CR106 := Lib.hid (R0.out.all t105)
      have BB106 := Lib.hid (B0.out.trans (t105.mono B0.out.size))
      clear hHeld
      refine onlyL (i := 6) (by kernel_rfl) rfl (by rfl) (fun K hK => ?_)
      refine wp_storeM 89 (.tmp 5) (.tmp 11) rfl rfl wd.heap.size 0 rfl (bL PA) rfl 89 _ Z5_105.out (by rw [bL_len, bL_len]; exact Nat.le_refl _) (by rw [bL_len]; exact Tryz.sizeSet) (fun v hv => bL_one hv) ?_
      intro y1 hc1 ha1
      rw [lay'_all (by rw [bL_len, bL_len])] at hc1
      have ZA106 := Lib.hid hc1
      have CG106 := Lib.hid (ha1.cm CG106.out (by omega))
      have CR106 := Lib.hid (ha1.cm CR106.out (by omega))
      have BB106 : Hid (Below W.heap.size W y1) := Lib.hid (BB106.out.trans (ha1.below (by omega)))
      clear hc1 ha1
      refine hK.out _ _ (fun h => absurd (by decide) h) (fun _ => ?_)
      clear hK K
      refine doneL (by kernel_rfl) ?_ _
      go_wp2_with fail
      go_meet
      case rel => exact ⟨_, rfl, ZA106, CG106, CR106, BB106, by omega⟩
  case rest =>
    clear C0 R0 B0 HRG HB1 HV1 HU KM1 HB HU1 hent1
    obtain ⟨b5, rfl, T5, CC, RR, BB, hb5⟩ := hcut
    have tk19 : True := trivial
    have tk20 : True := trivial
    have tk21 : True := trivial
    have tk22 : True := trivial
    have tk23 : True := trivial
    have tk24 : True := trivial
    have tk25 : True := trivial
    have tk26 : True := trivial
    go_wp2_with
      (first
        | (have _t := tk19; clear _t tk19; refine wpList_loadM rfl 85 _ rfl W.heap.size 0 rfl 85 (ints G) (ints G) CC.out (fun j _ => by rw [Nat.zero_add]) _ Tryz.underlying85 rfl (by rw [HL.out]; exact Tryz.sizeGrid) ?_)
        | (have _t := tk20; clear _t tk20; refine wpList_loadM rfl 89 _ rfl b5 0 rfl 89 (bL PA) (bL PA) T5.out (fun j _ => by rw [Nat.zero_add]) _ Tryz.underlying89 rfl (by rw [bL_len]; exact Tryz.sizeSet) ?_)
        | (have _t := tk21; clear _t tk21; go_at_call 181; (with_reducible refine (KO.out _).mono ?_); rintro e w2 ⟨rfl, hb2⟩; have T5 := Lib.hid (T5.out.all hb2); have lt_T5_w2 := T5.out.lt; have CC := Lib.hid (CC.out.all hb2); have lt_CC_w2 := CC.out.lt; have RR := Lib.hid (RR.out.all hb2); have lt_RR_w2 := RR.out.lt; have BB := Lib.hid (BB.out.trans (hb2.mono BB.out.size)); have le_w2 := BB.out.size; clear hb2)
        | (have _t := tk22; clear _t tk22; refine wpList_allocM rfl 89 rfl (bL (fun _ => false)) Tryz.allocSet ?_
           intro w3 hc1 hb1 hs1
           have F6 := Lib.hid hc1
           have T5 := Lib.hid (T5.out.all hb1)
           have lt_T5_w3 := T5.out.lt
           have CC := Lib.hid (CC.out.all hb1)
           have lt_CC_w3 := CC.out.lt
           have RR := Lib.hid (RR.out.all hb1)
           have lt_RR_w3 := RR.out.lt
           have BB := Lib.hid (BB.out.trans (hb1.mono BB.out.size))
           have le_w3 := BB.out.size
           clear hc1 hb1 hs1)
        | (have _t := tk23; clear _t tk23; refine wpList_storeM rfl 89 (.tmp 6) (.tmp 14) rfl w2.heap.size 0 rfl (bL PQ) rfl 89 _ F6.out (by rw [bL_len, bL_len]; exact Nat.le_refl _) (by rw [bL_len]; exact Tryz.sizeSet) (fun v hv => bL_one hv) ?_
           intro w4 hc5 ha5
           rw [lay'_all (by rw [bL_len, bL_len])] at hc5
           have F6 := Lib.hid hc5
           have T5 := Lib.hid (ha5.cm T5.out (by omega))
           have CC := Lib.hid (ha5.cm CC.out (by omega))
           have RR := Lib.hid (ha5.cm RR.out (by omega))
           have BB : Hid (Below W.heap.size W w4) := Lib.hid (BB.out.trans (ha5.below (by omega)))
           clear hc5 ha5)
        | (have _t := tk24; clear _t tk24; refine wpList_loadM rfl 85 _ rfl W.heap.size 0 rfl 85 (ints G) (ints G) CC.out (fun j _ => by rw [Nat.zero_add]) _ Tryz.underlying85 rfl (by rw [HL.out]; exact Tryz.sizeGrid) ?_)
        | (have _t := tk25; clear _t tk25; go_at_call 176; (with_reducible refine (KW.out _ _ (KT.out _ _ _ _ CC.out (CN.out.all BB.out) T5.out F6.out)).mono ?_); rintro e w6 ⟨rfl, hb2⟩; have RR := Lib.hid (RR.out.all hb2); have lt_RR_w6 := RR.out.lt; have BB := Lib.hid (BB.out.trans (hb2.mono BB.out.size)); have le_w6 := BB.out.size; clear hb2)
        | (have _t := tk26; clear _t tk26; refine wpList_storeM rfl 89 (.tmp 4) (.tmp 17) rfl (W.heap.size + 1) 0 rfl (bL PF) rfl 89 _ RR.out (by rw [bL_len, bL_len]; exact Nat.le_refl _) (by rw [bL_len]; exact Tryz.sizeSet) (fun v hv => bL_one hv) ?_
           intro w7 hc5 ha5
           rw [lay'_all (by rw [bL_len, bL_len])] at hc5
           have R5 := Lib.hid hc5
           have BB : Hid (Below W.heap.size W w7) := Lib.hid (BB.out.trans (ha5.below (by omega)))
           clear hc5 ha5))
    refine bodyPost_ret (results_mid1 Tryz.results187 _ _ (W.heap.size + 1) (bL PF) _ rfl R5.out.whole Tryz.underlying89 rfl (by rw [bL_len]; exact Tryz.sizeSet)) rfl ?_
    exact ⟨rfl, BB.out⟩
  

theorem fits_rest {m : Md} (h : fits m) (us : List Nat) (hl : us.length ≤ 16) : fits (restM m us) := by
  obtain ⟨h1, h2, h3⟩ := h
  unfold restM
  refine ⟨by rw [pick_len]; exact hl, by rw [List.length_map, rawRows_len]; exact h2, fun k hk => ?_⟩
  simp only [List.length_map, rawRows_len] at hk
  rw [pick_len, List.getD_eq_getElem?_getD, List.getElem?_map]
  have := rawRows_get m us hk
  rw [List.getD_eq_getElem?_getD] at this
  rw [List.getElem?_eq_getElem (by rw [rawRows_len]; exact hk)] at this ⊢
  simp only [Option.map_some, Option.getD_some] at this ⊢
  rw [num_len, this, pick_len]
theorem gok_rest {m : Md} (h : gok m) (us : List Nat) (hl : us.length ≤ 16) (hu : ∀ i ∈ us, i < m.facts.length) : gok (restM m us) := by
  obtain ⟨h1, h2, h3⟩ := h
  refine ⟨fits_rest h1 us hl, by simp [restM, rawRows_len]; exact h2, fun j hj => ?_⟩
  have hj' : j < us.length := by simpa [restM, pick_len] using hj
  have e : (restM m us).facts.getD j 0 = m.facts.getD (us.getD j 0) 0 := by
    unfold restM pick
    simp only
    rw [List.getD_eq_getElem?_getD, List.getElem?_map, List.getElem?_eq_getElem hj', List.getD_eq_getElem?_getD (l := us), List.getElem?_eq_getElem hj']; rfl
  rw [e]
  exact h3 _ (hu _ (getD_memN hj'))
theorem gM_rest (m : Md) (us : List Nat) : gL us.length m.blocks.length (restM m us).facts (restM m us).blocks (restM m us).actual = gM (restM m us) := by
  unfold gM
  rw [show (restM m us).facts.length = us.length by simp [restM, pick_len], show (restM m us).blocks.length = m.blocks.length by simp [restM, rawRows_len]]

set_option maxRecDepth 100000 in
set_option maxHeartbeats 32000000 in
theorem meanAfter (lo b pb po c : Nat) (u1 u2 : Value) (x y : Tm) (w : World) (hb : Cm w b 183 [.slice (some ⟨pb, po, none⟩) 2 c]) (hlb : lo ≤ b) (hlp : lo ≤ pb) (hu1 : w.cell? ⟨pb, po, none⟩ = some u1) (hu2 : w.cell? ⟨pb, po + 1, none⟩ = some u2) (hM1 : Mean lo w u1 x) (hM2 : Mean lo w u2 y) :
    Mean lo w (.func (.func 192) #[] #[.pointer (some ⟨b, 0, none⟩)]) (.joint 9 x y) := by
  refine ⟨_, _, rfl, enters_of Tryz.func192 (by kernel_rfl) rfl, fun m hg W hW => ?_⟩
  show Calls Tryz.prog 192 #[.agg (ints (gM m)).toArray, .pointer (some ⟨b, 0, none⟩)] W _
  obtain ⟨k1, caps1, rfl, hen1, hM1⟩ := hM1
  obtain ⟨k2, caps2, rfl, hen2, hM2⟩ := hM2
  have hbl := hb.lt
  have hpl : pb < w.heap.size := World.block_lt_of_cell? _ _ hu1
  have hPin : ∀ i, evI x m i = true → i < m.facts.length := fun i h => evI_in x m i hg.1.1 h
  have HB : Hid (∀ W', Below W.heap.size W W' → W'.cell? ⟨b, 0, none⟩ = some (.slice (some ⟨pb, po, none⟩) 2 c)) := Lib.hid (fun W' h => ((hb.keeps hW hlb hbl).all h).one)
  have HU1 : Hid (∀ W', Below W.heap.size W W' → W'.cell? ⟨pb, po, none⟩ = some (.func (.func k1) #[] caps1)) := Lib.hid (fun W' h => cell_keeps hu1 (hW.at h) hlp hpl)
  have HU2 : Hid (∀ W', Below W.heap.size W W' → W'.cell? ⟨pb, po + 1, none⟩ = some (.func (.func k2) #[] caps2)) := Lib.hid (fun W' h => cell_keeps hu2 (hW.at h) hlp hpl)
  have KM1 := Lib.hid (fun W' (h : Below W.heap.size W W') => hM1 m hg W' (hW.at h))
  have KM2 := Lib.hid (fun W' (h : Below W.heap.size W W') => hM2 (restM m (lst (evI x m) 16)) (gok_rest hg _ (lst_len _ _) (fun i hi => hPin i (mem_lst.1 hi).2)) W' (hW.at h))
  have KR := Lib.hid (fun W' => restrictedF_any m (evI x m) hg.1 hPin W')
  rw [gM_rest] at KR
  have KO := Lib.hid (fun W' => others_any m.facts.length m.blocks.length m.actual m.facts m.blocks hg.1.small hg.1.1 (evI x m) W')
  have KL := Lib.hid (fun W' => setList_any (evI x m) W')
  have HL : Hid ((ints (gM m)).length = 67) := Lib.hid (gM_len hg)
  have HEV : Hid (evI (.joint 9 x y) m = aftB m.facts.length (evI x m) (evI y (restM m (lst (evI x m) 16)))) := Lib.hid (by simp only [evI]; rw [if_neg (by decide)])
  rw [HEV.out]
  change Hid (∀ W', Calls _ _ #[.agg (ints (gM m)).toArray, _] W' _) at KO
  change Hid (∀ W', Calls _ _ #[.agg (ints (gM m)).toArray, _] W' _) at KR
  generalize gM (restM m (lst (evI x m) 16)) = G2 at *
  generalize evI y (restM m (lst (evI x m) 16)) = PB at *
  generalize gM m = G at *
  generalize evI x m = PA at *
  have hwl := lst_len PA 16
  have HK0 := Lib.hid (aftK_0 m.facts.length PA PB)
  have HKU := Lib.hid (fun k hk => aftK_upd (n := m.facts.length) (p := PA) (q := PB) (k := k) hk)
  have HKE := Lib.hid (fun k hk => aftK_end (n := m.facts.length) (p := PA) (q := PB) (k := k) hk)
  have HRK := Lib.hid (fun k hk => (rank_lst (p := PA) (k := k) hk).2.1)
  rw [← HK0.out] at KO
  have hent1 : ∀ args w, (callFunc k1 args).run Tryz.prog w = .ok (.enter k1 args) w := hen1
  have hent2 : ∀ args w, (callFunc k2 args).run Tryz.prog w = .ok (.enter k2 args) w := hen2
  generalize lst PA 16 = ws at *
  clear hb hu1 hu2 hM1 hM2 hW hg HEV hen1 hen2 hPin HK0
  go_enter Tryz.func192, Tryz.ntmps192
  have tk27 : True := trivial
  go_wp2_with
    (first
      | (have _t := tk27; clear _t tk27; refine wpList_allocM rfl 89 rfl (bL (fun _ => false)) Tryz.allocSet ?_
         intro w1 hc1 hb1 hs1
         have hzz : (W.alloc (.cells (ints G).toArray 85)).heap.size = W.heap.size + 1 := by simp
         rw [hzz] at hc1 ⊢
         have C0 : Hid (Cm w1 W.heap.size 85 (ints G)) := Lib.hid (Cm.all (Cm.new rfl) hb1)
         have R0 : Hid (Cm w1 (W.heap.size + 1) 89 (bL (fun _ => false))) := Lib.hid hc1
         have B0 : Hid (Below W.heap.size W w1) := Lib.hid (Below.trans (by go_grown) (hb1.mono (by simp)))
         have hq1 : W.heap.size + 1 < w1.heap.size := R0.out.lt
         clear hc1 hb1 hs1 hzz))
  have HRG : Hid (∀ W', Below w1.heap.size w1 W' → W'.rangeAt W.heap.size 0 (ints G)) := Lib.hid (fun W' h => (C0.out.all h).whole)
  have HB1 : Hid (∀ W', Below w1.heap.size w1 W' → W'.cell? ⟨b, 0, none⟩ = some (.slice (some ⟨pb, po, none⟩) 2 c)) := Lib.hid (fun W' h => HB.out W' (B0.out.trans (h.mono B0.out.size)))
  have HV1 : Hid (∀ W', Below w1.heap.size w1 W' → W'.cell? ⟨pb, po, none⟩ = some (.func (.func k1) #[] caps1)) := Lib.hid (fun W' h => HU1.out W' (B0.out.trans (h.mono B0.out.size)))
  have HU : Tryz.prog.underlying 85 = some _ := Tryz.underlying85
  have HUS : Tryz.prog.underlying 89 = some _ := Tryz.underlying89
  try simp only [Act.put, List.setIfInBounds_toArray, List.set_cons_zero, List.set_cons_succ]
  go_cut [4] (fun p5 w' => ∃ b5, p5 = .pointer (some ⟨b5, 0, none⟩) ∧ Hid (Cm w' b5 89 (bL PA)) ∧ Hid (Cm w' W.heap.size 85 (ints G)) ∧ Hid (Cm w' (W.heap.size + 1) 89 (bL (fun _ => false))) ∧ Hid (Below W.heap.size W w') ∧ W.heap.size + 1 < b5)
  case first =>
    refine regionL (fun W => Below w1.heap.size w1 W) [6] (by kernel_rfl) (Below.refl _ _).drew (fun hHeld => ?_)
    refine takeA (i := 0) (v := .slice (some ⟨pb, po, none⟩) 2 c) 9 rfl rfl (by kernel_rfl) (by kernel_rfl) (by kernel_rfl) (by kernel_rfl) (fun _ _ _ h => h) (Or.inl ⟨by rfl, by intro W hSw; have c1 := HB1.out _ hSw; go_simp⟩) hHeld ?_
    simp only [Act.put, List.setIfInBounds_toArray, List.set_cons_zero, List.set_cons_succ]
    refine takeA (i := 1) (v := .pointer (some ⟨pb, po, none⟩)) 10 rfl rfl (by kernel_rfl) (by kernel_rfl) (by kernel_rfl) (by kernel_rfl) (fun _ _ _ h => h) (Or.inl ⟨by rfl, by intro W hSw; go_simp⟩) hHeld ?_
    simp only [Act.put, List.setIfInBounds_toArray, List.set_cons_zero, List.set_cons_succ]
    refine takeA (i := 2) (v := .func (.func k1) #[] caps1) 11 rfl rfl (by kernel_rfl) (by kernel_rfl) (by kernel_rfl) (by kernel_rfl) (fun _ _ _ h => h) (Or.inl ⟨by rfl, by intro W hSw; have c1 := HV1.out _ hSw; go_simp⟩) hHeld ?_
    simp only [Act.put, List.setIfInBounds_toArray, List.set_cons_zero, List.set_cons_succ]
    refine takeA (i := 3) (v := .agg (ints G).toArray) 12 rfl rfl (by kernel_rfl) (by kernel_rfl) (by kernel_rfl) (by kernel_rfl) (fun _ _ _ h => h) (yieldsIf_load_mid (by rfl) 85 _ rfl W.heap.size 0 rfl (ints G) _ HRG.out HU rfl (by rw [HL.out]; exact Tryz.sizeGrid)) hHeld ?_
    simp only [Act.put, List.setIfInBounds_toArray, List.set_cons_zero, List.set_cons_succ]
    generalize w1.drew = wd at hHeld ⊢
    refine twoL (i := 4) (j := 5) (by kernel_rfl) rfl rfl (by rfl) (by rfl) (fun K hK => ?_) (fun K hK => ?_)
    · skip
      go_simp
      refine (KM1.out _ (B0.out.trans (hHeld.mono B0.out.size))).mono ?_
      rintro e w101 ⟨rfl, hb101⟩
      have t101 : Below w1.heap.size w1 w101 := hHeld.trans (hb101.mono hHeld.size)
      clear hb101
      refine hK.out _ _ (fun _ => t101) (fun hHeld => ?_)
      have hHeld := hHeld (by decide)
      clear hK K
      try simp only [Act.put, List.setIfInBounds_toArray, List.set_cons_zero, List.set_cons_succ]
      refine onlyL (i := 5) (by kernel_rfl) rfl (by rfl) (fun K hK => ?_)
      refine wp_allocM 89 4 rfl rfl (bL (fun _ => false)) Tryz.allocSet ?_
      have Z5_102 := Lib.hid (Cm.new (w := w101) (T := 89) (cs := bL (fun _ => false)) rfl)
      have t102 : Below w1.heap.size w1 (w101.alloc (.cells (bL (fun _ => false)).toArray 89)) := t101.alloc t101.size _
      have hs102 := t101.size
      have hz102 : w101.heap.size < (w101.alloc (.cells (bL (fun _ => false)).toArray 89)).heap.size := by simp
      generalize w101.alloc (.cells (bL (fun _ => false)).toArray 89) = w102 at *
      refine hK.out _ _ (fun _ => t102) (fun hHeld => ?_)
      have hHeld := hHeld (by decide)
      clear hK K
      try simp only [Act.put, List.setIfInBounds_toArray, List.set_cons_zero, List.set_cons_succ]
      have CG103 := Lib.hid (C0.out.all t102)
      have CR103 := Lib.hid (R0.out.all t102)
      have BB103 := Lib.hid (B0.out.trans (t102.mono B0.out.size))
      clear hHeld
      refine onlyL (i := 6) (by kernel_rfl) rfl (by rfl) (fun K hK => ?_)
      refine wp_storeM 89 (.tmp 4) (.tmp 13) rfl rfl w101.heap.size 0 rfl (bL PA) rfl 89 _ Z5_102.out (by rw [bL_len, bL_len]; exact Nat.le_refl _) (by rw [bL_len]; exact Tryz.sizeSet) (fun v hv => bL_one hv) ?_
      intro y1 hc1 ha1
      rw [lay'_all (by rw [bL_len, bL_len])] at hc1
      have ZA103 := Lib.hid hc1
      have CG103 := Lib.hid (ha1.cm CG103.out (by omega))
      have CR103 := Lib.hid (ha1.cm CR103.out (by omega))
      have BB103 : Hid (Below W.heap.size W y1) := Lib.hid (BB103.out.trans (ha1.below (by omega)))
      clear hc1 ha1
      refine hK.out _ _ (fun h => absurd (by decide) h) (fun _ => ?_)
      clear hK K
      refine doneL (by kernel_rfl) ?_ _
      go_wp2_with fail
      go_meet
      case rel => exact ⟨_, rfl, ZA103, CG103, CR103, BB103, by omega⟩
    · skip
      refine wp_allocM 89 4 rfl rfl (bL (fun _ => false)) Tryz.allocSet ?_
      have Z5_104 := Lib.hid (Cm.new (w := wd) (T := 89) (cs := bL (fun _ => false)) rfl)
      have t104 : Below w1.heap.size w1 (wd.alloc (.cells (bL (fun _ => false)).toArray 89)) := hHeld.alloc hHeld.size _
      have hs104 := hHeld.size
      have hz104 : wd.heap.size < (wd.alloc (.cells (bL (fun _ => false)).toArray 89)).heap.size := by simp
      generalize wd.alloc (.cells (bL (fun _ => false)).toArray 89) = w104 at *
      refine hK.out _ _ (fun _ => t104) (fun hHeld => ?_)
      have hHeld := hHeld (by decide)
      clear hK K
      try simp only [Act.put, List.setIfInBounds_toArray, List.set_cons_zero, List.set_cons_succ]
      refine onlyL (i := 4) (by kernel_rfl) rfl (by rfl) (fun K hK => ?_)
      go_simp
      refine (KM1.out _ (B0.out.trans (t104.mono B0.out.size))).mono ?_
      rintro e w105 ⟨rfl, hb105⟩
      have t105 : Below w1.heap.size w1 w105 := t104.trans (hb105.mono t104.size)
      have Z5_105 := Lib.hid (Z5_104.out.all hb105)
      clear hb105
      refine hK.out _ _ (fun _ => t105) (fun hHeld => ?_)
      have hHeld := hHeld (by decide)
      clear hK K
      try simp only [Act.put, List.setIfInBounds_toArray, List.set_cons_zero, List.set_cons_succ]
      have CG106 := Lib.hid (C0.out.all t105)
      have CR106 := Lib.hid (R0.out.all t105)
      have BB106 := Lib.hid (B0.out.trans (t105.mono B0.out.size))
      clear hHeld
      refine onlyL (i := 6) (by kernel_rfl) rfl (by rfl) (fun K hK => ?_)
      refine wp_storeM 89 (.tmp 4) (.tmp 13) rfl rfl wd.heap.size 0 rfl (bL PA) rfl 89 _ Z5_105.out (by rw [bL_len, bL_len]; exact Nat.le_refl _) (by rw [bL_len]; exact Tryz.sizeSet) (fun v hv => bL_one hv) ?_
      intro y1 hc1 ha1
      rw [lay'_all (by rw [bL_len, bL_len])] at hc1
      have ZA106 := Lib.hid hc1
      have CG106 := Lib.hid (ha1.cm CG106.out (by omega))
      have CR106 := Lib.hid (ha1.cm CR106.out (by omega))
      have BB106 : Hid (Below W.heap.size W y1) := Lib.hid (BB106.out.trans (ha1.below (by omega)))
      clear hc1 ha1
      refine hK.out _ _ (fun h => absurd (by decide) h) (fun _ => ?_)
      clear hK K
      refine doneL (by kernel_rfl) ?_ _
      go_wp2_with fail
      go_meet
      case rel => exact ⟨_, rfl, ZA106, CG106, CR106, BB106, by omega⟩
  case rest =>
    clear C0 R0 B0 HRG HB1 HV1 KM1 HU1 hent1 hq1
    obtain ⟨b5, rfl, T0, C0, R0, B0, hb5⟩ := hcut
    obtain ⟨w1, hw1⟩ : ∃ y, y = wc := ⟨_, rfl⟩
    subst hw1
    have hq1 : W.heap.size + 1 < w1.heap.size := R0.out.lt
    have hb5l := T0.out.lt
    have HRG : Hid (∀ W', Below w1.heap.size w1 W' → W'.rangeAt W.heap.size 0 (ints G)) := Lib.hid (fun W' h => (C0.out.all h).whole)
    have HRT : Hid (∀ W', Below w1.heap.size w1 W' → W'.rangeAt b5 0 (bL PA)) := Lib.hid (fun W' h => (T0.out.all h).whole)
    have HB1 : Hid (∀ W', Below w1.heap.size w1 W' → W'.cell? ⟨b, 0, none⟩ = some (.slice (some ⟨pb, po, none⟩) 2 c)) := Lib.hid (fun W' h => HB.out W' (B0.out.trans (h.mono B0.out.size)))
    have HV2 : Hid (∀ W', Below w1.heap.size w1 W' → W'.cell? ⟨pb, po + 1, none⟩ = some (.func (.func k2) #[] caps2)) := Lib.hid (fun W' h => HU2.out W' (B0.out.trans (h.mono B0.out.size)))
    go_wp2
    try simp only [Act.put, List.setIfInBounds_toArray, List.set_cons_zero, List.set_cons_succ]
    go_cut [5] (fun p6 w' => ∃ b6, p6 = .pointer (some ⟨b6, 0, none⟩) ∧ Hid (Cm w' b6 89 (bL PB)) ∧ Hid (Cm w' b5 89 (bL PA)) ∧ Hid (Cm w' W.heap.size 85 (ints G)) ∧ Hid (Cm w' (W.heap.size + 1) 89 (bL (fun _ => false))) ∧ Hid (Below W.heap.size W w') ∧ W.heap.size + 1 < b6 ∧ b5 < b6)
    case first =>
      refine regionL (fun W => Below w1.heap.size w1 W) [8] (by kernel_rfl) (Below.refl _ _).drew (fun hHeld => ?_)
      refine takeA (i := 0) (v := .slice (some ⟨pb, po, none⟩) 2 c) 14 rfl rfl (by kernel_rfl) (by kernel_rfl) (by kernel_rfl) (by kernel_rfl) (fun _ _ _ h => h) (Or.inl ⟨by rfl, by intro W hSw; have c1 := HB1.out _ hSw; go_simp⟩) hHeld ?_
      simp only [Act.put, List.setIfInBounds_toArray, List.set_cons_zero, List.set_cons_succ]
      refine takeA (i := 1) (v := .pointer (some ⟨pb, po + 1, none⟩)) 15 rfl rfl (by kernel_rfl) (by kernel_rfl) (by kernel_rfl) (by kernel_rfl) (fun _ _ _ h => h) (Or.inl ⟨by rfl, by intro W hSw; go_simp⟩) hHeld ?_
      simp only [Act.put, List.setIfInBounds_toArray, List.set_cons_zero, List.set_cons_succ]
      refine takeA (i := 2) (v := .func (.func k2) #[] caps2) 16 rfl rfl (by kernel_rfl) (by kernel_rfl) (by kernel_rfl) (by kernel_rfl) (fun _ _ _ h => h) (Or.inl ⟨by rfl, by intro W hSw; have c1 := HV2.out _ hSw; go_simp⟩) hHeld ?_
      simp only [Act.put, List.setIfInBounds_toArray, List.set_cons_zero, List.set_cons_succ]
      refine takeA (i := 3) (v := .agg (ints G).toArray) 17 rfl rfl (by kernel_rfl) (by kernel_rfl) (by kernel_rfl) (by kernel_rfl) (fun _ _ _ h => h) (yieldsIf_load_mid (by rfl) 85 _ rfl W.heap.size 0 rfl (ints G) _ HRG.out HU rfl (by rw [HL.out]; exact Tryz.sizeGrid)) hHeld ?_
      simp only [Act.put, List.setIfInBounds_toArray, List.set_cons_zero, List.set_cons_succ]
      refine takeA (i := 4) (v := .agg (bL PA).toArray) 18 rfl rfl (by kernel_rfl) (by kernel_rfl) (by kernel_rfl) (by kernel_rfl) (fun _ _ _ h => h) (yieldsIf_load_mid (by rfl) 89 _ rfl b5 0 rfl (bL PA) _ HRT.out HUS rfl (by rw [bL_len]; exact Tryz.sizeSet)) hHeld ?_
      simp only [Act.put, List.setIfInBounds_toArray, List.set_cons_zero, List.set_cons_succ]
      generalize w1.drew = wd at hHeld ⊢
      refine twoL (i := 5) (j := 7) (by kernel_rfl) rfl rfl (by rfl) (by rfl) (fun K hK => ?_) (fun K hK => ?_)
      · skip
        go_simp
        refine (KR.out _).mono ?_
        rintro e w107 ⟨rfl, hb107⟩
        have t107 : Below w1.heap.size w1 w107 := hHeld.trans (hb107.mono hHeld.size)
        clear hb107
        refine hK.out _ _ (fun _ => t107) (fun hHeld => ?_)
        have hHeld := hHeld (by decide)
        clear hK K
        try simp only [Act.put, List.setIfInBounds_toArray, List.set_cons_zero, List.set_cons_succ]
        refine twoL (i := 6) (j := 7) (by kernel_rfl) rfl rfl (by rfl) (by rfl) (fun K hK => ?_) (fun K hK => ?_)
        · skip
          go_simp
          refine (KM2.out _ (B0.out.trans (t107.mono B0.out.size))).mono ?_
          rintro e w108 ⟨rfl, hb108⟩
          have t108 : Below w1.heap.size w1 w108 := t107.trans (hb108.mono t107.size)
          clear hb108
          refine hK.out _ _ (fun _ => t108) (fun hHeld => ?_)
          have hHeld := hHeld (by decide)
          clear hK K
          try simp only [Act.put, List.setIfInBounds_toArray, List.set_cons_zero, List.set_cons_succ]
          refine onlyL (i := 7) (by kernel_rfl) rfl (by rfl) (fun K hK => ?_)
          refine wp_allocM 89 5 rfl rfl (bL (fun _ => false)) Tryz.allocSet ?_
          have Z7_109 := Lib.hid (Cm.new (w := w108) (T := 89) (cs := bL (fun _ => false)) rfl)
          have t109 : Below w1.heap.size w1 (w108.alloc (.cells (bL (fun _ => false)).toArray 89)) := t108.alloc t108.size _
          have hs109 := t108.size
          have hz109 : w108.heap.size < (w108.alloc (.cells (bL (fun _ => false)).toArray 89)).heap.size := by simp
          generalize w108.alloc (.cells (bL (fun _ => false)).toArray 89) = w109 at *
          refine hK.out _ _ (fun _ => t109) (fun hHeld => ?_)
          have hHeld := hHeld (by decide)
          clear hK K
          try simp only [Act.put, List.setIfInBounds_toArray, List.set_cons_zero, List.set_cons_succ]
          have CT110 := Lib.hid (T0.out.all t109)
          have CG110 := Lib.hid (C0.out.all t109)
          have CR110 := Lib.hid (R0.out.all t109)
          have BB110 := Lib.hid (B0.out.trans (t109.mono B0.out.size))
          clear hHeld
          refine onlyL (i := 8) (by kernel_rfl) rfl (by rfl) (fun K hK => ?_)
          refine wp_storeM 89 (.tmp 5) (.tmp 20) rfl rfl w108.heap.size 0 rfl (bL PB) rfl 89 _ Z7_109.out (by rw [bL_len, bL_len]; exact Nat.le_refl _) (by rw [bL_len]; exact Tryz.sizeSet) (fun v hv => bL_one hv) ?_
          intro y1 hc1 ha1
          rw [lay'_all (by rw [bL_len, bL_len])] at hc1
          have ZA110 := Lib.hid hc1
          have CT110 := Lib.hid (ha1.cm CT110.out (by omega))
          have CG110 := Lib.hid (ha1.cm CG110.out (by omega))
          have CR110 := Lib.hid (ha1.cm CR110.out (by omega))
          have BB110 : Hid (Below W.heap.size W y1) := Lib.hid (BB110.out.trans (ha1.below (by omega)))
          clear hc1 ha1
          refine hK.out _ _ (fun h => absurd (by decide) h) (fun _ => ?_)
          clear hK K
          refine doneL (by kernel_rfl) ?_ _
          go_wp2_with fail
          go_meet
          case rel => exact ⟨_, rfl, ZA110, CT110, CG110, CR110, BB110, by omega, by omega⟩
        · skip
          refine wp_allocM 89 5 rfl rfl (bL (fun _ => false)) Tryz.allocSet ?_
          have Z7_111 := Lib.hid (Cm.new (w := w107) (T := 89) (cs := bL (fun _ => false)) rfl)
          have t111 : Below w1.heap.size w1 (w107.alloc (.cells (bL (fun _ => false)).toArray 89)) := t107.alloc t107.size _
          have hs111 := t107.size
          have hz111 : w107.heap.size < (w107.alloc (.cells (bL (fun _ => false)).toArray 89)).heap.size := by simp
          generalize w107.alloc (.cells (bL (fun _ => false)).toArray 89) = w111 at *
          refine hK.out _ _ (fun _ => t111) (fun hHeld => ?_)
          have hHeld := hHeld (by decide)
          clear hK K
          try simp only [Act.put, List.setIfInBounds_toArray, List.set_cons_zero, List.set_cons_succ]
          refine onlyL (i := 6) (by kernel_rfl) rfl (by rfl) (fun K hK => ?_)
          go_simp
          refine (KM2.out _ (B0.out.trans (t111.mono B0.out.size))).mono ?_
          rintro e w112 ⟨rfl, hb112⟩
          have t112 : Below w1.heap.size w1 w112 := t111.trans (hb112.mono t111.size)
          have Z7_112 := Lib.hid (Z7_111.out.all hb112)
          clear hb112
          refine hK.out _ _ (fun _ => t112) (fun hHeld => ?_)
          have hHeld := hHeld (by decide)
          clear hK K
          try simp only [Act.put, List.setIfInBounds_toArray, List.set_cons_zero, List.set_cons_succ]
          have CT113 := Lib.hid (T0.out.all t112)
          have CG113 := Lib.hid (C0.out.all t112)
          have CR113 := Lib.hid (R0.out.all t112)
          have BB113 := Lib.hid (B0.out.trans (t112.mono B0.out.size))
          clear hHeld
          refine onlyL (i := 8) (by kernel_rfl) rfl (by rfl) (fun K hK => ?_)
          refine wp_storeM 89 (.tmp 5) (.tmp 20) rfl rfl w107.heap.size 0 rfl (bL PB) rfl 89 _ Z7_112.out (by rw [bL_len, bL_len]; exact Nat.le_refl _) (by rw [bL_len]; exact Tryz.sizeSet) (fun v hv => bL_one hv) ?_
          intro y1 hc1 ha1
          rw [lay'_all (by rw [bL_len, bL_len])] at hc1
          have ZA113 := Lib.hid hc1
          have CT113 := Lib.hid (ha1.cm CT113.out (by omega))
          have CG113 := Lib.hid (ha1.cm CG113.out (by omega))
          have CR113 := Lib.hid (ha1.cm CR113.out (by omega))
          have BB113 : Hid (Below W.heap.size W y1) := Lib.hid (BB113.out.trans (ha1.below (by omega)))
          clear hc1 ha1
          refine hK.out _ _ (fun h => absurd (by decide) h) (fun _ => ?_)
          clear hK K
          refine doneL (by kernel_rfl) ?_ _
          go_wp2_with fail
          go_meet
          case rel => exact ⟨_, rfl, ZA113, CT113, CG113, CR113, BB113, by omega, by omega⟩
      · skip
        refine wp_allocM 89 5 rfl rfl (bL (fun _ => false)) Tryz.allocSet ?_
        have Z7_114 := Lib.hid (Cm.new (w := wd) (T := 89) (cs := bL (fun _ => false)) rfl)
        have t114 : Below w1.heap.size w1 (wd.alloc (.cells (bL (fun _ => false)).toArray 89)) := hHeld.alloc hHeld.size _
        have hs114 := hHeld.size
        have hz114 : wd.heap.size < (wd.alloc (.cells (bL (fun _ => false)).toArray 89)).heap.size := by simp
        generalize wd.alloc (.cells (bL (fun _ => false)).toArray 89) = w114 at *
        refine hK.out _ _ (fun _ => t114) (fun hHeld => ?_)
        have hHeld := hHeld (by decide)
        clear hK K
        try simp only [Act.put, List.setIfInBounds_toArray, List.set_cons_zero, List.set_cons_succ]
        refine onlyL (i := 5) (by kernel_rfl) rfl (by rfl) (fun K hK => ?_)
        go_simp
        refine (KR.out _).mono ?_
        rintro e w115 ⟨rfl, hb115⟩
        have t115 : Below w1.heap.size w1 w115 := t114.trans (hb115.mono t114.size)
        have Z7_115 := Lib.hid (Z7_114.out.all hb115)
        clear hb115
        refine hK.out _ _ (fun _ => t115) (fun hHeld => ?_)
        have hHeld := hHeld (by decide)
        clear hK K
        try simp only [Act.put, List.setIfInBounds_toArray, List.set_cons_zero, List.set_cons_succ]
        refine onlyL (i := 6) (by kernel_rfl) rfl (by rfl) (fun K hK => ?_)
        go_simp
        refine (KM2.out _ (B0.out.trans (t115.mono B0.out.size))).mono ?_
        rintro e w116 ⟨rfl, hb116⟩
        have t116 : Below w1.heap.size w1 w116 := t115.trans (hb116.mono t115.size)
        have Z7_116 := Lib.hid (Z7_115.out.all hb116)
        clear hb116
        refine hK.out _ _ (fun _ => t116) (fun hHeld => ?_)
        have hHeld := hHeld (by decide)
        clear hK K
        try simp only [Act.put, List.setIfInBounds_toArray, List.set_cons_zero, List.set_cons_succ]
        have CT117 := Lib.hid (T0.out.all t116)
        have CG117 := Lib.hid (C0.out.all t116)
        have CR117 := Lib.hid (R0.out.all t116)
        have BB117 := Lib.hid (B0.out.trans (t116.mono B0.out.size))
        clear hHeld
        refine onlyL (i := 8) (by kernel_rfl) rfl (by rfl) (fun K hK => ?_)
        refine wp_storeM 89 (.tmp 5) (.tmp 20) rfl rfl wd.heap.size 0 rfl (bL PB) rfl 89 _ Z7_116.out (by rw [bL_len, bL_len]; exact Nat.le_refl _) (by rw [bL_len]; exact Tryz.sizeSet) (fun v hv => bL_one hv) ?_
        intro y1 hc1 ha1
        rw [lay'_all (by rw [bL_len, bL_len])] at hc1
        have ZA117 := Lib.hid hc1
        have CT117 := Lib.hid (ha1.cm CT117.out (by omega))
        have CG117 := Lib.hid (ha1.cm CG117.out (by omega))
        have CR117 := Lib.hid (ha1.cm CR117.out (by omega))
        have BB117 : Hid (Below W.heap.size W y1) := Lib.hid (BB117.out.trans (ha1.below (by omega)))
        clear hc1 ha1
        refine hK.out _ _ (fun h => absurd (by decide) h) (fun _ => ?_)
        clear hK K
        refine doneL (by kernel_rfl) ?_ _
        go_wp2_with fail
        go_meet
        case rel => exact ⟨_, rfl, ZA117, CT117, CG117, CR117, BB117, by omega, by omega⟩
    case rest =>
      clear C0 R0 B0 T0 HRG HRT HB1 HV2 HU HUS KM2 HB HU2 hent2 KR hq1 hb5l
      obtain ⟨b6, rfl, A6, T5, CC, RR, BB, hb6, hb56⟩ := hcut
      have lt_A6 := A6.out.lt
      have tk28 : True := trivial
      have tk29 : True := trivial
      have tk30 : True := trivial
      have tk31 : True := trivial
      have tk32 : True := trivial
      have tk33 : True := trivial
      go_wp2_with
        (first
          | (have _t := tk28; clear _t tk28; refine wpList_loadM rfl 85 _ rfl W.heap.size 0 rfl 85 (ints G) (ints G) CC.out (fun j _ => by rw [Nat.zero_add]) _ Tryz.underlying85 rfl (by rw [HL.out]; exact Tryz.sizeGrid) ?_)
          | (have _t := tk29; clear _t tk29; refine wpList_loadM rfl 89 _ rfl b5 0 rfl 89 (bL PA) (bL PA) T5.out (fun j _ => by rw [Nat.zero_add]) _ Tryz.underlying89 rfl (by rw [bL_len]; exact Tryz.sizeSet) ?_)
          | (have _t := tk30; clear _t tk30; go_at_call 181; (with_reducible refine (KO.out _).mono ?_); rintro e w2 ⟨rfl, hb2⟩; have T5 := Lib.hid (T5.out.all hb2); have lt_T5_w2 := T5.out.lt; have A6 := Lib.hid (A6.out.all hb2); have lt_A6_w2 := A6.out.lt; have RR := Lib.hid (RR.out.all hb2); have lt_RR_w2 := RR.out.lt; have BB := Lib.hid (BB.out.trans (hb2.mono BB.out.size)); have le_w2 := BB.out.size; clear hb2)
          | (have _t := tk31; clear _t tk31; refine wpList_allocM rfl 89 rfl (bL (fun _ => false)) Tryz.allocSet ?_
             intro w3 hc1 hb1 hs1
             have F6 := Lib.hid hc1
             have T5 := Lib.hid (T5.out.all hb1)
             have lt_T5_w3 := T5.out.lt
             have A6 := Lib.hid (A6.out.all hb1)
             have lt_A6_w3 := A6.out.lt
             have RR := Lib.hid (RR.out.all hb1)
             have lt_RR_w3 := RR.out.lt
             have BB := Lib.hid (BB.out.trans (hb1.mono BB.out.size))
             have le_w3 := BB.out.size
             clear hc1 hb1 hs1)
          | (have _t := tk32; clear _t tk32; refine wpList_storeM rfl 89 (.tmp 6) (.tmp 23) rfl w2.heap.size 0 rfl (bL (aftK m.facts.length PA PB 0)) rfl 89 _ F6.out (by rw [bL_len, bL_len]; exact Nat.le_refl _) (by rw [bL_len]; exact Tryz.sizeSet) (fun v hv => bL_one hv) ?_
             intro w4 hc5 ha5
             rw [lay'_all (by rw [bL_len, bL_len])] at hc5
             have F6 := Lib.hid hc5
             have T5 := Lib.hid (ha5.cm T5.out (by omega))
             have A6 := Lib.hid (ha5.cm A6.out (by omega))
             have RR := Lib.hid (ha5.cm RR.out (by omega))
             have BB : Hid (Below W.heap.size W w4) := Lib.hid (BB.out.trans (ha5.below (by omega)))
             have lt_F6_w4 : w2.heap.size < w4.heap.size := F6.out.lt
             clear hc5 ha5)
          | (have _t := tk33; clear _t tk33; refine wpList_loadM rfl 89 _ rfl b5 0 rfl 89 (bL PA) (bL PA) T5.out (fun j _ => by rw [Nat.zero_add]) _ Tryz.underlying89 rfl (by rw [bL_len]; exact Tryz.sizeSet) ?_))
      refine (KL.out _).mono ?_
      rintro e w6 ⟨v6, rfl, ho6, hb7⟩
      have A6 := Lib.hid (A6.out.all hb7)
      have RR := Lib.hid (RR.out.all hb7)
      have F6 := Lib.hid (F6.out.all hb7)
      have BB := Lib.hid (BB.out.trans (hb7.mono BB.out.size))
      have hz46 : w4.heap.size ≤ w6.heap.size := hb7.size
      obtain ⟨la, lc, e6⟩ := ho6.form
      have I6 : Hid (Iv w4.heap.size w6.heap.size w6 (.slice la ws.length lc) (nums ws)) := Lib.hid (by have h := ho6.read; rw [e6, nums_len] at h; exact h)
      rw [nums_len] at e6
      subst e6
      clear ho6 hb7 T5 KL KO
      go_wp2
      go_loopw [27] (fun iv wr => ∃ k : Nat, k ≤ ws.length ∧ iv = .int .i64 k ∧ Hid (Cm wr w2.heap.size 89 (bL (aftK m.facts.length PA PB k))) ∧ Hid (Cm wr b6 89 (bL PB)) ∧ Hid (Cm wr (W.heap.size + 1) 89 (bL (fun _ => false))) ∧ Hid (Iv w4.heap.size w6.heap.size wr (.slice la ws.length lc) (nums ws)) ∧ Hid (Below W.heap.size W wr)) (fun iv _ => ws.length - (intOf iv).toNat)
      case atStart => exact ⟨0, Nat.zero_le _, rfl, F6, A6, RR, I6, BB⟩
      case round =>
        clear F6 A6 RR I6 BB
        obtain ⟨k, hk, rfl, FR, AR, RR, IR, BR⟩ := hrel
        by_cases hlt : k < ws.length
        · obtain ⟨a', cap', e, hcp, hcm, hpt⟩ := IR.out.parts
          rw [nums_len] at e hcp hpt
          cases e
          obtain ⟨bb, o, rfl, _, _, hbl, hc⟩ := hpt k hlt
          unfold maxLen at hcm
          rw [nums_getD hlt] at hc
          have HUK := Lib.hid (HKU.out k hlt)
          have hr16 := HRK.out k hlt
          have hgd : ws.getD k 0 = ws[k] := by rw [List.getD_eq_getElem?_getD, List.getElem?_eq_getElem hlt]; rfl
          rw [hgd] at HUK hr16
          obtain ⟨v, hv⟩ : ∃ v, v = ws[k] := ⟨_, rfl⟩
          rw [← hv] at hc HUK hr16
          clear hv hpt hgd
          have v0 : (0 : Int) ≤ (v : Int) := Int.natCast_nonneg _
          have v16 : (v : Int) < 16 := by omega
          have k0 : (0 : Int) ≤ (k : Int) := Int.natCast_nonneg _
          have k16 : (k : Int) < 16 := by omega
          have ca := set_store PB (show k < 16 by omega) AR.out
          have ck := set_store _ hr16 FR.out
          have fk := FR.out.frozen v
          obtain ⟨z, hz⟩ : ∃ z, z = aftK m.facts.length PA PB k v := ⟨_, rfl⟩
          rw [← hz] at ck
          obtain ⟨z2, hz2⟩ : ∃ z, z = PB k := ⟨_, rfl⟩
          rw [← hz2] at ca HUK
          clear hz hz2
          go_wp2
          clear hc ca ck fk
          go_roundw
          case rel => exact ⟨k + 1, by omega, by go_num, Lib.hid (by rw [← HUK.out, ← bL_set]; exact FR.out.set v _), Lib.hid (AR.out.other (by omega) _ _), Lib.hid (RR.out.other (by omega) _ _), Lib.hid (IR.out.keeps (Keeps.setCell _ _ _ _ (.inl (by omega)))), Lib.hid (BR.out.setCell (by show _ ≤ w2.heap.size; omega) _)⟩
          case measure => simp [intOf]; omega
        · obtain ⟨PF, hPF⟩ : ∃ PF, PF = aftK m.facts.length PA PB k := ⟨_, rfl⟩
          have HPF := Lib.hid hPF
          have HE := Lib.hid (HKE.out k (by omega))
          rw [← hPF] at FR HE
          clear hPF
          have tk34 : True := trivial
          have tk35 : True := trivial
          go_wp2_with
            (first
              | (have _t := tk34; clear _t tk34; refine wpList_loadM rfl 89 _ rfl w2.heap.size 0 rfl 89 (bL PF) (bL PF) FR.out (fun j _ => by rw [Nat.zero_add]) _ Tryz.underlying89 rfl (by rw [bL_len]; exact Tryz.sizeSet) ?_)
              | (have _t := tk35; clear _t tk35; refine wpList_storeM rfl 89 (.tmp 3) (.tmp 38) rfl (W.heap.size + 1) 0 rfl (bL PF) rfl 89 _ RR.out (by rw [bL_len, bL_len]; exact Nat.le_refl _) (by rw [bL_len]; exact Tryz.sizeSet) (fun v hv => bL_one hv) ?_
                 intro w7 hc5 ha5
                 rw [lay'_all (by rw [bL_len, bL_len])] at hc5
                 have R5 := Lib.hid hc5
                 have BR : Hid (Below W.heap.size W w7) := Lib.hid (BR.out.trans (ha5.below (by omega)))
                 clear hc5 ha5))
          refine bodyPost_ret (results_mid1 Tryz.results192 _ _ (W.heap.size + 1) (bL PF) _ rfl R5.out.whole Tryz.underlying89 rfl (by rw [bL_len]; exact Tryz.sizeSet)) rfl ?_
          exact ⟨by rw [HE.out], BR.out⟩
    
end Go.Proofs.YtodjohdbngbpaaaGreat
