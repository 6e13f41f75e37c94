/-
  The program's rules for conjunction, whether and after, as function values. Condition: the grid fits, its facts are numbers from 0 to 15.
-/
import Derived.Test.YtgmpenchojnihaaGreatZMea
import Derived.Deep.DeepCutAuto
namespace Go.Proofs.YtgmpenchojnihaaGreat
open Go.RowKit Go.WideShapes
open Go Go.Deep
set_option linter.unusedSimpArgs false

section
variable {P : Program} {ops : Array Oper} {Q : Exit → Act → World → Prop} {md : Region.Mode} {S : World → Prop} {L : List Nat}
theorem threeL {i j k : Nat} {oi oj ok : Oper} {fuel : Nat} {listed : Array Bool} {a : Act} {w : World} (hr : Region.ready md ops listed = [i, j, k]) (hi : ops[i]? = some oi) (hj : ops[j]? = some oj) (hk : ops[k]? = some ok)
    (hwi : Region.wanted oi (yielded ops a.tmps) = true) (hwj : Region.wanted oj (yielded ops a.tmps) = true) (hwk : Region.wanted ok (yielded ops a.tmps) = true)
    (h1 : ∀ K : Act → World → Prop, Shut (∀ a w, (i ∉ L → S w) → ((i ∉ L → S w) → wpAnyL P md ops Q S L fuel (listed.setIfInBounds i true) a w) → K a w) → Oper.wp P oi a w K Q)
    (h2 : ∀ K : Act → World → Prop, Shut (∀ a w, (j ∉ L → S w) → ((j ∉ L → S w) → wpAnyL P md ops Q S L fuel (listed.setIfInBounds j true) a w) → K a w) → Oper.wp P oj a w K Q)
    (h3 : ∀ K : Act → World → Prop, Shut (∀ a w, (k ∉ L → S w) → ((k ∉ L → S w) → wpAnyL P md ops Q S L fuel (listed.setIfInBounds k true) a w) → K a w) → Oper.wp P ok a w K Q) : wpAnyL P md ops Q S L (fuel + 1) listed a w := by
  refine ⟨fun h0 => (by rw [hr] at h0; cases h0), fun l hl => ?_⟩
  rw [hr] at hl
  simp only [List.mem_cons, List.not_mem_nil, or_false] at hl
  rcases hl with rfl | rfl | rfl
  · exact wpOp_step hi (fun K hK => by rw [if_pos hwi]; exact h1 K (fun a w hS hW => hK a w ⟨hS, hW hS⟩))
  · exact wpOp_step hj (fun K hK => by rw [if_pos hwj]; exact h2 K (fun a w hS hW => hK a w ⟨hS, hW hS⟩))
  · exact wpOp_step hk (fun K hK => by rw [if_pos hwk]; exact h3 K (fun a w hS hW => hK a w ⟨hS, hW hS⟩))
end
theorem Keeps.at2 {lo : Nat} {w W W' : World} (h : Keeps lo w.heap.size w W) (h2 : Below W.heap.size W W') : Keeps lo w.heap.size w W' := h.trans (Keeps.of_all h2)

set_option maxRecDepth 100000 in
set_option maxHeartbeats 4000000 in
theorem and_test (w : World) (b4 b5 n : Nat) (hn : n ≤ 16) (p q : Nat → Bool) (h4 : Cm w b4 106 (bL p)) (h5 : Cm w b5 106 (bL q)) :
    Test w 156 #[.pointer (some ⟨b4, 0, none⟩), .pointer (some ⟨b5, 0, none⟩)] n (fun i => p i && q i) := by
  refine ⟨enters_of Tryz.func156 (by kernel_rfl) rfl, fun i hi W hW => ?_⟩
  show Calls Tryz.prog 156 #[.int .i64 i, .pointer (some ⟨b4, 0, none⟩), .pointer (some ⟨b5, 0, none⟩)] W _
  have c4 := set_store p (show i < 16 by omega) (h4.all hW)
  have c5 := set_store q (show i < 16 by omega) (h5.all hW)
  have i0 : (0 : Int) ≤ (i : Int) := Int.natCast_nonneg _
  have i16 : (i : Int) < 16 := by omega
  obtain ⟨x, hx⟩ : ∃ x, x = p i := ⟨_, rfl⟩
  obtain ⟨y, hy⟩ : ∃ y, y = q i := ⟨_, rfl⟩
  have HX := Lib.hid hx
  have HY := Lib.hid hy
  rw [← hx] at c4
  rw [← hy] at c5
  clear h4 h5 hW hx hy
  cases x with
  | false =>
    go_enter Tryz.func156, Tryz.ntmps156
    go_wp2
    go_ret
    exact ⟨ret_bool (by rw [← HX.out]; rfl), Below.refl _ _⟩
  | true =>
    go_enter Tryz.func156, Tryz.ntmps156
    go_wp2
    go_ret
    exact ⟨ret_bool (by rw [← HX.out, ← HY.out]; rfl), Below.refl _ _⟩
set_option maxRecDepth 100000 in
set_option maxHeartbeats 16000000 in
theorem meanAnd (lo b pb po c : Nat) (u1 u2 : Value) (x y : Tm) (w : World) (hb : Cm w b 171 [.slice (some ⟨pb, po, none⟩) 2 c]) (hlb : lo ≤ b) (hlp : lo ≤ pb) (hu1 : w.cell? ⟨pb, po, none⟩ = some u1) (hu2 : w.cell? ⟨pb, po + 1, none⟩ = some u2) (hM1 : Mean lo w u1 x) (hM2 : Mean lo w u2 y) :
    Mean lo w (.func (.func 155) #[] #[.pointer (some ⟨b, 0, none⟩)]) (.joint 4 x y) := by
  refine ⟨_, _, rfl, enters_of Tryz.func155 (by kernel_rfl) rfl, fun m hg W hW => ?_⟩
  show Calls Tryz.prog 155 #[.agg (ints (gM m)).toArray, .pointer (some ⟨b, 0, none⟩)] W _
  obtain ⟨k1, caps1, rfl, hen1, hM1⟩ := hM1
  obtain ⟨k2, caps2, rfl, hen2, hM2⟩ := hM2
  have hbl := hb.lt
  have hpl : pb < w.heap.size := World.block_lt_of_cell? _ _ hu1
  have HB : Hid (∀ W', Below W.heap.size W W' → W'.cell? ⟨b, 0, none⟩ = some (.slice (some ⟨pb, po, none⟩) 2 c)) := Lib.hid (fun W' h => ((hb.keeps hW hlb hbl).all h).one)
  have HU1 : Hid (∀ W', Below W.heap.size W W' → W'.cell? ⟨pb, po, none⟩ = some (.func (.func k1) #[] caps1)) := Lib.hid (fun W' h => cell_keeps hu1 (hW.at2 h) hlp hpl)
  have HU2 : Hid (∀ W', Below W.heap.size W W' → W'.cell? ⟨pb, po + 1, none⟩ = some (.func (.func k2) #[] caps2)) := Lib.hid (fun W' h => cell_keeps hu2 (hW.at2 h) hlp hpl)
  have KM1 := Lib.hid (fun W' (h : Below W.heap.size W W') => hM1 m hg W' (hW.at2 h))
  have KM2 := Lib.hid (fun W' (h : Below W.heap.size W W') => hM2 m hg W' (hW.at2 h))
  have KW := Lib.hid (fun caps q W' h => where_any m.facts.length m.blocks.length m.actual m.facts m.blocks hg.1.small hg.1.1 156 caps q W' h)
  have KT := Lib.hid (fun W' b4 b5 h4 h5 => and_test W' b4 b5 m.facts.length hg.1.1 (evI x m) (evI y m) h4 h5)
  have HL : Hid ((ints (gM m)).length = 67) := Lib.hid (gM_len hg)
  have HEV : Hid (evI (.joint 4 x y) m = cut m.facts.length fun i => evI x m i && evI y m i) := Lib.hid rfl
  rw [HEV.out]
  have KW := Lib.hid (fun caps W' h => KW.out caps (fun i => evI x m i && evI y m i) W' h)
  generalize hPF : (cut m.facts.length fun i => evI x m i && evI y m i) = PF at *
  change Hid (∀ caps W', _ → Calls _ _ #[.agg (ints (gM m)).toArray, _] W' _) at KW
  generalize gM m = G at *
  generalize evI x m = PA at *
  generalize evI y m = PB at *
  have hent1 : ∀ args w, (callFunc k1 args).run Tryz.prog w = .ok (.enter k1 args) w := hen1
  have hent2 : ∀ args w, (callFunc k2 args).run Tryz.prog w = .ok (.enter k2 args) w := hen2
  have hmf : ∀ (fn : Fn) (first cap : Array Value) (w : World), (Instr.makeFunc fn first cap).run Tryz.prog w = .ok (.func fn first cap) w := fun _ _ _ _ => rfl
  clear hb hu1 hu2 hM1 hM2 hW hg HEV hPF hen1 hen2
  go_enter Tryz.func155, Tryz.ntmps155
  have tk1 : True := trivial
  go_wp2_with
    (first
      | (have _t := tk1; clear _t tk1; refine wpList_allocM rfl 106 rfl (bL (fun _ => false)) Tryz.allocSet ?_
         intro w1 hc1 hb1 hs1
         have hzz : (W.alloc (.cells (ints G).toArray 86)).heap.size = W.heap.size + 1 := by simp
         rw [hzz] at hc1 ⊢
         have C0 : Hid (Cm w1 W.heap.size 86 (ints G)) := Lib.hid (Cm.all (Cm.new rfl) hb1)
         have R0 : Hid (Cm w1 (W.heap.size + 1) 106 (bL (fun _ => false))) := Lib.hid hc1
         have B0 : Hid (Below W.heap.size W w1) := Lib.hid (Below.trans (by go_grown) (hb1.mono (by simp)))
         have hq1 : W.heap.size + 1 < w1.heap.size := R0.out.lt
         clear hc1 hb1 hs1 hzz))
  have HRG : Hid (∀ W', Below w1.heap.size w1 W' → W'.rangeAt W.heap.size 0 (ints G)) := Lib.hid (fun W' h => (C0.out.all h).whole)
  have HB1 : Hid (∀ W', Below w1.heap.size w1 W' → W'.cell? ⟨b, 0, none⟩ = some (.slice (some ⟨pb, po, none⟩) 2 c)) := Lib.hid (fun W' h => HB.out W' (B0.out.trans (h.mono B0.out.size)))
  have HV1 : Hid (∀ W', Below w1.heap.size w1 W' → W'.cell? ⟨pb, po, none⟩ = some (.func (.func k1) #[] caps1)) := Lib.hid (fun W' h => HU1.out W' (B0.out.trans (h.mono B0.out.size)))
  have HV2 : Hid (∀ W', Below w1.heap.size w1 W' → W'.cell? ⟨pb, po + 1, none⟩ = some (.func (.func k2) #[] caps2)) := Lib.hid (fun W' h => HU2.out W' (B0.out.trans (h.mono B0.out.size)))
  have HU : Tryz.prog.underlying 86 = some _ := Tryz.underlying86
  try simp only [Act.put, List.setIfInBounds_toArray, List.set_cons_zero, List.set_cons_succ]
  go_cut [4, 5] (fun p4 p5 w' => ∃ b4 b5, p4 = .pointer (some ⟨b4, 0, none⟩) ∧ p5 = .pointer (some ⟨b5, 0, none⟩) ∧ Hid (Cm w' b4 106 (bL PA)) ∧ Hid (Cm w' b5 106 (bL PB)) ∧ Hid (Cm w' W.heap.size 86 (ints G)) ∧ Hid (Cm w' (W.heap.size + 1) 106 (bL (fun _ => false))) ∧ Hid (Below W.heap.size W w'))
  case first =>
    refine regionL (fun W => Below w1.heap.size w1 W) [12, 13] (by kernel_rfl) (Below.refl _ _).drew (fun hHeld => ?_)
    refine takeA (i := 0) (v := .slice (some ⟨pb, po, none⟩) 2 c) 6 rfl rfl (by kernel_rfl) (by kernel_rfl) (by kernel_rfl) (by kernel_rfl) (fun _ _ _ h => h) (Or.inl ⟨by rfl, by intro W hSw; have c1 := HB1.out _ hSw; go_simp⟩) hHeld ?_
    simp only [Act.put, List.setIfInBounds_toArray, List.set_cons_zero, List.set_cons_succ]
    refine takeA (i := 1) (v := .pointer (some ⟨pb, po, none⟩)) 7 rfl rfl (by kernel_rfl) (by kernel_rfl) (by kernel_rfl) (by kernel_rfl) (fun _ _ _ h => h) (Or.inl ⟨by rfl, by intro W hSw; go_simp⟩) hHeld ?_
    simp only [Act.put, List.setIfInBounds_toArray, List.set_cons_zero, List.set_cons_succ]
    refine takeA (i := 2) (v := .func (.func k1) #[] caps1) 8 rfl rfl (by kernel_rfl) (by kernel_rfl) (by kernel_rfl) (by kernel_rfl) (fun _ _ _ h => h) (Or.inl ⟨by rfl, by intro W hSw; have c1 := HV1.out _ hSw; go_simp⟩) hHeld ?_
    simp only [Act.put, List.setIfInBounds_toArray, List.set_cons_zero, List.set_cons_succ]
    refine takeA (i := 3) (v := .agg (ints G).toArray) 9 rfl rfl (by kernel_rfl) (by kernel_rfl) (by kernel_rfl) (by kernel_rfl) (fun _ _ _ h => h) (yieldsIf_load_mid (by rfl) 86 _ rfl W.heap.size 0 rfl (ints G) _ HRG.out HU rfl (by rw [HL.out]; exact Tryz.sizeGrid)) hHeld ?_
    simp only [Act.put, List.setIfInBounds_toArray, List.set_cons_zero, List.set_cons_succ]
    refine takeA (i := 5) (v := .slice (some ⟨pb, po, none⟩) 2 c) 11 rfl rfl (by kernel_rfl) (by kernel_rfl) (by kernel_rfl) (by kernel_rfl) (fun _ _ _ h => h) (Or.inl ⟨by rfl, by intro W hSw; have c1 := HB1.out _ hSw; go_simp⟩) hHeld ?_
    simp only [Act.put, List.setIfInBounds_toArray, List.set_cons_zero, List.set_cons_succ]
    refine takeA (i := 6) (v := .pointer (some ⟨pb, po + 1, none⟩)) 12 rfl rfl (by kernel_rfl) (by kernel_rfl) (by kernel_rfl) (by kernel_rfl) (fun _ _ _ h => h) (Or.inl ⟨by rfl, by intro W hSw; go_simp⟩) hHeld ?_
    simp only [Act.put, List.setIfInBounds_toArray, List.set_cons_zero, List.set_cons_succ]
    refine takeA (i := 7) (v := .func (.func k2) #[] caps2) 13 rfl rfl (by kernel_rfl) (by kernel_rfl) (by kernel_rfl) (by kernel_rfl) (fun _ _ _ h => h) (Or.inl ⟨by rfl, by intro W hSw; have c1 := HV2.out _ hSw; go_simp⟩) hHeld ?_
    simp only [Act.put, List.setIfInBounds_toArray, List.set_cons_zero, List.set_cons_succ]
    refine takeA (i := 8) (v := .agg (ints G).toArray) 14 rfl rfl (by kernel_rfl) (by kernel_rfl) (by kernel_rfl) (by kernel_rfl) (fun _ _ _ h => h) (yieldsIf_load_mid (by rfl) 86 _ rfl W.heap.size 0 rfl (ints G) _ HRG.out HU rfl (by rw [HL.out]; exact Tryz.sizeGrid)) hHeld ?_
    simp only [Act.put, List.setIfInBounds_toArray, List.set_cons_zero, List.set_cons_succ]
    generalize w1.drew = wd at hHeld ⊢
    refine threeL (i := 4) (j := 10) (k := 11) (by kernel_rfl) rfl rfl rfl (by rfl) (by rfl) (by rfl) (fun K hK => ?_) (fun K hK => ?_) (fun K hK => ?_)
    · skip
      go_simp
      refine (KM1.out _ (B0.out.trans (hHeld.mono B0.out.size))).mono ?_
      rintro e w101 ⟨rfl, hb101⟩
      have t101 : Below w1.heap.size w1 w101 := hHeld.trans (hb101.mono hHeld.size)
      clear hb101
      refine hK.out _ _ (fun _ => t101) (fun hHeld => ?_)
      have hHeld := hHeld (by decide)
      clear hK K
      try simp only [Act.put, List.setIfInBounds_toArray, List.set_cons_zero, List.set_cons_succ]
      refine threeL (i := 9) (j := 10) (k := 11) (by kernel_rfl) rfl rfl rfl (by rfl) (by rfl) (by rfl) (fun K hK => ?_) (fun K hK => ?_) (fun K hK => ?_)
      · skip
        go_simp
        refine (KM2.out _ (B0.out.trans (t101.mono B0.out.size))).mono ?_
        rintro e w102 ⟨rfl, hb102⟩
        have t102 : Below w1.heap.size w1 w102 := t101.trans (hb102.mono t101.size)
        clear hb102
        refine hK.out _ _ (fun _ => t102) (fun hHeld => ?_)
        have hHeld := hHeld (by decide)
        clear hK K
        try simp only [Act.put, List.setIfInBounds_toArray, List.set_cons_zero, List.set_cons_succ]
        refine twoL (i := 10) (j := 11) (by kernel_rfl) rfl rfl (by rfl) (by rfl) (fun K hK => ?_) (fun K hK => ?_)
        · skip
          refine wp_allocM 106 4 rfl rfl (bL (fun _ => false)) Tryz.allocSet ?_
          have Z10_103 := Lib.hid (Cm.new (w := w102) (T := 106) (cs := bL (fun _ => false)) rfl)
          have t103 : Below w1.heap.size w1 (w102.alloc (.cells (bL (fun _ => false)).toArray 106)) := t102.alloc t102.size _
          have hs103 := t102.size
          have hz103 : w102.heap.size < (w102.alloc (.cells (bL (fun _ => false)).toArray 106)).heap.size := by simp
          generalize w102.alloc (.cells (bL (fun _ => false)).toArray 106) = w103 at *
          refine hK.out _ _ (fun _ => t103) (fun hHeld => ?_)
          have hHeld := hHeld (by decide)
          clear hK K
          try simp only [Act.put, List.setIfInBounds_toArray, List.set_cons_zero, List.set_cons_succ]
          refine onlyL (i := 11) (by kernel_rfl) rfl (by rfl) (fun K hK => ?_)
          refine wp_allocM 106 5 rfl rfl (bL (fun _ => false)) Tryz.allocSet ?_
          have Z11_104 := Lib.hid (Cm.new (w := w103) (T := 106) (cs := bL (fun _ => false)) rfl)
          have t104 : Below w1.heap.size w1 (w103.alloc (.cells (bL (fun _ => false)).toArray 106)) := t103.alloc t103.size _
          have hs104 := t103.size
          have hz104 : w103.heap.size < (w103.alloc (.cells (bL (fun _ => false)).toArray 106)).heap.size := by simp
          have Z10_104 := Lib.hid (Z10_103.out.alloc (.cells (bL (fun _ => false)).toArray 106))
          have hl10_104 := Z10_103.out.lt
          generalize w103.alloc (.cells (bL (fun _ => false)).toArray 106) = w104 at *
          refine hK.out _ _ (fun _ => t104) (fun hHeld => ?_)
          have hHeld := hHeld (by decide)
          clear hK K
          try simp only [Act.put, List.setIfInBounds_toArray, List.set_cons_zero, List.set_cons_succ]
          have CG105 := Lib.hid (C0.out.all t104)
          have CR105 := Lib.hid (R0.out.all t104)
          have BB105 := Lib.hid (B0.out.trans (t104.mono B0.out.size))
          clear hHeld
          refine onlyL (i := 12) (by kernel_rfl) rfl (by rfl) (fun K hK => ?_)
          refine wp_storeM 106 (.tmp 4) (.tmp 10) rfl rfl w102.heap.size 0 rfl (bL PA) rfl 106 _ Z10_104.out (by rw [bL_len, bL_len]; exact Nat.le_refl _) (by rw [bL_len]; exact Tryz.sizeSet) (fun v hv => bL_one hv) ?_
          intro y1 hc1 ha1
          rw [lay'_all (by rw [bL_len, bL_len])] at hc1
          have ZA105 := Lib.hid hc1
          have ZB105 := Lib.hid (ha1.cm Z11_104.out (by omega))
          have CG105 := Lib.hid (ha1.cm CG105.out (by omega))
          have CR105 := Lib.hid (ha1.cm CR105.out (by omega))
          have BB105 : Hid (Below W.heap.size W y1) := Lib.hid (BB105.out.trans (ha1.below (by omega)))
          clear hc1 ha1
          refine hK.out _ _ (fun h => absurd (by decide) h) (fun _ => ?_)
          clear hK K
          try simp only [Act.put, List.setIfInBounds_toArray, List.set_cons_zero, List.set_cons_succ]
          refine onlyL (i := 13) (by kernel_rfl) rfl (by rfl) (fun K hK => ?_)
          refine wp_storeM 106 (.tmp 5) (.tmp 15) rfl rfl w103.heap.size 0 rfl (bL PB) rfl 106 _ ZB105.out (by rw [bL_len, bL_len]; exact Nat.le_refl _) (by rw [bL_len]; exact Tryz.sizeSet) (fun v hv => bL_one hv) ?_
          intro y2 hc1 ha1
          rw [lay'_all (by rw [bL_len, bL_len])] at hc1
          have ZB105 := Lib.hid hc1
          have ZA105 := Lib.hid (ha1.cm ZA105.out (by omega))
          have CG105 := Lib.hid (ha1.cm CG105.out (by omega))
          have CR105 := Lib.hid (ha1.cm CR105.out (by omega))
          have BB105 : Hid (Below W.heap.size W y2) := Lib.hid (BB105.out.trans (ha1.below (by omega)))
          clear hc1 ha1
          refine hK.out _ _ (fun h => absurd (by decide) h) (fun _ => ?_)
          clear hK K
          refine doneL (by kernel_rfl) ?_ _
          go_wp2_with fail
          go_meet
          case rel => exact ⟨_, _, rfl, rfl, ZA105, ZB105, CG105, CR105, BB105⟩
        · skip
          refine wp_allocM 106 5 rfl rfl (bL (fun _ => false)) Tryz.allocSet ?_
          have Z11_106 := Lib.hid (Cm.new (w := w102) (T := 106) (cs := bL (fun _ => false)) rfl)
          have t106 : Below w1.heap.size w1 (w102.alloc (.cells (bL (fun _ => false)).toArray 106)) := t102.alloc t102.size _
          have hs106 := t102.size
          have hz106 : w102.heap.size < (w102.alloc (.cells (bL (fun _ => false)).toArray 106)).heap.size := by simp
          generalize w102.alloc (.cells (bL (fun _ => false)).toArray 106) = w106 at *
          refine hK.out _ _ (fun _ => t106) (fun hHeld => ?_)
          have hHeld := hHeld (by decide)
          clear hK K
          try simp only [Act.put, List.setIfInBounds_toArray, List.set_cons_zero, List.set_cons_succ]
          refine onlyL (i := 10) (by kernel_rfl) rfl (by rfl) (fun K hK => ?_)
          refine wp_allocM 106 4 rfl rfl (bL (fun _ => false)) Tryz.allocSet ?_
          have Z10_107 := Lib.hid (Cm.new (w := w106) (T := 106) (cs := bL (fun _ => false)) rfl)
          have t107 : Below w1.heap.size w1 (w106.alloc (.cells (bL (fun _ => false)).toArray 106)) := t106.alloc t106.size _
          have hs107 := t106.size
          have hz107 : w106.heap.size < (w106.alloc (.cells (bL (fun _ => false)).toArray 106)).heap.size := by simp
          have Z11_107 := Lib.hid (Z11_106.out.alloc (.cells (bL (fun _ => false)).toArray 106))
          have hl11_107 := Z11_106.out.lt
          generalize w106.alloc (.cells (bL (fun _ => false)).toArray 106) = w107 at *
          refine hK.out _ _ (fun _ => t107) (fun hHeld => ?_)
          have hHeld := hHeld (by decide)
          clear hK K
          try simp only [Act.put, List.setIfInBounds_toArray, List.set_cons_zero, List.set_cons_succ]
          have CG108 := Lib.hid (C0.out.all t107)
          have CR108 := Lib.hid (R0.out.all t107)
          have BB108 := Lib.hid (B0.out.trans (t107.mono B0.out.size))
          clear hHeld
          refine onlyL (i := 12) (by kernel_rfl) rfl (by rfl) (fun K hK => ?_)
          refine wp_storeM 106 (.tmp 4) (.tmp 10) rfl rfl w106.heap.size 0 rfl (bL PA) rfl 106 _ Z10_107.out (by rw [bL_len, bL_len]; exact Nat.le_refl _) (by rw [bL_len]; exact Tryz.sizeSet) (fun v hv => bL_one hv) ?_
          intro y1 hc1 ha1
          rw [lay'_all (by rw [bL_len, bL_len])] at hc1
          have ZA108 := Lib.hid hc1
          have ZB108 := Lib.hid (ha1.cm Z11_107.out (by omega))
          have CG108 := Lib.hid (ha1.cm CG108.out (by omega))
          have CR108 := Lib.hid (ha1.cm CR108.out (by omega))
          have BB108 : Hid (Below W.heap.size W y1) := Lib.hid (BB108.out.trans (ha1.below (by omega)))
          clear hc1 ha1
          refine hK.out _ _ (fun h => absurd (by decide) h) (fun _ => ?_)
          clear hK K
          try simp only [Act.put, List.setIfInBounds_toArray, List.set_cons_zero, List.set_cons_succ]
          refine onlyL (i := 13) (by kernel_rfl) rfl (by rfl) (fun K hK => ?_)
          refine wp_storeM 106 (.tmp 5) (.tmp 15) rfl rfl w102.heap.size 0 rfl (bL PB) rfl 106 _ ZB108.out (by rw [bL_len, bL_len]; exact Nat.le_refl _) (by rw [bL_len]; exact Tryz.sizeSet) (fun v hv => bL_one hv) ?_
          intro y2 hc1 ha1
          rw [lay'_all (by rw [bL_len, bL_len])] at hc1
          have ZB108 := Lib.hid hc1
          have ZA108 := Lib.hid (ha1.cm ZA108.out (by omega))
          have CG108 := Lib.hid (ha1.cm CG108.out (by omega))
          have CR108 := Lib.hid (ha1.cm CR108.out (by omega))
          have BB108 : Hid (Below W.heap.size W y2) := Lib.hid (BB108.out.trans (ha1.below (by omega)))
          clear hc1 ha1
          refine hK.out _ _ (fun h => absurd (by decide) h) (fun _ => ?_)
          clear hK K
          refine doneL (by kernel_rfl) ?_ _
          go_wp2_with fail
          go_meet
          case rel => exact ⟨_, _, rfl, rfl, ZA108, ZB108, CG108, CR108, BB108⟩
      · skip
        refine wp_allocM 106 4 rfl rfl (bL (fun _ => false)) Tryz.allocSet ?_
        have Z10_109 := Lib.hid (Cm.new (w := w101) (T := 106) (cs := bL (fun _ => false)) rfl)
        have t109 : Below w1.heap.size w1 (w101.alloc (.cells (bL (fun _ => false)).toArray 106)) := t101.alloc t101.size _
        have hs109 := t101.size
        have hz109 : w101.heap.size < (w101.alloc (.cells (bL (fun _ => false)).toArray 106)).heap.size := by simp
        generalize w101.alloc (.cells (bL (fun _ => false)).toArray 106) = w109 at *
        refine hK.out _ _ (fun _ => t109) (fun hHeld => ?_)
        have hHeld := hHeld (by decide)
        clear hK K
        try simp only [Act.put, List.setIfInBounds_toArray, List.set_cons_zero, List.set_cons_succ]
        refine twoL (i := 9) (j := 11) (by kernel_rfl) rfl rfl (by rfl) (by rfl) (fun K hK => ?_) (fun K hK => ?_)
        · skip
          go_simp
          refine (KM2.out _ (B0.out.trans (t109.mono B0.out.size))).mono ?_
          rintro e w110 ⟨rfl, hb110⟩
          have t110 : Below w1.heap.size w1 w110 := t109.trans (hb110.mono t109.size)
          have Z10_110 := Lib.hid (Z10_109.out.all hb110)
          clear hb110
          refine hK.out _ _ (fun _ => t110) (fun hHeld => ?_)
          have hHeld := hHeld (by decide)
          clear hK K
          try simp only [Act.put, List.setIfInBounds_toArray, List.set_cons_zero, List.set_cons_succ]
          refine onlyL (i := 11) (by kernel_rfl) rfl (by rfl) (fun K hK => ?_)
          refine wp_allocM 106 5 rfl rfl (bL (fun _ => false)) Tryz.allocSet ?_
          have Z11_111 := Lib.hid (Cm.new (w := w110) (T := 106) (cs := bL (fun _ => false)) rfl)
          have t111 : Below w1.heap.size w1 (w110.alloc (.cells (bL (fun _ => false)).toArray 106)) := t110.alloc t110.size _
          have hs111 := t110.size
          have hz111 : w110.heap.size < (w110.alloc (.cells (bL (fun _ => false)).toArray 106)).heap.size := by simp
          have Z10_111 := Lib.hid (Z10_110.out.alloc (.cells (bL (fun _ => false)).toArray 106))
          have hl10_111 := Z10_110.out.lt
          generalize w110.alloc (.cells (bL (fun _ => false)).toArray 106) = w111 at *
          refine hK.out _ _ (fun _ => t111) (fun hHeld => ?_)
          have hHeld := hHeld (by decide)
          clear hK K
          try simp only [Act.put, List.setIfInBounds_toArray, List.set_cons_zero, List.set_cons_succ]
          have CG112 := Lib.hid (C0.out.all t111)
          have CR112 := Lib.hid (R0.out.all t111)
          have BB112 := Lib.hid (B0.out.trans (t111.mono B0.out.size))
          clear hHeld
          refine onlyL (i := 12) (by kernel_rfl) rfl (by rfl) (fun K hK => ?_)
          refine wp_storeM 106 (.tmp 4) (.tmp 10) rfl rfl w101.heap.size 0 rfl (bL PA) rfl 106 _ Z10_111.out (by rw [bL_len, bL_len]; exact Nat.le_refl _) (by rw [bL_len]; exact Tryz.sizeSet) (fun v hv => bL_one hv) ?_
          intro y1 hc1 ha1
          rw [lay'_all (by rw [bL_len, bL_len])] at hc1
          have ZA112 := Lib.hid hc1
          have ZB112 := Lib.hid (ha1.cm Z11_111.out (by omega))
          have CG112 := Lib.hid (ha1.cm CG112.out (by omega))
          have CR112 := Lib.hid (ha1.cm CR112.out (by omega))
          have BB112 : Hid (Below W.heap.size W y1) := Lib.hid (BB112.out.trans (ha1.below (by omega)))
          clear hc1 ha1
          refine hK.out _ _ (fun h => absurd (by decide) h) (fun _ => ?_)
          clear hK K
          try simp only [Act.put, List.setIfInBounds_toArray, List.set_cons_zero, List.set_cons_succ]
          refine onlyL (i := 13) (by kernel_rfl) rfl (by rfl) (fun K hK => ?_)
          refine wp_storeM 106 (.tmp 5) (.tmp 15) rfl rfl w110.heap.size 0 rfl (bL PB) rfl 106 _ ZB112.out (by rw [bL_len, bL_len]; exact Nat.le_refl _) (by rw [bL_len]; exact Tryz.sizeSet) (fun v hv => bL_one hv) ?_
          intro y2 hc1 ha1
          rw [lay'_all (by rw [bL_len, bL_len])] at hc1
          have ZB112 := Lib.hid hc1
          have ZA112 := Lib.hid (ha1.cm ZA112.out (by omega))
          have CG112 := Lib.hid (ha1.cm CG112.out (by omega))
          have CR112 := Lib.hid (ha1.cm CR112.out (by omega))
          have BB112 : Hid (Below W.heap.size W y2) := Lib.hid (BB112.out.trans (ha1.below (by omega)))
          clear hc1 ha1
          refine hK.out _ _ (fun h => absurd (by decide) h) (fun _ => ?_)
          clear hK K
          refine doneL (by kernel_rfl) ?_ _
          go_wp2_with fail
          go_meet
          case rel => exact ⟨_, _, rfl, rfl, ZA112, ZB112, CG112, CR112, BB112⟩
        · skip
          refine wp_allocM 106 5 rfl rfl (bL (fun _ => false)) Tryz.allocSet ?_
          have Z11_113 := Lib.hid (Cm.new (w := w109) (T := 106) (cs := bL (fun _ => false)) rfl)
          have t113 : Below w1.heap.size w1 (w109.alloc (.cells (bL (fun _ => false)).toArray 106)) := t109.alloc t109.size _
          have hs113 := t109.size
          have hz113 : w109.heap.size < (w109.alloc (.cells (bL (fun _ => false)).toArray 106)).heap.size := by simp
          have Z10_113 := Lib.hid (Z10_109.out.alloc (.cells (bL (fun _ => false)).toArray 106))
          have hl10_113 := Z10_109.out.lt
          generalize w109.alloc (.cells (bL (fun _ => false)).toArray 106) = w113 at *
          refine hK.out _ _ (fun _ => t113) (fun hHeld => ?_)
          have hHeld := hHeld (by decide)
          clear hK K
          try simp only [Act.put, List.setIfInBounds_toArray, List.set_cons_zero, List.set_cons_succ]
          refine onlyL (i := 9) (by kernel_rfl) rfl (by rfl) (fun K hK => ?_)
          go_simp
          refine (KM2.out _ (B0.out.trans (t113.mono B0.out.size))).mono ?_
          rintro e w114 ⟨rfl, hb114⟩
          have t114 : Below w1.heap.size w1 w114 := t113.trans (hb114.mono t113.size)
          have Z10_114 := Lib.hid (Z10_113.out.all hb114)
          have Z11_114 := Lib.hid (Z11_113.out.all hb114)
          clear hb114
          refine hK.out _ _ (fun _ => t114) (fun hHeld => ?_)
          have hHeld := hHeld (by decide)
          clear hK K
          try simp only [Act.put, List.setIfInBounds_toArray, List.set_cons_zero, List.set_cons_succ]
          have CG115 := Lib.hid (C0.out.all t114)
          have CR115 := Lib.hid (R0.out.all t114)
          have BB115 := Lib.hid (B0.out.trans (t114.mono B0.out.size))
          clear hHeld
          refine onlyL (i := 12) (by kernel_rfl) rfl (by rfl) (fun K hK => ?_)
          refine wp_storeM 106 (.tmp 4) (.tmp 10) rfl rfl w101.heap.size 0 rfl (bL PA) rfl 106 _ Z10_114.out (by rw [bL_len, bL_len]; exact Nat.le_refl _) (by rw [bL_len]; exact Tryz.sizeSet) (fun v hv => bL_one hv) ?_
          intro y1 hc1 ha1
          rw [lay'_all (by rw [bL_len, bL_len])] at hc1
          have ZA115 := Lib.hid hc1
          have ZB115 := Lib.hid (ha1.cm Z11_114.out (by omega))
          have CG115 := Lib.hid (ha1.cm CG115.out (by omega))
          have CR115 := Lib.hid (ha1.cm CR115.out (by omega))
          have BB115 : Hid (Below W.heap.size W y1) := Lib.hid (BB115.out.trans (ha1.below (by omega)))
          clear hc1 ha1
          refine hK.out _ _ (fun h => absurd (by decide) h) (fun _ => ?_)
          clear hK K
          try simp only [Act.put, List.setIfInBounds_toArray, List.set_cons_zero, List.set_cons_succ]
          refine onlyL (i := 13) (by kernel_rfl) rfl (by rfl) (fun K hK => ?_)
          refine wp_storeM 106 (.tmp 5) (.tmp 15) rfl rfl w109.heap.size 0 rfl (bL PB) rfl 106 _ ZB115.out (by rw [bL_len, bL_len]; exact Nat.le_refl _) (by rw [bL_len]; exact Tryz.sizeSet) (fun v hv => bL_one hv) ?_
          intro y2 hc1 ha1
          rw [lay'_all (by rw [bL_len, bL_len])] at hc1
          have ZB115 := Lib.hid hc1
          have ZA115 := Lib.hid (ha1.cm ZA115.out (by omega))
          have CG115 := Lib.hid (ha1.cm CG115.out (by omega))
          have CR115 := Lib.hid (ha1.cm CR115.out (by omega))
          have BB115 : Hid (Below W.heap.size W y2) := Lib.hid (BB115.out.trans (ha1.below (by omega)))
          clear hc1 ha1
          refine hK.out _ _ (fun h => absurd (by decide) h) (fun _ => ?_)
          clear hK K
          refine doneL (by kernel_rfl) ?_ _
          go_wp2_with fail
          go_meet
          case rel => exact ⟨_, _, rfl, rfl, ZA115, ZB115, CG115, CR115, BB115⟩
      · skip
        refine wp_allocM 106 5 rfl rfl (bL (fun _ => false)) Tryz.allocSet ?_
        have Z11_116 := Lib.hid (Cm.new (w := w101) (T := 106) (cs := bL (fun _ => false)) rfl)
        have t116 : Below w1.heap.size w1 (w101.alloc (.cells (bL (fun _ => false)).toArray 106)) := t101.alloc t101.size _
        have hs116 := t101.size
        have hz116 : w101.heap.size < (w101.alloc (.cells (bL (fun _ => false)).toArray 106)).heap.size := by simp
        generalize w101.alloc (.cells (bL (fun _ => false)).toArray 106) = w116 at *
        refine hK.out _ _ (fun _ => t116) (fun hHeld => ?_)
        have hHeld := hHeld (by decide)
        clear hK K
        try simp only [Act.put, List.setIfInBounds_toArray, List.set_cons_zero, List.set_cons_succ]
        refine twoL (i := 9) (j := 10) (by kernel_rfl) rfl rfl (by rfl) (by rfl) (fun K hK => ?_) (fun K hK => ?_)
        · skip
          go_simp
          refine (KM2.out _ (B0.out.trans (t116.mono B0.out.size))).mono ?_
          rintro e w117 ⟨rfl, hb117⟩
          have t117 : Below w1.heap.size w1 w117 := t116.trans (hb117.mono t116.size)
          have Z11_117 := Lib.hid (Z11_116.out.all hb117)
          clear hb117
          refine hK.out _ _ (fun _ => t117) (fun hHeld => ?_)
          have hHeld := hHeld (by decide)
          clear hK K
          try simp only [Act.put, List.setIfInBounds_toArray, List.set_cons_zero, List.set_cons_succ]
          refine onlyL (i := 10) (by kernel_rfl) rfl (by rfl) (fun K hK => ?_)
          refine wp_allocM 106 4 rfl rfl (bL (fun _ => false)) Tryz.allocSet ?_
          have Z10_118 := Lib.hid (Cm.new (w := w117) (T := 106) (cs := bL (fun _ => false)) rfl)
          have t118 : Below w1.heap.size w1 (w117.alloc (.cells (bL (fun _ => false)).toArray 106)) := t117.alloc t117.size _
          have hs118 := t117.size
          have hz118 : w117.heap.size < (w117.alloc (.cells (bL (fun _ => false)).toArray 106)).heap.size := by simp
          have Z11_118 := Lib.hid (Z11_117.out.alloc (.cells (bL (fun _ => false)).toArray 106))
          have hl11_118 := Z11_117.out.lt
          generalize w117.alloc (.cells (bL (fun _ => false)).toArray 106) = w118 at *
          refine hK.out _ _ (fun _ => t118) (fun hHeld => ?_)
          have hHeld := hHeld (by decide)
          clear hK K
          try simp only [Act.put, List.setIfInBounds_toArray, List.set_cons_zero, List.set_cons_succ]
          have CG119 := Lib.hid (C0.out.all t118)
          have CR119 := Lib.hid (R0.out.all t118)
          have BB119 := Lib.hid (B0.out.trans (t118.mono B0.out.size))
          clear hHeld
          refine onlyL (i := 12) (by kernel_rfl) rfl (by rfl) (fun K hK => ?_)
          refine wp_storeM 106 (.tmp 4) (.tmp 10) rfl rfl w117.heap.size 0 rfl (bL PA) rfl 106 _ Z10_118.out (by rw [bL_len, bL_len]; exact Nat.le_refl _) (by rw [bL_len]; exact Tryz.sizeSet) (fun v hv => bL_one hv) ?_
          intro y1 hc1 ha1
          rw [lay'_all (by rw [bL_len, bL_len])] at hc1
          have ZA119 := Lib.hid hc1
          have ZB119 := Lib.hid (ha1.cm Z11_118.out (by omega))
          have CG119 := Lib.hid (ha1.cm CG119.out (by omega))
          have CR119 := Lib.hid (ha1.cm CR119.out (by omega))
          have BB119 : Hid (Below W.heap.size W y1) := Lib.hid (BB119.out.trans (ha1.below (by omega)))
          clear hc1 ha1
          refine hK.out _ _ (fun h => absurd (by decide) h) (fun _ => ?_)
          clear hK K
          try simp only [Act.put, List.setIfInBounds_toArray, List.set_cons_zero, List.set_cons_succ]
          refine onlyL (i := 13) (by kernel_rfl) rfl (by rfl) (fun K hK => ?_)
          refine wp_storeM 106 (.tmp 5) (.tmp 15) rfl rfl w101.heap.size 0 rfl (bL PB) rfl 106 _ ZB119.out (by rw [bL_len, bL_len]; exact Nat.le_refl _) (by rw [bL_len]; exact Tryz.sizeSet) (fun v hv => bL_one hv) ?_
          intro y2 hc1 ha1
          rw [lay'_all (by rw [bL_len, bL_len])] at hc1
          have ZB119 := Lib.hid hc1
          have ZA119 := Lib.hid (ha1.cm ZA119.out (by omega))
          have CG119 := Lib.hid (ha1.cm CG119.out (by omega))
          have CR119 := Lib.hid (ha1.cm CR119.out (by omega))
          have BB119 : Hid (Below W.heap.size W y2) := Lib.hid (BB119.out.trans (ha1.below (by omega)))
          clear hc1 ha1
          refine hK.out _ _ (fun h => absurd (by decide) h) (fun _ => ?_)
          clear hK K
          refine doneL (by kernel_rfl) ?_ _
          go_wp2_with fail
          go_meet
          case rel => exact ⟨_, _, rfl, rfl, ZA119, ZB119, CG119, CR119, BB119⟩
        · skip
          refine wp_allocM 106 4 rfl rfl (bL (fun _ => false)) Tryz.allocSet ?_
          have Z10_120 := Lib.hid (Cm.new (w := w116) (T := 106) (cs := bL (fun _ => false)) rfl)
          have t120 : Below w1.heap.size w1 (w116.alloc (.cells (bL (fun _ => false)).toArray 106)) := t116.alloc t116.size _
          have hs120 := t116.size
          have hz120 : w116.heap.size < (w116.alloc (.cells (bL (fun _ => false)).toArray 106)).heap.size := by simp
          have Z11_120 := Lib.hid (Z11_116.out.alloc (.cells (bL (fun _ => false)).toArray 106))
          have hl11_120 := Z11_116.out.lt
          generalize w116.alloc (.cells (bL (fun _ => false)).toArray 106) = w120 at *
          refine hK.out _ _ (fun _ => t120) (fun hHeld => ?_)
          have hHeld := hHeld (by decide)
          clear hK K
          try simp only [Act.put, List.setIfInBounds_toArray, List.set_cons_zero, List.set_cons_succ]
          refine onlyL (i := 9) (by kernel_rfl) rfl (by rfl) (fun K hK => ?_)
          go_simp
          refine (KM2.out _ (B0.out.trans (t120.mono B0.out.size))).mono ?_
          rintro e w121 ⟨rfl, hb121⟩
          have t121 : Below w1.heap.size w1 w121 := t120.trans (hb121.mono t120.size)
          have Z11_121 := Lib.hid (Z11_120.out.all hb121)
          have Z10_121 := Lib.hid (Z10_120.out.all hb121)
          clear hb121
          refine hK.out _ _ (fun _ => t121) (fun hHeld => ?_)
          have hHeld := hHeld (by decide)
          clear hK K
          try simp only [Act.put, List.setIfInBounds_toArray, List.set_cons_zero, List.set_cons_succ]
          have CG122 := Lib.hid (C0.out.all t121)
          have CR122 := Lib.hid (R0.out.all t121)
          have BB122 := Lib.hid (B0.out.trans (t121.mono B0.out.size))
          clear hHeld
          refine onlyL (i := 12) (by kernel_rfl) rfl (by rfl) (fun K hK => ?_)
          refine wp_storeM 106 (.tmp 4) (.tmp 10) rfl rfl w116.heap.size 0 rfl (bL PA) rfl 106 _ Z10_121.out (by rw [bL_len, bL_len]; exact Nat.le_refl _) (by rw [bL_len]; exact Tryz.sizeSet) (fun v hv => bL_one hv) ?_
          intro y1 hc1 ha1
          rw [lay'_all (by rw [bL_len, bL_len])] at hc1
          have ZA122 := Lib.hid hc1
          have ZB122 := Lib.hid (ha1.cm Z11_121.out (by omega))
          have CG122 := Lib.hid (ha1.cm CG122.out (by omega))
          have CR122 := Lib.hid (ha1.cm CR122.out (by omega))
          have BB122 : Hid (Below W.heap.size W y1) := Lib.hid (BB122.out.trans (ha1.below (by omega)))
          clear hc1 ha1
          refine hK.out _ _ (fun h => absurd (by decide) h) (fun _ => ?_)
          clear hK K
          try simp only [Act.put, List.setIfInBounds_toArray, List.set_cons_zero, List.set_cons_succ]
          refine onlyL (i := 13) (by kernel_rfl) rfl (by rfl) (fun K hK => ?_)
          refine wp_storeM 106 (.tmp 5) (.tmp 15) rfl rfl w101.heap.size 0 rfl (bL PB) rfl 106 _ ZB122.out (by rw [bL_len, bL_len]; exact Nat.le_refl _) (by rw [bL_len]; exact Tryz.sizeSet) (fun v hv => bL_one hv) ?_
          intro y2 hc1 ha1
          rw [lay'_all (by rw [bL_len, bL_len])] at hc1
          have ZB122 := Lib.hid hc1
          have ZA122 := Lib.hid (ha1.cm ZA122.out (by omega))
          have CG122 := Lib.hid (ha1.cm CG122.out (by omega))
          have CR122 := Lib.hid (ha1.cm CR122.out (by omega))
          have BB122 : Hid (Below W.heap.size W y2) := Lib.hid (BB122.out.trans (ha1.below (by omega)))
          clear hc1 ha1
          refine hK.out _ _ (fun h => absurd (by decide) h) (fun _ => ?_)
          clear hK K
          refine doneL (by kernel_rfl) ?_ _
          go_wp2_with fail
          go_meet
          case rel => exact ⟨_, _, rfl, rfl, ZA122, ZB122, CG122, CR122, BB122⟩
    · skip
      refine wp_allocM 106 4 rfl rfl (bL (fun _ => false)) Tryz.allocSet ?_
      have Z10_123 := Lib.hid (Cm.new (w := wd) (T := 106) (cs := bL (fun _ => false)) rfl)
      have t123 : Below w1.heap.size w1 (wd.alloc (.cells (bL (fun _ => false)).toArray 106)) := hHeld.alloc hHeld.size _
      have hs123 := hHeld.size
      have hz123 : wd.heap.size < (wd.alloc (.cells (bL (fun _ => false)).toArray 106)).heap.size := by simp
      generalize wd.alloc (.cells (bL (fun _ => false)).toArray 106) = w123 at *
      refine hK.out _ _ (fun _ => t123) (fun hHeld => ?_)
      have hHeld := hHeld (by decide)
      clear hK K
      try simp only [Act.put, List.setIfInBounds_toArray, List.set_cons_zero, List.set_cons_succ]
      refine twoL (i := 4) (j := 11) (by kernel_rfl) rfl rfl (by rfl) (by rfl) (fun K hK => ?_) (fun K hK => ?_)
      · skip
        go_simp
        refine (KM1.out _ (B0.out.trans (t123.mono B0.out.size))).mono ?_
        rintro e w124 ⟨rfl, hb124⟩
        have t124 : Below w1.heap.size w1 w124 := t123.trans (hb124.mono t123.size)
        have Z10_124 := Lib.hid (Z10_123.out.all hb124)
        clear hb124
        refine hK.out _ _ (fun _ => t124) (fun hHeld => ?_)
        have hHeld := hHeld (by decide)
        clear hK K
        try simp only [Act.put, List.setIfInBounds_toArray, List.set_cons_zero, List.set_cons_succ]
        refine twoL (i := 9) (j := 11) (by kernel_rfl) rfl rfl (by rfl) (by rfl) (fun K hK => ?_) (fun K hK => ?_)
        · skip
          go_simp
          refine (KM2.out _ (B0.out.trans (t124.mono B0.out.size))).mono ?_
          rintro e w125 ⟨rfl, hb125⟩
          have t125 : Below w1.heap.size w1 w125 := t124.trans (hb125.mono t124.size)
          have Z10_125 := Lib.hid (Z10_124.out.all hb125)
          clear hb125
          refine hK.out _ _ (fun _ => t125) (fun hHeld => ?_)
          have hHeld := hHeld (by decide)
          clear hK K
          try simp only [Act.put, List.setIfInBounds_toArray, List.set_cons_zero, List.set_cons_succ]
          refine onlyL (i := 11) (by kernel_rfl) rfl (by rfl) (fun K hK => ?_)
          refine wp_allocM 106 5 rfl rfl (bL (fun _ => false)) Tryz.allocSet ?_
          have Z11_126 := Lib.hid (Cm.new (w := w125) (T := 106) (cs := bL (fun _ => false)) rfl)
          have t126 : Below w1.heap.size w1 (w125.alloc (.cells (bL (fun _ => false)).toArray 106)) := t125.alloc t125.size _
          have hs126 := t125.size
          have hz126 : w125.heap.size < (w125.alloc (.cells (bL (fun _ => false)).toArray 106)).heap.size := by simp
          have Z10_126 := Lib.hid (Z10_125.out.alloc (.cells (bL (fun _ => false)).toArray 106))
          have hl10_126 := Z10_125.out.lt
          generalize w125.alloc (.cells (bL (fun _ => false)).toArray 106) = w126 at *
          refine hK.out _ _ (fun _ => t126) (fun hHeld => ?_)
          have hHeld := hHeld (by decide)
          clear hK K
          try simp only [Act.put, List.setIfInBounds_toArray, List.set_cons_zero, List.set_cons_succ]
          have CG127 := Lib.hid (C0.out.all t126)
          have CR127 := Lib.hid (R0.out.all t126)
          have BB127 := Lib.hid (B0.out.trans (t126.mono B0.out.size))
          clear hHeld
          refine onlyL (i := 12) (by kernel_rfl) rfl (by rfl) (fun K hK => ?_)
          refine wp_storeM 106 (.tmp 4) (.tmp 10) rfl rfl wd.heap.size 0 rfl (bL PA) rfl 106 _ Z10_126.out (by rw [bL_len, bL_len]; exact Nat.le_refl _) (by rw [bL_len]; exact Tryz.sizeSet) (fun v hv => bL_one hv) ?_
          intro y1 hc1 ha1
          rw [lay'_all (by rw [bL_len, bL_len])] at hc1
          have ZA127 := Lib.hid hc1
          have ZB127 := Lib.hid (ha1.cm Z11_126.out (by omega))
          have CG127 := Lib.hid (ha1.cm CG127.out (by omega))
          have CR127 := Lib.hid (ha1.cm CR127.out (by omega))
          have BB127 : Hid (Below W.heap.size W y1) := Lib.hid (BB127.out.trans (ha1.below (by omega)))
          clear hc1 ha1
          refine hK.out _ _ (fun h => absurd (by decide) h) (fun _ => ?_)
          clear hK K
          try simp only [Act.put, List.setIfInBounds_toArray, List.set_cons_zero, List.set_cons_succ]
          refine onlyL (i := 13) (by kernel_rfl) rfl (by rfl) (fun K hK => ?_)
          refine wp_storeM 106 (.tmp 5) (.tmp 15) rfl rfl w125.heap.size 0 rfl (bL PB) rfl 106 _ ZB127.out (by rw [bL_len, bL_len]; exact Nat.le_refl _) (by rw [bL_len]; exact Tryz.sizeSet) (fun v hv => bL_one hv) ?_
          intro y2 hc1 ha1
          rw [lay'_all (by rw [bL_len, bL_len])] at hc1
          have ZB127 := Lib.hid hc1
          have ZA127 := Lib.hid (ha1.cm ZA127.out (by omega))
          have CG127 := Lib.hid (ha1.cm CG127.out (by omega))
          have CR127 := Lib.hid (ha1.cm CR127.out (by omega))
          have BB127 : Hid (Below W.heap.size W y2) := Lib.hid (BB127.out.trans (ha1.below (by omega)))
          clear hc1 ha1
          refine hK.out _ _ (fun h => absurd (by decide) h) (fun _ => ?_)
          clear hK K
          refine doneL (by kernel_rfl) ?_ _
          go_wp2_with fail
          go_meet
          case rel => exact ⟨_, _, rfl, rfl, ZA127, ZB127, CG127, CR127, BB127⟩
        · skip
          refine wp_allocM 106 5 rfl rfl (bL (fun _ => false)) Tryz.allocSet ?_
          have Z11_128 := Lib.hid (Cm.new (w := w124) (T := 106) (cs := bL (fun _ => false)) rfl)
          have t128 : Below w1.heap.size w1 (w124.alloc (.cells (bL (fun _ => false)).toArray 106)) := t124.alloc t124.size _
          have hs128 := t124.size
          have hz128 : w124.heap.size < (w124.alloc (.cells (bL (fun _ => false)).toArray 106)).heap.size := by simp
          have Z10_128 := Lib.hid (Z10_124.out.alloc (.cells (bL (fun _ => false)).toArray 106))
          have hl10_128 := Z10_124.out.lt
          generalize w124.alloc (.cells (bL (fun _ => false)).toArray 106) = w128 at *
          refine hK.out _ _ (fun _ => t128) (fun hHeld => ?_)
          have hHeld := hHeld (by decide)
          clear hK K
          try simp only [Act.put, List.setIfInBounds_toArray, List.set_cons_zero, List.set_cons_succ]
          refine onlyL (i := 9) (by kernel_rfl) rfl (by rfl) (fun K hK => ?_)
          go_simp
          refine (KM2.out _ (B0.out.trans (t128.mono B0.out.size))).mono ?_
          rintro e w129 ⟨rfl, hb129⟩
          have t129 : Below w1.heap.size w1 w129 := t128.trans (hb129.mono t128.size)
          have Z10_129 := Lib.hid (Z10_128.out.all hb129)
          have Z11_129 := Lib.hid (Z11_128.out.all hb129)
          clear hb129
          refine hK.out _ _ (fun _ => t129) (fun hHeld => ?_)
          have hHeld := hHeld (by decide)
          clear hK K
          try simp only [Act.put, List.setIfInBounds_toArray, List.set_cons_zero, List.set_cons_succ]
          have CG130 := Lib.hid (C0.out.all t129)
          have CR130 := Lib.hid (R0.out.all t129)
          have BB130 := Lib.hid (B0.out.trans (t129.mono B0.out.size))
          clear hHeld
          refine onlyL (i := 12) (by kernel_rfl) rfl (by rfl) (fun K hK => ?_)
          refine wp_storeM 106 (.tmp 4) (.tmp 10) rfl rfl wd.heap.size 0 rfl (bL PA) rfl 106 _ Z10_129.out (by rw [bL_len, bL_len]; exact Nat.le_refl _) (by rw [bL_len]; exact Tryz.sizeSet) (fun v hv => bL_one hv) ?_
          intro y1 hc1 ha1
          rw [lay'_all (by rw [bL_len, bL_len])] at hc1
          have ZA130 := Lib.hid hc1
          have ZB130 := Lib.hid (ha1.cm Z11_129.out (by omega))
          have CG130 := Lib.hid (ha1.cm CG130.out (by omega))
          have CR130 := Lib.hid (ha1.cm CR130.out (by omega))
          have BB130 : Hid (Below W.heap.size W y1) := Lib.hid (BB130.out.trans (ha1.below (by omega)))
          clear hc1 ha1
          refine hK.out _ _ (fun h => absurd (by decide) h) (fun _ => ?_)
          clear hK K
          try simp only [Act.put, List.setIfInBounds_toArray, List.set_cons_zero, List.set_cons_succ]
          refine onlyL (i := 13) (by kernel_rfl) rfl (by rfl) (fun K hK => ?_)
          refine wp_storeM 106 (.tmp 5) (.tmp 15) rfl rfl w124.heap.size 0 rfl (bL PB) rfl 106 _ ZB130.out (by rw [bL_len, bL_len]; exact Nat.le_refl _) (by rw [bL_len]; exact Tryz.sizeSet) (fun v hv => bL_one hv) ?_
          intro y2 hc1 ha1
          rw [lay'_all (by rw [bL_len, bL_len])] at hc1
          have ZB130 := Lib.hid hc1
          have ZA130 := Lib.hid (ha1.cm ZA130.out (by omega))
          have CG130 := Lib.hid (ha1.cm CG130.out (by omega))
          have CR130 := Lib.hid (ha1.cm CR130.out (by omega))
          have BB130 : Hid (Below W.heap.size W y2) := Lib.hid (BB130.out.trans (ha1.below (by omega)))
          clear hc1 ha1
          refine hK.out _ _ (fun h => absurd (by decide) h) (fun _ => ?_)
          clear hK K
          refine doneL (by kernel_rfl) ?_ _
          go_wp2_with fail
          go_meet
          case rel => exact ⟨_, _, rfl, rfl, ZA130, ZB130, CG130, CR130, BB130⟩
      · skip
        refine wp_allocM 106 5 rfl rfl (bL (fun _ => false)) Tryz.allocSet ?_
        have Z11_131 := Lib.hid (Cm.new (w := w123) (T := 106) (cs := bL (fun _ => false)) rfl)
        have t131 : Below w1.heap.size w1 (w123.alloc (.cells (bL (fun _ => false)).toArray 106)) := t123.alloc t123.size _
        have hs131 := t123.size
        have hz131 : w123.heap.size < (w123.alloc (.cells (bL (fun _ => false)).toArray 106)).heap.size := by simp
        have Z10_131 := Lib.hid (Z10_123.out.alloc (.cells (bL (fun _ => false)).toArray 106))
        have hl10_131 := Z10_123.out.lt
        generalize w123.alloc (.cells (bL (fun _ => false)).toArray 106) = w131 at *
        refine hK.out _ _ (fun _ => t131) (fun hHeld => ?_)
        have hHeld := hHeld (by decide)
        clear hK K
        try simp only [Act.put, List.setIfInBounds_toArray, List.set_cons_zero, List.set_cons_succ]
        refine onlyL (i := 4) (by kernel_rfl) rfl (by rfl) (fun K hK => ?_)
        go_simp
        refine (KM1.out _ (B0.out.trans (t131.mono B0.out.size))).mono ?_
        rintro e w132 ⟨rfl, hb132⟩
        have t132 : Below w1.heap.size w1 w132 := t131.trans (hb132.mono t131.size)
        have Z10_132 := Lib.hid (Z10_131.out.all hb132)
        have Z11_132 := Lib.hid (Z11_131.out.all hb132)
        clear hb132
        refine hK.out _ _ (fun _ => t132) (fun hHeld => ?_)
        have hHeld := hHeld (by decide)
        clear hK K
        try simp only [Act.put, List.setIfInBounds_toArray, List.set_cons_zero, List.set_cons_succ]
        refine onlyL (i := 9) (by kernel_rfl) rfl (by rfl) (fun K hK => ?_)
        go_simp
        refine (KM2.out _ (B0.out.trans (t132.mono B0.out.size))).mono ?_
        rintro e w133 ⟨rfl, hb133⟩
        have t133 : Below w1.heap.size w1 w133 := t132.trans (hb133.mono t132.size)
        have Z10_133 := Lib.hid (Z10_132.out.all hb133)
        have Z11_133 := Lib.hid (Z11_132.out.all hb133)
        clear hb133
        refine hK.out _ _ (fun _ => t133) (fun hHeld => ?_)
        have hHeld := hHeld (by decide)
        clear hK K
        try simp only [Act.put, List.setIfInBounds_toArray, List.set_cons_zero, List.set_cons_succ]
        have CG134 := Lib.hid (C0.out.all t133)
        have CR134 := Lib.hid (R0.out.all t133)
        have BB134 := Lib.hid (B0.out.trans (t133.mono B0.out.size))
        clear hHeld
        refine onlyL (i := 12) (by kernel_rfl) rfl (by rfl) (fun K hK => ?_)
        refine wp_storeM 106 (.tmp 4) (.tmp 10) rfl rfl wd.heap.size 0 rfl (bL PA) rfl 106 _ Z10_133.out (by rw [bL_len, bL_len]; exact Nat.le_refl _) (by rw [bL_len]; exact Tryz.sizeSet) (fun v hv => bL_one hv) ?_
        intro y1 hc1 ha1
        rw [lay'_all (by rw [bL_len, bL_len])] at hc1
        have ZA134 := Lib.hid hc1
        have ZB134 := Lib.hid (ha1.cm Z11_133.out (by omega))
        have CG134 := Lib.hid (ha1.cm CG134.out (by omega))
        have CR134 := Lib.hid (ha1.cm CR134.out (by omega))
        have BB134 : Hid (Below W.heap.size W y1) := Lib.hid (BB134.out.trans (ha1.below (by omega)))
        clear hc1 ha1
        refine hK.out _ _ (fun h => absurd (by decide) h) (fun _ => ?_)
        clear hK K
        try simp only [Act.put, List.setIfInBounds_toArray, List.set_cons_zero, List.set_cons_succ]
        refine onlyL (i := 13) (by kernel_rfl) rfl (by rfl) (fun K hK => ?_)
        refine wp_storeM 106 (.tmp 5) (.tmp 15) rfl rfl w123.heap.size 0 rfl (bL PB) rfl 106 _ ZB134.out (by rw [bL_len, bL_len]; exact Nat.le_refl _) (by rw [bL_len]; exact Tryz.sizeSet) (fun v hv => bL_one hv) ?_
        intro y2 hc1 ha1
        rw [lay'_all (by rw [bL_len, bL_len])] at hc1
        have ZB134 := Lib.hid hc1
        have ZA134 := Lib.hid (ha1.cm ZA134.out (by omega))
        have CG134 := Lib.hid (ha1.cm CG134.out (by omega))
        have CR134 := Lib.hid (ha1.cm CR134.out (by omega))
        have BB134 : Hid (Below W.heap.size W y2) := Lib.hid (BB134.out.trans (ha1.below (by omega)))
        clear hc1 ha1
        refine hK.out _ _ (fun h => absurd (by decide) h) (fun _ => ?_)
        clear hK K
        refine doneL (by kernel_rfl) ?_ _
        go_wp2_with fail
        go_meet
        case rel => exact ⟨_, _, rfl, rfl, ZA134, ZB134, CG134, CR134, BB134⟩
    · skip
      refine wp_allocM 106 5 rfl rfl (bL (fun _ => false)) Tryz.allocSet ?_
      have Z11_135 := Lib.hid (Cm.new (w := wd) (T := 106) (cs := bL (fun _ => false)) rfl)
      have t135 : Below w1.heap.size w1 (wd.alloc (.cells (bL (fun _ => false)).toArray 106)) := hHeld.alloc hHeld.size _
      have hs135 := hHeld.size
      have hz135 : wd.heap.size < (wd.alloc (.cells (bL (fun _ => false)).toArray 106)).heap.size := by simp
      generalize wd.alloc (.cells (bL (fun _ => false)).toArray 106) = w135 at *
      refine hK.out _ _ (fun _ => t135) (fun hHeld => ?_)
      have hHeld := hHeld (by decide)
      clear hK K
      try simp only [Act.put, List.setIfInBounds_toArray, List.set_cons_zero, List.set_cons_succ]
      refine twoL (i := 4) (j := 10) (by kernel_rfl) rfl rfl (by rfl) (by rfl) (fun K hK => ?_) (fun K hK => ?_)
      · skip
        go_simp
        refine (KM1.out _ (B0.out.trans (t135.mono B0.out.size))).mono ?_
        rintro e w136 ⟨rfl, hb136⟩
        have t136 : Below w1.heap.size w1 w136 := t135.trans (hb136.mono t135.size)
        have Z11_136 := Lib.hid (Z11_135.out.all hb136)
        clear hb136
        refine hK.out _ _ (fun _ => t136) (fun hHeld => ?_)
        have hHeld := hHeld (by decide)
        clear hK K
        try simp only [Act.put, List.setIfInBounds_toArray, List.set_cons_zero, List.set_cons_succ]
        refine twoL (i := 9) (j := 10) (by kernel_rfl) rfl rfl (by rfl) (by rfl) (fun K hK => ?_) (fun K hK => ?_)
        · skip
          go_simp
          refine (KM2.out _ (B0.out.trans (t136.mono B0.out.size))).mono ?_
          rintro e w137 ⟨rfl, hb137⟩
          have t137 : Below w1.heap.size w1 w137 := t136.trans (hb137.mono t136.size)
          have Z11_137 := Lib.hid (Z11_136.out.all hb137)
          clear hb137
          refine hK.out _ _ (fun _ => t137) (fun hHeld => ?_)
          have hHeld := hHeld (by decide)
          clear hK K
          try simp only [Act.put, List.setIfInBounds_toArray, List.set_cons_zero, List.set_cons_succ]
          refine onlyL (i := 10) (by kernel_rfl) rfl (by rfl) (fun K hK => ?_)
          refine wp_allocM 106 4 rfl rfl (bL (fun _ => false)) Tryz.allocSet ?_
          have Z10_138 := Lib.hid (Cm.new (w := w137) (T := 106) (cs := bL (fun _ => false)) rfl)
          have t138 : Below w1.heap.size w1 (w137.alloc (.cells (bL (fun _ => false)).toArray 106)) := t137.alloc t137.size _
          have hs138 := t137.size
          have hz138 : w137.heap.size < (w137.alloc (.cells (bL (fun _ => false)).toArray 106)).heap.size := by simp
          have Z11_138 := Lib.hid (Z11_137.out.alloc (.cells (bL (fun _ => false)).toArray 106))
          have hl11_138 := Z11_137.out.lt
          generalize w137.alloc (.cells (bL (fun _ => false)).toArray 106) = w138 at *
          refine hK.out _ _ (fun _ => t138) (fun hHeld => ?_)
          have hHeld := hHeld (by decide)
          clear hK K
          try simp only [Act.put, List.setIfInBounds_toArray, List.set_cons_zero, List.set_cons_succ]
          have CG139 := Lib.hid (C0.out.all t138)
          have CR139 := Lib.hid (R0.out.all t138)
          have BB139 := Lib.hid (B0.out.trans (t138.mono B0.out.size))
          clear hHeld
          refine onlyL (i := 12) (by kernel_rfl) rfl (by rfl) (fun K hK => ?_)
          refine wp_storeM 106 (.tmp 4) (.tmp 10) rfl rfl w137.heap.size 0 rfl (bL PA) rfl 106 _ Z10_138.out (by rw [bL_len, bL_len]; exact Nat.le_refl _) (by rw [bL_len]; exact Tryz.sizeSet) (fun v hv => bL_one hv) ?_
          intro y1 hc1 ha1
          rw [lay'_all (by rw [bL_len, bL_len])] at hc1
          have ZA139 := Lib.hid hc1
          have ZB139 := Lib.hid (ha1.cm Z11_138.out (by omega))
          have CG139 := Lib.hid (ha1.cm CG139.out (by omega))
          have CR139 := Lib.hid (ha1.cm CR139.out (by omega))
          have BB139 : Hid (Below W.heap.size W y1) := Lib.hid (BB139.out.trans (ha1.below (by omega)))
          clear hc1 ha1
          refine hK.out _ _ (fun h => absurd (by decide) h) (fun _ => ?_)
          clear hK K
          try simp only [Act.put, List.setIfInBounds_toArray, List.set_cons_zero, List.set_cons_succ]
          refine onlyL (i := 13) (by kernel_rfl) rfl (by rfl) (fun K hK => ?_)
          refine wp_storeM 106 (.tmp 5) (.tmp 15) rfl rfl wd.heap.size 0 rfl (bL PB) rfl 106 _ ZB139.out (by rw [bL_len, bL_len]; exact Nat.le_refl _) (by rw [bL_len]; exact Tryz.sizeSet) (fun v hv => bL_one hv) ?_
          intro y2 hc1 ha1
          rw [lay'_all (by rw [bL_len, bL_len])] at hc1
          have ZB139 := Lib.hid hc1
          have ZA139 := Lib.hid (ha1.cm ZA139.out (by omega))
          have CG139 := Lib.hid (ha1.cm CG139.out (by omega))
          have CR139 := Lib.hid (ha1.cm CR139.out (by omega))
          have BB139 : Hid (Below W.heap.size W y2) := Lib.hid (BB139.out.trans (ha1.below (by omega)))
          clear hc1 ha1
          refine hK.out _ _ (fun h => absurd (by decide) h) (fun _ => ?_)
          clear hK K
          refine doneL (by kernel_rfl) ?_ _
          go_wp2_with fail
          go_meet
          case rel => exact ⟨_, _, rfl, rfl, ZA139, ZB139, CG139, CR139, BB139⟩
        · skip
          refine wp_allocM 106 4 rfl rfl (bL (fun _ => false)) Tryz.allocSet ?_
          have Z10_140 := Lib.hid (Cm.new (w := w136) (T := 106) (cs := bL (fun _ => false)) rfl)
          have t140 : Below w1.heap.size w1 (w136.alloc (.cells (bL (fun _ => false)).toArray 106)) := t136.alloc t136.size _
          have hs140 := t136.size
          have hz140 : w136.heap.size < (w136.alloc (.cells (bL (fun _ => false)).toArray 106)).heap.size := by simp
          have Z11_140 := Lib.hid (Z11_136.out.alloc (.cells (bL (fun _ => false)).toArray 106))
          have hl11_140 := Z11_136.out.lt
          generalize w136.alloc (.cells (bL (fun _ => false)).toArray 106) = w140 at *
          refine hK.out _ _ (fun _ => t140) (fun hHeld => ?_)
          have hHeld := hHeld (by decide)
          clear hK K
          try simp only [Act.put, List.setIfInBounds_toArray, List.set_cons_zero, List.set_cons_succ]
          refine onlyL (i := 9) (by kernel_rfl) rfl (by rfl) (fun K hK => ?_)
          go_simp
          refine (KM2.out _ (B0.out.trans (t140.mono B0.out.size))).mono ?_
          rintro e w141 ⟨rfl, hb141⟩
          have t141 : Below w1.heap.size w1 w141 := t140.trans (hb141.mono t140.size)
          have Z11_141 := Lib.hid (Z11_140.out.all hb141)
          have Z10_141 := Lib.hid (Z10_140.out.all hb141)
          clear hb141
          refine hK.out _ _ (fun _ => t141) (fun hHeld => ?_)
          have hHeld := hHeld (by decide)
          clear hK K
          try simp only [Act.put, List.setIfInBounds_toArray, List.set_cons_zero, List.set_cons_succ]
          have CG142 := Lib.hid (C0.out.all t141)
          have CR142 := Lib.hid (R0.out.all t141)
          have BB142 := Lib.hid (B0.out.trans (t141.mono B0.out.size))
          clear hHeld
          refine onlyL (i := 12) (by kernel_rfl) rfl (by rfl) (fun K hK => ?_)
          refine wp_storeM 106 (.tmp 4) (.tmp 10) rfl rfl w136.heap.size 0 rfl (bL PA) rfl 106 _ Z10_141.out (by rw [bL_len, bL_len]; exact Nat.le_refl _) (by rw [bL_len]; exact Tryz.sizeSet) (fun v hv => bL_one hv) ?_
          intro y1 hc1 ha1
          rw [lay'_all (by rw [bL_len, bL_len])] at hc1
          have ZA142 := Lib.hid hc1
          have ZB142 := Lib.hid (ha1.cm Z11_141.out (by omega))
          have CG142 := Lib.hid (ha1.cm CG142.out (by omega))
          have CR142 := Lib.hid (ha1.cm CR142.out (by omega))
          have BB142 : Hid (Below W.heap.size W y1) := Lib.hid (BB142.out.trans (ha1.below (by omega)))
          clear hc1 ha1
          refine hK.out _ _ (fun h => absurd (by decide) h) (fun _ => ?_)
          clear hK K
          try simp only [Act.put, List.setIfInBounds_toArray, List.set_cons_zero, List.set_cons_succ]
          refine onlyL (i := 13) (by kernel_rfl) rfl (by rfl) (fun K hK => ?_)
          refine wp_storeM 106 (.tmp 5) (.tmp 15) rfl rfl wd.heap.size 0 rfl (bL PB) rfl 106 _ ZB142.out (by rw [bL_len, bL_len]; exact Nat.le_refl _) (by rw [bL_len]; exact Tryz.sizeSet) (fun v hv => bL_one hv) ?_
          intro y2 hc1 ha1
          rw [lay'_all (by rw [bL_len, bL_len])] at hc1
          have ZB142 := Lib.hid hc1
          have ZA142 := Lib.hid (ha1.cm ZA142.out (by omega))
          have CG142 := Lib.hid (ha1.cm CG142.out (by omega))
          have CR142 := Lib.hid (ha1.cm CR142.out (by omega))
          have BB142 : Hid (Below W.heap.size W y2) := Lib.hid (BB142.out.trans (ha1.below (by omega)))
          clear hc1 ha1
          refine hK.out _ _ (fun h => absurd (by decide) h) (fun _ => ?_)
          clear hK K
          refine doneL (by kernel_rfl) ?_ _
          go_wp2_with fail
          go_meet
          case rel => exact ⟨_, _, rfl, rfl, ZA142, ZB142, CG142, CR142, BB142⟩
      · skip
        refine wp_allocM 106 4 rfl rfl (bL (fun _ => false)) Tryz.allocSet ?_
        have Z10_143 := Lib.hid (Cm.new (w := w135) (T := 106) (cs := bL (fun _ => false)) rfl)
        have t143 : Below w1.heap.size w1 (w135.alloc (.cells (bL (fun _ => false)).toArray 106)) := t135.alloc t135.size _
        have hs143 := t135.size
        have hz143 : w135.heap.size < (w135.alloc (.cells (bL (fun _ => false)).toArray 106)).heap.size := by simp
        have Z11_143 := Lib.hid (Z11_135.out.alloc (.cells (bL (fun _ => false)).toArray 106))
        have hl11_143 := Z11_135.out.lt
        generalize w135.alloc (.cells (bL (fun _ => false)).toArray 106) = w143 at *
        refine hK.out _ _ (fun _ => t143) (fun hHeld => ?_)
        have hHeld := hHeld (by decide)
        clear hK K
        try simp only [Act.put, List.setIfInBounds_toArray, List.set_cons_zero, List.set_cons_succ]
        refine onlyL (i := 4) (by kernel_rfl) rfl (by rfl) (fun K hK => ?_)
        go_simp
        refine (KM1.out _ (B0.out.trans (t143.mono B0.out.size))).mono ?_
        rintro e w144 ⟨rfl, hb144⟩
        have t144 : Below w1.heap.size w1 w144 := t143.trans (hb144.mono t143.size)
        have Z11_144 := Lib.hid (Z11_143.out.all hb144)
        have Z10_144 := Lib.hid (Z10_143.out.all hb144)
        clear hb144
        refine hK.out _ _ (fun _ => t144) (fun hHeld => ?_)
        have hHeld := hHeld (by decide)
        clear hK K
        try simp only [Act.put, List.setIfInBounds_toArray, List.set_cons_zero, List.set_cons_succ]
        refine onlyL (i := 9) (by kernel_rfl) rfl (by rfl) (fun K hK => ?_)
        go_simp
        refine (KM2.out _ (B0.out.trans (t144.mono B0.out.size))).mono ?_
        rintro e w145 ⟨rfl, hb145⟩
        have t145 : Below w1.heap.size w1 w145 := t144.trans (hb145.mono t144.size)
        have Z11_145 := Lib.hid (Z11_144.out.all hb145)
        have Z10_145 := Lib.hid (Z10_144.out.all hb145)
        clear hb145
        refine hK.out _ _ (fun _ => t145) (fun hHeld => ?_)
        have hHeld := hHeld (by decide)
        clear hK K
        try simp only [Act.put, List.setIfInBounds_toArray, List.set_cons_zero, List.set_cons_succ]
        have CG146 := Lib.hid (C0.out.all t145)
        have CR146 := Lib.hid (R0.out.all t145)
        have BB146 := Lib.hid (B0.out.trans (t145.mono B0.out.size))
        clear hHeld
        refine onlyL (i := 12) (by kernel_rfl) rfl (by rfl) (fun K hK => ?_)
        refine wp_storeM 106 (.tmp 4) (.tmp 10) rfl rfl w135.heap.size 0 rfl (bL PA) rfl 106 _ Z10_145.out (by rw [bL_len, bL_len]; exact Nat.le_refl _) (by rw [bL_len]; exact Tryz.sizeSet) (fun v hv => bL_one hv) ?_
        intro y1 hc1 ha1
        rw [lay'_all (by rw [bL_len, bL_len])] at hc1
        have ZA146 := Lib.hid hc1
        have ZB146 := Lib.hid (ha1.cm Z11_145.out (by omega))
        have CG146 := Lib.hid (ha1.cm CG146.out (by omega))
        have CR146 := Lib.hid (ha1.cm CR146.out (by omega))
        have BB146 : Hid (Below W.heap.size W y1) := Lib.hid (BB146.out.trans (ha1.below (by omega)))
        clear hc1 ha1
        refine hK.out _ _ (fun h => absurd (by decide) h) (fun _ => ?_)
        clear hK K
        try simp only [Act.put, List.setIfInBounds_toArray, List.set_cons_zero, List.set_cons_succ]
        refine onlyL (i := 13) (by kernel_rfl) rfl (by rfl) (fun K hK => ?_)
        refine wp_storeM 106 (.tmp 5) (.tmp 15) rfl rfl wd.heap.size 0 rfl (bL PB) rfl 106 _ ZB146.out (by rw [bL_len, bL_len]; exact Nat.le_refl _) (by rw [bL_len]; exact Tryz.sizeSet) (fun v hv => bL_one hv) ?_
        intro y2 hc1 ha1
        rw [lay'_all (by rw [bL_len, bL_len])] at hc1
        have ZB146 := Lib.hid hc1
        have ZA146 := Lib.hid (ha1.cm ZA146.out (by omega))
        have CG146 := Lib.hid (ha1.cm CG146.out (by omega))
        have CR146 := Lib.hid (ha1.cm CR146.out (by omega))
        have BB146 : Hid (Below W.heap.size W y2) := Lib.hid (BB146.out.trans (ha1.below (by omega)))
        clear hc1 ha1
        refine hK.out _ _ (fun h => absurd (by decide) h) (fun _ => ?_)
        clear hK K
        refine doneL (by kernel_rfl) ?_ _
        go_wp2_with fail
        go_meet
        case rel => exact ⟨_, _, rfl, rfl, ZA146, ZB146, CG146, CR146, BB146⟩
  case rest =>
    clear C0 R0 B0 HRG HB1 HV1 HV2 HU KM1 KM2 HB HU1 HU2 hent1 hent2
    obtain ⟨b4, b5, rfl, rfl, Z4, Z5, CC, RR, BB⟩ := hcut
    have tk2 : True := trivial
    have tk3 : True := trivial
    have tk4 : True := trivial
    go_wp2_with
      (first
        | (have _t := tk2; clear _t tk2; refine wpList_loadM rfl 86 _ rfl W.heap.size 0 rfl 86 (ints G) (ints G) CC.out (fun j _ => by rw [Nat.zero_add]) _ Tryz.underlying86 rfl (by rw [HL.out]; exact Tryz.sizeGrid) ?_)
        | (have _t := tk3; clear _t tk3; go_at_call 149; (with_reducible refine (KW.out _ _ (KT.out _ _ _ Z4.out Z5.out)).mono ?_); rintro e w2 ⟨rfl, hb2⟩; have R2 := Lib.hid (RR.out.all hb2); have B2 := Lib.hid (BB.out.trans (hb2.mono BB.out.size)); clear hb2)
        | (have _t := tk4; clear _t tk4; refine wpList_storeM rfl 106 (.tmp 3) (.tmp 18) rfl (W.heap.size + 1) 0 rfl (bL PF) rfl 106 _ R2.out (by rw [bL_len, bL_len]; exact Nat.le_refl _) (by rw [bL_len]; exact Tryz.sizeSet) (fun v hv => bL_one hv) ?_
           intro w5 hc5 ha5
           rw [lay'_all (by rw [bL_len, bL_len])] at hc5
           have R5 := Lib.hid hc5
           have B5 : Hid (Below W.heap.size W w5) := Lib.hid (B2.out.trans (ha5.below (by omega)))
           clear hc5 ha5))
    refine bodyPost_ret (results_mid1 Tryz.results155 _ _ (W.heap.size + 1) (bL PF) _ rfl R5.out.whole Tryz.underlying106 rfl (by rw [bL_len]; exact Tryz.sizeSet)) rfl ?_
    exact ⟨rfl, B5.out⟩
end Go.Proofs.YtgmpenchojnihaaGreat
