/-
  spec.l06Both: the model of two models. Condition: both are valid, of the same agents, and their worlds fit.
-/
import Derived.Test.YtpodpadcaflehaaJng
import Derived.Test.YtpodpadcaflehaaZSpc
import Derived.Test.YtpodpadcaflehaaZSet
import Derived.Test.YtpodpadcaflehaaZMok
import Derived.Deep.DeepCutAuto
namespace Go.Proofs.Ytpodpadcaflehaa
open Go.RowKit Go.WideShapes
open Go Go.Deep
set_option linter.unusedSimpArgs false

theorem rows_takeB {f : Nat → List Int} {A j : Nat} (h : j < A) : ((List.range A).map f).take (j + 1) = ((List.range A).map f).take j ++ [f j] := by
  rw [← List.map_take, ← List.map_take, List.take_range, List.take_range, Nat.min_eq_left (by omega), Nat.min_eq_left (by omega), List.range_succ, List.map_append]; rfl
theorem take_snocB {l : List Int} {a : Nat} (h : a < l.length) : l.take (a + 1) = l.take a ++ [l.getD a 0] := by
  rw [List.take_add_one, List.getD_eq_getElem?_getD, List.getElem?_eq_getElem h]; rfl
theorem own_formE {w : World} {base : Nat} {e : TypeId} {v : Value} {n : Nat} {xs : List Value} (h : w.ownsRow base e 1 v n xs) : ∃ a c, v = .slice a n c := by
  rcases h.2 with ⟨rfl, rfl⟩ | ⟨g, cap, cur, rfl, _⟩
  · exact ⟨_, _, rfl⟩
  · exact ⟨_, _, rfl⟩
theorem bothRow_take {m n : Md} {k q : Nat} (hq : q < (n.blocks.getD k []).length) : m.blocks.getD k [] ++ ((n.blocks.getD k []).take (q + 1)).map (16 + ·) = (m.blocks.getD k [] ++ ((n.blocks.getD k []).take q).map (16 + ·)) ++ [16 + (n.blocks.getD k []).getD q 0] := by
  rw [take_snocB hq, List.map_append, List.append_assoc]; rfl

set_option maxRecDepth 100000 in
set_option maxHeartbeats 64000000 in
theorem specBoth_any (lo hi lo2 hi2 : Nat) (v v2 : Value) (m n : Md) (w : World) (hr : Mv lo hi w v m) (hr2 : Mv lo2 hi2 w v2 n) (hm : mdOk m = true) (hn : mdOk n = true) (hb : m.blocks.length = n.blocks.length) (hl : m.facts.length + n.facts.length ≤ 16) :
    Calls Try.prog 34 #[v, v2] w (MdAns w (bothM m n)) := by
  obtain ⟨p1, p2, p3, p4, p5, p6, p7, p8⟩ := mdOk_parts hm
  obtain ⟨q1, q2, q3, q4, q5, q6, q7, q8⟩ := mdOk_parts hn
  obtain ⟨fb, fo, fc, bb, bo, bc, rfl, f1, f2, b1, b2, flt, blt, hfm, hbm⟩ := mv_open hr hm
  obtain ⟨gb, gof, gc, cb, co, cc, rfl, g1, g2, c1, c2, glt, clt, hfn, hbn⟩ := mv_open hr2 hn
  unfold maxLen at f2 b2 g2 c2
  have HBm := Lib.hid hbm
  have HBn := Lib.hid hbn
  have HNf : Hid (∀ W : World, Below w.heap.size w W → ∀ j u, (ints m.facts)[j]? = some u → W.cell? ((⟨fb, fo, none⟩ : Addr).add j) = some u) := Lib.hid (fun W hW j u hu => by
    have hj : j < m.facts.length := by
      rcases Nat.lt_or_ge j m.facts.length with h' | h'
      · exact h'
      · rw [List.getElem?_eq_none (by rw [ints_len]; exact h')] at hu; cases hu
    rw [addr_add0, hfm W hW j hj, ← hu, ints_at hj])
  have HNg : Hid (∀ W : World, Below w.heap.size w W → ∀ j u, (ints n.facts)[j]? = some u → W.cell? ((⟨gb, gof, none⟩ : Addr).add j) = some u) := Lib.hid (fun W hW j u hu => by
    have hj : j < n.facts.length := by
      rcases Nat.lt_or_ge j n.facts.length with h' | h'
      · exact h'
      · rw [List.getElem?_eq_none (by rw [ints_len]; exact h')] at hu; cases hu
    rw [addr_add0, hfn W hW j hj, ← hu, ints_at hj])
  have HRm := Lib.hid (fun k (hk : k < m.blocks.length) => (p5 k hk).1)
  have HRn := Lib.hid (fun k (hk : k < m.blocks.length) => (q5 k (by omega)).1)
  have HBD : Hid (∀ k q, k < m.blocks.length → q < n.facts.length → 0 ≤ (n.blocks.getD k []).getD q 0 ∧ (n.blocks.getD k []).getD q 0 < 16) := Lib.hid (fun k q hk hq => by
    obtain ⟨r1, r2⟩ := q5 k (by omega)
    have := ord_bd r2 (getD_mem (l := n.blocks.getD k []) (i := q) (by omega))
    omega)
  obtain ⟨i0, hi, hz0, hz1, hz2⟩ := info_parts Try.infoI
  have HBL := Lib.hid hb
  rw [← hb] at c1
  clear hfm hbm hfn hbn p5 p6 p7 p8 q5 q6 q7 q8 hr hr2
  go_enter Try.func34, Try.ntmps34
  go_wp2
  rw [← hb]
  clear hb
  generalize hW0 : ((w.alloc (.cells #[.slice (some ⟨fb, fo, none⟩) m.facts.length fc, .slice (some ⟨bb, bo, none⟩) m.blocks.length bc, .int .i64 m.actual] 28)).alloc (.cells #[.slice (some ⟨gb, gof, none⟩) n.facts.length gc, .slice (some ⟨cb, co, none⟩) m.blocks.length cc, .int .i64 n.actual] 28)).alloc (.cells #[.slice none 0 0, .slice none 0 0, .int .i64 0] 28) = w1
  have X1 : Hid (Mcell w1 w.heap.size (.slice (some ⟨fb, fo, none⟩) m.facts.length fc) (.slice (some ⟨bb, bo, none⟩) m.blocks.length bc) m.actual) := Lib.hid (by rw [← hW0]; exact ((Mcell.new rfl).alloc _).alloc _)
  have Y1 : Hid (Mcell w1 (w.heap.size + 1) (.slice (some ⟨gb, gof, none⟩) n.facts.length gc) (.slice (some ⟨cb, co, none⟩) m.blocks.length cc) n.actual) := Lib.hid (by rw [← hW0]; exact (Mcell.new (by simp)).alloc _)
  have R1 : Hid (Mcell w1 (w.heap.size + 1 + 1) (.slice none 0 0) (.slice none 0 0) 0) := Lib.hid (by rw [← hW0]; exact Mcell.new (by simp))
  have B1 : Hid (Below w.heap.size w w1) := Lib.hid (by rw [← hW0]; go_grown)
  have lt1 : w.heap.size + 1 + 1 < w1.heap.size := R1.out.lt
  clear hW0
  have HXR : Hid (∀ W, Below w1.heap.size w1 W → Mcell W w.heap.size (.slice (some ⟨fb, fo, none⟩) m.facts.length fc) (.slice (some ⟨bb, bo, none⟩) m.blocks.length bc) m.actual ∧ Mcell W (w.heap.size + 1) (.slice (some ⟨gb, gof, none⟩) n.facts.length gc) (.slice (some ⟨cb, co, none⟩) m.blocks.length cc) n.actual) := Lib.hid (fun W h => ⟨X1.out.below h, Y1.out.below h⟩)
  try simp only [Act.put, List.setIfInBounds_toArray, List.set_cons_zero, List.set_cons_succ]
  go_cut [5] (fun p5 w' => ∃ b5 a6 c6, p5 = .pointer (some ⟨b5, 0, none⟩) ∧ w.heap.size + 1 + 1 < b5 ∧ w1.heap.size ≤ w'.heap.size ∧ Hid (Cm w' b5 28 [.slice a6 (m.facts.length + n.facts.length) c6, .slice none 0 0, .int .i64 m.actual]) ∧ Hid (w'.ownsRow w1.heap.size 3 1 (.slice a6 (m.facts.length + n.facts.length) c6) (m.facts.length + n.facts.length) (ints (m.facts ++ n.facts))) ∧ Hid (∀ q, (Value.slice a6 (m.facts.length + n.facts.length) c6).ownBlock = some q → q ≠ b5) ∧ Hid (Mcell w' w.heap.size (.slice (some ⟨fb, fo, none⟩) m.facts.length fc) (.slice (some ⟨bb, bo, none⟩) m.blocks.length bc) m.actual) ∧ Hid (Mcell w' (w.heap.size + 1) (.slice (some ⟨gb, gof, none⟩) n.facts.length gc) (.slice (some ⟨cb, co, none⟩) m.blocks.length cc) n.actual) ∧ Hid (Mcell w' (w.heap.size + 1 + 1) (.slice none 0 0) (.slice none 0 0) 0) ∧ Hid (Below w.heap.size w w'))
  case first =>
    refine regionL (fun W => Below w1.heap.size w1 W) [11] (by kernel_rfl) (Below.refl _ _).drew (fun hHeld => ?_)
    refine takeA (i := 1) (v := .pointer (some ⟨w.heap.size, 0, none⟩)) 12 rfl rfl (by kernel_rfl) (by kernel_rfl) (by kernel_rfl) (by kernel_rfl) (fun _ _ _ h => h) (Or.inl ⟨by rfl, by intro W hSw; go_simp⟩) hHeld ?_
    simp only [Act.put, List.setIfInBounds_toArray, List.set_cons_zero, List.set_cons_succ]
    refine takeA (i := 2) (v := .slice (some ⟨fb, fo, none⟩) m.facts.length fc) 13 rfl rfl (by kernel_rfl) (by kernel_rfl) (by kernel_rfl) (by kernel_rfl) (fun _ _ _ h => h) (Or.inl ⟨by rfl, by intro W hSw; obtain ⟨⟨c0, c1, c2, _⟩, -⟩ := HXR.out _ hSw; go_simp⟩) hHeld ?_
    simp only [Act.put, List.setIfInBounds_toArray, List.set_cons_zero, List.set_cons_succ]
    refine takeA (i := 4) (v := .pointer (some ⟨w.heap.size + 1, 0, none⟩)) 15 rfl rfl (by kernel_rfl) (by kernel_rfl) (by kernel_rfl) (by kernel_rfl) (fun _ _ _ h => h) (Or.inl ⟨by rfl, by intro W hSw; go_simp⟩) hHeld ?_
    simp only [Act.put, List.setIfInBounds_toArray, List.set_cons_zero, List.set_cons_succ]
    refine takeA (i := 5) (v := .slice (some ⟨gb, gof, none⟩) n.facts.length gc) 16 rfl rfl (by kernel_rfl) (by kernel_rfl) (by kernel_rfl) (by kernel_rfl) (fun _ _ _ h => h) (Or.inl ⟨by rfl, by intro W hSw; obtain ⟨-, ⟨c0, c1, c2, _⟩⟩ := HXR.out _ hSw; go_simp⟩) hHeld ?_
    simp only [Act.put, List.setIfInBounds_toArray, List.set_cons_zero, List.set_cons_succ]
    refine takeA (i := 7) (v := .pointer (some ⟨w.heap.size, 2, none⟩)) 18 rfl rfl (by kernel_rfl) (by kernel_rfl) (by kernel_rfl) (by kernel_rfl) (fun _ _ _ h => h) (Or.inl ⟨by rfl, by intro W hSw; go_simp⟩) hHeld ?_
    simp only [Act.put, List.setIfInBounds_toArray, List.set_cons_zero, List.set_cons_succ]
    refine takeA (i := 8) (v := .int .i64 m.actual) 19 rfl rfl (by kernel_rfl) (by kernel_rfl) (by kernel_rfl) (by kernel_rfl) (fun _ _ _ h => h) (Or.inl ⟨by rfl, by intro W hSw; obtain ⟨⟨c0, c1, c2, _⟩, -⟩ := HXR.out _ hSw; go_simp⟩) hHeld ?_
    simp only [Act.put, List.setIfInBounds_toArray, List.set_cons_zero, List.set_cons_succ]
    generalize w1.drew = wd at hHeld ⊢
    refine twoL (i := 0) (j := 10) (by kernel_rfl) rfl rfl (by rfl) (by rfl) (fun K hK => ?_) (fun K hK => ?_)
    · skip
      go_simp
      have O101 : Hid ((wd.alloc (.cells #[] 3)).ownsRow w1.heap.size 3 1 (Value.slice (some ⟨wd.heap.size, 0, none⟩) 0 0) 0 []) := Lib.hid (World.ownsRow_lit _ #[] 0 hHeld.size (by decide) rfl)
      have t101 : Below w1.heap.size w1 (wd.alloc (.cells #[] 3)) := hHeld.alloc hHeld.size _
      generalize wd.alloc (.cells #[] 3) = w101 at *
      refine hK.out _ _ (fun _ => t101) (fun hHeld => ?_)
      have hHeld := hHeld (by decide)
      clear hHeld hK K
      try simp only [Act.put, List.setIfInBounds_toArray, List.set_cons_zero, List.set_cons_succ]
      refine twoL (i := 3) (j := 10) (by kernel_rfl) rfl rfl (by rfl) (by rfl) (fun K hK => ?_) (fun K hK => ?_)
      · skip
        refine wp_appendL (.tmp 11) (.tmp 13) 22 14 rfl rfl 3 (.int .i64 0) 8 Try.underlying22 Try.infoI rfl w1.heap.size (Value.slice (some ⟨wd.heap.size, 0, none⟩) 0 0) 0 [] O101.out rfl ⟨fb, fo, none⟩ m.facts.length fc (ints m.facts) rfl (ints_len _) (by omega) (HNf.out _ (B1.out.trans (t101.mono B1.out.size))) (fun u hu => ints_one hu) (by unfold maxLen; omega) (by omega) t101.size ?_
        intro v102 w102 ho102 hg102
        rw [Nat.zero_add, List.nil_append] at ho102
        have t102 : Below w1.heap.size w1 w102 := t101.trans (hg102.below t101.size (fun q hq => (O101.out.lt q hq).1))
        have O102 := Lib.hid ho102
        clear ho102 hg102
        refine hK.out _ _ (fun _ => t102) (fun hHeld => ?_)
        have hHeld := hHeld (by decide)
        clear hHeld hK K
        try simp only [Act.put, List.setIfInBounds_toArray, List.set_cons_zero, List.set_cons_succ]
        refine twoL (i := 6) (j := 10) (by kernel_rfl) rfl rfl (by rfl) (by rfl) (fun K hK => ?_) (fun K hK => ?_)
        · skip
          refine wp_appendL (.tmp 14) (.tmp 16) 22 17 rfl rfl 3 (.int .i64 0) 8 Try.underlying22 Try.infoI rfl w1.heap.size v102 m.facts.length (ints m.facts) O102.out rfl ⟨gb, gof, none⟩ n.facts.length gc (ints n.facts) rfl (ints_len _) (by omega) (HNg.out _ (B1.out.trans (t102.mono B1.out.size))) (fun u hu => ints_one hu) (by unfold maxLen; omega) (by omega) t102.size ?_
          intro v103 w103 ho103 hg103
          have t103 : Below w1.heap.size w1 w103 := t102.trans (hg103.below t102.size (fun q hq => (O102.out.lt q hq).1))
          have O103 := Lib.hid ho103
          clear ho103 hg103
          refine hK.out _ _ (fun _ => t103) (fun hHeld => ?_)
          have hHeld := hHeld (by decide)
          clear hHeld hK K
          try simp only [Act.put, List.setIfInBounds_toArray, List.set_cons_zero, List.set_cons_succ]
          obtain ⟨a6, c6, e6⟩ := own_formE O103.out
          subst e6
          have hHeld := t103
          refine takeA (i := 9) (v := .agg #[.slice a6 (m.facts.length + n.facts.length) c6, .slice none 0 0, .int .i64 m.actual]) 20 rfl rfl (by kernel_rfl) (by kernel_rfl) (by kernel_rfl) (by kernel_rfl) (fun _ _ _ h => h) (Or.inl ⟨by rfl, by intro W hSw; go_simp⟩) hHeld ?_
          simp only [Act.put, List.setIfInBounds_toArray, List.set_cons_zero, List.set_cons_succ]
          clear hHeld
          refine onlyL (i := 10) (by kernel_rfl) rfl (by rfl) (fun K hK => ?_)
          refine wp_allocM 28 5 rfl rfl _ Try.allocMd ?_
          have Z104 := Lib.hid (Cm.new (w := w103) (b := w103.heap.size) (T := 28) (cs := [Value.slice none 0 0, .slice none 0 0, .int .i64 0]) rfl)
          have t104 : Below w1.heap.size w1 (w103.alloc (.cells [Value.slice none 0 0, .slice none 0 0, .int .i64 0].toArray 28)) := t103.alloc t103.size _
          have hs104 := t103.size
          have A104 : Hid (∀ q, ((Value.slice a6 (m.facts.length + n.facts.length) c6)).ownBlock = some q → q ≠ w103.heap.size) := Lib.hid (fun q hq => by have := (O103.out.lt q hq).2; omega)
          have O104 := Lib.hid (O103.out.alloc (.cells [Value.slice none 0 0, .slice none 0 0, .int .i64 0].toArray 28))
          generalize w103.alloc (.cells [Value.slice none 0 0, .slice none 0 0, .int .i64 0].toArray 28) = w104 at *
          refine hK.out _ _ (fun _ => t104) (fun hHeld => ?_)
          have hHeld := hHeld (by decide)
          clear hHeld hK K
          try simp only [Act.put, List.setIfInBounds_toArray, List.set_cons_zero, List.set_cons_succ]
          have HNE := A104.out
          have X7 := Lib.hid (X1.out.below t104)
          have Y7 := Lib.hid (Y1.out.below t104)
          have R7 := Lib.hid (R1.out.below t104)
          have B7 := Lib.hid (B1.out.trans (t104.mono B1.out.size))
          have hHeld := t104
          refine onlyL (i := 11) (by kernel_rfl) rfl (by rfl) (fun K hK => ?_)
          refine wp_storeM 28 (.tmp 5) (.tmp 20) rfl rfl w103.heap.size 0 rfl [.slice a6 (m.facts.length + n.facts.length) c6, .slice none 0 0, .int .i64 m.actual] rfl 28 _ Z104.out (Nat.le_refl 3) Try.sizeMd (by intro u hu; simp at hu; rcases hu with rfl | rfl | rfl <;> rfl) ?_
          intro y1 hc1 ha1
          rw [lay'_all (by rfl)] at hc1
          have Z8 := Lib.hid hc1
          have X8 := Lib.hid (X7.out.of_block (ha1.block _ (by omega)))
          have Y8 := Lib.hid (Y7.out.of_block (ha1.block _ (by omega)))
          have R8 := Lib.hid (R7.out.of_block (ha1.block _ (by omega)))
          have B8 : Hid (Below w.heap.size w y1) := Lib.hid (B7.out.trans (ha1.below (by omega)))
          have O8 : Hid (y1.ownsRow w1.heap.size 3 1 (.slice a6 (m.facts.length + n.facts.length) c6) (m.facts.length + n.facts.length) (ints (m.facts ++ n.facts))) := Lib.hid (by rw [ints_app]; exact own_keeps O104.out fun q hq => ha1.block q (HNE q hq))
          refine hK.out _ _ (fun h => absurd (by decide) h) (fun _ => ?_)
          clear hK K
          refine doneL (by kernel_rfl) ?_ _
          go_wp2_with fail
          go_meet
          case rel => exact ⟨_, _, _, rfl, by omega, by have e1 := ha1.size; have e2 := hHeld.size; omega, Z8, O8, Lib.hid HNE, X8, Y8, R8, B8⟩
        · skip
          refine wp_allocM 28 5 rfl rfl _ Try.allocMd ?_
          have Z105 := Lib.hid (Cm.new (w := w102) (b := w102.heap.size) (T := 28) (cs := [Value.slice none 0 0, .slice none 0 0, .int .i64 0]) rfl)
          have t105 : Below w1.heap.size w1 (w102.alloc (.cells [Value.slice none 0 0, .slice none 0 0, .int .i64 0].toArray 28)) := t102.alloc t102.size _
          have hs105 := t102.size
          have A105 : Hid (∀ q, (v102).ownBlock = some q → q ≠ w102.heap.size) := Lib.hid (fun q hq => by have := (O102.out.lt q hq).2; omega)
          have O105 := Lib.hid (O102.out.alloc (.cells [Value.slice none 0 0, .slice none 0 0, .int .i64 0].toArray 28))
          generalize w102.alloc (.cells [Value.slice none 0 0, .slice none 0 0, .int .i64 0].toArray 28) = w105 at *
          refine hK.out _ _ (fun _ => t105) (fun hHeld => ?_)
          have hHeld := hHeld (by decide)
          clear hHeld hK K
          try simp only [Act.put, List.setIfInBounds_toArray, List.set_cons_zero, List.set_cons_succ]
          refine onlyL (i := 6) (by kernel_rfl) rfl (by rfl) (fun K hK => ?_)
          refine wp_appendL (.tmp 14) (.tmp 16) 22 17 rfl rfl 3 (.int .i64 0) 8 Try.underlying22 Try.infoI rfl w1.heap.size v102 m.facts.length (ints m.facts) O105.out rfl ⟨gb, gof, none⟩ n.facts.length gc (ints n.facts) rfl (ints_len _) (by omega) (HNg.out _ (B1.out.trans (t105.mono B1.out.size))) (fun u hu => ints_one hu) (by unfold maxLen; omega) (by omega) t105.size ?_
          intro v106 w106 ho106 hg106
          have t106 : Below w1.heap.size w1 w106 := t105.trans (hg106.below t105.size (fun q hq => (O105.out.lt q hq).1))
          have O106 := Lib.hid ho106
          have Z106 := Lib.hid (Z105.out.of_block (hg106.block Z105.out.lt (fun e => A105.out _ e rfl)))
          have A106 : Hid (∀ q, v106.ownBlock = some q → q ≠ w102.heap.size) := Lib.hid (fun q hq => by
            rcases hg106.2 with e | ⟨g, e, hge⟩
            · exact A105.out q (by rw [← e]; exact hq)
            · rw [e] at hq; cases hq; have := Z105.out.lt; omega)
          clear ho106 hg106
          refine hK.out _ _ (fun _ => t106) (fun hHeld => ?_)
          have hHeld := hHeld (by decide)
          clear hHeld hK K
          try simp only [Act.put, List.setIfInBounds_toArray, List.set_cons_zero, List.set_cons_succ]
          obtain ⟨a6, c6, e6⟩ := own_formE O106.out
          subst e6
          have hHeld := t106
          refine takeA (i := 9) (v := .agg #[.slice a6 (m.facts.length + n.facts.length) c6, .slice none 0 0, .int .i64 m.actual]) 20 rfl rfl (by kernel_rfl) (by kernel_rfl) (by kernel_rfl) (by kernel_rfl) (fun _ _ _ h => h) (Or.inl ⟨by rfl, by intro W hSw; go_simp⟩) hHeld ?_
          simp only [Act.put, List.setIfInBounds_toArray, List.set_cons_zero, List.set_cons_succ]
          clear hHeld
          have HNE := A106.out
          have X7 := Lib.hid (X1.out.below t106)
          have Y7 := Lib.hid (Y1.out.below t106)
          have R7 := Lib.hid (R1.out.below t106)
          have B7 := Lib.hid (B1.out.trans (t106.mono B1.out.size))
          have hHeld := t106
          refine onlyL (i := 11) (by kernel_rfl) rfl (by rfl) (fun K hK => ?_)
          refine wp_storeM 28 (.tmp 5) (.tmp 20) rfl rfl w102.heap.size 0 rfl [.slice a6 (m.facts.length + n.facts.length) c6, .slice none 0 0, .int .i64 m.actual] rfl 28 _ Z106.out (Nat.le_refl 3) Try.sizeMd (by intro u hu; simp at hu; rcases hu with rfl | rfl | rfl <;> rfl) ?_
          intro y1 hc1 ha1
          rw [lay'_all (by rfl)] at hc1
          have Z8 := Lib.hid hc1
          have X8 := Lib.hid (X7.out.of_block (ha1.block _ (by omega)))
          have Y8 := Lib.hid (Y7.out.of_block (ha1.block _ (by omega)))
          have R8 := Lib.hid (R7.out.of_block (ha1.block _ (by omega)))
          have B8 : Hid (Below w.heap.size w y1) := Lib.hid (B7.out.trans (ha1.below (by omega)))
          have O8 : Hid (y1.ownsRow w1.heap.size 3 1 (.slice a6 (m.facts.length + n.facts.length) c6) (m.facts.length + n.facts.length) (ints (m.facts ++ n.facts))) := Lib.hid (by rw [ints_app]; exact own_keeps O106.out fun q hq => ha1.block q (HNE q hq))
          refine hK.out _ _ (fun h => absurd (by decide) h) (fun _ => ?_)
          clear hK K
          refine doneL (by kernel_rfl) ?_ _
          go_wp2_with fail
          go_meet
          case rel => exact ⟨_, _, _, rfl, by omega, by have e1 := ha1.size; have e2 := hHeld.size; omega, Z8, O8, Lib.hid HNE, X8, Y8, R8, B8⟩
      · skip
        refine wp_allocM 28 5 rfl rfl _ Try.allocMd ?_
        have Z107 := Lib.hid (Cm.new (w := w101) (b := w101.heap.size) (T := 28) (cs := [Value.slice none 0 0, .slice none 0 0, .int .i64 0]) rfl)
        have t107 : Below w1.heap.size w1 (w101.alloc (.cells [Value.slice none 0 0, .slice none 0 0, .int .i64 0].toArray 28)) := t101.alloc t101.size _
        have hs107 := t101.size
        have A107 : Hid (∀ q, ((Value.slice (some ⟨wd.heap.size, 0, none⟩) 0 0)).ownBlock = some q → q ≠ w101.heap.size) := Lib.hid (fun q hq => by have := (O101.out.lt q hq).2; omega)
        have O107 := Lib.hid (O101.out.alloc (.cells [Value.slice none 0 0, .slice none 0 0, .int .i64 0].toArray 28))
        generalize w101.alloc (.cells [Value.slice none 0 0, .slice none 0 0, .int .i64 0].toArray 28) = w107 at *
        refine hK.out _ _ (fun _ => t107) (fun hHeld => ?_)
        have hHeld := hHeld (by decide)
        clear hHeld hK K
        try simp only [Act.put, List.setIfInBounds_toArray, List.set_cons_zero, List.set_cons_succ]
        refine onlyL (i := 3) (by kernel_rfl) rfl (by rfl) (fun K hK => ?_)
        refine wp_appendL (.tmp 11) (.tmp 13) 22 14 rfl rfl 3 (.int .i64 0) 8 Try.underlying22 Try.infoI rfl w1.heap.size (Value.slice (some ⟨wd.heap.size, 0, none⟩) 0 0) 0 [] O107.out rfl ⟨fb, fo, none⟩ m.facts.length fc (ints m.facts) rfl (ints_len _) (by omega) (HNf.out _ (B1.out.trans (t107.mono B1.out.size))) (fun u hu => ints_one hu) (by unfold maxLen; omega) (by omega) t107.size ?_
        intro v108 w108 ho108 hg108
        rw [Nat.zero_add, List.nil_append] at ho108
        have t108 : Below w1.heap.size w1 w108 := t107.trans (hg108.below t107.size (fun q hq => (O107.out.lt q hq).1))
        have O108 := Lib.hid ho108
        have Z108 := Lib.hid (Z107.out.of_block (hg108.block Z107.out.lt (fun e => A107.out _ e rfl)))
        have A108 : Hid (∀ q, v108.ownBlock = some q → q ≠ w101.heap.size) := Lib.hid (fun q hq => by
          rcases hg108.2 with e | ⟨g, e, hge⟩
          · exact A107.out q (by rw [← e]; exact hq)
          · rw [e] at hq; cases hq; have := Z107.out.lt; omega)
        clear ho108 hg108
        refine hK.out _ _ (fun _ => t108) (fun hHeld => ?_)
        have hHeld := hHeld (by decide)
        clear hHeld hK K
        try simp only [Act.put, List.setIfInBounds_toArray, List.set_cons_zero, List.set_cons_succ]
        refine onlyL (i := 6) (by kernel_rfl) rfl (by rfl) (fun K hK => ?_)
        refine wp_appendL (.tmp 14) (.tmp 16) 22 17 rfl rfl 3 (.int .i64 0) 8 Try.underlying22 Try.infoI rfl w1.heap.size v108 m.facts.length (ints m.facts) O108.out rfl ⟨gb, gof, none⟩ n.facts.length gc (ints n.facts) rfl (ints_len _) (by omega) (HNg.out _ (B1.out.trans (t108.mono B1.out.size))) (fun u hu => ints_one hu) (by unfold maxLen; omega) (by omega) t108.size ?_
        intro v109 w109 ho109 hg109
        have t109 : Below w1.heap.size w1 w109 := t108.trans (hg109.below t108.size (fun q hq => (O108.out.lt q hq).1))
        have O109 := Lib.hid ho109
        have Z109 := Lib.hid (Z108.out.of_block (hg109.block Z108.out.lt (fun e => A108.out _ e rfl)))
        have A109 : Hid (∀ q, v109.ownBlock = some q → q ≠ w101.heap.size) := Lib.hid (fun q hq => by
          rcases hg109.2 with e | ⟨g, e, hge⟩
          · exact A108.out q (by rw [← e]; exact hq)
          · rw [e] at hq; cases hq; have := Z108.out.lt; omega)
        clear ho109 hg109
        refine hK.out _ _ (fun _ => t109) (fun hHeld => ?_)
        have hHeld := hHeld (by decide)
        clear hHeld hK K
        try simp only [Act.put, List.setIfInBounds_toArray, List.set_cons_zero, List.set_cons_succ]
        obtain ⟨a6, c6, e6⟩ := own_formE O109.out
        subst e6
        have hHeld := t109
        refine takeA (i := 9) (v := .agg #[.slice a6 (m.facts.length + n.facts.length) c6, .slice none 0 0, .int .i64 m.actual]) 20 rfl rfl (by kernel_rfl) (by kernel_rfl) (by kernel_rfl) (by kernel_rfl) (fun _ _ _ h => h) (Or.inl ⟨by rfl, by intro W hSw; go_simp⟩) hHeld ?_
        simp only [Act.put, List.setIfInBounds_toArray, List.set_cons_zero, List.set_cons_succ]
        clear hHeld
        have HNE := A109.out
        have X7 := Lib.hid (X1.out.below t109)
        have Y7 := Lib.hid (Y1.out.below t109)
        have R7 := Lib.hid (R1.out.below t109)
        have B7 := Lib.hid (B1.out.trans (t109.mono B1.out.size))
        have hHeld := t109
        refine onlyL (i := 11) (by kernel_rfl) rfl (by rfl) (fun K hK => ?_)
        refine wp_storeM 28 (.tmp 5) (.tmp 20) rfl rfl w101.heap.size 0 rfl [.slice a6 (m.facts.length + n.facts.length) c6, .slice none 0 0, .int .i64 m.actual] rfl 28 _ Z109.out (Nat.le_refl 3) Try.sizeMd (by intro u hu; simp at hu; rcases hu with rfl | rfl | rfl <;> rfl) ?_
        intro y1 hc1 ha1
        rw [lay'_all (by rfl)] at hc1
        have Z8 := Lib.hid hc1
        have X8 := Lib.hid (X7.out.of_block (ha1.block _ (by omega)))
        have Y8 := Lib.hid (Y7.out.of_block (ha1.block _ (by omega)))
        have R8 := Lib.hid (R7.out.of_block (ha1.block _ (by omega)))
        have B8 : Hid (Below w.heap.size w y1) := Lib.hid (B7.out.trans (ha1.below (by omega)))
        have O8 : Hid (y1.ownsRow w1.heap.size 3 1 (.slice a6 (m.facts.length + n.facts.length) c6) (m.facts.length + n.facts.length) (ints (m.facts ++ n.facts))) := Lib.hid (by rw [ints_app]; exact own_keeps O109.out fun q hq => ha1.block q (HNE q hq))
        refine hK.out _ _ (fun h => absurd (by decide) h) (fun _ => ?_)
        clear hK K
        refine doneL (by kernel_rfl) ?_ _
        go_wp2_with fail
        go_meet
        case rel => exact ⟨_, _, _, rfl, by omega, by have e1 := ha1.size; have e2 := hHeld.size; omega, Z8, O8, Lib.hid HNE, X8, Y8, R8, B8⟩
    · skip
      refine wp_allocM 28 5 rfl rfl _ Try.allocMd ?_
      have Z110 := Lib.hid (Cm.new (w := wd) (b := wd.heap.size) (T := 28) (cs := [Value.slice none 0 0, .slice none 0 0, .int .i64 0]) rfl)
      have t110 : Below w1.heap.size w1 (wd.alloc (.cells [Value.slice none 0 0, .slice none 0 0, .int .i64 0].toArray 28)) := hHeld.alloc hHeld.size _
      have hs110 := hHeld.size
      generalize wd.alloc (.cells [Value.slice none 0 0, .slice none 0 0, .int .i64 0].toArray 28) = w110 at *
      refine hK.out _ _ (fun _ => t110) (fun hHeld => ?_)
      have hHeld := hHeld (by decide)
      clear hHeld hK K
      try simp only [Act.put, List.setIfInBounds_toArray, List.set_cons_zero, List.set_cons_succ]
      refine onlyL (i := 0) (by kernel_rfl) rfl (by rfl) (fun K hK => ?_)
      go_simp
      have O111 : Hid ((w110.alloc (.cells #[] 3)).ownsRow w1.heap.size 3 1 (Value.slice (some ⟨w110.heap.size, 0, none⟩) 0 0) 0 []) := Lib.hid (World.ownsRow_lit _ #[] 0 t110.size (by decide) rfl)
      have t111 : Below w1.heap.size w1 (w110.alloc (.cells #[] 3)) := t110.alloc t110.size _
      have hz111 := Z110.out.lt
      have Z111 := Lib.hid (Z110.out.alloc (.cells #[] 3))
      have A111 : Hid (∀ q, (Value.slice (some ⟨w110.heap.size, 0, none⟩) 0 0).ownBlock = some q → q ≠ wd.heap.size) := Lib.hid (fun q hq => by cases hq; show w110.heap.size ≠ wd.heap.size; omega)
      generalize w110.alloc (.cells #[] 3) = w111 at *
      refine hK.out _ _ (fun _ => t111) (fun hHeld => ?_)
      have hHeld := hHeld (by decide)
      clear hHeld hK K
      try simp only [Act.put, List.setIfInBounds_toArray, List.set_cons_zero, List.set_cons_succ]
      refine onlyL (i := 3) (by kernel_rfl) rfl (by rfl) (fun K hK => ?_)
      refine wp_appendL (.tmp 11) (.tmp 13) 22 14 rfl rfl 3 (.int .i64 0) 8 Try.underlying22 Try.infoI rfl w1.heap.size (Value.slice (some ⟨w110.heap.size, 0, none⟩) 0 0) 0 [] O111.out rfl ⟨fb, fo, none⟩ m.facts.length fc (ints m.facts) rfl (ints_len _) (by omega) (HNf.out _ (B1.out.trans (t111.mono B1.out.size))) (fun u hu => ints_one hu) (by unfold maxLen; omega) (by omega) t111.size ?_
      intro v112 w112 ho112 hg112
      rw [Nat.zero_add, List.nil_append] at ho112
      have t112 : Below w1.heap.size w1 w112 := t111.trans (hg112.below t111.size (fun q hq => (O111.out.lt q hq).1))
      have O112 := Lib.hid ho112
      have Z112 := Lib.hid (Z111.out.of_block (hg112.block Z111.out.lt (fun e => A111.out _ e rfl)))
      have A112 : Hid (∀ q, v112.ownBlock = some q → q ≠ wd.heap.size) := Lib.hid (fun q hq => by
        rcases hg112.2 with e | ⟨g, e, hge⟩
        · exact A111.out q (by rw [← e]; exact hq)
        · rw [e] at hq; cases hq; have := Z111.out.lt; omega)
      clear ho112 hg112
      refine hK.out _ _ (fun _ => t112) (fun hHeld => ?_)
      have hHeld := hHeld (by decide)
      clear hHeld hK K
      try simp only [Act.put, List.setIfInBounds_toArray, List.set_cons_zero, List.set_cons_succ]
      refine onlyL (i := 6) (by kernel_rfl) rfl (by rfl) (fun K hK => ?_)
      refine wp_appendL (.tmp 14) (.tmp 16) 22 17 rfl rfl 3 (.int .i64 0) 8 Try.underlying22 Try.infoI rfl w1.heap.size v112 m.facts.length (ints m.facts) O112.out rfl ⟨gb, gof, none⟩ n.facts.length gc (ints n.facts) rfl (ints_len _) (by omega) (HNg.out _ (B1.out.trans (t112.mono B1.out.size))) (fun u hu => ints_one hu) (by unfold maxLen; omega) (by omega) t112.size ?_
      intro v113 w113 ho113 hg113
      have t113 : Below w1.heap.size w1 w113 := t112.trans (hg113.below t112.size (fun q hq => (O112.out.lt q hq).1))
      have O113 := Lib.hid ho113
      have Z113 := Lib.hid (Z112.out.of_block (hg113.block Z112.out.lt (fun e => A112.out _ e rfl)))
      have A113 : Hid (∀ q, v113.ownBlock = some q → q ≠ wd.heap.size) := Lib.hid (fun q hq => by
        rcases hg113.2 with e | ⟨g, e, hge⟩
        · exact A112.out q (by rw [← e]; exact hq)
        · rw [e] at hq; cases hq; have := Z112.out.lt; omega)
      clear ho113 hg113
      refine hK.out _ _ (fun _ => t113) (fun hHeld => ?_)
      have hHeld := hHeld (by decide)
      clear hHeld hK K
      try simp only [Act.put, List.setIfInBounds_toArray, List.set_cons_zero, List.set_cons_succ]
      obtain ⟨a6, c6, e6⟩ := own_formE O113.out
      subst e6
      have hHeld := t113
      refine takeA (i := 9) (v := .agg #[.slice a6 (m.facts.length + n.facts.length) c6, .slice none 0 0, .int .i64 m.actual]) 20 rfl rfl (by kernel_rfl) (by kernel_rfl) (by kernel_rfl) (by kernel_rfl) (fun _ _ _ h => h) (Or.inl ⟨by rfl, by intro W hSw; go_simp⟩) hHeld ?_
      simp only [Act.put, List.setIfInBounds_toArray, List.set_cons_zero, List.set_cons_succ]
      clear hHeld
      have HNE := A113.out
      have X7 := Lib.hid (X1.out.below t113)
      have Y7 := Lib.hid (Y1.out.below t113)
      have R7 := Lib.hid (R1.out.below t113)
      have B7 := Lib.hid (B1.out.trans (t113.mono B1.out.size))
      have hHeld := t113
      refine onlyL (i := 11) (by kernel_rfl) rfl (by rfl) (fun K hK => ?_)
      refine wp_storeM 28 (.tmp 5) (.tmp 20) rfl rfl wd.heap.size 0 rfl [.slice a6 (m.facts.length + n.facts.length) c6, .slice none 0 0, .int .i64 m.actual] rfl 28 _ Z113.out (Nat.le_refl 3) Try.sizeMd (by intro u hu; simp at hu; rcases hu with rfl | rfl | rfl <;> rfl) ?_
      intro y1 hc1 ha1
      rw [lay'_all (by rfl)] at hc1
      have Z8 := Lib.hid hc1
      have X8 := Lib.hid (X7.out.of_block (ha1.block _ (by omega)))
      have Y8 := Lib.hid (Y7.out.of_block (ha1.block _ (by omega)))
      have R8 := Lib.hid (R7.out.of_block (ha1.block _ (by omega)))
      have B8 : Hid (Below w.heap.size w y1) := Lib.hid (B7.out.trans (ha1.below (by omega)))
      have O8 : Hid (y1.ownsRow w1.heap.size 3 1 (.slice a6 (m.facts.length + n.facts.length) c6) (m.facts.length + n.facts.length) (ints (m.facts ++ n.facts))) := Lib.hid (by rw [ints_app]; exact own_keeps O113.out fun q hq => ha1.block q (HNE q hq))
      refine hK.out _ _ (fun h => absurd (by decide) h) (fun _ => ?_)
      clear hK K
      refine doneL (by kernel_rfl) ?_ _
      go_wp2_with fail
      go_meet
      case rel => exact ⟨_, _, _, rfl, by omega, by have e1 := ha1.size; have e2 := hHeld.size; omega, Z8, O8, Lib.hid HNE, X8, Y8, R8, B8⟩
  case rest =>
    clear X1 Y1 R1 B1 HXR HNf HNg
    obtain ⟨b5, a6, c6, rfl, lt5, hw1c, DC, OC, HNE, XC, YC, RC, BC⟩ := hcut
    have IC : Hid (Io w1.heap.size wc.heap.size wc (.slice a6 (m.facts.length + n.facts.length) c6) (m.facts ++ n.facts)) := Lib.hid (by
      have h := OC.out
      have e : m.facts.length + n.facts.length = (ints (m.facts ++ n.facts)).length := by rw [ints_len, List.length_append]
      refine ⟨?_, fun q hq => (h.lt q hq).2⟩
      rw [← e]; exact h)
    have hlc : b5 < wc.heap.size := DC.out.lt
    rename_i Qz Kz hKz
    refine hKz _ _ ?_
    obtain ⟨x0, x1, x2, _⟩ := XC.out
    go_wp2
    clear x0 x1 x2 OC
    obtain ⟨ROWS, hROWS⟩ : ∃ R, R = (List.range m.blocks.length).map fun k => num (bothRow m n k) := ⟨_, rfl⟩
    have HTK : Hid (∀ k, k < m.blocks.length → ROWS.take (k + 1) = ROWS.take k ++ [num (bothRow m n k)]) := Lib.hid (fun k hk => by rw [hROWS]; exact rows_takeB hk)
    have HEND : Hid (ROWS.take m.blocks.length = (List.range m.blocks.length).map fun k => num (bothRow m n k)) := Lib.hid (by rw [hROWS]; exact List.take_of_length_le (by simp))
    clear hROWS
    go_loopw [24] (fun iv wr => ∃ (k : Nat) (bv : Value) (vs : List Value), k ≤ m.blocks.length ∧ iv = .int .i64 k ∧ Hid (vs.length = k) ∧ Hid (Cm wr b5 28 [.slice a6 (m.facts.length + n.facts.length) c6, bv, .int .i64 m.actual]) ∧ Hid (Ioo wc.heap.size wr.heap.size wr bv vs (ROWS.take k)) ∧ Hid (Io w1.heap.size wc.heap.size wr (.slice a6 (m.facts.length + n.facts.length) c6) (m.facts ++ n.facts)) ∧ Hid (Mcell wr w.heap.size (.slice (some ⟨fb, fo, none⟩) m.facts.length fc) (.slice (some ⟨bb, bo, none⟩) m.blocks.length bc) m.actual) ∧ Hid (Mcell wr (w.heap.size + 1) (.slice (some ⟨gb, gof, none⟩) n.facts.length gc) (.slice (some ⟨cb, co, none⟩) m.blocks.length cc) n.actual) ∧ Hid (Mcell wr (w.heap.size + 1 + 1) (.slice none 0 0) (.slice none 0 0) 0) ∧ Hid (Below w.heap.size w wr) ∧ wc.heap.size ≤ wr.heap.size) (fun iv _ => m.blocks.length - (intOf iv).toNat)
    case atStart => exact ⟨0, _, [], Nat.zero_le _, rfl, Lib.hid rfl, DC, Lib.hid ⟨Ro.nil _ _ _ _, ⟨rfl, fun j hj => by simp at hj⟩, List.pairwise_singleton _ _⟩, IC, XC, YC, RC, BC, Nat.le_refl _⟩
    case round =>
      clear DC IC XC YC RC BC
      obtain ⟨k, bv, vs, hk, rfl, HVL, DQ, OQ, IQ, XQ, YQ, RQ, BQ, hwq⟩ := hrel
      obtain ⟨wq, rfl⟩ : ∃ wq : World, wq = wr := ⟨_, rfl⟩
      by_cases hkn : k < m.blocks.length
      · have hk0 : (0 : Int) ≤ (k : Int) := Int.natCast_nonneg _
        have hk3 : (k : Int) < (m.blocks.length : Int) := by omega
        have hvl := HVL.out
        obtain ⟨ub, uo, uc, u1, u2, ult, hu⟩ := HBm.out k hkn
        obtain ⟨nb, no, nc, n1, n2, nlt, hv⟩ := HBn.out k (by rw [← HBL.out]; exact hkn)
        have HU := Lib.hid hu
        have HV := Lib.hid hv
        have hrm := HRm.out k hkn
        have hrn := HRn.out k hkn
        have HRT : Hid (∀ q, q < n.facts.length → m.blocks.getD k [] ++ ((n.blocks.getD k []).take (q + 1)).map (16 + ·) = (m.blocks.getD k [] ++ ((n.blocks.getD k []).take q).map (16 + ·)) ++ [16 + (n.blocks.getD k []).getD q 0]) := Lib.hid (fun q hq => bothRow_take (by rw [hrn]; exact hq))
        have HRE : Hid (m.blocks.getD k [] ++ ((n.blocks.getD k []).take n.facts.length).map (16 + ·) = bothRow m n k) := Lib.hid (by rw [List.take_of_length_le (by rw [hrn]; exact Nat.le_refl _)]; rfl)
        have HR0 : Hid (m.blocks.getD k [] ++ ((n.blocks.getD k []).take 0).map (16 + ·) = m.blocks.getD k []) := Lib.hid (by simp)
        have HBL2 : Hid ((bothRow m n k).length = m.facts.length + n.facts.length) := Lib.hid (by unfold bothRow; rw [List.length_append, List.length_map, hrm, hrn])
        have HTKk := Lib.hid (HTK.out k hkn)
        have HBDk := Lib.hid (fun q hq => HBD.out k q hkn hq)
        have HNu : Hid (∀ W : World, Below w.heap.size w W → ∀ j u, (ints (m.blocks.getD k []))[j]? = some u → W.cell? ((⟨ub, uo, none⟩ : Addr).add j) = some u) := Lib.hid (fun W hW j u huu => by
          have hj : j < m.facts.length := by
            rcases Nat.lt_or_ge j m.facts.length with h' | h'
            · exact h'
            · rw [List.getElem?_eq_none (by rw [ints_len, hrm]; exact h')] at huu; cases huu
          rw [addr_add0, (hu W hW).2 j hj, ← huu, ints_at (by rw [hrm]; exact hj)])
        have H1u := Lib.hid (fun v (hv : v ∈ ints (m.blocks.getD k [])) => ints_one hv)
        have HLu : Hid ((ints (m.blocks.getD k [])).length = m.facts.length) := Lib.hid (by rw [ints_len, hrm])
        have cu := (hu _ BQ.out).1
        clear hu hv hrm hrn
        generalize m.blocks.getD k [] = mr at *
        generalize n.blocks.getD k [] = nr at *
        go_wp2_with (at_builtin; refine wpList_append_own _ rfl (.tmp 29) (.tmp 30) 22 rfl wq.heap.size 3 i0 (.int .i64 0) 1 8 Try.underlying22 hi hz0 hz1 hz2 rfl (by decide) (.slice (some ⟨wq.heap.size, 0, none⟩) 0 0) 0 [] rfl (World.ownsRow_lit _ #[] 0 (Nat.le_refl _) (by decide) rfl) ⟨ub, uo, none⟩ m.facts.length uc (ints mr) rfl (by rw [HLu.out, Nat.mul_one]) (HNu.out _ (BQ.out.alloc BQ.out.size _)) H1u.out (by unfold maxLen; omega) (by omega) (by simp) ?_; intro v5 w5 hown hg _; rw [Nat.zero_add, List.nil_append] at hown; have hB5 : Below wq.heap.size wq w5 := (Below.alloc (Below.refl _ _) (Nat.le_refl _) _).grown hg (by simp) (fun k hk => by cases hk; exact Nat.le_refl _); obtain ⟨va5, vc5, e5⟩ := own_formE hown; subst e5; have L5 := Lib.hid hown; have T5 := Lib.hid hB5; have BB5 := Lib.hid (BQ.out.trans (hB5.mono BQ.out.size)); obtain ⟨y0, y1, y2, _⟩ := YQ.out.below hB5; have d2 := (HV.out _ BB5.out).1; clear hown hg hB5)
        clear cu y0 y1 y2 d2
        go_loopw [8, 38] (fun lv iv w2 => ∃ (q : Nat) (va : Option Addr) (vc : Nat), q ≤ n.facts.length ∧ iv = .int .i64 q ∧ lv = .slice va (m.facts.length + q) vc ∧ Hid (w2.ownsRow wq.heap.size 3 1 (.slice va (m.facts.length + q) vc) (m.facts.length + q) (ints (mr ++ (nr.take q).map (16 + ·)))) ∧ Hid (Below wq.heap.size wq w2)) (fun _ iv _ => n.facts.length - (intOf iv).toNat)
        case atStart => exact ⟨0, _, _, Nat.zero_le _, rfl, rfl, Lib.hid (by rw [HR0.out]; exact L5.out), T5⟩
        case round =>
          clear L5 T5 BB5
          obtain ⟨q, va, vc, hq, rfl, rfl, LQ, TQ⟩ := hrel
          by_cases hqn : q < n.facts.length
          · have hq0 : (0 : Int) ≤ (q : Int) := Int.natCast_nonneg _
            have hq1 : (q : Int) < (n.facts.length : Int) := by omega
            have hz12 : wq.heap.size ≤ wr.heap.size := TQ.out.size
            have cq := (HV.out _ (BQ.out.trans (TQ.out.mono BQ.out.size))).2 q hqn
            obtain ⟨hy0, hy16⟩ := HBDk.out q hqn
            have HRq := Lib.hid (HRT.out q hqn)
            generalize nr.getD q 0 = y at *
            go_wp2_with (at_builtin; refine wpList_pushL rfl (.tmp 42) (.tmp 45) 22 46 rfl rfl 3 (.int .i64 0) 8 Try.underlying22 Try.infoI rfl wq.heap.size (.int .i64 (16 + y)) (.slice va (m.facts.length + q) vc) (m.facts.length + q) (ints (mr ++ (nr.take q).map (16 + ·))) LQ.out rfl wr.heap.size rfl rfl rfl (by unfold maxLen; omega) (by omega) hz12 ?_; intro v13 w13 hown hg; have L13 := Lib.hid hown; have T13 : Hid (Below wq.heap.size wq w13) := Lib.hid (TQ.out.trans (hg.below hz12 (fun q hq => (LQ.out.lt q hq).1))); obtain ⟨va13, vc13, e13⟩ := own_formE hown; subst e13; clear hown hg)
            go_roundw
            case rel =>
              refine ⟨q + 1, _, _, by omega, by go_num, rfl, Lib.hid ?_, T13⟩
              rw [HRq.out, ints_app]
              exact L13.out
            case measure => simp [intOf]; omega
          · obtain rfl : q = n.facts.length := by omega
            have U6 : Hid (Io wq.heap.size wr.heap.size wr (.slice va (m.facts.length + n.facts.length) vc) (bothRow m n k)) := Lib.hid (by
              have h := LQ.out
              rw [HRE.out] at h
              refine ⟨?_, fun q hq => (h.lt q hq).2⟩
              rw [ints_len, HBL2.out]; exact h)
            have hs2 : wq.heap.size ≤ wr.heap.size := TQ.out.size
            have DW := Lib.hid (DQ.out.all TQ.out)
            have OW : Hid (Ioo wc.heap.size wq.heap.size wr bv vs (ROWS.take k)) := Lib.hid (OQ.out.keeps (Keeps.of_all TQ.out))
            have IW : Hid (Io w1.heap.size wc.heap.size wr (.slice a6 (m.facts.length + n.facts.length) c6) (m.facts ++ n.facts)) := Lib.hid (IQ.out.keeps (Keeps.of_all TQ.out))
            have XW := Lib.hid (XQ.out.below TQ.out)
            have YW := Lib.hid (YQ.out.below TQ.out)
            have RW := Lib.hid (RQ.out.below TQ.out)
            have BW := Lib.hid (BQ.out.trans (TQ.out.mono BQ.out.size))
            have HPL : Hid ((bothRow m n k).length ≤ 1048576) := Lib.hid (by rw [HBL2.out]; omega)
            have HDB : Hid (∀ W, Below wc.heap.size wr W → W.cell? ⟨b5, 1, none⟩ = some bv) := Lib.hid (fun W hW => (DW.out.below hW (by omega)).cell 1)
            have HNL : Hid ((num (bothRow m n k)).length = (num (bothRow m n k)).length) := Lib.hid rfl
            clear LQ DQ OQ IQ XQ YQ RQ BQ TQ HRE HRT HR0 HNu H1u HLu HU HV HBDk HBL2 HNL
            generalize bothRow m n k = lkl at *
            go_wp2
            refine regionL (fun W => Below wc.heap.size wr W) [7] (by kernel_rfl) (Below.refl _ _).drew (fun hHeld => ?_)
            refine takeA (i := 0) (v := .pointer (some ⟨b5, 1, none⟩)) 48 rfl rfl (by kernel_rfl) (by kernel_rfl) (by kernel_rfl) (by kernel_rfl) (fun _ _ _ h => h) (Or.inl ⟨by rfl, by intro W hSw; go_simp⟩) hHeld ?_
            simp only [Act.put, List.setIfInBounds_toArray, List.set_cons_zero, List.set_cons_succ]
            refine takeA (i := 1) (v := bv) 49 rfl rfl (by kernel_rfl) (by kernel_rfl) (by kernel_rfl) (by kernel_rfl) (fun _ _ _ h => h) (Or.inl ⟨by rfl, by intro W hSw; have d1 := HDB.out _ hSw; go_simp⟩) hHeld ?_
            simp only [Act.put, List.setIfInBounds_toArray, List.set_cons_zero, List.set_cons_succ]
            refine takeA (i := 2) (v := .slice va (m.facts.length + n.facts.length) vc) 50 rfl rfl (by kernel_rfl) (by kernel_rfl) (by kernel_rfl) (by kernel_rfl) (fun _ _ _ h => h) (Or.inl ⟨by rfl, by intro W hSw; go_simp⟩) hHeld ?_
            simp only [Act.put, List.setIfInBounds_toArray, List.set_cons_zero, List.set_cons_succ]
            refine onlyL (i := 3) (by kernel_rfl) rfl (by rfl) (fun K hK => ?_)
            have hbd : Below wr.heap.size wr wr.drew := (Below.refl wr.heap.size wr).drew
            go_simp
            refine (specNumber_any _ _ _ lkl _ (U6.out.read.keeps (Keeps.of_all hbd)) HPL.out).mono ?_
            rintro e w15 ⟨v15, rfl, ho15, hb15⟩
            have t15 : Below wr.heap.size wr w15 := hbd.trans (hb15.mono (Nat.le_refl _))
            have V15 : Hid (Io wr.heap.size w15.heap.size w15 v15 (num lkl)) := Lib.hid ho15
            obtain ⟨na, nnc, e15⟩ := ho15.form
            subst e15
            clear ho15 hb15 hHeld hbd
            have D15 := Lib.hid (DW.out.all t15)
            have O15 := Lib.hid (OW.out.keeps (Keeps.of_all t15))
            have I15 : Hid (Io w1.heap.size wc.heap.size w15 (.slice a6 (m.facts.length + n.facts.length) c6) (m.facts ++ n.facts)) := Lib.hid (IW.out.keeps (Keeps.of_all t15))
            have X15 := Lib.hid (XW.out.below t15)
            have Y15 := Lib.hid (YW.out.below t15)
            have R15 := Lib.hid (RW.out.below t15)
            have B15 := Lib.hid (BW.out.trans (t15.mono BW.out.size))
            have T15 := Lib.hid (t15.mono (show wc.heap.size ≤ wr.heap.size by omega))
            have hs15 : wr.heap.size ≤ w15.heap.size := t15.size
            refine hK.out _ _ (fun _ => t15.mono (by omega)) (fun _ => ?_)
            clear hK K t15 DW OW IW BW U6 XW YW RW
            try simp only [Act.put, List.setIfInBounds_toArray, List.set_cons_zero, List.set_cons_succ]
            refine onlyL (i := 4) (by kernel_rfl) rfl (by rfl) (fun K hK => ?_)
            go_simp
            refine hK.out _ _ (fun _ => T15.out.alloc (by omega) _) (fun _ => ?_)
            clear hK K
            try simp only [Act.put, List.setIfInBounds_toArray, List.set_cons_zero, List.set_cons_succ]
            refine onlyL (i := 5) (by kernel_rfl) rfl (by rfl) (fun K hK => ?_)
            have hown : w15.ownsRow wc.heap.size 22 1 bv vs.length vs := O15.out.1.1
            refine wp_pushL (.tmp 49) (.tmp 52) 23 53 rfl rfl 22 (.slice none 0 0) 24 Try.underlying23 Try.infoL rfl wc.heap.size (.slice na (num lkl).length nnc) bv vs.length vs hown rfl w15.heap.size rfl rfl rfl (by unfold maxLen; omega) (by omega) (by omega) ?_
            intro v16 w16 hown16 hg16
            have hbv : ∀ q, bv.ownBlock = some q → wc.heap.size ≤ q ∧ q < wq.heap.size := fun q hq => ⟨(O15.out.1.1.lt q hq).1, O15.out.1.2 q hq⟩
            have O16 := Lib.hid (Ioo.push O15.out (Ro.wide V15.out hs2 (Nat.le_refl _)) (Nat.le_refl _) (by omega) hwq hown16 hg16)
            have hne : ∀ q, q < wc.heap.size → bv.ownBlock ≠ some q := fun q hq e => by have := hbv q e; omega
            have D16 := Lib.hid (D15.out.of_block (hg16.block (by omega) (hne _ (by omega))))
            have X16 := Lib.hid (X15.out.of_block (hg16.block (by omega) (hne _ (by omega))))
            have Y16 := Lib.hid (Y15.out.of_block (hg16.block (by omega) (hne _ (by omega))))
            have R16 := Lib.hid (R15.out.of_block (hg16.block (by omega) (hne _ (by omega))))
            have I16 : Hid (Io w1.heap.size wc.heap.size w16 (.slice a6 (m.facts.length + n.facts.length) c6) (m.facts ++ n.facts)) := Lib.hid (hg16.ro I15.out (apart_lt (B := wc.heap.size) (fun q hq => I15.out.2 q hq) (fun q hq => (hbv q hq).1)))
            have t16 : Below wc.heap.size w15 w16 := hg16.below (by omega) (fun q hq => (hbv q hq).1)
            have B16 : Hid (Below w.heap.size w w16) := Lib.hid (B15.out.trans (t16.mono (by omega)))
            have hs16 : w15.heap.size ≤ w16.heap.size := t16.size
            have t17 : Below wc.heap.size wr w16 := T15.out.trans t16
            obtain ⟨v16a, v16c, e16⟩ := O16.out.1.form
            rw [show (vs ++ [Value.slice na (num lkl).length nnc]).length = k + 1 by simp [hvl]] at e16
            have d16 := D16.out.cell 1
            have f16 := D16.out.frozen 1
            clear hown hown16 hbv hne t16 O15 D15 I15 B15 hg16 T15 V15 X15 Y15 R15
            refine hK.out _ _ (fun _ => t17) (fun hHeld => ?_)
            have hHeld := hHeld (by decide)
            clear hK K t17
            try simp only [Act.put, List.setIfInBounds_toArray, List.set_cons_zero, List.set_cons_succ]
            refine takeA (i := 6) (v := .pointer (some ⟨b5, 1, none⟩)) 54 rfl rfl (by kernel_rfl) (by kernel_rfl) (by kernel_rfl) (by kernel_rfl) (fun _ _ _ h => h) (Or.inl ⟨by rfl, by intro W hSw; go_simp⟩) hHeld ?_
            simp only [Act.put, List.setIfInBounds_toArray, List.set_cons_zero, List.set_cons_succ]
            refine onlyL (i := 7) (by kernel_rfl) rfl (by rfl) (fun K hK => ?_)
            simp only [List.getElem?_cons_succ, List.getElem?_cons_zero] at d16
            subst e16
            go_simp
            refine hK.out _ _ (fun h => absurd (by decide) h) (fun _ => ?_)
            clear hK K hHeld
            refine doneL (by kernel_rfl) ?_ _
            clear d16 f16
            go_wp2
            go_roundw
            case rel =>
              refine ⟨k + 1, _, vs ++ [.slice na (num lkl).length nnc], by omega, by go_num, Lib.hid (by simp [hvl]), Lib.hid (D16.out.set 1 _), Lib.hid ?_, Lib.hid ⟨own_keeps I16.out.1 fun q hq => Below.heap_setCell _ _ _ _ (HNE.out q hq), I16.out.2⟩, Lib.hid (X16.out.other (by omega) _ _), Lib.hid (Y16.out.other (by omega) _ _), Lib.hid (R16.out.other (by omega) _ _), Lib.hid (B16.out.setCell (by show _ ≤ b5; omega) _), by simp [World.setCell]; omega⟩
              rw [HTKk.out]
              exact (O16.out.keeps (Keeps.setCell w16 b5 1 (.slice v16a (k + 1) v16c) (.inl (by omega)))).wide (Nat.le_refl _) (Keeps.setCell (lo := 0) (hi := 0) w16 b5 1 (.slice v16a (k + 1) v16c) (.inr (Nat.zero_le _))).size
            case measure => simp [intOf]; omega
      · obtain rfl : k = m.blocks.length := by omega
        have OR2 := OQ.out
        rw [HEND.out] at OR2
        obtain ⟨ba', bc', e5⟩ := OQ.out.1.form
        subst e5
        have d0 := DQ.out.cell 0
        have d1 := DQ.out.cell 1
        have d2 := DQ.out.cell 2
        simp only [List.getElem?_cons_succ, List.getElem?_cons_zero] at d0 d1 d2
        obtain ⟨m0, m1, m2, m3, m4, m5⟩ := RQ.out
        go_wp2
        clear m0 m1 m2 m3 m4 m5 d0 d1 d2
        have hO : Mo w1.heap.size wq.heap.size wq (.agg #[.slice a6 (m.facts.length + n.facts.length) c6, .slice ba' vs.length bc', .int .i64 m.actual]) (bothM m n) := ⟨_, _, vs, rfl, IQ.out.wide (Nat.le_refl _) hwq, OR2.wide hw1c (Nat.le_refl _), fun u hu => by
          refine apart_lt (B := wc.heap.size) (fun q hq => IQ.out.2 q hq) (fun q hq => ?_)
          rcases List.mem_cons.1 hu with rfl | hu
          · exact (OQ.out.1.1.lt q hq).1
          · exact (OQ.out.2.1.blk hu q hq).1⟩
        obtain ⟨o6, b6, m6⟩ := ans_put (w := w) (m := bothM m n) RQ.out hO (show w.heap.size + 1 + 1 < w1.heap.size by omega) (show w.heap.size ≤ w.heap.size + 1 + 1 by omega) (Nat.le_refl _) BQ.out
        refine bodyPost_ret (results_mid1 Try.results34 _ _ (w.heap.size + 1 + 1) _ _ rfl m6.range Try.underlying28 rfl Try.sizeMd) rfl ?_
        exact ⟨_, rfl, o6, b6⟩
end Go.Proofs.Ytpodpadcaflehaa
