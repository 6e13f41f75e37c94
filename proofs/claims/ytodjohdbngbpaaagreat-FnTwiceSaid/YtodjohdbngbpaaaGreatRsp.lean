/-
  Contract of spec.l03Restrict. Condition: the model is valid, the worlds are its own and none stands twice.
-/
import Derived.Test.YtodjohdbngbpaaaGreatZSet
namespace Go.Proofs.YtodjohdbngbpaaaGreat
open Go.RowKit Go.WideShapes
open Go Go.Deep
set_option linter.unusedSimpArgs false

theorem restM_blocks_take {m : Md} {ws : List Nat} {j : Nat} (h : j < m.blocks.length) : ((rawRows m ws).map num).take (j + 1) = ((rawRows m ws).map num).take j ++ [num (pick (m.blocks.getD j []) ws)] := by
  have hl : j < ((rawRows m ws).map num).length := by rw [List.length_map, rawRows_len]; exact h
  rw [take_snocL hl]
  congr 2
  rw [List.getD_eq_getElem?_getD, List.getElem?_map, ← rawRows_get m ws h, List.getD_eq_getElem?_getD, List.getElem?_eq_getElem (by rw [rawRows_len]; exact h)]; rfl
theorem pick_snoc (b : List Int) {ws : List Nat} {k : Nat} (h : k < ws.length) : pick b (ws.take (k + 1)) = pick b (ws.take k) ++ [b.getD ws[k] 0] := by rw [take_snocN h, pick_app]; rfl

set_option maxRecDepth 100000 in
set_option maxHeartbeats 64000000 in
theorem specRestr_any (lo hi lo2 hi2 : Nat) (v v2 : Value) (m : Md) (ws : List Nat) (w : World) (hr : Mv lo hi w v m) (hr2 : Iv lo2 hi2 w v2 (nums ws)) (hm : mdOk m = true) (hws : ∀ k (h : k < ws.length), ws[k] < m.facts.length) (hnd : ws.Nodup) (hwl : ws.length ≤ 16) :
    Calls Tryz.prog 81 #[v, v2] w (MdAns w (restM m ws)) := by
  obtain ⟨p1, p2, p3, p4, p5, _⟩ := mdOk_parts hm
  have PR := Lib.hid (fun k hk => (p5 k hk).1)
  obtain ⟨fv, bv0, rfl, hf, hb⟩ := hr
  obtain ⟨fa, fc, e1⟩ := hf.form
  subst e1
  obtain ⟨fb, fo, e1⟩ := hf.addr (by omega)
  subst e1
  obtain ⟨ba, bc, e1, hbl, hbc, _⟩ := hb.parts
  subst e1
  obtain ⟨la, lc, e1, hll, hlc, _⟩ := hr2.parts
  subst e1
  rw [nums_len] at *
  unfold maxLen at hbc hlc
  obtain ⟨fa', fc', e1, hfl, hfc, _⟩ := hf.parts
  cases e1
  unfold maxLen at hfc
  have HCF : Hid (∀ W, Below w.heap.size w W → ∀ j, j < m.facts.length → W.cell? ⟨fb, fo + j, none⟩ = some (.int .i64 (m.facts.getD j 0))) := Lib.hid (fun W hW j hj => by
    obtain ⟨b', o', e, hc⟩ := hf.at' hW j hj
    cases e; exact hc)
  have HCL : Hid (∀ W, Below w.heap.size w W → ∀ k (h : k < ws.length), ∃ b o, la = some ⟨b, o, none⟩ ∧ b < w.heap.size ∧ W.cell? ⟨b, o + k, none⟩ = some (.int .i64 (ws[k] : Int))) := Lib.hid (fun W hW k h => by
    obtain ⟨a', cap', e, _, _, h4⟩ := hr2.parts
    rw [nums_len] at e
    cases e
    obtain ⟨b, o, e2, l1, l2, l3, l4⟩ := h4 k (by rw [nums_len]; exact h)
    exact ⟨b, o, e2, l3, (hW.cell (p := ⟨b, o + k, none⟩) l3).trans (by rw [l4, nums_getD h])⟩)
  have HCB : Hid (∀ W, Below w.heap.size w W → ∀ j, j < m.blocks.length → ∃ b o ub uo uc, ba = some ⟨b, o, none⟩ ∧ b < w.heap.size ∧ m.facts.length ≤ uc ∧ uc ≤ 2 ^ 63 - 1 ∧ W.cell? ⟨b, o + j, none⟩ = some (.slice (some ⟨ub, uo, none⟩) m.facts.length uc) ∧ ub < w.heap.size ∧ ∀ i, i < m.facts.length → W.cell? ⟨ub, uo + i, none⟩ = some (.int .i64 ((m.blocks.getD j []).getD i 0))) := Lib.hid (fun W hW j hj => by
    obtain ⟨b, o, u, e, _, _, hlt, hc, hu⟩ := hb.row rfl j hj
    have hrl := PR.out j hj
    obtain ⟨ua, uc, e2, h1, h2, _⟩ := hu.parts
    subst e2
    obtain ⟨ub, uo, e2⟩ := hu.addr (by omega)
    subst e2
    obtain ⟨a', cap', e3, _, _, h4⟩ := hu.parts
    cases e3
    obtain ⟨b4, o4, e4, _, _, hlt4, _⟩ := h4 0 (by omega)
    cases e4
    refine ⟨b, o, ub, uo, uc, e, hlt, by omega, h2, (hW.cell (p := ⟨b, o + j, none⟩) hlt).trans (by rw [hc, hrl]), hlt4, fun i hi => ?_⟩
    obtain ⟨b', o', e5, hc5⟩ := hu.at' hW i (by omega)
    cases e5; exact hc5)
  have HWS := Lib.hid hws
  have HND := Lib.hid hnd
  have HRD : Hid (restM m ws = ⟨pick m.facts ws, (rawRows m ws).map num, actIn m.actual ws⟩) := Lib.hid rfl
  rw [HRD.out]
  clear hf hb hr2 hm hws hnd p5
  go_enter Tryz.func81, Tryz.ntmps81
  go_wp2
  have x0 : Mcell (((w.alloc (.cells #[.slice (some ⟨fb, fo, none⟩) m.facts.length fc, .slice ba m.blocks.length bc, .int .i64 m.actual] 26)).alloc (.cells #[.slice none 0 0, .slice none 0 0, .int .i64 0] 26)).alloc (.cells #[.slice none 0 0, .slice none 0 0, .int .i64 0] 26)) w.heap.size (.slice (some ⟨fb, fo, none⟩) m.facts.length fc) (.slice ba m.blocks.length bc) m.actual := ((Mcell.new rfl).alloc _).alloc _
  have m0 : Mcell (((w.alloc (.cells #[.slice (some ⟨fb, fo, none⟩) m.facts.length fc, .slice ba m.blocks.length bc, .int .i64 m.actual] 26)).alloc (.cells #[.slice none 0 0, .slice none 0 0, .int .i64 0] 26)).alloc (.cells #[.slice none 0 0, .slice none 0 0, .int .i64 0] 26)) (w.heap.size + 1) (.slice none 0 0) (.slice none 0 0) 0 := (Mcell.new (by simp)).alloc _
  have d0 : Cm (((w.alloc (.cells #[.slice (some ⟨fb, fo, none⟩) m.facts.length fc, .slice ba m.blocks.length bc, .int .i64 m.actual] 26)).alloc (.cells #[.slice none 0 0, .slice none 0 0, .int .i64 0] 26)).alloc (.cells #[.slice none 0 0, .slice none 0 0, .int .i64 0] 26)) (w.heap.size + 1 + 1) 26 [.slice none 0 0, .slice none 0 0, .int .i64 (actIn m.actual (ws.take 0))] := Cm.new (by simp)
  have b0 : Below w.heap.size w (((w.alloc (.cells #[.slice (some ⟨fb, fo, none⟩) m.facts.length fc, .slice ba m.blocks.length bc, .int .i64 m.actual] 26)).alloc (.cells #[.slice none 0 0, .slice none 0 0, .int .i64 0] 26)).alloc (.cells #[.slice none 0 0, .slice none 0 0, .int .i64 0] 26)) := by go_grown
  generalize ((w.alloc (.cells #[.slice (some ⟨fb, fo, none⟩) m.facts.length fc, .slice ba m.blocks.length bc, .int .i64 m.actual] 26)).alloc (.cells #[.slice none 0 0, .slice none 0 0, .int .i64 0] 26)).alloc (.cells #[.slice none 0 0, .slice none 0 0, .int .i64 0] 26) = w0 at *
  have X0 := Lib.hid x0
  have M0 := Lib.hid m0
  have D0 := Lib.hid d0
  have B0 := Lib.hid b0
  have hs0 : w.heap.size + 1 + 1 < w0.heap.size := d0.lt
  clear x0 m0 d0 b0
  go_loopw [16] (fun iv wr => ∃ (k : Nat) (fv : Value), k ≤ ws.length ∧ iv = .int .i64 k ∧ Hid (Cm wr (w.heap.size + 1 + 1) 26 [fv, .slice none 0 0, .int .i64 (actIn m.actual (ws.take k))]) ∧ Hid (wr.ownsRow w0.heap.size 3 1 fv k (ints (pick m.facts (ws.take k)))) ∧ Hid (Mcell wr w.heap.size (.slice (some ⟨fb, fo, none⟩) m.facts.length fc) (.slice ba m.blocks.length bc) m.actual) ∧ Hid (Mcell wr (w.heap.size + 1) (.slice none 0 0) (.slice none 0 0) 0) ∧ Hid (Below w.heap.size w wr) ∧ w0.heap.size ≤ wr.heap.size) (fun iv _ => ws.length - (intOf iv).toNat)
  case atStart => exact ⟨0, _, Nat.zero_le _, rfl, D0, Lib.hid (World.ownsRow_nil _ _ _ _), X0, M0, B0, Nat.le_refl _⟩
  case round =>
    clear D0 X0 M0 B0
    obtain ⟨k, fv, hk, rfl, DR, FR, XR, MR, BR, hwr⟩ := hrel
    by_cases hlt : k < ws.length
    · obtain ⟨b, o, rfl, hbl2, c0⟩ := HCL.out _ BR.out k hlt
      have hxn := HWS.out k hlt
      have HACT := Lib.hid (actIn_succ (a := m.actual) hlt HND.out)
      have HPF := Lib.hid (pick_snoc m.facts hlt)
      obtain ⟨x, hx⟩ : ∃ x, x = ws[k] := ⟨_, rfl⟩
      rw [← hx] at c0 hxn HACT HPF
      clear hx
      have hx0 : (0 : Int) ≤ (x : Int) := Int.natCast_nonneg _
      have hxl : (x : Int) < (m.facts.length : Int) := by omega
      have hfc2 : (x : Int) < (fc : Int) := by omega
      have HY : Hid (∀ W, Below w0.heap.size wr W → W.cell? ⟨fb, fo + x, none⟩ = some (.int .i64 (m.facts.getD x 0))) := Lib.hid (fun W hW => HCF.out W (BR.out.trans (hW.mono (by omega))) x hxn)
      obtain ⟨y, hy⟩ : ∃ y, y = m.facts.getD x 0 := ⟨_, rfl⟩
      rw [← hy] at HY HPF
      clear hy
      have HX0 : Hid (∀ W, Below w0.heap.size wr W → Mcell W w.heap.size (.slice (some ⟨fb, fo, none⟩) m.facts.length fc) (.slice ba m.blocks.length bc) m.actual) := Lib.hid (fun W hW => XR.out.of_block (hW.block _ (by omega)))
      have HD0 : Hid (∀ W, Below w0.heap.size wr W → W.cell? ⟨w.heap.size + 1 + 1, 0, none⟩ = some fv) := Lib.hid (fun W hW => (DR.out.below hW (by omega)).cell 0)
      go_wp2
      clear c0
      refine regionL (fun W => Below w0.heap.size wr W) [10] (by kernel_rfl) (Below.refl _ _).drew (fun hHeld => ?_)
      refine takeA (i := 0) (v := .pointer (some ⟨w.heap.size + 1 + 1, 0, none⟩)) 21 rfl rfl (by kernel_rfl) (by kernel_rfl) (by kernel_rfl) (by kernel_rfl) (fun _ _ _ h => h) (Or.inl ⟨by rfl, by intro W hSw; go_simp⟩) hHeld ?_
      simp only [Act.put, List.setIfInBounds_toArray, List.set_cons_zero, List.set_cons_succ]
      refine takeA (i := 1) (v := fv) 22 rfl rfl (by kernel_rfl) (by kernel_rfl) (by kernel_rfl) (by kernel_rfl) (fun _ _ _ h => h) (Or.inl ⟨by rfl, by intro W hSw; have d1 := HD0.out _ hSw; go_simp⟩) hHeld ?_
      simp only [Act.put, List.setIfInBounds_toArray, List.set_cons_zero, List.set_cons_succ]
      refine takeA (i := 2) (v := .pointer (some ⟨w.heap.size, 0, none⟩)) 23 rfl rfl (by kernel_rfl) (by kernel_rfl) (by kernel_rfl) (by kernel_rfl) (fun _ _ _ h => h) (Or.inl ⟨by rfl, by intro W hSw; go_simp⟩) hHeld ?_
      simp only [Act.put, List.setIfInBounds_toArray, List.set_cons_zero, List.set_cons_succ]
      refine takeA (i := 3) (v := .slice (some ⟨fb, fo, none⟩) m.facts.length fc) 24 rfl rfl (by kernel_rfl) (by kernel_rfl) (by kernel_rfl) (by kernel_rfl) (fun _ _ _ h => h) (Or.inl ⟨by rfl, by intro W hSw; obtain ⟨d1, _⟩ := HX0.out _ hSw; go_simp⟩) hHeld ?_
      simp only [Act.put, List.setIfInBounds_toArray, List.set_cons_zero, List.set_cons_succ]
      refine takeA (i := 4) (v := .int .i64 x) 25 rfl rfl (by kernel_rfl) (by kernel_rfl) (by kernel_rfl) (by kernel_rfl) (fun _ _ _ h => h) (Or.inl ⟨by rfl, by intro W hSw; go_simp⟩) hHeld ?_
      simp only [Act.put, List.setIfInBounds_toArray, List.set_cons_zero, List.set_cons_succ]
      refine takeA (i := 5) (v := .pointer (some ⟨fb, fo + x, none⟩)) 26 rfl rfl (by kernel_rfl) (by kernel_rfl) (by kernel_rfl) (by kernel_rfl) (fun _ _ _ h => h) (Or.inl ⟨by rfl, by intro W hSw; go_simp⟩) hHeld ?_
      simp only [Act.put, List.setIfInBounds_toArray, List.set_cons_zero, List.set_cons_succ]
      refine takeA (i := 6) (v := .int .i64 y) 27 rfl rfl (by kernel_rfl) (by kernel_rfl) (by kernel_rfl) (by kernel_rfl) (fun _ _ _ h => h) (Or.inl ⟨by rfl, by intro W hSw; have d1 := HY.out _ hSw; go_simp⟩) hHeld ?_
      simp only [Act.put, List.setIfInBounds_toArray, List.set_cons_zero, List.set_cons_succ]
      refine onlyL (i := 7) (by kernel_rfl) rfl (by rfl) (fun K hK => ?_)
      have hsd : wr.drew.heap.size ≤ wr.heap.size := Nat.le_refl _
      have hsd' : wr.heap.size ≤ wr.drew.heap.size := Nat.le_refl _
      have FD : Hid (wr.drew.ownsRow w0.heap.size 3 1 fv k (ints (pick m.facts (ws.take k)))) := FR
      generalize hwd : wr.drew = wd at *
      have HWD := Lib.hid hwd
      clear hwd
      go_simp
      refine hK.out _ _ (fun _ => hHeld.alloc (by omega) _) (fun _ => ?_)
      clear hK K
      try simp only [Act.put, List.setIfInBounds_toArray, List.set_cons_zero, List.set_cons_succ]
      refine onlyL (i := 8) (by kernel_rfl) rfl (by rfl) (fun K hK => ?_)
      refine wp_pushL (.tmp 22) (.tmp 28) 23 29 rfl rfl 3 (.int .i64 0) 8 Tryz.underlying23 Tryz.infoI rfl w0.heap.size (.int .i64 y) fv k _ FD.out rfl wd.heap.size rfl rfl rfl (by unfold maxLen; omega) (by omega) (by omega) ?_
      intro v5 w5 hown5 hg5
      have hfb : ∀ q, fv.ownBlock = some q → w0.heap.size ≤ q := fun q hq => (FR.out.lt q hq).1
      have t5 : Below w0.heap.size wr w5 := hHeld.trans (hg5.below (by omega) hfb)
      have F5 := Lib.hid hown5
      have D5 := Lib.hid (DR.out.below t5 (by omega))
      have X5 := Lib.hid (XR.out.of_block (t5.block _ (by omega)))
      have M5 := Lib.hid (MR.out.of_block (t5.block _ (by omega)))
      have B5 : Hid (Below w.heap.size w w5) := Lib.hid (BR.out.trans (t5.mono (by omega)))
      have hs5 : wr.heap.size ≤ w5.heap.size := t5.size
      obtain ⟨v5a, v5c, e5⟩ := own_form hown5
      clear hown5 hg5 hfb hHeld
      refine hK.out _ _ (fun _ => t5) (fun hHeld => ?_)
      have hHeld := hHeld (by decide)
      clear hK K t5 FD FR DR XR MR BR
      try simp only [Act.put, List.setIfInBounds_toArray, List.set_cons_zero, List.set_cons_succ]
      refine takeA (i := 9) (v := .pointer (some ⟨w.heap.size + 1 + 1, 0, none⟩)) 30 rfl rfl (by kernel_rfl) (by kernel_rfl) (by kernel_rfl) (by kernel_rfl) (fun _ _ _ h => h) (Or.inl ⟨by rfl, by intro W hSw; go_simp⟩) hHeld ?_
      simp only [Act.put, List.setIfInBounds_toArray, List.set_cons_zero, List.set_cons_succ]
      refine onlyL (i := 10) (by kernel_rfl) rfl (by rfl) (fun K hK => ?_)
      have d5 := D5.out.cell 0
      have f5 := D5.out.frozen 0
      simp only [List.getElem?_cons_zero] at d5
      subst e5
      go_simp
      refine hK.out _ _ (fun h => absurd (by decide) h) (fun _ => ?_)
      clear hK K hHeld d5 f5
      refine doneL (by kernel_rfl) ?_ _
      have D6 := Lib.hid (D5.out.set 0 (.slice v5a (k + 1) v5c))
      have X6 := Lib.hid (X5.out.other (b' := w.heap.size + 1 + 1) (by omega) 0 (.slice v5a (k + 1) v5c))
      have M6 := Lib.hid (M5.out.other (b' := w.heap.size + 1 + 1) (by omega) 0 (.slice v5a (k + 1) v5c))
      have B6 : Hid (Below w.heap.size w (w5.setCell ⟨w.heap.size + 1 + 1, 0, none⟩ (.slice v5a (k + 1) v5c))) := Lib.hid (B5.out.setCell (by show _ ≤ w.heap.size + 1 + 1; omega) _)
      have F6 : Hid ((w5.setCell ⟨w.heap.size + 1 + 1, 0, none⟩ (.slice v5a (k + 1) v5c)).ownsRow w0.heap.size 3 1 (.slice v5a (k + 1) v5c) (k + 1) (ints (pick m.facts (ws.take (k + 1))))) := Lib.hid (by
        rw [HPF.out, ints_app]
        exact own_keeps F5.out (fun q hq => (Keeps.setCell (lo := w0.heap.size) (hi := w5.heap.size) w5 (w.heap.size + 1 + 1) 0 _ (.inl (by omega))).block q (F5.out.lt q hq).1 (F5.out.lt q hq).2 (F5.out.lt q hq).2))
      have hs6 : wr.heap.size ≤ (w5.setCell ⟨w.heap.size + 1 + 1, 0, none⟩ (.slice v5a (k + 1) v5c)).heap.size := by simp [World.setCell]; omega
      simp only [List.set_cons_zero] at D6
      clear D5 X5 M5 B5 F5 HD0 HX0 HY
      generalize w5.setCell ⟨w.heap.size + 1 + 1, 0, none⟩ (.slice v5a (k + 1) v5c) = w6 at *
      obtain ⟨xc0, xc1, xc2, _⟩ := X6.out
      by_cases e : (x : Int) = m.actual
      · rw [if_pos e] at HACT
        have d1 : ((x : Int) == m.actual) = true := by simpa using e
        clear e
        have d6 := D6.out.cell 2
        have f6 := D6.out.frozen 2
        simp only [List.getElem?_cons_succ, List.getElem?_cons_zero] at d6
        go_wp2
        clear d6 f6 xc0 xc1 xc2
        go_roundw
        case rel =>
          refine ⟨k + 1, _, by omega, by go_num, Lib.hid (by rw [HACT.out]; exact D6.out.set 2 _), Lib.hid ?_, Lib.hid (X6.out.other (by omega) _ _), Lib.hid (M6.out.other (by omega) _ _), Lib.hid (B6.out.setCell (by show _ ≤ w.heap.size + 1 + 1; omega) _), by simp [World.setCell]; omega⟩
          exact own_keeps F6.out (fun q hq => (Keeps.setCell (lo := w0.heap.size) (hi := w6.heap.size) w6 (w.heap.size + 1 + 1) 2 _ (.inl (by omega))).block q (F6.out.lt q hq).1 (F6.out.lt q hq).2 (F6.out.lt q hq).2)
        case measure => simp [intOf]; omega
      · rw [if_neg e] at HACT
        have d1 : ((x : Int) == m.actual) = false := by simpa using e
        clear e
        go_wp2
        clear xc0 xc1 xc2
        go_roundw
        case rel => exact ⟨k + 1, _, by omega, by go_num, Lib.hid (by rw [HACT.out]; exact D6.out), F6, X6, M6, B6, by omega⟩
        case measure => simp [intOf]; omega
    · obtain ⟨k', hk'⟩ : ∃ y, y = k := ⟨_, rfl⟩
      subst hk'
      have HK : Hid (ws.take k' = ws) := Lib.hid (List.take_of_length_le (by omega))
      have HKN : Hid (k' = ws.length) := Lib.hid (by omega)
      obtain ⟨w5, hw5⟩ : ∃ y, y = wr := ⟨_, rfl⟩
      subst hw5
      have I5 : Hid (Io w0.heap.size w5.heap.size w5 fv (pick m.facts ws)) := Lib.hid (by have h := Ro.of_own FR.out; rw [HK.out] at h; exact h)
      have D5 : Hid (Cm w5 (w.heap.size + 1 + 1) 26 [fv, .slice none 0 0, .int .i64 (actIn m.actual ws)]) := Lib.hid (by have h := DR.out; rw [HK.out] at h; exact h)
      obtain ⟨v5a, v5c, e5⟩ := own_form FR.out
      subst e5
      obtain ⟨xc0, xc1, xc2, _⟩ := XR.out
      clear DR FR
      go_wp2
      clear xc0 xc1 xc2
      go_loopw [41] (fun iv wr => ∃ (j : Nat) (bv : Value) (vs : List Value), j ≤ m.blocks.length ∧ iv = .int .i64 j ∧ Hid (Cm wr (w.heap.size + 1 + 1) 26 [.slice v5a k' v5c, bv, .int .i64 (actIn m.actual ws)]) ∧ Hid (Ioo w5.heap.size wr.heap.size wr bv vs (((rawRows m ws).map num).take j)) ∧ Hid (Io w0.heap.size w5.heap.size wr (.slice v5a k' v5c) (pick m.facts ws)) ∧ Hid (Mcell wr (w.heap.size + 1) (.slice none 0 0) (.slice none 0 0) 0) ∧ Hid (Below w.heap.size w wr) ∧ w5.heap.size ≤ wr.heap.size) (fun iv _ => m.blocks.length - (intOf iv).toNat)
      case atStart => exact ⟨0, _, [], Nat.zero_le _, rfl, D5, Lib.hid ⟨Ro.nil _ _ _ _, ⟨rfl, fun j hj => by simp at hj⟩, List.pairwise_singleton _ _⟩, I5, MR, BR, Nat.le_refl _⟩
      case round =>
        clear D5 I5 MR BR XR
        obtain ⟨j, bv, vs, hj, rfl, DR, OR, IR, MR, BR, hwr2⟩ := hrel
        by_cases hlj : j < m.blocks.length
        · obtain ⟨b0, o0, ub, uo, uc, rfl, hb0, huc, hucm, cb0, hub, hcu⟩ := HCB.out _ BR.out j hlj
          have HTK := Lib.hid (restM_blocks_take (m := m) (ws := ws) hlj)
          have hvl : vs.length = j := by rw [OR.out.2.1.1, List.length_take, List.length_map, rawRows_len]; omega
          have HCU : Hid (∀ W, Below w.heap.size w W → ∀ i, i < m.facts.length → W.cell? ⟨ub, uo + i, none⟩ = some (.int .i64 ((m.blocks.getD j []).getD i 0))) := Lib.hid (fun W hW i hi => by
            obtain ⟨b0', o0', ub', uo', uc', e1, _, _, _, e2, _, e3⟩ := HCB.out W hW j hlj
            cases e1
            have e4 := (hW.cell (p := ⟨b0, o0 + j, none⟩) hb0)
            have e5 := (BR.out.cell (p := ⟨b0, o0 + j, none⟩) hb0)
            rw [e2] at e4
            rw [cb0] at e5
            have e6 := e4.trans e5.symm
            simp only [Option.some.injEq, Value.slice.injEq, Addr.mk.injEq, and_true] at e6
            obtain ⟨⟨e7, e8⟩, _⟩ := e6
            rw [← e7, ← e8]
            exact e3 i hi)
          have HPS := Lib.hid (fun k h => pick_snoc (m.blocks.getD j []) (ws := ws) (k := k) h)
          obtain ⟨row, hrow⟩ : ∃ r, r = m.blocks.getD j [] := ⟨_, rfl⟩
          rw [← hrow] at HTK HCU HPS
          clear hrow hcu
          have hbw : b0 < wr.heap.size := by omega
          go_wp2
          clear cb0
          have l6 : World.ownsRow (wr.alloc (.cells #[] 3)) wr.heap.size 3 1 (.slice (some ⟨wr.heap.size, 0, none⟩) 0 0) 0 [] := by
            have h := World.ownsRow_lit (base := wr.heap.size) (e := 3) (size := 1) wr #[] 0 (Nat.le_refl _) (by decide) rfl
            simpa using h
          have hb6 : Below wr.heap.size wr (wr.alloc (.cells #[] 3)) := by go_grown
          obtain ⟨wq, hwq⟩ : ∃ y, y = wr := ⟨_, rfl⟩
          subst hwq
          generalize hw6 : wq.alloc (.cells #[] 3) = w6 at *
          have HW6 := Lib.hid hw6
          have T6 := Lib.hid hb6
          have hs6 : wq.heap.size ≤ w6.heap.size := hb6.size
          clear hw6 hb6
          go_loopw [10, 48] (fun lv iv wr => ∃ (k : Nat) (lv' : Value), k ≤ ws.length ∧ iv = .int .i64 k ∧ lv' = lv ∧ Hid (wr.ownsRow wq.heap.size 3 1 lv' k (ints (pick row (ws.take k)))) ∧ Hid (Below wq.heap.size wq wr)) (fun _ iv _ => ws.length - (intOf iv).toNat)
          case atStart => exact ⟨0, _, Nat.zero_le _, rfl, rfl, Lib.hid l6, T6⟩
          case round =>
            clear l6 T6
            obtain ⟨k, lv, hk, rfl, rfl, LR, TR⟩ := hrel
            have hwq2 : wq.heap.size ≤ wr.heap.size := TR.out.size
            have BW : Hid (Below w.heap.size w wr) := Lib.hid (BR.out.trans (TR.out.mono BR.out.size))
            by_cases hlt : k < ws.length
            · obtain ⟨b, o, rfl, hbl2, c0⟩ := HCL.out _ BW.out k hlt
              have hxn := HWS.out k hlt
              have HPF := Lib.hid (HPS.out k hlt)
              obtain ⟨x, hx⟩ : ∃ x, x = ws[k] := ⟨_, rfl⟩
              rw [← hx] at c0 hxn HPF
              clear hx
              have hx0 : (0 : Int) ≤ (x : Int) := Int.natCast_nonneg _
              have hxl : (x : Int) < (m.facts.length : Int) := by omega
              have hxu : (x : Int) < (uc : Int) := by omega
              have cu := HCU.out _ BW.out x hxn
              obtain ⟨y, hy⟩ : ∃ y, y = row.getD x 0 := ⟨_, rfl⟩
              rw [← hy] at cu HPF
              clear hy
              have HLB : Hid (∀ q, lv.ownBlock = some q → wq.heap.size ≤ q) := Lib.hid (fun q hq => (LR.out.lt q hq).1)
              go_wp2_with (at_builtin; refine wpList_pushL rfl (.tmp 52) (.tmp 57) 23 58 rfl rfl 3 (.int .i64 0) 8 Tryz.underlying23 Tryz.infoI rfl wq.heap.size (.int .i64 y) lv k (ints (pick row (ws.take k))) LR.out rfl wr.heap.size rfl rfl rfl (by unfold maxLen; omega) (by omega) hwq2 ?_; intro v7 w7 hown hg; have L7 := Lib.hid hown; have T7 : Hid (Below wq.heap.size wq w7) := Lib.hid (TR.out.trans (hg.below hwq2 HLB.out)); clear hown hg c0 cu)
              go_roundw
              case rel =>
                refine ⟨k + 1, _, by omega, by go_num, rfl, Lib.hid ?_, T7⟩
                rw [HPF.out, ints_app]
                exact L7.out
              case measure => simp [intOf]; omega
            · obtain ⟨k2, hk2⟩ : ∃ y, y = k := ⟨_, rfl⟩
              subst hk2
              have HK2 : Hid (ws.take k2 = ws) := Lib.hid (List.take_of_length_le (by omega))
              have U6 : Hid (Io wq.heap.size wr.heap.size wr lv (pick row ws)) := Lib.hid (by have h := Ro.of_own LR.out; rw [HK2.out] at h; exact h)
              have DW := Lib.hid (DR.out.all TR.out)
              have OW := Lib.hid (OR.out.keeps (Keeps.of_all TR.out))
              have IW : Hid (Io w0.heap.size w5.heap.size wr (.slice v5a k' v5c) (pick m.facts ws)) := Lib.hid (IR.out.keeps (Keeps.of_all TR.out))
              have MW := Lib.hid (MR.out.below TR.out)
              have HPL : Hid ((pick row ws).length ≤ 1048576) := Lib.hid (by rw [pick_len]; omega)
              have HDB : Hid (∀ W, Below w5.heap.size wr W → W.cell? ⟨w.heap.size + 1 + 1, 1, none⟩ = some bv) := Lib.hid (fun W hW => (DW.out.below hW (by omega)).cell 1)
              clear LR DR OR IR MR BR
              go_wp2
              refine regionL (fun W => Below w5.heap.size wr W) [7] (by kernel_rfl) (Below.refl _ _).drew (fun hHeld => ?_)
              refine takeA (i := 0) (v := .pointer (some ⟨w.heap.size + 1 + 1, 1, none⟩)) 60 rfl rfl (by kernel_rfl) (by kernel_rfl) (by kernel_rfl) (by kernel_rfl) (fun _ _ _ h => h) (Or.inl ⟨by rfl, by intro W hSw; go_simp⟩) hHeld ?_
              simp only [Act.put, List.setIfInBounds_toArray, List.set_cons_zero, List.set_cons_succ]
              refine takeA (i := 1) (v := bv) 61 rfl rfl (by kernel_rfl) (by kernel_rfl) (by kernel_rfl) (by kernel_rfl) (fun _ _ _ h => h) (Or.inl ⟨by rfl, by intro W hSw; have d1 := HDB.out _ hSw; go_simp⟩) hHeld ?_
              simp only [Act.put, List.setIfInBounds_toArray, List.set_cons_zero, List.set_cons_succ]
              refine takeA (i := 2) (v := lv) 62 rfl rfl (by kernel_rfl) (by kernel_rfl) (by kernel_rfl) (by kernel_rfl) (fun _ _ _ h => h) (Or.inl ⟨by rfl, by intro W hSw; go_simp⟩) hHeld ?_
              simp only [Act.put, List.setIfInBounds_toArray, List.set_cons_zero, List.set_cons_succ]
              refine onlyL (i := 3) (by kernel_rfl) rfl (by rfl) (fun K hK => ?_)
              have hbd : Below wr.heap.size wr wr.drew := (Below.refl wr.heap.size wr).drew
              go_simp
              refine (specNumber_any _ _ _ (pick row ws) _ (U6.out.read.keeps (Keeps.of_all hbd)) HPL.out).mono ?_
              rintro e w7 ⟨v7, rfl, ho7, hb7⟩
              have t7 : Below wr.heap.size wr w7 := hbd.trans (hb7.mono (Nat.le_refl _))
              have V7 : Hid (Io wr.heap.size w7.heap.size w7 v7 (num (pick row ws))) := Lib.hid ho7
              obtain ⟨na, nc, e7⟩ := ho7.form
              subst e7
              clear ho7 hb7 hHeld hbd
              have D7 := Lib.hid (DW.out.all t7)
              have O7 := Lib.hid (OW.out.keeps (Keeps.of_all t7))
              have I7 : Hid (Io w0.heap.size w5.heap.size w7 (.slice v5a k' v5c) (pick m.facts ws)) := Lib.hid (IW.out.keeps (Keeps.of_all t7))
              have M7 := Lib.hid (MW.out.below t7)
              have B7 : Hid (Below w.heap.size w w7) := Lib.hid (BW.out.trans (t7.mono BW.out.size))
              have T7 := Lib.hid (t7.mono (show w5.heap.size ≤ wr.heap.size by omega))
              have hs7 : wr.heap.size ≤ w7.heap.size := t7.size
              refine hK.out _ _ (fun _ => t7.mono (by omega)) (fun _ => ?_)
              clear hK K t7 DW OW IW MW BW U6
              try simp only [Act.put, List.setIfInBounds_toArray, List.set_cons_zero, List.set_cons_succ]
              refine onlyL (i := 4) (by kernel_rfl) rfl (by rfl) (fun K hK => ?_)
              go_simp
              refine hK.out _ _ (fun _ => T7.out.alloc (by omega) _) (fun _ => ?_)
              clear hK K
              try simp only [Act.put, List.setIfInBounds_toArray, List.set_cons_zero, List.set_cons_succ]
              refine onlyL (i := 5) (by kernel_rfl) rfl (by rfl) (fun K hK => ?_)
              have hown : w7.ownsRow w5.heap.size 23 1 bv vs.length vs := O7.out.1.1
              refine wp_pushL (.tmp 61) (.tmp 64) 24 65 rfl rfl 23 (.slice none 0 0) 24 Tryz.underlying24 Tryz.infoL rfl w5.heap.size (.slice na (num (pick row ws)).length nc) bv vs.length vs hown rfl w7.heap.size rfl rfl rfl (by unfold maxLen; omega) (by omega) (by omega) ?_
              intro v8 w8 hown8 hg8
              have hbv : ∀ q, bv.ownBlock = some q → w5.heap.size ≤ q ∧ q < wq.heap.size := fun q hq => ⟨(O7.out.1.1.lt q hq).1, O7.out.1.2 q hq⟩
              have O8 := Lib.hid (Ioo.push O7.out (Ro.wide V7.out hwq2 (Nat.le_refl _)) (Nat.le_refl _) (by omega) hwr2 hown8 hg8)
              have hne : ∀ q, q < w5.heap.size → bv.ownBlock ≠ some q := fun q hq e => by have := hbv q e; omega
              have D8 := Lib.hid (D7.out.of_block (hg8.block (by omega) (hne _ (by omega))))
              have M8 := Lib.hid (M7.out.of_block (hg8.block (by omega) (hne _ (by omega))))
              have I8 : Hid (Io w0.heap.size w5.heap.size w8 (.slice v5a k' v5c) (pick m.facts ws)) := Lib.hid (hg8.ro I7.out (apart_lt (B := w5.heap.size) (fun q hq => I7.out.2 q hq) (fun q hq => (hbv q hq).1)))
              have t8 : Below w5.heap.size w7 w8 := hg8.below (by omega) (fun q hq => (hbv q hq).1)
              have B8 : Hid (Below w.heap.size w w8) := Lib.hid (B7.out.trans (t8.mono (by omega)))
              have hs8 : w7.heap.size ≤ w8.heap.size := t8.size
              have t9 : Below w5.heap.size wr w8 := T7.out.trans t8
              obtain ⟨v8a, v8c, e8⟩ := O8.out.1.form
              rw [show (vs ++ [Value.slice na (num (pick row ws)).length nc]).length = j + 1 by simp [hvl]] at e8
              have d8 := D8.out.cell 1
              have f8 := D8.out.frozen 1
              clear hown hown8 hbv hne t8 O7 D7 I7 M7 B7 hg8 T7 V7
              refine hK.out _ _ (fun _ => t9) (fun hHeld => ?_)
              have hHeld := hHeld (by decide)
              clear hK K t9
              try simp only [Act.put, List.setIfInBounds_toArray, List.set_cons_zero, List.set_cons_succ]
              refine takeA (i := 6) (v := .pointer (some ⟨w.heap.size + 1 + 1, 1, none⟩)) 66 rfl rfl (by kernel_rfl) (by kernel_rfl) (by kernel_rfl) (by kernel_rfl) (fun _ _ _ h => h) (Or.inl ⟨by rfl, by intro W hSw; go_simp⟩) hHeld ?_
              simp only [Act.put, List.setIfInBounds_toArray, List.set_cons_zero, List.set_cons_succ]
              refine onlyL (i := 7) (by kernel_rfl) rfl (by rfl) (fun K hK => ?_)
              simp only [List.getElem?_cons_succ, List.getElem?_cons_zero] at d8
              subst e8
              go_simp
              refine hK.out _ _ (fun h => absurd (by decide) h) (fun _ => ?_)
              clear hK K hHeld
              refine doneL (by kernel_rfl) ?_ _
              clear d8 f8
              go_wp2
              go_roundw
              case rel =>
                refine ⟨j + 1, _, vs ++ [.slice na (num (pick row ws)).length nc], by omega, by go_num, Lib.hid (D8.out.set 1 _), Lib.hid ?_, Lib.hid (I8.out.keeps (Keeps.setCell _ _ _ _ (.inl (by omega)))), Lib.hid (M8.out.other (by omega) _ _), Lib.hid (B8.out.setCell (by show _ ≤ w.heap.size + 1 + 1; omega) _), by simp [World.setCell]; omega⟩
                rw [HTK.out]
                exact (O8.out.keeps (Keeps.setCell w8 (w.heap.size + 1 + 1) 1 (.slice v8a (j + 1) v8c) (.inl (by omega)))).wide (Nat.le_refl _) (Keeps.setCell (lo := 0) (hi := 0) w8 (w.heap.size + 1 + 1) 1 (.slice v8a (j + 1) v8c) (.inr (Nat.zero_le _))).size
              case measure => simp [intOf]; omega
        · have HJ : Hid (((rawRows m ws).map num).take j = (rawRows m ws).map num) := Lib.hid (List.take_of_length_le (by rw [List.length_map, rawRows_len]; omega))
          obtain ⟨ba', bc', e5⟩ := OR.out.1.form
          subst e5
          obtain ⟨m0, m1, m2, m3, m4, m5⟩ := MR.out
          go_wp2_with (refine wpList_loadM rfl 26 _ rfl (w.heap.size + 1 + 1) 0 rfl 26 _ [.slice v5a k' v5c, .slice ba' vs.length bc', .int .i64 (actIn m.actual ws)] DR.out (fun j _ => by rw [Nat.zero_add]) _ Tryz.underlying26 rfl Tryz.sizeMd ?_)
          clear m0 m1 m2 m3 m4 m5
          have hO : Mo w0.heap.size wr.heap.size wr (.agg #[.slice v5a k' v5c, .slice ba' vs.length bc', .int .i64 (actIn m.actual ws)]) ⟨pick m.facts ws, (rawRows m ws).map num, actIn m.actual ws⟩ := ⟨_, _, vs, rfl, IR.out.wide (Nat.le_refl _) hwr2, (HJ.out ▸ OR.out).wide (by omega) (Nat.le_refl _), fun u hu => by
            refine apart_lt (B := w5.heap.size) (fun q hq => IR.out.2 q hq) (fun q hq => ?_)
            rcases List.mem_cons.1 hu with rfl | hu
            · exact (OR.out.1.1.lt q hq).1
            · exact (OR.out.2.1.blk hu q hq).1⟩
          obtain ⟨o6, b6, m6⟩ := ans_put (w := w) (m := ⟨pick m.facts ws, (rawRows m ws).map num, actIn m.actual ws⟩) MR.out hO (show w.heap.size + 1 < w0.heap.size by omega) (show w.heap.size ≤ w.heap.size + 1 by omega) (Nat.le_refl _) BR.out
          refine bodyPost_ret (results_mid1 Tryz.results81 _ _ (w.heap.size + 1) _ _ rfl m6.range Tryz.underlying26 rfl Tryz.sizeMd) rfl ?_
          exact ⟨_, rfl, o6, b6⟩
end Go.Proofs.YtodjohdbngbpaaaGreat
