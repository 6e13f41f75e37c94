/-
  Several texts in one: Mok Cpy Sok Sbl LawM Sbi Mov Fre. Conditions: as each theorem says.
-/
import Derived.Test.YtodjohdbngbpaaaGreatGof
import Derived.Test.YtodjohdbngbpaaaGreatZReg
/-
  The mathematics of valid models: the specification's conditions are the program's. No program.
-/
namespace Go.Proofs.YtodjohdbngbpaaaGreat

/-- the conditions of the specification -/
def specOk (m : Md) : Bool :=
  decide (1 ≤ m.facts.length ∧ m.facts.length ≤ 16) && decide (1 ≤ m.blocks.length ∧ m.blocks.length ≤ 3) && inB m.actual m.facts.length &&
    (List.range m.facts.length).all (fun j => inB (m.facts.getD j 0) 16) && (List.range m.blocks.length).all (fun k => (m.blocks.getD k []).length == m.facts.length && ordOk (m.blocks.getD k []))
theorem most_ge (l : List Int) : ∀ k, -1 ≤ mostOf l k
  | 0 => Int.le_refl _
  | k + 1 => by have := most_ge l k; rw [mostOf]; omega
theorem ordOk_zeros (n : Nat) : ordOk (List.replicate n 0) = true := by
  unfold ordOk
  refine decide_eq_true (fun i hi => ?_)
  rw [List.length_replicate] at hi
  have := most_ge (List.replicate n 0) i
  rw [List.getD_eq_getElem?_getD, List.getElem?_replicate, if_pos hi]
  simp only [Option.getD_some]
  omega
theorem num_of_ord {l : List Int} (h : ordOk l = true) : num l = l := by rw [ordOk_num] at h; exact of_decide_eq_true h
theorem pad_take {l : List Int} {n : Nat} (h : l.length = n) : (pad l).take n = l := by subst h; unfold pad; simp
theorem pad_inj {l l' : List Int} (h : l.length = l'.length) (e : pad l = pad l') : l = l' := by
  have := congrArg (List.take l.length) e
  rw [pad_take rfl, pad_take h.symm] at this
  exact this
theorem pad_nil : pad [] = List.replicate 16 0 := rfl
theorem rowOk_row {rows : List (List Int)} {n k : Nat} (h : (rows.getD k []).length = n) : rowOk rows n k = ordOk (rows.getD k []) := by
  unfold rowOk
  rw [pad_take h, ordOk_num, Bool.eq_iff_iff, decide_eq_true_iff, decide_eq_true_iff]
  exact ⟨fun e => (pad_inj (num_len _).symm e).symm, fun e => by rw [e]⟩
theorem rowOk_none {rows : List (List Int)} {n k : Nat} (h : rows.getD k [] = []) (hn : n ≤ 16) : rowOk rows n k = true := by
  unfold rowOk
  rw [h, pad_nil]
  refine decide_eq_true ?_
  rw [List.take_replicate, Nat.min_eq_left hn, num_of_ord (ordOk_zeros n)]
  unfold pad
  rw [List.length_replicate, List.replicate_append_replicate]
  congr 1; omega
theorem specOk_mdOk (m : Md) : specOk m = mdOk m := by
  rw [Bool.eq_iff_iff]
  unfold specOk mdOk okNums
  simp only [Bool.and_eq_true, decide_eq_true_eq, List.all_eq_true, List.mem_range, beq_iff_eq]
  constructor
  · rintro ⟨⟨⟨⟨⟨a1, a2⟩, b1, b2⟩, hc⟩, hf⟩, hb⟩
    refine ⟨⟨⟨a1, a2, b1, b2⟩, fun k hk => (hb k hk).1⟩, ⟨fun j hj => ?_, fun k hk => ?_⟩, hc⟩
    · rw [List.getD_eq_getElem?_getD, pad_get hj a2]
      simp only [Option.getD_some]
      rcases Nat.lt_or_ge j m.facts.length with h | h
      · exact hf j h
      · rw [List.getD_eq_getElem?_getD, List.getElem?_eq_none h]; rfl
    · rcases Nat.lt_or_ge k m.blocks.length with h | h
      · rw [rowOk_row (hb k h).1]; exact (hb k h).2
      · exact rowOk_none (by rw [List.getD_eq_getElem?_getD, List.getElem?_eq_none h]; rfl) a2
  · rintro ⟨⟨⟨a1, a2, b1, b2⟩, hl⟩, ⟨hf, hr⟩, hc⟩
    refine ⟨⟨⟨⟨⟨a1, a2⟩, b1, b2⟩, hc⟩, fun j hj => ?_⟩, fun k hk => ⟨hl k hk, ?_⟩⟩
    · have := hf j (by omega)
      rw [List.getD_eq_getElem?_getD, pad_get (by omega) a2] at this
      exact this
    · rw [← rowOk_row (hl k hk)]; exact hr k (by omega)
/-- what a valid model is -/
theorem mdOk_parts {m : Md} (h : mdOk m = true) : 1 ≤ m.facts.length ∧ m.facts.length ≤ 16 ∧ 1 ≤ m.blocks.length ∧ m.blocks.length ≤ 3 ∧ (∀ k, k < m.blocks.length → (m.blocks.getD k []).length = m.facts.length ∧ ordOk (m.blocks.getD k []) = true) ∧
    (∀ j, j < m.facts.length → 0 ≤ m.facts.getD j 0 ∧ m.facts.getD j 0 < 16) ∧ 0 ≤ m.actual ∧ m.actual < m.facts.length := by
  rw [← specOk_mdOk] at h
  unfold specOk inB at h
  simp only [Bool.and_eq_true, decide_eq_true_eq, List.all_eq_true, List.mem_range, beq_iff_eq] at h
  obtain ⟨⟨⟨⟨⟨a1, a2⟩, b1, b2⟩, hc⟩, hf⟩, hb⟩ := h
  exact ⟨a1, a2, b1, b2, hb, hf, hc.1, hc.2⟩
theorem md_small {m : Md} (h : mdOk m = true) : small m.facts m.blocks := by
  obtain ⟨_, a2, _, _, hb, _⟩ := mdOk_parts h
  refine ⟨a2, fun k => ?_⟩
  rcases Nat.lt_or_ge k m.blocks.length with hk | hk
  · rw [(hb k hk).1]; exact a2
  · rw [List.getD_eq_getElem?_getD, List.getElem?_eq_none hk]; simp
end Go.Proofs.YtodjohdbngbpaaaGreat

/-
  Contract of spec.l03Copy: a copy of a valid model in new memory. Condition: the model is valid.
-/
namespace Go.Proofs.YtodjohdbngbpaaaGreat
open Go.RowKit Go.WideShapes
open Go Go.Deep
set_option linter.unusedSimpArgs false

theorem md_fits {m : Md} (h : mdOk m = true) : fits m := by
  obtain ⟨a1, a2, b1, b2, hb, _⟩ := mdOk_parts h
  exact ⟨a2, b2, fun k hk => (hb k hk).1⟩
/-- the numbers of a row that is read, at whatever address the slice has -/
theorem Iv.news {lo hi : Nat} {w : World} {b o n c : Nat} {l : List Int} (h : Iv lo hi w (.slice (some ⟨b, o, none⟩) n c) l) {W : World} (hb : Below w.heap.size w W) : ∀ j u, (ints l)[j]? = some u → W.cell? ((⟨b, o, none⟩ : Addr).add j) = some u := by
  intro j u hu
  have hj : j < l.length := by
    rcases Nat.lt_or_ge j l.length with h' | h'
    · exact h'
    · rw [List.getElem?_eq_none (by rw [ints_len]; exact h')] at hu; cases hu
  obtain ⟨a', cap', e, _, _, h4⟩ := h.parts
  cases e
  obtain ⟨b', o', e2, _, _, hlt, hc⟩ := h4 j hj
  cases e2
  rw [addr_add0, hb.cell (p := ⟨_, _, none⟩) hlt, hc, ← hu, ints_at hj]
theorem Iv.addr {lo hi : Nat} {w : World} {a : Option Addr} {n c : Nat} {l : List Int} (h : Iv lo hi w (.slice a n c) l) (h0 : 0 < l.length) : ∃ b o, a = some ⟨b, o, none⟩ := by
  obtain ⟨a', cap', e, _, _, h4⟩ := h.parts
  cases e
  obtain ⟨b', o', e2, _⟩ := h4 0 h0
  exact ⟨b', o', e2⟩
theorem Below.drewG {B : Nat} {w w' : World} (h : Below B w w') : Below B w w'.drew := h.trans (Below.refl _ _).drew

set_option maxRecDepth 100000 in
set_option maxHeartbeats 16000000 in
theorem specCopy_any (lo hi : Nat) (v : Value) (m : Md) (w : World) (hr : Mv lo hi w v m) (hhi : hi ≤ w.heap.size) (hm : mdOk m = true) :
    Calls Tryz.prog 94 #[v] w (MdAns w m) := by
  obtain ⟨p1, p2, p3, p4, p5, _⟩ := mdOk_parts hm
  have PR := Lib.hid (fun k hk => (p5 k hk).1)
  obtain ⟨fv, bv0, rfl, hf, hb⟩ := hr
  obtain ⟨fa, fc, e1⟩ := hf.form
  subst e1
  obtain ⟨fb, fo, e1⟩ := hf.addr (by omega)
  subst e1
  obtain ⟨ba, bc, e1, hbl, hbc, _⟩ := hb.parts
  subst e1
  have HF := Lib.hid hf
  have HB := Lib.hid hb
  clear hf hb hm p5
  unfold maxLen at hbc
  go_enter Tryz.func94, Tryz.ntmps94
  go_wp2
  have n0 : Mcell ((w.alloc (.cells #[.slice (some ⟨fb, fo, none⟩) m.facts.length fc, .slice ba m.blocks.length bc, .int .i64 m.actual] 26)).alloc (.cells #[.slice none 0 0, .slice none 0 0, .int .i64 0] 26)) w.heap.size (.slice (some ⟨fb, fo, none⟩) m.facts.length fc) (.slice ba m.blocks.length bc) m.actual := (Mcell.new rfl).alloc _
  have m0 : Mcell ((w.alloc (.cells #[.slice (some ⟨fb, fo, none⟩) m.facts.length fc, .slice ba m.blocks.length bc, .int .i64 m.actual] 26)).alloc (.cells #[.slice none 0 0, .slice none 0 0, .int .i64 0] 26)) (w.heap.size + 1) (.slice none 0 0) (.slice none 0 0) 0 := Mcell.new (by simp)
  have b0 : Below w.heap.size w ((w.alloc (.cells #[.slice (some ⟨fb, fo, none⟩) m.facts.length fc, .slice ba m.blocks.length bc, .int .i64 m.actual] 26)).alloc (.cells #[.slice none 0 0, .slice none 0 0, .int .i64 0] 26)) := by go_grown
  have s0 : ((w.alloc (.cells #[.slice (some ⟨fb, fo, none⟩) m.facts.length fc, .slice ba m.blocks.length bc, .int .i64 m.actual] 26)).alloc (.cells #[.slice none 0 0, .slice none 0 0, .int .i64 0] 26)).heap.size = w.heap.size + 2 := by simp
  generalize (w.alloc (.cells #[.slice (some ⟨fb, fo, none⟩) m.facts.length fc, .slice ba m.blocks.length bc, .int .i64 m.actual] 26)).alloc (.cells #[.slice none 0 0, .slice none 0 0, .int .i64 0] 26) = w0 at *
  have N0 := Lib.hid n0
  have M0 := Lib.hid m0
  have B0 := Lib.hid b0
  have F0 := Lib.hid (HF.out.keeps (Keeps.of_all b0))
  have HS0 := Lib.hid s0
  have hs0 : w.heap.size + 1 < w0.heap.size := by omega
  clear n0 m0 b0 s0 HF
  obtain ⟨n0, hn0⟩ : ∃ n, n = w0.heap.size := ⟨_, rfl⟩
  have HN0 := Lib.hid hn0
  have hna : n0 ≤ w0.heap.size := by omega
  have hnb : w0.heap.size ≤ n0 := by omega
  clear hn0
  refine wp_region_held_drew (S := fun w' => Below n0 w0 w') (by kernel_rfl) (Below.refl _ _).drew (fun hHeld => ?_)
  have hsd : w0.drew.heap.size ≤ n0 := hnb
  have hsd' : n0 ≤ w0.drew.heap.size := hna
  generalize w0.drew = wd at *
  refine takeE (i := 1) (v := .pointer (some ⟨w.heap.size, 0, none⟩)) 7 rfl rfl (by kernel_rfl) (by kernel_rfl) (by kernel_rfl) (fun _ _ _ h => h) (Or.inl ⟨by rfl, by intro W hSw; go_simp⟩) hHeld ?_
  simp only [Act.put, List.setIfInBounds_toArray, List.set_cons_zero, List.set_cons_succ]
  refine takeE (i := 2) (v := .slice (some ⟨fb, fo, none⟩) m.facts.length fc) 8 rfl rfl (by kernel_rfl) (by kernel_rfl) (by kernel_rfl) (fun _ _ _ h => h) (Or.inl ⟨by rfl, by intro W hSw; obtain ⟨c0, c1, c2, _⟩ := N0.out.below (HN0.out ▸ hSw); go_simp⟩) hHeld ?_
  simp only [Act.put, List.setIfInBounds_toArray, List.set_cons_zero, List.set_cons_succ]
  refine takeE (i := 4) (v := .pointer (some ⟨w.heap.size, 2, none⟩)) 10 rfl rfl (by kernel_rfl) (by kernel_rfl) (by kernel_rfl) (fun _ _ _ h => h) (Or.inl ⟨by rfl, by intro W hSw; go_simp⟩) hHeld ?_
  simp only [Act.put, List.setIfInBounds_toArray, List.set_cons_zero, List.set_cons_succ]
  refine takeE (i := 5) (v := .int .i64 m.actual) 11 rfl rfl (by kernel_rfl) (by kernel_rfl) (by kernel_rfl) (fun _ _ _ h => h) (Or.inl ⟨by rfl, by intro W hSw; obtain ⟨c0, c1, c2, _⟩ := N0.out.below (HN0.out ▸ hSw); go_simp⟩) hHeld ?_
  simp only [Act.put, List.setIfInBounds_toArray, List.set_cons_zero, List.set_cons_succ]
  refine twoE (i := 0) (j := 7) (by kernel_rfl) rfl rfl (by rfl) (by rfl) (fun K hK => ?first0) (fun K hK => ?way3)
  case' first0 =>
    go_simp
    have t1 : Below n0 w0 (wd.alloc (.cells #[] 3)) := hHeld.alloc (by have := hHeld.size; omega) _
    clear hHeld
    have L1 := Lib.hid (World.ownsRow_lit (base := n0) (e := 3) (size := 1) wd #[] 0 (by omega) (by decide) rfl)
    refine hK.out _ _ t1 (fun hHeld => ?_)
    clear hK K t1
    try simp only [Act.put, List.setIfInBounds_toArray, List.set_cons_zero, List.set_cons_succ]
    generalize wd.alloc (.cells #[] 3) = w1 at *
    refine twoE (i := 3) (j := 7) (by kernel_rfl) rfl rfl (by rfl) (by rfl) (fun K hK => ?way1) (fun K hK => ?way2)
  case' way1 =>
    have f1 := Lib.hid (F0.out.news (W := w1) (by rw [← HN0.out]; exact hHeld))
    refine wp_appendF (.tmp 6) (.tmp 8) 23 9 rfl rfl 3 (.int .i64 0) 8 Tryz.underlying23 Tryz.infoI rfl _ 0 0 [] n0 L1.out rfl ⟨fb, fo, none⟩ m.facts.length fc (ints m.facts) rfl (ints_len _) (by omega) f1.out (fun u hu => ints_one hu) (by unfold maxLen; omega) (by omega) (by have := hHeld.size; omega) ?_
    intro v1 w2 hx1 hb1
    clear f1
    rw [Nat.zero_add, List.nil_append] at hx1
    have t2 : Below n0 w0 w2 := hHeld.trans (hb1.mono (by have := hHeld.size; omega))
    have x1 : Io w1.heap.size w2.heap.size w2 v1 m.facts := Ro.of_own hx1
    obtain ⟨a1, k1, e1⟩ := x1.form
    subst e1
    have I1 := Lib.hid x1
    have hz1 : w1.heap.size ≤ w2.heap.size := hb1.size
    have hn1 : n0 ≤ w1.heap.size := by have := hHeld.size; omega
    clear hx1 hb1 x1 hHeld L1
    refine hK.out _ _ t2 (fun hHeld => ?_)
    clear hK K t2
    try simp only [Act.put, List.setIfInBounds_toArray, List.set_cons_zero, List.set_cons_succ]
    refine takeE (i := 6) (v := .agg #[.slice a1 m.facts.length k1, .slice none 0 0, .int .i64 m.actual]) 12 rfl rfl (by kernel_rfl) (by kernel_rfl) (by kernel_rfl) (fun _ _ _ h => h) (Or.inl ⟨by rfl, by intro W hSw; go_simp⟩) hHeld ?_
    simp only [Act.put, List.setIfInBounds_toArray, List.set_cons_zero, List.set_cons_succ]
    refine onlyE (i := 7) (by kernel_rfl) rfl (by rfl) (fun K hK => ?_)
    refine wp_allocM 26 3 rfl rfl _ Tryz.allocMd ?_
    have D2 := Lib.hid (Cm.new (w := w2) (b := w2.heap.size) (T := 26) (cs := [Value.slice none 0 0, .slice none 0 0, .int .i64 0]) rfl)
    have hb2 : Below w2.heap.size w2 (w2.alloc (.cells [Value.slice none 0 0, .slice none 0 0, .int .i64 0].toArray 26)) := (Below.refl _ _).alloc (Nat.le_refl _) _
    have hz2 : w2.heap.size + 1 ≤ (w2.alloc (.cells [Value.slice none 0 0, .slice none 0 0, .int .i64 0].toArray 26)).heap.size := Nat.le_of_eq (by simp)
    have t2 : Below n0 w0 (w2.alloc (.cells [Value.slice none 0 0, .slice none 0 0, .int .i64 0].toArray 26)) := hHeld.trans (hb2.mono (by have := hHeld.size; omega))
    have I2 := Lib.hid (I1.out.keeps (Keeps.of_all hb2))
    clear hHeld hb2 I1
    refine hK.out _ _ t2 (fun hHeld => ?_)
    clear hK K t2
    try simp only [Act.put, List.setIfInBounds_toArray, List.set_cons_zero, List.set_cons_succ]
    generalize w2.alloc (.cells [Value.slice none 0 0, .slice none 0 0, .int .i64 0].toArray 26) = w3 at *
    obtain ⟨b, hbb⟩ : ∃ b, b = w2.heap.size := ⟨_, rfl⟩
    obtain ⟨lo1, hlo⟩ : ∃ b, b = w1.heap.size := ⟨_, rfl⟩
    obtain ⟨hi1, hhi⟩ : ∃ b, b = w2.heap.size := ⟨_, rfl⟩
    have I3 : Hid (Io lo1 hi1 w3 (.slice a1 m.facts.length k1) m.facts) := Lib.hid (by rw [hlo, hhi]; exact I2.out)
    rw [← hbb] at D2 ⊢
    have hr1 : b < lo1 ∨ hi1 ≤ b := .inr (by omega)
    have hr2 : n0 ≤ lo1 ∧ n0 ≤ b ∧ hi1 ≤ w3.heap.size := ⟨by omega, by omega, by omega⟩
    clear hbb hlo hhi I2 hz1 hz2 hn1
  case' way2 =>
    refine wp_allocM 26 3 rfl rfl _ Tryz.allocMd ?_
    have D2 := Lib.hid (Cm.new (w := w1) (b := w1.heap.size) (T := 26) (cs := [Value.slice none 0 0, .slice none 0 0, .int .i64 0]) rfl)
    have hb2 : Below w1.heap.size w1 (w1.alloc (.cells [Value.slice none 0 0, .slice none 0 0, .int .i64 0].toArray 26)) := (Below.refl _ _).alloc (Nat.le_refl _) _
    have hz2 : w1.heap.size + 1 ≤ (w1.alloc (.cells [Value.slice none 0 0, .slice none 0 0, .int .i64 0].toArray 26)).heap.size := Nat.le_of_eq (by simp)
    have t2 : Below n0 w0 (w1.alloc (.cells [Value.slice none 0 0, .slice none 0 0, .int .i64 0].toArray 26)) := hHeld.trans (hb2.mono (by have := hHeld.size; omega))
    have L2 := Lib.hid (L1.out.alloc (.cells [Value.slice none 0 0, .slice none 0 0, .int .i64 0].toArray 26))
    have hn1 : n0 ≤ w1.heap.size := by have := hHeld.size; omega
    clear hHeld hb2 L1
    refine hK.out _ _ t2 (fun hHeld => ?_)
    clear hK K t2
    try simp only [Act.put, List.setIfInBounds_toArray, List.set_cons_zero, List.set_cons_succ]
    generalize w1.alloc (.cells [Value.slice none 0 0, .slice none 0 0, .int .i64 0].toArray 26) = w2 at *
    obtain ⟨b, hbb⟩ : ∃ b, b = w1.heap.size := ⟨_, rfl⟩
    rw [← hbb] at D2 ⊢
    refine onlyE (i := 3) (by kernel_rfl) rfl (by rfl) (fun K hK => ?_)
    have f1 := Lib.hid (F0.out.news (W := w2) (by rw [← HN0.out]; exact hHeld))
    refine wp_appendF (.tmp 6) (.tmp 8) 23 9 rfl rfl 3 (.int .i64 0) 8 Tryz.underlying23 Tryz.infoI rfl _ 0 0 [] n0 L2.out rfl ⟨fb, fo, none⟩ m.facts.length fc (ints m.facts) rfl (ints_len _) (by omega) f1.out (fun u hu => ints_one hu) (by unfold maxLen; omega) (by omega) (by have := hHeld.size; omega) ?_
    intro v1 w3 hx1 hb1
    clear f1
    rw [Nat.zero_add, List.nil_append] at hx1
    have t2 : Below n0 w0 w3 := hHeld.trans (hb1.mono (by have := hHeld.size; omega))
    have x1 : Io w2.heap.size w3.heap.size w3 v1 m.facts := Ro.of_own hx1
    obtain ⟨a1, k1, e1⟩ := x1.form
    subst e1
    have D2 := Lib.hid (D2.out.all hb1)
    obtain ⟨lo1, hlo⟩ : ∃ b, b = w2.heap.size := ⟨_, rfl⟩
    obtain ⟨hi1, hhi⟩ : ∃ b, b = w3.heap.size := ⟨_, rfl⟩
    have I3 : Hid (Io lo1 hi1 w3 (.slice a1 m.facts.length k1) m.facts) := Lib.hid (by rw [hlo, hhi]; exact x1)
    have hr1 : b < lo1 ∨ hi1 ≤ b := .inl (by omega)
    have hr2 : n0 ≤ lo1 ∧ n0 ≤ b ∧ hi1 ≤ w3.heap.size := ⟨by omega, by omega, by omega⟩
    clear hx1 hb1 x1 hHeld L2 hbb hlo hhi hz2 hn1
    refine hK.out _ _ t2 (fun hHeld => ?_)
    clear hK K t2
    try simp only [Act.put, List.setIfInBounds_toArray, List.set_cons_zero, List.set_cons_succ]
    refine takeE (i := 6) (v := .agg #[.slice a1 m.facts.length k1, .slice none 0 0, .int .i64 m.actual]) 12 rfl rfl (by kernel_rfl) (by kernel_rfl) (by kernel_rfl) (fun _ _ _ h => h) (Or.inl ⟨by rfl, by intro W hSw; go_simp⟩) hHeld ?_
    simp only [Act.put, List.setIfInBounds_toArray, List.set_cons_zero, List.set_cons_succ]
  case' way3 =>
    refine wp_allocM 26 3 rfl rfl _ Tryz.allocMd ?_
    have D1 := Lib.hid (Cm.new (w := wd) (b := wd.heap.size) (T := 26) (cs := [Value.slice none 0 0, .slice none 0 0, .int .i64 0]) rfl)
    have hz1 : wd.heap.size + 1 ≤ (wd.alloc (.cells [Value.slice none 0 0, .slice none 0 0, .int .i64 0].toArray 26)).heap.size := Nat.le_of_eq (by simp)
    have t1 : Below n0 w0 (wd.alloc (.cells [Value.slice none 0 0, .slice none 0 0, .int .i64 0].toArray 26)) := hHeld.alloc (by have := hHeld.size; omega) _
    clear hHeld
    refine hK.out _ _ t1 (fun hHeld => ?_)
    clear hK K t1
    try simp only [Act.put, List.setIfInBounds_toArray, List.set_cons_zero, List.set_cons_succ]
    generalize wd.alloc (.cells [Value.slice none 0 0, .slice none 0 0, .int .i64 0].toArray 26) = w1 at *
    refine onlyE (i := 0) (by kernel_rfl) rfl (by rfl) (fun K hK => ?_)
    go_simp
    have t1 : Below n0 w0 (w1.alloc (.cells #[] 3)) := hHeld.alloc (by omega) _
    have hb2 : Below w1.heap.size w1 (w1.alloc (.cells #[] 3)) := by go_grown
    have hz2 : w1.heap.size + 1 ≤ (w1.alloc (.cells #[] 3)).heap.size := Nat.le_of_eq (by simp)
    have L2 := Lib.hid (World.ownsRow_lit (base := n0) (e := 3) (size := 1) w1 #[] 0 (by omega) (by decide) rfl)
    have D2 := Lib.hid (D1.out.all hb2)
    clear hHeld hb2 D1
    refine hK.out _ _ t1 (fun hHeld => ?_)
    clear hK K t1
    try simp only [Act.put, List.setIfInBounds_toArray, List.set_cons_zero, List.set_cons_succ]
    generalize w1.alloc (.cells #[] 3) = w2 at *
    obtain ⟨b, hbb⟩ : ∃ b, b = wd.heap.size := ⟨_, rfl⟩
    rw [← hbb] at D2 ⊢
    refine onlyE (i := 3) (by kernel_rfl) rfl (by rfl) (fun K hK => ?_)
    have f1 := Lib.hid (F0.out.news (W := w2) (by rw [← HN0.out]; exact hHeld))
    refine wp_appendF (.tmp 6) (.tmp 8) 23 9 rfl rfl 3 (.int .i64 0) 8 Tryz.underlying23 Tryz.infoI rfl _ 0 0 [] n0 L2.out rfl ⟨fb, fo, none⟩ m.facts.length fc (ints m.facts) rfl (ints_len _) (by omega) f1.out (fun u hu => ints_one hu) (by unfold maxLen; omega) (by omega) (by have := hHeld.size; omega) ?_
    intro v1 w3 hx1 hb1
    clear f1
    rw [Nat.zero_add, List.nil_append] at hx1
    have t2 : Below n0 w0 w3 := hHeld.trans (hb1.mono (by have := hHeld.size; omega))
    have x1 : Io w2.heap.size w3.heap.size w3 v1 m.facts := Ro.of_own hx1
    obtain ⟨a1, k1, e1⟩ := x1.form
    subst e1
    have D2 := Lib.hid (D2.out.all hb1)
    obtain ⟨lo1, hlo⟩ : ∃ b, b = w2.heap.size := ⟨_, rfl⟩
    obtain ⟨hi1, hhi⟩ : ∃ b, b = w3.heap.size := ⟨_, rfl⟩
    have I3 : Hid (Io lo1 hi1 w3 (.slice a1 m.facts.length k1) m.facts) := Lib.hid (by rw [hlo, hhi]; exact x1)
    have hr1 : b < lo1 ∨ hi1 ≤ b := .inl (by omega)
    have hr2 : n0 ≤ lo1 ∧ n0 ≤ b ∧ hi1 ≤ w3.heap.size := ⟨by omega, by omega, by omega⟩
    have t2 : Below n0 w0 w3 := t2
    clear hx1 hb1 x1 hHeld L2 hlo hhi hz1 hz2
    refine hK.out _ _ t2 (fun hHeld => ?_)
    clear hK K t2
    try simp only [Act.put, List.setIfInBounds_toArray, List.set_cons_zero, List.set_cons_succ]
    clear hbb
    refine takeE (i := 6) (v := .agg #[.slice a1 m.facts.length k1, .slice none 0 0, .int .i64 m.actual]) 12 rfl rfl (by kernel_rfl) (by kernel_rfl) (by kernel_rfl) (fun _ _ _ h => h) (Or.inl ⟨by rfl, by intro W hSw; go_simp⟩) hHeld ?_
    simp only [Act.put, List.setIfInBounds_toArray, List.set_cons_zero, List.set_cons_succ]
  all_goals
    refine onlyE (i := 8) (by kernel_rfl) rfl (by rfl) (fun K hK => ?_)
    refine wp_storeM 26 (.tmp 3) (.tmp 12) rfl rfl b 0 rfl [.slice a1 m.facts.length k1, .slice none 0 0, .int .i64 m.actual] rfl 26 _ D2.out (Nat.le_refl 3) Tryz.sizeMd (by intro u hu; simp at hu; rcases hu with rfl | rfl | rfl <;> rfl) ?_
    intro w4 hc3 ha3
    rw [lay'_all (by rfl)] at hc3
    have D3 := Lib.hid hc3
    have I4 := Lib.hid (I3.out.keeps (lo := lo1) (hi := hi1) ⟨Nat.le_of_eq ha3.size.symm, fun q h1 h2 _ => ha3.block q (by omega)⟩)
    have t3 : Below n0 w0 w4 := hHeld.trans (ha3.below hr2.2.1)
    have hs3 : w4.heap.size = w3.heap.size := ha3.size
    clear hc3 ha3 hHeld
    refine hK.out _ _ t3 (fun hHeld => ?_)
    clear hK K t3
    refine wpAnyH_done (by kernel_rfl) ?_ _
    rw [HN0.out] at hHeld hr2
    have N3 := Lib.hid (N0.out.below hHeld)
    have M3 := Lib.hid (M0.out.below hHeld)
    have B3 : Hid (Below w.heap.size w w4) := Lib.hid (B0.out.trans (hHeld.mono B0.out.size))
    obtain ⟨g0, g1, g2, _⟩ := N3.out
    have hb3 : b < w4.heap.size := D3.out.lt
    have hw3 : w0.heap.size ≤ w4.heap.size := hHeld.size
    have hi3 : hi1 ≤ w4.heap.size := by omega
    have H4 := Lib.hid (HB.out.keeps (Keeps.of_all B3.out))
    clear hHeld M0 B0 D2 I3 hs3 F0 N0 HB
    obtain ⟨r1, r2, r3⟩ := hr2
    go_wp2
    clear g0 g1 g2
    go_loopw [16] (fun iv wr => ∃ (k : Nat) (bv : Value) (vs : List Value), k ≤ m.blocks.length ∧ iv = .int .i64 k ∧ Hid (Cm wr b 26 [.slice a1 m.facts.length k1, bv, .int .i64 m.actual]) ∧ Hid (Ioo w4.heap.size wr.heap.size wr bv vs (m.blocks.take k)) ∧ Hid (Io lo1 hi1 wr (.slice a1 m.facts.length k1) m.facts) ∧ Hid (Mcell wr (w.heap.size + 1) (.slice none 0 0) (.slice none 0 0) 0) ∧ Hid (Below w.heap.size w wr) ∧ Hid (Ivv lo hi wr (.slice ba m.blocks.length bc) m.blocks) ∧ w4.heap.size ≤ wr.heap.size) (fun iv _ => m.blocks.length - (intOf iv).toNat)
    case atStart => exact ⟨0, _, [], Nat.zero_le _, rfl, D3, Lib.hid ⟨Ro.nil _ _ _ _, ⟨rfl, fun j hj => by simp at hj⟩, List.pairwise_singleton _ _⟩, I4, M3, B3, H4, Nat.le_refl _⟩
    case round =>
      clear D3 I4 M3 B3 H4
      obtain ⟨k, bv, vs, hk, rfl, DR, OR, IR, MR, BR, HR, hwr⟩ := hrel
      by_cases hlt : k < m.blocks.length
      · have HTK := Lib.hid (take_snocL hlt)
        have hvl : vs.length = k := by rw [OR.out.2.1.1, List.length_take]; omega
        have hrl := PR.out k hlt
        obtain ⟨b0, o0, u, e0, _, _, hlt0, c0, hu⟩ := HR.out.row rfl k hlt
        subst e0
        obtain ⟨row, hrow⟩ : ∃ r, r = m.blocks.getD k [] := ⟨_, rfl⟩
        rw [← hrow] at HTK hrl hu
        clear hrow
        obtain ⟨ua, uc, e0⟩ := hu.form
        subst e0
        obtain ⟨ub, uo, e0⟩ := hu.addr (by omega)
        subst e0
        have HU := Lib.hid hu
        have HRL := Lib.hid hrl
        clear hu hrl
        go_wp2
        clear c0
        refine regionL (fun W => Below w4.heap.size wr W) [8] (by kernel_rfl) (Below.refl _ _).drew (fun hHeld => ?_)
        have hsd' : wr.drew.heap.size ≤ wr.heap.size := Nat.le_refl _
        have hsd'' : wr.heap.size ≤ wr.drew.heap.size := Nat.le_refl _
        have hbd : Below wr.heap.size wr wr.drew := (Below.refl wr.heap.size wr).drew
        generalize wr.drew = wd at *
        refine takeA (i := 0) (v := .pointer (some ⟨b, 1, none⟩)) 20 rfl rfl (by kernel_rfl) (by kernel_rfl) (by kernel_rfl) (by kernel_rfl) (fun _ _ _ h => h) (Or.inl ⟨by rfl, by intro W hSw; go_simp⟩) hHeld ?_
        simp only [Act.put, List.setIfInBounds_toArray, List.set_cons_zero, List.set_cons_succ]
        refine takeA (i := 1) (v := bv) 21 rfl rfl (by kernel_rfl) (by kernel_rfl) (by kernel_rfl) (by kernel_rfl) (fun _ _ _ h => h) (Or.inl ⟨by rfl, by intro W hSw; have d1 : W.cell? ⟨b, 1, none⟩ = some bv := (DR.out.below hSw hb3).cell 1; go_simp⟩) hHeld ?_
        simp only [Act.put, List.setIfInBounds_toArray, List.set_cons_zero, List.set_cons_succ]
        refine takeA (i := 3) (v := .slice (some ⟨ub, uo, none⟩) row.length uc) 23 rfl rfl (by kernel_rfl) (by kernel_rfl) (by kernel_rfl) (by kernel_rfl) (fun _ _ _ h => h) (Or.inl ⟨by rfl, by intro W hSw; go_simp⟩) hHeld ?_
        simp only [Act.put, List.setIfInBounds_toArray, List.set_cons_zero, List.set_cons_succ]
        refine onlyL (i := 2) (by kernel_rfl) rfl (by rfl) (fun K hK => ?_)
        go_simp
        have t4 : Below wr.heap.size wr (wd.alloc (.cells #[] 3)) := hbd.alloc (by omega) _
        have L4 := Lib.hid (World.ownsRow_lit (base := wr.heap.size) (e := 3) (size := 1) wd #[] 0 (by omega) (by decide) rfl)
        clear hHeld
        refine hK.out _ _ (fun _ => t4.mono hwr) (fun _ => ?_)
        clear hK K
        try simp only [Act.put, List.setIfInBounds_toArray, List.set_cons_zero, List.set_cons_succ]
        generalize wd.alloc (.cells #[] 3) = w5 at *
        have f5 := Lib.hid (HU.out.news t4)
        have T4 := Lib.hid t4
        have hs4 : wr.heap.size ≤ w5.heap.size := t4.size
        clear t4
        refine onlyL (i := 4) (by kernel_rfl) rfl (by rfl) (fun K hK => ?_)
        refine wp_appendF (.tmp 22) (.tmp 23) 23 24 rfl rfl 3 (.int .i64 0) 8 Tryz.underlying23 Tryz.infoI rfl _ 0 0 [] wr.heap.size L4.out rfl ⟨ub, uo, none⟩ row.length uc (ints row) rfl (ints_len _) (by have := HRL.out; omega) f5.out (fun u hu => ints_one hu) (by unfold maxLen; have := HRL.out; omega) (by have := HRL.out; omega) hs4 ?_
        intro v6 w6 hx6 hb6
        rw [Nat.zero_add, List.nil_append] at hx6
        have x6 : Io w5.heap.size w6.heap.size w6 v6 row := Ro.of_own hx6
        obtain ⟨a6, k6, e0⟩ := x6.form
        subst e0
        have U6 : Hid (Io wr.heap.size w6.heap.size w6 (.slice a6 row.length k6) row) := Lib.hid (x6.wide hs4 (Nat.le_refl _))
        have t6 : Below wr.heap.size wr w6 := T4.out.trans (hb6.mono hs4)
        clear hx6 x6 hb6 f5 L4 T4
        have O6 := Lib.hid (OR.out.keeps (Keeps.of_all t6))
        have D6 := Lib.hid (DR.out.all t6)
        have I6 : Hid (Io lo1 hi1 w6 (.slice a1 m.facts.length k1) m.facts) := Lib.hid (IR.out.keeps (Keeps.of_all t6))
        have M6 := Lib.hid (MR.out.below t6)
        have B6 : Hid (Below w.heap.size w w6) := Lib.hid (BR.out.trans (t6.mono BR.out.size))
        have H6 := Lib.hid (HR.out.keeps (Keeps.of_all t6))
        have T6 := Lib.hid (t6.mono hwr)
        have hs6 : wr.heap.size ≤ w6.heap.size := t6.size
        refine hK.out _ _ (fun _ => t6.mono hwr) (fun _ => ?_)
        clear hK K t6 OR DR IR MR BR HR HU hs4
        try simp only [Act.put, List.setIfInBounds_toArray, List.set_cons_zero, List.set_cons_succ]
        refine onlyL (i := 5) (by kernel_rfl) rfl (by rfl) (fun K hK => ?_)
        go_simp
        refine hK.out _ _ (fun _ => T6.out.alloc (by omega) _) (fun _ => ?_)
        clear hK K
        try simp only [Act.put, List.setIfInBounds_toArray, List.set_cons_zero, List.set_cons_succ]
        refine onlyL (i := 6) (by kernel_rfl) rfl (by rfl) (fun K hK => ?_)
        have hown : w6.ownsRow w4.heap.size 23 1 bv vs.length vs := O6.out.1.1
        refine wp_pushL (.tmp 21) (.tmp 25) 24 26 rfl rfl 23 (.slice none 0 0) 24 Tryz.underlying24 Tryz.infoL rfl w4.heap.size (.slice a6 row.length k6) bv vs.length vs hown rfl w6.heap.size rfl rfl rfl (by unfold maxLen; omega) (by omega) (by omega) ?_
        intro v7 w7 hown7 hg7
        have hbv : ∀ q, bv.ownBlock = some q → w4.heap.size ≤ q ∧ q < wr.heap.size := fun q hq => ⟨(O6.out.1.1.lt q hq).1, O6.out.1.2 q hq⟩
        have O7 := Lib.hid (Ioo.push O6.out U6.out (Nat.le_refl _) hs6 hwr hown7 hg7)
        have hne : ∀ q, q < w4.heap.size → bv.ownBlock ≠ some q := fun q hq e => by have := hbv q e; omega
        have D7 := Lib.hid (D6.out.of_block (hg7.block (by omega) (hne b hb3)))
        have M7 := Lib.hid (M6.out.of_block (hg7.block (by omega) (hne _ (by omega))))
        have I7 : Hid (Io lo1 hi1 w7 (.slice a1 m.facts.length k1) m.facts) := Lib.hid (hg7.ro I6.out (apart_lt (B := w4.heap.size) (fun q hq => by have := I6.out.2 q hq; omega) (fun q hq => (hbv q hq).1)))
        have t5 : Below w4.heap.size w6 w7 := hg7.below (by omega) (fun q hq => (hbv q hq).1)
        have B7 : Hid (Below w.heap.size w w7) := Lib.hid (B6.out.trans (t5.mono (by omega)))
        have H7 := Lib.hid (H6.out.keeps (lo := lo) (hi := hi) ⟨t5.size, fun q _ h2 _ => t5.block q (by omega)⟩)
        have hs7 : w6.heap.size ≤ w7.heap.size := t5.size
        have t7 : Below w4.heap.size wr w7 := T6.out.trans t5
        obtain ⟨v7a, v7c, e5⟩ := O7.out.1.form
        rw [show (vs ++ [Value.slice a6 row.length k6]).length = k + 1 by simp [hvl]] at e5
        have d5 := D7.out.cell 1
        have f5 := D7.out.frozen 1
        clear hown hown7 hbv hne t5 O6 D6 I6 M6 B6 H6 hg7 T6
        refine hK.out _ _ (fun _ => t7) (fun hHeld => ?_)
        have hHeld := hHeld (by decide)
        clear hK K t7
        try simp only [Act.put, List.setIfInBounds_toArray, List.set_cons_zero, List.set_cons_succ]
        refine takeA (i := 7) (v := .pointer (some ⟨b, 1, none⟩)) 27 rfl rfl (by kernel_rfl) (by kernel_rfl) (by kernel_rfl) (by kernel_rfl) (fun _ _ _ h => h) (Or.inl ⟨by rfl, by intro W hSw; go_simp⟩) hHeld ?_
        simp only [Act.put, List.setIfInBounds_toArray, List.set_cons_zero, List.set_cons_succ]
        refine onlyL (i := 8) (by kernel_rfl) rfl (by rfl) (fun K hK => ?_)
        simp only [List.getElem?_cons_succ, List.getElem?_cons_zero] at d5
        subst e5
        go_simp
        refine hK.out _ _ (fun h => absurd (by decide) h) (fun _ => ?_)
        clear hK K hHeld
        refine doneL (by kernel_rfl) ?_ _
        clear d5 f5
        go_wp2
        go_roundw
        case rel =>
          refine ⟨k + 1, _, vs ++ [.slice a6 row.length k6], by omega, by go_num, Lib.hid (D7.out.set 1 _), Lib.hid ?_, Lib.hid (I7.out.keeps (Keeps.setCell _ _ _ _ hr1)), Lib.hid (M7.out.other (by omega) _ _), Lib.hid (B7.out.setCell (by show _ ≤ b; omega) _), Lib.hid (H7.out.keeps (Keeps.setCell _ _ _ _ (by omega))), by simp [World.setCell]; omega⟩
          rw [HTK.out]
          exact (O7.out.keeps (Keeps.setCell w7 b 1 (.slice v7a (k + 1) v7c) (.inl hb3))).wide (Nat.le_refl _) (Keeps.setCell (lo := 0) (hi := 0) w7 b 1 (.slice v7a (k + 1) v7c) (.inr (Nat.zero_le _))).size
        case measure => simp [intOf]; omega
      · obtain rfl : k = m.blocks.length := by omega
        obtain ⟨ba', bc', e5⟩ := OR.out.1.form
        have hvl : vs.length = m.blocks.length := by rw [OR.out.2.1.1, List.length_take]; omega
        rw [hvl] at e5
        subst e5
        obtain ⟨m0, m1, m2, m3, m4, m5⟩ := MR.out
        go_wp2_with (refine wpList_loadM rfl 26 _ rfl b 0 rfl 26 _ [.slice a1 m.facts.length k1, .slice ba' m.blocks.length bc', .int .i64 m.actual] DR.out (fun j _ => by rw [Nat.zero_add]) _ Tryz.underlying26 rfl Tryz.sizeMd ?_)
        clear m0 m1 m2 m3 m4 m5
        have M6 := MR.out.write (.slice a1 m.facts.length k1) (.slice ba' m.blocks.length bc') m.actual
        refine bodyPost_ret (results_mid1 Tryz.results94 _ _ _ _ _ rfl M6.range Tryz.underlying26 rfl Tryz.sizeMd) rfl ?_
        refine ⟨_, rfl, ⟨_, _, vs, rfl, ?_, ?_, ?_⟩, ((BR.out.setCell (by show _ ≤ w.heap.size + 1; omega) _).setCell (by show _ ≤ w.heap.size + 1; omega) _).setCell (by show _ ≤ w.heap.size + 1; omega) _⟩
        · exact (IR.out.keeps (((Keeps.setCell _ _ _ _ (by omega)).set (by omega) _ _).set (by omega) _ _)).wide (by omega) (by simp [World.setCell]; omega)
        · have h := OR.out
          rw [List.take_of_length_le (Nat.le_refl _)] at h
          exact (h.keeps (((Keeps.setCell _ _ _ _ (by omega)).set (by omega) _ _).set (by omega) _ _)).wide (by omega) (by simp [World.setCell])
        · intro u hu
          refine apart_lt (B := w4.heap.size) (fun q hq => by have := IR.out.2 q hq; omega) (fun q hq => ?_)
          rcases List.mem_cons.1 hu with rfl | hu
          · exact (OR.out.1.1.lt q hq).1
          · exact (OR.out.2.1.blk hu q hq).1
end Go.Proofs.YtodjohdbngbpaaaGreat

/-
  Contracts of spec.l01In, spec.l03Numbered, spec.ModelOk, spec.CountWorlds, impl.ModelOk, impl.CountWorlds; the walks of the laws FnExactModelOk, FnExactCountWorlds. Conditions of the contracts: bounds on the lengths, which the laws check.
-/
namespace Go.Proofs.YtodjohdbngbpaaaGreat
open Go.RowKit Go.WideShapes
open Go Go.Deep

set_option maxHeartbeats 400000 in
theorem inI_yes (x lo hi : Int) (w : World) (h1 : lo ≤ x) (h2 : x ≤ hi) : Calls Tryz.prog 122 #[.int .i64 x, .int .i64 lo, .int .i64 hi] w fun e w' => e = .returned (.bool true) ∧ w = w' := by
  go_enter Tryz.func122, Tryz.ntmps122
  go_wp2
  go_ret
  exact ⟨ret_bool (by simp <;> omega), rfl⟩
set_option maxHeartbeats 400000 in
theorem inI_no (x lo hi : Int) (w : World) (h : x < lo ∨ hi < x) : Calls Tryz.prog 122 #[.int .i64 x, .int .i64 lo, .int .i64 hi] w fun e w' => e = .returned (.bool false) ∧ w = w' := by
  by_cases h1 : x < lo
  · clear h
    go_enter Tryz.func122, Tryz.ntmps122
    go_wp2
    go_ret
    exact ⟨rfl, rfl⟩
  · have h2 : lo ≤ x := by omega
    have h3 : hi < x := by omega
    clear h h1
    go_enter Tryz.func122, Tryz.ntmps122
    go_wp2
    go_ret
    exact ⟨ret_bool (by simp <;> omega), rfl⟩
theorem inI_any (x lo hi : Int) (w : World) (b : Bool) (hb : b = decide (lo ≤ x ∧ x ≤ hi)) : Calls Tryz.prog 122 #[.int .i64 x, .int .i64 lo, .int .i64 hi] w fun e w' => e = .returned (.bool b) ∧ w = w' := by
  by_cases h : lo ≤ x ∧ x ≤ hi
  · rw [decide_eq_true h] at hb; subst hb; exact inI_yes x lo hi w h.1 h.2
  · rw [decide_eq_false h] at hb; subst hb; exact inI_no x lo hi w (by omega)

theorem Iv.at' {lo hi : Nat} {w : World} {a : Option Addr} {n cap : Nat} {l : List Int} (h : Iv lo hi w (.slice a n cap) l) {W : World} (hb : Below w.heap.size w W) (j : Nat) (hj : j < l.length) :
    ∃ b o, a = some ⟨b, o, none⟩ ∧ W.cell? ⟨b, o + j, none⟩ = some (.int .i64 (l.getD j 0)) := by
  obtain ⟨a', cap', e, _, _, h4⟩ := h.parts
  cases e
  obtain ⟨b, o, e1, _, _, hlt, hc⟩ := h4 j hj
  exact ⟨b, o, e1, by rw [hb.cell (p := ⟨b, o + j, none⟩) hlt]; exact hc⟩
theorem most_le {l : List Int} : ∀ k, ordTo l k → mostOf l k < k
  | 0, _ => by simp [mostOf]
  | k + 1, h => by
    obtain ⟨h1, _, h3⟩ := ordTo_succ.1 h
    have := most_le k h1
    rw [mostOf]; omega
set_option maxRecDepth 100000 in
set_option maxHeartbeats 4000000 in
theorem specNumbered_any (lo hi : Nat) (v : Value) (l : List Int) (w : World) (hr : Iv lo hi w v l) :
    Calls Tryz.prog 133 #[v] w fun e w' => e = .returned (.bool (ordOk l)) ∧ w = w' := by
  obtain ⟨a, cap, rfl, h1, h2, h3⟩ := hr.parts
  unfold maxLen at h2
  have KEY := Lib.hid h3
  have HOK : Hid (ordOk l = decide (ordTo l l.length)) := Lib.hid rfl
  clear h3 hr
  generalize ordOk l = R at *
  go_enter Tryz.func133, Tryz.ntmps133
  go_wp2
  go_loop [3, 8] (fun mv iv => ∃ (k : Nat) (q : Int), k ≤ l.length ∧ iv = .int .i64 k ∧ mv = .int .i64 q ∧ -1 ≤ q ∧ q < k ∧ Hid (q = mostOf l k) ∧ Hid (ordTo l k)) (fun _ iv => l.length - (intOf iv).toNat)
  case atStart => exact ⟨0, -1, Nat.zero_le _, rfl, rfl, by omega, by omega, Lib.hid rfl, Lib.hid (fun i hi => by omega)⟩
  case round =>
    obtain ⟨k, q, hk, rfl, rfl, hq0, hqk, HQ, HO⟩ := hrel
    by_cases hlt : k < l.length
    · obtain ⟨b, o, rfl, _, _, hb, c0⟩ := KEY.out k hlt
      have HS := Lib.hid (ordTo_succ (l := l) (k := k))
      have HM : Hid (mostOf l (k + 1) = max (mostOf l k) (l.getD k 0)) := Lib.hid rfl
      have HB2 : Hid (¬ (0 ≤ l.getD k 0 ∧ l.getD k 0 ≤ mostOf l k + 1) → R = false) := Lib.hid (fun h => by
        rw [HOK.out]
        exact decide_eq_false (fun h2 => h ⟨(h2 k hlt).1, (h2 k hlt).2⟩))
      rw [← HQ.out] at HS HM HB2
      generalize l.getD k 0 = x at *
      by_cases hx : 0 ≤ x ∧ x ≤ q + 1
      · have KI := Lib.hid (fun W => inI_yes x 0 (q + 1) W hx.1 hx.2)
        have hx0 := hx.1
        have hx1 := hx.2
        clear hx
        by_cases hm : q ≤ x
        · go_wp2_with (go_at_call 122; refine (KI.out _).mono ?_; rintro e w' ⟨rfl, rfl⟩)
          go_round
          case rel => exact ⟨k + 1, x, by omega, by go_num, by go_num, by omega, by omega, Lib.hid (by rw [HM.out]; omega), Lib.hid (HS.out.2 ⟨HO.out, hx0, hx1⟩)⟩
          case measure => simp [intOf]; omega
        · go_wp2_with (go_at_call 122; refine (KI.out _).mono ?_; rintro e w' ⟨rfl, rfl⟩)
          go_round
          case rel => exact ⟨k + 1, q, by omega, by go_num, by go_num, by omega, by omega, Lib.hid (by rw [HM.out]; omega), Lib.hid (HS.out.2 ⟨HO.out, hx0, hx1⟩)⟩
          case measure => simp [intOf]; omega
      · have KI := Lib.hid (fun W => inI_no x 0 (q + 1) W (by omega))
        have HR := Lib.hid (HB2.out hx)
        clear hx
        go_wp2_with (go_at_call 122; refine (KI.out _).mono ?_; rintro e w' ⟨rfl, rfl⟩)
        go_ret
        exact ⟨ret_bool HR.out.symm, rfl⟩
    · obtain rfl : k = l.length := by omega
      go_wp2
      go_ret
      exact ⟨ret_bool (by rw [HOK.out, decide_eq_true HO.out]), rfl⟩

set_option maxRecDepth 100000 in
set_option maxHeartbeats 8000000 in
theorem specOk_any (lo hi : Nat) (v : Value) (m : Md) (w : World) (hr : Mv lo hi w v m) :
    Calls Tryz.prog 93 #[v] w fun e w' => e = .returned (.bool (specOk m)) ∧ Below w.heap.size w w' := by
  obtain ⟨fv, bv, rfl, hf, hb⟩ := hr
  obtain ⟨fa, fc, e1⟩ := hf.form
  obtain ⟨ba, bc, e2, hbl, hbc, hxx⟩ := hb.parts
  obtain ⟨fa', fc', e3, hfl, hfc, hyy⟩ := hf.parts
  rw [e1] at e3
  simp only [Value.slice.injEq, true_and] at e3
  obtain ⟨rfl, rfl⟩ := e3
  clear hxx hyy
  subst e1
  subst e2
  unfold maxLen at hbc hfc
  have HF := Lib.hid hf
  have HBV := Lib.hid hb
  clear hf hb
  have HOK : Hid (specOk m = (decide (1 ≤ m.facts.length ∧ m.facts.length ≤ 16) && decide (1 ≤ m.blocks.length ∧ m.blocks.length ≤ 3) && inB m.actual m.facts.length &&
    (List.range m.facts.length).all (fun j => inB (m.facts.getD j 0) 16) && (List.range m.blocks.length).all (fun k => (m.blocks.getD k []).length == m.facts.length && ordOk (m.blocks.getD k [])))) := Lib.hid rfl
  generalize specOk m = R at *
  by_cases c1 : ¬ (1 ≤ m.facts.length ∧ m.facts.length ≤ 16)
  · have HR : Hid (R = false) := Lib.hid (by rw [HOK.out, decide_eq_false c1]; rfl)
    have K1 := Lib.hid (fun W => inI_no m.facts.length 1 16 W (by omega))
    clear c1
    go_enter Tryz.func93, Tryz.ntmps93
    go_wp2_with (go_at_call 122; first | ((with_reducible refine (K1.out _).mono ?_); rintro e w' ⟨rfl, rfl⟩))
    go_ret
    exact ⟨ret_bool HR.out.symm, by go_grown⟩
  by_cases c2 : ¬ (1 ≤ m.blocks.length ∧ m.blocks.length ≤ 3)
  · have HR : Hid (R = false) := Lib.hid (by rw [HOK.out, decide_eq_false c2]; simp)
    have K1 := Lib.hid (fun W => inI_yes m.facts.length 1 16 W (by omega) (by omega))
    have K2 := Lib.hid (fun W => inI_no m.blocks.length 1 3 W (by omega))
    clear c1 c2
    go_enter Tryz.func93, Tryz.ntmps93
    go_wp2_with (go_at_call 122; first | ((with_reducible refine (K1.out _).mono ?_); rintro e w' ⟨rfl, rfl⟩) | ((with_reducible refine (K2.out _).mono ?_); rintro e w' ⟨rfl, rfl⟩))
    go_ret
    exact ⟨ret_bool HR.out.symm, by go_grown⟩
  have z1 : 1 ≤ m.facts.length ∧ m.facts.length ≤ 16 := Classical.byContradiction c1
  have z2 : 1 ≤ m.blocks.length ∧ m.blocks.length ≤ 3 := Classical.byContradiction c2
  clear c1 c2
  obtain ⟨z1, z1'⟩ := z1
  obtain ⟨z2, z2'⟩ := z2
  have K1 := Lib.hid (fun W => inI_yes m.facts.length 1 16 W (by omega) (by omega))
  have K2 := Lib.hid (fun W => inI_yes m.blocks.length 1 3 W (by omega) (by omega))
  have HOK2 : Hid (R = (inB m.actual m.facts.length &&
    (List.range m.facts.length).all (fun j => inB (m.facts.getD j 0) 16) && (List.range m.blocks.length).all (fun k => (m.blocks.getD k []).length == m.facts.length && ordOk (m.blocks.getD k [])))) := Lib.hid (by rw [HOK.out, decide_eq_true ⟨z1, z1'⟩, decide_eq_true ⟨z2, z2'⟩]; simp)
  clear HOK
  by_cases c3 : ¬ (0 ≤ m.actual ∧ m.actual < m.facts.length)
  · have HR : Hid (R = false) := Lib.hid (by rw [HOK2.out, show inB m.actual m.facts.length = false from decide_eq_false c3]; rfl)
    have K3 := Lib.hid (fun W => inI_no m.actual 0 (m.facts.length - 1) W (by omega))
    clear c3
    go_enter Tryz.func93, Tryz.ntmps93
    go_wp2_with (go_at_call 122; first | ((with_reducible refine (K1.out _).mono ?_); rintro e w' ⟨rfl, rfl⟩) | ((with_reducible refine (K2.out _).mono ?_); rintro e w' ⟨rfl, rfl⟩) | ((with_reducible refine (K3.out _).mono ?_); rintro e w' ⟨rfl, rfl⟩))
    go_ret
    exact ⟨ret_bool HR.out.symm, by go_grown⟩
  have z3 : 0 ≤ m.actual ∧ m.actual < m.facts.length := Classical.byContradiction c3
  have HOK3 : Hid (R = ((List.range m.facts.length).all (fun j => inB (m.facts.getD j 0) 16) && (List.range m.blocks.length).all (fun k => (m.blocks.getD k []).length == m.facts.length && ordOk (m.blocks.getD k [])))) := Lib.hid (by rw [HOK2.out, show inB m.actual m.facts.length = true from decide_eq_true z3]; simp)
  have K3 := Lib.hid (fun W => inI_yes m.actual 0 (m.facts.length - 1) W (by omega) (by omega))
  clear c3 HOK2
  obtain ⟨z3, z3'⟩ := z3
  go_enter Tryz.func93, Tryz.ntmps93
  go_wp2_with (go_at_call 122; first | ((with_reducible refine (K1.out _).mono ?_); rintro e w' ⟨rfl, rfl⟩) | ((with_reducible refine (K2.out _).mono ?_); rintro e w' ⟨rfl, rfl⟩) | ((with_reducible refine (K3.out _).mono ?_); rintro e w' ⟨rfl, rfl⟩))
  have X1 := Lib.hid (Mcell.new (w := w) (T := 26) (b := w.heap.size) (fv := .slice fa m.facts.length fc) (bv := .slice ba m.blocks.length bc) (n := m.actual) rfl)
  have B1 : Hid (Below w.heap.size w (w.alloc (.cells #[.slice fa m.facts.length fc, .slice ba m.blocks.length bc, .int .i64 m.actual] 26))) := Lib.hid (by go_grown)
  generalize w.alloc (.cells #[.slice fa m.facts.length fc, .slice ba m.blocks.length bc, .int .i64 m.actual] 26) = w1 at *
  go_loop [32] (fun iv => ∃ k : Nat, k ≤ m.facts.length ∧ iv = .int .i64 k ∧ Hid ((List.range k).all (fun j => inB (m.facts.getD j 0) 16) = true)) (fun iv => m.facts.length - (intOf iv).toNat)
  case atStart => exact ⟨0, Nat.zero_le _, rfl, Lib.hid rfl⟩
  case round =>
    obtain ⟨k, hk, rfl, HK⟩ := hrel
    by_cases hlt : k < m.facts.length
    · obtain ⟨b, o, rfl, c0⟩ := HF.out.at' B1.out k hlt
      have HBAD : Hid (inB (m.facts.getD k 0) 16 = false → R = false) := Lib.hid (fun h => by rw [HOK3.out, all_false (p := fun j => inB (m.facts.getD j 0) 16) h hlt]; rfl)
      have HGOOD : Hid (inB (m.facts.getD k 0) 16 = true → (List.range (k + 1)).all (fun j => inB (m.facts.getD j 0) 16) = true) := Lib.hid (fun h => all_succ HK.out h)
      generalize m.facts.getD k 0 = x at *
      by_cases hx : 0 ≤ x ∧ x < 16
      · have KI := Lib.hid (fun W => inI_yes x 0 15 W (by omega) (by omega))
        have HG := Lib.hid (HGOOD.out (inB_yes hx.1 hx.2))
        clear hx
        go_wp2_with (go_at_call 122; refine (KI.out _).mono ?_; rintro e w' ⟨rfl, rfl⟩)
        go_round
        case rel => exact ⟨k + 1, by omega, by go_num, HG⟩
        case measure => simp [intOf]; omega
      · have KI := Lib.hid (fun W => inI_no x 0 15 W (by omega))
        have HR := Lib.hid (HBAD.out (decide_eq_false hx))
        clear hx
        go_wp2_with (go_at_call 122; refine (KI.out _).mono ?_; rintro e w' ⟨rfl, rfl⟩)
        go_ret
        exact ⟨ret_bool HR.out.symm, B1.out⟩
    · obtain rfl : k = m.facts.length := by omega
      have HOK4 : Hid (R = (List.range m.blocks.length).all (fun k => (m.blocks.getD k []).length == m.facts.length && ordOk (m.blocks.getD k []))) := Lib.hid (by rw [HOK3.out, HK.out]; rfl)
      obtain ⟨x0, x1, x2, _⟩ := X1.out
      clear HK
      go_wp2
      clear x0 x1 x2
      go_loop [43] (fun iv => ∃ k : Nat, k ≤ m.blocks.length ∧ iv = .int .i64 k ∧ Hid ((List.range k).all (fun k => (m.blocks.getD k []).length == m.facts.length && ordOk (m.blocks.getD k [])) = true)) (fun iv => m.blocks.length - (intOf iv).toNat)
      case atStart => exact ⟨0, Nat.zero_le _, rfl, Lib.hid rfl⟩
      case round =>
        obtain ⟨k, hk, rfl, HK⟩ := hrel
        by_cases hlt : k < m.blocks.length
        · obtain ⟨b, o, u, rfl, _, _, hbl, c0, hu⟩ := (HBV.out.keeps (Keeps.of_all B1.out)).row rfl k hlt
          obtain ⟨a1, q1, e1⟩ := hu.form
          subst e1
          have HBAD : Hid (((m.blocks.getD k []).length == m.facts.length && ordOk (m.blocks.getD k [])) = false → R = false) := Lib.hid (fun h => by rw [HOK4.out]; exact all_false (p := fun k => (m.blocks.getD k []).length == m.facts.length && ordOk (m.blocks.getD k [])) h hlt)
          have HGOOD : Hid (((m.blocks.getD k []).length == m.facts.length && ordOk (m.blocks.getD k [])) = true → (List.range (k + 1)).all (fun k => (m.blocks.getD k []).length == m.facts.length && ordOk (m.blocks.getD k [])) = true) := Lib.hid (fun h => all_succ HK.out h)
          have KN := Lib.hid (specNumbered_any lo hi _ _ w1 hu)
          clear hu
          generalize m.blocks.getD k [] = l at *
          by_cases hl : l.length = m.facts.length
          · rw [hl] at HBAD HGOOD KN c0
            clear hl
            cases ho : ordOk l with
            | true =>
              rw [ho] at KN HGOOD
              have HG := Lib.hid (HGOOD.out (by simp))
              clear ho
              go_wp2_with (go_at_call 133; refine KN.out.mono ?_; rintro e w' ⟨rfl, rfl⟩)
              go_round
              case rel => exact ⟨k + 1, by omega, by go_num, HG⟩
              case measure => simp [intOf]; omega
            | false =>
              rw [ho] at KN HBAD
              have HR := Lib.hid (HBAD.out (by simp))
              clear ho
              go_wp2_with (go_at_call 133; refine KN.out.mono ?_; rintro e w' ⟨rfl, rfl⟩)
              go_ret
              exact ⟨ret_bool HR.out.symm, B1.out⟩
          · have HR := Lib.hid (HBAD.out (by rw [show (l.length == m.facts.length) = false by rw [beq_eq_false_iff_ne]; exact hl]; rfl))
            have hne2 : ((l.length : Int) == (m.facts.length : Int)) = false := by rw [beq_eq_false_iff_ne]; omega
            have hne3 : ((l.length : Int) != (m.facts.length : Int)) = true := by rw [bne_iff_ne]; omega
            go_wp2_with fail
            go_ret
            exact ⟨ret_bool HR.out.symm, B1.out⟩
        · obtain rfl : k = m.blocks.length := by omega
          go_wp2
          go_ret
          exact ⟨ret_bool (by rw [HOK4.out, HK.out]), B1.out⟩

set_option maxRecDepth 100000 in
set_option maxHeartbeats 4000000 in
theorem implOk_m (lo hi : Nat) (v : Value) (m : Md) (w : World) (hr : Mv lo hi w v m) (hhi : hi ≤ w.heap.size) :
    Calls Tryz.prog 16 #[v] w fun e w' => e = .returned (.bool (mdOk m)) ∧ Below w.heap.size w w' := by
  have KG := Lib.hid (fun W (h : Below w.heap.size w W) => gridOf_any lo hi v m W (hr.keeps (Keeps.of_all h)) (Nat.le_trans hhi h.size))
  obtain ⟨fv, bv, rfl, hf, hb⟩ := hr
  clear hf hb
  obtain ⟨r, HR⟩ : ∃ r, Hid (r = if mdOk m then some (gOf m) else none) := ⟨_, Lib.hid rfl⟩
  rw [show (if mdOk m then some (gOf m) else none) = r from HR.out.symm] at KG
  have HRB : Hid (mdOk m = r.isSome) := Lib.hid (by rw [HR.out]; cases mdOk m <;> rfl)
  have HLG : Hid ((ints (r.getD (gL 0 0 [] [] 0))).length = 67) := Lib.hid (by
    rw [ints_len, HR.out]
    cases h : mdOk m with
    | false => rfl
    | true => exact gL_len (md_small h))
  have HLO := Lib.hid (fun v (hv : v ∈ ints (r.getD (gL 0 0 [] [] 0))) => ints_one hv)
  rw [HRB.out]
  unfold GdAns at KG
  generalize r.getD (gL 0 0 [] [] 0) = G at *
  generalize r.isSome = ok at *
  go_enter Tryz.func16, Tryz.ntmps16
  go_wp2_with fail
  refine (KG.out _ (by go_grown)).mono ?_
  rintro e w1 ⟨rfl, hb1⟩
  have B1 : Hid (Below w.heap.size w w1) := Lib.hid (Below.trans (by go_grown) (hb1.mono (by simp)))
  clear hb1
  go_wp2_with
    (refine wpList_allocM rfl 85 rfl (ints (gL 0 0 [] [] 0)) Tryz.allocGrid ?_
     intro w2 hc2 hb2 hs2
     have C2 := Lib.hid hc2
     have B2 := Lib.hid (B1.out.trans (hb2.mono B1.out.size))
     clear hc2 hb2 hs2
     go_wp2_with
       (refine wpList_storeM rfl 85 _ _ rfl w1.heap.size 0 rfl (ints G) rfl 85 _ C2.out (by rw [HLG.out]; exact Nat.le_refl _) (by rw [HLG.out]; exact Tryz.sizeGrid) HLO.out ?_
        intro w3 hc3 ha3
        have B3 : Hid (Below w.heap.size w w3) := Lib.hid (B2.out.trans (ha3.below B1.out.size))
        clear hc3 ha3
        go_wp2_with fail
        go_ret
        exact ⟨rfl, B3.out⟩))

end Go.Proofs.YtodjohdbngbpaaaGreat

/-
  Contracts of spec.l03World, spec.SameBlock, impl.SameBlock.
-/
namespace Go.Proofs.YtodjohdbngbpaaaGreat
open Go.RowKit Go.WideShapes
open Go Go.Deep
set_option linter.unusedSimpArgs false

/-- an operation that yields in every world of S is taken first; its slot named -/
theorem wpAnyH_takeD {P : Program} {ops : Array Oper} {Q : Exit → Act → World → Prop} {md : Region.Mode} {S : World → Prop} {i : Nat} {oi : Oper} {v : Value} {fuel : Nat} {listed : Array Bool} {a : Act} {w : World} (d : Nat) (hi : ops[i]? = some oi) (hd : oi.dst = some d)
    (hs : Region.noSelect ops = true) (hf : Region.free md ops listed i = true) (hr : (Region.ready md ops listed).contains i = true)
    (hQ : ∀ c a w, Q (.panic c) (a.put oi.dst v) w → Q (.panic c) a w) (hy : YieldsIf P ops S oi v a) (hS : S w)
    (h : wpAnyH P md ops Q S fuel (listed.setIfInBounds i true) (a.put (some d) v) w) : wpAnyH P md ops Q S (fuel + 1) listed a w :=
  wpAnyH_take hi hs hf hr hQ hy hS (by rw [hd]; exact h)
def sameB (m : Md) (a i j : Int) : Bool :=
  specOk m && inB a m.blocks.length && inB i m.facts.length && inB j m.facts.length && decide ((m.blocks.getD a.toNat []).getD i.toNat 0 = (m.blocks.getD a.toNat []).getD j.toNat 0)

end Go.Proofs.YtodjohdbngbpaaaGreat

/-
  The walks of the laws FnExactModelOk, FnExactCountWorlds: they return true and write nothing that was there. No condition.
-/
namespace Go.Proofs.YtodjohdbngbpaaaGreat
open Go.RowKit Go.WideShapes
open Go Go.Deep

theorem Mv.form {lo hi : Nat} {w : World} {v : Value} {m : Md} (h : Mv lo hi w v m) : ∃ fa fc ba bc, v = .agg #[.slice fa m.facts.length fc, .slice ba m.blocks.length bc, .int .i64 m.actual] := by
  obtain ⟨fv, bv, rfl, hf, hb⟩ := h
  obtain ⟨fa, fc, rfl⟩ := hf.form
  obtain ⟨ba, bc, rfl, _⟩ := hb.parts
  exact ⟨fa, fc, ba, bc, rfl⟩
theorem budget_big {n : Nat} (h : 1048576 < n) : budget 1048576 n = -1 := by unfold budget; rw [if_pos (by omega)]
theorem budget_small {n : Nat} (h : n ≤ 1048576) : budget 1048576 n = 1048576 - n := by unfold budget; rw [if_neg (by omega)]

end Go.Proofs.YtodjohdbngbpaaaGreat

/-
  Contract of impl.SameBlock; the walk of the law FnExactSameBlock: it returns true and writes nothing that was there. No condition.
-/
namespace Go.Proofs.YtodjohdbngbpaaaGreat
open Go.RowKit Go.WideShapes
open Go Go.Deep

/-- guarded: a struct or an array is read out of a block of one's own -/
theorem wpList_loadMG {P : Program} {ops : Array Oper} {rest : List Oper} {o : Oper} {a : Act} {w : World} {Q : Exit → Act → World → Prop} {g : Nat × Bool} (hg : o.guard = some g) (hw : Region.wanted o (yielded ops a.tmps) = true) (ty : TypeId) (x : Operand) (ho : o.op = .load ty x)
    (b off : Nat) (hx : a.eval x = .pointer (some ⟨b, off, none⟩)) (B : TypeId) (cs ds : List Value) (hc : Cm w b B cs) (hd : ∀ j, j < ds.length → cs[off + j]? = ds[j]?)
    (d : TypeDesc) (hu : P.underlying ty = some d) (hr : d.isRow = true) (hi : (P.info? ty).map (·.size) = some ds.length)
    (h : wpList P ops Q rest (a.put o.dst (.agg ds.toArray)) w) : wpList P ops Q (o :: rest) a w :=
  wpList_wanted hg hw fun _ hK => wp_load_mid ty x ho b off hx ds d (hc.range off ds hd) hu hr hi (hK _ _ h)

end Go.Proofs.YtodjohdbngbpaaaGreat

/-
  Contracts of spec.MoveTo and impl.MoveTo; the walk of the law FnExactMoveTo: it returns true and writes nothing that was there. No condition.
-/
namespace Go.Proofs.YtodjohdbngbpaaaGreat
open Go.RowKit Go.WideShapes
open Go Go.Deep
set_option linter.unusedSimpArgs false

/-- what MoveTo answers -/
def moveR (m : Md) (x : Int) : Option Md := if mdOk m && inB x m.facts.length then some ⟨m.facts, m.blocks, x⟩ else none
theorem none_ans {w w' : World} (h : Below w.heap.size w w') : MdAns2 w none (.returned (.tuple #[.agg #[.slice none 0 0, .slice none 0 0, .int .i64 0], .bool false])) w' := ⟨_, rfl, Mo.none _ _ _, h⟩
/-- the zero model is laid down and answered -/
theorem Mcell.zero {w : World} {b : Nat} {fv bv : Value} {n : Int} (h : Mcell w b fv bv n) : w.rangeAt b 0 [fv, bv, .int .i64 n] := h.range
theorem Mo.act {lo hi : Nat} {w : World} {fv bv : Value} {n : Int} {m : Md} (h : Mo lo hi w (.agg #[fv, bv, .int .i64 n]) m) (x : Int) : Mo lo hi w (.agg #[fv, bv, .int .i64 x]) ⟨m.facts, m.blocks, x⟩ := by
  obtain ⟨fv', bv', vs, e, h1, h2, h3⟩ := h
  cases e
  exact ⟨_, _, vs, rfl, h1, h2, h3⟩
/-- a model is stored into the block of the answer -/
theorem ans_put {w w3 : World} {b lo hi : Nat} {fv bv fv0 bv0 : Value} {m : Md} {n0 : Int} (hM : Mcell w3 b fv0 bv0 n0) (hO : Mo lo hi w3 (.agg #[fv, bv, .int .i64 m.actual]) m) (hb : b < lo) (hwb : w.heap.size ≤ b) (hhi : hi ≤ w3.heap.size) (hB : Below w.heap.size w w3) :
    Mo w.heap.size (((w3.setCell ⟨b, 0, none⟩ fv).setCell ⟨b, 1, none⟩ bv).setCell ⟨b, 2, none⟩ (.int .i64 m.actual)).heap.size (((w3.setCell ⟨b, 0, none⟩ fv).setCell ⟨b, 1, none⟩ bv).setCell ⟨b, 2, none⟩ (.int .i64 m.actual)) (.agg #[fv, bv, .int .i64 m.actual]) m ∧
    Below w.heap.size w (((w3.setCell ⟨b, 0, none⟩ fv).setCell ⟨b, 1, none⟩ bv).setCell ⟨b, 2, none⟩ (.int .i64 m.actual)) ∧
    Mcell (((w3.setCell ⟨b, 0, none⟩ fv).setCell ⟨b, 1, none⟩ bv).setCell ⟨b, 2, none⟩ (.int .i64 m.actual)) b fv bv m.actual := by
  refine ⟨(hO.keeps (((Keeps.setCell _ _ _ _ (.inl hb)).set (.inl hb) _ _).set (.inl hb) _ _)).wide (by omega) (by simp [World.setCell]; omega), ((hB.setCell hwb _).setCell hwb _).setCell hwb _, hM.write _ _ _⟩
theorem ans_alloc {w w4 : World} {v : Value} {m : Md} (o : Obj) (hO : Mo w.heap.size w4.heap.size w4 v m) (hB : Below w.heap.size w w4) : Mo w.heap.size (w4.alloc o).heap.size (w4.alloc o) v m ∧ Below w.heap.size w (w4.alloc o) :=
  ⟨(hO.keeps (Keeps.of_all ((Below.refl _ _).alloc (Nat.le_refl _) o))).wide (Nat.le_refl _) (by simp), hB.alloc hB.size o⟩
theorem fits_move {m : Md} (h : fits m) (x : Int) : fits ⟨m.facts, m.blocks, x⟩ := h
theorem gL_setC {n a c x : Int} {f : List Int} {rows : List (List Int)} (hs : small f rows) : (ints (gL n a f rows c)).set 66 (.int .i64 x) = ints (gL n a f rows x) := by
  have h0 := pad_len hs.1; have h1 := pad_len (hs.2 0); have h2 := pad_len (hs.2 1); have h3 := pad_len (hs.2 2)
  unfold gL
  generalize pad (rows.getD 0 []) = R0 at *
  generalize pad (rows.getD 1 []) = R1 at *
  generalize pad (rows.getD 2 []) = R2 at *
  rw [ints_set, ← List.append_assoc, ← List.append_assoc, ← List.append_assoc, ← List.append_assoc, List.set_append_right _ _ (by simp [h0, h1, h2, h3]), show 66 - ([n, a] ++ pad f ++ R0 ++ R1 ++ R2).length = 0 by simp [h0, h1, h2, h3]]
  simp

end Go.Proofs.YtodjohdbngbpaaaGreat

/-
  Contracts of spec.FreeModel and impl.FreeModel. No condition.
-/
namespace Go.Proofs.YtodjohdbngbpaaaGreat
open Go.RowKit Go.WideShapes
open Go Go.Deep
set_option linter.unusedSimpArgs false

section
variable {P : Program}
/-- make of a row -/
theorem wp_makeF {o : Oper} {a : Act} {w : World} {K : Act → World → Prop} {Q : Exit → Act → World → Prop} (x y : Operand) (t : TypeId) (d : Nat) (hd : o.dst = some d) (ho : o.op = .makeSlice t x y)
    (e : TypeId) (z : Value) (bytes : Nat) (ht : P.underlying t = some (.slice e)) (hinfo : (P.info? e).map (fun i => (i.zero, i.size, i.bytes)) = some (some z, 1, bytes)) (n : Nat) (kl kc : IntKind)
    (hx : a.eval x = .int kl n) (hy : a.eval y = .int kc n) (hb : bytes * n ≤ 281474976710656) (h63 : n ≤ maxLen)
    (h : ∀ w', w'.ownsRow w.heap.size e 1 (.slice (some ⟨w.heap.size, 0, none⟩) n n) n (madeCells z.cells n).toList → Below w.heap.size w w' → w.heap.size < w'.heap.size → K (a.put (some d) (.slice (some ⟨w.heap.size, 0, none⟩) n n)) w') : Oper.wp P o a w K Q := by
  obtain ⟨i0, hi, hz0, hz1, hz2⟩ := info_parts hinfo
  subst hz2
  obtain ⟨w', hr, hown, hg⟩ := run_make_full (P := P) w w.heap.size t e i0 z 1 ht hi hz0 hz1 kl kc n hb h63 (Nat.le_refl _)
  rw [Nat.mul_one] at hown
  have hlt : w.heap.size < w'.heap.size := by
    rcases hown.2 with ⟨e1, _⟩ | ⟨g, cap, cur, e1, _, hgg, _⟩
    · cases e1
    · cases e1; exact (Array.getElem?_eq_some_iff.1 hgg).1
  have hK := h w' hown ((Below.refl _ _).grown hg (Nat.le_refl _) (fun k hk => by cases hk)) hlt
  rw [← hd] at hK
  refine wp_run (.slice (some ⟨w.heap.size, 0, none⟩) n n) ?_ hK
  unfold execOp
  simp only [ho, hx, hy, Sem.run_bind, hr, Result.andThen_ok, Sem.run_pure]
end
/-- the free model -/
def freeM (N a : Nat) : Md := ⟨mrow 0 N, List.replicate a (List.replicate N 0), 0⟩
def freeR (f a : Int) : Option Md := if 0 ≤ f ∧ f ≤ 4 ∧ 1 ≤ a ∧ a ≤ 3 then some (freeM (2 ^ f.toNat) a.toNat) else none
theorem mrow_succ (N : Nat) : mrow 0 (N + 1) = mrow 0 N ++ [(N : Int)] := by unfold mrow; rw [List.range_succ, List.map_append]; simp
theorem rep_succ {α : Type} (k : Nat) (x : α) : List.replicate (k + 1) x = List.replicate k x ++ [x] := by rw [List.replicate_succ']
theorem madeZ (n : Nat) : (madeCells (Value.int .i64 0).cells n).toList = ints (List.replicate n 0) := madeI n

theorem own_form {w : World} {base : Nat} {e : TypeId} {v : Value} {n : Nat} {xs : List Value} (h : w.ownsRow base e 1 v n xs) : ∃ a c, v = .slice a n c := by
  rcases h.2 with ⟨rfl, rfl⟩ | ⟨g, cap, cur, rfl, _⟩
  · exact ⟨_, _, rfl⟩
  · exact ⟨_, _, rfl⟩
theorem pad_zeros (n : Nat) (h : n ≤ 16) : pad (List.replicate n 0) = List.replicate 16 0 := by
  unfold pad
  rw [List.length_replicate, List.replicate_append_replicate]
  congr 1; omega
theorem pad_zrow (a N k : Nat) (h : N ≤ 16) : pad ((List.replicate a (List.replicate N (0 : Int))).getD k []) = List.replicate 16 0 := by
  rw [List.getD_eq_getElem?_getD, List.getElem?_replicate]
  split
  · exact pad_zeros N h
  · rfl
theorem gL_zero (n c : Int) (a N : Nat) (f : List Int) (h : N ≤ 16) (x : Int) : gL n x f (List.replicate a (List.replicate N 0)) c = gL n x f [] c := by
  unfold gL
  rw [pad_zrow a N 0 h, pad_zrow a N 1 h, pad_zrow a N 2 h]
  rfl
theorem pad_set {l : List Int} {x : Int} (h : l.length < 16) : (pad l).set l.length x = pad (l ++ [x]) := by
  unfold pad
  rw [List.set_append_right _ _ (Nat.le_refl _), Nat.sub_self, show 16 - l.length = (16 - (l ++ [x]).length) + 1 by simp; omega, List.replicate_succ, List.set_cons_zero]
  simp
theorem gL_setf {n a c x : Int} {f : List Int} {rows : List (List Int)} {k : Nat} (hk : k = f.length) (h : f.length < 16) : (ints (gL n a f rows c)).set (2 + k) (.int .i64 x) = ints (gL n a (f ++ [x]) rows c) := by
  subst hk
  unfold gL
  rw [ints_set, List.set_append_right _ _ (by simp), show 2 + f.length - ([n, a] : List Int).length = f.length by simp, List.set_append_left _ _ (by rw [pad_len (by omega)]; exact h), pad_set h]
theorem free_fits (N a : Nat) (h : N ≤ 16) (ha : a ≤ 3) : fits (freeM N a) := by
  unfold freeM fits
  simp only [mrow_len, List.length_replicate]
  refine ⟨h, ha, fun k hk => ?_⟩
  rw [List.getD_eq_getElem?_getD, List.getElem?_replicate, if_pos hk]
  simp
theorem freeR_no {f a : Int} (h : f < 0 ∨ 4 < f ∨ (0 ≤ f ∧ f ≤ 4 ∧ a < 1) ∨ (0 ≤ f ∧ f ≤ 4 ∧ 3 < a)) : freeR f a = none := by
  unfold freeR; rw [if_neg (by omega)]
theorem freeR_yes {f : Int} {N a : Nat} (h : f = 0 ∧ N = 1 ∨ f = 1 ∧ N = 2 ∨ f = 2 ∧ N = 4 ∨ f = 3 ∧ N = 8 ∨ f = 4 ∧ N = 16) (ha : 1 ≤ a) (ha3 : a ≤ 3) : freeR f a = some (freeM N a) := by
  unfold freeR
  rw [if_pos (by omega)]
  rcases h with ⟨rfl, rfl⟩ | ⟨rfl, rfl⟩ | ⟨rfl, rfl⟩ | ⟨rfl, rfl⟩ | ⟨rfl, rfl⟩ <;> rfl
theorem free_cases (f a : Int) : (f < 0 ∨ 4 < f ∨ (0 ≤ f ∧ f ≤ 4 ∧ a < 1) ∨ (0 ≤ f ∧ f ≤ 4 ∧ 3 < a)) ∨ ∃ n : Nat, a = n ∧ 1 ≤ n ∧ n ≤ 3 ∧ (f = 0 ∨ f = 1 ∨ f = 2 ∨ f = 3 ∨ f = 4) := by
  rcases Classical.em (0 ≤ f ∧ f ≤ 4 ∧ 1 ≤ a ∧ a ≤ 3) with h | h
  · refine .inr ⟨a.toNat, by omega, by omega, by omega, by omega⟩
  · exact .inl (by omega)
theorem tot_rep (a N : Nat) : tot (List.replicate a (List.replicate N (0 : Int))) = a * N := by
  induction a with
  | zero => simp [tot]
  | succ a ih => rw [List.replicate_succ, tot, ih, List.length_replicate, Nat.succ_mul, Nat.add_comm]
theorem free_size (f a : Int) : msize ((freeR f a).getD ⟨[], [], 0⟩) + ((freeR f a).getD ⟨[], [], 0⟩).blocks.length ≤ 1048576 := by
  rcases free_cases f a with h | ⟨n, rfl, h1, h3, h⟩
  · rw [freeR_no h]; decide
  · have hN : ∃ N, (f = 0 ∧ N = 1 ∨ f = 1 ∧ N = 2 ∨ f = 2 ∧ N = 4 ∨ f = 3 ∧ N = 8 ∨ f = 4 ∧ N = 16) ∧ N ≤ 16 := by
      rcases h with rfl | rfl | rfl | rfl | rfl
      · exact ⟨1, by decide, by decide⟩
      · exact ⟨2, by decide, by decide⟩
      · exact ⟨4, by decide, by decide⟩
      · exact ⟨8, by decide, by decide⟩
      · exact ⟨16, by decide, by decide⟩
    obtain ⟨N, hN, hN16⟩ := hN
    rw [freeR_yes hN h1 h3]
    unfold freeM msize
    simp only [Option.getD_some, mrow_len, tot_rep, List.length_replicate]
    have := Nat.mul_le_mul h3 hN16
    omega
end Go.Proofs.YtodjohdbngbpaaaGreat
