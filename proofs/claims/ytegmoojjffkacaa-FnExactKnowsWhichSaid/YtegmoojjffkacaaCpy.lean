/-
  Contract of spec.l03Copy: a copy of a valid model in new memory. Condition: the model is valid.
-/
import Derived.Test.YtegmoojjffkacaaGmd
import Derived.Test.YtegmoojjffkacaaMok
namespace Go.Proofs.Ytegmoojjffkacaa
open Go.RowKit Go.WideShapes
open Go Go.Deep
set_option linter.unusedSimpArgs false

theorem md_fits {m : Md} (h : mdOk m = true) : fits m := by
  obtain ⟨a1, a2, b1, b2, hb, _⟩ := mdOk_parts h
  exact ⟨a2, b2, fun k hk => (hb k hk).1⟩
/-- the numbers of a row that is read, at whatever address the slice has -/
theorem Iv.news {lo hi : Nat} {w : World} {b o n c : Nat} {l : List Int} (h : Iv lo hi w (.slice (some ⟨b, o, none⟩) n c) l) {W : World} (hb : Below w.heap.size w W) : ∀ j u, (ints l)[j]? = some u → W.cell? ((⟨b, o, none⟩ : Addr).add j) = some u := by
  intro j u hu
  have hj : j < l.length := by
    rcases Nat.lt_or_ge j l.length with h' | h'
    · exact h'
    · rw [List.getElem?_eq_none (by rw [ints_len]; exact h')] at hu; cases hu
  obtain ⟨a', cap', e, _, _, h4⟩ := h.parts
  cases e
  obtain ⟨b', o', e2, _, _, hlt, hc⟩ := h4 j hj
  cases e2
  rw [addr_add0, hb.cell (p := ⟨_, _, none⟩) hlt, hc, ← hu, ints_at hj]
theorem Iv.addr {lo hi : Nat} {w : World} {a : Option Addr} {n c : Nat} {l : List Int} (h : Iv lo hi w (.slice a n c) l) (h0 : 0 < l.length) : ∃ b o, a = some ⟨b, o, none⟩ := by
  obtain ⟨a', cap', e, _, _, h4⟩ := h.parts
  cases e
  obtain ⟨b', o', e2, _⟩ := h4 0 h0
  exact ⟨b', o', e2⟩
theorem Below.drewG {B : Nat} {w w' : World} (h : Below B w w') : Below B w w'.drew := h.trans (Below.refl _ _).drew

set_option maxRecDepth 100000 in
set_option maxHeartbeats 16000000 in
theorem specCopy_any (lo hi : Nat) (v : Value) (m : Md) (w : World) (hr : Mv lo hi w v m) (hhi : hi ≤ w.heap.size) (hm : mdOk m = true) :
    Calls Try.prog 65 #[v] w (MdAns w m) := by
  obtain ⟨p1, p2, p3, p4, p5, _⟩ := mdOk_parts hm
  have PR := Lib.hid (fun k hk => (p5 k hk).1)
  obtain ⟨fv, bv0, rfl, hf, hb⟩ := hr
  obtain ⟨fa, fc, e1⟩ := hf.form
  subst e1
  obtain ⟨fb, fo, e1⟩ := hf.addr (by omega)
  subst e1
  obtain ⟨ba, bc, e1, hbl, hbc, _⟩ := hb.parts
  subst e1
  have HF := Lib.hid hf
  have HB := Lib.hid hb
  clear hf hb hm p5
  unfold maxLen at hbc
  go_enter Try.func65, Try.ntmps65
  go_wp2
  have n0 : Mcell ((w.alloc (.cells #[.slice (some ⟨fb, fo, none⟩) m.facts.length fc, .slice ba m.blocks.length bc, .int .i64 m.actual] 27)).alloc (.cells #[.slice none 0 0, .slice none 0 0, .int .i64 0] 27)) w.heap.size (.slice (some ⟨fb, fo, none⟩) m.facts.length fc) (.slice ba m.blocks.length bc) m.actual := (Mcell.new rfl).alloc _
  have m0 : Mcell ((w.alloc (.cells #[.slice (some ⟨fb, fo, none⟩) m.facts.length fc, .slice ba m.blocks.length bc, .int .i64 m.actual] 27)).alloc (.cells #[.slice none 0 0, .slice none 0 0, .int .i64 0] 27)) (w.heap.size + 1) (.slice none 0 0) (.slice none 0 0) 0 := Mcell.new (by simp)
  have b0 : Below w.heap.size w ((w.alloc (.cells #[.slice (some ⟨fb, fo, none⟩) m.facts.length fc, .slice ba m.blocks.length bc, .int .i64 m.actual] 27)).alloc (.cells #[.slice none 0 0, .slice none 0 0, .int .i64 0] 27)) := by go_grown
  have s0 : ((w.alloc (.cells #[.slice (some ⟨fb, fo, none⟩) m.facts.length fc, .slice ba m.blocks.length bc, .int .i64 m.actual] 27)).alloc (.cells #[.slice none 0 0, .slice none 0 0, .int .i64 0] 27)).heap.size = w.heap.size + 2 := by simp
  generalize (w.alloc (.cells #[.slice (some ⟨fb, fo, none⟩) m.facts.length fc, .slice ba m.blocks.length bc, .int .i64 m.actual] 27)).alloc (.cells #[.slice none 0 0, .slice none 0 0, .int .i64 0] 27) = w0 at *
  have N0 := Lib.hid n0
  have M0 := Lib.hid m0
  have B0 := Lib.hid b0
  have F0 := Lib.hid (HF.out.keeps (Keeps.of_all b0))
  have HS0 := Lib.hid s0
  have hs0 : w.heap.size + 1 < w0.heap.size := by omega
  clear n0 m0 b0 s0 HF
  obtain ⟨n0, hn0⟩ : ∃ n, n = w0.heap.size := ⟨_, rfl⟩
  have HN0 := Lib.hid hn0
  have hna : n0 ≤ w0.heap.size := by omega
  have hnb : w0.heap.size ≤ n0 := by omega
  clear hn0
  refine wp_region_held_drew (S := fun w' => Below n0 w0 w') (by kernel_rfl) (Below.refl _ _).drew (fun hHeld => ?_)
  have hsd : w0.drew.heap.size ≤ n0 := hnb
  have hsd' : n0 ≤ w0.drew.heap.size := hna
  generalize w0.drew = wd at *
  refine takeE (i := 1) (v := .pointer (some ⟨w.heap.size, 0, none⟩)) 7 rfl rfl (by kernel_rfl) (by kernel_rfl) (by kernel_rfl) (fun _ _ _ h => h) (Or.inl ⟨by rfl, by intro W hSw; go_simp⟩) hHeld ?_
  simp only [Act.put, List.setIfInBounds_toArray, List.set_cons_zero, List.set_cons_succ]
  refine takeE (i := 2) (v := .slice (some ⟨fb, fo, none⟩) m.facts.length fc) 8 rfl rfl (by kernel_rfl) (by kernel_rfl) (by kernel_rfl) (fun _ _ _ h => h) (Or.inl ⟨by rfl, by intro W hSw; obtain ⟨c0, c1, c2, _⟩ := N0.out.below (HN0.out ▸ hSw); go_simp⟩) hHeld ?_
  simp only [Act.put, List.setIfInBounds_toArray, List.set_cons_zero, List.set_cons_succ]
  refine takeE (i := 4) (v := .pointer (some ⟨w.heap.size, 2, none⟩)) 10 rfl rfl (by kernel_rfl) (by kernel_rfl) (by kernel_rfl) (fun _ _ _ h => h) (Or.inl ⟨by rfl, by intro W hSw; go_simp⟩) hHeld ?_
  simp only [Act.put, List.setIfInBounds_toArray, List.set_cons_zero, List.set_cons_succ]
  refine takeE (i := 5) (v := .int .i64 m.actual) 11 rfl rfl (by kernel_rfl) (by kernel_rfl) (by kernel_rfl) (fun _ _ _ h => h) (Or.inl ⟨by rfl, by intro W hSw; obtain ⟨c0, c1, c2, _⟩ := N0.out.below (HN0.out ▸ hSw); go_simp⟩) hHeld ?_
  simp only [Act.put, List.setIfInBounds_toArray, List.set_cons_zero, List.set_cons_succ]
  refine twoE (i := 0) (j := 7) (by kernel_rfl) rfl rfl (by rfl) (by rfl) (fun K hK => ?first0) (fun K hK => ?way3)
  case' first0 =>
    go_simp
    have t1 : Below n0 w0 (wd.alloc (.cells #[] 3)) := hHeld.alloc (by have := hHeld.size; omega) _
    clear hHeld
    have L1 := Lib.hid (World.ownsRow_lit (base := n0) (e := 3) (size := 1) wd #[] 0 (by omega) (by decide) rfl)
    refine hK.out _ _ t1 (fun hHeld => ?_)
    clear hK K t1
    try simp only [Act.put, List.setIfInBounds_toArray, List.set_cons_zero, List.set_cons_succ]
    generalize wd.alloc (.cells #[] 3) = w1 at *
    refine twoE (i := 3) (j := 7) (by kernel_rfl) rfl rfl (by rfl) (by rfl) (fun K hK => ?way1) (fun K hK => ?way2)
  case' way1 =>
    have f1 := Lib.hid (F0.out.news (W := w1) (by rw [← HN0.out]; exact hHeld))
    refine wp_appendF (.tmp 6) (.tmp 8) 22 9 rfl rfl 3 (.int .i64 0) 8 Try.underlying22 Try.infoI rfl _ 0 0 [] n0 L1.out rfl ⟨fb, fo, none⟩ m.facts.length fc (ints m.facts) rfl (ints_len _) (by omega) f1.out (fun u hu => ints_one hu) (by unfold maxLen; omega) (by omega) (by have := hHeld.size; omega) ?_
    intro v1 w2 hx1 hb1
    clear f1
    rw [Nat.zero_add, List.nil_append] at hx1
    have t2 : Below n0 w0 w2 := hHeld.trans (hb1.mono (by have := hHeld.size; omega))
    have x1 : Io w1.heap.size w2.heap.size w2 v1 m.facts := Ro.of_own hx1
    obtain ⟨a1, k1, e1⟩ := x1.form
    subst e1
    have I1 := Lib.hid x1
    have hz1 : w1.heap.size ≤ w2.heap.size := hb1.size
    have hn1 : n0 ≤ w1.heap.size := by have := hHeld.size; omega
    clear hx1 hb1 x1 hHeld L1
    refine hK.out _ _ t2 (fun hHeld => ?_)
    clear hK K t2
    try simp only [Act.put, List.setIfInBounds_toArray, List.set_cons_zero, List.set_cons_succ]
    refine takeE (i := 6) (v := .agg #[.slice a1 m.facts.length k1, .slice none 0 0, .int .i64 m.actual]) 12 rfl rfl (by kernel_rfl) (by kernel_rfl) (by kernel_rfl) (fun _ _ _ h => h) (Or.inl ⟨by rfl, by intro W hSw; go_simp⟩) hHeld ?_
    simp only [Act.put, List.setIfInBounds_toArray, List.set_cons_zero, List.set_cons_succ]
    refine onlyE (i := 7) (by kernel_rfl) rfl (by rfl) (fun K hK => ?_)
    refine wp_allocM 27 3 rfl rfl _ Try.allocMd ?_
    have D2 := Lib.hid (Cm.new (w := w2) (b := w2.heap.size) (T := 27) (cs := [Value.slice none 0 0, .slice none 0 0, .int .i64 0]) rfl)
    have hb2 : Below w2.heap.size w2 (w2.alloc (.cells [Value.slice none 0 0, .slice none 0 0, .int .i64 0].toArray 27)) := (Below.refl _ _).alloc (Nat.le_refl _) _
    have hz2 : w2.heap.size + 1 ≤ (w2.alloc (.cells [Value.slice none 0 0, .slice none 0 0, .int .i64 0].toArray 27)).heap.size := Nat.le_of_eq (by simp)
    have t2 : Below n0 w0 (w2.alloc (.cells [Value.slice none 0 0, .slice none 0 0, .int .i64 0].toArray 27)) := hHeld.trans (hb2.mono (by have := hHeld.size; omega))
    have I2 := Lib.hid (I1.out.keeps (Keeps.of_all hb2))
    clear hHeld hb2 I1
    refine hK.out _ _ t2 (fun hHeld => ?_)
    clear hK K t2
    try simp only [Act.put, List.setIfInBounds_toArray, List.set_cons_zero, List.set_cons_succ]
    generalize w2.alloc (.cells [Value.slice none 0 0, .slice none 0 0, .int .i64 0].toArray 27) = w3 at *
    obtain ⟨b, hbb⟩ : ∃ b, b = w2.heap.size := ⟨_, rfl⟩
    obtain ⟨lo1, hlo⟩ : ∃ b, b = w1.heap.size := ⟨_, rfl⟩
    obtain ⟨hi1, hhi⟩ : ∃ b, b = w2.heap.size := ⟨_, rfl⟩
    have I3 : Hid (Io lo1 hi1 w3 (.slice a1 m.facts.length k1) m.facts) := Lib.hid (by rw [hlo, hhi]; exact I2.out)
    rw [← hbb] at D2 ⊢
    have hr1 : b < lo1 ∨ hi1 ≤ b := .inr (by omega)
    have hr2 : n0 ≤ lo1 ∧ n0 ≤ b ∧ hi1 ≤ w3.heap.size := ⟨by omega, by omega, by omega⟩
    clear hbb hlo hhi I2 hz1 hz2 hn1
  case' way2 =>
    refine wp_allocM 27 3 rfl rfl _ Try.allocMd ?_
    have D2 := Lib.hid (Cm.new (w := w1) (b := w1.heap.size) (T := 27) (cs := [Value.slice none 0 0, .slice none 0 0, .int .i64 0]) rfl)
    have hb2 : Below w1.heap.size w1 (w1.alloc (.cells [Value.slice none 0 0, .slice none 0 0, .int .i64 0].toArray 27)) := (Below.refl _ _).alloc (Nat.le_refl _) _
    have hz2 : w1.heap.size + 1 ≤ (w1.alloc (.cells [Value.slice none 0 0, .slice none 0 0, .int .i64 0].toArray 27)).heap.size := Nat.le_of_eq (by simp)
    have t2 : Below n0 w0 (w1.alloc (.cells [Value.slice none 0 0, .slice none 0 0, .int .i64 0].toArray 27)) := hHeld.trans (hb2.mono (by have := hHeld.size; omega))
    have L2 := Lib.hid (L1.out.alloc (.cells [Value.slice none 0 0, .slice none 0 0, .int .i64 0].toArray 27))
    have hn1 : n0 ≤ w1.heap.size := by have := hHeld.size; omega
    clear hHeld hb2 L1
    refine hK.out _ _ t2 (fun hHeld => ?_)
    clear hK K t2
    try simp only [Act.put, List.setIfInBounds_toArray, List.set_cons_zero, List.set_cons_succ]
    generalize w1.alloc (.cells [Value.slice none 0 0, .slice none 0 0, .int .i64 0].toArray 27) = w2 at *
    obtain ⟨b, hbb⟩ : ∃ b, b = w1.heap.size := ⟨_, rfl⟩
    rw [← hbb] at D2 ⊢
    refine onlyE (i := 3) (by kernel_rfl) rfl (by rfl) (fun K hK => ?_)
    have f1 := Lib.hid (F0.out.news (W := w2) (by rw [← HN0.out]; exact hHeld))
    refine wp_appendF (.tmp 6) (.tmp 8) 22 9 rfl rfl 3 (.int .i64 0) 8 Try.underlying22 Try.infoI rfl _ 0 0 [] n0 L2.out rfl ⟨fb, fo, none⟩ m.facts.length fc (ints m.facts) rfl (ints_len _) (by omega) f1.out (fun u hu => ints_one hu) (by unfold maxLen; omega) (by omega) (by have := hHeld.size; omega) ?_
    intro v1 w3 hx1 hb1
    clear f1
    rw [Nat.zero_add, List.nil_append] at hx1
    have t2 : Below n0 w0 w3 := hHeld.trans (hb1.mono (by have := hHeld.size; omega))
    have x1 : Io w2.heap.size w3.heap.size w3 v1 m.facts := Ro.of_own hx1
    obtain ⟨a1, k1, e1⟩ := x1.form
    subst e1
    have D2 := Lib.hid (D2.out.all hb1)
    obtain ⟨lo1, hlo⟩ : ∃ b, b = w2.heap.size := ⟨_, rfl⟩
    obtain ⟨hi1, hhi⟩ : ∃ b, b = w3.heap.size := ⟨_, rfl⟩
    have I3 : Hid (Io lo1 hi1 w3 (.slice a1 m.facts.length k1) m.facts) := Lib.hid (by rw [hlo, hhi]; exact x1)
    have hr1 : b < lo1 ∨ hi1 ≤ b := .inl (by omega)
    have hr2 : n0 ≤ lo1 ∧ n0 ≤ b ∧ hi1 ≤ w3.heap.size := ⟨by omega, by omega, by omega⟩
    clear hx1 hb1 x1 hHeld L2 hbb hlo hhi hz2 hn1
    refine hK.out _ _ t2 (fun hHeld => ?_)
    clear hK K t2
    try simp only [Act.put, List.setIfInBounds_toArray, List.set_cons_zero, List.set_cons_succ]
    refine takeE (i := 6) (v := .agg #[.slice a1 m.facts.length k1, .slice none 0 0, .int .i64 m.actual]) 12 rfl rfl (by kernel_rfl) (by kernel_rfl) (by kernel_rfl) (fun _ _ _ h => h) (Or.inl ⟨by rfl, by intro W hSw; go_simp⟩) hHeld ?_
    simp only [Act.put, List.setIfInBounds_toArray, List.set_cons_zero, List.set_cons_succ]
  case' way3 =>
    refine wp_allocM 27 3 rfl rfl _ Try.allocMd ?_
    have D1 := Lib.hid (Cm.new (w := wd) (b := wd.heap.size) (T := 27) (cs := [Value.slice none 0 0, .slice none 0 0, .int .i64 0]) rfl)
    have hz1 : wd.heap.size + 1 ≤ (wd.alloc (.cells [Value.slice none 0 0, .slice none 0 0, .int .i64 0].toArray 27)).heap.size := Nat.le_of_eq (by simp)
    have t1 : Below n0 w0 (wd.alloc (.cells [Value.slice none 0 0, .slice none 0 0, .int .i64 0].toArray 27)) := hHeld.alloc (by have := hHeld.size; omega) _
    clear hHeld
    refine hK.out _ _ t1 (fun hHeld => ?_)
    clear hK K t1
    try simp only [Act.put, List.setIfInBounds_toArray, List.set_cons_zero, List.set_cons_succ]
    generalize wd.alloc (.cells [Value.slice none 0 0, .slice none 0 0, .int .i64 0].toArray 27) = w1 at *
    refine onlyE (i := 0) (by kernel_rfl) rfl (by rfl) (fun K hK => ?_)
    go_simp
    have t1 : Below n0 w0 (w1.alloc (.cells #[] 3)) := hHeld.alloc (by omega) _
    have hb2 : Below w1.heap.size w1 (w1.alloc (.cells #[] 3)) := by go_grown
    have hz2 : w1.heap.size + 1 ≤ (w1.alloc (.cells #[] 3)).heap.size := Nat.le_of_eq (by simp)
    have L2 := Lib.hid (World.ownsRow_lit (base := n0) (e := 3) (size := 1) w1 #[] 0 (by omega) (by decide) rfl)
    have D2 := Lib.hid (D1.out.all hb2)
    clear hHeld hb2 D1
    refine hK.out _ _ t1 (fun hHeld => ?_)
    clear hK K t1
    try simp only [Act.put, List.setIfInBounds_toArray, List.set_cons_zero, List.set_cons_succ]
    generalize w1.alloc (.cells #[] 3) = w2 at *
    obtain ⟨b, hbb⟩ : ∃ b, b = wd.heap.size := ⟨_, rfl⟩
    rw [← hbb] at D2 ⊢
    refine onlyE (i := 3) (by kernel_rfl) rfl (by rfl) (fun K hK => ?_)
    have f1 := Lib.hid (F0.out.news (W := w2) (by rw [← HN0.out]; exact hHeld))
    refine wp_appendF (.tmp 6) (.tmp 8) 22 9 rfl rfl 3 (.int .i64 0) 8 Try.underlying22 Try.infoI rfl _ 0 0 [] n0 L2.out rfl ⟨fb, fo, none⟩ m.facts.length fc (ints m.facts) rfl (ints_len _) (by omega) f1.out (fun u hu => ints_one hu) (by unfold maxLen; omega) (by omega) (by have := hHeld.size; omega) ?_
    intro v1 w3 hx1 hb1
    clear f1
    rw [Nat.zero_add, List.nil_append] at hx1
    have t2 : Below n0 w0 w3 := hHeld.trans (hb1.mono (by have := hHeld.size; omega))
    have x1 : Io w2.heap.size w3.heap.size w3 v1 m.facts := Ro.of_own hx1
    obtain ⟨a1, k1, e1⟩ := x1.form
    subst e1
    have D2 := Lib.hid (D2.out.all hb1)
    obtain ⟨lo1, hlo⟩ : ∃ b, b = w2.heap.size := ⟨_, rfl⟩
    obtain ⟨hi1, hhi⟩ : ∃ b, b = w3.heap.size := ⟨_, rfl⟩
    have I3 : Hid (Io lo1 hi1 w3 (.slice a1 m.facts.length k1) m.facts) := Lib.hid (by rw [hlo, hhi]; exact x1)
    have hr1 : b < lo1 ∨ hi1 ≤ b := .inl (by omega)
    have hr2 : n0 ≤ lo1 ∧ n0 ≤ b ∧ hi1 ≤ w3.heap.size := ⟨by omega, by omega, by omega⟩
    have t2 : Below n0 w0 w3 := t2
    clear hx1 hb1 x1 hHeld L2 hlo hhi hz1 hz2
    refine hK.out _ _ t2 (fun hHeld => ?_)
    clear hK K t2
    try simp only [Act.put, List.setIfInBounds_toArray, List.set_cons_zero, List.set_cons_succ]
    clear hbb
    refine takeE (i := 6) (v := .agg #[.slice a1 m.facts.length k1, .slice none 0 0, .int .i64 m.actual]) 12 rfl rfl (by kernel_rfl) (by kernel_rfl) (by kernel_rfl) (fun _ _ _ h => h) (Or.inl ⟨by rfl, by intro W hSw; go_simp⟩) hHeld ?_
    simp only [Act.put, List.setIfInBounds_toArray, List.set_cons_zero, List.set_cons_succ]
  all_goals
    refine onlyE (i := 8) (by kernel_rfl) rfl (by rfl) (fun K hK => ?_)
    refine wp_storeM 27 (.tmp 3) (.tmp 12) rfl rfl b 0 rfl [.slice a1 m.facts.length k1, .slice none 0 0, .int .i64 m.actual] rfl 27 _ D2.out (Nat.le_refl 3) Try.sizeMd (by intro u hu; simp at hu; rcases hu with rfl | rfl | rfl <;> rfl) ?_
    intro w4 hc3 ha3
    rw [lay'_all (by rfl)] at hc3
    have D3 := Lib.hid hc3
    have I4 := Lib.hid (I3.out.keeps (lo := lo1) (hi := hi1) ⟨Nat.le_of_eq ha3.size.symm, fun q h1 h2 _ => ha3.block q (by omega)⟩)
    have t3 : Below n0 w0 w4 := hHeld.trans (ha3.below hr2.2.1)
    have hs3 : w4.heap.size = w3.heap.size := ha3.size
    clear hc3 ha3 hHeld
    refine hK.out _ _ t3 (fun hHeld => ?_)
    clear hK K t3
    refine wpAnyH_done (by kernel_rfl) ?_ _
    rw [HN0.out] at hHeld hr2
    have N3 := Lib.hid (N0.out.below hHeld)
    have M3 := Lib.hid (M0.out.below hHeld)
    have B3 : Hid (Below w.heap.size w w4) := Lib.hid (B0.out.trans (hHeld.mono B0.out.size))
    obtain ⟨g0, g1, g2, _⟩ := N3.out
    have hb3 : b < w4.heap.size := D3.out.lt
    have hw3 : w0.heap.size ≤ w4.heap.size := hHeld.size
    have hi3 : hi1 ≤ w4.heap.size := by omega
    have H4 := Lib.hid (HB.out.keeps (Keeps.of_all B3.out))
    clear hHeld M0 B0 D2 I3 hs3 F0 N0 HB
    obtain ⟨r1, r2, r3⟩ := hr2
    go_wp2
    clear g0 g1 g2
    go_loopw [16] (fun iv wr => ∃ (k : Nat) (bv : Value) (vs : List Value), k ≤ m.blocks.length ∧ iv = .int .i64 k ∧ Hid (Cm wr b 27 [.slice a1 m.facts.length k1, bv, .int .i64 m.actual]) ∧ Hid (Ioo w4.heap.size wr.heap.size wr bv vs (m.blocks.take k)) ∧ Hid (Io lo1 hi1 wr (.slice a1 m.facts.length k1) m.facts) ∧ Hid (Mcell wr (w.heap.size + 1) (.slice none 0 0) (.slice none 0 0) 0) ∧ Hid (Below w.heap.size w wr) ∧ Hid (Ivv lo hi wr (.slice ba m.blocks.length bc) m.blocks) ∧ w4.heap.size ≤ wr.heap.size) (fun iv _ => m.blocks.length - (intOf iv).toNat)
    case atStart => exact ⟨0, _, [], Nat.zero_le _, rfl, D3, Lib.hid ⟨Ro.nil _ _ _ _, ⟨rfl, fun j hj => by simp at hj⟩, List.pairwise_singleton _ _⟩, I4, M3, B3, H4, Nat.le_refl _⟩
    case round =>
      clear D3 I4 M3 B3 H4
      obtain ⟨k, bv, vs, hk, rfl, DR, OR, IR, MR, BR, HR, hwr⟩ := hrel
      by_cases hlt : k < m.blocks.length
      · have HTK := Lib.hid (take_snocL hlt)
        have hvl : vs.length = k := by rw [OR.out.2.1.1, List.length_take]; omega
        have hrl := PR.out k hlt
        obtain ⟨b0, o0, u, e0, _, _, hlt0, c0, hu⟩ := HR.out.row rfl k hlt
        subst e0
        obtain ⟨row, hrow⟩ : ∃ r, r = m.blocks.getD k [] := ⟨_, rfl⟩
        rw [← hrow] at HTK hrl hu
        clear hrow
        obtain ⟨ua, uc, e0⟩ := hu.form
        subst e0
        obtain ⟨ub, uo, e0⟩ := hu.addr (by omega)
        subst e0
        have HU := Lib.hid hu
        have HRL := Lib.hid hrl
        clear hu hrl
        go_wp2
        clear c0
        refine regionL (fun W => Below w4.heap.size wr W) [8] (by kernel_rfl) (Below.refl _ _).drew (fun hHeld => ?_)
        have hsd' : wr.drew.heap.size ≤ wr.heap.size := Nat.le_refl _
        have hsd'' : wr.heap.size ≤ wr.drew.heap.size := Nat.le_refl _
        have hbd : Below wr.heap.size wr wr.drew := (Below.refl wr.heap.size wr).drew
        generalize wr.drew = wd at *
        refine takeA (i := 0) (v := .pointer (some ⟨b, 1, none⟩)) 20 rfl rfl (by kernel_rfl) (by kernel_rfl) (by kernel_rfl) (by kernel_rfl) (fun _ _ _ h => h) (Or.inl ⟨by rfl, by intro W hSw; go_simp⟩) hHeld ?_
        simp only [Act.put, List.setIfInBounds_toArray, List.set_cons_zero, List.set_cons_succ]
        refine takeA (i := 1) (v := bv) 21 rfl rfl (by kernel_rfl) (by kernel_rfl) (by kernel_rfl) (by kernel_rfl) (fun _ _ _ h => h) (Or.inl ⟨by rfl, by intro W hSw; have d1 : W.cell? ⟨b, 1, none⟩ = some bv := (DR.out.below hSw hb3).cell 1; go_simp⟩) hHeld ?_
        simp only [Act.put, List.setIfInBounds_toArray, List.set_cons_zero, List.set_cons_succ]
        refine takeA (i := 3) (v := .slice (some ⟨ub, uo, none⟩) row.length uc) 23 rfl rfl (by kernel_rfl) (by kernel_rfl) (by kernel_rfl) (by kernel_rfl) (fun _ _ _ h => h) (Or.inl ⟨by rfl, by intro W hSw; go_simp⟩) hHeld ?_
        simp only [Act.put, List.setIfInBounds_toArray, List.set_cons_zero, List.set_cons_succ]
        refine onlyL (i := 2) (by kernel_rfl) rfl (by rfl) (fun K hK => ?_)
        go_simp
        have t4 : Below wr.heap.size wr (wd.alloc (.cells #[] 3)) := hbd.alloc (by omega) _
        have L4 := Lib.hid (World.ownsRow_lit (base := wr.heap.size) (e := 3) (size := 1) wd #[] 0 (by omega) (by decide) rfl)
        clear hHeld
        refine hK.out _ _ (fun _ => t4.mono hwr) (fun _ => ?_)
        clear hK K
        try simp only [Act.put, List.setIfInBounds_toArray, List.set_cons_zero, List.set_cons_succ]
        generalize wd.alloc (.cells #[] 3) = w5 at *
        have f5 := Lib.hid (HU.out.news t4)
        have T4 := Lib.hid t4
        have hs4 : wr.heap.size ≤ w5.heap.size := t4.size
        clear t4
        refine onlyL (i := 4) (by kernel_rfl) rfl (by rfl) (fun K hK => ?_)
        refine wp_appendF (.tmp 22) (.tmp 23) 22 24 rfl rfl 3 (.int .i64 0) 8 Try.underlying22 Try.infoI rfl _ 0 0 [] wr.heap.size L4.out rfl ⟨ub, uo, none⟩ row.length uc (ints row) rfl (ints_len _) (by have := HRL.out; omega) f5.out (fun u hu => ints_one hu) (by unfold maxLen; have := HRL.out; omega) (by have := HRL.out; omega) hs4 ?_
        intro v6 w6 hx6 hb6
        rw [Nat.zero_add, List.nil_append] at hx6
        have x6 : Io w5.heap.size w6.heap.size w6 v6 row := Ro.of_own hx6
        obtain ⟨a6, k6, e0⟩ := x6.form
        subst e0
        have U6 : Hid (Io wr.heap.size w6.heap.size w6 (.slice a6 row.length k6) row) := Lib.hid (x6.wide hs4 (Nat.le_refl _))
        have t6 : Below wr.heap.size wr w6 := T4.out.trans (hb6.mono hs4)
        clear hx6 x6 hb6 f5 L4 T4
        have O6 := Lib.hid (OR.out.keeps (Keeps.of_all t6))
        have D6 := Lib.hid (DR.out.all t6)
        have I6 : Hid (Io lo1 hi1 w6 (.slice a1 m.facts.length k1) m.facts) := Lib.hid (IR.out.keeps (Keeps.of_all t6))
        have M6 := Lib.hid (MR.out.below t6)
        have B6 : Hid (Below w.heap.size w w6) := Lib.hid (BR.out.trans (t6.mono BR.out.size))
        have H6 := Lib.hid (HR.out.keeps (Keeps.of_all t6))
        have T6 := Lib.hid (t6.mono hwr)
        have hs6 : wr.heap.size ≤ w6.heap.size := t6.size
        refine hK.out _ _ (fun _ => t6.mono hwr) (fun _ => ?_)
        clear hK K t6 OR DR IR MR BR HR HU hs4
        try simp only [Act.put, List.setIfInBounds_toArray, List.set_cons_zero, List.set_cons_succ]
        refine onlyL (i := 5) (by kernel_rfl) rfl (by rfl) (fun K hK => ?_)
        go_simp
        refine hK.out _ _ (fun _ => T6.out.alloc (by omega) _) (fun _ => ?_)
        clear hK K
        try simp only [Act.put, List.setIfInBounds_toArray, List.set_cons_zero, List.set_cons_succ]
        refine onlyL (i := 6) (by kernel_rfl) rfl (by rfl) (fun K hK => ?_)
        have hown : w6.ownsRow w4.heap.size 22 1 bv vs.length vs := O6.out.1.1
        refine wp_pushL (.tmp 21) (.tmp 25) 23 26 rfl rfl 22 (.slice none 0 0) 24 Try.underlying23 Try.infoL rfl w4.heap.size (.slice a6 row.length k6) bv vs.length vs hown rfl w6.heap.size rfl rfl rfl (by unfold maxLen; omega) (by omega) (by omega) ?_
        intro v7 w7 hown7 hg7
        have hbv : ∀ q, bv.ownBlock = some q → w4.heap.size ≤ q ∧ q < wr.heap.size := fun q hq => ⟨(O6.out.1.1.lt q hq).1, O6.out.1.2 q hq⟩
        have O7 := Lib.hid (Ioo.push O6.out U6.out (Nat.le_refl _) hs6 hwr hown7 hg7)
        have hne : ∀ q, q < w4.heap.size → bv.ownBlock ≠ some q := fun q hq e => by have := hbv q e; omega
        have D7 := Lib.hid (D6.out.of_block (hg7.block (by omega) (hne b hb3)))
        have M7 := Lib.hid (M6.out.of_block (hg7.block (by omega) (hne _ (by omega))))
        have I7 : Hid (Io lo1 hi1 w7 (.slice a1 m.facts.length k1) m.facts) := Lib.hid (hg7.ro I6.out (apart_lt (B := w4.heap.size) (fun q hq => by have := I6.out.2 q hq; omega) (fun q hq => (hbv q hq).1)))
        have t5 : Below w4.heap.size w6 w7 := hg7.below (by omega) (fun q hq => (hbv q hq).1)
        have B7 : Hid (Below w.heap.size w w7) := Lib.hid (B6.out.trans (t5.mono (by omega)))
        have H7 := Lib.hid (H6.out.keeps (lo := lo) (hi := hi) ⟨t5.size, fun q _ h2 _ => t5.block q (by omega)⟩)
        have hs7 : w6.heap.size ≤ w7.heap.size := t5.size
        have t7 : Below w4.heap.size wr w7 := T6.out.trans t5
        obtain ⟨v7a, v7c, e5⟩ := O7.out.1.form
        rw [show (vs ++ [Value.slice a6 row.length k6]).length = k + 1 by simp [hvl]] at e5
        have d5 := D7.out.cell 1
        have f5 := D7.out.frozen 1
        clear hown hown7 hbv hne t5 O6 D6 I6 M6 B6 H6 hg7 T6
        refine hK.out _ _ (fun _ => t7) (fun hHeld => ?_)
        have hHeld := hHeld (by decide)
        clear hK K t7
        try simp only [Act.put, List.setIfInBounds_toArray, List.set_cons_zero, List.set_cons_succ]
        refine takeA (i := 7) (v := .pointer (some ⟨b, 1, none⟩)) 27 rfl rfl (by kernel_rfl) (by kernel_rfl) (by kernel_rfl) (by kernel_rfl) (fun _ _ _ h => h) (Or.inl ⟨by rfl, by intro W hSw; go_simp⟩) hHeld ?_
        simp only [Act.put, List.setIfInBounds_toArray, List.set_cons_zero, List.set_cons_succ]
        refine onlyL (i := 8) (by kernel_rfl) rfl (by rfl) (fun K hK => ?_)
        simp only [List.getElem?_cons_succ, List.getElem?_cons_zero] at d5
        subst e5
        go_simp
        refine hK.out _ _ (fun h => absurd (by decide) h) (fun _ => ?_)
        clear hK K hHeld
        refine doneL (by kernel_rfl) ?_ _
        clear d5 f5
        go_wp2
        go_roundw
        case rel =>
          refine ⟨k + 1, _, vs ++ [.slice a6 row.length k6], by omega, by go_num, Lib.hid (D7.out.set 1 _), Lib.hid ?_, Lib.hid (I7.out.keeps (Keeps.setCell _ _ _ _ hr1)), Lib.hid (M7.out.other (by omega) _ _), Lib.hid (B7.out.setCell (by show _ ≤ b; omega) _), Lib.hid (H7.out.keeps (Keeps.setCell _ _ _ _ (by omega))), by simp [World.setCell]; omega⟩
          rw [HTK.out]
          exact (O7.out.keeps (Keeps.setCell w7 b 1 (.slice v7a (k + 1) v7c) (.inl hb3))).wide (Nat.le_refl _) (Keeps.setCell (lo := 0) (hi := 0) w7 b 1 (.slice v7a (k + 1) v7c) (.inr (Nat.zero_le _))).size
        case measure => simp [intOf]; omega
      · obtain rfl : k = m.blocks.length := by omega
        obtain ⟨ba', bc', e5⟩ := OR.out.1.form
        have hvl : vs.length = m.blocks.length := by rw [OR.out.2.1.1, List.length_take]; omega
        rw [hvl] at e5
        subst e5
        obtain ⟨m0, m1, m2, m3, m4, m5⟩ := MR.out
        go_wp2_with (refine wpList_loadM rfl 27 _ rfl b 0 rfl 27 _ [.slice a1 m.facts.length k1, .slice ba' m.blocks.length bc', .int .i64 m.actual] DR.out (fun j _ => by rw [Nat.zero_add]) _ Try.underlying27 rfl Try.sizeMd ?_)
        clear m0 m1 m2 m3 m4 m5
        have M6 := MR.out.write (.slice a1 m.facts.length k1) (.slice ba' m.blocks.length bc') m.actual
        refine bodyPost_ret (results_mid1 Try.results65 _ _ _ _ _ rfl M6.range Try.underlying27 rfl Try.sizeMd) rfl ?_
        refine ⟨_, rfl, ⟨_, _, vs, rfl, ?_, ?_, ?_⟩, ((BR.out.setCell (by show _ ≤ w.heap.size + 1; omega) _).setCell (by show _ ≤ w.heap.size + 1; omega) _).setCell (by show _ ≤ w.heap.size + 1; omega) _⟩
        · exact (IR.out.keeps (((Keeps.setCell _ _ _ _ (by omega)).set (by omega) _ _).set (by omega) _ _)).wide (by omega) (by simp [World.setCell]; omega)
        · have h := OR.out
          rw [List.take_of_length_le (Nat.le_refl _)] at h
          exact (h.keeps (((Keeps.setCell _ _ _ _ (by omega)).set (by omega) _ _).set (by omega) _ _)).wide (by omega) (by simp [World.setCell])
        · intro u hu
          refine apart_lt (B := w4.heap.size) (fun q hq => by have := IR.out.2 q hq; omega) (fun q hq => ?_)
          rcases List.mem_cons.1 hu with rfl | hu
          · exact (OR.out.1.1.lt q hq).1
          · exact (OR.out.2.1.blk hu q hq).1
end Go.Proofs.Ytegmoojjffkacaa
