/-
  Contract of grid.model: the model of a grid, in new memory. Condition: the rows are as long as the model has worlds.
-/
import Derived.Test.YtegmoojjffkacaaGrid
import Derived.Test.YtegmoojjffkacaaMdm
import Derived.Test.YtegmoojjffkacaaPsh
import Derived.Test.YtegmoojjffkacaaLst
namespace Go.Proofs.Ytegmoojjffkacaa
open Go.RowKit Go.WideShapes
open Go Go.Deep
set_option linter.unusedSimpArgs false

/-- the rows of a model that fit in a grid -/
def fits (m : Md) : Prop := m.facts.length ≤ 16 ∧ m.blocks.length ≤ 3 ∧ ∀ k, k < m.blocks.length → (m.blocks.getD k []).length = m.facts.length
theorem fits.small {m : Md} (h : fits m) : small m.facts m.blocks := by
  refine ⟨h.1, fun k => ?_⟩
  rcases Nat.lt_or_ge k m.blocks.length with hk | hk
  · rw [h.2.2 k hk]; exact h.1
  · rw [List.getD_eq_getElem?_getD, List.getElem?_eq_none hk]; simp
theorem Try.sizeRow' : (Try.prog.info? 72).map (·.size) = some 16 := by kernel_rfl
theorem Try.allocMd (w : World) : (Instr.alloc 27 true (.tuple #[])).run Try.prog w = .ok (.pointer (some ⟨w.heap.size, 0, none⟩)) (w.alloc (.cells [Value.slice none 0 0, .slice none 0 0, .int .i64 0].toArray 27)) := by kernel_rfl
theorem pad_take' {l : List Int} {n : Nat} (h : l.length = n) : (pad l).take n = l := by subst h; unfold pad; simp

set_option maxRecDepth 100000 in
set_option maxHeartbeats 8000000 in
theorem gridModel_any (m : Md) (hm : fits m) (w : World) :
    Calls Try.prog 69 #[.agg (ints (gL m.facts.length m.blocks.length m.facts m.blocks m.actual)).toArray] w (MdAns w m) := by
  have HS := Lib.hid hm.small
  have HC : Hid (∀ (W : World) b T, Cm W b T (ints (gL m.facts.length m.blocks.length m.facts m.blocks m.actual)) → W.cell? ⟨b, 0, none⟩ = some (.int .i64 m.facts.length) ∧ W.cell? ⟨b, 1, none⟩ = some (.int .i64 m.blocks.length) ∧ W.cell? ⟨b, 66, none⟩ = some (.int .i64 m.actual)) := Lib.hid (fun W b T h => ⟨h.g0, h.g1, h.g66 hm.small⟩)
  have HF : Hid (∀ (W : World) b T, Cm W b T (ints (gL m.facts.length m.blocks.length m.facts m.blocks m.actual)) → W.rangeAt b 2 (ints (pad m.facts))) := Lib.hid (fun W b T h => h.range 2 _ (fun j hj => by rw [ints_len, pad_len hm.1] at hj; rw [ints_get, ints_get, gL_f hm.small hj]))
  have HR : Hid (∀ k, k < m.blocks.length → ∀ (W : World) b T, Cm W b T (ints (gL m.facts.length m.blocks.length m.facts m.blocks m.actual)) → W.rangeAt b (18 + k * 16) (ints (pad (m.blocks.getD k [])))) := Lib.hid (fun k hk W b T h => h.range _ _ (fun j hj => by have h3 := hm.2.1; rw [ints_len, pad_len (hm.small.2 k)] at hj; rw [ints_get, ints_get, gL_r hm.small (by omega) hj]))
  have KF := Lib.hid (fun W => rowList_any (pad m.facts) m.facts.length W (pad_len hm.1) hm.1)
  have KR := Lib.hid (fun k (hk : k < m.blocks.length) W => rowList_any (pad (m.blocks.getD k [])) m.facts.length W (pad_len (hm.small.2 k)) hm.1)
  have PF := Lib.hid (pad_take' (l := m.facts) rfl)
  have PR := Lib.hid (fun k hk => pad_take' (hm.2.2 k hk))
  have HL1 : Hid ((ints (pad m.facts)).length = 16) := Lib.hid (by rw [ints_len, pad_len hm.1])
  have HL2 : Hid (∀ k, (ints (pad (m.blocks.getD k []))).length = 16) := Lib.hid (fun k => by rw [ints_len, pad_len (hm.small.2 k)])
  have h3 := hm.2.1
  have h16 := hm.1
  have HU : Try.prog.underlying 72 = some (.array 16 3) := Try.underlying72
  rw [PF.out] at KF
  clear hm HS
  generalize gL m.facts.length m.blocks.length m.facts m.blocks m.actual = G at *
  go_enter Try.func69, Try.ntmps69
  go_wp2
  have c0 : Cm ((w.alloc (.cells (ints G).toArray 75)).alloc (.cells #[.slice none 0 0, .slice none 0 0, .int .i64 0] 27)) w.heap.size 75 (ints G) := (Cm.new rfl).alloc _
  have m0 : Mcell ((w.alloc (.cells (ints G).toArray 75)).alloc (.cells #[.slice none 0 0, .slice none 0 0, .int .i64 0] 27)) (w.heap.size + 1) (.slice none 0 0) (.slice none 0 0) 0 := Mcell.new (by simp)
  have b0 : Below w.heap.size w ((w.alloc (.cells (ints G).toArray 75)).alloc (.cells #[.slice none 0 0, .slice none 0 0, .int .i64 0] 27)) := by go_grown
  have s0 : ((w.alloc (.cells (ints G).toArray 75)).alloc (.cells #[.slice none 0 0, .slice none 0 0, .int .i64 0] 27)).heap.size = w.heap.size + 2 := by simp
  generalize (w.alloc (.cells (ints G).toArray 75)).alloc (.cells #[.slice none 0 0, .slice none 0 0, .int .i64 0] 27) = w0 at *
  have C0 := Lib.hid c0
  have M0 := Lib.hid m0
  have B0 := Lib.hid b0
  have HS0 := Lib.hid s0
  have hs0 : w.heap.size + 1 < w0.heap.size := by omega
  clear c0 m0 b0 s0
  obtain ⟨n0, hn0⟩ : ∃ n, n = w0.heap.size := ⟨_, rfl⟩
  refine wp_region_held_drew (S := fun w' => Below n0 w0 w') (by kernel_rfl) (Below.refl _ _).drew (fun hHeld => ?_)
  refine takeE (i := 0) (v := .pointer (some ⟨w.heap.size, 2, none⟩)) 5 rfl rfl (by kernel_rfl) (by kernel_rfl) (by kernel_rfl) (fun _ _ _ h => h) (Or.inl ⟨by rfl, by intro W hSw; go_simp⟩) hHeld ?_
  simp only [Act.put, List.setIfInBounds_toArray, List.set_cons_zero, List.set_cons_succ]
  refine takeE (i := 1) (v := .agg (ints (pad m.facts)).toArray) 6 rfl rfl (by kernel_rfl) (by kernel_rfl) (by kernel_rfl) (fun _ _ _ h => h) (yieldsIf_load_mid (by rfl) 72 _ rfl w.heap.size 2 rfl (ints (pad m.facts)) _ (fun W hSw => HF.out _ _ _ (C0.out.below hSw (by omega))) HU rfl (by rw [HL1.out]; exact Try.sizeRow)) hHeld ?_
  simp only [Act.put, List.setIfInBounds_toArray, List.set_cons_zero, List.set_cons_succ]
  refine takeE (i := 2) (v := .pointer (some ⟨w.heap.size, 0, none⟩)) 7 rfl rfl (by kernel_rfl) (by kernel_rfl) (by kernel_rfl) (fun _ _ _ h => h) (Or.inl ⟨by rfl, by intro W hSw; go_simp⟩) hHeld ?_
  simp only [Act.put, List.setIfInBounds_toArray, List.set_cons_zero, List.set_cons_succ]
  refine takeE (i := 3) (v := .int .i64 m.facts.length) 8 rfl rfl (by kernel_rfl) (by kernel_rfl) (by kernel_rfl) (fun _ _ _ h => h) (Or.inl ⟨by rfl, by intro W hSw; obtain ⟨c0, c1, c2⟩ := HC.out _ _ _ (C0.out.below hSw (by omega)); go_simp⟩) hHeld ?_
  simp only [Act.put, List.setIfInBounds_toArray, List.set_cons_zero, List.set_cons_succ]
  refine takeE (i := 5) (v := .pointer (some ⟨w.heap.size, 66, none⟩)) 10 rfl rfl (by kernel_rfl) (by kernel_rfl) (by kernel_rfl) (fun _ _ _ h => h) (Or.inl ⟨by rfl, by intro W hSw; go_simp⟩) hHeld ?_
  simp only [Act.put, List.setIfInBounds_toArray, List.set_cons_zero, List.set_cons_succ]
  refine takeE (i := 6) (v := .int .i64 m.actual) 11 rfl rfl (by kernel_rfl) (by kernel_rfl) (by kernel_rfl) (fun _ _ _ h => h) (Or.inl ⟨by rfl, by intro W hSw; obtain ⟨c0, c1, c2⟩ := HC.out _ _ _ (C0.out.below hSw (by omega)); go_simp⟩) hHeld ?_
  simp only [Act.put, List.setIfInBounds_toArray, List.set_cons_zero, List.set_cons_succ]
  refine twoE (i := 4) (j := 8) (by kernel_rfl) rfl rfl (by rfl) (by rfl) (fun K hK => ?wayA) (fun K hK => ?wayB)
  case' wayA =>
    go_simp
    refine (KF.out _).mono ?_
    rintro e w1 ⟨v1, rfl, hi1, hb1⟩
    obtain ⟨a1, k1, rfl⟩ := hi1.form
    have t1 : Below n0 w0 w1 := hHeld.trans (hb1.mono (by have := hHeld.size; omega))
    have I1 : Hid (Io w0.heap.size w1.heap.size w1 (.slice a1 m.facts.length k1) m.facts) := Lib.hid hi1
    clear hi1 hb1 hHeld
    refine hK.out _ _ t1 (fun hHeld => ?_)
    clear hK K t1
    try simp only [Act.put, List.setIfInBounds_toArray, List.set_cons_zero, List.set_cons_succ]
    refine takeE (i := 7) (v := .agg #[.slice a1 m.facts.length k1, .slice none 0 0, .int .i64 m.actual]) 12 rfl rfl (by kernel_rfl) (by kernel_rfl) (by kernel_rfl) (fun _ _ _ h => h) (Or.inl ⟨by rfl, by intro W hSw; go_simp⟩) hHeld ?_
    simp only [Act.put, List.setIfInBounds_toArray, List.set_cons_zero, List.set_cons_succ]
    refine onlyE (i := 8) (by kernel_rfl) rfl (by rfl) (fun K hK => ?_)
    refine wp_allocM 27 3 rfl rfl _ Try.allocMd ?_
    have D2 := Lib.hid (Cm.new (w := w1) (T := 27) (cs := [Value.slice none 0 0, .slice none 0 0, .int .i64 0]) rfl)
    have t2 : Below n0 w0 (w1.alloc (.cells [Value.slice none 0 0, .slice none 0 0, .int .i64 0].toArray 27)) := hHeld.alloc (by have := hHeld.size; omega) _
    have I2 := Lib.hid (I1.out.keeps (Keeps.of_all ((Below.refl w1.heap.size w1).alloc (Nat.le_refl _) (.cells [Value.slice none 0 0, .slice none 0 0, .int .i64 0].toArray 27))))
    have hb : Hid (w1.heap.size ≤ w1.heap.size ∧ w0.heap.size ≤ w1.heap.size) := Lib.hid ⟨Nat.le_refl _, hHeld.size⟩
    clear hHeld
    refine hK.out _ _ t2 (fun hHeld => ?_)
    clear hK K t2
    try simp only [Act.put, List.setIfInBounds_toArray, List.set_cons_zero, List.set_cons_succ]
    generalize w1.alloc (.cells [Value.slice none 0 0, .slice none 0 0, .int .i64 0].toArray 27) = w2 at *
    obtain ⟨b, hbb⟩ : ∃ b, b = w1.heap.size := ⟨_, rfl⟩
    obtain ⟨lo1, hlo⟩ : ∃ b, b = w0.heap.size := ⟨_, rfl⟩
    obtain ⟨hi1, hhi⟩ : ∃ b, b = w1.heap.size := ⟨_, rfl⟩
    have I2 : Hid (Io lo1 hi1 w2 (.slice a1 m.facts.length k1) m.facts) := Lib.hid (by rw [hlo, hhi]; exact I2.out)
    rw [← hbb] at D2 ⊢
    have hr1 : b < lo1 ∨ hi1 ≤ b := .inr (by omega)
    have hr2 : w0.heap.size ≤ lo1 ∧ w0.heap.size ≤ b ∧ hi1 ≤ w2.heap.size := ⟨by omega, by rw [hbb]; exact hb.out.2, by have := D2.out.lt; omega⟩
    clear hbb hlo hhi hb I1
    refine onlyE (i := 9) (by kernel_rfl) rfl (by rfl) (fun K hK => ?_)
    refine wp_storeM 27 (.tmp 3) (.tmp 12) rfl rfl b 0 rfl [.slice a1 m.facts.length k1, .slice none 0 0, .int .i64 m.actual] rfl 27 _ D2.out (Nat.le_refl 3) Try.sizeMd (by intro u hu; simp at hu; rcases hu with rfl | rfl | rfl <;> rfl) ?_
    intro w3 hc3 ha3
    rw [lay'_all (by rfl)] at hc3
    have D3 := Lib.hid hc3
    have I3 := Lib.hid (I2.out.keeps (lo := lo1) (hi := hi1) ⟨Nat.le_of_eq ha3.size.symm, fun q h1 h2 _ => ha3.block q (by omega)⟩)
    have t3 : Below n0 w0 w3 := hHeld.trans (ha3.below (by omega))
    have hs3 : w3.heap.size = w2.heap.size := ha3.size
    clear hc3 ha3 hHeld
    refine hK.out _ _ t3 (fun hHeld => ?_)
    clear hK K t3
    refine wpAnyH_done (by kernel_rfl) ?_ _
  case' wayB =>
    refine wp_allocM 27 3 rfl rfl _ Try.allocMd ?_
    have D1 := Lib.hid (Cm.new (w := w0.drew) (b := w0.heap.size) (T := 27) (cs := [Value.slice none 0 0, .slice none 0 0, .int .i64 0]) rfl)
    have t1 : Below n0 w0 (w0.drew.alloc (.cells [Value.slice none 0 0, .slice none 0 0, .int .i64 0].toArray 27)) := hHeld.alloc (by have := hHeld.size; omega) _
    clear hHeld
    refine hK.out _ _ t1 (fun hHeld => ?_)
    clear hK K t1
    try simp only [Act.put, List.setIfInBounds_toArray, List.set_cons_zero, List.set_cons_succ]
    have hz1 : (w0.drew.alloc (.cells [Value.slice none 0 0, .slice none 0 0, .int .i64 0].toArray 27)).heap.size = w0.heap.size + 1 := by simp
    generalize w0.drew.alloc (.cells [Value.slice none 0 0, .slice none 0 0, .int .i64 0].toArray 27) = w1 at *
    obtain ⟨b, hbb⟩ : ∃ b, b = w0.heap.size := ⟨_, rfl⟩
    rw [← hbb] at D1
    refine onlyE (i := 4) (by kernel_rfl) rfl (by rfl) (fun K hK => ?_)
    go_simp
    refine (KF.out _).mono ?_
    rintro e w2 ⟨v1, rfl, hx1, hb1⟩
    rw [← hbb]
    obtain ⟨a1, k1, rfl⟩ := hx1.form
    have t2 : Below n0 w0 w2 := hHeld.trans (hb1.mono (by have := hHeld.size; omega))
    have D2 := Lib.hid (D1.out.all hb1)
    obtain ⟨lo1, hlo⟩ : ∃ b, b = w1.heap.size := ⟨_, rfl⟩
    obtain ⟨hi1, hhi⟩ : ∃ b, b = w2.heap.size := ⟨_, rfl⟩
    have I2 : Hid (Io lo1 hi1 w2 (.slice a1 m.facts.length k1) m.facts) := Lib.hid (by rw [hlo, hhi]; exact hx1)
    have hr1 : b < lo1 ∨ hi1 ≤ b := .inl (by omega)
    have hr2 : w0.heap.size ≤ lo1 ∧ w0.heap.size ≤ b ∧ hi1 ≤ w2.heap.size := ⟨by omega, by omega, by omega⟩
    clear hx1 hb1 hHeld hlo hhi hbb hz1 D1
    refine hK.out _ _ t2 (fun hHeld => ?_)
    clear hK K t2
    try simp only [Act.put, List.setIfInBounds_toArray, List.set_cons_zero, List.set_cons_succ]
    refine takeE (i := 7) (v := .agg #[.slice a1 m.facts.length k1, .slice none 0 0, .int .i64 m.actual]) 12 rfl rfl (by kernel_rfl) (by kernel_rfl) (by kernel_rfl) (fun _ _ _ h => h) (Or.inl ⟨by rfl, by intro W hSw; go_simp⟩) hHeld ?_
    simp only [Act.put, List.setIfInBounds_toArray, List.set_cons_zero, List.set_cons_succ]
    refine onlyE (i := 9) (by kernel_rfl) rfl (by rfl) (fun K hK => ?_)
    refine wp_storeM 27 (.tmp 3) (.tmp 12) rfl rfl b 0 rfl [.slice a1 m.facts.length k1, .slice none 0 0, .int .i64 m.actual] rfl 27 _ D2.out (Nat.le_refl 3) Try.sizeMd (by intro u hu; simp at hu; rcases hu with rfl | rfl | rfl <;> rfl) ?_
    intro w3 hc3 ha3
    rw [lay'_all (by rfl)] at hc3
    have D3 := Lib.hid hc3
    have I3 := Lib.hid (I2.out.keeps (lo := lo1) (hi := hi1) ⟨Nat.le_of_eq ha3.size.symm, fun q h1 h2 _ => ha3.block q (by omega)⟩)
    have t3 : Below n0 w0 w3 := hHeld.trans (ha3.below (by omega))
    have hs3 : w3.heap.size = w2.heap.size := ha3.size
    clear hc3 ha3 hHeld
    refine hK.out _ _ t3 (fun hHeld => ?_)
    clear hK K t3
    refine wpAnyH_done (by kernel_rfl) ?_ _
  all_goals
    rw [hn0] at hHeld
    have C3 := Lib.hid (C0.out.all hHeld)
    have M3 := Lib.hid (M0.out.below hHeld)
    have B3 : Hid (Below w.heap.size w w3) := Lib.hid (B0.out.trans (hHeld.mono B0.out.size))
    obtain ⟨g0, g1, g2⟩ := HC.out _ _ _ C3.out
    have hb3 : b < w3.heap.size := D3.out.lt
    have hw3 : w0.heap.size ≤ w3.heap.size := hHeld.size
    have hi3 : hi1 ≤ w3.heap.size := by omega
    clear hHeld C0 M0 B0 D2 I2 hs3
    obtain ⟨r1, r2, r3⟩ := hr2
    go_wp2
    clear g0 g1 g2
    go_loopw [15] (fun iv wr => ∃ (k : Nat) (bv : Value) (vs : List Value), k ≤ m.blocks.length ∧ iv = .int .i64 k ∧ Hid (Cm wr b 27 [.slice a1 m.facts.length k1, bv, .int .i64 m.actual]) ∧ Hid (Ioo w3.heap.size wr.heap.size wr bv vs (m.blocks.take k)) ∧ Hid (Io lo1 hi1 wr (.slice a1 m.facts.length k1) m.facts) ∧ Hid (Cm wr w.heap.size 75 (ints G)) ∧ Hid (Mcell wr (w.heap.size + 1) (.slice none 0 0) (.slice none 0 0) 0) ∧ Hid (Below w.heap.size w wr) ∧ w3.heap.size ≤ wr.heap.size) (fun iv _ => m.blocks.length - (intOf iv).toNat)
    case atStart => exact ⟨0, _, [], Nat.zero_le _, rfl, D3, Lib.hid ⟨Ro.nil _ _ _ _, ⟨rfl, fun j hj => by simp at hj⟩, List.pairwise_singleton _ _⟩, I3, C3, M3, B3, Nat.le_refl _⟩
    case round =>
      clear D3 I3 C3 M3 B3
      obtain ⟨k, bv, vs, hk, rfl, DR, OR, IR, CR, MR, BR, hwr⟩ := hrel
      by_cases hlt : k < m.blocks.length
      · have HRk := Lib.hid (HR.out k hlt)
        have KRk := Lib.hid (KR.out k hlt)
        have PRk := Lib.hid (PR.out k hlt)
        have HLk := Lib.hid (HL2.out k)
        have HTK := Lib.hid (take_snocL hlt)
        rw [PRk.out] at KRk
        have hvl : vs.length = k := by rw [OR.out.2.1.1, List.length_take]; omega
        have k0 : (0 : Int) ≤ (k : Int) := Int.natCast_nonneg _
        have k3 : (k : Int) < 3 := by omega
        obtain ⟨row, hrow⟩ : ∃ r, r = m.blocks.getD k [] := ⟨_, rfl⟩
        rw [← hrow] at HRk KRk PRk HLk HTK
        clear hrow
        go_wp2
        refine regionL (fun W => Below w3.heap.size wr W) [12] (by kernel_rfl) (Below.refl _ _).drew (fun hHeld => ?_)
        refine takeA (i := 0) (v := .pointer (some ⟨b, 1, none⟩)) 18 rfl rfl (by kernel_rfl) (by kernel_rfl) (by kernel_rfl) (by kernel_rfl) (fun _ _ _ h => h) (Or.inl ⟨by rfl, by intro W hSw; go_simp⟩) hHeld ?_
        simp only [Act.put, List.setIfInBounds_toArray, List.set_cons_zero, List.set_cons_succ]
        refine takeA (i := 1) (v := bv) 19 rfl rfl (by kernel_rfl) (by kernel_rfl) (by kernel_rfl) (by kernel_rfl) (fun _ _ _ h => h) (Or.inl ⟨by rfl, by intro W hSw; have d1 : W.cell? ⟨b, 1, none⟩ = some bv := (DR.out.below hSw hb3).cell 1; go_simp⟩) hHeld ?_
        simp only [Act.put, List.setIfInBounds_toArray, List.set_cons_zero, List.set_cons_succ]
        refine takeA (i := 2) (v := .int .i64 k) 20 rfl rfl (by kernel_rfl) (by kernel_rfl) (by kernel_rfl) (by kernel_rfl) (fun _ _ _ h => h) (Or.inl ⟨by rfl, by intro W hSw; go_simp⟩) hHeld ?_
        simp only [Act.put, List.setIfInBounds_toArray, List.set_cons_zero, List.set_cons_succ]
        refine takeA (i := 3) (v := .pointer (some ⟨w.heap.size, 18, none⟩)) 21 rfl rfl (by kernel_rfl) (by kernel_rfl) (by kernel_rfl) (by kernel_rfl) (fun _ _ _ h => h) (Or.inl ⟨by rfl, by intro W hSw; go_simp⟩) hHeld ?_
        simp only [Act.put, List.setIfInBounds_toArray, List.set_cons_zero, List.set_cons_succ]
        refine takeA (i := 4) (v := .pointer (some ⟨w.heap.size, 18 + k * 16, none⟩)) 22 rfl rfl (by kernel_rfl) (by kernel_rfl) (by kernel_rfl) (by kernel_rfl) (fun _ _ _ h => h) (Or.inl ⟨by rfl, by intro W hSw; go_simp⟩) hHeld ?_
        simp only [Act.put, List.setIfInBounds_toArray, List.set_cons_zero, List.set_cons_succ]
        refine takeA (i := 5) (v := .agg (ints (pad row)).toArray) 23 rfl rfl (by kernel_rfl) (by kernel_rfl) (by kernel_rfl) (by kernel_rfl) (fun _ _ _ h => h) (yieldsIf_load_mid (by rfl) 72 _ rfl w.heap.size (18 + k * 16) rfl (ints (pad row)) _ (fun W hSw => HRk.out _ _ _ (CR.out.below hSw (by omega))) HU rfl (by rw [HLk.out]; exact Try.sizeRow)) hHeld ?_
        simp only [Act.put, List.setIfInBounds_toArray, List.set_cons_zero, List.set_cons_succ]
        refine takeA (i := 6) (v := .pointer (some ⟨w.heap.size, 0, none⟩)) 24 rfl rfl (by kernel_rfl) (by kernel_rfl) (by kernel_rfl) (by kernel_rfl) (fun _ _ _ h => h) (Or.inl ⟨by rfl, by intro W hSw; go_simp⟩) hHeld ?_
        simp only [Act.put, List.setIfInBounds_toArray, List.set_cons_zero, List.set_cons_succ]
        refine takeA (i := 7) (v := .int .i64 m.facts.length) 25 rfl rfl (by kernel_rfl) (by kernel_rfl) (by kernel_rfl) (by kernel_rfl) (fun _ _ _ h => h) (Or.inl ⟨by rfl, by intro W hSw; obtain ⟨c0, c1, c2⟩ := HC.out _ _ _ (CR.out.below hSw (by omega)); go_simp⟩) hHeld ?_
        simp only [Act.put, List.setIfInBounds_toArray, List.set_cons_zero, List.set_cons_succ]
        refine onlyL (i := 8) (by kernel_rfl) rfl (by rfl) (fun K hK => ?_)
        go_simp
        refine (KRk.out _).mono ?_
        rintro e w4 ⟨u4, rfl, hx4, hb4⟩
        obtain ⟨a4, k4, rfl⟩ := hx4.form
        have t4 : Below wr.heap.size wr w4 := Below.trans (Below.refl _ _).drew hb4
        have U4 : Hid (Io wr.heap.size w4.heap.size w4 (.slice a4 row.length k4) row) := Lib.hid hx4
        clear hx4 hb4 hHeld
        have O4 := Lib.hid (OR.out.keeps (Keeps.of_all t4))
        have D4 := Lib.hid (DR.out.all t4)
        have I4 : Hid (Io lo1 hi1 w4 (.slice a1 m.facts.length k1) m.facts) := Lib.hid (IR.out.keeps (Keeps.of_all t4))
        have C4 := Lib.hid (CR.out.all t4)
        have M4 := Lib.hid (MR.out.below t4)
        have B4 : Hid (Below w.heap.size w w4) := Lib.hid (BR.out.trans (t4.mono BR.out.size))
        have hs4 : wr.heap.size ≤ w4.heap.size := t4.size
        have T4 := Lib.hid (t4.mono hwr)
        refine hK.out _ _ (fun _ => t4.mono hwr) (fun hHeld => ?_)
        have hHeld := hHeld (by decide)
        clear hK K t4 OR DR IR CR MR BR
        try simp only [Act.put, List.setIfInBounds_toArray, List.set_cons_zero, List.set_cons_succ]
        refine onlyL (i := 9) (by kernel_rfl) rfl (by rfl) (fun K hK => ?_)
        go_simp
        have t5 : Below w3.heap.size wr (w4.alloc (.cells #[.slice a4 row.length k4] 22)) := hHeld.alloc (by omega) _
        clear hHeld
        refine hK.out _ _ (fun _ => t5) (fun hHeld => ?_)
        have hHeld := hHeld (by decide)
        clear hK K t5
        try simp only [Act.put, List.setIfInBounds_toArray, List.set_cons_zero, List.set_cons_succ]
        refine onlyL (i := 10) (by kernel_rfl) rfl (by rfl) (fun K hK => ?_)
        have hown : w4.ownsRow w3.heap.size 22 1 bv vs.length vs := O4.out.1.1
        refine wp_pushL (.tmp 19) (.tmp 27) 23 28 rfl rfl 22 (.slice none 0 0) 24 Try.underlying23 Try.infoL rfl w3.heap.size (.slice a4 row.length k4) bv vs.length vs hown rfl w4.heap.size rfl rfl rfl (by unfold maxLen; omega) (by omega) (by omega) ?_
        intro v5 w5 hown5 hg5
        have hbv : ∀ q, bv.ownBlock = some q → w3.heap.size ≤ q ∧ q < wr.heap.size := fun q hq => ⟨(O4.out.1.1.lt q hq).1, O4.out.1.2 q hq⟩
        have O5 := Lib.hid (Ioo.push O4.out U4.out (Nat.le_refl _) hs4 hwr hown5 hg5)
        have hne : ∀ q, q < w3.heap.size → bv.ownBlock ≠ some q := fun q hq e => by have := hbv q e; omega
        have D5 := Lib.hid (D4.out.of_block (hg5.block (by omega) (hne b hb3)))
        have C5 := Lib.hid (C4.out.of_block (hg5.block (by omega) (hne _ (by omega))))
        have M5 := Lib.hid (M4.out.of_block (hg5.block (by omega) (hne _ (by omega))))
        have I5 : Hid (Io lo1 hi1 w5 (.slice a1 m.facts.length k1) m.facts) := Lib.hid (hg5.ro I4.out (apart_lt (B := w3.heap.size) (fun q hq => by have := I4.out.2 q hq; omega) (fun q hq => (hbv q hq).1)))
        have t5 : Below w3.heap.size w4 w5 := hg5.below (by omega) (fun q hq => (hbv q hq).1)
        have B5 : Hid (Below w.heap.size w w5) := Lib.hid (B4.out.trans (t5.mono (by omega)))
        have hs5 : w4.heap.size ≤ w5.heap.size := t5.size
        have t6 : Below w3.heap.size wr w5 := T4.out.trans t5
        obtain ⟨v5a, v5c, e5⟩ := O5.out.1.form
        rw [show (vs ++ [Value.slice a4 row.length k4]).length = k + 1 by simp [hvl]] at e5
        have d5 := D5.out.cell 1
        have f5 := D5.out.frozen 1
        clear hHeld hown hown5 hbv hne t5 O4 D4 I4 C4 M4 B4 hg5
        refine hK.out _ _ (fun _ => t6) (fun hHeld => ?_)
        have hHeld := hHeld (by decide)
        clear hK K t6
        try simp only [Act.put, List.setIfInBounds_toArray, List.set_cons_zero, List.set_cons_succ]
        refine takeA (i := 11) (v := .pointer (some ⟨b, 1, none⟩)) 29 rfl rfl (by kernel_rfl) (by kernel_rfl) (by kernel_rfl) (by kernel_rfl) (fun _ _ _ h => h) (Or.inl ⟨by rfl, by intro W hSw; go_simp⟩) hHeld ?_
        simp only [Act.put, List.setIfInBounds_toArray, List.set_cons_zero, List.set_cons_succ]
        refine onlyL (i := 12) (by kernel_rfl) rfl (by rfl) (fun K hK => ?_)
        simp only [List.getElem?_cons_succ, List.getElem?_cons_zero] at d5
        subst e5
        go_simp
        refine hK.out _ _ (fun h => absurd (by decide) h) (fun _ => ?_)
        clear hK K hHeld
        refine doneL (by kernel_rfl) ?_ _
        clear d5 f5
        go_wp2
        go_roundw
        case rel =>
          refine ⟨k + 1, _, vs ++ [.slice a4 row.length k4], by omega, by go_num, Lib.hid (D5.out.set 1 _), Lib.hid ?_, Lib.hid (I5.out.keeps (Keeps.setCell _ _ _ _ hr1)), Lib.hid (C5.out.other (by omega) _ _), Lib.hid (M5.out.other (by omega) _ _), Lib.hid (B5.out.setCell (by show _ ≤ b; omega) _), by simp [World.setCell]; omega⟩
          rw [HTK.out]
          exact (O5.out.keeps (Keeps.setCell w5 b 1 (.slice v5a (k + 1) v5c) (.inl hb3))).wide (Nat.le_refl _) (Keeps.setCell (lo := 0) (hi := 0) w5 b 1 (.slice v5a (k + 1) v5c) (.inr (Nat.zero_le _))).size
        case measure => simp [intOf]; omega
      · obtain rfl : k = m.blocks.length := by omega
        obtain ⟨ba, bc, e5⟩ := OR.out.1.form
        have hvl : vs.length = m.blocks.length := by rw [OR.out.2.1.1, List.length_take]; omega
        rw [hvl] at e5
        subst e5
        obtain ⟨m0, m1, m2, m3, m4, m5⟩ := MR.out
        go_wp2_with (refine wpList_loadM rfl 27 _ rfl b 0 rfl 27 _ [.slice a1 m.facts.length k1, .slice ba m.blocks.length bc, .int .i64 m.actual] DR.out (fun j _ => by rw [Nat.zero_add]) _ Try.underlying27 rfl Try.sizeMd ?_)
        clear m0 m1 m2 m3 m4 m5
        have M6 := MR.out.write (.slice a1 m.facts.length k1) (.slice ba m.blocks.length bc) m.actual
        refine bodyPost_ret (results_mid1 Try.results69 _ _ _ _ _ rfl M6.range Try.underlying27 rfl Try.sizeMd) rfl ?_
        refine ⟨_, rfl, ⟨_, _, vs, rfl, ?_, ?_, ?_⟩, ((BR.out.setCell (by show _ ≤ w.heap.size + 1; omega) _).setCell (by show _ ≤ w.heap.size + 1; omega) _).setCell (by show _ ≤ w.heap.size + 1; omega) _⟩
        · exact (IR.out.keeps (((Keeps.setCell _ _ _ _ (by omega)).set (by omega) _ _).set (by omega) _ _)).wide (by omega) (by simp [World.setCell]; omega)
        · have h := OR.out
          rw [List.take_of_length_le (Nat.le_refl _)] at h
          exact (h.keeps (((Keeps.setCell _ _ _ _ (by omega)).set (by omega) _ _).set (by omega) _ _)).wide (by omega) (by simp [World.setCell])
        · intro u hu
          refine apart_lt (B := w3.heap.size) (fun q hq => by have := IR.out.2 q hq; omega) (fun q hq => ?_)
          rcases List.mem_cons.1 hu with rfl | hu
          · exact (OR.out.1.1.lt q hq).1
          · exact (OR.out.2.1.blk hu q hq).1
end Go.Proofs.Ytegmoojjffkacaa
