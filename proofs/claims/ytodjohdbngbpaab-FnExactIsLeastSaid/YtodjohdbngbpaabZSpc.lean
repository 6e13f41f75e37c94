/-
  Several texts in one: Opn Sse Stg Sfi Sst Scl. Conditions: as each theorem says.
-/
import Derived.Test.YtodjohdbngbpaabZSem
import Derived.Test.YtodjohdbngbpaabZKey
import Derived.Test.YtodjohdbngbpaabSme
import Derived.Maps.AppendAt
/-
  A model that is read, opened: where its lists lie and what their cells hold, now and later. No condition but that the model is valid.
-/
namespace Go.Proofs.Ytodjohdbngbpaab
open Go.RowKit Go.WideShapes
open Go Go.Deep
set_option linter.unusedSimpArgs false

theorem iv_open {lo hi : Nat} {w : World} {v : Value} {l : List Int} (h : Iv lo hi w v l) (h0 : 0 < l.length) : ∃ b o c, v = .slice (some ⟨b, o, none⟩) l.length c ∧ l.length ≤ c ∧ c ≤ maxLen ∧ b < w.heap.size ∧
    ∀ W, Below w.heap.size w W → ∀ j, j < l.length → W.cell? ⟨b, o + j, none⟩ = some (.int .i64 (l.getD j 0)) := by
  obtain ⟨a, cap, rfl, h1, h2, h3⟩ := h.parts
  obtain ⟨b, o, rfl, _, _, hb, _⟩ := h3 0 h0
  refine ⟨b, o, cap, rfl, h1, h2, hb, fun W hW j hj => ?_⟩
  obtain ⟨b', o', e, hc⟩ := h.at' hW j hj
  cases e; exact hc
theorem mv_open {lo hi : Nat} {w : World} {v : Value} {m : Md} (hr : Mv lo hi w v m) (hm : mdOk m = true) : ∃ fb fo fc bb bo bc, v = .agg #[.slice (some ⟨fb, fo, none⟩) m.facts.length fc, .slice (some ⟨bb, bo, none⟩) m.blocks.length bc, .int .i64 m.actual] ∧
    m.facts.length ≤ fc ∧ fc ≤ maxLen ∧ m.blocks.length ≤ bc ∧ bc ≤ maxLen ∧ fb < w.heap.size ∧ bb < w.heap.size ∧
    (∀ W, Below w.heap.size w W → ∀ j, j < m.facts.length → W.cell? ⟨fb, fo + j, none⟩ = some (.int .i64 (m.facts.getD j 0))) ∧
    (∀ j, j < m.blocks.length → ∃ ub uo uc, m.facts.length ≤ uc ∧ uc ≤ maxLen ∧ ub < w.heap.size ∧ ∀ W, Below w.heap.size w W → W.cell? ⟨bb, bo + j, none⟩ = some (.slice (some ⟨ub, uo, none⟩) m.facts.length uc) ∧ ∀ i, i < m.facts.length → W.cell? ⟨ub, uo + i, none⟩ = some (.int .i64 ((m.blocks.getD j []).getD i 0))) := by
  obtain ⟨p1, p2, p3, p4, p5, -⟩ := mdOk_parts hm
  obtain ⟨fv, bv, rfl, hf, hb⟩ := hr
  obtain ⟨fb, fo, fc, rfl, f1, f2, f3, f4⟩ := iv_open hf p1
  obtain ⟨ba, bc, rfl, b1, b2, -⟩ := hb.parts
  obtain ⟨bb, bo, u0, rfl, _, _, hbb, _, _⟩ := hb.row rfl 0 p3
  refine ⟨fb, fo, fc, bb, bo, bc, rfl, f1, f2, b1, b2, f3, hbb, f4, fun j hj => ?_⟩
  obtain ⟨b, o, u, e, _, _, hlt, hc, hu⟩ := hb.row rfl j hj
  cases e
  have hrl := (p5 j hj).1
  obtain ⟨ub, uo, uc, rfl, h1, h2, h3, h4⟩ := iv_open hu (by omega)
  rw [hrl] at h1 h4
  exact ⟨ub, uo, uc, h1, h2, h3, fun W hW => ⟨(hW.cell (p := ⟨bb, bo + j, none⟩) hbb).trans (by rw [hc, hrl]), h4 W hW⟩⟩
end Go.Proofs.Ytodjohdbngbpaab

/-
  spec.l06Set, spec.l06Equal, spec.l06Together: the classes that a block meets; whether two worlds stay together. Condition: the model is valid, the classes are numbers of worlds.
-/
namespace Go.Proofs.Ytodjohdbngbpaab
open Go.RowKit Go.WideShapes
open Go Go.Deep
set_option linter.unusedSimpArgs false

/-- the classes that the first j worlds of a block meet -/
def setU (m : Md) (c : List Int) (k w j : Nat) : Nat → Bool := fun x => (List.range j).any fun v => ((m.blocks.getD k []).getD v 0 == (m.blocks.getD k []).getD w 0) && (c.getD v 0 == (x : Int))
theorem setU_end (m : Md) (c : List Int) (k w : Nat) : setU m c k w m.facts.length = setB m c k w := rfl
theorem setU_succ (m : Md) (c : List Int) (k w j x : Nat) : setU m c k w (j + 1) x = (setU m c k w j x || (((m.blocks.getD k []).getD j 0 == (m.blocks.getD k []).getD w 0) && (c.getD j 0 == (x : Int)))) := by
  unfold setU; rw [List.range_succ, List.any_append]; simp
/-- a list of bools by a function -/
def boolsF (n : Nat) (p : Nat → Bool) : List Bool := (List.range n).map p
theorem boolsF_len (n : Nat) (p : Nat → Bool) : (boolsF n p).length = n := by simp [boolsF]
theorem boolsF_get {n : Nat} {p : Nat → Bool} {i : Nat} (h : i < n) : (boolsF n p).getD i false = p i := by
  unfold boolsF; rw [List.getD_eq_getElem?_getD, List.getElem?_map, List.getElem?_range h]; rfl
theorem boolsF_congr {n : Nat} {p q : Nat → Bool} (h : ∀ i, i < n → p i = q i) : boolsF n p = boolsF n q := List.map_congr_left fun i hi => h i (List.mem_range.1 hi)
theorem boolsF_set {n : Nat} (p : Nat → Bool) (i : Nat) (b : Bool) : (boolsF n p).set i b = boolsF n (upd p i b) := by
  apply List.ext_getElem?
  intro j
  unfold boolsF
  rw [List.getElem?_set]
  rcases Nat.lt_or_ge j n with h | h
  · rw [List.getElem?_map, List.getElem?_map, List.getElem?_range h]
    by_cases e : i = j
    · subst e; simp [h, upd]
    · simp [e, upd, Ne.symm e]
  · simp [h]
    intro; omega
theorem setU_hit {m : Md} {c : List Int} {k w j y n : Nat} (h : (m.blocks.getD k []).getD j 0 = (m.blocks.getD k []).getD w 0) (hy : c.getD j 0 = (y : Int)) : boolsF n (upd (setU m c k w j) y true) = boolsF n (setU m c k w (j + 1)) := boolsF_congr fun x _ => by
  rw [setU_succ, h, hy]
  unfold upd
  by_cases e : x = y
  · subst e; simp
  · have : ((y : Int) == (x : Int)) = false := by simp; omega
    simp [e, this]
theorem setU_miss {m : Md} {c : List Int} {k w j n : Nat} (h : (m.blocks.getD k []).getD j 0 ≠ (m.blocks.getD k []).getD w 0) : boolsF n (setU m c k w j) = boolsF n (setU m c k w (j + 1)) := boolsF_congr fun x _ => by
  rw [setU_succ]
  have : ((m.blocks.getD k []).getD j 0 == (m.blocks.getD k []).getD w 0) = false := by simpa using h
  rw [this]; simp
theorem bools0 (n : Nat) (m : Md) (c : List Int) (k w : Nat) : bools (List.replicate n false) = bools (boolsF n (setU m c k w 0)) := by
  congr 1
  unfold boolsF
  apply List.ext_getElem?
  intro i
  rcases Nat.lt_or_ge i n with h | h
  · rw [List.getElem?_replicate, if_pos h, List.getElem?_map, List.getElem?_range h]; rfl
  · rw [List.getElem?_eq_none (by simpa using h), List.getElem?_eq_none (by simpa using h)]

set_option maxRecDepth 100000 in
set_option maxHeartbeats 16000000 in
theorem specSet_any (lo hi lo2 hi2 : Nat) (v v2 : Value) (m : Md) (c : List Int) (k x : Nat) (w : World) (hr : Mv lo hi w v m) (hm : mdOk m = true) (hr2 : Iv lo2 hi2 w v2 c) (hc : inRow m c) (hk : k < m.blocks.length) (hx : x < m.facts.length) :
    Calls Try.prog 52 #[v, .int .i64 k, v2, .int .i64 x] w (BoolsAns w (boolsF m.facts.length (setB m c k x))) := by
  obtain ⟨p1, p2, p3, p4, p5, -⟩ := mdOk_parts hm
  obtain ⟨fb, fo, fc, bb, bo, bc, rfl, f1, f2, b1, b2, hfb, hbb, hF, hB⟩ := mv_open hr hm
  obtain ⟨cb, co, cc, rfl, c1, c2, hcb, hC⟩ := iv_open hr2 (by rw [hc.1]; omega)
  rw [hc.1] at c1 hC ⊢
  unfold maxLen at f2 b2 c2
  obtain ⟨ub, uo, uc, u1, u2, u3, hu⟩ := hB k hk
  unfold maxLen at u2
  have HU := Lib.hid (fun W hW => (hu W hW).1)
  have HR := Lib.hid (fun W hW => (hu W hW).2)
  have HC := Lib.hid hC
  have HCB := Lib.hid hc.2
  have HE := Lib.hid (setU_end m c k x)
  have HH := Lib.hid (fun j y n h hy => setU_hit (m := m) (c := c) (k := k) (w := x) (j := j) (y := y) (n := n) h hy)
  have HM := Lib.hid (fun j n h => setU_miss (m := m) (c := c) (k := k) (w := x) (j := j) (n := n) h)
  have H0 := Lib.hid (bools0 m.facts.length m c k x)
  have hk0 : (0 : Int) ≤ (k : Int) := Int.natCast_nonneg _
  have hx0 : (0 : Int) ≤ (x : Int) := Int.natCast_nonneg _
  have hkA : (k : Int) < (m.blocks.length : Int) := by omega
  have hxn : (x : Int) < (m.facts.length : Int) := by omega
  have hn16 : (m.facts.length : Int) ≤ 16 := by omega
  clear hr hm hr2 hc p5 hF hB hC hu
  go_enter Try.func52, Try.ntmps52
  have x1 : Mcell (w.alloc (.cells #[.slice (some ⟨fb, fo, none⟩) m.facts.length fc, .slice (some ⟨bb, bo, none⟩) m.blocks.length bc, .int .i64 m.actual] 28)) w.heap.size (.slice (some ⟨fb, fo, none⟩) m.facts.length fc) (.slice (some ⟨bb, bo, none⟩) m.blocks.length bc) m.actual := Mcell.new rfl
  have b0 : Below w.heap.size w (w.alloc (.cells #[.slice (some ⟨fb, fo, none⟩) m.facts.length fc, .slice (some ⟨bb, bo, none⟩) m.blocks.length bc, .int .i64 m.actual] 28)) := by go_grown
  have X0 := Lib.hid x1
  have B0 := Lib.hid b0
  clear x1 b0
  have tk1 : True := trivial
  go_wp2_with
    (first
      | (have _t := tk1; clear _t tk1; refine wpList_makeM rfl (.tmp 13) (.tmp 13) 53 14 rfl rfl 4 (.bool false) 1 Try.underlying53 Try.infoB m.facts.length .i64 .i64 rfl rfl (by omega) (by unfold maxLen; omega) (bools (List.replicate m.facts.length false)) (madeB m.facts.length) ?_
         intro w1 hz hb1
         rw [H0.out] at hz
         have Z1 : Hid (Cm w1 (w.heap.size + 1) 4 (bools (boolsF m.facts.length (setU m c k x 0)))) := Lib.hid (by simpa using hz)
         have X1 := Lib.hid (X0.out.below hb1)
         have B1 := Lib.hid (B0.out.trans (hb1.mono B0.out.size))
         have lt1 : w.heap.size + 1 < w1.heap.size := Z1.out.lt
         obtain ⟨xc0, xc1, xc2, xc3, xc4, xc5⟩ := X1.out
         have u4 := HU.out _ B1.out
         clear hz hb1 X0 B0))
  clear xc0 xc1 xc2 xc3 xc4 xc5 u4
  go_loopw [21] (fun iv wr => ∃ j : Nat, j ≤ m.facts.length ∧ iv = .int .i64 j ∧ Hid (Cm wr (w.heap.size + 1) 4 (bools (boolsF m.facts.length (setU m c k x j)))) ∧ Hid (Mcell wr w.heap.size (.slice (some ⟨fb, fo, none⟩) m.facts.length fc) (.slice (some ⟨bb, bo, none⟩) m.blocks.length bc) m.actual) ∧ Hid (Below w.heap.size w wr)) (fun iv _ => m.facts.length - (intOf iv).toNat)
  case atStart => exact ⟨0, Nat.zero_le _, rfl, Z1, X1, B1⟩
  case round =>
    clear Z1 X1 B1
    obtain ⟨j, hj, rfl, ZR, XR, BR⟩ := hrel
    by_cases hlt : j < m.facts.length
    · have hj0 : (0 : Int) ≤ (j : Int) := Int.natCast_nonneg _
      have hjn : (j : Int) < (m.facts.length : Int) := by omega
      obtain ⟨xc0, xc1, xc2, xc3, xc4, xc5⟩ := XR.out
      have u4 := HU.out _ BR.out
      have r1 := HR.out _ BR.out j hlt
      have r2 := HR.out _ BR.out x hx
      have cj := HC.out _ BR.out j hlt
      obtain ⟨y0, y1⟩ := HCB.out j hlt
      have HHj := Lib.hid (fun y => HH.out j y m.facts.length)
      have HMj := Lib.hid (HM.out j m.facts.length)
      obtain ⟨y, hy⟩ := Int.eq_ofNat_of_zero_le y0
      rw [hy] at cj y1
      have hyn : y < m.facts.length := by omega
      have hy0 : (0 : Int) ≤ (y : Int) := Int.natCast_nonneg _
      have HY := Lib.hid hy
      have ck : wr.cell? ⟨w.heap.size + 1, y, none⟩ = some (.bool (setU m c k x j y)) := by rw [ZR.out.cell, bools_at (by rw [boolsF_len]; exact hyn), boolsF_get hyn]
      have fk := ZR.out.frozen y
      clear hy y0
      generalize (m.blocks.getD k []).getD j 0 = a1 at *
      generalize (m.blocks.getD k []).getD x 0 = a2 at *
      generalize setU m c k x j y = zz at ck
      by_cases e : a1 = a2
      · have HHk := Lib.hid (HHj.out y e HY.out)
        clear HHj HMj HH HM
        subst e
        go_wp2
        clear xc0 xc1 xc2 xc3 xc4 xc5 u4 r1 r2 cj ck fk
        go_roundw
        case rel => exact ⟨j + 1, by omega, by go_num, Lib.hid (by have h := ZR.out.set y (.bool true); rw [bools_set, boolsF_set, HHk.out] at h; exact h), Lib.hid (XR.out.other (by omega) _ _), Lib.hid (BR.out.setCell (p := ⟨w.heap.size + 1, y, none⟩) (by show _ ≤ w.heap.size + 1; omega) _)⟩
        case measure => simp [intOf]; omega
      · have HMj := Lib.hid (HMj.out e)
        have e1 : (a1 == a2) = false := by simpa using e
        go_wp2
        clear xc0 xc1 xc2 xc3 xc4 xc5 u4 r1 r2 cj ck fk
        go_roundw
        case rel => exact ⟨j + 1, by omega, by go_num, Lib.hid (by rw [← HMj.out]; exact ZR.out), XR, BR⟩
        case measure => simp [intOf]; omega
    · obtain rfl : j = m.facts.length := by omega
      rw [HE.out] at ZR
      go_wp2
      go_ret
      exact ⟨_, rfl, ⟨by rw [bools_len, boolsF_len]; exact own_mono (cm_own ZR.out (by rw [bools_len, boolsF_len]) (by unfold maxLen; omega)) (by omega), fun q hq => by cases hq; exact ZR.out.lt⟩, BR.out⟩

set_option maxRecDepth 100000 in
set_option maxHeartbeats 16000000 in
theorem specEqual_any (lo hi lo2 hi2 : Nat) (v v2 : Value) (n : Nat) (p q : Nat → Bool) (w : World) (hr : Bv lo hi w v (boolsF n p)) (hr2 : Bv lo2 hi2 w v2 (boolsF n q)) (h1 : 1 ≤ n) (hn : n ≤ 16) :
    Calls Try.prog 51 #[v, v2] w fun e w' => e = .returned (.bool (eqN n p q)) ∧ w = w' := by
  obtain ⟨b, o, c, rfl, k1, k2, -, -, -, hc⟩ := hr.cells (by rw [boolsF_len]; omega)
  obtain ⟨b', o', c', rfl, l1, l2, -, -, -, hc'⟩ := hr2.cells (by rw [boolsF_len]; omega)
  rw [boolsF_len] at k1 l1 hc hc' ⊢
  rw [boolsF_len]
  unfold maxLen at k2 l2
  have HC := Lib.hid (fun j (h : j < n) => (hc j h).trans (by rw [boolsF_get h]))
  have HD := Lib.hid (fun j (h : j < n) => (hc' j h).trans (by rw [boolsF_get h]))
  have HT := Lib.hid (fun (h : ∀ x, x < n → p x = q x) => eqN_iff.2 h)
  have HF : Hid (∀ j, j < n → p j ≠ q j → eqN n p q = false) := Lib.hid (fun j h hne => by rw [Bool.eq_false_iff]; intro h2; exact hne (eqN_iff.1 h2 j h))
  clear hr hr2 hc hc'
  generalize eqN n p q = r at *
  go_enter Try.func51, Try.ntmps51
  go_wp2
  go_loop [9] (fun iv => ∃ j : Nat, j ≤ n ∧ iv = .int .i64 j ∧ Hid (∀ x, x < j → p x = q x)) (fun iv => n - (intOf iv).toNat)
  case atStart => exact ⟨0, Nat.zero_le _, rfl, Lib.hid (fun x h => by omega)⟩
  case round =>
    obtain ⟨j, hj, rfl, HJ⟩ := hrel
    by_cases hlt : j < n
    · have hj0 : (0 : Int) ≤ (j : Int) := Int.natCast_nonneg _
      have hjn : (j : Int) < (n : Int) := by omega
      have c1 := HC.out j hlt
      have c2 := HD.out j hlt
      have HFj := Lib.hid (HF.out j hlt)
      have HN : Hid (p j = q j → ∀ x, x < j + 1 → p x = q x) := Lib.hid (fun e x hx => by
        rcases Nat.lt_or_eq_of_le (Nat.le_of_lt_succ hx) with h | h
        · exact HJ.out x h
        · subst h; exact e)
      generalize p j = pj at *
      generalize q j = qj at *
      cases pj <;> cases qj
      all_goals
        first
          | (have HN := Lib.hid (HN.out rfl)
             go_wp2
             go_round
             case rel => exact ⟨j + 1, by omega, by go_num, HN⟩
             case measure => simp [intOf]; omega)
          | (have HFj := Lib.hid (HFj.out (by decide))
             go_wp2
             go_ret
             exact ⟨ret_bool HFj.out.symm, rfl⟩)
    · obtain rfl : j = n := by omega
      have HT := Lib.hid (HT.out HJ.out)
      go_wp2
      go_ret
      exact ⟨ret_bool HT.out.symm, rfl⟩
end Go.Proofs.Ytodjohdbngbpaab

/-
  spec.l06Together: whether two worlds of one class stay together. Condition: the model is valid, the classes are numbers of worlds.
-/
namespace Go.Proofs.Ytodjohdbngbpaab
open Go.RowKit Go.WideShapes
open Go Go.Deep
set_option linter.unusedSimpArgs false

theorem tog_bool {m : Md} {c : List Int} {v w : Nat} (h : c.getD v 0 = c.getD w 0) (h2 : ∀ k, k < m.blocks.length → eqN m.facts.length (setB m c k v) (setB m c k w) = true) : tog m c v w = true := tog_iff.2 ⟨h, fun k hk => eqN_iff.1 (h2 k hk)⟩
theorem tog_no1 {m : Md} {c : List Int} {v w : Nat} (h : c.getD v 0 ≠ c.getD w 0) : tog m c v w = false := by rw [Bool.eq_false_iff]; intro h2; exact h (tog_iff.1 h2).1
theorem tog_no2 {m : Md} {c : List Int} {v w k : Nat} (hk : k < m.blocks.length) (h : eqN m.facts.length (setB m c k v) (setB m c k w) = false) : tog m c v w = false := by
  rw [Bool.eq_false_iff]; intro h2
  rw [eqN_iff.2 ((tog_iff.1 h2).2 k hk)] at h; cases h

set_option maxRecDepth 100000 in
set_option maxHeartbeats 16000000 in
theorem specTogether_any (lo hi lo2 hi2 : Nat) (v v2 : Value) (m : Md) (c : List Int) (x y : Nat) (w : World) (hr : Mv lo hi w v m) (hm : mdOk m = true) (hr2 : Iv lo2 hi2 w v2 c) (hc : inRow m c) (hx : x < m.facts.length) (hy : y < m.facts.length) :
    Calls Try.prog 44 #[v, v2, .int .i64 x, .int .i64 y] w fun e w' => e = .returned (.bool (tog m c x y)) ∧ Below w.heap.size w w' := by
  obtain ⟨p1, p2, p3, p4, p5, -⟩ := mdOk_parts hm
  have KS := Lib.hid (fun k (hk : k < m.blocks.length) i (hi' : i < m.facts.length) W (h : Below w.heap.size w W) => specSet_any lo hi lo2 hi2 v v2 m c k i W (hr.keeps (Keeps.of_all h)) hm (hr2.keeps (Keeps.of_all h)) hc hk hi')
  have KE := Lib.hid (fun lo hi lo2 hi2 v v2 k W h h2 => specEqual_any lo hi lo2 hi2 v v2 m.facts.length (setB m c k x) (setB m c k y) W h h2 p1 p2)
  have HT := Lib.hid (fun h h2 => tog_bool (m := m) (c := c) (v := x) (w := y) h h2)
  have HF1 := Lib.hid (fun h => tog_no1 (m := m) (c := c) (v := x) (w := y) h)
  have HF2 := Lib.hid (fun k hk h => tog_no2 (m := m) (c := c) (v := x) (w := y) (k := k) hk h)
  obtain ⟨fb, fo, fc, bb, bo, bc, rfl, f1, f2, b1, b2, hfb, hbb, hF, hB⟩ := mv_open hr hm
  obtain ⟨cb, co, cc, rfl, c1, c2, hcb, hC⟩ := iv_open hr2 (by rw [hc.1]; omega)
  rw [hc.1] at c1 hC KS ⊢
  unfold maxLen at f2 b2 c2
  have hx0 : (0 : Int) ≤ (x : Int) := Int.natCast_nonneg _
  have hy0 : (0 : Int) ≤ (y : Int) := Int.natCast_nonneg _
  have hxn : (x : Int) < (m.facts.length : Int) := by omega
  have hyn : (y : Int) < (m.facts.length : Int) := by omega
  have hn16 : (m.facts.length : Int) ≤ 16 := by omega
  have HC := Lib.hid hC
  clear hr hm hr2 hc p5 hF hB hC
  obtain ⟨r, hr⟩ : ∃ r, r = tog m c x y := ⟨_, rfl⟩
  rw [← hr] at HT HF1 HF2 ⊢
  clear hr
  go_enter Try.func44, Try.ntmps44
  have x1 : Mcell (w.alloc (.cells #[.slice (some ⟨fb, fo, none⟩) m.facts.length fc, .slice (some ⟨bb, bo, none⟩) m.blocks.length bc, .int .i64 m.actual] 28)) w.heap.size (.slice (some ⟨fb, fo, none⟩) m.facts.length fc) (.slice (some ⟨bb, bo, none⟩) m.blocks.length bc) m.actual := Mcell.new rfl
  have b0 : Below w.heap.size w (w.alloc (.cells #[.slice (some ⟨fb, fo, none⟩) m.facts.length fc, .slice (some ⟨bb, bo, none⟩) m.blocks.length bc, .int .i64 m.actual] 28)) := by go_grown
  have X0 := Lib.hid x1
  have B0 := Lib.hid b0
  clear x1 b0
  go_wp2
  generalize w.alloc (.cells #[.slice (some ⟨fb, fo, none⟩) m.facts.length fc, .slice (some ⟨bb, bo, none⟩) m.blocks.length bc, .int .i64 m.actual] 28) = w1 at *
  have cx := HC.out _ B0.out x hx
  have cy := HC.out _ B0.out y hy
  by_cases e : c.getD x 0 = c.getD y 0
  · have HTk := Lib.hid (HT.out e)
    clear HF1 HT
    rw [e] at cx
    generalize c.getD y 0 = z at *
    go_quiet (fail)
    obtain ⟨xc0, xc1, xc2, xc3, xc4, xc5⟩ := X0.out
    go_wp2
    clear xc0 xc1 xc2 xc3 xc4 xc5 cx cy
    go_loopw [22] (fun iv wr => ∃ k : Nat, k ≤ m.blocks.length ∧ iv = .int .i64 k ∧ Hid (∀ i, i < k → eqN m.facts.length (setB m c i x) (setB m c i y) = true) ∧ Hid (Mcell wr w.heap.size (.slice (some ⟨fb, fo, none⟩) m.facts.length fc) (.slice (some ⟨bb, bo, none⟩) m.blocks.length bc) m.actual) ∧ Hid (Below w.heap.size w wr)) (fun iv _ => m.blocks.length - (intOf iv).toNat)
    case atStart => exact ⟨0, Nat.zero_le _, rfl, Lib.hid (fun i h => by omega), Lib.hid (X0.out.drewN _), Lib.hid (below_drewN' B0.out _)⟩
    case round =>
      clear X0 B0
      obtain ⟨k, hk, rfl, HK, XR, BR⟩ := hrel
      by_cases hlt : k < m.blocks.length
      · have hk0 : (0 : Int) ≤ (k : Int) := Int.natCast_nonneg _
        have hkA : (k : Int) < (m.blocks.length : Int) := by omega
        have K1 := Lib.hid (KS.out k hlt x hx)
        have K2 := Lib.hid (KS.out k hlt y hy)
        have K3 := Lib.hid (fun lo hi lo2 hi2 v v2 W h h2 => KE.out lo hi lo2 hi2 v v2 k W h h2)
        have HFk := Lib.hid (HF2.out k hlt)
        have HKs : Hid (eqN m.facts.length (setB m c k x) (setB m c k y) = true → ∀ i, i < k + 1 → eqN m.facts.length (setB m c i x) (setB m c i y) = true) := Lib.hid (fun e i hi => by
          rcases Nat.lt_or_eq_of_le (Nat.le_of_lt_succ hi) with h | h
          · exact HK.out i h
          · subst h; exact e)
        obtain ⟨s, hs⟩ : ∃ s, s = eqN m.facts.length (setB m c k x) (setB m c k y) := ⟨_, rfl⟩
        rw [← hs] at HFk HKs K3
        clear hs HK
        have HRG : Hid (∀ W, Below wr.heap.size wr W → W.rangeAt w.heap.size 0 [.slice (some ⟨fb, fo, none⟩) m.facts.length fc, .slice (some ⟨bb, bo, none⟩) m.blocks.length bc, .int .i64 m.actual]) := Lib.hid (fun W hW => (XR.out.below hW).range)
        go_wp2
        refine regionL (fun W => Below wr.heap.size wr W) [11] (by kernel_rfl) (Below.refl _ _).drew (fun hHeld => ?_)
        refine takeA (i := 0) (v := .agg #[.slice (some ⟨fb, fo, none⟩) m.facts.length fc, .slice (some ⟨bb, bo, none⟩) m.blocks.length bc, .int .i64 m.actual]) 25 rfl rfl (by kernel_rfl) (by kernel_rfl) (by kernel_rfl) (by kernel_rfl) (fun _ _ _ h => h) (yieldsIf_load_mid (by rfl) 28 _ rfl w.heap.size 0 rfl [.slice (some ⟨fb, fo, none⟩) m.facts.length fc, .slice (some ⟨bb, bo, none⟩) m.blocks.length bc, .int .i64 m.actual] _ HRG.out Try.underlying28 rfl Try.sizeMd) hHeld ?_
        simp only [Act.put, List.setIfInBounds_toArray, List.set_cons_zero, List.set_cons_succ]
        refine takeA (i := 1) (v := .int .i64 k) 26 rfl rfl (by kernel_rfl) (by kernel_rfl) (by kernel_rfl) (by kernel_rfl) (fun _ _ _ h => h) (Or.inl ⟨by rfl, by intro W hSw; go_simp⟩) hHeld ?_
        simp only [Act.put, List.setIfInBounds_toArray, List.set_cons_zero, List.set_cons_succ]
        refine takeA (i := 2) (v := .slice (some ⟨cb, co, none⟩) m.facts.length cc) 27 rfl rfl (by kernel_rfl) (by kernel_rfl) (by kernel_rfl) (by kernel_rfl) (fun _ _ _ h => h) (Or.inl ⟨by rfl, by intro W hSw; go_simp⟩) hHeld ?_
        simp only [Act.put, List.setIfInBounds_toArray, List.set_cons_zero, List.set_cons_succ]
        refine takeA (i := 3) (v := .int .i64 x) 28 rfl rfl (by kernel_rfl) (by kernel_rfl) (by kernel_rfl) (by kernel_rfl) (fun _ _ _ h => h) (Or.inl ⟨by rfl, by intro W hSw; go_simp⟩) hHeld ?_
        simp only [Act.put, List.setIfInBounds_toArray, List.set_cons_zero, List.set_cons_succ]
        refine takeA (i := 5) (v := .agg #[.slice (some ⟨fb, fo, none⟩) m.facts.length fc, .slice (some ⟨bb, bo, none⟩) m.blocks.length bc, .int .i64 m.actual]) 30 rfl rfl (by kernel_rfl) (by kernel_rfl) (by kernel_rfl) (by kernel_rfl) (fun _ _ _ h => h) (yieldsIf_load_mid (by rfl) 28 _ rfl w.heap.size 0 rfl [.slice (some ⟨fb, fo, none⟩) m.facts.length fc, .slice (some ⟨bb, bo, none⟩) m.blocks.length bc, .int .i64 m.actual] _ HRG.out Try.underlying28 rfl Try.sizeMd) hHeld ?_
        simp only [Act.put, List.setIfInBounds_toArray, List.set_cons_zero, List.set_cons_succ]
        refine takeA (i := 6) (v := .int .i64 k) 31 rfl rfl (by kernel_rfl) (by kernel_rfl) (by kernel_rfl) (by kernel_rfl) (fun _ _ _ h => h) (Or.inl ⟨by rfl, by intro W hSw; go_simp⟩) hHeld ?_
        simp only [Act.put, List.setIfInBounds_toArray, List.set_cons_zero, List.set_cons_succ]
        refine takeA (i := 7) (v := .slice (some ⟨cb, co, none⟩) m.facts.length cc) 32 rfl rfl (by kernel_rfl) (by kernel_rfl) (by kernel_rfl) (by kernel_rfl) (fun _ _ _ h => h) (Or.inl ⟨by rfl, by intro W hSw; go_simp⟩) hHeld ?_
        simp only [Act.put, List.setIfInBounds_toArray, List.set_cons_zero, List.set_cons_succ]
        refine takeA (i := 8) (v := .int .i64 y) 33 rfl rfl (by kernel_rfl) (by kernel_rfl) (by kernel_rfl) (by kernel_rfl) (fun _ _ _ h => h) (Or.inl ⟨by rfl, by intro W hSw; go_simp⟩) hHeld ?_
        simp only [Act.put, List.setIfInBounds_toArray, List.set_cons_zero, List.set_cons_succ]
        refine onlyL (i := 4) (by kernel_rfl) rfl (by rfl) (fun K hK => ?_)
        go_simp
        refine (K1.out _ (BR.out.trans (hHeld.mono BR.out.size))).mono ?_
        rintro e w6 ⟨v6, rfl, ho6, hb6⟩
        have t6 : Below wr.heap.size wr w6 := hHeld.trans (hb6.mono hHeld.size)
        have HO6 := Lib.hid ho6
        clear hb6 hHeld ho6
        refine hK.out _ _ (fun _ => t6) (fun hHeld => ?_)
        have hHeld := hHeld (by decide)
        clear hK K
        try simp only [Act.put, List.setIfInBounds_toArray, List.set_cons_zero, List.set_cons_succ]
        refine onlyL (i := 9) (by kernel_rfl) rfl (by rfl) (fun K hK => ?_)
        go_simp
        refine (K2.out _ (BR.out.trans (t6.mono BR.out.size))).mono ?_
        rintro e w7 ⟨v7, rfl, ho7, hb7⟩
        have t7 : Below wr.heap.size wr w7 := t6.trans (hb7.mono t6.size)
        have HO7 := Lib.hid ho7
        have HO67 := Lib.hid (HO6.out.keeps (Keeps.of_all hb7))
        clear hb7 hHeld ho7 HO6 t6
        refine hK.out _ _ (fun _ => t7) (fun hHeld => ?_)
        have hHeld := hHeld (by decide)
        clear hK K
        try simp only [Act.put, List.setIfInBounds_toArray, List.set_cons_zero, List.set_cons_succ]
        refine onlyL (i := 10) (by kernel_rfl) rfl (by rfl) (fun K hK => ?_)
        go_simp
        refine (K3.out _ _ _ _ _ _ _ HO67.out.read HO7.out.read).mono ?_
        rintro e w8 ⟨rfl, rfl⟩
        refine hK.out _ _ (fun _ => t7) (fun hHeld => ?_)
        clear hK K hHeld
        have hHeld := t7
        try simp only [Act.put, List.setIfInBounds_toArray, List.set_cons_zero, List.set_cons_succ]
        refine onlyL (i := 11) (by kernel_rfl) rfl (by rfl) (fun K hK => ?_)
        go_simp
        refine hK.out _ _ (fun h => absurd (by decide) h) (fun _ => ?_)
        clear hK K
        refine doneL (by kernel_rfl) ?_ _
        have X7 := Lib.hid (XR.out.below t7)
        have B7 := Lib.hid (BR.out.trans (t7.mono BR.out.size))
        clear hHeld t7 HO67 HO7 HRG
        cases s with
        | true =>
          have HKn := Lib.hid (HKs.out rfl)
          clear HKs HFk
          go_wp2
          go_roundw
          case rel => exact ⟨k + 1, by omega, by go_num, HKn, X7, B7⟩
          case measure => simp [intOf]; omega
        | false =>
          have HFn := Lib.hid (HFk.out rfl)
          clear HKs HFk
          go_wp2
          go_ret
          exact ⟨ret_bool HFn.out.symm, B7.out⟩
      · obtain rfl : k = m.blocks.length := by omega
        have HTn := Lib.hid (HTk.out HK.out)
        clear HTk HK
        go_wp2
        go_ret
        exact ⟨ret_bool HTn.out.symm, BR.out⟩
  · have HFk := Lib.hid (HF1.out e)
    clear HF1 HF2 HT
    generalize c.getD x 0 = z1 at *
    generalize c.getD y 0 = z2 at *
    have e1 : (z1 == z2) = false := by simpa using e
    go_quiet (fail)
    go_wp2
    go_ret
    exact ⟨ret_bool HFk.out.symm, below_drewN' B0.out _⟩
end Go.Proofs.Ytodjohdbngbpaab

/-
  spec.l06Finer: the next classes. Condition: the model is valid, the classes are numbers of worlds.
-/
namespace Go.Proofs.Ytodjohdbngbpaab
open Go.RowKit Go.WideShapes
open Go Go.Deep
set_option linter.unusedSimpArgs false

theorem numS_pos (l : List Int) : ∀ k j, 0 ≤ (numS l k).1.getD j 0
  | 0, j => by simp [numS]
  | k + 1, j => by
    have ih := numS_pos l k
    have h : ∀ (x : Int), 0 ≤ x → 0 ≤ ((numS l k).1 ++ [x]).getD j 0 := fun x hx => by
      rcases Nat.lt_trichotomy j (numS l k).1.length with h | h | h
      · rw [List.getD_eq_getElem?_getD, List.getElem?_append_left h, ← List.getD_eq_getElem?_getD]; exact ih j
      · subst h; rw [List.getD_eq_getElem?_getD, List.getElem?_append_right (Nat.le_refl _)]; simpa using hx
      · rw [List.getD_eq_getElem?_getD, List.getElem?_eq_none (by simp; omega)]; exact Int.le_refl _
    unfold numS
    split
    · exact h _ (ih _)
    · exact h _ (Int.natCast_nonneg _)
theorem fin_hit {m : Md} {c : List Int} {k : Nat} (hk : k < m.facts.length) (h : rep m c k < k) : numS (repL m c) (k + 1) = ((numS (repL m c) k).1 ++ [(numS (repL m c) k).1.getD (rep m c k) 0], (numS (repL m c) k).2) := by
  rw [numS, repL_idx hk, if_pos h]
theorem fin_new {m : Md} {c : List Int} {k : Nat} (hk : k < m.facts.length) (h : rep m c k = k) : numS (repL m c) (k + 1) = ((numS (repL m c) k).1 ++ [((numS (repL m c) k).2 : Int)], (numS (repL m c) k).2 + 1) := by
  rw [numS, repL_idx hk, if_neg (by omega)]
theorem rep_hit {m : Md} {c : List Int} {j k : Nat} (h : ∀ i, i < j → tog m c i k = false) (ht : tog m c j k = true) : rep m c k = j := by
  have h1 := rep_min ht
  rcases Nat.lt_or_ge (rep m c k) j with h2 | h2
  · have := h _ h2; rw [rep_tog] at this; cases this
  · omega
theorem rep_new {m : Md} {c : List Int} {k : Nat} (h : ∀ i, i < k → tog m c i k = false) : rep m c k = k := rep_hit h (tog_refl m c k)
/-- what the search for a class has found so far -/
def found (m : Md) (c : List Int) (k j : Nat) (kv : Value) : Prop := (kv = .int .i64 (-1) ∧ ∀ i, i < j → tog m c i k = false) ∨ (rep m c k < k ∧ ∃ z : Nat, kv = .int .i64 z ∧ (numS (repL m c) k).1.getD (rep m c k) 0 = (z : Int))

set_option maxRecDepth 100000 in
set_option maxHeartbeats 32000000 in
theorem specFiner_any (lo hi lo2 hi2 : Nat) (v v2 : Value) (m : Md) (c : List Int) (w : World) (hr : Mv lo hi w v m) (hm : mdOk m = true) (hr2 : Iv lo2 hi2 w v2 c) (hc : inRow m c) :
    Calls Try.prog 34 #[v, v2] w (IntsAns w (finer m c)) := by
  obtain ⟨p1, p2, p3, p4, p5, -⟩ := mdOk_parts hm
  have KT := Lib.hid (fun x y (hx : x < m.facts.length) (hy : y < m.facts.length) W (h : Below w.heap.size w W) => specTogether_any lo hi lo2 hi2 v v2 m c x y W (hr.keeps (Keeps.of_all h)) hm (hr2.keeps (Keeps.of_all h)) hc hx hy)
  obtain ⟨fb, fo, fc, bb, bo, bc, rfl, f1, f2, b1, b2, hfb, hbb, hF, hB⟩ := mv_open hr hm
  obtain ⟨cb, co, cc, rfl, c1, c2, hcb, hC⟩ := iv_open hr2 (by rw [hc.1]; omega)
  rw [hc.1] at c1 hC KT ⊢
  unfold maxLen at f2 b2 c2
  have HNL := Lib.hid (numS_len (repL m c))
  have HPO := Lib.hid (numS_pos (repL m c))
  have HIT := Lib.hid (fun k hk h => fin_hit (m := m) (c := c) (k := k) hk h)
  have HNW := Lib.hid (fun k hk h => fin_new (m := m) (c := c) (k := k) hk h)
  have HRH := Lib.hid (fun j k h ht => rep_hit (m := m) (c := c) (j := j) (k := k) h ht)
  have HEN : Hid ((numS (repL m c) m.facts.length).1 = finer m c) := Lib.hid (by unfold finer num; rw [repL_len])
  have hn16 : (m.facts.length : Int) ≤ 16 := by omega
  clear hr hm hr2 hc p5 hF hB hC
  go_enter Try.func34, Try.ntmps34
  have x1 : Mcell (w.alloc (.cells #[.slice (some ⟨fb, fo, none⟩) m.facts.length fc, .slice (some ⟨bb, bo, none⟩) m.blocks.length bc, .int .i64 m.actual] 28)) w.heap.size (.slice (some ⟨fb, fo, none⟩) m.facts.length fc) (.slice (some ⟨bb, bo, none⟩) m.blocks.length bc) m.actual := Mcell.new rfl
  have b0 : Below w.heap.size w (w.alloc (.cells #[.slice (some ⟨fb, fo, none⟩) m.facts.length fc, .slice (some ⟨bb, bo, none⟩) m.blocks.length bc, .int .i64 m.actual] 28)) := by go_grown
  have z0 : (w.alloc (.cells #[.slice (some ⟨fb, fo, none⟩) m.facts.length fc, .slice (some ⟨bb, bo, none⟩) m.blocks.length bc, .int .i64 m.actual] 28)).heap.size = w.heap.size + 1 := by simp
  have X0 := Lib.hid x1
  have B0 := Lib.hid b0
  have Z0 := Lib.hid z0
  clear x1 b0 z0
  go_wp2
  generalize w.alloc (.cells #[.slice (some ⟨fb, fo, none⟩) m.facts.length fc, .slice (some ⟨bb, bo, none⟩) m.blocks.length bc, .int .i64 m.actual] 28) = w1 at *
  have O1 : Hid ((w1.alloc (.cells #[] 3)).ownsRow (w.heap.size + 1) 3 1 (.slice (some ⟨w1.heap.size, 0, none⟩) 0 0) 0 (ints (numS (repL m c) 0).1)) := Lib.hid (World.ownsRow_lit (w := w1) #[] 0 (by rw [Z0.out]; exact Nat.le_refl _) (by decide) rfl)
  rw [Z0.out] at O1
  go_loopw [5, 6, 13] (fun ov qv iv wr => ∃ (k q : Nat) (ov' : Value), k ≤ m.facts.length ∧ ov' = ov ∧ iv = .int .i64 k ∧ qv = .int .i64 q ∧ q ≤ k ∧ Hid (q = (numS (repL m c) k).2) ∧ Hid (wr.ownsRow (w.heap.size + 1) 3 1 ov' k (ints (numS (repL m c) k).1)) ∧ Hid (Mcell wr w.heap.size (.slice (some ⟨fb, fo, none⟩) m.facts.length fc) (.slice (some ⟨bb, bo, none⟩) m.blocks.length bc) m.actual) ∧ Hid (Below w.heap.size w wr)) (fun _ _ iv _ => m.facts.length - (intOf iv).toNat)
  case atStart => exact ⟨0, 0, _, Nat.zero_le _, rfl, rfl, rfl, Nat.le_refl _, Lib.hid rfl, O1, Lib.hid (X0.out.alloc _), Lib.hid (B0.out.alloc (by rw [Z0.out]; omega) _)⟩
  case round =>
    clear O1 X0 B0 Z0
    obtain ⟨k, q, ov, hk, rfl, rfl, rfl, hqk, HQ, OR, XR, BR⟩ := hrel
    by_cases hlt : k < m.facts.length
    · have hk0 : (0 : Int) ≤ (k : Int) := Int.natCast_nonneg _
      have hkn : (k : Int) < (m.facts.length : Int) := by omega
      have KTk := Lib.hid (fun x (hx : x < m.facts.length) => KT.out x k hx hlt)
      have HFH := Lib.hid (fun j => HRH.out j k)
      have HIk := Lib.hid (HIT.out k hlt)
      have HNk := Lib.hid (HNW.out k hlt)
      obtain ⟨va, vc, e0, _, hvm, -⟩ := (Ro.of_own OR.out).read.parts
      rw [ints_len, HNL.out] at e0
      unfold maxLen at hvm
      subst e0
      go_wp2
      go_loopw [8, 9] (fun kv jv wr => ∃ (j : Nat) (kv' : Value), kv' = kv ∧ jv = .int .i64 j ∧ j ≤ k ∧ Hid (found m c k j kv') ∧ Hid (wr.ownsRow (w.heap.size + 1) 3 1 (.slice va k vc) k (ints (numS (repL m c) k).1)) ∧ Hid (Mcell wr w.heap.size (.slice (some ⟨fb, fo, none⟩) m.facts.length fc) (.slice (some ⟨bb, bo, none⟩) m.blocks.length bc) m.actual) ∧ Hid (Below w.heap.size w wr)) (fun _ jv _ => k - (intOf jv).toNat)
      case atStart => exact ⟨0, _, rfl, rfl, Nat.zero_le _, Lib.hid (.inl ⟨rfl, fun i h => by omega⟩), OR, XR, BR⟩
      case round =>
        clear OR XR BR
        obtain ⟨j, kv, rfl, rfl, hj, HF, OR, XR, BR⟩ := hrel
        have hj0 : (0 : Int) ≤ (j : Int) := Int.natCast_nonneg _
        have hwr : w.heap.size < wr.heap.size := XR.out.lt
        have HFO : ∃ f : Prop, Hid (f = found m c k j kv) ∧ f := ⟨_, Lib.hid rfl, HF.out⟩
        clear HF
        obtain ⟨f, HFe, hf⟩ := HFO
        rw [HFe.out] at hf
        clear HFe f
        rcases hf with ⟨rfl, hno⟩ | ⟨hrk, z, rfl, hz⟩
        · by_cases hjk : j < k
          · have hjk' : (j : Int) < (k : Int) := by omega
            have HNO := Lib.hid hno
            have KTj := Lib.hid (KTk.out j (by omega))
            have HFj := Lib.hid (HFH.out j hno)
            clear hno
            obtain ⟨a', cap', e1, _, _, h4⟩ := (Ro.of_own OR.out).read.parts
            rw [ints_len, HNL.out] at e1 h4
            injection e1 with e1 _ e2
            subst e1 e2
            obtain ⟨g, o, rfl, hg1, hg2, hg3, -⟩ := h4 j hjk
            have HCE : Hid (∀ W, Below wr.heap.size wr W → W.cell? ⟨g, o + j, none⟩ = some (.int .i64 ((numS (repL m c) k).1.getD j 0))) := Lib.hid (fun W hW => by
              obtain ⟨g', o', e3, _, _, _, h5⟩ := h4 j hjk
              cases e3
              rw [hW.cell (p := ⟨g, o + j, none⟩) hg3, h5]
              congr 2
              rw [List.getD_eq_getElem?_getD, ints_at (by rw [HNL.out]; exact hjk)]; rfl)
            clear h4
            obtain ⟨z, hz⟩ := Int.eq_ofNat_of_zero_le (HPO.out k j)
            rw [hz] at HCE
            have HZZ := Lib.hid hz
            clear hz
            obtain ⟨t, ht⟩ : ∃ t, t = tog m c j k := ⟨_, rfl⟩
            rw [← ht] at KTj HFj
            have HTT := Lib.hid ht
            clear ht
            obtain ⟨xc0, xc1, xc2, xc3, xc4, xc5⟩ := XR.out
            cases t with
            | true =>
              have HRR := Lib.hid (HFj.out rfl)
              go_wp2_with (go_at_call 44; (with_reducible refine (KTj.out _ BR.out).mono ?_); rintro e w5 ⟨rfl, hb5⟩; have c5 := HCE.out _ hb5; have O5 := Lib.hid (own_below' OR.out hb5); have X5 := Lib.hid (XR.out.below hb5); have B5 := Lib.hid (BR.out.trans (hb5.mono BR.out.size)); clear hb5 xc0 xc1 xc2 xc3 xc4 xc5)
              clear c5
              go_roundw
              case rel => exact ⟨j + 1, _, rfl, by go_num, by omega, Lib.hid (.inr ⟨by rw [HRR.out]; exact hjk, z, rfl, by rw [HRR.out]; exact HZZ.out⟩), O5, X5, B5⟩
              case measure => simp [intOf]; omega
            | false =>
              go_wp2_with (go_at_call 44; (with_reducible refine (KTj.out _ BR.out).mono ?_); rintro e w5 ⟨rfl, hb5⟩; have O5 := Lib.hid (own_below' OR.out hb5); have X5 := Lib.hid (XR.out.below hb5); have B5 := Lib.hid (BR.out.trans (hb5.mono BR.out.size)); clear hb5 xc0 xc1 xc2 xc3 xc4 xc5)
              go_roundw
              case rel => exact ⟨j + 1, _, rfl, by go_num, by omega, Lib.hid (.inl ⟨rfl, fun i hi => by
                rcases Nat.lt_or_eq_of_le (Nat.le_of_lt_succ hi) with h | h
                · exact HNO.out i h
                · subst h; exact HTT.out.symm⟩), O5, X5, B5⟩
              case measure => simp [intOf]; omega
          · obtain rfl : j = k := by omega
            have HE := Lib.hid (HNk.out (rep_new hno))
            clear hno HIk HNk
            go_wp2_with (at_builtin; refine wpList_push rfl _ _ 22 rfl 3 (.int .i64 0) 8 Try.underlying22 Try.infoI rfl (w.heap.size + 1) wr (.int .i64 q) (.slice va j vc) j (ints (numS (repL m c) j).1) OR.out rfl rfl rfl (by unfold maxLen; omega) (by omega) (by omega) ?_; intro v' w4 hown hbp _; have HO4 := Lib.hid hown; have X4 := Lib.hid (XR.out.of_block (hbp.block _ (by omega))); have B4 : Hid (Below w.heap.size w w4) := Lib.hid (BR.out.trans (hbp.mono (by omega))); clear hown hbp)
            go_roundw
            case rel => exact ⟨j + 1, q + 1, v', by omega, rfl, by go_num, by go_num, by omega, Lib.hid (by rw [HE.out, HQ.out]), Lib.hid (by have h := HO4.out; rw [HQ.out] at h; rw [HE.out, ints_app]; exact h), X4, B4⟩
            case measure => simp [intOf]; omega
        · have HE := Lib.hid (HIk.out hrk)
          rw [hz] at HE
          have hz0 : (0 : Int) ≤ (z : Int) := Int.natCast_nonneg _
          clear hz HIk HNk
          by_cases hjk : j < k
          · have hjk' : (j : Int) < (k : Int) := by omega
            go_wp2_with (at_builtin; refine wpList_push rfl _ _ 22 rfl 3 (.int .i64 0) 8 Try.underlying22 Try.infoI rfl (w.heap.size + 1) wr (.int .i64 z) (.slice va k vc) k (ints (numS (repL m c) k).1) OR.out rfl rfl rfl (by unfold maxLen; omega) (by omega) (by omega) ?_; intro v' w4 hown hbp _; have HO4 := Lib.hid hown; have X4 := Lib.hid (XR.out.of_block (hbp.block _ (by omega))); have B4 : Hid (Below w.heap.size w w4) := Lib.hid (BR.out.trans (hbp.mono (by omega))); clear hown hbp)
            go_roundw
            case rel => exact ⟨k + 1, q, v', by omega, rfl, by go_num, rfl, by omega, Lib.hid (by rw [HE.out]; exact HQ.out), Lib.hid (by rw [HE.out, ints_app]; exact HO4.out), X4, B4⟩
            case measure => simp [intOf]; omega
          · obtain rfl : j = k := by omega
            go_wp2_with (at_builtin; refine wpList_push rfl _ _ 22 rfl 3 (.int .i64 0) 8 Try.underlying22 Try.infoI rfl (w.heap.size + 1) wr (.int .i64 z) (.slice va j vc) j (ints (numS (repL m c) j).1) OR.out rfl rfl rfl (by unfold maxLen; omega) (by omega) (by omega) ?_; intro v' w4 hown hbp _; have HO4 := Lib.hid hown; have X4 := Lib.hid (XR.out.of_block (hbp.block _ (by omega))); have B4 : Hid (Below w.heap.size w w4) := Lib.hid (BR.out.trans (hbp.mono (by omega))); clear hown hbp)
            go_roundw
            case rel => exact ⟨j + 1, q, v', by omega, rfl, by go_num, rfl, by omega, Lib.hid (by rw [HE.out]; exact HQ.out), Lib.hid (by rw [HE.out, ints_app]; exact HO4.out), X4, B4⟩
            case measure => simp [intOf]; omega
    · obtain rfl : k = m.facts.length := by omega
      rw [HEN.out] at OR
      go_wp2
      go_ret
      exact ⟨_, rfl, Ro.of_own (own_mono (by have h := OR.out; rwa [show m.facts.length = (ints (finer m c)).length by rw [ints_len, finer_len]] at h) (by omega)), BR.out⟩
end Go.Proofs.Ytodjohdbngbpaab

/-
  spec.l06Steps: the classes of all steps. Condition: the model is valid.
-/
namespace Go.Proofs.Ytodjohdbngbpaab
open Go.RowKit Go.WideShapes
open Go Go.Deep
set_option linter.unusedSimpArgs false

def stepsL (m : Md) (n : Nat) : List (List Int) := (List.range n).map (clsAt m)
theorem stepsL_succ (m : Md) (n : Nat) : stepsL m (n + 1) = stepsL m n ++ [clsAt m n] := by unfold stepsL; rw [List.range_succ, List.map_append]; rfl
theorem stepsL_len (m : Md) (n : Nat) : (stepsL m n).length = n := by simp [stepsL]
theorem stepsL_get {m : Md} {n k : Nat} (h : k < n) : (stepsL m n).getD k [] = clsAt m k := by
  unfold stepsL; rw [List.getD_eq_getElem?_getD, List.getElem?_map, List.getElem?_range h]; rfl
/-- how long a slice is -/
def lenOf' : Value → Nat
  | .slice _ n _ => n
  | _ => 0
/-- one row of a list of lists: where its value lies, what it reads as -/
theorem ioo_row {lo hi : Nat} {w : World} {v : Value} {vs : List Value} {ll : List (List Int)} (h : Ioo lo hi w v vs ll) {k : Nat} (hk : k < ll.length) : ∃ g cap a c, v = .slice (some ⟨g, 0, none⟩) ll.length cap ∧ lo ≤ g ∧ g < w.heap.size ∧ ll.length ≤ cap ∧ cap ≤ maxLen ∧
    vs.getD k (.bool false) = .slice a (ll.getD k []).length c ∧ Iv lo hi w (vs.getD k (.bool false)) (ll.getD k []) ∧ ∀ W, Below w.heap.size w W → W.cell? ⟨g, k, none⟩ = some (vs.getD k (.bool false)) := by
  obtain ⟨r1, r2, -⟩ := h
  have hl := r2.1
  rcases r1.1.2 with ⟨_, h0⟩ | ⟨g, cap, cur, rfl, hb, hg, h1, h2, h3, h4⟩
  · omega
  · have hr := (r2.2 k hk).read
    obtain ⟨a, c, e⟩ := hr.form
    refine ⟨g, cap, a, c, by rw [hl], hb, (Array.getElem?_eq_some_iff.1 hg).1, by omega, h2, e, hr, fun W hW => ?_⟩
    have hc := r1.1.cellAt k (by omega)
    rw [hW.cell (p := ⟨g, k, none⟩) (Array.getElem?_eq_some_iff.1 hg).1, hc, List.getD_eq_getElem?_getD, List.getElem?_eq_getElem (by omega)]; rfl
theorem ioo_one {lo h1 : Nat} {w : World} {u : Value} {l : List Int} (hu : Io lo h1 w u l) (h1s : h1 ≤ w.heap.size) (hlo : lo ≤ w.heap.size) (h1c : u.oneCell' = true) : Ioo lo (w.alloc (.cells #[u] 22)).heap.size (w.alloc (.cells #[u] 22)) (.slice (some ⟨w.heap.size, 0, none⟩) 1 1) [u] [l] := by
  have hb : Below w.heap.size w (w.alloc (.cells #[u] 22)) := by go_grown
  have h2 : Ro lo (w.alloc (.cells #[u] 22)).heap.size (w.alloc (.cells #[u] 22)) 22 (.slice (some ⟨w.heap.size, 0, none⟩) 1 1) [u] := ⟨World.ownsRow_lit (w := w) #[u] 1 hlo (by decide) rfl, fun q hq => by cases hq; simp⟩
  refine ⟨h2, ⟨rfl, fun j hj => ?_⟩, ?_⟩
  · have hj0 : j = 0 := by simpa using hj
    subst hj0
    exact (hu.keeps (Keeps.of_all hb)).wide (Nat.le_refl _) (by have := hb.size; omega)
  · refine List.pairwise_cons.2 ⟨fun x hx => ?_, List.pairwise_singleton _ _⟩
    simp only [List.mem_singleton] at hx
    subst hx
    exact apart_symm (apart_lt (B := w.heap.size) (fun q hq => by have := hu.2 q hq; omega) (fun q hq => by cases hq; exact Nat.le_refl _))

set_option maxRecDepth 100000 in
set_option maxHeartbeats 32000000 in
theorem specSteps_any (lo hi : Nat) (v : Value) (m : Md) (w : World) (hr : Mv lo hi w v m) (hm : mdOk m = true) :
    Calls Try.prog 22 #[v] w fun e w' => ∃ v' vs, e = .returned v' ∧ Ioo w.heap.size w'.heap.size w' v' vs (stepsL m (stab m + 1)) ∧ Below w.heap.size w w' := by
  obtain ⟨p1, p2, p3, p4, p5, -⟩ := mdOk_parts hm
  have KF := Lib.hid (fun k lo2 hi2 v2 W (h : Below w.heap.size w W) (h2 : Iv lo2 hi2 W v2 (clsAt m k)) => specFiner_any lo hi lo2 hi2 v v2 m (clsAt m k) W (hr.keeps (Keeps.of_all h)) hm h2 (clsAt_row k))
  have KN := Lib.hid (fun (fv bv : Value) (e : v = .agg #[fv, bv, .int .i64 m.actual]) W (h : Below w.heap.size w W) => (show Calls Try.prog 33 #[fv] W (IntsAns W (clsAt m 0)) by
    obtain ⟨fv', bv', e', hf, _⟩ := hr
    rw [e] at e'
    simp only [Value.agg.injEq, Array.mk.injEq, List.cons.injEq] at e'
    obtain ⟨rfl, rfl, _⟩ := e'
    exact specNumber_any lo hi fv m.facts W (hf.keeps (Keeps.of_all h)) (by omega)))
  obtain ⟨fb, fo, fc, bb, bo, bc, rfl, f1, f2, b1, b2, hfb, hbb, hF, hB⟩ := mv_open hr hm
  have KN := Lib.hid (KN.out _ _ rfl)
  unfold maxLen at f2 b2
  have HCL := Lib.hid (clsAt_len m)
  have HSL := Lib.hid (stepsL_len m)
  have HSS := Lib.hid (stepsL_succ m)
  have HEN := Lib.hid (fun j h => clsAt_ends (m := m) p1 (j := j) h)
  have HST := Lib.hid (fun j h hs => stab_at (m := m) p1 (j := j) h hs)
  have hn16 : (m.facts.length : Int) ≤ 16 := by omega
  clear hr hm p5 hF hB
  go_enter Try.func22, Try.ntmps22
  have x1 : Mcell (w.alloc (.cells #[.slice (some ⟨fb, fo, none⟩) m.facts.length fc, .slice (some ⟨bb, bo, none⟩) m.blocks.length bc, .int .i64 m.actual] 28)) w.heap.size (.slice (some ⟨fb, fo, none⟩) m.facts.length fc) (.slice (some ⟨bb, bo, none⟩) m.blocks.length bc) m.actual := Mcell.new rfl
  have b0 : Below w.heap.size w (w.alloc (.cells #[.slice (some ⟨fb, fo, none⟩) m.facts.length fc, .slice (some ⟨bb, bo, none⟩) m.blocks.length bc, .int .i64 m.actual] 28)) := by go_grown
  have X0 := Lib.hid x1
  have B0 := Lib.hid b0
  clear x1 b0
  go_wp2_with fail
  refine (KN.out _ B0.out).mono ?_
  rintro e w1 ⟨v1, rfl, ho1, hb1⟩
  have X1 := Lib.hid (X0.out.below hb1)
  have B1 := Lib.hid (B0.out.trans (hb1.mono B0.out.size))
  have O1 := Lib.hid ho1
  have lt1 : w.heap.size < w1.heap.size := X1.out.lt
  have lt0 : w.heap.size + 1 ≤ w1.heap.size := by omega
  obtain ⟨a1, c1, e1⟩ := ho1.form
  rw [HCL.out] at e1
  subst e1
  clear ho1 hb1 X0 B0
  go_wp2
  have I2 : Hid (Ioo (w.heap.size + 1) (w1.alloc (.cells #[.slice a1 m.facts.length c1] 22)).heap.size (w1.alloc (.cells #[.slice a1 m.facts.length c1] 22)) (.slice (some ⟨w1.heap.size, 0, none⟩) 1 1) [.slice a1 m.facts.length c1] (stepsL m 1)) := Lib.hid (ioo_one (l := clsAt m 0) (h1 := w1.heap.size) (O1.out.wide (by simp) (Nat.le_refl _)) (Nat.le_refl _) (by omega) rfl)
  go_loopw [3] (fun ov wr => ∃ (k : Nat) (ov' : Value) (vs : List Value), ov' = ov ∧ k + 1 ≤ m.facts.length ∧ Hid (∀ i, i < k → clsAt m (i + 1) ≠ clsAt m i) ∧ Hid (Ioo (w.heap.size + 1) wr.heap.size wr ov' vs (stepsL m (k + 1))) ∧ Hid (Mcell wr w.heap.size (.slice (some ⟨fb, fo, none⟩) m.facts.length fc) (.slice (some ⟨bb, bo, none⟩) m.blocks.length bc) m.actual) ∧ Hid (Below w.heap.size w wr)) (fun ov _ => 17 - lenOf' ov)
  case atStart => exact ⟨0, _, _, rfl, p1, Lib.hid (fun i h => by omega), I2, Lib.hid (X1.out.alloc _), Lib.hid (B1.out.alloc B1.out.size _)⟩
  case round =>
    clear I2 X1 B1 O1
    obtain ⟨k, ov, vs, rfl, hk, HNE, OR, XR, BR⟩ := hrel
    have ltr : w.heap.size < wr.heap.size := XR.out.lt
    obtain ⟨g, cap, ra, rc, rfl, hg1, hg2, hg3, hg4, hru, hri, hrc⟩ := ioo_row OR.out (k := k) (by rw [HSL.out]; omega)
    rw [HSL.out] at hg3 OR ⊢
    rw [stepsL_get (by omega)] at hru hri
    rw [HCL.out] at hru
    rw [hru] at hri hrc
    have HVL : Hid (vs.length = k + 1) := Lib.hid (by have := OR.out.2.1.1; rw [HSL.out] at this; exact this)
    have HRI := Lib.hid hri
    have HRC := Lib.hid hrc
    clear hri hrc hru
    unfold maxLen at hg4
    have hk0 : (0 : Int) ≤ (k : Int) := Int.natCast_nonneg _
    have hk16 : (k : Int) < 16 := by omega
    have wr1 : IntKind.i64.wrap (k : Int) = (k : Int) := IntWalk.i64_in _ (by omega)
    have KFk := Lib.hid (fun W (h : Below w.heap.size w W) (h2 : Below wr.heap.size wr W) => KF.out k _ _ _ W h (HRI.out.keeps (Keeps.of_all h2)))
    have HRG : Hid (∀ W, Below wr.heap.size wr W → W.rangeAt w.heap.size 0 [.slice (some ⟨fb, fo, none⟩) m.facts.length fc, .slice (some ⟨bb, bo, none⟩) m.blocks.length bc, .int .i64 m.actual]) := Lib.hid (fun W hW => (XR.out.below hW).range)
    go_wp2
    refine regionL (fun W => Below wr.heap.size wr W) [8] (by kernel_rfl) (Below.refl _ _).drew (fun hHeld => ?_)
    refine takeA (i := 0) (v := .agg #[.slice (some ⟨fb, fo, none⟩) m.facts.length fc, .slice (some ⟨bb, bo, none⟩) m.blocks.length bc, .int .i64 m.actual]) 9 rfl rfl (by kernel_rfl) (by kernel_rfl) (by kernel_rfl) (by kernel_rfl) (fun _ _ _ h => h) (yieldsIf_load_mid (by rfl) 28 _ rfl w.heap.size 0 rfl [.slice (some ⟨fb, fo, none⟩) m.facts.length fc, .slice (some ⟨bb, bo, none⟩) m.blocks.length bc, .int .i64 m.actual] _ HRG.out Try.underlying28 rfl Try.sizeMd) hHeld ?_
    simp only [Act.put, List.setIfInBounds_toArray, List.set_cons_zero, List.set_cons_succ]
    refine takeA (i := 1) (v := .slice (some ⟨g, 0, none⟩) (k + 1) cap) 10 rfl rfl (by kernel_rfl) (by kernel_rfl) (by kernel_rfl) (by kernel_rfl) (fun _ _ _ h => h) (Or.inl ⟨by rfl, by intro W hSw; go_simp⟩) hHeld ?_
    simp only [Act.put, List.setIfInBounds_toArray, List.set_cons_zero, List.set_cons_succ]
    refine takeA (i := 2) (v := .slice (some ⟨g, 0, none⟩) (k + 1) cap) 11 rfl rfl (by kernel_rfl) (by kernel_rfl) (by kernel_rfl) (by kernel_rfl) (fun _ _ _ h => h) (Or.inl ⟨by rfl, by intro W hSw; go_simp⟩) hHeld ?_
    simp only [Act.put, List.setIfInBounds_toArray, List.set_cons_zero, List.set_cons_succ]
    refine takeA (i := 3) (v := .int .i64 ((k + 1 : Nat) : Int)) 12 rfl rfl (by kernel_rfl) (by kernel_rfl) (by kernel_rfl) (by kernel_rfl) (fun _ _ _ h => h) (Or.inl ⟨by rfl, by intro W hSw; go_simp⟩) hHeld ?_
    simp only [Act.put, List.setIfInBounds_toArray, List.set_cons_zero, List.set_cons_succ]
    refine takeA (i := 4) (v := .int .i64 k) 13 rfl rfl (by kernel_rfl) (by kernel_rfl) (by kernel_rfl) (by kernel_rfl) (fun _ _ _ h => h) (Or.inl ⟨by rfl, by intro W hSw; go_simp⟩) hHeld ?_
    simp only [Act.put, List.setIfInBounds_toArray, List.set_cons_zero, List.set_cons_succ]
    refine takeA (i := 5) (v := .pointer (some ⟨g, k, none⟩)) 14 rfl rfl (by kernel_rfl) (by kernel_rfl) (by kernel_rfl) (by kernel_rfl) (fun _ _ _ h => h) (Or.inl ⟨by rfl, by intro W hSw; go_simp; intro h; exact absurd h (by omega)⟩) hHeld ?_
    simp only [Act.put, List.setIfInBounds_toArray, List.set_cons_zero, List.set_cons_succ]
    refine takeA (i := 6) (v := .slice ra m.facts.length rc) 15 rfl rfl (by kernel_rfl) (by kernel_rfl) (by kernel_rfl) (by kernel_rfl) (fun _ _ _ h => h) (Or.inl ⟨by rfl, by intro W hSw; have c1 := HRC.out _ hSw; go_simp⟩) hHeld ?_
    simp only [Act.put, List.setIfInBounds_toArray, List.set_cons_zero, List.set_cons_succ]
    refine onlyL (i := 7) (by kernel_rfl) rfl (by rfl) (fun K hK => ?_)
    go_simp
    refine (KFk.out _ (BR.out.trans (hHeld.mono BR.out.size)) hHeld).mono ?_
    rintro e w6 ⟨v6, rfl, ho6, hb6⟩
    have hz6 : wr.heap.size ≤ w6.heap.size := Nat.le_trans hHeld.size hb6.size
    have t6 : Below wr.heap.size wr w6 := hHeld.trans (hb6.mono hHeld.size)
    have HO6 : Hid (Io wr.heap.size w6.heap.size w6 v6 (clsAt m (k + 1))) := Lib.hid (ho6.wide hHeld.size (Nat.le_refl _))
    clear hb6 hHeld ho6
    refine hK.out _ _ (fun _ => t6) (fun hHeld => ?_)
    clear hK K hHeld
    try simp only [Act.put, List.setIfInBounds_toArray, List.set_cons_zero, List.set_cons_succ]
    have hHeld := t6
    refine onlyL (i := 8) (by kernel_rfl) rfl (by rfl) (fun K hK => ?_)
    go_simp
    refine hK.out _ _ (fun h => absurd (by decide) h) (fun _ => ?_)
    clear hK K hHeld
    refine doneL (by kernel_rfl) ?_ _
    have O6 := Lib.hid (OR.out.keeps (Keeps.of_all t6))
    have X6 := Lib.hid (XR.out.below t6)
    have B6 := Lib.hid (BR.out.trans (t6.mono BR.out.size))
    have R6 := Lib.hid (HRI.out.keeps (Keeps.of_all t6))
    have c6 := HRC.out _ t6
    obtain ⟨va, vc, e6⟩ := HO6.out.form
    rw [HCL.out] at e6
    subst e6
    have KSM := Lib.hid (specSameL_any _ _ _ _ _ _ _ _ _ HO6.out.read R6.out)
    clear t6 KFk HRG HRC HRI OR XR BR
    by_cases hcc : clsAt m (k + 1) = clsAt m k
    · have HS := Lib.hid (HST.out k HNE.out hcc)
      rw [decide_eq_true hcc] at KSM
      clear hcc
      go_wp2_with (go_at_call 35; (with_reducible refine KSM.out.mono ?_); rintro e w7 ⟨rfl, rfl⟩)
      go_ret
      rw [HS.out]
      exact ⟨_, vs, rfl, Ioo.wide (lo' := w.heap.size) (hi' := w6.heap.size) O6.out (by omega) hz6, B6.out⟩
    · have HN2 : Hid (∀ i, i < k + 1 → clsAt m (i + 1) ≠ clsAt m i) := Lib.hid (fun i h => by
        rcases Nat.lt_or_eq_of_le (Nat.le_of_lt_succ h) with h1 | h1
        · exact HNE.out i h1
        · subst h1; exact hcc)
      rw [decide_eq_false hcc] at KSM
      have hk2 := HEN.out (k + 1) HN2.out
      have hown6 := Lib.hid (show w6.ownsRow (w.heap.size + 1) 22 1 (.slice (some ⟨g, 0, none⟩) (k + 1) cap) (k + 1) vs from by have h := O6.out.1.1; rwa [HVL.out] at h)
      clear hcc
      go_wp2_with
        (first
          | (go_at_call 35; (with_reducible refine KSM.out.mono ?_); rintro e w7 ⟨rfl, rfl⟩)
          | (at_builtin; refine wpList_pushL rfl (.tmp 26) (.tmp 28) 23 29 rfl rfl 22 (.slice none 0 0) 24 Try.underlying23 Try.infoL rfl (w.heap.size + 1) (.slice va m.facts.length vc) (.slice (some ⟨g, 0, none⟩) (k + 1) cap) (k + 1) vs hown6.out rfl w6.heap.size rfl rfl rfl (by unfold maxLen; omega) (by omega) (by omega) ?_
             intro v8 w8 hown8 hg8
             have O8 := Lib.hid (Ioo.push O6.out HO6.out (Nat.le_refl _) hz6 (by omega) hown8 hg8)
             rw [← HSS.out] at O8
             have X8 := Lib.hid (X6.out.of_block (hg8.block (by omega) (by simp [Value.ownBlock]; omega)))
             have B8 : Hid (Below w.heap.size w w8) := Lib.hid (B6.out.trans ((hg8.below (base := w.heap.size + 1) (by omega) (fun q hq => by cases hq; exact hg1)).mono (by omega)))
             have HL8 : Hid (lenOf' v8 = k + 2) := Lib.hid (by obtain ⟨a8, c8, e8⟩ := O8.out.1.form; rw [e8]; simp [lenOf', HVL.out])
             clear hown8 hg8))
      clear c6
      go_roundw
      case rel => exact ⟨k + 1, _, _, rfl, by omega, HN2, O8, X8, B8⟩
      case measure => rw [HL8.out]; simp [lenOf']; omega
end Go.Proofs.Ytodjohdbngbpaab

/-
  spec.l06Classes and spec.ClassesOf. No condition but the readings.
-/
namespace Go.Proofs.Ytodjohdbngbpaab
open Go.RowKit Go.WideShapes
open Go Go.Deep
set_option linter.unusedSimpArgs false

theorem classR_lastLen (m : Md) : (lastC m).length = m.facts.length := clsAt_len m _
set_option maxRecDepth 100000 in
set_option maxHeartbeats 16000000 in
theorem specLast_any (lo hi : Nat) (v : Value) (m : Md) (w : World) (hr : Mv lo hi w v m) (hm : mdOk m = true) :
    Calls Try.prog 12 #[v] w (IntsAns w (lastC m)) := by
  obtain ⟨p1, p2, p3, p4, p5, -⟩ := mdOk_parts hm
  have KS := Lib.hid (fun W (h : Below w.heap.size w W) => specSteps_any lo hi v m W (hr.keeps (Keeps.of_all h)) hm)
  obtain ⟨fb, fo, fc, bb, bo, bc, rfl, f1, f2, b1, b2, hfb, hbb, hF, hB⟩ := mv_open hr hm
  unfold maxLen at f2 b2
  have HLC : Hid (clsAt m (stab m) = lastC m) := Lib.hid rfl
  have HSL := Lib.hid (stepsL_len m)
  have HCL := Lib.hid (clsAt_len m)
  have hst : stab m + 1 ≤ 17 := by
    unfold stab
    cases hf : (List.range m.facts.length).find? fun j => decide (clsAt m (j + 1) = clsAt m j) with
    | none => simp
    | some j => have := List.mem_range.1 (List.mem_of_find?_eq_some hf); simp; omega
  clear hr hm p5 hF hB
  generalize hst' : stab m = s at *
  clear hst'
  have s0 : (0 : Int) ≤ (s : Int) := Int.natCast_nonneg _
  have wr1 : IntKind.i64.wrap (s : Int) = (s : Int) := IntWalk.i64_in _ (by omega)
  go_enter Try.func12, Try.ntmps12
  have b0 : Below w.heap.size w (w.alloc (.cells #[.slice (some ⟨fb, fo, none⟩) m.facts.length fc, .slice (some ⟨bb, bo, none⟩) m.blocks.length bc, .int .i64 m.actual] 28)) := by go_grown
  have B0 := Lib.hid b0
  clear b0
  go_wp2_with fail
  refine (KS.out _ B0.out).mono ?_
  rintro e w1 ⟨v1, vs, rfl, ho1, hb1⟩
  obtain ⟨g, cap, ra, rc, rfl, hg1, hg2, hg3, hg4, hru, hri, hrc⟩ := ioo_row ho1 (k := s) (by rw [HSL.out]; omega)
  rw [HSL.out] at hg3 ho1 ⊢
  have hrow := ho1.2.1.2 s (by rw [HSL.out]; omega)
  rw [stepsL_get (by omega)] at hru hri hrow
  rw [HCL.out] at hru
  rw [hru] at hrc hrow
  rw [HLC.out] at hrow
  have c1 := hrc w1 (Below.refl _ _)
  have HO := Lib.hid hrow
  have B1 := Lib.hid (B0.out.trans (hb1.mono B0.out.size))
  have hz0 : w.heap.size ≤ (w.alloc (.cells #[.slice (some ⟨fb, fo, none⟩) m.facts.length fc, .slice (some ⟨bb, bo, none⟩) m.blocks.length bc, .int .i64 m.actual] 28)).heap.size := by simp
  unfold maxLen at hg4
  clear hru hri hrc hrow ho1 hb1
  go_wp2
  go_ret
  exact ⟨_, rfl, HO.out.wide hz0 (Nat.le_refl _), B1.out⟩

end Go.Proofs.Ytodjohdbngbpaab
