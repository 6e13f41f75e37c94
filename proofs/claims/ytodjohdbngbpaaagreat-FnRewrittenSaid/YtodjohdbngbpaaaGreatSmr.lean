/-
  The rules by which formulas are shortened: impl.withoutTwoNegations, withoutTruth, withoutRepetition, withoutKnownTruth. Conditions: the formula is linked; for the third one its parts are well formed and have at most 40 nodes.
-/
import Derived.Test.YtodjohdbngbpaaaGreatZLnk
import Derived.Test.YtodjohdbngbpaaaGreatZRwm
import Derived.BigQuiet
namespace Go.Proofs.YtodjohdbngbpaaaGreat
open Go.RowKit Go.WideShapes
open Go Go.Deep
set_option linter.unusedSimpArgs false

def rule1 : Tm → Option Tm
  | .deny (.deny c) => some c
  | _ => none
def rule2 : Tm → Option Tm
  | .joint op x y => if op = 4 then (if y.op = 2 then some x else if x.op = 2 then some y else none) else none
  | _ => none
def rule3 : Tm → Option Tm
  | .joint op x y => if op = 4 then (if txt x = txt y then some x else none) else none
  | _ => none
def rule4 : Tm → Option Tm
  | .know _ _ x => if x.op = 2 then some x else none
  | _ => none
/-- what is left of a formula -/
def ruleAll (t : Tm) : Tm := match rule1 t with
  | some r => r
  | none => match rule2 t with
    | some r => r
    | none => match rule3 t with
      | some r => r
      | none => match rule4 t with
        | some r => r
        | none => t
theorem top_op {t : Tm} (h : t.wf) : isTopT t = decide (t.op = 2) := by
  cases t with
  | leaf op n => rfl
  | deny a => rfl
  | know op n a => exact (decide_eq_false (by have := h.1; show ¬ op = 2; omega)).symm
  | joint op a b => exact (decide_eq_false (by have := h.1; show ¬ op = 2; omega)).symm
theorem simp_step {op n : Int} {a b : Tm} (h1 : 1 ≤ op) (h2 : op ≤ 9) (ha : 1 ≤ usesI op → a.wf) (hb : usesI op = 2 → b.wf) : simpT (mkTm op n a b) = ruleAll (mkTm op n (simpT a) (simpT b)) := by
  rcases op_kinds h1 h2 with ⟨ho, hu⟩ | ⟨ho, hu⟩ | ⟨ho, hu⟩ | ⟨ho, hu⟩
  · rw [mkTm_leaf ho, mkTm_leaf ho]; rfl
  · subst ho
    rw [mkTm_deny, mkTm_deny]
    show unDeny (simpT a) = _
    cases simpT a <;> rfl
  · rw [mkTm_know ho, mkTm_know ho]
    have hw := (simp_wf a (ha (by omega))).1
    show (if isTopT (simpT a) then Tm.leaf 2 0 else Tm.know op n (simpT a)) = _
    show _ = (match rule4 (.know op n (simpT a)) with | some r => r | none => .know op n (simpT a))
    show _ = (match (if (simpT a).op = 2 then some (simpT a) else none) with | some r => r | none => .know op n (simpT a))
    rw [top_op hw]
    by_cases h : (simpT a).op = 2
    · rw [if_pos (decide_eq_true h), if_pos h]
      exact (top_eq hw (by rw [top_op hw]; exact decide_eq_true h)).symm
    · rw [if_neg (by simpa using h), if_neg h]
  · have hwa := (simp_wf a (ha (by omega))).1
    have hwb := (simp_wf b (hb hu)).1
    rw [mkTm_joint ho, mkTm_joint ho]
    show (if op = 4 then simpAnd (simpT a) (simpT b) else .joint op (simpT a) (simpT b)) = _
    rcases ho with rfl | rfl
    · rw [if_pos rfl]
      unfold simpAnd
      rw [top_op hwa, top_op hwb]
      unfold ruleAll
      simp only [rule1, rule2, rule3, rule4, if_true]
      by_cases hy : (simpT b).op = 2
      · rw [decide_eq_true hy]; simp [hy]
      · rw [decide_eq_false hy]
        by_cases hx : (simpT a).op = 2
        · rw [decide_eq_true hx]; simp [hx, hy]
        · rw [decide_eq_false hx]
          by_cases ht : txt (simpT a) = txt (simpT b)
          · simp [hx, hy, ht]
          · simp [hx, hy, ht]
    · rw [if_neg (by decide)]; rfl
theorem str_beq (l r : List UInt8) : ((str l).toList == (str r).toList) = decide (l = r) := by
  have h : ∀ l : List UInt8, (str l).toList = l := fun l => by rw [ByteArray.toList_eq]; simp [str]
  rw [h, h, Bool.eq_iff_iff, beq_iff_eq, decide_eq_true_iff]
theorem rule1_ne {t : Tm} (h : ¬ t.op = 3) : rule1 t = none := by
  cases t with
  | deny a => exact absurd rfl h
  | leaf op n => rfl
  | know op n a => rfl
  | joint op a b => rfl
theorem LkOpt.nil {lo : Nat} {w w' : World} (hb : Below w.heap.size w w') : LkOpt lo w none (.returned (.pointer none)) w' := ⟨rfl, hb⟩
theorem LkOpt.ptr {lo : Nat} {w w' : World} {t : Tm} {b : Nat} (hl : Lk lo w' t (.pointer (some ⟨b, 0, none⟩))) (hb : Below w.heap.size w w') : LkOpt lo w (some t) (.returned (.pointer (some ⟨b, 0, none⟩))) w' := ⟨b, rfl, hl, hb⟩

set_option maxHeartbeats 4000000 in
theorem rule1_any (lo : Nat) (t : Tm) (v : Value) (w : World) (h : Lk lo w t v) (ho : t.ops) :
    Calls Tryz.prog 126 #[v] w (LkOpt lo w (rule1 t)) := by
  by_cases h3 : t.op = 3
  · cases t with
    | leaf op n => have h1 : op = 1 ∨ op = 2 := ho; have h2 : op = 3 := h3; omega
    | know op n a => have h1 := ho.1; have h2 : op = 3 := h3; omega
    | joint op a b => have h1 := ho.1; have h2 : op = 3 := h3; omega
    | deny a =>
      obtain ⟨b, g, o, c, u, rfl, hbl, hgl, hc1, hc2, hcs, hu⟩ := h.part1 (a := a) rfl
      unfold maxLen at hc2
      obtain ⟨c0, c1, c2, c3⟩ := hcs w (Below.refl _ _)
      rw [show (Tm.deny a).op = 3 from rfl] at c0
      by_cases ha : a.op = 3
      · cases a with
        | leaf op n => have h1 : op = 1 ∨ op = 2 := ho; have h2 : op = 3 := ha; omega
        | know op n x => have h1 := (show (Tm.know op n x).ops from ho).1; have h2 : op = 3 := ha; omega
        | joint op x y => have h1 := (show (Tm.joint op x y).ops from ho).1; have h2 : op = 3 := ha; omega
        | deny x =>
          obtain ⟨b', g', o', c', u', rfl, hbl', hgl', hc1', hc2', hcs', hu'⟩ := hu.part1 (a := x) rfl
          unfold maxLen at hc2'
          obtain ⟨d0, d1, d2, d3⟩ := hcs' w (Below.refl _ _)
          rw [show (Tm.deny x).op = 3 from rfl] at d0
          obtain ⟨bx, rfl, -⟩ := hu'.ptr
          have HL := Lib.hid hu'
          rw [show rule1 (.deny (.deny x)) = some x from rfl]
          clear hcs hcs' h hu hu' ho h3 ha c1 d1
          go_enter Tryz.func126, Tryz.ntmps126
          go_wp2
          go_ret
          exact LkOpt.ptr HL.out (Below.refl _ _)
      · obtain ⟨b', sl', rfl, hbl', hcs', -⟩ := hu.cells
        have d0 := (hcs' w (Below.refl _ _)).1
        have hne : (a.op == 3) = false := by simpa using ha
        rw [show rule1 (.deny a) = none by cases a with | deny x => exact absurd rfl ha | leaf op n => rfl | know op n x => rfl | joint op x y => rfl]
        clear hcs hcs' h hu ho h3 ha c1
        generalize a.op = z at *
        go_enter Tryz.func126, Tryz.ntmps126
        go_wp2
        go_ret
        exact LkOpt.nil (Below.refl _ _)
  · obtain ⟨b, sl, rfl, hbl, hcs, -⟩ := h.cells
    have c0 := (hcs w (Below.refl _ _)).1
    have hne : (t.op == 3) = false := by simpa using h3
    rw [rule1_ne h3]
    clear hcs h ho h3
    generalize t.op = z at *
    go_enter Tryz.func126, Tryz.ntmps126
    go_wp2
    go_ret
    exact LkOpt.nil (Below.refl _ _)

set_option maxHeartbeats 4000000 in
theorem rule2_any (lo : Nat) (t : Tm) (v : Value) (w : World) (h : Lk lo w t v) (ho : t.ops) :
    Calls Tryz.prog 127 #[v] w (LkOpt lo w (rule2 t)) := by
  by_cases h4 : t.op = 4
  · cases t with
    | leaf op n => have h1 : op = 1 ∨ op = 2 := ho; have h2 : op = 4 := h4; omega
    | know op n a => have h1 := ho.1; have h2 : op = 4 := h4; omega
    | deny a => have h2 : (3 : Int) = 4 := h4; omega
    | joint op x y =>
      obtain rfl : op = 4 := h4
      obtain ⟨b, g, o, c, u, u', rfl, hbl, hgl, hc1, hc2, hcs, hu, hu'⟩ := h.part2 (a := x) (a' := y) rfl
      unfold maxLen at hc2
      obtain ⟨c0, c1, c2, c3, c4⟩ := hcs w (Below.refl _ _)
      rw [show (Tm.joint 4 x y).op = 4 from rfl] at c0
      obtain ⟨bx, slx, rfl, hbx, hcx, -⟩ := hu.cells
      obtain ⟨by', sly, rfl, hby, hcy, -⟩ := hu'.cells
      have d0 := (hcx w (Below.refl _ _)).1
      have e0 := (hcy w (Below.refl _ _)).1
      have HX := Lib.hid hu
      have HY := Lib.hid hu'
      rw [show rule2 (.joint 4 x y) = (if y.op = 2 then some x else if x.op = 2 then some y else none) by simp only [rule2, if_true]]
      clear hcs hcx hcy h hu hu' ho c1
      by_cases hy : y.op = 2
      · rw [if_pos hy]
        rw [hy] at e0
        clear hy
        go_enter Tryz.func127, Tryz.ntmps127
        go_wp2
        go_ret
        exact LkOpt.ptr HX.out (Below.refl _ _)
      · rw [if_neg hy]
        have hy' : (y.op == 2) = false := by simpa using hy
        clear hy
        by_cases hx : x.op = 2
        · rw [if_pos hx]
          rw [hx] at d0
          clear hx
          generalize y.op = z at *
          go_enter Tryz.func127, Tryz.ntmps127
          go_wp2
          go_ret
          exact LkOpt.ptr HY.out (Below.refl _ _)
        · rw [if_neg hx]
          have hx' : (x.op == 2) = false := by simpa using hx
          clear hx
          generalize y.op = z at *
          generalize x.op = z' at *
          go_enter Tryz.func127, Tryz.ntmps127
          go_wp2
          go_ret
          exact LkOpt.nil (Below.refl _ _)
  · obtain ⟨b, sl, rfl, hbl, hcs, -⟩ := h.cells
    have c0 := (hcs w (Below.refl _ _)).1
    have hne : (t.op == 4) = false := by simpa using h4
    rw [show rule2 t = none by cases t with | joint op x y => (simp only [rule2]; exact if_neg h4) | leaf op n => rfl | know op n x => rfl | deny x => rfl]
    clear hcs h ho h4
    generalize t.op = z at *
    go_enter Tryz.func127, Tryz.ntmps127
    go_wp2
    go_ret
    exact LkOpt.nil (Below.refl _ _)

set_option maxHeartbeats 4000000 in
theorem rule4_any (lo : Nat) (t : Tm) (v : Value) (w : World) (h : Lk lo w t v) (ho : t.ops) :
    Calls Tryz.prog 129 #[v] w (LkOpt lo w (rule4 t)) := by
  by_cases h5 : t.op = 5 ∨ t.op = 6 ∨ t.op = 7 ∨ t.op = 8
  · cases t with
    | leaf op n => have h1 : op = 1 ∨ op = 2 := ho; have h2 : op = 5 ∨ op = 6 ∨ op = 7 ∨ op = 8 := h5; omega
    | deny a => have h2 : (3 : Int) = 5 ∨ (3 : Int) = 6 ∨ (3 : Int) = 7 ∨ (3 : Int) = 8 := h5; omega
    | joint op x y => have h1 := ho.1; have h2 : op = 5 ∨ op = 6 ∨ op = 7 ∨ op = 8 := h5; omega
    | know op n x =>
      obtain ⟨b, g, o, c, u, rfl, hbl, hgl, hc1, hc2, hcs, hu⟩ := h.part1 (a := x) rfl
      unfold maxLen at hc2
      obtain ⟨c0, c1, c2, c3⟩ := hcs w (Below.refl _ _)
      rw [show (Tm.know op n x).op = op from rfl] at c0
      have h5' : op = 5 ∨ op = 6 ∨ op = 7 ∨ op = 8 := h5
      obtain ⟨bx, slx, rfl, hbx, hcx, -⟩ := hu.cells
      have d0 := (hcx w (Below.refl _ _)).1
      have HX := Lib.hid hu
      rw [show rule4 (.know op n x) = (if x.op = 2 then some x else none) from rfl]
      clear hcs hcx h hu ho h5 c1
      by_cases hx : x.op = 2
      · rw [if_pos hx]
        rw [hx] at d0
        clear hx
        rcases h5' with rfl | rfl | rfl | rfl
        all_goals
          go_enter Tryz.func129, Tryz.ntmps129
          go_wp2
          go_ret
          exact LkOpt.ptr HX.out (Below.refl _ _)
      · rw [if_neg hx]
        have hx' : (x.op == 2) = false := by simpa using hx
        clear hx
        generalize x.op = z' at *
        rcases h5' with rfl | rfl | rfl | rfl
        all_goals
          go_enter Tryz.func129, Tryz.ntmps129
          go_wp2
          go_ret
          exact LkOpt.nil (Below.refl _ _)
  · obtain ⟨b, sl, rfl, hbl, hcs, -⟩ := h.cells
    have c0 := (hcs w (Below.refl _ _)).1
    have hne5 : (t.op == 5) = false := beq_eq_false_iff_ne.2 (by omega)
    have hne6 : (t.op == 6) = false := beq_eq_false_iff_ne.2 (by omega)
    have hne7 : (t.op == 7) = false := beq_eq_false_iff_ne.2 (by omega)
    have hne8 : (t.op == 8) = false := beq_eq_false_iff_ne.2 (by omega)
    rw [show rule4 t = none by cases t with | know op n x => exact absurd (show op = 5 ∨ op = 6 ∨ op = 7 ∨ op = 8 from ho.1) h5 | leaf op n => rfl | joint op x y => rfl | deny x => rfl]
    clear hcs h ho h5
    generalize t.op = z at *
    go_enter Tryz.func129, Tryz.ntmps129
    go_wp2
    go_ret
    exact LkOpt.nil (Below.refl _ _)

set_option maxRecDepth 100000 in
set_option maxHeartbeats 16000000 in
theorem rule3_any (lo : Nat) (t : Tm) (v : Value) (w : World) (h : Lk lo w t v) (hw : t.wf) (hs : t.size ≤ 100) :
    Calls Tryz.prog 128 #[v] w (LkOpt lo w (rule3 t)) := by
  by_cases h4 : t.op = 4
  · cases t with
    | leaf op n => have h1 : op = 1 ∨ op = 2 := hw.1; have h2 : op = 4 := h4; omega
    | know op n a => have h1 := hw.1; have h2 : op = 4 := h4; omega
    | deny a => have h2 : (3 : Int) = 4 := h4; omega
    | joint op x y =>
      obtain rfl : op = 4 := h4
      obtain ⟨b, g, o, c, u, u', rfl, hbl, hgl, hc1, hc2, hcs, hu, hu'⟩ := h.part2 (a := x) (a' := y) rfl
      unfold maxLen at hc2
      obtain ⟨c0, c1, c2, c3, c4⟩ := hcs w (Below.refl _ _)
      rw [show (Tm.joint 4 x y).op = 4 from rfl] at c0
      have sx : x.size ≤ 100 := by simp only [Tm.size] at hs; omega
      have sy : y.size ≤ 100 := by simp only [Tm.size] at hs; omega
      have KTx := Lib.hid (fun W (hW : Below w.heap.size w W) => term_any lo x u W (hu.below hW) (Tm.wf_ops x hw.2.1))
      have KTy := Lib.hid (fun W (hW : Below w.heap.size w W) => term_any lo y u' W (hu'.below hW) (Tm.wf_ops y hw.2.2))
      have KXx := Lib.hid (fun W => textOf_any x W hw.2.1 sx)
      have KXy := Lib.hid (fun W => textOf_any y W hw.2.2 sy)
      have HX := Lib.hid (fun W (hW : Below w.heap.size w W) => hu.below hW)
      have HCS := Lib.hid hcs
      obtain ⟨bx, rfl, -⟩ := hu.ptr
      obtain ⟨by', rfl, -⟩ := hu'.ptr
      obtain ⟨ty, pv, hx⟩ := tv_form x
      rw [hx] at KTx KXx
      clear hx
      obtain ⟨ty', pv', hx⟩ := tv_form y
      rw [hx] at KTy KXy
      clear hx
      rw [show rule3 (.joint 4 x y) = (if txt x = txt y then some x else none) by simp only [rule3, if_true]]
      have HEQ : Hid (((str (txt x)).toList == (str (txt y)).toList) = decide (txt x = txt y)) := Lib.hid (str_beq _ _)
      clear hcs h hu hu' hw hs sx sy c1
      obtain ⟨q, hq⟩ : ∃ q : Bool, q = decide (txt x = txt y) := ⟨_, rfl⟩
      rw [← hq] at HEQ
      have HPOST : Hid ((if txt x = txt y then some x else none) = bif q then some x else none) := Lib.hid (by rw [hq]; by_cases e : txt x = txt y <;> simp [e])
      rw [HPOST.out]
      clear hq HPOST
      generalize str (txt x) = s1 at *
      generalize str (txt y) = s2 at *
      go_enter Tryz.func128, Tryz.ntmps128
      go_wp2
      clear c0 c2 c3 c4
      refine regionL (fun U => Below w.heap.size w U) [] (by kernel_rfl) (Below.refl _ _).drew (fun hHeld => ?_)
      refine takeA (i := 0) (v := .pointer (some ⟨b, 0, none⟩)) 3 rfl rfl (by kernel_rfl) (by kernel_rfl) (by kernel_rfl) (by kernel_rfl) (fun _ _ _ h => h) (Or.inl ⟨by rfl, by intro W hSw; go_simp⟩) hHeld ?_
      simp only [Act.put, List.setIfInBounds_toArray, List.set_cons_zero, List.set_cons_succ]
      refine takeA (i := 1) (v := .pointer (some ⟨b, 0, none⟩)) 4 rfl rfl (by kernel_rfl) (by kernel_rfl) (by kernel_rfl) (by kernel_rfl) (fun _ _ _ h => h) (Or.inl ⟨by rfl, by intro W hSw; go_simp⟩) hHeld ?_
      simp only [Act.put, List.setIfInBounds_toArray, List.set_cons_zero, List.set_cons_succ]
      refine takeA (i := 2) (v := .pointer (some ⟨b, 0, none⟩)) 5 rfl rfl (by kernel_rfl) (by kernel_rfl) (by kernel_rfl) (by kernel_rfl) (fun _ _ _ h => h) (Or.inl ⟨by rfl, by intro W hSw; go_simp⟩) hHeld ?_
      simp only [Act.put, List.setIfInBounds_toArray, List.set_cons_zero, List.set_cons_succ]
      refine takeA (i := 3) (v := .int .i64 4) 6 rfl rfl (by kernel_rfl) (by kernel_rfl) (by kernel_rfl) (by kernel_rfl) (fun _ _ _ h => h) (Or.inl ⟨by rfl, by intro W hSw; have c1 := (HCS.out _ hSw).1; go_simp; rfl⟩) hHeld ?_
      simp only [Act.put, List.setIfInBounds_toArray, List.set_cons_zero, List.set_cons_succ]
      refine takeA (i := 4) (v := .bool true) 7 rfl rfl (by kernel_rfl) (by kernel_rfl) (by kernel_rfl) (by kernel_rfl) (fun _ _ _ h => h) (Or.inl ⟨by rfl, by intro W hSw; go_simp⟩) hHeld ?_
      simp only [Act.put, List.setIfInBounds_toArray, List.set_cons_zero, List.set_cons_succ]
      refine takeA (i := 5) (v := .bool true) 8 rfl rfl (by kernel_rfl) (by kernel_rfl) (by kernel_rfl) (by kernel_rfl) (fun _ _ _ h => h) (Or.inl ⟨by rfl, by intro W hSw; go_simp⟩) hHeld ?_
      simp only [Act.put, List.setIfInBounds_toArray, List.set_cons_zero, List.set_cons_succ]
      refine takeA (i := 6) (v := .pointer (some ⟨b, 0, none⟩)) 9 rfl rfl (by kernel_rfl) (by kernel_rfl) (by kernel_rfl) (by kernel_rfl) (fun _ _ _ h => h) (Or.inl ⟨by rfl, by intro W hSw; go_simp⟩) hHeld ?_
      simp only [Act.put, List.setIfInBounds_toArray, List.set_cons_zero, List.set_cons_succ]
      refine takeA (i := 14) (v := .pointer (some ⟨b, 0, none⟩)) 17 rfl rfl (by kernel_rfl) (by kernel_rfl) (by kernel_rfl) (by kernel_rfl) (fun _ _ _ h => h) (Or.inl ⟨by rfl, by intro W hSw; go_simp⟩) hHeld ?_
      simp only [Act.put, List.setIfInBounds_toArray, List.set_cons_zero, List.set_cons_succ]
      refine takeA (i := 7) (v := .pointer (some ⟨b, 0, none⟩)) 10 rfl rfl (by kernel_rfl) (by kernel_rfl) (by kernel_rfl) (by kernel_rfl) (fun _ _ _ h => h) (Or.inl ⟨by rfl, by intro W hSw; go_simp⟩) hHeld ?_
      simp only [Act.put, List.setIfInBounds_toArray, List.set_cons_zero, List.set_cons_succ]
      refine takeA (i := 15) (v := .pointer (some ⟨b, 0, none⟩)) 18 rfl rfl (by kernel_rfl) (by kernel_rfl) (by kernel_rfl) (by kernel_rfl) (fun _ _ _ h => h) (Or.inl ⟨by rfl, by intro W hSw; go_simp⟩) hHeld ?_
      simp only [Act.put, List.setIfInBounds_toArray, List.set_cons_zero, List.set_cons_succ]
      refine takeA (i := 8) (v := .pointer (some ⟨b, 2, none⟩)) 11 rfl rfl (by kernel_rfl) (by kernel_rfl) (by kernel_rfl) (by kernel_rfl) (fun _ _ _ h => h) (Or.inl ⟨by rfl, by intro W hSw; go_simp⟩) hHeld ?_
      simp only [Act.put, List.setIfInBounds_toArray, List.set_cons_zero, List.set_cons_succ]
      refine takeA (i := 16) (v := .pointer (some ⟨b, 2, none⟩)) 19 rfl rfl (by kernel_rfl) (by kernel_rfl) (by kernel_rfl) (by kernel_rfl) (fun _ _ _ h => h) (Or.inl ⟨by rfl, by intro W hSw; go_simp⟩) hHeld ?_
      simp only [Act.put, List.setIfInBounds_toArray, List.set_cons_zero, List.set_cons_succ]
      refine takeA (i := 9) (v := .slice (some ⟨g, o, none⟩) 2 c) 12 rfl rfl (by kernel_rfl) (by kernel_rfl) (by kernel_rfl) (by kernel_rfl) (fun _ _ _ h => h) (Or.inl ⟨by rfl, by intro W hSw; have c1 := (HCS.out _ hSw).2.2.1; go_simp⟩) hHeld ?_
      simp only [Act.put, List.setIfInBounds_toArray, List.set_cons_zero, List.set_cons_succ]
      refine takeA (i := 17) (v := .slice (some ⟨g, o, none⟩) 2 c) 20 rfl rfl (by kernel_rfl) (by kernel_rfl) (by kernel_rfl) (by kernel_rfl) (fun _ _ _ h => h) (Or.inl ⟨by rfl, by intro W hSw; have c1 := (HCS.out _ hSw).2.2.1; go_simp⟩) hHeld ?_
      simp only [Act.put, List.setIfInBounds_toArray, List.set_cons_zero, List.set_cons_succ]
      refine takeA (i := 10) (v := .pointer (some ⟨g, o, none⟩)) 13 rfl rfl (by kernel_rfl) (by kernel_rfl) (by kernel_rfl) (by kernel_rfl) (fun _ _ _ h => h) (Or.inl ⟨by rfl, by intro W hSw; go_simp⟩) hHeld ?_
      simp only [Act.put, List.setIfInBounds_toArray, List.set_cons_zero, List.set_cons_succ]
      refine takeA (i := 18) (v := .pointer (some ⟨g, o + 1, none⟩)) 21 rfl rfl (by kernel_rfl) (by kernel_rfl) (by kernel_rfl) (by kernel_rfl) (fun _ _ _ h => h) (Or.inl ⟨by rfl, by intro W hSw; go_simp⟩) hHeld ?_
      simp only [Act.put, List.setIfInBounds_toArray, List.set_cons_zero, List.set_cons_succ]
      refine takeA (i := 11) (v := .pointer (some ⟨bx, 0, none⟩)) 14 rfl rfl (by kernel_rfl) (by kernel_rfl) (by kernel_rfl) (by kernel_rfl) (fun _ _ _ h => h) (Or.inl ⟨by rfl, by intro W hSw; have c1 := (HCS.out _ hSw).2.2.2.1; go_simp⟩) hHeld ?_
      simp only [Act.put, List.setIfInBounds_toArray, List.set_cons_zero, List.set_cons_succ]
      refine takeA (i := 19) (v := .pointer (some ⟨by', 0, none⟩)) 22 rfl rfl (by kernel_rfl) (by kernel_rfl) (by kernel_rfl) (by kernel_rfl) (fun _ _ _ h => h) (Or.inl ⟨by rfl, by intro W hSw; have c1 := (HCS.out _ hSw).2.2.2.2; go_simp⟩) hHeld ?_
      simp only [Act.put, List.setIfInBounds_toArray, List.set_cons_zero, List.set_cons_succ]
      generalize (World.drew _) = wd at hHeld ⊢
      refine onlyL (i := 12) (by kernel_rfl) rfl (by rfl) (fun K hK => ?_)
      go_simp
      refine (KTx.out _ hHeld).mono ?_
      rintro e w1 ⟨rfl, hb1⟩
      have t1 : Below w.heap.size w w1 := hHeld.trans (hb1.mono hHeld.size)
      clear hb1 hHeld
      refine hK.out _ _ (fun _ => t1) (fun _ => ?_)
      clear hK K
      try simp only [Act.put, List.setIfInBounds_toArray, List.set_cons_zero, List.set_cons_succ]
      refine onlyL (i := 13) (by kernel_rfl) rfl (by rfl) (fun K hK => ?_)
      go_simp
      refine (KXx.out _).mono ?_
      rintro e w2 ⟨rfl, hb2⟩
      have t2 : Below w.heap.size w w2 := t1.trans (hb2.mono t1.size)
      clear hb2 t1
      refine hK.out _ _ (fun _ => t2) (fun _ => ?_)
      clear hK K
      try simp only [Act.put, List.setIfInBounds_toArray, List.set_cons_zero, List.set_cons_succ]
      refine onlyL (i := 20) (by kernel_rfl) rfl (by rfl) (fun K hK => ?_)
      go_simp
      refine (KTy.out _ t2).mono ?_
      rintro e w3 ⟨rfl, hb3⟩
      have t3 : Below w.heap.size w w3 := t2.trans (hb3.mono t2.size)
      clear hb3 t2
      refine hK.out _ _ (fun _ => t3) (fun _ => ?_)
      clear hK K
      try simp only [Act.put, List.setIfInBounds_toArray, List.set_cons_zero, List.set_cons_succ]
      refine onlyL (i := 21) (by kernel_rfl) rfl (by rfl) (fun K hK => ?_)
      go_simp
      refine (KXy.out _).mono ?_
      rintro e w4 ⟨rfl, hb4⟩
      have t4 : Below w.heap.size w w4 := t3.trans (hb4.mono t3.size)
      clear hb4 t3
      refine hK.out _ _ (fun _ => t4) (fun _ => ?_)
      clear hK K
      try simp only [Act.put, List.setIfInBounds_toArray, List.set_cons_zero, List.set_cons_succ]
      have hHeld := t4
      refine takeA (i := 22) (v := .bool q) 25 rfl rfl (by kernel_rfl) (by kernel_rfl) (by kernel_rfl) (by kernel_rfl) (fun _ _ _ h => h) (Or.inl ⟨by rfl, by intro W hSw; have c1 := HEQ.out; go_simp⟩) hHeld ?_
      simp only [Act.put, List.setIfInBounds_toArray, List.set_cons_zero, List.set_cons_succ]
      refine takeA (i := 23) (v := .bool q) 26 rfl rfl (by kernel_rfl) (by kernel_rfl) (by kernel_rfl) (by kernel_rfl) (fun _ _ _ h => h) (Or.inl ⟨by rfl, by intro W hSw; go_simp⟩) hHeld ?_
      simp only [Act.put, List.setIfInBounds_toArray, List.set_cons_zero, List.set_cons_succ]
      clear hHeld
      refine doneL (by kernel_rfl) ?_ _
      try simp only [Act.put, List.setIfInBounds_toArray, List.set_cons_zero, List.set_cons_succ]
      cases q with
      | false =>
        go_wp2
        go_ret
        exact LkOpt.nil t4
      | true =>
        obtain ⟨c0, c1, c2, c3, c4⟩ := HCS.out _ t4
        go_wp2
        go_ret
        exact LkOpt.ptr (HX.out _ t4) t4
  · obtain ⟨b, sl, rfl, hbl, hcs, -⟩ := h.cells
    have c0 := (hcs w (Below.refl _ _)).1
    have hne : (t.op == 4) = false := by simpa using h4
    rw [show rule3 t = none by cases t with | joint op x y => (simp only [rule3]; exact if_neg h4) | leaf op n => rfl | know op n x => rfl | deny x => rfl]
    clear hcs h hw hs h4
    generalize t.op = z at *
    go_enter Tryz.func128, Tryz.ntmps128
    go_wp2
    go_quiet (fail)
    go_wp2
    go_ret
    exact LkOpt.nil (below_drewN' (Below.refl _ _) _)
end Go.Proofs.YtodjohdbngbpaaaGreat
