/-
  Differences of worlds, as the program finds them: the last shared step, the first agent that splits, the first world that is missing; conjunctions that grow too long. No program text.
-/
import Derived.Test.YtnpfnfenkklocaaGreatDoorDis
import Derived.Test.YtnpfnfenkklocaaGreatDoorFmi
import Derived.Test.YtnpfnfenkklocaaGreatDoorZKey
import Derived.Test.YtnpfnfenkklocaaGreatDoorLtm
import Derived.Test.YtnpfnfenkklocaaGreatDoorZCmb
namespace Go.Proofs.YtnpfnfenkklocaaGreatDoor
open Go.RowKit Go.WideShapes
open Go Go.Deep
set_option linter.unusedSimpArgs false

theorem metG_setD {m : Md} {c : List Int} (hn : m.facts.length ≤ 16) (k i y : Nat) : metG m.blocks m.facts.length k i (fun v => c.getD v 0) y = setB m c k i y := by
  show (List.range 16).any (fun v => blkB m.blocks m.facts.length k i v && (c.getD v 0 == (y : Int))) = _
  rw [Bool.eq_iff_iff, setB_in, List.any_eq_true]
  constructor
  · rintro ⟨v, _, h⟩
    rw [Bool.and_eq_true, beq_iff_eq] at h
    have h1 := h.1
    unfold blkB cut at h1
    rw [Bool.and_eq_true, decide_eq_true_eq, beq_iff_eq] at h1
    exact ⟨v, h1.1, by unfold sameW; rw [beq_iff_eq]; exact h1.2.symm, h.2⟩
  · rintro ⟨v, hv, h1, h2⟩
    refine ⟨v, List.mem_range.2 (by omega), ?_⟩
    unfold sameW at h1
    rw [beq_iff_eq] at h1
    rw [Bool.and_eq_true, beq_iff_eq]
    refine ⟨?_, h2⟩
    unfold blkB cut
    rw [Bool.and_eq_true, decide_eq_true_eq, beq_iff_eq]
    exact ⟨hv, h1.symm⟩
theorem find_congrD {p q : Nat → Bool} : ∀ {l : List Nat}, (∀ x ∈ l, p x = q x) → l.find? p = l.find? q
  | [], _ => rfl
  | a :: l, h => by rw [List.find?_cons, List.find?_cons, h a (List.mem_cons_self ..), find_congrD fun x hx => h x (List.mem_cons_of_mem _ hx)]
theorem lst_blk {m : Md} (hn : m.facts.length ≤ 16) (k v : Nat) : lst (blkB m.blocks m.facts.length k v) 16 = blkD m k v := by
  rw [lst_16 (n := m.facts.length) (fun i h => by unfold blkB cut at h; rw [Bool.and_eq_true, decide_eq_true_eq] at h; exact h.1) hn]
  unfold blkD
  refine lst_congr fun i hi => ?_
  unfold blkB cut
  rw [decide_eq_true hi, Bool.true_and, Bool.eq_iff_iff, beq_iff_eq, beq_iff_eq]
  exact eq_comm
theorem miss_eq {m : Md} (hn : m.facts.length ≤ 16) {s : Nat} (k v w : Nat) : missing m (clsAt m s) k v w = (lst (blkB m.blocks m.facts.length k v) 16).find? (missP (blkB m.blocks m.facts.length k w) (cF m s)) := by
  rw [lst_blk hn]
  unfold missing
  refine find_congrD fun x hx => ?_
  have hxn := (mem_blkD.1 hx).1
  have h0 := (clsAt_bd (m := m) (j := s) hxn).1
  unfold missP
  rw [lst_blk hn]
  congr 1
  rw [Bool.eq_iff_iff, setB_iff, List.any_eq_true]
  constructor
  · rintro ⟨y, hy, h⟩
    refine ⟨y, hy, ?_⟩
    rw [beq_iff_eq]
    show (clsAt m s).getD y 0 = (clsAt m s).getD x 0
    rw [h, Int.toNat_of_nonneg h0]
  · rintro ⟨y, hy, h⟩
    rw [beq_iff_eq] at h
    exact ⟨y, hy, by rw [Int.toNat_of_nonneg h0]; exact h⟩
/-- two blocks meet the same classes exactly if none is missing -/
theorem miss_none {m : Md} (hn : m.facts.length ≤ 16) {s k v w : Nat} (h1 : missing m (clsAt m s) k v w = none) (h2 : missing m (clsAt m s) k w v = none) : eqB (metG m.blocks m.facts.length k v (cF m s)) (metG m.blocks m.facts.length k w (cF m s)) = true := by
  unfold eqB
  rw [List.all_eq_true]
  intro i _
  rw [beq_iff_eq]
  show metG m.blocks m.facts.length k v (fun v => (clsAt m s).getD v 0) i = metG m.blocks m.facts.length k w (fun v => (clsAt m s).getD v 0) i
  rw [metG_setD hn, metG_setD hn, Bool.eq_iff_iff]
  exact ⟨missing_none h1, missing_none h2⟩
theorem miss_some {m : Md} (hn : m.facts.length ≤ 16) {s k v w x : Nat} (h : missing m (clsAt m s) k v w = some x) : eqB (metG m.blocks m.facts.length k v (cF m s)) (metG m.blocks m.facts.length k w (cF m s)) = false := by
  have hcl : ∀ x, x < m.facts.length → 0 ≤ (clsAt m s).getD x 0 := fun x hx => (clsAt_bd hx).1
  obtain ⟨hx, hy⟩ := missing_some hcl h
  have hxn := (mem_blkD.1 hx).1
  have hb := clsAt_bd (m := m) (j := s) hxn
  rw [Bool.eq_false_iff]
  intro he
  unfold eqB at he
  rw [List.all_eq_true] at he
  have h2 := he ((clsAt m s).getD x 0).toNat (List.mem_range.2 (by omega))
  rw [beq_iff_eq] at h2
  change metG m.blocks m.facts.length k v (fun v => (clsAt m s).getD v 0) _ = metG m.blocks m.facts.length k w (fun v => (clsAt m s).getD v 0) _ at h2
  rw [metG_setD hn, metG_setD hn, setB_iff.2 ⟨x, hx, (Int.toNat_of_nonneg (hcl x hxn)).symm⟩] at h2
  obtain ⟨y, hy1, hy2⟩ := setB_iff.1 h2.symm
  rw [Int.toNat_of_nonneg (hcl x hxn)] at hy2
  exact hy y hy1 hy2.symm
theorem eqB_symm {p q : Nat → Bool} : eqB p q = eqB q p := by
  rw [Bool.eq_iff_iff, eqB_iff, eqB_iff]; exact eq_comm
/-- the first agent that splits -/
theorem pick_first {m : Md} (hn : m.facts.length ≤ 16) {s v w k x : Nat} {b : Bool} (h : pickA m (clsAt m s) v w = some (k, b, x)) :
    eqB (metG m.blocks m.facts.length k v (cF m s)) (metG m.blocks m.facts.length k w (cF m s)) = false ∧ (∀ j, j < k → eqB (metG m.blocks m.facts.length j v (cF m s)) (metG m.blocks m.facts.length j w (cF m s)) = true) ∧
    ((b = true ∧ missing m (clsAt m s) k v w = some x) ∨ (b = false ∧ missing m (clsAt m s) k v w = none ∧ missing m (clsAt m s) k w v = some x)) := by
  unfold pickA at h
  obtain ⟨l1, a, l2, hl, ha, hno⟩ := List.findSome?_eq_some_iff.1 h
  have hak : a = k := by
    cases h2 : missing m (clsAt m s) a v w with
    | some y => rw [h2] at ha; simp only [Option.some.injEq, Prod.mk.injEq] at ha; exact ha.1
    | none =>
      rw [h2] at ha
      cases h3 : missing m (clsAt m s) a w v with
      | some y => rw [h3] at ha; simp only [Option.some.injEq, Prod.mk.injEq] at ha; exact ha.1
      | none => rw [h3] at ha; cases ha
  subst hak
  have hlen : l1.length = a := by
    have h1 : (List.range m.blocks.length)[l1.length]? = some a := by rw [hl]; simp
    obtain ⟨h3, h4⟩ := List.getElem?_eq_some_iff.1 h1
    simpa using h4
  have hpre : ∀ j, j < a → j ∈ l1 := fun j hj => by
    have h1 : (List.range m.blocks.length)[j]? = l1[j]? := by rw [hl, List.getElem?_append_left (by omega)]
    have h2 : (List.range m.blocks.length)[j]? = some j := by
      have hab : a < m.blocks.length := by
        have h5 : a ∈ List.range m.blocks.length := by rw [hl]; simp
        exact List.mem_range.1 h5
      rw [List.getElem?_range (by omega)]
    rw [h2] at h1
    exact List.mem_of_getElem? h1.symm
  refine ⟨?_, fun j hj => ?_, ?_⟩
  · cases h2 : missing m (clsAt m s) a v w with
    | some y => exact miss_some hn h2
    | none =>
      rw [h2] at ha
      cases h3 : missing m (clsAt m s) a w v with
      | some y => rw [eqB_symm]; exact miss_some hn h3
      | none => rw [h3] at ha; cases ha
  · have h1 := hno j (hpre j hj)
    cases h2 : missing m (clsAt m s) j v w with
    | some y => rw [h2] at h1; cases h1
    | none =>
      rw [h2] at h1
      cases h3 : missing m (clsAt m s) j w v with
      | some y => rw [h3] at h1; cases h1
      | none => exact miss_none hn h2 h3
  · cases h2 : missing m (clsAt m s) a v w with
    | some y =>
      rw [h2] at ha
      simp only [Option.some.injEq, Prod.mk.injEq] at ha
      obtain ⟨_, rfl, rfl⟩ := ha
      exact .inl ⟨rfl, rfl⟩
    | none =>
      rw [h2] at ha
      cases h3 : missing m (clsAt m s) a w v with
      | none => rw [h3] at ha; cases ha
      | some y =>
        rw [h3] at ha
        simp only [Option.some.injEq, Prod.mk.injEq] at ha
        obtain ⟨_, rfl, rfl⟩ := ha
        exact .inr ⟨rfl, rfl, rfl⟩
/-- at which steps two worlds are in one class -/
theorem step_iff {m : Md} {v w : Nat} (hv : v < m.facts.length) (hw : w < m.facts.length) (hl : sameAt m (stab m) v w = false) (h0 : sameAt m 0 v w = true) : ∀ k, k ≤ stab m → (cF m k v = cF m k w ↔ k ≤ stepOf m v w) := fun k _ => by
  obtain ⟨t1, t2, t3⟩ := stepOf_at hl h0
  constructor
  · intro h
    rcases Nat.lt_or_ge (stepOf m v w) k with h1 | h1
    · have h2 : sameAt m k v w = true := by unfold sameAt; rw [beq_iff_eq]; exact h
      have := sameAt_down hv hw (show stepOf m v w + 1 ≤ k by omega) h2
      rw [t3] at this; cases this
    · exact h1
  · intro h
    have := sameAt_down hv hw h t1
    unfold sameAt at this
    exact beq_iff_eq.1 this
/-- a well formed term's answer: there, and read back; or too long -/
theorem comb_cases {t : Tm} (hw : t.wf) : (combL t = some (lay 0 t) ∧ formOk (lay 0 t) = true ∧ termOfL (lay 0 t) = t ∧ t.size ≤ 40) ∨ (combL t = none ∧ 40 < t.size) := by
  by_cases hs : t.size ≤ 40
  · exact .inl ⟨by unfold combL; rw [if_pos (lay_formOk hw hs)], lay_formOk hw hs, lay_tm hw hs, hs⟩
  · exact .inr ⟨by unfold combL; rw [if_neg (by rw [lay_formNot (by omega)]; decide)], by omega⟩
theorem comb_long {t : Tm} (hs : 40 < t.size) : combL t = none := by unfold combL; rw [if_neg (by rw [lay_formNot hs]; decide)]
end Go.Proofs.YtnpfnfenkklocaaGreatDoor
