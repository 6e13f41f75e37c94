/-
  The text of a difference as the specification writes it, cut off where it grows too long; how long it is; the agents before the first that splits. No program text.
-/
import Derived.Test.YtnpfnfenkklocaaGreatDoorDis
namespace Go.Proofs.YtnpfnfenkklocaaGreatDoor
open Go.RowKit Go.WideShapes
open Go Go.Deep
set_option linter.unusedSimpArgs false

/-- the text of a difference -/
def difS (m : Md) : Nat → Nat → Nat → List UInt8
  | 0, _, _ => [84]
  | f + 1, v, w => match firstBit (m.facts.getD v 0) (m.facts.getD w 0) with
    | some k => if bitI (m.facts.getD v 0) k == 1 then [UInt8.ofNat (97 + k)] else [45, UInt8.ofNat (97 + k)]
    | none => match pickA m (clsAt m (stepOf m v w)) v w with
      | some (k, true, x) => [45, 75, UInt8.ofNat (48 + k), 45] ++ agS (difS m f x) (blkD m k w) []
      | some (k, false, x) => [75, UInt8.ofNat (48 + k), 45] ++ agS (difS m f x) (blkD m k v) []
      | none => [84]
theorem agS_cons (rec : Nat → List UInt8) (y : Nat) (r : List Nat) (s : List UInt8) : ∃ p : List UInt8, p.length ≤ 1 ∧ agS rec (y :: r) s = if 80 < (s ++ p ++ rec y).length then s ++ p ++ rec y else agS rec r (s ++ p ++ rec y) :=
  ⟨if r.isEmpty then [] else [38], by split <;> simp, rfl⟩
theorem agS_ge {rec : Nat → List UInt8} : ∀ (l : List Nat) (s : List UInt8), s.length ≤ (agS rec l s).length
  | [], _ => Nat.le_refl _
  | y :: r, s => by
    obtain ⟨p, _, e⟩ := agS_cons rec y r s
    rw [e]
    by_cases h : 80 < (s ++ p ++ rec y).length
    · rw [if_pos h]; simp only [List.length_append]; omega
    · rw [if_neg h]
      have := agS_ge (rec := rec) r (s ++ p ++ rec y)
      simp only [List.length_append] at this ⊢
      omega
theorem agS_pos {rec : Nat → List UInt8} {l : List Nat} (hl : l ≠ []) (h : ∀ y, 0 < (rec y).length) (s : List UInt8) : 0 < (agS rec l s).length := by
  cases l with
  | nil => exact absurd rfl hl
  | cons y r =>
    have hy := h y
    obtain ⟨p, _, e⟩ := agS_cons rec y r s
    rw [e]
    by_cases h : 80 < (s ++ p ++ rec y).length
    · rw [if_pos h]; omega
    · rw [if_neg h]
      have := agS_ge (rec := rec) r (s ++ p ++ rec y)
      simp only [List.length_append] at this
      omega
theorem agS_len {rec : Nat → List UInt8} {R : Nat} (h : ∀ y, (rec y).length ≤ R) : ∀ (l : List Nat) (s : List UInt8), s.length ≤ 80 → (agS rec l s).length ≤ 81 + R
  | [], s, hs => by unfold agS; omega
  | y :: r, s, hs => by
    have hy := h y
    obtain ⟨p, hp, e⟩ := agS_cons rec y r s
    rw [e]
    by_cases h2 : 80 < (s ++ p ++ rec y).length
    · rw [if_pos h2]; simp only [List.length_append]; omega
    · rw [if_neg h2]; exact agS_len h r _ (by omega)
theorem difS_len (m : Md) : ∀ (f v w : Nat), (difS m f v w).length ≤ 2 + 85 * f
  | 0, _, _ => by simp [difS]
  | f + 1, v, w => by
    have hag : ∀ (x : Nat) (l : List Nat), (agS (difS m f x) l []).length ≤ 81 + (2 + 85 * f) := fun x l => agS_len (fun y => difS_len m f x y) l [] (by simp)
    unfold difS
    split
    · split <;> simp <;> omega
    · split
      · rename_i k x _
        have := hag x (blkD m k w)
        simp only [List.length_append, List.length_cons, List.length_nil]; omega
      · rename_i k x _
        have := hag x (blkD m k v)
        simp only [List.length_append, List.length_cons, List.length_nil]; omega
      · simp; omega
theorem difS_pos (m : Md) : ∀ (f v w : Nat), 0 < (difS m f v w).length
  | 0, _, _ => by simp [difS]
  | f + 1, v, w => by
    unfold difS
    split
    · split <;> simp
    · split <;> simp
theorem pickA_in {m : Md} {c : List Int} {v w k x : Nat} {s : Bool} (h : pickA m c v w = some (k, s, x)) : x < m.facts.length := by
  obtain ⟨j, hj, h1⟩ := List.exists_of_findSome?_eq_some h
  cases h2 : missing m c j v w with
  | some y =>
    rw [h2] at h1; simp only [Option.some.injEq, Prod.mk.injEq] at h1
    rw [← h1.2.2]; exact (mem_blkD.1 (List.mem_of_find?_eq_some h2)).1
  | none =>
    rw [h2] at h1
    cases h3 : missing m c j w v with
    | some y =>
      rw [h3] at h1; simp only [Option.some.injEq, Prod.mk.injEq] at h1
      rw [← h1.2.2]; exact (mem_blkD.1 (List.mem_of_find?_eq_some h3)).1
    | none => rw [h3] at h1; cases h1
theorem blkD_ne {m : Md} {k x : Nat} (hx : x < m.facts.length) : blkD m k x ≠ [] := fun h => by
  have hm : x ∈ blkD m k x := mem_blkD.2 ⟨hx, by unfold sameW; simp⟩
  rw [h] at hm; cases hm
theorem difS_cut {m : Md} : ∀ (f v w : Nat), v < m.facts.length → w < m.facts.length → Cutoff (difS m f v w) (diffT m f v w)
  | 0, _, _, _, _ => .inl rfl
  | f + 1, v, w, hv, hw => by
    have hag : ∀ (x : Nat) (l : List Nat), x < m.facts.length → l ≠ [] → (∀ y ∈ l, y < m.facts.length) → Cutoff (agS (difS m f x) l []) (conjT (l.map (diffT m f x))) := fun x l hx hl hy =>
      agS_cut l [] hl fun y h => difS_cut f x y hx (hy y h)
    unfold difS diffT
    cases hb : firstBit (m.facts.getD v 0) (m.facts.getD w 0) with
    | some k =>
      simp only
      split
      · exact .inl rfl
      · exact .inl rfl
    | none =>
      simp only
      cases hp : pickA m (clsAt m (stepOf m v w)) v w with
      | none => exact .inl rfl
      | some r =>
        obtain ⟨k, s, x⟩ := r
        have hx := pickA_in hp
        cases s with
        | true => exact (hag x (blkD m k w) hx (blkD_ne hw) (fun y hy => (mem_blkD.1 hy).1)).pre [45, 75, UInt8.ofNat (48 + k), 45] (by simp [txt, headT, headB, Tm.op, Tm.num, letterI, letters])
        | false => exact (hag x (blkD m k v) hx (blkD_ne hv) (fun y hy => (mem_blkD.1 hy).1)).pre [75, UInt8.ofNat (48 + k), 45] (by simp [txt, headT, headB, Tm.op, Tm.num, letterI, letters])
/-- the agents before the first that splits miss nothing -/
theorem pick_parts {m : Md} {c : List Int} {v w k x : Nat} {b : Bool} (h : pickA m c v w = some (k, b, x)) :
    (∀ j, j < k → missing m c j v w = none ∧ missing m c j w v = none) ∧ ((b = true ∧ missing m c k v w = some x) ∨ (b = false ∧ missing m c k v w = none ∧ missing m c k w v = some x)) := by
  unfold pickA at h
  obtain ⟨l1, a, l2, hl, ha, hno⟩ := List.findSome?_eq_some_iff.1 h
  have hak : a = k := by
    cases h2 : missing m c a v w with
    | some y => rw [h2] at ha; simp only [Option.some.injEq, Prod.mk.injEq] at ha; exact ha.1
    | none =>
      rw [h2] at ha
      cases h3 : missing m c a w v with
      | some y => rw [h3] at ha; simp only [Option.some.injEq, Prod.mk.injEq] at ha; exact ha.1
      | none => rw [h3] at ha; cases ha
  subst hak
  have hlen : l1.length = a := by
    have h1 : (List.range m.blocks.length)[l1.length]? = some a := by rw [hl]; simp
    obtain ⟨h3, h4⟩ := List.getElem?_eq_some_iff.1 h1
    simpa using h4
  have hpre : ∀ j, j < a → j ∈ l1 := fun j hj => by
    have h1 : (List.range m.blocks.length)[j]? = l1[j]? := by rw [hl, List.getElem?_append_left (by omega)]
    have h2 : (List.range m.blocks.length)[j]? = some j := by
      have hab : a < m.blocks.length := by
        have h5 : a ∈ List.range m.blocks.length := by rw [hl]; simp
        exact List.mem_range.1 h5
      rw [List.getElem?_range (by omega)]
    rw [h2] at h1
    exact List.mem_of_getElem? h1.symm
  refine ⟨fun j hj => ?_, ?_⟩
  · have h1 := hno j (hpre j hj)
    cases h2 : missing m c j v w with
    | some y => rw [h2] at h1; cases h1
    | none =>
      rw [h2] at h1
      cases h3 : missing m c j w v with
      | some y => rw [h3] at h1; cases h1
      | none => exact ⟨rfl, rfl⟩
  · cases h2 : missing m c a v w with
    | some y =>
      rw [h2] at ha
      simp only [Option.some.injEq, Prod.mk.injEq] at ha
      obtain ⟨_, rfl, rfl⟩ := ha
      exact .inl ⟨rfl, rfl⟩
    | none =>
      rw [h2] at ha
      cases h3 : missing m c a w v with
      | none => rw [h3] at ha; cases ha
      | some y =>
        rw [h3] at ha
        simp only [Option.some.injEq, Prod.mk.injEq] at ha
        obtain ⟨_, rfl, rfl⟩ := ha
        exact .inr ⟨rfl, rfl, rfl⟩
end Go.Proofs.YtnpfnfenkklocaaGreatDoor
