/-
  The formula of a difference as a term and as a text that is cut off when it grows too long. No program but its types' numbers.
-/
import Derived.Test.YtnpfnfenkklocaaGreatDoorDif
import Derived.Test.YtnpfnfenkklocaaGreatDoorZTmx
namespace Go.Proofs.YtnpfnfenkklocaaGreatDoor
open Go.RowKit Go.WideShapes
open Go Go.Deep
set_option linter.unusedSimpArgs false

theorem conj_wf : ∀ (l : List Tm), (∀ t ∈ l, t.wf) → (conjT l).wf
  | [], _ => ⟨.inr rfl, by decide, by decide⟩
  | [a], h => h a (List.mem_singleton.2 rfl)
  | a :: b :: r, h => ⟨.inl rfl, h a (List.mem_cons_self ..), conj_wf (b :: r) fun t ht => h t (List.mem_cons_of_mem _ ht)⟩
theorem pickA_lt {m : Md} {c : List Int} {v w k x : Nat} {s : Bool} (h : pickA m c v w = some (k, s, x)) : k < m.blocks.length := by
  obtain ⟨j, hj, h1⟩ := List.exists_of_findSome?_eq_some h
  have hjl := List.mem_range.1 hj
  cases h2 : missing m c j v w with
  | some y => rw [h2] at h1; simp only [Option.some.injEq, Prod.mk.injEq] at h1; omega
  | none =>
    rw [h2] at h1
    cases h3 : missing m c j w v with
    | some y => rw [h3] at h1; simp only [Option.some.injEq, Prod.mk.injEq] at h1; omega
    | none => rw [h3] at h1; cases h1
theorem diff_wf {m : Md} (hA : m.blocks.length ≤ 3) : ∀ (f v w : Nat), (diffT m f v w).wf
  | 0, _, _ => ⟨.inr rfl, by decide, by decide⟩
  | f + 1, v, w => by
    unfold diffT
    cases hb : firstBit (m.facts.getD v 0) (m.facts.getD w 0) with
    | some k =>
      have hk := List.mem_range.1 (List.mem_of_find?_eq_some hb)
      have hl : (Tm.leaf 1 (k : Int)).wf := ⟨.inl rfl, by omega, by show (k : Int) < 4; omega⟩
      simp only
      split
      · exact hl
      · exact hl
    | none =>
      simp only
      cases hp : pickA m (clsAt m (stepOf m v w)) v w with
      | none => exact ⟨.inr rfl, by decide, by decide⟩
      | some r =>
        obtain ⟨k, s, x⟩ := r
        have hk := pickA_lt hp
        have hc : ∀ l : List Nat, (conjT (l.map (diffT m f x))).wf := fun l => conj_wf _ fun t ht => by
          obtain ⟨y, _, rfl⟩ := List.mem_map.1 ht
          exact diff_wf hA f x y
        cases s with
        | true => exact ⟨.inl rfl, by omega, by show (k : Int) < 3; omega, hc _⟩
        | false => exact ⟨.inl rfl, by omega, by show (k : Int) < 3; omega, hc _⟩
theorem conj_tag {A : Nat} : ∀ (l : List Tm), (∀ t ∈ l, tag t A) → tag (conjT l) A
  | [], _ => trivial
  | [a], h => h a (List.mem_singleton.2 rfl)
  | a :: b :: r, h => ⟨h a (List.mem_cons_self ..), conj_tag (b :: r) fun t ht => h t (List.mem_cons_of_mem _ ht)⟩
theorem diff_tag {m : Md} : ∀ (f v w : Nat), tag (diffT m f v w) m.blocks.length
  | 0, _, _ => trivial
  | f + 1, v, w => by
    unfold diffT
    cases hb : firstBit (m.facts.getD v 0) (m.facts.getD w 0) with
    | some k => simp only; split <;> trivial
    | none =>
      simp only
      cases hp : pickA m (clsAt m (stepOf m v w)) v w with
      | none => trivial
      | some r =>
        obtain ⟨k, s, x⟩ := r
        have hk := pickA_lt hp
        have hc : ∀ l : List Nat, tag (conjT (l.map (diffT m f x))) m.blocks.length := fun l => conj_tag _ fun t ht => by
          obtain ⟨y, _, rfl⟩ := List.mem_map.1 ht
          exact diff_tag f x y
        cases s with
        | true => exact ⟨fun _ => by omega, hc _⟩
        | false => exact ⟨fun _ => by omega, hc _⟩

/-- a text that is a term's, or too long as the term's is -/
def Cutoff (s : List UInt8) (t : Tm) : Prop := s = txt t ∨ (80 < s.length ∧ 80 < (txt t).length)
theorem parsed_long {s : List UInt8} (h : 80 < s.length) : parsed s = none := by
  unfold parsed
  cases hr : readAll s with
  | none => rfl
  | some T =>
    obtain ⟨_, h2, h3⟩ := readAll_some hr
    have := (txt_len T).2
    rw [h2] at h; omega
theorem Cutoff.parsed {s : List UInt8} {t : Tm} (h : Cutoff s t) : parsed s = parsed (txt t) := by
  rcases h with rfl | ⟨h1, h2⟩
  · rfl
  · rw [parsed_long h1, parsed_long h2]
theorem Cutoff.pre {s : List UInt8} {t : Tm} (h : Cutoff s t) (p : List UInt8) {u : Tm} (hu : txt u = p ++ txt t) : Cutoff (p ++ s) u := by
  rcases h with rfl | ⟨h1, h2⟩
  · exact .inl hu.symm
  · refine .inr ⟨by rw [List.length_append]; omega, by rw [hu, List.length_append]; omega⟩
/-- the texts one after the other, cut off when they grow too long -/
def agS (rec : Nat → List UInt8) : List Nat → List UInt8 → List UInt8
  | [], s => s
  | y :: r, s => if 80 < (s ++ (if r.isEmpty then [] else [38]) ++ rec y).length then s ++ (if r.isEmpty then [] else [38]) ++ rec y else agS rec r (s ++ (if r.isEmpty then [] else [38]) ++ rec y)
theorem txt_conj (a b : Tm) (r : List Tm) : txt (conjT (a :: b :: r)) = [38] ++ txt a ++ txt (conjT (b :: r)) := rfl
theorem agS_cut {rec : Nat → List UInt8} {T : Nat → Tm} : ∀ (l : List Nat) (s : List UInt8), l ≠ [] → (∀ y ∈ l, Cutoff (rec y) (T y)) →
    agS rec l s = s ++ txt (conjT (l.map T)) ∨ (80 < (agS rec l s).length ∧ 80 < (s ++ txt (conjT (l.map T))).length)
  | [], _, h, _ => absurd rfl h
  | [y], s, _, hc => by
    have hy := hc y (List.mem_singleton.2 rfl)
    unfold agS
    simp only [List.isEmpty_nil, if_true, List.append_nil, List.map_cons, List.map_nil, conjT, agS, ite_self]
    rcases hy with h | ⟨h1, h2⟩
    · rw [h]; exact .inl rfl
    · exact .inr ⟨by rw [List.length_append]; omega, by rw [List.length_append]; omega⟩
  | y :: z :: r, s, _, hc => by
    have hy := hc y (List.mem_cons_self ..)
    unfold agS
    simp only [List.isEmpty_cons, Bool.false_eq_true, if_false, List.map_cons]
    rw [txt_conj]
    rcases hy with h | ⟨h1, h2⟩
    · rw [h]
      by_cases hl : 80 < (s ++ [38] ++ txt (T y)).length
      · rw [if_pos hl]
        exact .inr ⟨hl, by simp only [List.length_append] at hl ⊢; omega⟩
      · rw [if_neg hl]
        have ih := agS_cut (z :: r) (s ++ [38] ++ txt (T y)) (by simp) (fun u hu => hc u (List.mem_cons_of_mem _ hu))
        have e : s ++ [38] ++ txt (T y) ++ txt (conjT ((z :: r).map T)) = s ++ ([38] ++ txt (T y) ++ txt (conjT (T z :: r.map T))) := by
          simp only [List.map_cons, List.append_assoc]
        rw [e] at ih
        exact ih
    · rw [if_pos (by simp only [List.length_append]; omega)]
      exact .inr ⟨by simp only [List.length_append]; omega, by simp only [List.length_append]; omega⟩

/-- what DifferenceOf answers -/
def diffR (m : Md) (v w : Int) : Option (List Nd) :=
  if mdOk m && inB v m.facts.length && inB w m.facts.length && decide (m.facts.length ≤ 8) && !((lastC m).getD v.toNat 0 == (lastC m).getD w.toNat 0) then parsed (txt (diffT m (stab m + 2) v.toNat w.toNat)) else none
theorem diffR_some {m : Md} {v w : Int} {xs : List Nd} (h : diffR m v w = some xs) : ∃ t : Tm, xs = lay 0 t ∧ t.wf ∧ t.size ≤ 40 ∧ tag t m.blocks.length ∧ mdOk m = true ∧ (inB v m.facts.length = true ∧ inB w m.facts.length = true) ∧ (lastC m).getD v.toNat 0 ≠ (lastC m).getD w.toNat 0 ∧
    evI t m v.toNat = true ∧ evI t m w.toNat = false := by
  unfold diffR at h
  split at h
  · rename_i hc
    simp only [Bool.and_eq_true, decide_eq_true_eq, Bool.not_eq_true', beq_eq_false_iff_ne] at hc
    obtain ⟨⟨⟨⟨h1, h2⟩, h3⟩, h4⟩, h5⟩ := hc
    obtain ⟨p1, p2, p3, p4, p5, p6, p7, p8⟩ := mdOk_parts h1
    have hw := diff_wf (m := m) (by omega) (stab m + 2) v.toNat w.toNat
    have b2 : 0 ≤ v ∧ v < m.facts.length := by unfold inB at h2; simpa using h2
    have b3 : 0 ≤ w ∧ w < m.facts.length := by unfold inB at h3; simpa using h3
    have hvn : v.toNat < m.facts.length := by omega
    have hwn : w.toNat < m.facts.length := by omega
    have hl : sameAt m (stab m) v.toNat w.toNat = false := by unfold sameAt; exact beq_eq_false_iff_ne.2 h5
    obtain ⟨e1, e2⟩ := diff_tells (m := m) p2 (fun u hu => p6 u hu) (stab m + 2) v.toNat w.toNat hvn hwn hl (fun h0 => by have := (stepOf_at hl h0).2.1; omega) (by omega)
    rcases Nat.lt_or_ge 40 (diffT m (stab m + 2) v.toNat w.toNat).size with hs | hs
    · rw [parsed_big hw hs] at h; cases h
    · rw [parsed_txt hw hs] at h
      cases h
      exact ⟨_, rfl, hw, hs, diff_tag _ _ _, h1, ⟨h2, h3⟩, h5, e1, e2⟩
  · cases h
end Go.Proofs.YtnpfnfenkklocaaGreatDoor
