/-
  The mathematics of valid models: the specification's conditions are the program's. No program.
-/
import Derived.Test.YtegmoojjffkacaaGof
namespace Go.Proofs.Ytegmoojjffkacaa

/-- the conditions of the specification -/
def specOk (m : Md) : Bool :=
  decide (1 ≤ m.facts.length ∧ m.facts.length ≤ 16) && decide (1 ≤ m.blocks.length ∧ m.blocks.length ≤ 3) && inB m.actual m.facts.length &&
    (List.range m.facts.length).all (fun j => inB (m.facts.getD j 0) 16) && (List.range m.blocks.length).all (fun k => (m.blocks.getD k []).length == m.facts.length && ordOk (m.blocks.getD k []))
theorem most_ge (l : List Int) : ∀ k, -1 ≤ mostOf l k
  | 0 => Int.le_refl _
  | k + 1 => by have := most_ge l k; rw [mostOf]; omega
theorem ordOk_zeros (n : Nat) : ordOk (List.replicate n 0) = true := by
  unfold ordOk
  refine decide_eq_true (fun i hi => ?_)
  rw [List.length_replicate] at hi
  have := most_ge (List.replicate n 0) i
  rw [List.getD_eq_getElem?_getD, List.getElem?_replicate, if_pos hi]
  simp only [Option.getD_some]
  omega
theorem num_of_ord {l : List Int} (h : ordOk l = true) : num l = l := by rw [ordOk_num] at h; exact of_decide_eq_true h
theorem pad_take {l : List Int} {n : Nat} (h : l.length = n) : (pad l).take n = l := by subst h; unfold pad; simp
theorem pad_inj {l l' : List Int} (h : l.length = l'.length) (e : pad l = pad l') : l = l' := by
  have := congrArg (List.take l.length) e
  rw [pad_take rfl, pad_take h.symm] at this
  exact this
theorem pad_nil : pad [] = List.replicate 16 0 := rfl
theorem rowOk_row {rows : List (List Int)} {n k : Nat} (h : (rows.getD k []).length = n) : rowOk rows n k = ordOk (rows.getD k []) := by
  unfold rowOk
  rw [pad_take h, ordOk_num, Bool.eq_iff_iff, decide_eq_true_iff, decide_eq_true_iff]
  exact ⟨fun e => (pad_inj (num_len _).symm e).symm, fun e => by rw [e]⟩
theorem rowOk_none {rows : List (List Int)} {n k : Nat} (h : rows.getD k [] = []) (hn : n ≤ 16) : rowOk rows n k = true := by
  unfold rowOk
  rw [h, pad_nil]
  refine decide_eq_true ?_
  rw [List.take_replicate, Nat.min_eq_left hn, num_of_ord (ordOk_zeros n)]
  unfold pad
  rw [List.length_replicate, List.replicate_append_replicate]
  congr 1; omega
theorem specOk_mdOk (m : Md) : specOk m = mdOk m := by
  rw [Bool.eq_iff_iff]
  unfold specOk mdOk okNums
  simp only [Bool.and_eq_true, decide_eq_true_eq, List.all_eq_true, List.mem_range, beq_iff_eq]
  constructor
  · rintro ⟨⟨⟨⟨⟨a1, a2⟩, b1, b2⟩, hc⟩, hf⟩, hb⟩
    refine ⟨⟨⟨a1, a2, b1, b2⟩, fun k hk => (hb k hk).1⟩, ⟨fun j hj => ?_, fun k hk => ?_⟩, hc⟩
    · rw [List.getD_eq_getElem?_getD, pad_get hj a2]
      simp only [Option.getD_some]
      rcases Nat.lt_or_ge j m.facts.length with h | h
      · exact hf j h
      · rw [List.getD_eq_getElem?_getD, List.getElem?_eq_none h]; rfl
    · rcases Nat.lt_or_ge k m.blocks.length with h | h
      · rw [rowOk_row (hb k h).1]; exact (hb k h).2
      · exact rowOk_none (by rw [List.getD_eq_getElem?_getD, List.getElem?_eq_none h]; rfl) a2
  · rintro ⟨⟨⟨a1, a2, b1, b2⟩, hl⟩, ⟨hf, hr⟩, hc⟩
    refine ⟨⟨⟨⟨⟨a1, a2⟩, b1, b2⟩, hc⟩, fun j hj => ?_⟩, fun k hk => ⟨hl k hk, ?_⟩⟩
    · have := hf j (by omega)
      rw [List.getD_eq_getElem?_getD, pad_get (by omega) a2] at this
      exact this
    · rw [← rowOk_row (hl k hk)]; exact hr k (by omega)
/-- what a valid model is -/
theorem mdOk_parts {m : Md} (h : mdOk m = true) : 1 ≤ m.facts.length ∧ m.facts.length ≤ 16 ∧ 1 ≤ m.blocks.length ∧ m.blocks.length ≤ 3 ∧ (∀ k, k < m.blocks.length → (m.blocks.getD k []).length = m.facts.length ∧ ordOk (m.blocks.getD k []) = true) ∧
    (∀ j, j < m.facts.length → 0 ≤ m.facts.getD j 0 ∧ m.facts.getD j 0 < 16) ∧ 0 ≤ m.actual ∧ m.actual < m.facts.length := by
  rw [← specOk_mdOk] at h
  unfold specOk inB at h
  simp only [Bool.and_eq_true, decide_eq_true_eq, List.all_eq_true, List.mem_range, beq_iff_eq] at h
  obtain ⟨⟨⟨⟨⟨a1, a2⟩, b1, b2⟩, hc⟩, hf⟩, hb⟩ := h
  exact ⟨a1, a2, b1, b2, hb, hf, hc.1, hc.2⟩
theorem md_small {m : Md} (h : mdOk m = true) : small m.facts m.blocks := by
  obtain ⟨_, a2, _, _, hb, _⟩ := mdOk_parts h
  refine ⟨a2, fun k => ?_⟩
  rcases Nat.lt_or_ge k m.blocks.length with hk | hk
  · rw [(hb k hk).1]; exact a2
  · rw [List.getD_eq_getElem?_getD, List.getElem?_eq_none hk]; simp
end Go.Proofs.Ytegmoojjffkacaa
