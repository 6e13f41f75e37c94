/-
  Products of models and events, in mathematics: pairs, who cannot tell them apart, what is alike stays so. No program but its types' numbers.
-/
import Derived.Test.YthjfanhhindjlaaGreatTou
namespace Go.Proofs.YthjfanhhindjlaaGreat
open Go.RowKit Go.WideShapes
open Go Go.Deep
set_option linter.unusedSimpArgs false

/-- the pairs of a world and an event whose condition is true in it, by world and then event -/
def pairsP (n K : Nat) (t : Nat → Nat → Bool) : List (Nat × Nat) := (List.range n).flatMap fun w => ((List.range K).filter fun k => t k w).map fun k => (w, k)
theorem mem_pairs {n K : Nat} {t : Nat → Nat → Bool} {p : Nat × Nat} : p ∈ pairsP n K t ↔ p.1 < n ∧ p.2 < K ∧ t p.2 p.1 = true := by
  unfold pairsP
  rw [List.mem_flatMap]
  constructor
  · rintro ⟨w, hw, h⟩
    rw [List.mem_map] at h
    obtain ⟨k, hk, rfl⟩ := h
    rw [List.mem_filter, List.mem_range] at hk
    exact ⟨List.mem_range.1 hw, hk.1, hk.2⟩
  · rintro ⟨h1, h2, h3⟩
    exact ⟨p.1, List.mem_range.2 h1, List.mem_map.2 ⟨p.2, List.mem_filter.2 ⟨List.mem_range.2 h2, h3⟩, rfl⟩⟩
theorem pairs_succ (n K : Nat) (t : Nat → Nat → Bool) : pairsP (n + 1) K t = pairsP n K t ++ ((List.range K).filter fun k => t k n).map fun k => (n, k) := by
  unfold pairsP; rw [List.range_succ, List.flatMap_append]; simp
theorem pairs_nodup (K : Nat) (t : Nat → Nat → Bool) : ∀ n, (pairsP n K t).Nodup
  | 0 => by simp [pairsP]
  | n + 1 => by
    rw [pairs_succ, List.nodup_append]
    refine ⟨pairs_nodup K t n, ?_, fun a ha b hb e => ?_⟩
    · have h : ((List.range K).filter fun k => t k n).Nodup := List.Nodup.sublist List.filter_sublist List.nodup_range
      rw [List.nodup_iff_pairwise_ne] at h ⊢
      exact List.pairwise_map.2 (h.imp fun hab e => hab (Prod.mk.inj e).2)
    · subst e
      rw [List.mem_map] at hb
      obtain ⟨k, _, rfl⟩ := hb
      have := (mem_pairs.1 ha).1
      simp at this
def prdRow (b eb : List Int) (P : List (Nat × Nat)) : List Int := P.map fun p => b.getD p.1 0 * 4 + eb.getD p.2 0
def prdM (m : Md) (ebs : List (List Int)) (ea : Nat) (P : List (Nat × Nat)) : Md :=
  ⟨P.map fun p => m.facts.getD p.1 0, (List.range m.blocks.length).map fun i => num (prdRow (m.blocks.getD i []) (ebs.getD i []) P), ((P.idxOf (m.actual.toNat, ea) : Nat) : Int)⟩
theorem prd_facts_len (m : Md) (ebs : List (List Int)) (ea : Nat) (P : List (Nat × Nat)) : (prdM m ebs ea P).facts.length = P.length := by unfold prdM; simp
theorem prd_agents (m : Md) (ebs : List (List Int)) (ea : Nat) (P : List (Nat × Nat)) : (prdM m ebs ea P).blocks.length = m.blocks.length := by unfold prdM; simp
def atP (P : List (Nat × Nat)) (i : Nat) : Nat × Nat := P.getD i (0, 0)
theorem atP_mem {P : List (Nat × Nat)} {i : Nat} (h : i < P.length) : atP P i ∈ P := by unfold atP; rw [List.getD_eq_getElem?_getD, List.getElem?_eq_getElem h]; exact List.getElem_mem _
theorem atP_get {P : List (Nat × Nat)} {p : Nat × Nat} (h : p ∈ P) : ∃ i, i < P.length ∧ atP P i = p := by
  obtain ⟨i, hi, e⟩ := List.getElem_of_mem h
  exact ⟨i, hi, by unfold atP; rw [List.getD_eq_getElem?_getD, List.getElem?_eq_getElem hi]; exact e⟩
theorem prd_fact {m : Md} {ebs : List (List Int)} {ea : Nat} {P : List (Nat × Nat)} {i : Nat} (h : i < P.length) : (prdM m ebs ea P).facts.getD i 0 = m.facts.getD (atP P i).1 0 := by
  show (P.map fun p => m.facts.getD p.1 0).getD i 0 = _
  unfold atP
  rw [List.getD_eq_getElem?_getD, List.getElem?_map, List.getElem?_eq_getElem h, List.getD_eq_getElem?_getD (l := P), List.getElem?_eq_getElem h]; rfl
theorem prdRow_len (b eb : List Int) (P : List (Nat × Nat)) : (prdRow b eb P).length = P.length := by simp [prdRow]
theorem prdRow_at {b eb : List Int} {P : List (Nat × Nat)} {i : Nat} (h : i < P.length) : (prdRow b eb P).getD i 0 = b.getD (atP P i).1 0 * 4 + eb.getD (atP P i).2 0 := by
  unfold prdRow atP
  rw [List.getD_eq_getElem?_getD, List.getElem?_map, List.getElem?_eq_getElem h, List.getD_eq_getElem?_getD (l := P), List.getElem?_eq_getElem h]; rfl
theorem prd_row {m : Md} {ebs : List (List Int)} {ea : Nat} {P : List (Nat × Nat)} {k : Nat} (hk : k < m.blocks.length) : (prdM m ebs ea P).blocks.getD k [] = num (prdRow (m.blocks.getD k []) (ebs.getD k []) P) := by
  unfold prdM; rw [List.getD_eq_getElem?_getD, List.getElem?_map, List.getElem?_range hk]; rfl
/-- blocks of events: numbers below 4 -/
def evB (ebs : List (List Int)) (A K : Nat) : Prop := ∀ k, k < A → ∀ j, j < K → 0 ≤ (ebs.getD k []).getD j 0 ∧ (ebs.getD k []).getD j 0 < 4
theorem prd_same {m : Md} {ebs : List (List Int)} {ea K : Nat} {P : List (Nat × Nat)} (hb : evB ebs m.blocks.length K) (hP : ∀ p ∈ P, p.2 < K) {k i j : Nat} (hk : k < m.blocks.length) (hi : i < P.length) (hj : j < P.length) :
    sameW (prdM m ebs ea P) k i j = true ↔ sameW m k (atP P i).1 (atP P j).1 = true ∧ (ebs.getD k []).getD (atP P i).2 0 = (ebs.getD k []).getD (atP P j).2 0 := by
  have b1 := hb k hk _ (hP _ (atP_mem hi))
  have b2 := hb k hk _ (hP _ (atP_mem hj))
  unfold sameW
  rw [prd_row hk, beq_iff_eq, beq_iff_eq, ← num_same _ (by rw [prdRow_len]; exact hi) (by rw [prdRow_len]; exact hj), prdRow_at hi, prdRow_at hj]
  constructor
  · intro h; omega
  · rintro ⟨h1, h2⟩; omega
/-- the products of what is alike are alike -/
theorem bis_prd {m n : Md} {Z : Nat → Nat → Prop} (h : Bis m n Z) {ebs : List (List Int)} {ea K : Nat} (hb : evB ebs m.blocks.length K) {t t' : Nat → Nat → Bool} (ht : ∀ k v w, k < K → Z v w → t k v = t' k w) :
    Bis (prdM m ebs ea (pairsP m.facts.length K t)) (prdM n ebs ea (pairsP n.facts.length K t'))
      (fun i j => (i < (pairsP m.facts.length K t).length ∧ j < (pairsP n.facts.length K t').length) ∧ Z (atP (pairsP m.facts.length K t) i).1 (atP (pairsP n.facts.length K t') j).1 ∧ (atP (pairsP m.facts.length K t) i).2 = (atP (pairsP n.facts.length K t') j).2) := by
  have hP : ∀ p ∈ pairsP m.facts.length K t, p.2 < K := fun p hp => (mem_pairs.1 hp).2.1
  have hQ : ∀ p ∈ pairsP n.facts.length K t', p.2 < K := fun p hp => (mem_pairs.1 hp).2.1
  have hb' : evB ebs n.blocks.length K := by rw [← h.agents]; exact hb
  refine ⟨by rw [prd_agents, prd_agents]; exact h.agents, fun i j z => by rw [prd_facts_len, prd_facts_len]; exact z.1, fun i j ⟨z, z2, _⟩ => by rw [prd_fact z.1, prd_fact z.2]; exact h.facts _ _ z2, ?_, ?_⟩
  · rintro i j k i' ⟨⟨hi, hj⟩, z, e⟩ hk hi' hs
    rw [prd_agents] at hk
    rw [prd_facts_len] at hi'
    obtain ⟨s1, s2⟩ := (prd_same hb hP hk hi' hi).1 hs
    obtain ⟨m1, m2, m3⟩ := mem_pairs.1 (atP_mem hi')
    obtain ⟨w', z', hs'⟩ := h.forth _ _ k _ z hk m1 s1
    obtain ⟨j', hj', ej⟩ := atP_get (P := pairsP n.facts.length K t') (p := (w', (atP (pairsP m.facts.length K t) i').2)) (mem_pairs.2 ⟨(h.dom _ _ z').2, m2, by rw [← ht _ _ _ m2 z']; exact m3⟩)
    refine ⟨j', ⟨⟨hi', hj'⟩, by rw [ej]; exact z', by rw [ej]⟩, (prd_same hb' hQ (by rw [← h.agents]; exact hk) hj' hj).2 ⟨by rw [ej]; exact hs', ?_⟩⟩
    rw [ej, ← e]
    exact s2
  · rintro i j k j' ⟨⟨hi, hj⟩, z, e⟩ hk hj' hs
    rw [prd_agents] at hk
    rw [prd_facts_len] at hj'
    obtain ⟨s1, s2⟩ := (prd_same hb' hQ (by rw [← h.agents]; exact hk) hj' hj).1 hs
    obtain ⟨m1, m2, m3⟩ := mem_pairs.1 (atP_mem hj')
    obtain ⟨v', z', hs'⟩ := h.back _ _ k _ z hk m1 s1
    obtain ⟨i', hi', ei⟩ := atP_get (P := pairsP m.facts.length K t) (p := (v', (atP (pairsP n.facts.length K t') j').2)) (mem_pairs.2 ⟨(h.dom _ _ z').1, m2, by rw [ht _ _ _ m2 z']; exact m3⟩)
    refine ⟨i', ⟨⟨hi', hj'⟩, by rw [ei]; exact z', by rw [ei]⟩, (prd_same hb hP hk hi' hi).2 ⟨by rw [ei]; exact hs', ?_⟩⟩
    rw [ei, e]
    exact s2
theorem prd_act {m : Md} {ebs : List (List Int)} {ea : Nat} {P : List (Nat × Nat)} (h : (m.actual.toNat, ea) ∈ P) : (prdM m ebs ea P).actual.toNat < P.length ∧ atP P (prdM m ebs ea P).actual.toNat = (m.actual.toNat, ea) := by
  have hi := List.idxOf_lt_length_of_mem h
  have hg := List.getElem_idxOf hi
  refine ⟨hi, ?_⟩
  show atP P (P.idxOf (m.actual.toNat, ea)) = _
  unfold atP
  rw [List.getD_eq_getElem?_getD, List.getElem?_eq_getElem hi]; exact hg
theorem prd_ok {m : Md} (hm : mdOk m = true) {ebs : List (List Int)} {ea : Nat} {P : List (Nat × Nat)} (hP : ∀ p ∈ P, p.1 < m.facts.length) (hl : P.length ≤ 16) (h : (m.actual.toNat, ea) ∈ P) : mdOk (prdM m ebs ea P) = true := by
  obtain ⟨p1, p2, p3, p4, p5, p6, p7, p8⟩ := mdOk_parts hm
  have ha := (prd_act (ebs := ebs) h).1
  rw [← specOk_mdOk]
  unfold specOk inB
  simp only [Bool.and_eq_true, decide_eq_true_eq, List.all_eq_true, List.mem_range, beq_iff_eq]
  rw [prd_facts_len, prd_agents]
  have h0 : 0 ≤ (prdM m ebs ea P).actual := Int.natCast_nonneg _
  refine ⟨⟨⟨⟨⟨by omega, hl⟩, p3, p4⟩, by omega, by omega⟩, fun j hj => ?_⟩, fun k hk => ?_⟩
  · rw [prd_fact hj]
    exact p6 _ (hP _ (atP_mem hj))
  · rw [prd_row hk]
    exact ⟨by rw [num_len, prdRow_len], num_ord _⟩
/-- a list without repetitions is no longer than one that has all of it -/
theorem sub_len : ∀ (l l' : List (Nat × Nat)), l.Nodup → (∀ x ∈ l, x ∈ l') → l.length ≤ l'.length
  | [], _, _, _ => Nat.zero_le _
  | a :: l, l', hn, h => by
    obtain ⟨h1, h2⟩ := List.nodup_cons.1 hn
    have ha := h a (List.mem_cons_self ..)
    have := sub_len l (l'.erase a) h2 fun x hx => (List.mem_erase_of_ne (fun e : x = a => h1 (by rw [← e]; exact hx))).2 (h x (List.mem_cons_of_mem _ hx))
    rw [List.length_erase_of_mem ha] at this
    have hp : 1 ≤ l'.length := by cases l' with
      | nil => cases ha
      | cons _ _ => simp
    simp only [List.length_cons]
    omega
/-- the side on which each world stands for a whole class has no more pairs -/
theorem pairs_fewer {m n : Md} {Z : Nat → Nat → Prop} (h : Bis m n Z) (hs : ∀ w, w < n.facts.length → ∃ v, Z v w) (hf : ∀ v w w', Z v w → Z v w' → w = w') {K : Nat} {t t' : Nat → Nat → Bool} (ht : ∀ k v w, k < K → Z v w → t k v = t' k w) :
    (pairsP n.facts.length K t').length ≤ (pairsP m.facts.length K t).length := by
  obtain ⟨g, hg⟩ : ∃ g : Nat → Nat, ∀ w, w < n.facts.length → Z (g w) w := ⟨fun w => if hw : w < n.facts.length then Classical.choose (hs w hw) else 0, fun w hw => by simp only [dif_pos hw]; exact Classical.choose_spec (hs w hw)⟩
  have := sub_len ((pairsP n.facts.length K t').map fun p => (g p.1, p.2)) (pairsP m.facts.length K t) ?_ ?_
  · simpa using this
  · have hn := pairs_nodup K t' n.facts.length
    rw [List.nodup_iff_pairwise_ne] at hn ⊢
    rw [List.pairwise_map]
    refine List.Pairwise.imp_of_mem (fun {a b} ha hb hab e => hab ?_) hn
    obtain ⟨e1, e2⟩ := Prod.mk.inj e
    have z1 := hg _ (mem_pairs.1 ha).1
    have z2 := hg _ (mem_pairs.1 hb).1
    rw [e1] at z1
    exact Prod.ext (hf _ _ _ z1 z2) e2
  · intro x hx
    obtain ⟨p, hp, rfl⟩ := List.mem_map.1 hx
    obtain ⟨m1, m2, m3⟩ := mem_pairs.1 hp
    have z := hg _ m1
    exact mem_pairs.2 ⟨(h.dom _ _ z).1, m2, by show t p.2 (g p.1) = true; rw [ht _ _ _ m2 z]; exact m3⟩
/-- one event: the worlds where its condition is true -/
theorem pairs_one (t : Nat → Nat → Bool) : ∀ n, pairsP n 1 t = (lst (t 0) n).map fun w => (w, 0)
  | 0 => rfl
  | n + 1 => by
    rw [pairs_succ, pairs_one t n, lst_succ, List.map_append]
    cases h : t 0 n with
    | true => simp [List.range_succ, h]
    | false => simp [List.range_succ, h]
end Go.Proofs.YthjfanhhindjlaaGreat
