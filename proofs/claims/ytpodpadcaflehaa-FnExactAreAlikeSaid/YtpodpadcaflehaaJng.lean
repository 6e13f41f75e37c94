/-
  What grid.joined has laid down: the worlds of two models one after the other. No program but its types' numbers.
-/
import Derived.Test.YtpodpadcaflehaaMrg
import Derived.Test.YtpodpadcaflehaaZBis
namespace Go.Proofs.Ytpodpadcaflehaa
open Go.RowKit Go.WideShapes
open Go Go.Deep
set_option linter.unusedSimpArgs false

/-- the blocks of one agent, those of the second model behind those of the first -/
def joinRow (m n : Md) (k : Nat) : List Int := m.blocks.getD k [] ++ (n.blocks.getD k []).map ((m.facts.length : Int) + ·)
theorem joinRow_len {m n : Md} {k : Nat} (h1 : (m.blocks.getD k []).length = m.facts.length) (h2 : (n.blocks.getD k []).length = n.facts.length) : (joinRow m n k).length = m.facts.length + n.facts.length := by
  unfold joinRow; rw [List.length_append, List.length_map, h1, h2]
theorem appD_left {l r : List Int} {i : Nat} (h : i < l.length) : (l ++ r).getD i 0 = l.getD i 0 := by
  rw [List.getD_eq_getElem?_getD, List.getElem?_append_left h, ← List.getD_eq_getElem?_getD]
theorem appD_right {l r : List Int} {i : Nat} (h : l.length ≤ i) : (l ++ r).getD i 0 = r.getD (i - l.length) 0 := by
  rw [List.getD_eq_getElem?_getD, List.getElem?_append_right h, ← List.getD_eq_getElem?_getD]
theorem mapD {l : List Int} {f : Int → Int} {i : Nat} (h : i < l.length) : (l.map f).getD i 0 = f (l.getD i 0) := by
  rw [List.getD_eq_getElem?_getD, List.getElem?_map, List.getElem?_eq_getElem h, List.getD_eq_getElem?_getD, List.getElem?_eq_getElem h]; rfl
/-- only the order of the first occurrences counts: 16 or the number of worlds between the two -/
theorem shift_num {a b : List Int} {c d : Int} (hc : ∀ x ∈ a, x < c) (hd : ∀ x ∈ a, x < d) (hb : ∀ x ∈ b, 0 ≤ x) : num (a ++ b.map (c + ·)) = num (a ++ b.map (d + ·)) := by
  have hl : (a ++ b.map (c + ·)).length = (a ++ b.map (d + ·)).length := by simp
  refine num_cong hl fun i j hi hj => ?_
  have key : ∀ (e : Int) (i : Nat), i < (a ++ b.map (e + ·)).length → (i < a.length ∧ (a ++ b.map (e + ·)).getD i 0 = a.getD i 0 ∧ a.getD i 0 ∈ a) ∨ (a.length ≤ i ∧ (a ++ b.map (e + ·)).getD i 0 = e + b.getD (i - a.length) 0 ∧ 0 ≤ b.getD (i - a.length) 0) := by
    intro e i hi
    rcases Nat.lt_or_ge i a.length with h | h
    · exact .inl ⟨h, appD_left h, getD_mem h⟩
    · have h2 : i - a.length < b.length := by rw [List.length_append, List.length_map] at hi; omega
      exact .inr ⟨h, by rw [appD_right h, mapD h2], hb _ (getD_mem h2)⟩
  rcases key c i hi with ⟨a1, a2, a3⟩ | ⟨a1, a2, a3⟩ <;> rcases key c j hj with ⟨b1, b2, b3⟩ | ⟨b1, b2, b3⟩ <;>
    rcases key d i (by omega) with ⟨c1, c2, c3⟩ | ⟨c1, c2, c3⟩ <;> rcases key d j (by omega) with ⟨d1, d2, d3⟩ | ⟨d1, d2, d3⟩ <;>
    first
      | omega
      | (have e1 := hc _ a3; have e2 := hd _ a3; omega)
      | (have e1 := hc _ b3; have e2 := hd _ b3; omega)
theorem joinRow_num {m n : Md} (hm : mdOk m = true) (hn : mdOk n = true) (hb : m.blocks.length = n.blocks.length) {k : Nat} (hk : k < m.blocks.length) : num (joinRow m n k) = num (bothRow m n k) := by
  obtain ⟨p1, p2, p3, p4, p5, p6, p7, p8⟩ := mdOk_parts hm
  obtain ⟨q1, q2, q3, q4, q5, q6, q7, q8⟩ := mdOk_parts hn
  obtain ⟨r1, r2⟩ := p5 k hk
  obtain ⟨s1, s2⟩ := q5 k (by omega)
  unfold joinRow bothRow
  refine shift_num (fun x hx => ?_) (fun x hx => ?_) (fun x hx => ?_)
  · have := (ord_bd r2 hx).2; omega
  · have := (ord_bd r2 hx).2; omega
  · exact (ord_bd s2 hx).1

/-- what the joined grid holds when q worlds of the second model and j agents of the next one have been laid down -/
structure Jnd (m n : Md) (h : Nat → Int) (q q' j : Nat) : Prop where
  n0 : h 0 = ((m.facts.length : Int) + (n.facts.length : Int))
  a : h 1 = (m.blocks.length : Int)
  f : ∀ i, i < 16 → h (2 + i) = if i < m.facts.length + q' then (m.facts ++ n.facts).getD i 0 else 0
  r : ∀ k i, k < 3 → i < 16 → h (18 + k * 16 + i) = if i < m.facts.length + (if k < j then q' else q) ∧ k < m.blocks.length then (joinRow m n k).getD i 0 else 0
  c : h 66 = m.actual
theorem getD_past {l : List Int} {i : Nat} (h : l.length ≤ i) : l.getD i 0 = 0 := by
  rw [List.getD_eq_getElem?_getD, List.getElem?_eq_none h]; rfl
theorem Jnd.start {m n : Md} (hm : mdOk m = true) : Jnd m n (updI (gfun m.facts.length m.blocks.length m.facts m.blocks m.actual) 0 ((m.facts.length : Int) + (n.facts.length : Int))) 0 0 0 := by
  obtain ⟨p1, p2, p3, p4, p5, p6, p7, p8⟩ := mdOk_parts hm
  have g := gfun_gf m.facts.length m.blocks.length m.facts m.blocks m.actual
  refine ⟨by simp [updI], by simp [updI]; exact g.h1, fun i hi => ?_, fun k i hk hi => ?_, by simp [updI]; exact g.hc⟩
  · unfold updI
    rw [if_neg (by omega), g.hf i hi]
    rcases Nat.lt_or_ge i m.facts.length with h | h
    · rw [if_pos (by omega), appD_left h]
    · rw [if_neg (by omega), getD_past h]
  · unfold updI
    rw [if_neg (by omega), g.hr k i hk hi]
    rcases Nat.lt_or_ge k m.blocks.length with hk2 | hk2
    · obtain ⟨r1, _⟩ := p5 k hk2
      rcases Nat.lt_or_ge i m.facts.length with h | h
      · rw [if_pos ⟨by simp; omega, hk2⟩]
        unfold joinRow
        rw [appD_left (by omega)]
      · rw [if_neg (fun h2 => by have := h2.1; simp at this; omega), getD_past (by omega)]
    · rw [if_neg (fun h2 => by omega), List.getD_eq_getElem?_getD (l := m.blocks), List.getElem?_eq_none hk2]; rfl
theorem Jnd.facts {m n : Md} {h : Nat → Int} {q : Nat} {x : Int} (g : Jnd m n h q q 0) (hx : x = n.facts.getD q 0) (hq : q < n.facts.length) (hl : m.facts.length + n.facts.length ≤ 16) : Jnd m n (updI h (2 + (m.facts.length + q)) x) q (q + 1) 0 := by
  refine ⟨?_, ?_, fun i hi => ?_, fun k i hk hi => ?_, ?_⟩
  · unfold updI; rw [if_neg (by omega)]; exact g.n0
  · unfold updI; rw [if_neg (by omega)]; exact g.a
  · unfold updI
    by_cases e : i = m.facts.length + q
    · subst e
      rw [if_pos rfl, if_pos (by omega), appD_right (Nat.le_add_right _ _), hx]
      congr 1; omega
    · rw [if_neg (by omega), g.f i hi]
      by_cases h1 : i < m.facts.length + q
      · rw [if_pos h1, if_pos (by omega)]
      · rw [if_neg h1, if_neg (by omega)]
  · unfold updI
    rw [if_neg (by omega), g.r k i hk hi]
    simp
  · unfold updI; rw [if_neg (by omega)]; exact g.c
theorem Jnd.block {m n : Md} {h : Nat → Int} {q j : Nat} {x : Int} (g : Jnd m n h q (q + 1) j) (hj : j < m.blocks.length) (hA : m.blocks.length ≤ 3) (hr : (m.blocks.getD j []).length = m.facts.length) (hr2 : (n.blocks.getD j []).length = n.facts.length) (hq : q < n.facts.length) (hl : m.facts.length + n.facts.length ≤ 16)
    (hx : x = (m.facts.length : Int) + (n.blocks.getD j []).getD q 0) : Jnd m n (updI h (18 + j * 16 + (m.facts.length + q)) x) q (q + 1) (j + 1) := by
  refine ⟨?_, ?_, fun i hi => ?_, fun k i hk hi => ?_, ?_⟩
  · unfold updI; rw [if_neg (by omega)]; exact g.n0
  · unfold updI; rw [if_neg (by omega)]; exact g.a
  · unfold updI; rw [if_neg (by omega)]; exact g.f i hi
  · unfold updI
    by_cases e : 18 + k * 16 + i = 18 + j * 16 + (m.facts.length + q)
    · have h1 : k = j := by omega
      have h2 : i = m.facts.length + q := by omega
      subst h1 h2
      rw [if_pos e, show (if k < k + 1 then q + 1 else q) = q + 1 from if_pos (by omega), if_pos ⟨by omega, hj⟩, hx]
      unfold joinRow
      have e3 : m.facts.length + q - (m.blocks.getD k []).length = q := by omega
      rw [appD_right (l := m.blocks.getD k []) (by omega), mapD (by omega), e3]
    · rw [if_neg e, g.r k i hk hi]
      by_cases hkj : k < j
      · rw [show (if k < j then q + 1 else q) = q + 1 from if_pos hkj, show (if k < j + 1 then q + 1 else q) = q + 1 from if_pos (by omega)]
      · rw [show (if k < j then q + 1 else q) = q from if_neg hkj]
        by_cases hk2 : k = j
        · subst hk2
          have hne : i ≠ m.facts.length + q := fun e2 => e (by omega)
          rw [show (if k < k + 1 then q + 1 else q) = q + 1 from if_pos (by omega)]
          by_cases h1 : i < m.facts.length + q
          · rw [if_pos ⟨h1, hj⟩, if_pos ⟨by omega, hj⟩]
          · rw [if_neg (fun h2 => h1 h2.1), if_neg (fun h2 => by have := h2.1; omega)]
        · rw [show (if k < j + 1 then q + 1 else q) = q from if_neg (by omega)]
  · unfold updI; rw [if_neg (by omega)]; exact g.c
theorem Jnd.next {m n : Md} {h : Nat → Int} {q : Nat} (g : Jnd m n h q (q + 1) m.blocks.length) : Jnd m n h (q + 1) (q + 1) 0 :=
  ⟨g.n0, g.a, g.f, fun k i hk hi => by
    rw [g.r k i hk hi]
    by_cases hkA : k < m.blocks.length
    · simp [hkA]
    · rw [if_neg (fun h => hkA h.2), if_neg (fun h => hkA h.2)], g.c⟩
theorem Jnd.finish {m n : Md} {h : Nat → Int} (g : Jnd m n h n.facts.length n.facts.length 0) (hm : mdOk m = true) (hn : mdOk n = true) (hb : m.blocks.length = n.blocks.length) (hl : m.facts.length + n.facts.length ≤ 16) :
    gL ((m.facts.length + n.facts.length : Nat) : Int) m.blocks.length (m.facts ++ n.facts) ((List.range m.blocks.length).map (joinRow m n)) m.actual = gG h ∧ small (m.facts ++ n.facts) ((List.range m.blocks.length).map (joinRow m n)) ∧
    (∀ k, k < ((List.range m.blocks.length).map (joinRow m n)).length → (((List.range m.blocks.length).map (joinRow m n)).getD k []).length = m.facts.length + n.facts.length) ∧
    gL ((m.facts.length + n.facts.length : Nat) : Int) m.blocks.length (m.facts ++ n.facts) (((List.range m.blocks.length).map (joinRow m n)).map num) m.actual = gOf (bothM m n) := by
  obtain ⟨p1, p2, p3, p4, p5, p6, p7, p8⟩ := mdOk_parts hm
  obtain ⟨q1, q2, q3, q4, q5, q6, q7, q8⟩ := mdOk_parts hn
  have hrow : ∀ k, ((List.range m.blocks.length).map (joinRow m n)).getD k [] = if k < m.blocks.length then joinRow m n k else [] := fun k => by
    rw [List.getD_eq_getElem?_getD, List.getElem?_map]
    rcases Nat.lt_or_ge k m.blocks.length with h | h
    · rw [List.getElem?_range h, if_pos h]; rfl
    · rw [List.getElem?_eq_none (by simpa using h), if_neg (by omega)]; rfl
  have hlen : ∀ k, k < m.blocks.length → (joinRow m n k).length = m.facts.length + n.facts.length := fun k hk => joinRow_len (p5 k hk).1 (q5 k (by omega)).1
  have hs : small (m.facts ++ n.facts) ((List.range m.blocks.length).map (joinRow m n)) := ⟨by simpa using hl, fun k => by
    rw [hrow k]
    split
    · rename_i h; rw [hlen k h]; exact hl
    · simp⟩
  refine ⟨GF.eq ⟨by rw [g.n0]; simp, g.a, fun i hi => ?_, fun k i hk hi => ?_, g.c⟩ hs, hs, fun k hk => ?_, ?_⟩
  · rw [g.f i hi]
    rcases Nat.lt_or_ge i (m.facts.length + n.facts.length) with h1 | h1
    · rw [if_pos h1]
    · rw [if_neg (by omega), getD_past (by simpa using h1)]
  · rw [g.r k i hk hi, hrow k]
    simp only [Nat.not_lt_zero, if_false]
    by_cases hkA : k < m.blocks.length
    · rw [if_pos hkA]
      rcases Nat.lt_or_ge i (m.facts.length + n.facts.length) with h1 | h1
      · rw [if_pos ⟨h1, hkA⟩]
      · rw [if_neg (fun h => by omega), getD_past (by rw [hlen k hkA]; exact h1)]
    · rw [if_neg (fun h => hkA h.2), if_neg hkA]; simp
  · rw [List.length_map, List.length_range] at hk
    rw [hrow k, if_pos hk, hlen k hk]
  · unfold gOf bothM
    simp only [List.length_append, List.length_map, List.length_range, List.map_map]
    congr 1
    exact List.map_congr_left fun k hk => joinRow_num hm hn hb (List.mem_range.1 hk)
end Go.Proofs.Ytpodpadcaflehaa
