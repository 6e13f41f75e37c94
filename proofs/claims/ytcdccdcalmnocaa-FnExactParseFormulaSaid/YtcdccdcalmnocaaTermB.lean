/-
  Plain mathematics of formulas, continued: layouts are formulas; a formula's term has as many nodes as the formula; reading texts. No program.
-/
import Derived.Test.YtcdccdcalmnocaaTerm
namespace Go.Proofs.Ytcdccdcalmnocaa
open Go

theorem getD_app_left {α : Type} {l r : List α} {i : Nat} {d : α} (h : i < l.length) : (l ++ r).getD i d = l.getD i d := by
  rw [List.getD_eq_getElem?_getD, List.getD_eq_getElem?_getD, List.getElem?_append_left h]
theorem getD_app_right {α : Type} {l r : List α} {i : Nat} {d : α} : (l ++ r).getD (l.length + i) d = r.getD i d := by
  rw [List.getD_eq_getElem?_getD, List.getD_eq_getElem?_getD, List.getElem?_append_right (by omega), Nat.add_sub_cancel_left]

/- the layout's nodes are right -/
theorem okAt_mk {op n a b : Int} {i : Nat} (h : 1 ≤ op ∧ op ≤ 9 ∧ 0 ≤ n ∧ n < limN op) (ha : if 1 ≤ usesI op then 0 ≤ a ∧ a < i else a = 0) (hb : if usesI op = 2 then 0 ≤ b ∧ b < i else b = 0) : okAt ⟨op, n, a, b⟩ i = true := by
  unfold okAt headOk idxOk
  simp only [Bool.and_eq_true, decide_eq_true_eq]
  refine ⟨⟨⟨⟨⟨h.1, h.2.1⟩, h.2.2.1⟩, h.2.2.2⟩, ?_⟩, ?_⟩
  · by_cases hu : 1 ≤ usesI op
    · rw [if_pos hu] at ha; simp [hu, ha]
    · rw [if_neg hu] at ha; simp [hu, ha]
  · by_cases hu : usesI op = 2
    · rw [if_pos hu] at hb; simp [hu, hb]
    · rw [if_neg hu] at hb; simp [hu, hb]
theorem limN_3 : limN 3 = 1 := rfl
theorem limN_48 {op : Int} (h : op = 4 ∨ op = 9) : limN op = 1 := by rcases h with rfl | rfl <;> rfl
theorem lay_ok : ∀ (T : Tm) (k : Nat), T.wf → ∀ i, i < T.size → okAt ((lay k T).getD i default) (k + i) = true := by
  intro T
  induction T with
  | leaf op n =>
    intro k h i hi
    have hi0 : i = 0 := by simp only [Tm.size] at hi; omega
    subst hi0
    have h0 : usesI op = 0 := usesI_0 h.1
    refine okAt_mk ⟨by have := h.1; omega, by have := h.1; omega, h.2⟩ ?_ ?_
    · rw [if_neg (by omega)]
    · rw [if_neg (by omega)]
  | deny a ih =>
    intro k h i hi
    have hs := a.size_pos
    simp only [lay]
    rcases Nat.lt_or_ge i a.size with hl | hl
    · rw [getD_app_left (by rw [lay_len]; exact hl)]; exact ih k h i hl
    · have hi0 : i = (lay k a).length + 0 := by simp only [Tm.size] at hi; rw [lay_len]; omega
      rw [hi0, getD_app_right, lay_len]
      refine okAt_mk ⟨by decide, by decide, by decide, by decide⟩ ?_ ?_
      · rw [if_pos (by decide)]; exact ⟨by omega, by omega⟩
      · rw [if_neg (by decide)]
  | know op n a ih =>
    intro k h i hi
    have hs := a.size_pos
    simp only [lay]
    rcases Nat.lt_or_ge i a.size with hl | hl
    · rw [getD_app_left (by rw [lay_len]; exact hl)]; exact ih k h.2.2.2 i hl
    · have hi0 : i = (lay k a).length + 0 := by simp only [Tm.size] at hi; rw [lay_len]; omega
      rw [hi0, getD_app_right, lay_len]
      have h1 : usesI op = 1 := usesI_1 (by have := h.1; omega)
      refine okAt_mk ⟨by have := h.1; omega, by have := h.1; omega, h.2.1, h.2.2.1⟩ ?_ ?_
      · rw [if_pos (by omega)]; exact ⟨by omega, by omega⟩
      · rw [if_neg (by omega)]
  | joint op a b iha ihb =>
    intro k h i hi
    have hs := a.size_pos
    have hs' := b.size_pos
    simp only [lay]
    rcases Nat.lt_or_ge i a.size with hl | hl
    · rw [List.append_assoc, getD_app_left (by rw [lay_len]; exact hl)]; exact iha k h.2.1 i hl
    · rcases Nat.lt_or_ge i (a.size + b.size) with hl' | hl'
      · have hi0 : i = (lay k a).length + (i - a.size) := by rw [lay_len]; omega
        rw [List.append_assoc, hi0, getD_app_right, getD_app_left (by rw [lay_len]; omega), lay_len]
        have := ihb (k + a.size) h.2.2 (i - a.size) (by omega)
        rw [show k + a.size + (i - a.size) = k + (a.size + (i - a.size)) by omega] at this
        exact this
      · have hi0 : i = (lay k a ++ lay (k + a.size) b).length + 0 := by simp only [Tm.size] at hi; rw [List.length_append, lay_len, lay_len]; omega
        rw [hi0, getD_app_right, List.length_append, lay_len, lay_len]
        have h2 : usesI op = 2 := usesI_2 h.1
        refine okAt_mk ⟨by have := h.1; omega, by have := h.1; omega, by decide, by rw [limN_48 h.1]; decide⟩ ?_ ?_
        · rw [if_pos (by omega)]; exact ⟨by omega, by omega⟩
        · rw [if_pos h2]; exact ⟨by omega, by omega⟩

theorem allUsed_app (xs ys : List Nd) : allUsed (xs ++ ys) = allUsed xs ++ allUsed ys := by simp [allUsed]
theorem count1 (i j : Nat) : List.count i [j] = if i = j then 1 else 0 := by
  rw [List.count_singleton]
  by_cases h : j = i
  · subst h; simp
  · have h' : ¬ i = j := fun e => h e.symm
    simp [h, h']
theorem lay_count : ∀ (T : Tm) (k : Nat), T.ops → ∀ i, (allUsed (lay k T)).count i = if k ≤ i ∧ i + 1 < k + T.size then 1 else 0 := by
  intro T
  induction T with
  | leaf op n =>
    intro k h i
    rw [if_neg (by simp only [Tm.size]; omega)]
    have h0 : usesI op = 0 := usesI_0 h
    simp [lay, allUsed, usedOf, h0]
  | deny a ih =>
    intro k h i
    have hs := a.size_pos
    have hz : (Tm.deny a).size = a.size + 1 := rfl
    have hu : usedOf ⟨3, 0, (k + a.size : Nat) - 1, 0⟩ = [k + a.size - 1] := by
      show ([(((k + a.size : Nat) : Int) - 1).toNat, (0 : Int).toNat]).take 1 = _
      rw [show (((k + a.size : Nat) : Int) - 1).toNat = k + a.size - 1 by omega]; rfl
    simp only [lay]
    rw [allUsed_app, List.count_append, ih k h i]
    simp only [allUsed, List.flatMap_cons, List.flatMap_nil, List.append_nil, hu, count1]
    by_cases c1 : k ≤ i ∧ i + 1 < k + a.size <;> by_cases c2 : i = k + a.size - 1 <;> by_cases c3 : k ≤ i ∧ i + 1 < k + (Tm.deny a).size <;>
      (first | rw [if_pos c1] | rw [if_neg c1]) <;> (first | rw [if_pos c2] | rw [if_neg c2]) <;> (first | rw [if_pos c3] | rw [if_neg c3]) <;> omega
  | know op n a ih =>
    intro k h i
    have hs := a.size_pos
    have hz : (Tm.know op n a).size = a.size + 1 := rfl
    have h1 : usesI op = 1 := usesI_1 (by have := h.1; omega)
    have hu : usedOf ⟨op, n, (k + a.size : Nat) - 1, 0⟩ = [k + a.size - 1] := by
      show ([(((k + a.size : Nat) : Int) - 1).toNat, (0 : Int).toNat]).take (usesI op) = _
      rw [h1, show (((k + a.size : Nat) : Int) - 1).toNat = k + a.size - 1 by omega]; rfl
    simp only [lay]
    rw [allUsed_app, List.count_append, ih k h.2 i]
    simp only [allUsed, List.flatMap_cons, List.flatMap_nil, List.append_nil, hu, count1]
    by_cases c1 : k ≤ i ∧ i + 1 < k + a.size <;> by_cases c2 : i = k + a.size - 1 <;> by_cases c3 : k ≤ i ∧ i + 1 < k + (Tm.know op n a).size <;>
      (first | rw [if_pos c1] | rw [if_neg c1]) <;> (first | rw [if_pos c2] | rw [if_neg c2]) <;> (first | rw [if_pos c3] | rw [if_neg c3]) <;> omega
  | joint op a b iha ihb =>
    intro k h i
    have hs := a.size_pos
    have hz : (Tm.joint op a b).size = a.size + b.size + 1 := rfl
    have hs' := b.size_pos
    have h2 : usesI op = 2 := usesI_2 h.1
    have hu : usedOf ⟨op, 0, (k + a.size : Nat) - 1, (k + a.size + b.size : Nat) - 1⟩ = [k + a.size - 1] ++ [k + a.size + b.size - 1] := by
      show ([(((k + a.size : Nat) : Int) - 1).toNat, (((k + a.size + b.size : Nat) : Int) - 1).toNat]).take (usesI op) = _
      rw [h2, show (((k + a.size : Nat) : Int) - 1).toNat = k + a.size - 1 by omega, show (((k + a.size + b.size : Nat) : Int) - 1).toNat = k + a.size + b.size - 1 by omega]; rfl
    simp only [lay]
    rw [allUsed_app, allUsed_app, List.count_append, List.count_append, iha k h.2.1 i, ihb (k + a.size) h.2.2 i]
    simp only [allUsed, List.flatMap_cons, List.flatMap_nil, List.append_nil, hu, List.count_append, count1]
    by_cases c1 : k ≤ i ∧ i + 1 < k + a.size <;> by_cases c2 : i = k + a.size - 1 <;> by_cases c3 : k ≤ i ∧ i + 1 < k + (Tm.joint op a b).size <;> by_cases c4 : k + a.size ≤ i ∧ i + 1 < k + a.size + b.size <;> by_cases c5 : i = k + a.size + b.size - 1 <;>
      (first | rw [if_pos c1] | rw [if_neg c1]) <;> (first | rw [if_pos c2] | rw [if_neg c2]) <;> (first | rw [if_pos c3] | rw [if_neg c3]) <;> (first | rw [if_pos c4] | rw [if_neg c4]) <;> (first | rw [if_pos c5] | rw [if_neg c5]) <;> omega
theorem lay_formOk {T : Tm} (h : T.wf) (hs : T.size ≤ 40) : formOk (lay 0 T) = true := by
  have hp := T.size_pos
  unfold formOk nodesOk onceOk
  rw [lay_len]
  simp only [Bool.and_eq_true, decide_eq_true_eq, List.all_eq_true, List.mem_range]
  refine ⟨⟨⟨by omega, hs⟩, fun i hi => ?_⟩, fun i hi => ?_⟩
  · have := lay_ok T 0 h i hi
    rwa [Nat.zero_add] at this
  · rw [lay_count T 0 (Tm.wf_ops T h) i, if_pos (by omega)]
theorem lay_formNot {T : Tm} (hs : 40 < T.size) : formOk (lay 0 T) = false := by
  unfold formOk
  rw [lay_len, show decide (T.size ≤ 40) = false by simp; omega]
  simp
/-- a root with an agent that is none -/
theorem lay_rootNot {n : Int} {a : Tm} (h : n < 0 ∨ 3 ≤ n) : formOk (lay 0 (.know 5 n a)) = false := by
  have hl : (lay 0 (.know 5 n a)).length = a.size + 1 := lay_len _ _
  cases hf : formOk (lay 0 (.know 5 n a)) with
  | false => rfl
  | true =>
    unfold formOk at hf
    simp only [Bool.and_eq_true] at hf
    have := okAt_parts (nodesOk_at hf.1.2 (i := a.size) (by rw [hl]; omega))
    have e : (lay 0 (.know 5 n a)).getD a.size default = ⟨5, n, (0 + a.size : Nat) - 1, 0⟩ := by
      show (lay 0 a ++ [_]).getD a.size default = _
      have := getD_app_right (l := lay 0 a) (r := [(⟨5, n, (0 + a.size : Nat) - 1, 0⟩ : Nd)]) (i := 0) (d := default)
      rw [lay_len, Nat.add_zero] at this
      exact this
    rw [e] at this
    have h3 : limN 5 = 3 := rfl
    simp only [h3] at this
    omega

/- a formula's term -/
theorem formOk_parts {xs : List Nd} (h : formOk xs = true) : 1 ≤ xs.length ∧ xs.length ≤ 40 ∧ nodesOk xs = true ∧ ∀ i, i < xs.length - 1 → (allUsed xs).count i = 1 := by
  unfold formOk onceOk at h
  simp only [Bool.and_eq_true, decide_eq_true_eq, List.all_eq_true, List.mem_range] at h
  exact ⟨h.1.1.1, h.1.1.2, h.1.2, h.2⟩
def sumN (l : List Nat) : Nat := l.foldr (· + ·) 0
theorem sumN_cons (a : Nat) (l : List Nat) : sumN (a :: l) = a + sumN l := rfl
theorem sumN_app (l r : List Nat) : sumN (l ++ r) = sumN l + sumN r := by
  induction l with
  | nil => simp [sumN]
  | cons a l ih => rw [List.cons_append, sumN_cons, sumN_cons, ih]; omega
theorem sumN_perm {l r : List Nat} (h : l.Perm r) : sumN l = sumN r := by
  induction h with
  | nil => rfl
  | cons a _ ih => rw [sumN_cons, sumN_cons, ih]
  | swap a b l => simp only [sumN_cons]; omega
  | trans _ _ ih1 ih2 => rw [ih1, ih2]
theorem mkTm_size {op n : Int} {a b : Tm} : (mkTm op n a b).size = 1 + sumN ([a.size, b.size].take (usesI op)) := by
  unfold mkTm
  by_cases h0 : op = 1 ∨ op = 2
  · rw [if_pos h0, usesI_0 h0]; rfl
  rw [if_neg h0]
  by_cases h4 : op = 4 ∨ op = 9
  · rw [if_neg (by omega), if_pos h4, usesI_2 h4]; simp [sumN, Tm.size]; omega
  have h1 : usesI op = 1 := usesI_1 (by omega)
  by_cases h3 : op = 3
  · rw [if_pos h3, h1]; simp [sumN, Tm.size]; omega
  · rw [if_neg h3, if_neg h4, h1]; simp [sumN, Tm.size]; omega
theorem tmAt_size {xs : List Nd} (h : nodesOk xs = true) {i : Nat} (hi : i < xs.length) : (tmAt xs i).size = 1 + sumN ((usedOf (xs.getD i default)).map fun j => (tmAt xs j).size) := by
  rw [tmAt_eq h hi, mkTm_size]
  unfold usedOf
  rw [List.map_take]
  rfl
theorem sum_used {xs : List Nd} (h : nodesOk xs = true) : ∀ m, m ≤ xs.length → sumN ((List.range m).map fun i => (tmAt xs i).size) = m + sumN ((allUsed (xs.take m)).map fun j => (tmAt xs j).size) := by
  intro m
  induction m with
  | zero => intro _; simp [sumN, allUsed]
  | succ m ih =>
    intro hm
    have e : xs.take (m + 1) = xs.take m ++ [xs.getD m default] := by
      rw [List.take_succ_eq_append_getElem (by omega), List.getD_eq_getElem?_getD, List.getElem?_eq_getElem (by omega)]; rfl
    rw [List.range_succ, List.map_append, sumN_app, ih (by omega), e, allUsed_app, List.map_append, sumN_app]
    have := tmAt_size h (i := m) (by omega)
    simp only [List.map_cons, List.map_nil, sumN_cons, allUsed, List.flatMap_cons, List.flatMap_nil, List.append_nil]
    simp only [sumN, List.foldr_nil] at *
    omega
theorem used_lt {xs : List Nd} (h : nodesOk xs = true) {j : Nat} (hj : j ∈ allUsed xs) : j + 1 < xs.length := by
  unfold allUsed at hj
  obtain ⟨x, hx, hj⟩ := List.mem_flatMap.1 hj
  obtain ⟨i, hi, rfl⟩ := List.getElem_of_mem hx
  have hp := okAt_parts (nodesOk_at h hi)
  rw [show xs.getD i default = xs[i] by rw [List.getD_eq_getElem?_getD, List.getElem?_eq_getElem hi]; rfl] at hp
  have hu := usesI_le xs[i].op
  unfold usedOf at hj
  match hn : usesI xs[i].op with
  | 0 => rw [hn] at hj; simp at hj
  | 1 =>
    rw [hn] at hj
    have : j = xs[i].a.toNat := by simpa using hj
    have := hp.2.1 (by omega)
    omega
  | 2 =>
    rw [hn] at hj
    have : j = xs[i].a.toNat ∨ j = xs[i].b.toNat := by simpa using hj
    have := hp.2.1 (by omega)
    have := hp.2.2.1 hn
    omega
  | n + 3 => omega
theorem count_range (n i : Nat) : (List.range n).count i = if i < n then 1 else 0 := by
  induction n with
  | zero => simp
  | succ n ih =>
    rw [List.range_succ, List.count_append, ih, count1]
    split <;> split <;> split <;> omega
theorem form_size {xs : List Nd} (h : formOk xs = true) : (tmAt xs (xs.length - 1)).size = xs.length := by
  obtain ⟨h1, h2, h3, h4⟩ := formOk_parts h
  have hp : (allUsed xs).Perm (List.range (xs.length - 1)) := by
    rw [List.perm_iff_count]
    intro i
    by_cases hi : i < xs.length - 1
    · rw [h4 i hi, count_range, if_pos hi]
    · rw [List.count_eq_zero_of_not_mem (fun hm => by have := used_lt h3 hm; omega), List.count_eq_zero_of_not_mem (fun hm => hi (List.mem_range.1 hm))]
  have hs := sum_used h3 xs.length (Nat.le_refl _)
  rw [List.take_length, sumN_perm (hp.map fun j => (tmAt xs j).size)] at hs
  obtain ⟨m, hm⟩ : ∃ m, xs.length = m + 1 := ⟨xs.length - 1, by omega⟩
  rw [hm] at hs ⊢
  rw [List.range_succ, List.map_append, sumN_app] at hs
  simp only [List.map_cons, List.map_nil, sumN_cons, Nat.add_sub_cancel] at hs ⊢
  simp only [sumN, List.foldr_nil] at hs
  omega
theorem form_wf {xs : List Nd} (h : formOk xs = true) : (tmAt xs (xs.length - 1)).wf := by
  obtain ⟨h1, h2, h3, h4⟩ := formOk_parts h
  exact tmAt_wf h3 _ _ (Nat.le_refl _) (by omega)
end Go.Proofs.Ytcdccdcalmnocaa
