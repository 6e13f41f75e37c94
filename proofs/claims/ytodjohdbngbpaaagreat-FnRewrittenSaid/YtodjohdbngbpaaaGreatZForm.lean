/-
  Several texts in one: TermB Form FormI FormS. Conditions: as each theorem says.
-/
import Derived.Test.YtodjohdbngbpaaaGreatZTerm
/-
  Plain mathematics of formulas, continued: layouts are formulas; a formula's term has as many nodes as the formula; reading texts. No program.
-/
namespace Go.Proofs.YtodjohdbngbpaaaGreat
open Go

theorem getD_app_left {α : Type} {l r : List α} {i : Nat} {d : α} (h : i < l.length) : (l ++ r).getD i d = l.getD i d := by
  rw [List.getD_eq_getElem?_getD, List.getD_eq_getElem?_getD, List.getElem?_append_left h]
theorem getD_app_right {α : Type} {l r : List α} {i : Nat} {d : α} : (l ++ r).getD (l.length + i) d = r.getD i d := by
  rw [List.getD_eq_getElem?_getD, List.getD_eq_getElem?_getD, List.getElem?_append_right (by omega), Nat.add_sub_cancel_left]

/- the layout's nodes are right -/
theorem okAt_mk {op n a b : Int} {i : Nat} (h : 1 ≤ op ∧ op ≤ 9 ∧ 0 ≤ n ∧ n < limN op) (ha : if 1 ≤ usesI op then 0 ≤ a ∧ a < i else a = 0) (hb : if usesI op = 2 then 0 ≤ b ∧ b < i else b = 0) : okAt ⟨op, n, a, b⟩ i = true := by
  unfold okAt headOk idxOk
  simp only [Bool.and_eq_true, decide_eq_true_eq]
  refine ⟨⟨⟨⟨⟨h.1, h.2.1⟩, h.2.2.1⟩, h.2.2.2⟩, ?_⟩, ?_⟩
  · by_cases hu : 1 ≤ usesI op
    · rw [if_pos hu] at ha; simp [hu, ha]
    · rw [if_neg hu] at ha; simp [hu, ha]
  · by_cases hu : usesI op = 2
    · rw [if_pos hu] at hb; simp [hu, hb]
    · rw [if_neg hu] at hb; simp [hu, hb]
theorem limN_48 {op : Int} (h : op = 4 ∨ op = 9) : limN op = 1 := by rcases h with rfl | rfl <;> rfl
theorem lay_ok : ∀ (T : Tm) (k : Nat), T.wf → ∀ i, i < T.size → okAt ((lay k T).getD i default) (k + i) = true := by
  intro T
  induction T with
  | leaf op n =>
    intro k h i hi
    have hi0 : i = 0 := by simp only [Tm.size] at hi; omega
    subst hi0
    have h0 : usesI op = 0 := usesI_0 h.1
    refine okAt_mk ⟨by have := h.1; omega, by have := h.1; omega, h.2⟩ ?_ ?_
    · rw [if_neg (by omega)]
    · rw [if_neg (by omega)]
  | deny a ih =>
    intro k h i hi
    have hs := a.size_pos
    simp only [lay]
    rcases Nat.lt_or_ge i a.size with hl | hl
    · rw [getD_app_left (by rw [lay_len]; exact hl)]; exact ih k h i hl
    · have hi0 : i = (lay k a).length + 0 := by simp only [Tm.size] at hi; rw [lay_len]; omega
      rw [hi0, getD_app_right, lay_len]
      refine okAt_mk ⟨by decide, by decide, by decide, by decide⟩ ?_ ?_
      · rw [if_pos (by decide)]; exact ⟨by omega, by omega⟩
      · rw [if_neg (by decide)]
  | know op n a ih =>
    intro k h i hi
    have hs := a.size_pos
    simp only [lay]
    rcases Nat.lt_or_ge i a.size with hl | hl
    · rw [getD_app_left (by rw [lay_len]; exact hl)]; exact ih k h.2.2.2 i hl
    · have hi0 : i = (lay k a).length + 0 := by simp only [Tm.size] at hi; rw [lay_len]; omega
      rw [hi0, getD_app_right, lay_len]
      have h1 : usesI op = 1 := usesI_1 (by have := h.1; omega)
      refine okAt_mk ⟨by have := h.1; omega, by have := h.1; omega, h.2.1, h.2.2.1⟩ ?_ ?_
      · rw [if_pos (by omega)]; exact ⟨by omega, by omega⟩
      · rw [if_neg (by omega)]
  | joint op a b iha ihb =>
    intro k h i hi
    have hs := a.size_pos
    have hs' := b.size_pos
    simp only [lay]
    rcases Nat.lt_or_ge i a.size with hl | hl
    · rw [List.append_assoc, getD_app_left (by rw [lay_len]; exact hl)]; exact iha k h.2.1 i hl
    · rcases Nat.lt_or_ge i (a.size + b.size) with hl' | hl'
      · have hi0 : i = (lay k a).length + (i - a.size) := by rw [lay_len]; omega
        rw [List.append_assoc, hi0, getD_app_right, getD_app_left (by rw [lay_len]; omega), lay_len]
        have := ihb (k + a.size) h.2.2 (i - a.size) (by omega)
        rw [show k + a.size + (i - a.size) = k + (a.size + (i - a.size)) by omega] at this
        exact this
      · have hi0 : i = (lay k a ++ lay (k + a.size) b).length + 0 := by simp only [Tm.size] at hi; rw [List.length_append, lay_len, lay_len]; omega
        rw [hi0, getD_app_right, List.length_append, lay_len, lay_len]
        have h2 : usesI op = 2 := usesI_2 h.1
        refine okAt_mk ⟨by have := h.1; omega, by have := h.1; omega, by decide, by rw [limN_48 h.1]; decide⟩ ?_ ?_
        · rw [if_pos (by omega)]; exact ⟨by omega, by omega⟩
        · rw [if_pos h2]; exact ⟨by omega, by omega⟩

theorem allUsed_app (xs ys : List Nd) : allUsed (xs ++ ys) = allUsed xs ++ allUsed ys := by simp [allUsed]
theorem count1 (i j : Nat) : List.count i [j] = if i = j then 1 else 0 := by
  rw [List.count_singleton]
  by_cases h : j = i
  · subst h; simp
  · have h' : ¬ i = j := fun e => h e.symm
    simp [h, h']
theorem lay_count : ∀ (T : Tm) (k : Nat), T.ops → ∀ i, (allUsed (lay k T)).count i = if k ≤ i ∧ i + 1 < k + T.size then 1 else 0 := by
  intro T
  induction T with
  | leaf op n =>
    intro k h i
    rw [if_neg (by simp only [Tm.size]; omega)]
    have h0 : usesI op = 0 := usesI_0 h
    simp [lay, allUsed, usedOf, h0]
  | deny a ih =>
    intro k h i
    have hs := a.size_pos
    have hz : (Tm.deny a).size = a.size + 1 := rfl
    have hu : usedOf ⟨3, 0, (k + a.size : Nat) - 1, 0⟩ = [k + a.size - 1] := by
      show ([(((k + a.size : Nat) : Int) - 1).toNat, (0 : Int).toNat]).take 1 = _
      rw [show (((k + a.size : Nat) : Int) - 1).toNat = k + a.size - 1 by omega]; rfl
    simp only [lay]
    rw [allUsed_app, List.count_append, ih k h i]
    simp only [allUsed, List.flatMap_cons, List.flatMap_nil, List.append_nil, hu, count1]
    by_cases c1 : k ≤ i ∧ i + 1 < k + a.size <;> by_cases c2 : i = k + a.size - 1 <;> by_cases c3 : k ≤ i ∧ i + 1 < k + (Tm.deny a).size <;>
      (first | rw [if_pos c1] | rw [if_neg c1]) <;> (first | rw [if_pos c2] | rw [if_neg c2]) <;> (first | rw [if_pos c3] | rw [if_neg c3]) <;> omega
  | know op n a ih =>
    intro k h i
    have hs := a.size_pos
    have hz : (Tm.know op n a).size = a.size + 1 := rfl
    have h1 : usesI op = 1 := usesI_1 (by have := h.1; omega)
    have hu : usedOf ⟨op, n, (k + a.size : Nat) - 1, 0⟩ = [k + a.size - 1] := by
      show ([(((k + a.size : Nat) : Int) - 1).toNat, (0 : Int).toNat]).take (usesI op) = _
      rw [h1, show (((k + a.size : Nat) : Int) - 1).toNat = k + a.size - 1 by omega]; rfl
    simp only [lay]
    rw [allUsed_app, List.count_append, ih k h.2 i]
    simp only [allUsed, List.flatMap_cons, List.flatMap_nil, List.append_nil, hu, count1]
    by_cases c1 : k ≤ i ∧ i + 1 < k + a.size <;> by_cases c2 : i = k + a.size - 1 <;> by_cases c3 : k ≤ i ∧ i + 1 < k + (Tm.know op n a).size <;>
      (first | rw [if_pos c1] | rw [if_neg c1]) <;> (first | rw [if_pos c2] | rw [if_neg c2]) <;> (first | rw [if_pos c3] | rw [if_neg c3]) <;> omega
  | joint op a b iha ihb =>
    intro k h i
    have hs := a.size_pos
    have hz : (Tm.joint op a b).size = a.size + b.size + 1 := rfl
    have hs' := b.size_pos
    have h2 : usesI op = 2 := usesI_2 h.1
    have hu : usedOf ⟨op, 0, (k + a.size : Nat) - 1, (k + a.size + b.size : Nat) - 1⟩ = [k + a.size - 1] ++ [k + a.size + b.size - 1] := by
      show ([(((k + a.size : Nat) : Int) - 1).toNat, (((k + a.size + b.size : Nat) : Int) - 1).toNat]).take (usesI op) = _
      rw [h2, show (((k + a.size : Nat) : Int) - 1).toNat = k + a.size - 1 by omega, show (((k + a.size + b.size : Nat) : Int) - 1).toNat = k + a.size + b.size - 1 by omega]; rfl
    simp only [lay]
    rw [allUsed_app, allUsed_app, List.count_append, List.count_append, iha k h.2.1 i, ihb (k + a.size) h.2.2 i]
    simp only [allUsed, List.flatMap_cons, List.flatMap_nil, List.append_nil, hu, List.count_append, count1]
    by_cases c1 : k ≤ i ∧ i + 1 < k + a.size <;> by_cases c2 : i = k + a.size - 1 <;> by_cases c3 : k ≤ i ∧ i + 1 < k + (Tm.joint op a b).size <;> by_cases c4 : k + a.size ≤ i ∧ i + 1 < k + a.size + b.size <;> by_cases c5 : i = k + a.size + b.size - 1 <;>
      (first | rw [if_pos c1] | rw [if_neg c1]) <;> (first | rw [if_pos c2] | rw [if_neg c2]) <;> (first | rw [if_pos c3] | rw [if_neg c3]) <;> (first | rw [if_pos c4] | rw [if_neg c4]) <;> (first | rw [if_pos c5] | rw [if_neg c5]) <;> omega
theorem lay_formOk {T : Tm} (h : T.wf) (hs : T.size ≤ 40) : formOk (lay 0 T) = true := by
  have hp := T.size_pos
  unfold formOk nodesOk onceOk
  rw [lay_len]
  simp only [Bool.and_eq_true, decide_eq_true_eq, List.all_eq_true, List.mem_range]
  refine ⟨⟨⟨by omega, hs⟩, fun i hi => ?_⟩, fun i hi => ?_⟩
  · have := lay_ok T 0 h i hi
    rwa [Nat.zero_add] at this
  · rw [lay_count T 0 (Tm.wf_ops T h) i, if_pos (by omega)]
theorem lay_formNot {T : Tm} (hs : 40 < T.size) : formOk (lay 0 T) = false := by
  unfold formOk
  rw [lay_len, show decide (T.size ≤ 40) = false by simp; omega]
  simp
/- a formula's term -/
theorem formOk_parts {xs : List Nd} (h : formOk xs = true) : 1 ≤ xs.length ∧ xs.length ≤ 40 ∧ nodesOk xs = true ∧ ∀ i, i < xs.length - 1 → (allUsed xs).count i = 1 := by
  unfold formOk onceOk at h
  simp only [Bool.and_eq_true, decide_eq_true_eq, List.all_eq_true, List.mem_range] at h
  exact ⟨h.1.1.1, h.1.1.2, h.1.2, h.2⟩
def sumN (l : List Nat) : Nat := l.foldr (· + ·) 0
theorem sumN_cons (a : Nat) (l : List Nat) : sumN (a :: l) = a + sumN l := rfl
theorem sumN_app (l r : List Nat) : sumN (l ++ r) = sumN l + sumN r := by
  induction l with
  | nil => simp [sumN]
  | cons a l ih => rw [List.cons_append, sumN_cons, sumN_cons, ih]; omega
theorem sumN_perm {l r : List Nat} (h : l.Perm r) : sumN l = sumN r := by
  induction h with
  | nil => rfl
  | cons a _ ih => rw [sumN_cons, sumN_cons, ih]
  | swap a b l => simp only [sumN_cons]; omega
  | trans _ _ ih1 ih2 => rw [ih1, ih2]
theorem mkTm_size {op n : Int} {a b : Tm} : (mkTm op n a b).size = 1 + sumN ([a.size, b.size].take (usesI op)) := by
  unfold mkTm
  by_cases h0 : op = 1 ∨ op = 2
  · rw [if_pos h0, usesI_0 h0]; rfl
  rw [if_neg h0]
  by_cases h4 : op = 4 ∨ op = 9
  · rw [if_neg (by omega), if_pos h4, usesI_2 h4]; simp [sumN, Tm.size]; omega
  have h1 : usesI op = 1 := usesI_1 (by omega)
  by_cases h3 : op = 3
  · rw [if_pos h3, h1]; simp [sumN, Tm.size]; omega
  · rw [if_neg h3, if_neg h4, h1]; simp [sumN, Tm.size]; omega
theorem tmAt_size {xs : List Nd} (h : nodesOk xs = true) {i : Nat} (hi : i < xs.length) : (tmAt xs i).size = 1 + sumN ((usedOf (xs.getD i default)).map fun j => (tmAt xs j).size) := by
  rw [tmAt_eq h hi, mkTm_size]
  unfold usedOf
  rw [List.map_take]
  rfl
theorem sum_used {xs : List Nd} (h : nodesOk xs = true) : ∀ m, m ≤ xs.length → sumN ((List.range m).map fun i => (tmAt xs i).size) = m + sumN ((allUsed (xs.take m)).map fun j => (tmAt xs j).size) := by
  intro m
  induction m with
  | zero => intro _; simp [sumN, allUsed]
  | succ m ih =>
    intro hm
    have e : xs.take (m + 1) = xs.take m ++ [xs.getD m default] := by
      rw [List.take_succ_eq_append_getElem (by omega), List.getD_eq_getElem?_getD, List.getElem?_eq_getElem (by omega)]; rfl
    rw [List.range_succ, List.map_append, sumN_app, ih (by omega), e, allUsed_app, List.map_append, sumN_app]
    have := tmAt_size h (i := m) (by omega)
    simp only [List.map_cons, List.map_nil, sumN_cons, allUsed, List.flatMap_cons, List.flatMap_nil, List.append_nil]
    simp only [sumN, List.foldr_nil] at *
    omega
theorem used_lt {xs : List Nd} (h : nodesOk xs = true) {j : Nat} (hj : j ∈ allUsed xs) : j + 1 < xs.length := by
  unfold allUsed at hj
  obtain ⟨x, hx, hj⟩ := List.mem_flatMap.1 hj
  obtain ⟨i, hi, rfl⟩ := List.getElem_of_mem hx
  have hp := okAt_parts (nodesOk_at h hi)
  rw [show xs.getD i default = xs[i] by rw [List.getD_eq_getElem?_getD, List.getElem?_eq_getElem hi]; rfl] at hp
  have hu := usesI_le xs[i].op
  unfold usedOf at hj
  match hn : usesI xs[i].op with
  | 0 => rw [hn] at hj; simp at hj
  | 1 =>
    rw [hn] at hj
    have : j = xs[i].a.toNat := by simpa using hj
    have := hp.2.1 (by omega)
    omega
  | 2 =>
    rw [hn] at hj
    have : j = xs[i].a.toNat ∨ j = xs[i].b.toNat := by simpa using hj
    have := hp.2.1 (by omega)
    have := hp.2.2.1 hn
    omega
  | n + 3 => omega
theorem count_range (n i : Nat) : (List.range n).count i = if i < n then 1 else 0 := by
  induction n with
  | zero => simp
  | succ n ih =>
    rw [List.range_succ, List.count_append, ih, count1]
    split <;> split <;> split <;> omega
theorem form_size {xs : List Nd} (h : formOk xs = true) : (tmAt xs (xs.length - 1)).size = xs.length := by
  obtain ⟨h1, h2, h3, h4⟩ := formOk_parts h
  have hp : (allUsed xs).Perm (List.range (xs.length - 1)) := by
    rw [List.perm_iff_count]
    intro i
    by_cases hi : i < xs.length - 1
    · rw [h4 i hi, count_range, if_pos hi]
    · rw [List.count_eq_zero_of_not_mem (fun hm => by have := used_lt h3 hm; omega), List.count_eq_zero_of_not_mem (fun hm => hi (List.mem_range.1 hm))]
  have hs := sum_used h3 xs.length (Nat.le_refl _)
  rw [List.take_length, sumN_perm (hp.map fun j => (tmAt xs j).size)] at hs
  obtain ⟨m, hm⟩ : ∃ m, xs.length = m + 1 := ⟨xs.length - 1, by omega⟩
  rw [hm] at hs ⊢
  rw [List.range_succ, List.map_append, sumN_app] at hs
  simp only [List.map_cons, List.map_nil, sumN_cons, Nat.add_sub_cancel] at hs ⊢
  simp only [sumN, List.foldr_nil] at hs
  omega
theorem form_wf {xs : List Nd} (h : formOk xs = true) : (tmAt xs (xs.length - 1)).wf := by
  obtain ⟨h1, h2, h3, h4⟩ := formOk_parts h
  exact tmAt_wf h3 _ _ (Nat.le_refl _) (by omega)
end Go.Proofs.YtodjohdbngbpaaaGreat

/-
  Contracts of impl.FormulaOk and of what it calls.
-/
namespace Go.Proofs.YtodjohdbngbpaaaGreat
open Go.RowKit
open Go Go.Deep

set_option maxHeartbeats 400000 in
theorem namesAgent_any (op : Int) (w : World) : Calls Tryz.prog 138 #[.int .i64 op] w fun e w' => e = .returned (.bool (decide (op = 5 ∨ op = 6))) ∧ w = w' := by
  by_cases h5 : op = 5
  · subst h5
    go_enter Tryz.func138, Tryz.ntmps138
    go_wp2
    go_ret
    exact ⟨rfl, rfl⟩
  · by_cases h6 : op = 6
    · subst h6
      go_enter Tryz.func138, Tryz.ntmps138
      go_wp2
      go_ret
      exact ⟨rfl, rfl⟩
    · rw [show decide (op = 5 ∨ op = 6) = false by simp [h5, h6]]
      have h6' : (op == 6) = false := by simpa using h6
      have h5' : (op == 5) = false := by simpa using h5
      go_enter Tryz.func138, Tryz.ntmps138
      go_wp2
      go_ret
      exact ⟨rfl, rfl⟩

set_option maxHeartbeats 400000 in
theorem limitOfN_any (op : Int) (w : World) : Calls Tryz.prog 150 #[.int .i64 op] w fun e w' => e = .returned (.int .i64 (limN op)) ∧ w = w' := by
  by_cases h1 : op = 1
  · subst h1
    go_enter Tryz.func150, Tryz.ntmps150
    go_wp2
    go_ret
    exact ⟨rfl, rfl⟩
  · by_cases h5 : op = 5 ∨ op = 6
    · rw [limN_eq h5]
      have hd : decide (op = 5 ∨ op = 6) = true := by simpa using h5
      have H1 := Lib.hid h1
      have h1' : (op == 1) = false := by simpa using h1
      have H := fun W => namesAgent_any op W
      rw [hd] at H
      clear hd h5 h1
      go_enter Tryz.func150, Tryz.ntmps150
      go_wp2_with (go_at_call 138; refine (H _).mono ?_; rintro e w' ⟨rfl, rfl⟩)
      go_ret
      exact ⟨rfl, rfl⟩
    · rw [show limN op = 1 by unfold limN; rw [if_neg h1, if_neg h5]]
      have hd : decide (op = 5 ∨ op = 6) = false := by simpa using h5
      have h1' : (op == 1) = false := by simpa using h1
      have H := fun W => namesAgent_any op W
      rw [hd] at H
      clear hd h5 h1
      go_enter Tryz.func150, Tryz.ntmps150
      go_wp2_with (go_at_call 138; refine (H _).mono ?_; rintro e w' ⟨rfl, rfl⟩)
      go_ret
      exact ⟨rfl, rfl⟩

set_option maxHeartbeats 400000 in
theorem countParts_any (op : Int) (w : World) : Calls Tryz.prog 105 #[.int .i64 op] w fun e w' => e = .returned (.int .i64 (usesI op : Nat)) ∧ w = w' := by
  by_cases h0 : op = 1 ∨ op = 2
  · rw [usesI_0 h0]
    rcases h0 with rfl | rfl
    all_goals
      go_enter Tryz.func105, Tryz.ntmps105
      go_wp2
      go_ret
      exact ⟨rfl, rfl⟩
  · by_cases h4 : op = 4 ∨ op = 9
    · rw [usesI_2 h4]
      rcases h4 with rfl | rfl
      all_goals
        go_enter Tryz.func105, Tryz.ntmps105
        go_wp2
        go_ret
        exact ⟨rfl, rfl⟩
    · rw [usesI_1 (by omega)]
      have e1 : (op == 1) = false := by simp; omega
      have e2 : (op == 2) = false := by simp; omega
      have e4 : (op == 4) = false := by simp; omega
      have e9 : (op == 9) = false := by simp; omega
      clear h0 h4
      go_enter Tryz.func105, Tryz.ntmps105
      go_wp2
      go_ret
      exact ⟨rfl, rfl⟩

set_option maxHeartbeats 400000 in
theorem indexOk_any (i : Int) (u : Bool) (b : Int) (w : World) : Calls Tryz.prog 151 #[.int .i64 i, .bool u, .int .i64 b] w fun e w' => e = .returned (.bool (idxOk i u b)) ∧ w = w' := by
  cases u with
  | false =>
    unfold idxOk
    rw [if_neg (by decide)]
    go_enter Tryz.func151, Tryz.ntmps151
    go_wp2
    go_ret
    exact ⟨ret_bool (by by_cases h : i = 0 <;> simp [h]), rfl⟩
  | true =>
    unfold idxOk
    rw [if_pos rfl]
    by_cases h0 : 0 ≤ i
    · rw [show decide (0 ≤ i) = true by simpa using h0, Bool.true_and]
      go_enter Tryz.func151, Tryz.ntmps151
      go_wp2
      go_ret
      exact ⟨rfl, rfl⟩
    · rw [show decide (0 ≤ i) = false by simpa using h0, Bool.false_and]
      have hn : i < 0 := by omega
      clear h0
      go_enter Tryz.func151, Tryz.ntmps151
      go_wp2
      go_ret
      exact ⟨rfl, rfl⟩

set_option maxHeartbeats 2000000 in
theorem nodeOk_no (op n a b : Int) (i : Nat) (w : World) (h : op < 1 ∨ 9 < op ∨ n < 0 ∨ limN op ≤ n) : Calls Tryz.prog 118 #[.agg #[.int .i64 op, .int .i64 n, .int .i64 a, .int .i64 b], .int .i64 i] w fun e w' => e = .returned (.bool false) ∧ Below w.heap.size w w' := by
  by_cases h1 : op < 1
  · clear h
    go_enter Tryz.func118, Tryz.ntmps118
    go_wp2
    go_quiet ((go_at_call 150; exact quiet_eq (limitOfN_any _ _)))
    go_wp2
    go_ret
    exact ⟨rfl, below_drewN' ((Below.refl _ _).alloc (Nat.le_refl _) _) _⟩
  have d1 : decide (op < 1) = false := by simp; omega
  by_cases h2 : 9 < op
  · clear h h1
    go_enter Tryz.func118, Tryz.ntmps118
    go_wp2
    go_quiet ((go_at_call 150; exact quiet_eq (limitOfN_any _ _)))
    go_wp2
    go_ret
    exact ⟨rfl, below_drewN' ((Below.refl _ _).alloc (Nat.le_refl _) _) _⟩
  have d2 : decide (9 < op) = false := by simp; omega
  by_cases h3 : n < 0
  · clear h h1 h2
    go_enter Tryz.func118, Tryz.ntmps118
    go_wp2
    go_quiet ((go_at_call 150; exact quiet_eq (limitOfN_any _ _)))
    go_wp2
    go_ret
    exact ⟨rfl, below_drewN' ((Below.refl _ _).alloc (Nat.le_refl _) _) _⟩
  have d3 : decide (n < 0) = false := by simp; omega
  have d4 : decide (limN op ≤ n) = true := by simp; omega
  clear h h1 h2 h3
  go_enter Tryz.func118, Tryz.ntmps118
  go_wp2
  go_quiet ((go_at_call 150; exact quiet_eq (limitOfN_any _ _)))
  go_wp2
  go_ret
  exact ⟨rfl, below_drewN' ((Below.refl _ _).alloc (Nat.le_refl _) _) _⟩

set_option maxHeartbeats 4000000 in
theorem nodeOk_yes (op n a b : Int) (i : Nat) (w : World) (h : ¬ (op < 1 ∨ 9 < op ∨ n < 0 ∨ limN op ≤ n)) : Calls Tryz.prog 118 #[.agg #[.int .i64 op, .int .i64 n, .int .i64 a, .int .i64 b], .int .i64 i] w fun e w' => e = .returned (.bool (idxOk a (decide (1 ≤ usesI op)) i && idxOk b (decide (usesI op = 2)) i)) ∧ Below w.heap.size w w' := by
  have d1 : decide (op < 1) = false := by simp; omega
  have d2 : decide (9 < op) = false := by simp; omega
  have d3 : decide (n < 0) = false := by simp; omega
  have d4 : decide (limN op ≤ n) = false := by simp; omega
  have hu := usesI_le op
  have C := fun W => countParts_any op W
  generalize usesI op = u at hu C
  clear h
  have hu' : u = 0 ∨ u = 1 ∨ u = 2 := by omega
  clear hu
  rcases hu' with rfl | rfl | rfl
  · rw [show decide (1 ≤ 0) = false from rfl, show decide (0 = 2) = false from rfl]
    have KC := Lib.hid C
    have K1 := Lib.hid (fun W => indexOk_any a false i W)
    have K2 := Lib.hid (fun W => indexOk_any b false i W)
    clear C
    generalize idxOk a false i = x at K1
    generalize idxOk b false i = y at K2
    cases x
    all_goals
      go_enter Tryz.func118, Tryz.ntmps118
      go_wp2
      go_quiet ((go_at_call 150; exact quiet_eq (limitOfN_any _ _)))
      go_wp2_with fail
      refine (KC.out _).mono ?_
      rintro e w' ⟨rfl, rfl⟩
      go_wp2_with fail
      refine (K1.out _).mono ?_
      rintro e w' ⟨rfl, rfl⟩
    · go_wp2
      go_ret
      exact ⟨rfl, below_drewN' ((Below.refl _ _).alloc (Nat.le_refl _) _) _⟩
    · go_wp2_with fail
      refine (K2.out _).mono ?_
      rintro e w' ⟨rfl, rfl⟩
      go_wp2
      go_ret
      exact ⟨rfl, below_drewN' ((Below.refl _ _).alloc (Nat.le_refl _) _) _⟩
  · rw [show decide (1 ≤ 1) = true from rfl, show decide (1 = 2) = false from rfl]
    have KC := Lib.hid C
    have K1 := Lib.hid (fun W => indexOk_any a true i W)
    have K2 := Lib.hid (fun W => indexOk_any b false i W)
    clear C
    generalize idxOk a true i = x at K1
    generalize idxOk b false i = y at K2
    cases x
    all_goals
      go_enter Tryz.func118, Tryz.ntmps118
      go_wp2
      go_quiet ((go_at_call 150; exact quiet_eq (limitOfN_any _ _)))
      go_wp2_with fail
      refine (KC.out _).mono ?_
      rintro e w' ⟨rfl, rfl⟩
      go_wp2_with fail
      refine (K1.out _).mono ?_
      rintro e w' ⟨rfl, rfl⟩
    · go_wp2
      go_ret
      exact ⟨rfl, below_drewN' ((Below.refl _ _).alloc (Nat.le_refl _) _) _⟩
    · go_wp2_with fail
      refine (K2.out _).mono ?_
      rintro e w' ⟨rfl, rfl⟩
      go_wp2
      go_ret
      exact ⟨rfl, below_drewN' ((Below.refl _ _).alloc (Nat.le_refl _) _) _⟩
  · rw [show decide (1 ≤ 2) = true from rfl, show decide (2 = 2) = true from rfl]
    have KC := Lib.hid C
    have K1 := Lib.hid (fun W => indexOk_any a true i W)
    have K2 := Lib.hid (fun W => indexOk_any b true i W)
    clear C
    generalize idxOk a true i = x at K1
    generalize idxOk b true i = y at K2
    cases x
    all_goals
      go_enter Tryz.func118, Tryz.ntmps118
      go_wp2
      go_quiet ((go_at_call 150; exact quiet_eq (limitOfN_any _ _)))
      go_wp2_with fail
      refine (KC.out _).mono ?_
      rintro e w' ⟨rfl, rfl⟩
      go_wp2_with fail
      refine (K1.out _).mono ?_
      rintro e w' ⟨rfl, rfl⟩
    · go_wp2
      go_ret
      exact ⟨rfl, below_drewN' ((Below.refl _ _).alloc (Nat.le_refl _) _) _⟩
    · go_wp2_with fail
      refine (K2.out _).mono ?_
      rintro e w' ⟨rfl, rfl⟩
      go_wp2
      go_ret
      exact ⟨rfl, below_drewN' ((Below.refl _ _).alloc (Nat.le_refl _) _) _⟩

theorem nodeOk_any (x : Nd) (i : Nat) (w : World) : Calls Tryz.prog 118 #[x.v, .int .i64 i] w fun e w' => e = .returned (.bool (okAt x i)) ∧ Below w.heap.size w w' := by
  obtain ⟨op, n, a, b⟩ := x
  by_cases h : op < 1 ∨ 9 < op ∨ n < 0 ∨ limN op ≤ n
  · have e : okAt ⟨op, n, a, b⟩ i = false := by
      have : headOk ⟨op, n, a, b⟩ = false := by
        cases hh : headOk ⟨op, n, a, b⟩ with
        | false => rfl
        | true =>
          unfold headOk at hh
          simp only [Bool.and_eq_true, decide_eq_true_eq] at hh
          omega
      unfold okAt; rw [this]; rfl
    rw [e]
    exact nodeOk_no op n a b i w h
  · have e : okAt ⟨op, n, a, b⟩ i = (idxOk a (decide (1 ≤ usesI op)) i && idxOk b (decide (usesI op = 2)) i) := by
      have : headOk ⟨op, n, a, b⟩ = true := by
        unfold headOk
        simp only [Bool.and_eq_true, decide_eq_true_eq]
        omega
      unfold okAt; rw [this, Bool.true_and]
    rw [e]
    exact nodeOk_yes op n a b i w h
end Go.Proofs.YtodjohdbngbpaaaGreat

/-
  Contract of impl.FormulaOk.
-/
namespace Go.Proofs.YtodjohdbngbpaaaGreat
open Go.RowKit
open Go Go.Deep

set_option maxHeartbeats 1000000 in
theorem usedBy_any (x : Nd) (w : World) (hp : 1 ≤ usesI x.op → 0 ≤ x.a) (hq : usesI x.op = 2 → 0 ≤ x.b) :
    Calls Tryz.prog 119 #[x.v] w fun e w' => ∃ g, e = .returned (.slice (some ⟨g, 0, none⟩) (usedOf x).length 2) ∧ g < w'.heap.size ∧ w.heap.size ≤ g ∧ (∀ j, j < (usedOf x).length → w'.cell? ⟨g, j, none⟩ = some (.int .i64 ((usedOf x).getD j 0 : Nat))) ∧ Below w.heap.size w w' := by
  obtain ⟨op, n, a, b⟩ := x
  have hu := usesI_le op
  have C := fun W => countParts_any op W
  have e0 : usesI op = 0 → usedOf ⟨op, n, a, b⟩ = [] := fun h => by unfold usedOf; rw [h]; rfl
  have e1 : usesI op = 1 → usedOf ⟨op, n, a, b⟩ = [a.toNat] := fun h => by unfold usedOf; rw [h]; rfl
  have e2 : usesI op = 2 → usedOf ⟨op, n, a, b⟩ = [a.toNat, b.toNat] := fun h => by unfold usedOf; rw [h]; rfl
  simp only [] at hp hq
  unfold Nd.v
  simp only []
  generalize usesI op = u at *
  have hu' : u = 0 ∨ u = 1 ∨ u = 2 := by omega
  clear hu
  have KC := Lib.hid C
  clear C
  rcases hu' with rfl | rfl | rfl
  · rw [e0 rfl]
    clear e0 e1 e2 hp hq
    go_enter Tryz.func119, Tryz.ntmps119
    go_wp2_with fail
    refine (KC.out _).mono ?_
    rintro e w' ⟨rfl, rfl⟩
    go_wp2
    go_ret
    exact ⟨_, rfl, by simp, by simp, fun j hj => absurd hj (by simp), ((Below.refl _ _).alloc (Nat.le_refl _) _).alloc (by simp) _⟩
  · rw [e1 rfl]
    have ha := hp (by decide)
    obtain ⟨p, rfl⟩ : ∃ p : Nat, a = p := ⟨a.toNat, by omega⟩
    clear e0 e1 e2 hp hq ha
    go_enter Tryz.func119, Tryz.ntmps119
    go_wp2_with fail
    refine (KC.out _).mono ?_
    rintro e w' ⟨rfl, rfl⟩
    go_wp2
    go_ret
    refine ⟨_, rfl, by simp, by simp, fun j hj => ?_, ((Below.refl _ _).alloc (Nat.le_refl _) _).alloc (by simp) _⟩
    obtain rfl : j = 0 := by have : j < 1 := hj; omega
    rw [World.cell?_alloc_at _ _ _ _ (by simp)]; rfl
  · rw [e2 rfl]
    have ha := hp (by decide)
    have hb := hq rfl
    obtain ⟨p, rfl⟩ : ∃ p : Nat, a = p := ⟨a.toNat, by omega⟩
    obtain ⟨q, rfl⟩ : ∃ q : Nat, b = q := ⟨b.toNat, by omega⟩
    clear e0 e1 e2 hp hq ha hb
    go_enter Tryz.func119, Tryz.ntmps119
    go_wp2_with fail
    refine (KC.out _).mono ?_
    rintro e w' ⟨rfl, rfl⟩
    go_wp2
    go_ret
    refine ⟨_, rfl, by simp, by simp, fun j hj => ?_, ((Below.refl _ _).alloc (Nat.le_refl _) _).alloc (by simp) _⟩
    have hj' : j = 0 ∨ j = 1 := by have : j < 2 := hj; omega
    rcases hj' with rfl | rfl
    · rw [World.cell?_alloc_at _ _ _ _ (by simp)]; rfl
    · rw [World.cell?_alloc_at _ _ _ _ (by simp)]; rfl

def zero40 : Array Value := (List.replicate 40 (Value.int .i64 0)).toArray
theorem alloc_uses (w : World) : (Instr.alloc 146 true (.tuple #[])).run Tryz.prog w = .ok (.pointer (some ⟨w.heap.size, 0, none⟩)) (w.alloc (.cells zero40 146)) := by kernel_rfl
/-- the row of uses -/
def UsRow (w : World) (B : Nat) (T : TypeId) (n : Nat) (us : List Nat) : Prop := w.rowIs B T n (fun j => .int .i64 (us.count j : Nat))
theorem UsRow.start (w : World) : UsRow (w.alloc (.cells zero40 146)) w.heap.size 146 40 [] := by
  have h := World.rowIs_alloc w zero40 146 (fun j => .int .i64 (([] : List Nat).count j : Nat)) (fun i hi => by
    have hi : i < 40 := hi
    rw [show zero40[i]? = (List.replicate 40 (Value.int .i64 0))[i]? by simp [zero40], List.getElem?_replicate, if_pos hi]; rfl)
  exact h
theorem UsRow.below {w w' : World} {B C : Nat} {T : TypeId} {n : Nat} {us : List Nat} (h : UsRow w B T n us) (hb : Below C w w') (hB : w.heap.size ≤ C) : UsRow w' B T n us :=
  h.of_block (hb.block B (Nat.lt_of_lt_of_le h.lt hB))
theorem UsRow.alloc {w : World} {B : Nat} {T : TypeId} {n : Nat} {us : List Nat} (h : UsRow w B T n us) (o : Obj) : UsRow (w.alloc o) B T n us := World.rowIs.alloc h o
theorem UsRow.push {w : World} {B : Nat} {T : TypeId} {n : Nat} {us : List Nat} (h : UsRow w B T n us) (m : Nat) : UsRow (w.setCell ⟨B, m, none⟩ (.int .i64 ((us.count m : Nat) + 1 : Int))) B T n (us ++ [m]) := by
  refine (h.set m _).congr fun j _ => ?_
  by_cases e : j = m
  · subst e
    rw [if_pos rfl, List.count_append, count1, if_pos rfl]
    simp
  · rw [if_neg e, List.count_append, count1, if_neg e]
    simp
theorem allUsed_len (xs : List Nd) : (allUsed xs).length ≤ 2 * xs.length := by
  induction xs with
  | nil => simp [allUsed]
  | cons x xs ih =>
    have : (usedOf x).length ≤ 2 := by unfold usedOf; rw [List.length_take]; simp; omega
    simp only [allUsed, List.flatMap_cons, List.length_append, List.length_cons] at *
    omega
theorem allUsed_take (xs : List Nd) {k : Nat} (hk : k < xs.length) : allUsed (xs.take (k + 1)) = allUsed (xs.take k) ++ usedOf (xs.getD k default) := by
  have e : xs.take (k + 1) = xs.take k ++ [xs.getD k default] := by
    rw [List.take_succ_eq_append_getElem hk, List.getD_eq_getElem?_getD, List.getElem?_eq_getElem hk]; rfl
  rw [e, allUsed_app]; simp [allUsed]
theorem formNot_at {xs : List Nd} {k : Nat} (hk : k < xs.length) (h : okAt (xs.getD k default) k = false) : formOk xs = false := by
  cases hf : formOk xs with
  | false => rfl
  | true => rw [nodesOk_at (formOk_parts hf).2.2.1 hk] at h; cases h
theorem formNot_once {xs : List Nd} {k : Nat} (hk : k < xs.length - 1) (h : (allUsed xs).count k ≠ 1) : formOk xs = false := by
  cases hf : formOk xs with
  | false => rfl
  | true => exact absurd ((formOk_parts hf).2.2.2 k hk) h
theorem formNot_len {xs : List Nd} (h : xs.length < 1 ∨ 40 < xs.length) : formOk xs = false := by
  cases hf : formOk xs with
  | false => rfl
  | true => have := formOk_parts hf; omega
theorem formYes {xs : List Nd} (h1 : 1 ≤ xs.length) (h2 : xs.length ≤ 40) (h3 : ∀ j, j < xs.length → okAt (xs.getD j default) j = true) (h4 : ∀ j, j < xs.length - 1 → (allUsed xs).count j = 1) : formOk xs = true := by
  unfold formOk nodesOk onceOk
  simp only [Bool.and_eq_true, decide_eq_true_eq, List.all_eq_true, List.mem_range]
  exact ⟨⟨⟨h1, h2⟩, h3⟩, h4⟩

theorem used_at {x : Nd} {k : Nat} (h : okAt x k = true) {j : Nat} (hj : j < (usedOf x).length) : (usedOf x).getD j 0 < k := by
  have hp := okAt_parts h
  have hu := usesI_le x.op
  unfold usedOf at hj ⊢
  match hn : usesI x.op with
  | 0 => rw [hn] at hj; simp at hj
  | 1 =>
    rw [hn] at hj
    have := hp.2.1 (by omega)
    have : j = 0 := by simp at hj; omega
    subst this
    show x.a.toNat < k
    omega
  | 2 =>
    rw [hn] at hj
    have := hp.2.1 (by omega)
    have := hp.2.2.1 hn
    have : j = 0 ∨ j = 1 := by simp at hj; omega
    rcases this with rfl | rfl
    · show x.a.toNat < k
      omega
    · show x.b.toNat < k
      omega
  | n + 3 => omega
theorem take_getDN {us : List Nat} {j : Nat} (hj : j < us.length) : us.take (j + 1) = us.take j ++ [us.getD j 0] := by
  rw [List.take_succ_eq_append_getElem hj, List.getD_eq_getElem?_getD, List.getElem?_eq_getElem hj]; rfl

set_option maxRecDepth 100000 in
set_option maxHeartbeats 4000000 in
theorem implForm_any (v : Value) (xs : List Nd) (w : World) (hr : Ns w v xs) :
    Calls Tryz.prog 71 #[v] w fun e w' => e = .returned (.bool (formOk xs)) ∧ Below w.heap.size w w' := by
  obtain ⟨a, cap, rfl, h1, h2, h3⟩ := hr.parts
  have HR := Lib.hid hr
  have KEY := Lib.hid h3
  clear h3 hr
  unfold maxLen at h2
  by_cases hl1 : xs.length < 1
  · rw [formNot_len (.inl hl1)]
    go_enter Tryz.func71, Tryz.ntmps71
    go_wp2
    go_ret
    exact ⟨rfl, Below.refl _ _⟩
  by_cases hl2 : 40 < xs.length
  · rw [formNot_len (.inr hl2)]
    go_enter Tryz.func71, Tryz.ntmps71
    go_wp2
    go_ret
    exact ⟨rfl, Below.refl _ _⟩
  generalize hfo : formOk xs = res
  have HF := Lib.hid hfo
  clear hfo
  go_enter Tryz.func71, Tryz.ntmps71
  go_wp2_with (refine wpList_alloc rfl 146 rfl _ (alloc_uses _) ?_)
  go_loopw [19] (fun iv wr => ∃ k : Nat, k ≤ xs.length ∧ iv = .int .i64 k ∧ Hid (∀ j, j < k → okAt (xs.getD j default) j = true) ∧ Hid (UsRow wr w.heap.size 146 40 (allUsed (xs.take k))) ∧ Hid (Below w.heap.size w wr)) (fun iv _ => xs.length - (intOf iv).toNat)
  case atStart => exact ⟨0, Nat.zero_le _, rfl, Lib.hid (fun j hj => absurd hj (Nat.not_lt_zero _)), Lib.hid (by simpa [allUsed] using UsRow.start w), Lib.hid ((Below.refl _ _).alloc (Nat.le_refl _) _)⟩
  case round =>
    obtain ⟨k, hk, rfl, HK, HU, HB⟩ := hrel
    by_cases hlt : k < xs.length
    · obtain ⟨b, o, rfl, hb, c0, c1, c2, c3⟩ := KEY.out k hlt
      rw [← HB.out.cell (p := ⟨b, o + k * 4, none⟩) hb] at c0
      rw [← HB.out.cell (p := ⟨b, o + k * 4 + 1, none⟩) hb] at c1
      rw [← HB.out.cell (p := ⟨b, o + k * 4 + 2, none⟩) hb] at c2
      rw [← HB.out.cell (p := ⟨b, o + k * 4 + 3, none⟩) hb] at c3
      generalize hx : xs.getD k default = x at c0 c1 c2 c3
      have HX := Lib.hid hx
      clear hx
      cases hok : okAt x k with
      | false =>
        have HR0 : Hid (res = false) := Lib.hid (HF.out.symm.trans (formNot_at hlt (by rw [HX.out]; exact hok)))
        have H := fun W => nodeOk_any x k W
        rw [hok] at H
        have K := Lib.hid H
        clear H hok
        go_wp2_with fail
        refine (K.out _).mono ?_
        rintro e w2 ⟨rfl, hb2⟩
        have HB2 := Lib.hid hb2; clear hb2
        have hsz := HB.out.size
        go_wp2
        go_ret
        exact ⟨ret_bool HR0.out.symm, ((HB.out.alloc hsz _)).trans (HB2.out.mono (by simp; omega))⟩
      | true =>
        have H := fun W => nodeOk_any x k W
        rw [hok] at H
        have K := Lib.hid H
        clear H
        have hp := okAt_parts hok
        have HOK := Lib.hid hok
        have HP := Lib.hid hp
        clear hok hp
        have hg := HU.out.lt
        have hsz := HB.out.size
        go_wp2_with fail
        refine (K.out _).mono ?_
        rintro e w2 ⟨rfl, hb2⟩
        have HU2 := Lib.hid ((HU.out.alloc (.cells #[.int .i64 x.op, .int .i64 x.n, .int .i64 x.a, .int .i64 x.b] 112)).below hb2 (Nat.le_refl _))
        have HB2 := Lib.hid ((HB.out.alloc hsz _).trans (hb2.mono (by simp; omega)))
        obtain ⟨g0, g1, g2, g3⟩ : w2.cell? ⟨wr.heap.size, 0, none⟩ = some (.int .i64 x.op) ∧ w2.cell? ⟨wr.heap.size, 1, none⟩ = some (.int .i64 x.n) ∧ w2.cell? ⟨wr.heap.size, 2, none⟩ = some (.int .i64 x.a) ∧ w2.cell? ⟨wr.heap.size, 3, none⟩ = some (.int .i64 x.b) := by
          refine ⟨?_, ?_, ?_, ?_⟩ <;> (rw [hb2.cell (p := ⟨wr.heap.size, _, none⟩) (by simp), World.cell?_alloc_at _ _ _ _ rfl]; rfl)
        clear hb2
        go_wp2_with fail
        refine (usedBy_any x _ (fun h => (HP.out.2.1 h).1) (fun h => (HP.out.2.2.1 h).1)).mono ?_
        rintro e w3 ⟨g, rfl, hgl, hgb, hgc, hb3⟩
        have HU3 := Lib.hid (HU2.out.below hb3 (Nat.le_refl _))
        have HC3 := Lib.hid hgc
        have hz2 := HB2.out.size
        have HB3 := Lib.hid (HB2.out.trans (hb3.mono hz2))
        have hB2 := HU2.out.lt
        have hlu : (usedOf x).length ≤ 2 := by unfold usedOf; rw [List.length_take]; simp; omega
        have hal := allUsed_len (xs.take k)
        have htl : (xs.take k).length ≤ k := by rw [List.length_take]; omega
        clear hgc hb3 g0 g1 g2 g3 c0 c1 c2 c3 hb
        go_wp2
        go_loopw [31] (fun jv wq => ∃ j : Nat, j ≤ (usedOf x).length ∧ jv = .int .i64 j ∧ Hid (UsRow wq w.heap.size 146 40 (allUsed (xs.take k) ++ (usedOf x).take j)) ∧ Hid (∀ j, j < (usedOf x).length → wq.cell? ⟨g, j, none⟩ = some (.int .i64 ((usedOf x).getD j 0 : Nat))) ∧ Hid (Below w.heap.size w wq)) (fun jv _ => (usedOf x).length - (intOf jv).toNat)
        case atStart => exact ⟨0, Nat.zero_le _, rfl, by simpa using HU3, HC3, HB3⟩
        case round =>
          obtain ⟨j, hj, rfl, HU4, HC4, HB4⟩ := hrel
          by_cases hlj : j < (usedOf x).length
          · have hcj := HC4.out j hlj
            have hm := used_at HOK.out hlj
            have HT := Lib.hid (take_getDN hlj)
            generalize (usedOf x).getD j 0 = m at hcj hm HT
            have hct := HU4.out.cell (i := m) (by omega)
            have hft := HU4.out.frozen m
            have hcnt : (allUsed (xs.take k) ++ (usedOf x).take j).count m ≤ 82 := by
              have h1 := List.count_le_length (a := m) (l := allUsed (xs.take k) ++ (usedOf x).take j)
              rw [List.length_append, List.length_take] at h1
              omega
            have HPU := Lib.hid (HU4.out.push m)
            generalize (allUsed (xs.take k) ++ (usedOf x).take j).count m = cnt at hct hcnt HPU
            have hcnt0 : (0 : Int) ≤ (cnt : Int) := Int.natCast_nonneg _
            go_wp2
            go_roundw
            case rel =>
              refine ⟨j + 1, by omega, by go_num, Lib.hid ?_, Lib.hid (fun i hi => ?_), Lib.hid (HB4.out.setCell (Nat.le_refl _) _)⟩
              · rw [HT.out, ← List.append_assoc]; exact HPU.out
              · rw [World.cell?_setCell_far _ ⟨w.heap.size, m, none⟩ ⟨g, i, none⟩ _ (by show w.heap.size ≠ g; omega)]; exact HC4.out i hi
            case measure => simp [intOf]; omega
          · obtain rfl : j = (usedOf x).length := by omega
            go_wp2
            go_roundw
            case rel =>
              refine ⟨k + 1, by omega, by go_num, Lib.hid (fun i hi => ?_), Lib.hid ?_, HB4⟩
              · rcases Nat.lt_or_ge i k with h | h
                · exact HK.out i h
                · obtain rfl : i = k := by omega
                  rw [HX.out]; exact HOK.out
              · rw [allUsed_take xs hlt, HX.out]
                have := HU4.out
                rwa [List.take_of_length_le (Nat.le_refl _)] at this
            case measure => simp [intOf]; omega
    · obtain rfl : k = xs.length := by omega
      rw [List.take_of_length_le (Nat.le_refl _)] at HU
      have hal := allUsed_len xs
      go_wp2
      go_loop [45] (fun iv => ∃ j : Nat, j ≤ xs.length - 1 ∧ iv = .int .i64 j ∧ Hid (∀ i, i < j → (allUsed xs).count i = 1)) (fun iv => xs.length - (intOf iv).toNat)
      case atStart => exact ⟨0, Nat.zero_le _, rfl, Lib.hid (fun j hj => absurd hj (Nat.not_lt_zero _))⟩
      case round =>
        obtain ⟨j, hj, rfl, HJ⟩ := hrel
        by_cases hlj : j < xs.length - 1
        · have hct := HU.out.cell (i := j) (by omega)
          generalize hcn : (allUsed xs).count j = cnt at hct
          have HCN := Lib.hid hcn
          clear hcn
          by_cases hc1 : cnt = 1
          · subst hc1
            go_wp2
            go_round
            case rel =>
              refine ⟨j + 1, by omega, by go_num, Lib.hid (fun i hi => ?_)⟩
              rcases Nat.lt_or_ge i j with h | h
              · exact HJ.out i h
              · obtain rfl : i = j := by omega
                exact HCN.out
            case measure => simp [intOf]; omega
          · have HR0 : Hid (res = false) := Lib.hid (HF.out.symm.trans (formNot_once hlj (by rw [HCN.out]; exact hc1)))
            have hne : ((cnt : Int) == 1) = false := by simp; omega
            have hne' : ((cnt : Int) != 1) = true := by simp; omega
            have HC1 := Lib.hid hc1
            clear hc1
            go_wp2
            go_ret
            exact ⟨ret_bool HR0.out.symm, HB.out⟩
        · have HR1 : Hid (res = true) := Lib.hid (HF.out.symm.trans (formYes (by omega) (by omega) HK.out (fun i hi => HJ.out i (by omega))))
          obtain rfl : j = xs.length - 1 := by omega
          go_wp2
          go_ret
          exact ⟨ret_bool HR1.out.symm, HB.out⟩

end Go.Proofs.YtodjohdbngbpaaaGreat

/-
  Contracts of spec.FormulaOk and of what it calls.
-/
namespace Go.Proofs.YtodjohdbngbpaaaGreat
open Go.RowKit
open Go Go.Deep

set_option maxHeartbeats 400000 in
theorem l01In_yes (x lo hi : Int) (w : World) (h1 : lo ≤ x) (h2 : x ≤ hi) : Calls Tryz.prog 122 #[.int .i64 x, .int .i64 lo, .int .i64 hi] w fun e w' => e = .returned (.bool true) ∧ w = w' := by
  go_enter Tryz.func122, Tryz.ntmps122
  go_wp2
  go_ret
  exact ⟨ret_bool (by simp <;> omega), rfl⟩
set_option maxHeartbeats 400000 in
theorem l01In_no (x lo hi : Int) (w : World) (h : x < lo ∨ hi < x) : Calls Tryz.prog 122 #[.int .i64 x, .int .i64 lo, .int .i64 hi] w fun e w' => e = .returned (.bool false) ∧ w = w' := by
  by_cases h1 : x < lo
  · clear h
    go_enter Tryz.func122, Tryz.ntmps122
    go_wp2
    go_ret
    exact ⟨rfl, rfl⟩
  · have h2 : lo ≤ x := by omega
    have h3 : hi < x := by omega
    clear h h1
    go_enter Tryz.func122, Tryz.ntmps122
    go_wp2
    go_ret
    exact ⟨ret_bool (by simp <;> omega), rfl⟩
theorem l01In_any (x lo hi : Int) (w : World) : Calls Tryz.prog 122 #[.int .i64 x, .int .i64 lo, .int .i64 hi] w fun e w' => e = .returned (.bool (decide (lo ≤ x) && decide (x ≤ hi))) ∧ w = w' := by
  by_cases h : x < lo ∨ hi < x
  · rw [show (decide (lo ≤ x) && decide (x ≤ hi)) = false by simp; omega]; exact l01In_no x lo hi w h
  · rw [show (decide (lo ≤ x) && decide (x ≤ hi)) = true by simp; omega]; exact l01In_yes x lo hi w (by omega) (by omega)

set_option maxHeartbeats 1000000 in
theorem l02Uses_in (op : Int) (w : World) (h1 : 1 ≤ op) (h9 : op ≤ 9) : Calls Tryz.prog 123 #[.int .i64 op] w fun e w' => e = .returned (.int .i64 (usesI op : Nat)) ∧ w = w' := by
  by_cases h0 : op = 1 ∨ op = 2
  · rw [usesI_0 h0]
    rcases h0 with rfl | rfl
    all_goals
      go_enter Tryz.func123, Tryz.ntmps123
      go_wp2
      go_ret
      exact ⟨rfl, rfl⟩
  · by_cases h4 : op = 4 ∨ op = 9
    · rw [usesI_2 h4]
      rcases h4 with rfl | rfl
      all_goals
        go_enter Tryz.func123, Tryz.ntmps123
        go_wp2
        go_ret
        exact ⟨rfl, rfl⟩
    · rw [usesI_1 (by omega)]
      have e1 : (op == 1) = false := by simp; omega
      have e2 : (op == 2) = false := by simp; omega
      have e4 : (op == 4) = false := by simp; omega
      have e9 : (op == 9) = false := by simp; omega
      have H := fun W => l01In_yes op 3 9 W (by omega) (by omega)
      have K := Lib.hid H
      clear h0 h4 H
      go_enter Tryz.func123, Tryz.ntmps123
      go_wp2_with (go_at_call 122; refine (K.out _).mono ?_; rintro e w' ⟨rfl, rfl⟩)
      go_ret
      exact ⟨rfl, rfl⟩
set_option maxHeartbeats 1000000 in
theorem l02Uses_out (op : Int) (w : World) (h : op < 1 ∨ 9 < op) : Calls Tryz.prog 123 #[.int .i64 op] w fun e w' => e = .returned (.int .i64 (-1)) ∧ w = w' := by
  have e1 : (op == 1) = false := by simp; omega
  have e2 : (op == 2) = false := by simp; omega
  have e4 : (op == 4) = false := by simp; omega
  have e9 : (op == 9) = false := by simp; omega
  have H := fun W => l01In_no op 3 9 W (by omega)
  have K := Lib.hid H
  clear h H
  go_enter Tryz.func123, Tryz.ntmps123
  go_wp2_with (go_at_call 122; refine (K.out _).mono ?_; rintro e w' ⟨rfl, rfl⟩)
  go_ret
  exact ⟨rfl, rfl⟩
set_option maxHeartbeats 1000000 in
theorem l02Most_any (op : Int) (w : World) : Calls Tryz.prog 124 #[.int .i64 op] w fun e w' => e = .returned (.int .i64 (limN op - 1)) ∧ w = w' := by
  by_cases h : op = 1 ∨ op = 5 ∨ op = 6
  · rcases h with rfl | rfl | rfl
    all_goals
      go_enter Tryz.func124, Tryz.ntmps124
      go_wp2
      go_ret
      exact ⟨rfl, rfl⟩
  · rw [show limN op - 1 = 0 by unfold limN; rw [if_neg (by omega), if_neg (by omega)]; rfl]
    have e1 : (op == 1) = false := by simp; omega
    have e5 : (op == 5) = false := by simp; omega
    have e6 : (op == 6) = false := by simp; omega
    clear h
    go_enter Tryz.func124, Tryz.ntmps124
    go_wp2
    go_ret
    exact ⟨rfl, rfl⟩

theorem Tryz.infoIF : (Tryz.prog.info? 3).map (fun i => (i.zero, i.size, i.bytes)) = some (some (.int .i64 0), 1, 8) := by kernel_rfl
theorem UsRow.drewN {w : World} {B : Nat} {T : TypeId} {n : Nat} {us : List Nat} (h : UsRow w B T n us) (k : Nat) : UsRow (w.drewN k) B T n us := h
theorem UsRow.made (w : World) (n : Nat) (T : TypeId) : UsRow (w.alloc (.cells (madeCells #[.int .i64 0] n) T)) w.heap.size T n [] := World.rowIs_made w (.int .i64 0) n T
theorem okNo_op {op n a b : Int} {i : Nat} (h : op < 1 ∨ 9 < op) : okAt ⟨op, n, a, b⟩ i = false := by
  cases ho : okAt ⟨op, n, a, b⟩ i with
  | false => rfl
  | true => have := (okAt_parts ho).1; simp only [] at this; omega
theorem okNo_n {op n a b : Int} {i : Nat} (h : n < 0 ∨ limN op - 1 < n) : okAt ⟨op, n, a, b⟩ i = false := by
  cases ho : okAt ⟨op, n, a, b⟩ i with
  | false => rfl
  | true => have := (okAt_parts ho).1; simp only [] at this; omega
theorem okNo_a0 {op n a b : Int} {i : Nat} (hu : usesI op = 0) (h : a ≠ 0) : okAt ⟨op, n, a, b⟩ i = false := by
  cases ho : okAt ⟨op, n, a, b⟩ i with
  | false => rfl
  | true => exact absurd ((okAt_parts ho).2.2.2.1 hu) h
theorem okNo_b0 {op n a b : Int} {i : Nat} (hu : usesI op ≤ 1) (h : b ≠ 0) : okAt ⟨op, n, a, b⟩ i = false := by
  cases ho : okAt ⟨op, n, a, b⟩ i with
  | false => rfl
  | true => exact absurd ((okAt_parts ho).2.2.2.2 hu) h
theorem okNo_a {op n a b : Int} {i : Nat} (hu : 1 ≤ usesI op) (h : a < 0 ∨ (i : Int) - 1 < a) : okAt ⟨op, n, a, b⟩ i = false := by
  cases ho : okAt ⟨op, n, a, b⟩ i with
  | false => rfl
  | true => have := (okAt_parts ho).2.1 hu; simp only [] at this; omega
theorem okNo_b {op n a b : Int} {i : Nat} (hu : usesI op = 2) (h : b < 0 ∨ (i : Int) - 1 < b) : okAt ⟨op, n, a, b⟩ i = false := by
  cases ho : okAt ⟨op, n, a, b⟩ i with
  | false => rfl
  | true => have := (okAt_parts ho).2.2.1 hu; simp only [] at this; omega
theorem okYes {op n a b : Int} {i : Nat} (h1 : 1 ≤ op) (h2 : op ≤ 9) (h3 : 0 ≤ n) (h4 : n ≤ limN op - 1) (ha : if 1 ≤ usesI op then 0 ≤ a ∧ a < i else a = 0) (hb : if usesI op = 2 then 0 ≤ b ∧ b < i else b = 0) : okAt ⟨op, n, a, b⟩ i = true :=
  okAt_mk ⟨h1, h2, h3, by omega⟩ ha hb

set_option maxRecDepth 100000 in
set_option maxHeartbeats 8000000 in
theorem specForm_any (v : Value) (xs : List Nd) (w : World) (hr : Ns w v xs) :
    Calls Tryz.prog 75 #[v] w fun e w' => e = .returned (.bool (formOk xs)) ∧ Below w.heap.size w w' := by
  obtain ⟨i0, hi, hz0, hz1, hz2⟩ := info_parts Tryz.infoIF
  obtain ⟨a, cap, rfl, h1, h2, h3⟩ := hr.parts
  have HR := Lib.hid hr
  have KEY := Lib.hid h3
  clear h3 hr
  unfold maxLen at h2
  by_cases hl : (xs.length : Int) < 1 ∨ 40 < (xs.length : Int)
  · rw [formNot_len (by omega)]
    have K := Lib.hid (fun W => l01In_no xs.length 1 40 W hl)
    clear hl
    go_enter Tryz.func75, Tryz.ntmps75
    go_wp2_with fail
    refine (K.out _).mono ?_
    rintro e w' ⟨rfl, rfl⟩
    go_wp2
    go_ret
    exact ⟨rfl, Below.refl _ _⟩
  have K := Lib.hid (fun W => l01In_yes xs.length 1 40 W (by omega) (by omega))
  have hl1 : 1 ≤ xs.length := by omega
  have hl2 : xs.length ≤ 40 := by omega
  clear hl
  generalize hfo : formOk xs = res
  have HF := Lib.hid hfo
  clear hfo
  have hb1 : i0.bytes * xs.length ≤ 281474976710656 := by rw [hz2]; omega
  have HB1 := Lib.hid hb1
  clear hb1
  go_enter Tryz.func75, Tryz.ntmps75
  go_wp2_with fail
  refine (K.out _).mono ?_
  rintro e w' ⟨rfl, rfl⟩
  go_wp2_with (at_make; refine wpList_make_row _ rfl _ _ 23 rfl 3 i0 (.int .i64 0) Tryz.underlying23 hi hz0 hz1 rfl _ _ xs.length rfl rfl HB1.out (by omega) ?_)
  go_loopw [18] (fun iv wr => ∃ k : Nat, k ≤ xs.length ∧ iv = .int .i64 k ∧ Hid (∀ j, j < k → okAt (xs.getD j default) j = true) ∧ Hid (UsRow wr w.heap.size 3 xs.length (allUsed (xs.take k))) ∧ Hid (Below w.heap.size w wr)) (fun iv _ => xs.length - (intOf iv).toNat)
  case atStart => exact ⟨0, Nat.zero_le _, rfl, Lib.hid (fun j hj => absurd hj (Nat.not_lt_zero _)), Lib.hid (by simpa [allUsed] using UsRow.made w xs.length 3), Lib.hid ((Below.refl _ _).alloc (Nat.le_refl _) _)⟩
  case round =>
    obtain ⟨k, hk, rfl, HK, HU, HB⟩ := hrel
    by_cases hlt : k < xs.length
    · obtain ⟨b, o, rfl, hb, c0, c1, c2, c3⟩ := KEY.out k hlt
      rw [← HB.out.cell (p := ⟨b, o + k * 4, none⟩) hb] at c0
      rw [← HB.out.cell (p := ⟨b, o + k * 4 + 1, none⟩) hb] at c1
      rw [← HB.out.cell (p := ⟨b, o + k * 4 + 2, none⟩) hb] at c2
      rw [← HB.out.cell (p := ⟨b, o + k * 4 + 3, none⟩) hb] at c3
      generalize hx : xs.getD k default = x at c0 c1 c2 c3
      have HX := Lib.hid hx
      clear hx
      obtain ⟨op, n, xa, xb⟩ := x
      have hg := HU.out.lt
      have hsz := HB.out.size
      simp only [] at c0 c1 c2 c3
      by_cases hop : op < 1 ∨ 9 < op
      · have HR0 : Hid (res = false) := Lib.hid (HF.out.symm.trans (formNot_at hlt (by rw [HX.out]; exact okNo_op hop)))
        have KU := Lib.hid (fun W => l02Uses_out op W hop)
        clear hop
        go_wp2_with fail
        refine (KU.out _).mono ?_
        rintro e w' ⟨rfl, rfl⟩
        go_wp2
        go_quiet (fail)
        go_wp2
        go_ret
        exact ⟨ret_bool HR0.out.symm, below_drewN' (HB.out.alloc hsz _) _⟩
      have KU := Lib.hid (fun W => l02Uses_in op W (by omega) (by omega))
      have hop1 : 1 ≤ op := by omega
      have hop9 : op ≤ 9 := by omega
      clear hop
      have hu3 := usesI_le op
      generalize huo : usesI op = u at KU hu3
      have hu' : u = 0 ∨ u = 1 ∨ u = 2 := by omega
      have HO := Lib.hid huo
      clear hu3 huo
      by_cases hn : n < 0 ∨ limN op - 1 < n
      · have HR0 : Hid (res = false) := Lib.hid (HF.out.symm.trans (formNot_at hlt (by rw [HX.out]; exact okNo_n hn)))
        have KN := Lib.hid (fun W => l01In_no n 0 (limN op - 1) W hn)
        clear hn
        rcases hu' with rfl | rfl | rfl
        all_goals
          go_wp2_with fail
          refine (KU.out _).mono ?_
          rintro e w' ⟨rfl, rfl⟩
          go_wp2
          go_quiet ((first | (go_at_call 124; exact quiet_eq (l02Most_any _ _)) | (go_at_call 122; exact quiet_eq (KN.out _))))
          go_wp2
          go_ret
          exact ⟨ret_bool HR0.out.symm, below_drewN' (HB.out.alloc hsz _) _⟩
      have KN := Lib.hid (fun W => l01In_yes n 0 (limN op - 1) W (by omega) (by omega))
      have hn1 : 0 ≤ n := by omega
      have hn2 : n ≤ limN op - 1 := by omega
      clear hn
      have HN1 := Lib.hid hn1
      have HN2 := Lib.hid hn2
      clear hn1 hn2
      have hal := allUsed_len (xs.take k)
      have htl : (xs.take k).length ≤ k := by rw [List.length_take]; omega
      rcases hu' with rfl | rfl | rfl
      · by_cases ha : xa = 0
        · subst ha
          by_cases hb0 : xb = 0
          · subst hb0
            have HOK : Hid (okAt ⟨op, n, 0, 0⟩ k = true) := Lib.hid (okYes hop1 hop9 HN1.out HN2.out (by rw [HO.out]; rfl) (by rw [HO.out]; rfl))
            have HUO : Hid (usedOf ⟨op, n, 0, 0⟩ = []) := Lib.hid (by unfold usedOf; rw [HO.out]; rfl)
            go_wp2_with fail
            refine (KU.out _).mono ?_
            rintro e w' ⟨rfl, rfl⟩
            go_wp2
            go_quiet ((first | (go_at_call 124; exact quiet_eq (l02Most_any _ _)) | (go_at_call 122; exact quiet_eq (KN.out _))))
            go_wp2
            go_roundw
            case rel =>
              refine ⟨k + 1, by omega, by go_num, Lib.hid (fun i hi => ?_), Lib.hid ?_, Lib.hid (below_drewN' (HB.out.alloc hsz _) _)⟩
              · rcases Nat.lt_or_ge i k with h | h
                · exact HK.out i h
                · obtain rfl : i = k := by omega
                  rw [HX.out]; exact HOK.out
              · rw [allUsed_take xs hlt, HX.out, HUO.out]
                rw [List.append_nil]; exact (HU.out.alloc _).drewN _
            case measure => simp [intOf]; omega
          · have HR0 : Hid (res = false) := Lib.hid (HF.out.symm.trans (formNot_at hlt (by rw [HX.out]; exact okNo_b0 (by rw [HO.out]; decide) hb0)))
            have e1 : (xb == 0) = false := by simpa using hb0
            have e2 : (xb != 0) = true := by simpa using hb0
            clear hb0
            go_wp2_with fail
            refine (KU.out _).mono ?_
            rintro e w' ⟨rfl, rfl⟩
            go_wp2
            go_quiet ((first | (go_at_call 124; exact quiet_eq (l02Most_any _ _)) | (go_at_call 122; exact quiet_eq (KN.out _))))
            go_wp2
            go_ret
            exact ⟨ret_bool HR0.out.symm, below_drewN' (HB.out.alloc hsz _) _⟩
        · have HR0 : Hid (res = false) := Lib.hid (HF.out.symm.trans (formNot_at hlt (by rw [HX.out]; exact okNo_a0 HO.out ha)))
          have e1 : (xa == 0) = false := by simpa using ha
          have e2 : (xa != 0) = true := by simpa using ha
          clear ha
          go_wp2_with fail
          refine (KU.out _).mono ?_
          rintro e w' ⟨rfl, rfl⟩
          go_wp2
          go_quiet ((first | (go_at_call 124; exact quiet_eq (l02Most_any _ _)) | (go_at_call 122; exact quiet_eq (KN.out _))))
          go_wp2
          go_ret
          exact ⟨ret_bool HR0.out.symm, below_drewN' (HB.out.alloc hsz _) _⟩
      · by_cases hb0 : xb = 0
        · subst hb0
          by_cases ha : xa < 0 ∨ (k : Int) - 1 < xa
          · have HR0 : Hid (res = false) := Lib.hid (HF.out.symm.trans (formNot_at hlt (by rw [HX.out]; exact okNo_a (by rw [HO.out]; decide) ha)))
            have KA := Lib.hid (fun W => l01In_no xa 0 ((k : Int) - 1) W ha)
            clear ha
            go_wp2_with fail
            refine (KU.out _).mono ?_
            rintro e w' ⟨rfl, rfl⟩
            go_wp2
            go_quiet ((first | (go_at_call 124; exact quiet_eq (l02Most_any _ _)) | (go_at_call 122; exact quiet_eq (KN.out _))))
            go_wp2_with fail
            refine (KA.out _).mono ?_
            rintro e w' ⟨rfl, rfl⟩
            go_wp2
            go_ret
            exact ⟨ret_bool HR0.out.symm, below_drewN' (HB.out.alloc hsz _) _⟩
          · have HOK : Hid (okAt ⟨op, n, xa, 0⟩ k = true) := Lib.hid (okYes hop1 hop9 HN1.out HN2.out (by rw [HO.out]; show 0 ≤ xa ∧ xa < k; omega) (by rw [HO.out]; rfl))
            have KA := Lib.hid (fun W => l01In_yes xa 0 ((k : Int) - 1) W (by omega) (by omega))
            have HUO : Hid (usedOf ⟨op, n, xa, 0⟩ = [xa.toNat]) := Lib.hid (by unfold usedOf; rw [HO.out]; rfl)
            obtain ⟨m, rfl⟩ : ∃ m : Nat, xa = m := ⟨xa.toNat, by omega⟩
            rw [Int.toNat_natCast] at HUO
            have hmk : m < k := by omega
            clear ha
            go_wp2_with fail
            refine (KU.out _).mono ?_
            rintro e w' ⟨rfl, rfl⟩
            go_wp2
            go_quiet ((first | (go_at_call 124; exact quiet_eq (l02Most_any _ _)) | (go_at_call 122; exact quiet_eq (KN.out _))))
            have HU2 := Lib.hid ((HU.out.alloc (.cells #[.int .i64 op, .int .i64 n, .int .i64 m, .int .i64 0] 112)).drewN nq)
            have hct := HU2.out.cell (i := m) (by omega)
            have hft := HU2.out.frozen m
            have hcnt : (allUsed (xs.take k)).count m ≤ 80 := by
              have h1 := List.count_le_length (a := m) (l := allUsed (xs.take k))
              omega
            have HPU := Lib.hid (HU2.out.push m)
            generalize (allUsed (xs.take k)).count m = cnt at hct hcnt HPU
            have hcnt0 : (0 : Int) ≤ (cnt : Int) := Int.natCast_nonneg _
            go_wp2_with fail
            refine (KA.out _).mono ?_
            rintro e w' ⟨rfl, rfl⟩
            go_wp2
            go_roundw
            case rel =>
              refine ⟨k + 1, by omega, by go_num, Lib.hid (fun i hi => ?_), Lib.hid ?_, Lib.hid ((below_drewN' (HB.out.alloc hsz _) _).setCell (Nat.le_refl _) _)⟩
              · rcases Nat.lt_or_ge i k with h | h
                · exact HK.out i h
                · obtain rfl : i = k := by omega
                  rw [HX.out]; exact HOK.out
              · rw [allUsed_take xs hlt, HX.out, HUO.out]
                exact HPU.out
            case measure => simp [intOf]; omega
        · have HR0 : Hid (res = false) := Lib.hid (HF.out.symm.trans (formNot_at hlt (by rw [HX.out]; exact okNo_b0 (by rw [HO.out]; decide) hb0)))
          have e1 : (xb == 0) = false := by simpa using hb0
          have e2 : (xb != 0) = true := by simpa using hb0
          clear hb0
          go_wp2_with fail
          refine (KU.out _).mono ?_
          rintro e w' ⟨rfl, rfl⟩
          go_wp2
          go_quiet ((first | (go_at_call 124; exact quiet_eq (l02Most_any _ _)) | (go_at_call 122; exact quiet_eq (KN.out _))))
          go_wp2
          go_ret
          exact ⟨ret_bool HR0.out.symm, below_drewN' (HB.out.alloc hsz _) _⟩
      · by_cases ha : xa < 0 ∨ (k : Int) - 1 < xa
        · have HR0 : Hid (res = false) := Lib.hid (HF.out.symm.trans (formNot_at hlt (by rw [HX.out]; exact okNo_a (by rw [HO.out]; decide) ha)))
          have KA := Lib.hid (fun W => l01In_no xa 0 ((k : Int) - 1) W ha)
          have KB := Lib.hid (fun W => l01In_any xb 0 ((k : Int) - 1) W)
          clear ha
          go_wp2_with fail
          refine (KU.out _).mono ?_
          rintro e w' ⟨rfl, rfl⟩
          go_wp2
          go_quiet ((first | (go_at_call 124; exact quiet_eq (l02Most_any _ _)) | (go_at_call 122; exact quiet_eq (KN.out _))))
          go_wp2_with fail
          refine (KA.out _).mono ?_
          rintro e w' ⟨rfl, rfl⟩
          go_wp2
          go_ret
          exact ⟨ret_bool HR0.out.symm, below_drewN' (HB.out.alloc hsz _) _⟩
        · have KA := Lib.hid (fun W => l01In_yes xa 0 ((k : Int) - 1) W (by omega) (by omega))
          by_cases hb0 : xb < 0 ∨ (k : Int) - 1 < xb
          · have HR0 : Hid (res = false) := Lib.hid (HF.out.symm.trans (formNot_at hlt (by rw [HX.out]; exact okNo_b HO.out hb0)))
            have KB := Lib.hid (fun W => l01In_no xb 0 ((k : Int) - 1) W hb0)
            clear ha hb0
            go_wp2_with fail
            refine (KU.out _).mono ?_
            rintro e w' ⟨rfl, rfl⟩
            go_wp2
            go_quiet ((first | (go_at_call 124; exact quiet_eq (l02Most_any _ _)) | (go_at_call 122; exact quiet_eq (KN.out _))))
            go_wp2_with fail
            refine (KA.out _).mono ?_
            rintro e w' ⟨rfl, rfl⟩
            go_wp2_with fail
            refine (KB.out _).mono ?_
            rintro e w' ⟨rfl, rfl⟩
            go_wp2
            go_ret
            exact ⟨ret_bool HR0.out.symm, below_drewN' (HB.out.alloc hsz _) _⟩
          · have HOK : Hid (okAt ⟨op, n, xa, xb⟩ k = true) := Lib.hid (okYes hop1 hop9 HN1.out HN2.out (by rw [HO.out]; show 0 ≤ xa ∧ xa < k; omega) (by rw [HO.out]; show 0 ≤ xb ∧ xb < k; omega))
            have KB := Lib.hid (fun W => l01In_yes xb 0 ((k : Int) - 1) W (by omega) (by omega))
            have HUO : Hid (usedOf ⟨op, n, xa, xb⟩ = [xa.toNat, xb.toNat]) := Lib.hid (by unfold usedOf; rw [HO.out]; rfl)
            obtain ⟨m, rfl⟩ : ∃ m : Nat, xa = m := ⟨xa.toNat, by omega⟩
            obtain ⟨m', rfl⟩ : ∃ m : Nat, xb = m := ⟨xb.toNat, by omega⟩
            rw [Int.toNat_natCast, Int.toNat_natCast] at HUO
            have hmk : m < k := by omega
            have hmk' : m' < k := by omega
            clear ha hb0
            go_wp2_with fail
            refine (KU.out _).mono ?_
            rintro e w' ⟨rfl, rfl⟩
            go_wp2
            go_quiet ((first | (go_at_call 124; exact quiet_eq (l02Most_any _ _)) | (go_at_call 122; exact quiet_eq (KN.out _))))
            have HU2 := Lib.hid ((HU.out.alloc (.cells #[.int .i64 op, .int .i64 n, .int .i64 m, .int .i64 m'] 112)).drewN nq)
            have hct := HU2.out.cell (i := m) (by omega)
            have hft := HU2.out.frozen m
            have hcnt : (allUsed (xs.take k)).count m ≤ 80 := by
              have h1 := List.count_le_length (a := m) (l := allUsed (xs.take k))
              omega
            have HPU := Lib.hid (HU2.out.push m)
            have hcnt' : (allUsed (xs.take k) ++ [m]).count m' ≤ 81 := by
              have h1 := List.count_le_length (a := m') (l := allUsed (xs.take k) ++ [m])
              rw [List.length_append] at h1; simp only [List.length_cons, List.length_nil] at h1
              omega
            generalize (allUsed (xs.take k)).count m = cnt at hct hcnt HPU
            have hct' := HPU.out.cell (i := m') (by omega)
            have hft' := HPU.out.frozen m'
            have HPU' := Lib.hid (HPU.out.push m')
            generalize (allUsed (xs.take k) ++ [m]).count m' = cnt' at hct' hcnt' HPU'
            have hcnt0 : (0 : Int) ≤ (cnt : Int) := Int.natCast_nonneg _
            have hcnt0' : (0 : Int) ≤ (cnt' : Int) := Int.natCast_nonneg _
            go_wp2_with fail
            refine (KA.out _).mono ?_
            rintro e w' ⟨rfl, rfl⟩
            go_wp2_with fail
            refine (KB.out _).mono ?_
            rintro e w' ⟨rfl, rfl⟩
            go_wp2
            go_roundw
            case rel =>
              refine ⟨k + 1, by omega, by go_num, Lib.hid (fun i hi => ?_), Lib.hid ?_, Lib.hid (((below_drewN' (HB.out.alloc hsz _) _).setCell (Nat.le_refl _) _).setCell (Nat.le_refl _) _)⟩
              · rcases Nat.lt_or_ge i k with h | h
                · exact HK.out i h
                · obtain rfl : i = k := by omega
                  rw [HX.out]; exact HOK.out
              · rw [allUsed_take xs hlt, HX.out, HUO.out]
                rw [show [m, m'] = [m] ++ [m'] from rfl, ← List.append_assoc]; exact HPU'.out
            case measure => simp [intOf]; omega
    · obtain rfl : k = xs.length := by omega
      rw [List.take_of_length_le (Nat.le_refl _)] at HU
      have hal := allUsed_len xs
      go_wp2
      go_loop [98] (fun iv => ∃ j : Nat, j ≤ xs.length ∧ iv = .int .i64 j ∧ Hid (∀ i, i < j → i < xs.length - 1 → (allUsed xs).count i = 1)) (fun iv => xs.length - (intOf iv).toNat)
      case atStart => exact ⟨0, Nat.zero_le _, rfl, Lib.hid (fun j hj => absurd hj (Nat.not_lt_zero _))⟩
      case round =>
        obtain ⟨j, hj, rfl, HJ⟩ := hrel
        by_cases hlj : j < xs.length
        · have hct := HU.out.cell (i := j) (by omega)
          generalize hcn : (allUsed xs).count j = cnt at hct
          have HCN := Lib.hid hcn
          clear hcn
          by_cases hc1 : cnt = 1
          · subst hc1
            go_wp2
            go_round
            case rel =>
              refine ⟨j + 1, by omega, by go_num, Lib.hid (fun i hi hi' => ?_)⟩
              rcases Nat.lt_or_ge i j with h | h
              · exact HJ.out i h hi'
              · obtain rfl : i = j := by omega
                exact HCN.out
            case measure => simp [intOf]; omega
          · have hne : ((cnt : Int) == 1) = false := by simp; omega
            have hne' : ((cnt : Int) != 1) = true := by simp; omega
            by_cases hlast : j < xs.length - 1
            · have HR0 : Hid (res = false) := Lib.hid (HF.out.symm.trans (formNot_once hlast (by rw [HCN.out]; exact hc1)))
              have hli : (j : Int) < (xs.length : Int) - 1 := by omega
              clear hc1
              go_wp2
              go_ret
              exact ⟨ret_bool HR0.out.symm, HB.out⟩
            · have hli : ¬ (j : Int) < (xs.length : Int) - 1 := by omega
              have hli' : (xs.length : Int) - 1 ≤ (j : Int) := by omega
              clear hc1
              go_wp2
              go_round
              case rel =>
                refine ⟨j + 1, by omega, by go_num, Lib.hid (fun i hi hi' => ?_)⟩
                rcases Nat.lt_or_ge i j with h | h
                · exact HJ.out i h hi'
                · omega
              case measure => simp [intOf]; omega
        · have HR1 : Hid (res = true) := Lib.hid (HF.out.symm.trans (formYes (by omega) (by omega) HK.out (fun i hi => HJ.out i (by omega) hi)))
          obtain rfl : j = xs.length := by omega
          go_wp2
          go_ret
          exact ⟨ret_bool HR1.out.symm, HB.out⟩
end Go.Proofs.YtodjohdbngbpaaaGreat
