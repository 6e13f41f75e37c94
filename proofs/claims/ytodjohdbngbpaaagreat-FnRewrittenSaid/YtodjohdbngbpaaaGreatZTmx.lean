/-
  Several texts in one: TermC TermV TermW TermX TermY TermT Lay. Conditions: as each theorem says.
-/
import Derived.Test.YtodjohdbngbpaaaGreatZForm
import Derived.Test.YtodjohdbngbpaaaGreatStrs
/-
  Plain mathematics of formulas, continued: the two ways of reading a text (one counts the nodes begun, one the nodes ended). No program.
-/
namespace Go.Proofs.YtodjohdbngbpaaaGreat
open Go

/-- the operation of a byte, or 0 -/
def opB (c : UInt8) : Int :=
  if c = 45 then 3 else if c = 38 then 4 else if c = 75 then 5 else if c = 87 then 6 else if c = 69 then 7 else if c = 67 then 8 else if c = 33 then 9 else if c = 84 then 2 else if 97 ≤ c.toNat ∧ c.toNat ≤ 100 then 1 else 0
/-- operation and number of the node whose text begins here, and the rest -/
def headOf : List UInt8 → Option (Int × Int × List UInt8)
  | [] => none
  | c :: r =>
    if opB c = 0 then none
    else if opB c = 1 then some (1, (c.toNat : Int) - 97, r)
    else if opB c = 5 ∨ opB c = 6 then
      match r with
      | [] => none
      | d :: r' => if 48 ≤ d.toNat ∧ d.toNat ≤ 50 then some (opB c, (d.toNat : Int) - 48, r') else none
    else some (opB c, 0, r)

theorem headOf_headB {op n : Int} (h1 : 1 ≤ op) (h2 : op ≤ 9) (h3 : 0 ≤ n) (h4 : n < limN op) (r : List UInt8) : headOf (headB op n ++ r) = some (op, n, r) := by
  have hop : op = 1 ∨ op = 2 ∨ op = 3 ∨ op = 4 ∨ op = 5 ∨ op = 6 ∨ op = 7 ∨ op = 8 ∨ op = 9 := by omega
  have hn : n = 0 ∨ n = 1 ∨ n = 2 ∨ n = 3 := by
    have : limN op ≤ 4 := by unfold limN; split; omega; split <;> omega
    omega
  rcases hop with rfl | rfl | rfl | rfl | rfl | rfl | rfl | rfl | rfl <;> rcases hn with rfl | rfl | rfl | rfl <;> first | rfl | (exact absurd h4 (by decide))

theorem opB_cases (c : UInt8) : (opB c = 0) ∨ (opB c = 1 ∧ 97 ≤ c.toNat ∧ c.toNat ≤ 100) ∨ (opB c = 2 ∧ c = 84) ∨ (opB c = 3 ∧ c = 45) ∨ (opB c = 4 ∧ c = 38) ∨ (opB c = 5 ∧ c = 75) ∨ (opB c = 6 ∧ c = 87) ∨ (opB c = 7 ∧ c = 69) ∨ (opB c = 8 ∧ c = 67) ∨ (opB c = 9 ∧ c = 33) := by
  unfold opB
  split
  · exact .inr (.inr (.inr (.inl ⟨rfl, ‹_›⟩)))
  split
  · exact .inr (.inr (.inr (.inr (.inl ⟨rfl, ‹_›⟩))))
  split
  · exact .inr (.inr (.inr (.inr (.inr (.inl ⟨rfl, ‹_›⟩)))))
  split
  · exact .inr (.inr (.inr (.inr (.inr (.inr (.inl ⟨rfl, ‹_›⟩))))))
  split
  · exact .inr (.inr (.inr (.inr (.inr (.inr (.inr (.inl ⟨rfl, ‹_›⟩)))))))
  split
  · exact .inr (.inr (.inr (.inr (.inr (.inr (.inr (.inr (.inl ⟨rfl, ‹_›⟩))))))))
  split
  · exact .inr (.inr (.inr (.inr (.inr (.inr (.inr (.inr (.inr ⟨rfl, ‹_›⟩))))))))
  split
  · exact .inr (.inr (.inl ⟨rfl, ‹_›⟩))
  split
  · exact .inr (.inl ⟨rfl, ‹_›⟩)
  · exact .inl rfl

theorem headOf_some {l r : List UInt8} {op n : Int} (h : headOf l = some (op, n, r)) : 1 ≤ op ∧ op ≤ 9 ∧ 0 ≤ n ∧ n < limN op ∧ l = headB op n ++ r := by
  match l, h with
  | [], h => simp [headOf] at h
  | c :: l', h =>
    simp only [headOf] at h
    have letter : ∀ k : Int, opB c = k → ¬ (k = 1) → ¬ (k = 5 ∨ k = 6) → ¬ (k = 0) → 1 ≤ k → k ≤ 9 → letterI k = c → limN k = 1 → 1 ≤ op ∧ op ≤ 9 ∧ 0 ≤ n ∧ n < limN op ∧ c :: l' = headB op n ++ r := by
      intro k hk n1 n5 n0 h1 h9 hl hn
      rw [hk, if_neg n0, if_neg n1, if_neg n5] at h
      simp only [Option.some.injEq, Prod.mk.injEq] at h
      obtain ⟨rfl, rfl, rfl⟩ := h
      refine ⟨h1, h9, Int.le_refl _, by omega, ?_⟩
      unfold headB
      rw [if_neg n1, if_neg n5, hl]; rfl
    have agent : ∀ k : Int, opB c = k → (k = 5 ∨ k = 6) → letterI k = c → 1 ≤ op ∧ op ≤ 9 ∧ 0 ≤ n ∧ n < limN op ∧ c :: l' = headB op n ++ r := by
      intro k hk h5 hl
      rw [hk, if_neg (by omega), if_neg (by omega), if_pos h5] at h
      match l', h with
      | [], h => simp at h
      | d :: r', h =>
        simp only [] at h
        split at h
        · rename_i hd
          simp only [Option.some.injEq, Prod.mk.injEq] at h
          obtain ⟨rfl, rfl, rfl⟩ := h
          refine ⟨by omega, by omega, by omega, by rw [limN_eq h5]; omega, ?_⟩
          unfold headB
          rw [if_neg (by omega), if_pos h5, hl]
          have e : UInt8.ofNat (48 + ((d.toNat : Int) - 48).toNat) = d := by
            rw [show 48 + ((d.toNat : Int) - 48).toNat = d.toNat by omega]; exact UInt8.ofNat_toNat
          rw [e]; rfl
        · cases h
    rcases opB_cases c with h0 | ⟨h1, ha, hb⟩ | ⟨hk, hc⟩ | ⟨hk, hc⟩ | ⟨hk, hc⟩ | ⟨hk, hc⟩ | ⟨hk, hc⟩ | ⟨hk, hc⟩ | ⟨hk, hc⟩ | ⟨hk, hc⟩
    · rw [if_pos h0] at h; cases h
    · rw [if_neg (by omega), if_pos h1] at h
      simp only [Option.some.injEq, Prod.mk.injEq] at h
      obtain ⟨rfl, rfl, rfl⟩ := h
      refine ⟨by decide, by decide, by omega, by have : limN 1 = 4 := rfl; omega, ?_⟩
      unfold headB
      rw [if_pos rfl]
      have e : UInt8.ofNat (97 + ((c.toNat : Int) - 97).toNat) = c := by
        rw [show 97 + ((c.toNat : Int) - 97).toNat = c.toNat by omega]; exact UInt8.ofNat_toNat
      rw [e]; rfl
    · exact letter 2 hk (by decide) (by decide) (by decide) (by decide) (by decide) (hc ▸ rfl) rfl
    · exact letter 3 hk (by decide) (by decide) (by decide) (by decide) (by decide) (hc ▸ rfl) rfl
    · exact letter 4 hk (by decide) (by decide) (by decide) (by decide) (by decide) (hc ▸ rfl) rfl
    · exact agent 5 hk (by decide) (hc ▸ rfl)
    · exact agent 6 hk (by decide) (hc ▸ rfl)
    · exact letter 7 hk (by decide) (by decide) (by decide) (by decide) (by decide) (hc ▸ rfl) rfl
    · exact letter 8 hk (by decide) (by decide) (by decide) (by decide) (by decide) (hc ▸ rfl) rfl
    · exact letter 9 hk (by decide) (by decide) (by decide) (by decide) (by decide) (hc ▸ rfl) rfl

/-- reading that counts the nodes begun (at most 40) -/
def iP : Nat → Nat → List UInt8 → Option (Tm × List UInt8 × Nat)
  | 0, _, _ => none
  | f + 1, k, l =>
    if k = 40 then none
    else match headOf l with
    | none => none
    | some (op, n, r) =>
      if usesI op = 0 then some (mkTm op n (.leaf 2 0) (.leaf 2 0), r, k + 1)
      else match iP f (k + 1) r with
      | none => none
      | some (a, r1, k1) =>
        if usesI op = 1 then some (mkTm op n a (.leaf 2 0), r1, k1)
        else match iP f k1 r1 with
        | none => none
        | some (b, r2, k2) => some (mkTm op n a b, r2, k2)
/-- reading that counts the nodes ended -/
def sP : Nat → List Nd → List UInt8 → Option (List Nd × List UInt8)
  | 0, _, _ => none
  | f + 1, xs, l =>
    if 40 < xs.length then none
    else match headOf l with
    | none => none
    | some (op, n, r) =>
      if usesI op = 0 then some (xs ++ [⟨op, n, 0, 0⟩], r)
      else match sP f xs r with
      | none => none
      | some (ys, r1) =>
        if usesI op = 1 then some (ys ++ [⟨op, n, (ys.length : Int) - 1, 0⟩], r1)
        else match sP f ys r1 with
        | none => none
        | some (zs, r2) => some (zs ++ [⟨op, n, (ys.length : Int) - 1, (zs.length : Int) - 1⟩], r2)

theorem mkTm_leaf {op n : Int} (h : op = 1 ∨ op = 2) (a b : Tm) : mkTm op n a b = .leaf op n := if_pos h
theorem mkTm_deny {n : Int} (a b : Tm) : mkTm 3 n a b = .deny a := by unfold mkTm; rw [if_neg (by decide), if_pos rfl]
theorem mkTm_joint {op n : Int} (h : op = 4 ∨ op = 9) (a b : Tm) : mkTm op n a b = .joint op a b := by unfold mkTm; rw [if_neg (by omega), if_neg (by omega), if_pos h]
theorem mkTm_know {op n : Int} (h : op = 5 ∨ op = 6 ∨ op = 7 ∨ op = 8) (a b : Tm) : mkTm op n a b = .know op n a := by unfold mkTm; rw [if_neg (by omega), if_neg (by omega), if_neg (by omega)]
theorem op_kinds {op : Int} (h1 : 1 ≤ op) (h2 : op ≤ 9) : ((op = 1 ∨ op = 2) ∧ usesI op = 0) ∨ (op = 3 ∧ usesI op = 1) ∨ ((op = 5 ∨ op = 6 ∨ op = 7 ∨ op = 8) ∧ usesI op = 1) ∨ ((op = 4 ∨ op = 9) ∧ usesI op = 2) := by
  have : op = 1 ∨ op = 2 ∨ op = 3 ∨ op = 4 ∨ op = 5 ∨ op = 6 ∨ op = 7 ∨ op = 8 ∨ op = 9 := by omega
  rcases this with rfl | rfl | rfl | rfl | rfl | rfl | rfl | rfl | rfl <;> decide

theorem head_of_wf {op n : Int} (h1 : 1 ≤ op) (h2 : op ≤ 9) (h3 : 0 ≤ n) (h4 : n < limN op) (l r : List UInt8) : headOf (headB op n ++ l ++ r) = some (op, n, l ++ r) := by
  rw [List.append_assoc]; exact headOf_headB h1 h2 h3 h4 _

theorem iP_txt : ∀ (T : Tm) (f k : Nat) (r : List UInt8), T.wf → k + T.size ≤ 40 → 41 ≤ f + k → iP f k (txt T ++ r) = some (T, r, k + T.size) := by
  intro T
  induction T with
  | leaf op n =>
    intro f k r h hs hf
    simp only [Tm.size] at hs
    obtain ⟨f, rfl⟩ : ∃ g, f = g + 1 := ⟨f - 1, by omega⟩
    have hh : headOf (txt (.leaf op n) ++ r) = some (op, n, r) := headOf_headB (by have := h.1; omega) (by have := h.1; omega) h.2.1 h.2.2 r
    simp only [iP, hh]
    rw [if_neg (by omega), if_pos (usesI_0 h.1), mkTm_leaf h.1]; rfl
  | deny a ih =>
    intro f k r h hs hf
    simp only [Tm.size] at hs
    obtain ⟨f, rfl⟩ : ∃ g, f = g + 1 := ⟨f - 1, by omega⟩
    have hh : headOf (txt (.deny a) ++ r) = some (3, 0, txt a ++ r) := head_of_wf (op := 3) (n := 0) (by decide) (by decide) (by decide) (by decide) _ r
    simp only [iP, hh, ih f (k + 1) r h (by omega) (by omega)]
    rw [if_neg (by omega), if_neg (by decide), if_pos (by decide), mkTm_deny]
    simp only [Tm.size, Option.some.injEq, Prod.mk.injEq, true_and]; omega
  | know op n a ih =>
    intro f k r h hs hf
    simp only [Tm.size] at hs
    obtain ⟨f, rfl⟩ : ∃ g, f = g + 1 := ⟨f - 1, by omega⟩
    have hh : headOf (txt (.know op n a) ++ r) = some (op, n, txt a ++ r) := head_of_wf (by have := h.1; omega) (by have := h.1; omega) h.2.1 h.2.2.1 _ r
    have hu : usesI op = 1 := usesI_1 (by have := h.1; omega)
    simp only [iP, hh, ih f (k + 1) r h.2.2.2 (by omega) (by omega)]
    rw [if_neg (by omega), if_neg (by omega), if_pos hu, mkTm_know h.1]
    simp only [Tm.size, Option.some.injEq, Prod.mk.injEq, true_and]; omega
  | joint op a b iha ihb =>
    intro f k r h hs hf
    simp only [Tm.size] at hs
    obtain ⟨f, rfl⟩ : ∃ g, f = g + 1 := ⟨f - 1, by omega⟩
    have hh : headOf (txt (.joint op a b) ++ r) = some (op, 0, txt a ++ (txt b ++ r)) := by
      have := head_of_wf (op := op) (n := 0) (by have := h.1; omega) (by have := h.1; omega) (by decide) (by rw [limN_48 h.1]; decide) (txt a ++ txt b) r
      rw [List.append_assoc (txt a)] at this
      rw [← this]; simp [txt, headT, Tm.op, Tm.num]
    have hu : usesI op = 2 := usesI_2 h.1
    simp only [iP, hh, iha f (k + 1) (txt b ++ r) h.2.1 (by omega) (by omega), ihb f (k + 1 + a.size) r h.2.2 (by omega) (by omega)]
    rw [if_neg (by omega), if_neg (by omega), if_neg (by omega), mkTm_joint h.1]
    simp only [Tm.size, Option.some.injEq, Prod.mk.injEq, true_and]; omega

theorem iP_some : ∀ (f k : Nat) (l r : List UInt8) (T : Tm) (k' : Nat), k ≤ 40 → iP f k l = some (T, r, k') → T.wf ∧ l = txt T ++ r ∧ k' = k + T.size ∧ k' ≤ 40 := by
  intro f
  induction f with
  | zero => intro k l r T k' _ h; simp [iP] at h
  | succ f ih =>
    intro k l r T k' hk h
    simp only [iP] at h
    by_cases h40 : k = 40
    · rw [if_pos h40] at h; cases h
    rw [if_neg h40] at h
    cases hh : headOf l with
    | none => rw [hh] at h; cases h
    | some p =>
      obtain ⟨op, n, r0⟩ := p
      rw [hh] at h
      obtain ⟨h1, h2, h3, h4, rfl⟩ := headOf_some hh
      dsimp only at h
      by_cases hu : usesI op = 0
      · rw [if_pos hu] at h
        simp only [Option.some.injEq, Prod.mk.injEq] at h
        obtain ⟨rfl, rfl, rfl⟩ := h
        have hop : op = 1 ∨ op = 2 := by have := op_kinds h1 h2; omega
        rw [mkTm_leaf hop]
        exact ⟨⟨hop, h3, h4⟩, rfl, rfl, by omega⟩
      rw [if_neg hu] at h
      cases hA : iP f (k + 1) r0 with
      | none => rw [hA] at h; cases h
      | some p =>
        obtain ⟨a, r1, k1⟩ := p
        rw [hA] at h
        obtain ⟨wa, rfl, rfl, ka⟩ := ih _ _ _ _ _ (by omega) hA
        dsimp only at h
        by_cases hu1 : usesI op = 1
        · rw [if_pos hu1] at h
          simp only [Option.some.injEq, Prod.mk.injEq] at h
          obtain ⟨rfl, rfl, rfl⟩ := h
          by_cases h33 : op = 3
          · subst h33
            have hn0 : n = 0 := by have : limN 3 = 1 := rfl; omega
            subst hn0
            rw [mkTm_deny]
            exact ⟨wa, by simp [txt, headT, Tm.op, Tm.num], by simp only [Tm.size]; omega, ka⟩
          · have hop : op = 5 ∨ op = 6 ∨ op = 7 ∨ op = 8 := by have := op_kinds h1 h2; omega
            rw [mkTm_know hop]
            exact ⟨⟨hop, h3, h4, wa⟩, by simp [txt, headT, Tm.op, Tm.num], by simp only [Tm.size]; omega, ka⟩
        rw [if_neg hu1] at h
        cases hB : iP f (k + 1 + a.size) r1 with
        | none => rw [hB] at h; cases h
        | some p =>
          obtain ⟨b, r2, k2⟩ := p
          rw [hB] at h
          obtain ⟨wb, rfl, rfl, kb⟩ := ih _ _ _ _ _ (by omega) hB
          simp only [Option.some.injEq, Prod.mk.injEq] at h
          obtain ⟨rfl, rfl, rfl⟩ := h
          have hop : op = 4 ∨ op = 9 := by have := op_kinds h1 h2; omega
          have hn0 : n = 0 := by have := limN_48 hop; omega
          subst hn0
          rw [mkTm_joint hop]
          exact ⟨⟨hop, wa, wb⟩, by simp [txt, headT, Tm.op, Tm.num], by simp only [Tm.size]; omega, kb⟩

theorem sP_txt : ∀ (T : Tm) (f : Nat) (xs : List Nd) (r : List UInt8), T.wf → xs.length + T.size ≤ 40 → T.size ≤ f → sP f xs (txt T ++ r) = some (xs ++ lay xs.length T, r) := by
  intro T
  induction T with
  | leaf op n =>
    intro f xs r h hs hf
    simp only [Tm.size] at hs hf
    obtain ⟨f, rfl⟩ : ∃ g, f = g + 1 := ⟨f - 1, by omega⟩
    have hh : headOf (txt (.leaf op n) ++ r) = some (op, n, r) := headOf_headB (by have := h.1; omega) (by have := h.1; omega) h.2.1 h.2.2 r
    simp only [sP, hh]
    rw [if_neg (by omega), if_pos (usesI_0 h.1)]; rfl
  | deny a ih =>
    intro f xs r h hs hf
    simp only [Tm.size] at hs hf
    obtain ⟨f, rfl⟩ : ∃ g, f = g + 1 := ⟨f - 1, by omega⟩
    have hh : headOf (txt (.deny a) ++ r) = some (3, 0, txt a ++ r) := head_of_wf (op := 3) (n := 0) (by decide) (by decide) (by decide) (by decide) _ r
    simp only [sP, hh, ih f xs r h (by omega) (by omega)]
    rw [if_neg (by omega), if_neg (by decide), if_pos (by decide)]
    simp [lay, lay_len]
  | know op n a ih =>
    intro f xs r h hs hf
    simp only [Tm.size] at hs hf
    obtain ⟨f, rfl⟩ : ∃ g, f = g + 1 := ⟨f - 1, by omega⟩
    have hh : headOf (txt (.know op n a) ++ r) = some (op, n, txt a ++ r) := head_of_wf (by have := h.1; omega) (by have := h.1; omega) h.2.1 h.2.2.1 _ r
    have hu : usesI op = 1 := usesI_1 (by have := h.1; omega)
    simp only [sP, hh, ih f xs r h.2.2.2 (by omega) (by omega)]
    rw [if_neg (by omega), if_neg (by omega), if_pos hu]
    simp [lay, lay_len]
  | joint op a b iha ihb =>
    intro f xs r h hs hf
    simp only [Tm.size] at hs hf
    obtain ⟨f, rfl⟩ : ∃ g, f = g + 1 := ⟨f - 1, by omega⟩
    have hh : headOf (txt (.joint op a b) ++ r) = some (op, 0, txt a ++ (txt b ++ r)) := by
      have := head_of_wf (op := op) (n := 0) (by have := h.1; omega) (by have := h.1; omega) (by decide) (by rw [limN_48 h.1]; decide) (txt a ++ txt b) r
      rw [List.append_assoc (txt a)] at this
      rw [← this]; simp [txt, headT, Tm.op, Tm.num]
    have hu : usesI op = 2 := usesI_2 h.1
    have hl : (xs ++ lay xs.length a).length = xs.length + a.size := by rw [List.length_append, lay_len]
    simp only [sP, hh, iha f xs (txt b ++ r) h.2.1 (by omega) (by omega), ihb f (xs ++ lay xs.length a) r h.2.2 (by omega) (by omega)]
    rw [if_neg (by omega), if_neg (by omega), if_neg (by omega), hl]
    simp [lay, lay_len]; omega

theorem sP_some : ∀ (f : Nat) (xs : List Nd) (l r : List UInt8) (ys : List Nd), sP f xs l = some (ys, r) → ∃ T : Tm, T.wf ∧ l = txt T ++ r ∧ ys = xs ++ lay xs.length T := by
  intro f
  induction f with
  | zero => intro xs l r ys h; simp [sP] at h
  | succ f ih =>
    intro xs l r ys h
    simp only [sP] at h
    by_cases h40 : 40 < xs.length
    · rw [if_pos h40] at h; cases h
    rw [if_neg h40] at h
    cases hh : headOf l with
    | none => rw [hh] at h; cases h
    | some p =>
      obtain ⟨op, n, r0⟩ := p
      rw [hh] at h
      obtain ⟨h1, h2, h3, h4, rfl⟩ := headOf_some hh
      dsimp only at h
      by_cases hu : usesI op = 0
      · rw [if_pos hu] at h
        simp only [Option.some.injEq, Prod.mk.injEq] at h
        obtain ⟨rfl, rfl⟩ := h
        have hop : op = 1 ∨ op = 2 := by have := op_kinds h1 h2; omega
        exact ⟨.leaf op n, ⟨hop, h3, h4⟩, rfl, rfl⟩
      rw [if_neg hu] at h
      cases hA : sP f xs r0 with
      | none => rw [hA] at h; cases h
      | some p =>
        obtain ⟨ys1, r1⟩ := p
        rw [hA] at h
        obtain ⟨a, wa, rfl, rfl⟩ := ih _ _ _ _ hA
        have hl : (xs ++ lay xs.length a).length = xs.length + a.size := by rw [List.length_append, lay_len]
        dsimp only at h
        by_cases hu1 : usesI op = 1
        · rw [if_pos hu1] at h
          simp only [Option.some.injEq, Prod.mk.injEq] at h
          obtain ⟨rfl, rfl⟩ := h
          by_cases h33 : op = 3
          · subst h33
            have hn0 : n = 0 := by have : limN 3 = 1 := rfl; omega
            subst hn0
            exact ⟨.deny a, wa, by simp [txt, headT, Tm.op, Tm.num], by simp [lay, lay_len]⟩
          · have hop : op = 5 ∨ op = 6 ∨ op = 7 ∨ op = 8 := by have := op_kinds h1 h2; omega
            exact ⟨.know op n a, ⟨hop, h3, h4, wa⟩, by simp [txt, headT, Tm.op, Tm.num], by simp [lay, lay_len]⟩
        rw [if_neg hu1] at h
        cases hB : sP f (xs ++ lay xs.length a) r1 with
        | none => rw [hB] at h; cases h
        | some p =>
          obtain ⟨zs, r2⟩ := p
          rw [hB] at h
          obtain ⟨b, wb, rfl, rfl⟩ := ih _ _ _ _ hB
          simp only [Option.some.injEq, Prod.mk.injEq] at h
          obtain ⟨rfl, rfl⟩ := h
          have hop : op = 4 ∨ op = 9 := by have := op_kinds h1 h2; omega
          have hn0 : n = 0 := by have := limN_48 hop; omega
          subst hn0
          exact ⟨.joint op a b, ⟨hop, wa, wb⟩, by simp [txt, headT, Tm.op, Tm.num], by simp [lay, lay_len]; omega⟩

/-- the term of a text, if it has at most 40 nodes -/
def readAll (l : List UInt8) : Option Tm :=
  match iP 41 0 l with
  | some (T, [], _) => some T
  | _ => none
theorem readAll_txt {T : Tm} (h : T.wf) (hs : T.size ≤ 40) : readAll (txt T) = some T := by
  have := iP_txt T 41 0 [] h (by omega) (by omega)
  rw [List.append_nil] at this
  unfold readAll; rw [this]
theorem readAll_some {l : List UInt8} {T : Tm} (h : readAll l = some T) : T.wf ∧ l = txt T ∧ T.size ≤ 40 := by
  unfold readAll at h
  split at h
  · rename_i T' k hi
    simp only [Option.some.injEq] at h
    subst h
    obtain ⟨h1, h2, h3, h4⟩ := iP_some _ _ _ _ _ _ (by omega) hi
    exact ⟨h1, by simpa using h2, by omega⟩
  · cases h
/-- what ParseFormula answers: the list of nodes, if there is one -/
def parsed (l : List UInt8) : Option (List Nd) := (readAll l).map (lay 0)
theorem parsed_txt {T : Tm} (h : T.wf) (hs : T.size ≤ 40) : parsed (txt T) = some (lay 0 T) := by unfold parsed; rw [readAll_txt h hs]; rfl
/-- texts are read in one way only -/
theorem head_txt {T : Tm} (h : T.wf) (r : List UInt8) : headOf (txt T ++ r) = some (T.op, T.num, T.parts.flatMap txt ++ r) := by
  rw [txt_parts]
  cases T with
  | leaf op n => exact head_of_wf (by have := h.1; show 1 ≤ op; omega) (by have := h.1; show op ≤ 9; omega) h.2.1 h.2.2 _ r
  | deny a => exact head_of_wf (by show (1 : Int) ≤ 3; decide) (by show (3 : Int) ≤ 9; decide) (Int.le_refl _) (by show (0 : Int) < limN 3; decide) _ r
  | know op n a => exact head_of_wf (by have := h.1; show 1 ≤ op; omega) (by have := h.1; show op ≤ 9; omega) h.2.1 h.2.2.1 _ r
  | joint op a b => exact head_of_wf (by have := h.1; show 1 ≤ op; omega) (by have := h.1; show op ≤ 9; omega) (Int.le_refl _) (by show (0 : Int) < limN op; rw [limN_48 h.1]; decide) _ r
theorem txt_inj : ∀ (T T' : Tm) (r r' : List UInt8), T.wf → T'.wf → txt T ++ r = txt T' ++ r' → T = T' ∧ r = r' := by
  intro T
  induction T with
  | leaf op n =>
    intro T' r r' h h' e
    have hh := head_txt h r
    rw [e, head_txt h' r'] at hh
    simp only [Option.some.injEq, Prod.mk.injEq] at hh
    obtain ⟨e1, e2, e3⟩ := hh
    cases T' with
    | leaf op' n' => simp only [Tm.op, Tm.num] at e1 e2; subst e1 e2; exact ⟨rfl, by simpa [Tm.parts] using e3.symm⟩
    | deny a' => have := h.1; simp only [Tm.op] at e1; omega
    | know op' n' a' => have := h.1; have := h'.1; simp only [Tm.op] at e1; omega
    | joint op' a' b' => have := h.1; have := h'.1; simp only [Tm.op] at e1; omega
  | deny a ih =>
    intro T' r r' h h' e
    have hh := head_txt (T := .deny a) h r
    rw [e, head_txt h' r'] at hh
    simp only [Option.some.injEq, Prod.mk.injEq] at hh
    obtain ⟨e1, e2, e3⟩ := hh
    cases T' with
    | leaf op' n' => have := h'.1; simp only [Tm.op] at e1; omega
    | deny a' =>
      have := ih a' r r' h h' (by simpa [Tm.parts] using e3.symm)
      exact ⟨by rw [this.1], this.2⟩
    | know op' n' a' => have := h'.1; simp only [Tm.op] at e1; omega
    | joint op' a' b' => have := h'.1; simp only [Tm.op] at e1; omega
  | know op n a ih =>
    intro T' r r' h h' e
    have hh := head_txt (T := .know op n a) h r
    rw [e, head_txt h' r'] at hh
    simp only [Option.some.injEq, Prod.mk.injEq] at hh
    obtain ⟨e1, e2, e3⟩ := hh
    have ho := h.1
    cases T' with
    | leaf op' n' => have := h'.1; simp only [Tm.op] at e1; omega
    | deny a' => simp only [Tm.op] at e1; omega
    | know op' n' a' =>
      simp only [Tm.op, Tm.num] at e1 e2; subst e1 e2
      have := ih a' r r' h.2.2.2 h'.2.2.2 (by simpa [Tm.parts] using e3.symm)
      exact ⟨by rw [this.1], this.2⟩
    | joint op' a' b' => have := h'.1; simp only [Tm.op] at e1; omega
  | joint op a b iha ihb =>
    intro T' r r' h h' e
    have hh := head_txt (T := .joint op a b) h r
    rw [e, head_txt h' r'] at hh
    simp only [Option.some.injEq, Prod.mk.injEq] at hh
    obtain ⟨e1, e2, e3⟩ := hh
    have ho := h.1
    cases T' with
    | leaf op' n' => have := h'.1; simp only [Tm.op] at e1; omega
    | deny a' => simp only [Tm.op] at e1; omega
    | know op' n' a' => have := h'.1; simp only [Tm.op] at e1; omega
    | joint op' a' b' =>
      simp only [Tm.op] at e1; subst e1
      have h1 := iha a' (txt b ++ r) (txt b' ++ r') h.2.1 h'.2.1 (by simpa [Tm.parts] using e3.symm)
      have h2 := ihb b' r r' h.2.2 h'.2.2 h1.2
      exact ⟨by rw [h1.1, h2.1], h2.2⟩
theorem parsed_big {T : Tm} (h : T.wf) (hs : 40 < T.size) : parsed (txt T) = none := by
  unfold parsed
  match hr : readAll (txt T) with
  | none => rfl
  | some T' =>
    obtain ⟨h1, h2, h3⟩ := readAll_some hr
    have := (txt_inj T T' [] [] h h1 (by rw [h2])).1
    subst this
    omega
/-- the second way answers the same -/
theorem parsed_second {l : List UInt8} {f : Nat} (hf : l.length < f) : (l.length ≤ 80 ∧ ∃ ys, sP f [] l = some (ys, []) ∧ formOk ys = true ∧ parsed l = some ys) ∨ ((80 < l.length ∨ (∀ ys, sP f [] l = some (ys, []) → formOk ys = false)) ∧ parsed l = none) := by
  unfold parsed
  match hr : readAll l with
  | some T =>
    obtain ⟨h1, rfl, h3⟩ := readAll_some hr
    have hl := txt_len T
    have a := sP_txt T f [] [] h1 (by simpa using h3) (by omega)
    rw [List.append_nil] at a
    exact .inl ⟨by omega, _, a, lay_formOk h1 h3, rfl⟩
  | none =>
    refine .inr ⟨.inr fun ys hy => ?_, rfl⟩
    obtain ⟨T, h1, h2, h3⟩ := sP_some _ _ _ _ _ hy
    rw [List.append_nil] at h2
    rw [List.nil_append] at h3
    subst h2 h3
    by_cases hs : T.size ≤ 40
    · rw [readAll_txt h1 hs] at hr; cases hr
    · exact lay_formNot (by omega)
end Go.Proofs.YtodjohdbngbpaaaGreat

/-
  Terms in memory; contracts of letterOf, FormatInt (of 0 to 2), the methods head and parts, nodeOf, newTerm, textOf, depthOfTerm.
-/
namespace Go.Proofs.YtodjohdbngbpaaaGreat
open Go.RowKit
open Go Go.Deep

/-- the value of a term -/
def tv : Tm → Value
  | .leaf op n => .iface 167 (.agg #[.int .i64 op, .int .i64 n])
  | .deny a => .iface 169 (.agg #[tv a])
  | .know op n a => .iface 173 (.agg #[.int .i64 op, .int .i64 n, tv a])
  | .joint op a b => .iface 171 (.agg #[.int .i64 op, tv a, tv b])
theorem tv_form (t : Tm) : ∃ ty pv, tv t = .iface ty pv := by cases t <;> exact ⟨_, _, rfl⟩
/-- a string of bytes -/
def str (l : List UInt8) : ByteArray := ⟨l.toArray⟩
theorem str_app (l r : List UInt8) : str l ++ str r = str (l ++ r) := ByteArray.mk_append_mk l r
theorem str_size (l : List UInt8) : (str l).size = l.length := rfl

set_option maxHeartbeats 400000 in
theorem letterOf_any (op : Int) (w : World) (h1 : 2 ≤ op) (h2 : op ≤ 9) : Calls Tryz.prog 222 #[.int .i64 op] w fun e w' => e = .returned (.string (str [letterI op])) ∧ w = w' := by
  have hop : op = 2 ∨ op = 3 ∨ op = 4 ∨ op = 5 ∨ op = 6 ∨ op = 7 ∨ op = 8 ∨ op = 9 := by omega
  rcases hop with rfl | rfl | rfl | rfl | rfl | rfl | rfl | rfl
  all_goals
    go_enter Tryz.func222, Tryz.ntmps222
    go_wp2
    go_ret
    exact ⟨ret_str (by rfl), rfl⟩

set_option maxHeartbeats 1000000 in
theorem small_any (n : Int) (w : World) (h : n = 0 ∨ n = 1 ∨ n = 2) : Calls Tryz.prog 229 #[.int .i64 n] w fun e w' => e = .returned (.string (str [UInt8.ofNat (48 + n.toNat)])) ∧ w = w' := by
  rcases h with rfl | rfl | rfl
  all_goals
    go_enter Tryz.func229, Tryz.ntmps229
    go_wp2
    go_ret
    exact ⟨ret_str (by rfl), rfl⟩

set_option maxHeartbeats 1000000 in
theorem leafHead_any (op n : Int) (w : World) (h : (op = 1 ∨ op = 2) ∧ 0 ≤ n ∧ n < limN op) : Calls Tryz.prog 220 #[.agg #[.int .i64 op, .int .i64 n]] w fun e w' => e = .returned (.string (str (headB op n))) ∧ Below w.heap.size w w' := by
  obtain ⟨h0, h1, h2⟩ := h
  rcases h0 with rfl | rfl
  · have hn : n = 0 ∨ n = 1 ∨ n = 2 ∨ n = 3 := by have : limN 1 = 4 := rfl; omega
    clear h1 h2
    rcases hn with rfl | rfl | rfl | rfl
    all_goals
      go_enter Tryz.func220, Tryz.ntmps220
      go_wp2
      go_ret
      exact ⟨ret_str (by rfl), (Below.refl _ _).alloc (Nat.le_refl _) _⟩
  · clear h1 h2
    have K := Lib.hid (fun W => letterOf_any 2 W (by decide) (by decide))
    go_enter Tryz.func220, Tryz.ntmps220
    go_wp2_with fail
    refine (K.out _).mono ?_
    rintro e w' ⟨rfl, rfl⟩
    go_wp2
    go_ret
    exact ⟨ret_str (by rfl), (Below.refl _ _).alloc (Nat.le_refl _) _⟩
set_option maxHeartbeats 1000000 in
theorem denyHead_any (a : Value) (w : World) : Calls Tryz.prog 223 #[.agg #[a]] w fun e w' => e = .returned (.string (str (headB 3 0))) ∧ Below w.heap.size w w' := by
  have K := Lib.hid (fun W => letterOf_any 3 W (by decide) (by decide))
  go_enter Tryz.func223, Tryz.ntmps223
  go_wp2_with fail
  refine (K.out _).mono ?_
  rintro e w' ⟨rfl, rfl⟩
  go_wp2
  go_ret
  exact ⟨ret_str (by rfl), (Below.refl _ _).alloc (Nat.le_refl _) _⟩
set_option maxHeartbeats 1000000 in
theorem jointHead_any (op : Int) (a b : Value) (w : World) (h : op = 4 ∨ op = 9) : Calls Tryz.prog 225 #[.agg #[.int .i64 op, a, b]] w fun e w' => e = .returned (.string (str (headB op 0))) ∧ Below w.heap.size w w' := by
  have K := Lib.hid (fun W => letterOf_any op W (by omega) (by omega))
  have E : Hid (headB op 0 = [letterI op]) := Lib.hid (by unfold headB; rw [if_neg (by omega), if_neg (by omega)])
  clear h
  go_enter Tryz.func225, Tryz.ntmps225
  go_wp2_with fail
  refine (K.out _).mono ?_
  rintro e w' ⟨rfl, rfl⟩
  go_wp2
  go_ret
  exact ⟨ret_str (by rw [E.out]), (Below.refl _ _).alloc (Nat.le_refl _) _⟩
set_option maxHeartbeats 1000000 in
theorem knowHead_any (op n : Int) (a : Value) (w : World) (h : (op = 5 ∨ op = 6 ∨ op = 7 ∨ op = 8) ∧ 0 ≤ n ∧ n < limN op) : Calls Tryz.prog 227 #[.agg #[.int .i64 op, .int .i64 n, a]] w fun e w' => e = .returned (.string (str (headB op n))) ∧ Below w.heap.size w w' := by
  obtain ⟨h0, h1, h2⟩ := h
  have K := Lib.hid (fun W => letterOf_any op W (by omega) (by omega))
  by_cases h5 : op = 5 ∨ op = 6
  · rw [limN_eq h5] at h2
    have KA := Lib.hid (fun W => namesAgent_any op W)
    rw [show decide (op = 5 ∨ op = 6) = true by simpa using h5] at KA
    have KS := Lib.hid (fun W => small_any n W (by omega))
    have E : Hid (headB op n = [letterI op] ++ [UInt8.ofNat (48 + n.toNat)]) := Lib.hid (by unfold headB; rw [if_neg (by omega), if_pos h5]; rfl)
    clear h0 h1 h2 h5
    have z1 : (str [letterI op]).size ≤ 1 := Nat.le_refl _
    have z2 : (str [UInt8.ofNat (48 + n.toNat)]).size ≤ 1 := Nat.le_refl _
    rw [show str (headB op n) = str [letterI op] ++ str [UInt8.ofNat (48 + n.toNat)] by rw [E.out, str_app]]
    clear E
    generalize str [letterI op] = s1 at *
    generalize str [UInt8.ofNat (48 + n.toNat)] = s2 at *
    have hadd := fun W => run_string_add_sum (P := Tryz.prog) W s1 s2 (by omega)
    go_enter Tryz.func227, Tryz.ntmps227
    go_wp2_with fail
    refine (KA.out _).mono ?_
    rintro e w' ⟨rfl, rfl⟩
    go_wp2
    go_quiet ((first | (go_at_call 222; exact quiet_eq (K.out _)) | (go_at_call 229; exact quiet_eq (KS.out _))))
    go_wp2
    go_ret
    exact ⟨rfl, below_drewN' ((Below.refl _ _).alloc (Nat.le_refl _) _) _⟩
  · have KA := Lib.hid (fun W => namesAgent_any op W)
    rw [show decide (op = 5 ∨ op = 6) = false by simpa using h5] at KA
    have E : Hid (headB op n = [letterI op]) := Lib.hid (by unfold headB; rw [if_neg (by omega), if_neg h5])
    clear h0 h1 h2 h5
    go_enter Tryz.func227, Tryz.ntmps227
    go_wp2_with fail
    refine (KA.out _).mono ?_
    rintro e w' ⟨rfl, rfl⟩
    go_wp2_with fail
    refine (K.out _).mono ?_
    rintro e w' ⟨rfl, rfl⟩
    go_wp2
    go_ret
    exact ⟨ret_str (by rw [E.out]), (Below.refl _ _).alloc (Nat.le_refl _) _⟩

/-- the slice of parts that a method makes -/
def PartsAre (w w' : World) (v : Value) (xs : List Value) : Prop :=
  ∃ g, v = .slice (some ⟨g, 0, none⟩) xs.length xs.length ∧ w.heap.size ≤ g ∧ g < w'.heap.size ∧ ∀ j, j < xs.length → w'.cell? ⟨g, j, none⟩ = some (xs.getD j undef)
set_option maxHeartbeats 1000000 in
theorem leafParts_any (op n : Int) (w : World) : Calls Tryz.prog 221 #[.agg #[.int .i64 op, .int .i64 n]] w fun e w' => e = .returned (.slice none 0 0) ∧ Below w.heap.size w w' := by
  go_enter Tryz.func221, Tryz.ntmps221
  go_wp2
  go_ret
  exact ⟨rfl, (Below.refl _ _).alloc (Nat.le_refl _) _⟩
set_option maxHeartbeats 1000000 in
theorem denyParts_any (a : Tm) (w : World) : Calls Tryz.prog 224 #[.agg #[tv a]] w fun e w' => ∃ v, e = .returned v ∧ PartsAre w w' v [tv a] ∧ Below w.heap.size w w' := by
  obtain ⟨ty, pv, hx⟩ := tv_form a
  rw [hx]
  clear hx
  go_enter Tryz.func224, Tryz.ntmps224
  go_wp2
  go_ret
  refine ⟨_, rfl, ⟨_, rfl, by simp, by simp, fun j hj => ?_⟩, ((Below.refl _ _).alloc (Nat.le_refl _) _).alloc (by simp) _⟩
  obtain rfl : j = 0 := by have : j < 1 := hj; omega
  rw [World.cell?_alloc_at _ _ _ _ (by simp)]; rfl
set_option maxHeartbeats 1000000 in
theorem knowParts_any (op n : Int) (a : Tm) (w : World) : Calls Tryz.prog 228 #[.agg #[.int .i64 op, .int .i64 n, tv a]] w fun e w' => ∃ v, e = .returned v ∧ PartsAre w w' v [tv a] ∧ Below w.heap.size w w' := by
  obtain ⟨ty, pv, hx⟩ := tv_form a
  rw [hx]
  clear hx
  go_enter Tryz.func228, Tryz.ntmps228
  go_wp2
  go_ret
  refine ⟨_, rfl, ⟨_, rfl, by simp, by simp, fun j hj => ?_⟩, ((Below.refl _ _).alloc (Nat.le_refl _) _).alloc (by simp) _⟩
  obtain rfl : j = 0 := by have : j < 1 := hj; omega
  rw [World.cell?_alloc_at _ _ _ _ (by simp)]; rfl
set_option maxHeartbeats 1000000 in
theorem jointParts_any (op : Int) (a b : Tm) (w : World) : Calls Tryz.prog 226 #[.agg #[.int .i64 op, tv a, tv b]] w fun e w' => ∃ v, e = .returned v ∧ PartsAre w w' v [tv a, tv b] ∧ Below w.heap.size w w' := by
  obtain ⟨ty, pv, hx⟩ := tv_form a
  rw [hx]
  clear hx
  obtain ⟨ty', pv', hx⟩ := tv_form b
  rw [hx]
  clear hx
  go_enter Tryz.func226, Tryz.ntmps226
  go_wp2
  go_ret
  refine ⟨_, rfl, ⟨_, rfl, by simp, by simp, fun j hj => ?_⟩, ((Below.refl _ _).alloc (Nat.le_refl _) _).alloc (by simp) _⟩
  have hj' : j = 0 ∨ j = 1 := by have : j < 2 := hj; omega
  rcases hj' with rfl | rfl
  · rw [World.cell?_alloc_at _ _ _ _ (by simp)]; rfl
  · rw [World.cell?_alloc_at _ _ _ _ (by simp)]; rfl
end Go.Proofs.YtodjohdbngbpaaaGreat

/-
  Contracts of nodeOf, newTerm, textOf, depthOfTerm.
-/
namespace Go.Proofs.YtodjohdbngbpaaaGreat
open Go.RowKit
open Go Go.Deep

theorem ta_leaf_leaf (v : Value) (w : World) : (Instr.typeAssert (.iface 167 v) 75 167 true).run Tryz.prog w = .ok (.tuple #[v, .bool true]) w := by kernel_rfl
theorem ta_deny_leaf (v : Value) (w : World) : (Instr.typeAssert (.iface 169 v) 75 167 true).run Tryz.prog w = .ok (.tuple #[.agg #[.int .i64 0, .int .i64 0], .bool false]) w := by kernel_rfl
theorem ta_know_leaf (v : Value) (w : World) : (Instr.typeAssert (.iface 173 v) 75 167 true).run Tryz.prog w = .ok (.tuple #[.agg #[.int .i64 0, .int .i64 0], .bool false]) w := by kernel_rfl
theorem ta_joint_leaf (v : Value) (w : World) : (Instr.typeAssert (.iface 171 v) 75 167 true).run Tryz.prog w = .ok (.tuple #[.agg #[.int .i64 0, .int .i64 0], .bool false]) w := by kernel_rfl
theorem ta_leaf_know (v : Value) (w : World) : (Instr.typeAssert (.iface 167 v) 75 173 true).run Tryz.prog w = .ok (.tuple #[.agg #[.int .i64 0, .int .i64 0, .nilIface], .bool false]) w := by kernel_rfl
theorem ta_deny_know (v : Value) (w : World) : (Instr.typeAssert (.iface 169 v) 75 173 true).run Tryz.prog w = .ok (.tuple #[.agg #[.int .i64 0, .int .i64 0, .nilIface], .bool false]) w := by kernel_rfl
theorem ta_know_know (v : Value) (w : World) : (Instr.typeAssert (.iface 173 v) 75 173 true).run Tryz.prog w = .ok (.tuple #[v, .bool true]) w := by kernel_rfl
theorem ta_joint_know (v : Value) (w : World) : (Instr.typeAssert (.iface 171 v) 75 173 true).run Tryz.prog w = .ok (.tuple #[.agg #[.int .i64 0, .int .i64 0, .nilIface], .bool false]) w := by kernel_rfl
theorem ta_leaf_joint (v : Value) (w : World) : (Instr.typeAssert (.iface 167 v) 75 171 true).run Tryz.prog w = .ok (.tuple #[.agg #[.int .i64 0, .nilIface, .nilIface], .bool false]) w := by kernel_rfl
theorem ta_deny_joint (v : Value) (w : World) : (Instr.typeAssert (.iface 169 v) 75 171 true).run Tryz.prog w = .ok (.tuple #[.agg #[.int .i64 0, .nilIface, .nilIface], .bool false]) w := by kernel_rfl
theorem ta_know_joint (v : Value) (w : World) : (Instr.typeAssert (.iface 173 v) 75 171 true).run Tryz.prog w = .ok (.tuple #[.agg #[.int .i64 0, .nilIface, .nilIface], .bool false]) w := by kernel_rfl
theorem ta_joint_joint (v : Value) (w : World) : (Instr.typeAssert (.iface 171 v) 75 171 true).run Tryz.prog w = .ok (.tuple #[v, .bool true]) w := by kernel_rfl
set_option maxRecDepth 100000 in
set_option maxHeartbeats 1000000 in
theorem nodeOf_any (t : Tm) (w : World) : Calls Tryz.prog 140 #[tv t] w fun e w' => e = .returned (Nd.v ⟨t.op, t.num, 0, 0⟩) ∧ Below w.heap.size w w' := by
  cases t with
  | leaf op n =>
    unfold Nd.v tv
    have t1 := ta_leaf_leaf
    have t2 := ta_leaf_know
    have t3 := ta_leaf_joint
    go_enter Tryz.func140, Tryz.ntmps140
    go_wp2
    go_returns
    refine ⟨rfl, ?_⟩
    go_grown
  | deny a =>
    unfold Nd.v tv
    have t1 := ta_deny_leaf
    have t2 := ta_deny_know
    have t3 := ta_deny_joint
    go_enter Tryz.func140, Tryz.ntmps140
    go_wp2
    go_returns
    refine ⟨rfl, ?_⟩
    go_grown
  | know op n a =>
    unfold Nd.v tv
    obtain ⟨ty, pv, hx⟩ := tv_form a
    rw [hx]
    clear hx
    have t1 := ta_know_leaf
    have t2 := ta_know_know
    have t3 := ta_know_joint
    go_enter Tryz.func140, Tryz.ntmps140
    go_wp2
    go_returns
    refine ⟨rfl, ?_⟩
    go_grown
  | joint op a b =>
    unfold Nd.v tv
    obtain ⟨ty, pv, hx⟩ := tv_form a
    rw [hx]
    clear hx
    obtain ⟨ty', pv', hx⟩ := tv_form b
    rw [hx]
    clear hx
    have t1 := ta_joint_leaf
    have t2 := ta_joint_know
    have t3 := ta_joint_joint
    go_enter Tryz.func140, Tryz.ntmps140
    go_wp2
    go_returns
    refine ⟨rfl, ?_⟩
    go_grown

theorem Rs.one {w : World} {v x : Value} (h : Rs w v [x]) : ∃ b o cap, v = .slice (some ⟨b, o, none⟩) 1 cap ∧ w.cell? ⟨b, o, none⟩ = some x := by
  obtain ⟨a, cap, rfl, h1, h2, h3⟩ := h
  rcases h3 with h3 | ⟨b, o, rfl, hlt, hc⟩
  · cases h3
  · exact ⟨b, o, cap, rfl, hc 0 x rfl⟩
theorem Rs.two {w : World} {v x y : Value} (h : Rs w v [x, y]) : ∃ b o cap, v = .slice (some ⟨b, o, none⟩) 2 cap ∧ w.cell? ⟨b, o, none⟩ = some x ∧ w.cell? ⟨b, o + 1, none⟩ = some y := by
  obtain ⟨a, cap, rfl, h1, h2, h3⟩ := h
  rcases h3 with h3 | ⟨b, o, rfl, hlt, hc⟩
  · cases h3
  · exact ⟨b, o, cap, rfl, hc 0 x rfl, hc 1 y rfl⟩

set_option maxHeartbeats 1000000 in
theorem newTerm_0 (op n : Int) (v : Value) (w : World) (h : op = 1 ∨ op = 2) : Calls Tryz.prog 103 #[.int .i64 op, .int .i64 n, v] w fun e w' => e = .returned (tv (.leaf op n)) ∧ w = w' := by
  unfold tv
  rcases h with rfl | rfl
  all_goals
    go_enter Tryz.func103, Tryz.ntmps103
    go_wp2
    go_ret
    exact ⟨rfl, rfl⟩
set_option maxHeartbeats 1000000 in
theorem newTerm_3 (n : Int) (v : Value) (a : Tm) (w : World) (h : Rs w v [tv a]) : Calls Tryz.prog 103 #[.int .i64 3, .int .i64 n, v] w fun e w' => e = .returned (tv (.deny a)) ∧ w = w' := by
  obtain ⟨b, o, cap, rfl, hc⟩ := h.one
  have HH := Lib.hid h
  clear h
  unfold tv
  obtain ⟨ty, pv, hx⟩ := tv_form a
  rw [hx] at hc ⊢
  clear hx
  go_enter Tryz.func103, Tryz.ntmps103
  go_wp2
  go_ret
  exact ⟨rfl, rfl⟩
set_option maxHeartbeats 1000000 in
theorem newTerm_1 (op n : Int) (v : Value) (a : Tm) (w : World) (ho : op ≠ 1 ∧ op ≠ 2 ∧ op ≠ 3 ∧ op ≠ 4 ∧ op ≠ 9) (h : Rs w v [tv a]) : Calls Tryz.prog 103 #[.int .i64 op, .int .i64 n, v] w fun e w' => e = .returned (tv (.know op n a)) ∧ w = w' := by
  obtain ⟨b, o, cap, rfl, hc⟩ := h.one
  have HH := Lib.hid h
  clear h
  have e1 : (op == 1) = false := by simp; omega
  have e2 : (op == 2) = false := by simp; omega
  have e3 : (op == 3) = false := by simp; omega
  have e4 : (op == 4) = false := by simp; omega
  have e9 : (op == 9) = false := by simp; omega
  clear ho
  unfold tv
  obtain ⟨ty, pv, hx⟩ := tv_form a
  rw [hx] at hc ⊢
  clear hx
  go_enter Tryz.func103, Tryz.ntmps103
  go_wp2
  go_ret
  exact ⟨rfl, rfl⟩
set_option maxHeartbeats 1000000 in
theorem newTerm_2 (op n : Int) (v : Value) (a b : Tm) (w : World) (ho : op = 4 ∨ op = 9) (h : Rs w v [tv a, tv b]) : Calls Tryz.prog 103 #[.int .i64 op, .int .i64 n, v] w fun e w' => e = .returned (tv (.joint op a b)) ∧ Below w.heap.size w w' := by
  obtain ⟨bl, o, cap, rfl, hc, hc'⟩ := h.two
  have HH := Lib.hid h
  clear h
  unfold tv
  obtain ⟨ty, pv, hx⟩ := tv_form a
  rw [hx] at hc ⊢
  clear hx
  obtain ⟨ty', pv', hx⟩ := tv_form b
  rw [hx] at hc' ⊢
  clear hx
  rcases ho with rfl | rfl
  all_goals
    go_enter Tryz.func103, Tryz.ntmps103
    go_wp2
    go_quiet (fail)
    go_wp2
    go_ret
    exact ⟨rfl, below_drewN' (Below.refl _ _) _⟩
end Go.Proofs.YtodjohdbngbpaaaGreat

/-
  Contracts of textOf and depthOfTerm (by the term), spec.l02Text and spec.l02Depth (by the node).
-/
namespace Go.Proofs.YtodjohdbngbpaaaGreat
open Go.RowKit
open Go Go.Deep

theorem PartsAre.at0 {w w' : World} {v x : Value} {l : List Value} (h : PartsAre w w' v (x :: l)) : ∃ g, v = .slice (some ⟨g, 0, none⟩) (l.length + 1) (l.length + 1) ∧ w.heap.size ≤ g ∧ g < w'.heap.size ∧ w'.cell? ⟨g, 0, none⟩ = some x := by
  obtain ⟨g, rfl, h1, h2, h3⟩ := h
  exact ⟨g, rfl, h1, h2, h3 0 (by simp)⟩

set_option maxRecDepth 100000 in
set_option maxHeartbeats 4000000 in
theorem textOf_any : ∀ (t : Tm) (w : World), t.wf → t.size ≤ 100 → Calls Tryz.prog 58 #[tv t] w fun e w' => e = .returned (.string (str (txt t))) ∧ Below w.heap.size w w' := by
  intro t
  induction t with
  | leaf op n =>
    intro w h hs
    have H := Lib.hid (fun W => leafHead_any op n W h)
    have P := Lib.hid (fun W => leafParts_any op n W)
    clear hs h
    rw [show txt (.leaf op n) = headB op n from rfl]
    unfold tv
    go_enter Tryz.func58, Tryz.ntmps58
    go_wp2_with fail
    refine (H.out _).mono ?_
    rintro e w1 ⟨rfl, hb1⟩
    have B1 := Lib.hid hb1; clear hb1
    go_wp2_with fail
    refine (P.out _).mono ?_
    rintro e w2 ⟨rfl, hb2⟩
    have B2 := Lib.hid (B1.out.trans (hb2.mono B1.out.size)); clear hb2
    go_wp2
    refine wp_loop_rounds 1 ?_
    rw [rounds_succ]
    go_wp2
    go_ret
    exact ⟨rfl, B2.out⟩
  | deny a ih =>
    intro w h hs
    have hsa : a.size ≤ 100 := by simp only [Tm.size] at hs; omega
    have hwa : a.wf := h
    have H := Lib.hid (fun W => denyHead_any (tv a) W)
    have P := Lib.hid (fun W => denyParts_any a W)
    have IH := Lib.hid (fun W => ih W hwa hsa)
    have E : Hid (txt (.deny a) = headB 3 0 ++ txt a) := Lib.hid rfl
    have z1 : (str (headB 3 0)).size ≤ 2 := (headT_len (.deny a)).2
    have z2 : (str (txt a)).size ≤ 200 := by have := (txt_len a).2; rw [str_size]; omega
    rw [E.out, ← str_app]
    clear E ih hwa h hs hsa
    generalize str (headB 3 0) = s1 at *
    generalize str (txt a) = s2 at *
    have hadd := fun W => run_string_add_sum (P := Tryz.prog) W s1 s2 (by omega)
    unfold tv
    go_enter Tryz.func58, Tryz.ntmps58
    go_wp2_with fail
    refine (H.out _).mono ?_
    rintro e w1 ⟨rfl, hb1⟩
    have B1 := Lib.hid hb1; clear hb1
    go_wp2_with fail
    refine (P.out _).mono ?_
    rintro e w2 ⟨v, rfl, hp, hb2⟩
    obtain ⟨g, rfl, hg1, hg2, hc⟩ := hp.at0
    have B2 := Lib.hid (B1.out.trans (hb2.mono B1.out.size)); clear hb2 hp
    go_wp2
    refine wp_loop_rounds 2 ?_
    rw [rounds_succ]
    go_wp2_with fail
    refine (IH.out _).mono ?_
    rintro e w3 ⟨rfl, hb3⟩
    have B3 := Lib.hid (B2.out.trans (hb3.mono B2.out.size)); clear hb3
    go_wp2
    rw [rounds_succ]
    go_wp2
    go_ret
    exact ⟨rfl, B3.out⟩
  | know op n a ih =>
    intro w h hs
    have hsa : a.size ≤ 100 := by simp only [Tm.size] at hs; omega
    have hwa : a.wf := h.2.2.2
    have H := Lib.hid (fun W => knowHead_any op n (tv a) W ⟨h.1, h.2.1, h.2.2.1⟩)
    have P := Lib.hid (fun W => knowParts_any op n a W)
    have IH := Lib.hid (fun W => ih W hwa hsa)
    have E : Hid (txt (.know op n a) = headB op n ++ txt a) := Lib.hid rfl
    have z1 : (str (headB op n)).size ≤ 2 := (headT_len (.know op n a)).2
    have z2 : (str (txt a)).size ≤ 200 := by have := (txt_len a).2; rw [str_size]; omega
    rw [E.out, ← str_app]
    clear E ih hwa h hs hsa
    generalize str (headB op n) = s1 at *
    generalize str (txt a) = s2 at *
    have hadd := fun W => run_string_add_sum (P := Tryz.prog) W s1 s2 (by omega)
    unfold tv
    go_enter Tryz.func58, Tryz.ntmps58
    go_wp2_with fail
    refine (H.out _).mono ?_
    rintro e w1 ⟨rfl, hb1⟩
    have B1 := Lib.hid hb1; clear hb1
    go_wp2_with fail
    refine (P.out _).mono ?_
    rintro e w2 ⟨v, rfl, hp, hb2⟩
    obtain ⟨g, rfl, hg1, hg2, hc⟩ := hp.at0
    have B2 := Lib.hid (B1.out.trans (hb2.mono B1.out.size)); clear hb2 hp
    go_wp2
    refine wp_loop_rounds 2 ?_
    rw [rounds_succ]
    go_wp2_with fail
    refine (IH.out _).mono ?_
    rintro e w3 ⟨rfl, hb3⟩
    have B3 := Lib.hid (B2.out.trans (hb3.mono B2.out.size)); clear hb3
    go_wp2
    rw [rounds_succ]
    go_wp2
    go_ret
    exact ⟨rfl, B3.out⟩
  | joint op a b iha ihb =>
    intro w h hs
    have hsa : a.size ≤ 100 := by simp only [Tm.size] at hs; omega
    have hsb : b.size ≤ 100 := by simp only [Tm.size] at hs; omega
    have hwa : a.wf := h.2.1
    have hwb : b.wf := h.2.2
    have H := Lib.hid (fun W => jointHead_any op (tv a) (tv b) W h.1)
    have P := Lib.hid (fun W => jointParts_any op a b W)
    have IA := Lib.hid (fun W => iha W hwa hsa)
    have IB := Lib.hid (fun W => ihb W hwb hsb)
    have E : Hid (txt (.joint op a b) = headB op 0 ++ txt a ++ txt b) := Lib.hid rfl
    have z1 : (str (headB op 0)).size ≤ 2 := (headT_len (.joint op a b)).2
    have z2 : (str (txt a)).size ≤ 200 := by have := (txt_len a).2; rw [str_size]; omega
    have z3 : (str (txt b)).size ≤ 200 := by have := (txt_len b).2; rw [str_size]; omega
    rw [E.out, ← str_app, ← str_app]
    clear E iha ihb hwa hwb h hs hsa hsb
    generalize str (headB op 0) = s1 at *
    generalize str (txt a) = s2 at *
    generalize str (txt b) = s3 at *
    have hadd := fun W => run_string_add_sum (P := Tryz.prog) W s1 s2 (by omega)
    have hadd' := fun W => run_string_add_sum (P := Tryz.prog) W (s1 ++ s2) s3 (by rw [ByteArray.size_append]; omega)
    unfold tv
    go_enter Tryz.func58, Tryz.ntmps58
    go_wp2_with fail
    refine (H.out _).mono ?_
    rintro e w1 ⟨rfl, hb1⟩
    have B1 := Lib.hid hb1; clear hb1
    go_wp2_with fail
    refine (P.out _).mono ?_
    rintro e w2 ⟨v, rfl, hp, hb2⟩
    obtain ⟨g, rfl, hg1, hg2, hc⟩ := hp.at0
    obtain ⟨g', he, _, _, hcc⟩ := hp
    simp only [Value.slice.injEq, Option.some.injEq, Addr.mk.injEq, and_true] at he
    obtain ⟨rfl, _⟩ := he
    have hc' : w2.cell? ⟨g, 1, none⟩ = some (tv b) := hcc 1 (by simp)
    have B2 := Lib.hid (B1.out.trans (hb2.mono B1.out.size)); clear hb2 hcc
    go_wp2
    refine wp_loop_rounds 3 ?_
    rw [rounds_succ]
    go_wp2_with fail
    refine (IA.out _).mono ?_
    rintro e w3 ⟨rfl, hb3⟩
    rw [← hb3.cell (p := ⟨g, 1, none⟩) hg2] at hc'
    have B3 := Lib.hid (B2.out.trans (hb3.mono B2.out.size)); clear hb3 hc
    go_wp2
    rw [rounds_succ]
    go_wp2_with fail
    refine (IB.out _).mono ?_
    rintro e w4 ⟨rfl, hb4⟩
    have B4 := Lib.hid (B3.out.trans (hb4.mono B3.out.size)); clear hb4 hc'
    go_wp2
    rw [rounds_succ]
    go_wp2
    go_ret
    exact ⟨rfl, B4.out⟩
end Go.Proofs.YtodjohdbngbpaaaGreat

/-
  Contracts of depthOfTerm (by the term), spec.l02Text and spec.l02Depth (by the node).
-/
namespace Go.Proofs.YtodjohdbngbpaaaGreat
open Go.RowKit
open Go Go.Deep

end Go.Proofs.YtodjohdbngbpaaaGreat

/-
  Contracts of termAt and termOf; the walks of the laws FnExactFormatFormula, FnExactSameFormula, FnExactDepthOf.
-/
namespace Go.Proofs.YtodjohdbngbpaaaGreat
open Go.RowKit
open Go Go.Deep

theorem Tryz.infoTm : (Tryz.prog.info? 75).map (fun i => (i.zero, i.size, i.bytes)) = some (some .nilIface, 1, 16) := by kernel_rfl

theorem node_kept' {w w2 : World} {c : Array Value} {T : TypeId} (hb : Below (w.alloc (.cells c T)).heap.size (w.alloc (.cells c T)) w2) (k : Nat) : w2.cell? ⟨w.heap.size, k, none⟩ = c[k]? := by
  rw [hb.cell (p := ⟨w.heap.size, k, none⟩) (by simp), World.cell?_alloc_at _ _ _ _ rfl]

set_option maxRecDepth 100000 in
set_option maxHeartbeats 16000000 in
theorem termAt_any (xs : List Nd) (v : Value) (hn : nodesOk xs = true) : ∀ (m i : Nat) (w : World), i < m → i < xs.length → Ns w v xs →
    Calls Tryz.prog 107 #[v, .int .i64 i] w fun e w' => e = .returned (tv (tmAt xs i)) ∧ Below w.heap.size w w' := by
  have HN := Lib.hid hn
  clear hn
  intro m
  induction m with
  | zero => intro i w hi; omega
  | succ m ih =>
    intro i w hi hl hr
    have hok := nodesOk_at HN.out hl
    have hp := okAt_parts hok
    rw [tmAt_eq HN.out hl]
    obtain ⟨a, cap, rfl, h1, h2, h3⟩ := hr.parts
    obtain ⟨b, o, rfl, hb, c0, c1, c2, c3⟩ := h3 i hl
    clear h3 hok
    have HR := Lib.hid hr
    clear hr
    generalize hx : xs.getD i default = x at *
    obtain ⟨op, n, xa, xb⟩ := x
    simp only [] at c0 c1 c2 c3 hp ⊢
    clear hx
    unfold maxLen at h2
    have IH := Lib.hid ih
    clear ih
    have KB := Lib.hid (fun W => usedBy_any ⟨op, n, xa, xb⟩ W (fun h => (hp.2.1 h).1) (fun h => (hp.2.2.1 h).1))
    have e0 : usesI op = 0 → usedOf ⟨op, n, xa, xb⟩ = [] := fun h => by unfold usedOf; rw [h]; rfl
    have e1 : usesI op = 1 → usedOf ⟨op, n, xa, xb⟩ = [xa.toNat] := fun h => by unfold usedOf; rw [h]; rfl
    have e2 : usesI op = 2 → usedOf ⟨op, n, xa, xb⟩ = [xa.toNat, xb.toNat] := fun h => by unfold usedOf; rw [h]; rfl
    have hz0 : (0 : Nat) + 1 ≤ maxLen := by decide
    have hz1 : (0 + 1) * 16 ≤ 140737488355328 := by decide
    have hy1 : (1 : Nat) + 1 ≤ maxLen := by decide
    have hy2 : (1 + 1) * 16 ≤ 140737488355328 := by decide
    by_cases hu : usesI op = 0
    · have ho : op = 1 ∨ op = 2 := by have := op_kinds hp.1.1 hp.1.2.1; omega
      rw [mkTm_leaf ho]
      rw [e0 hu] at KB
      have KT := Lib.hid (fun v W => newTerm_0 op n v W ho)
      clear e0 e1 e2 hp ho hu
      go_enter Tryz.func107, Tryz.ntmps107
      go_wp2_with fail
      refine (KB.out _).mono ?_
      rintro e w1 ⟨g, rfl, hg1, hg2, _, hb1⟩
      have n0 := node_kept' hb1 0
      have n1 := node_kept' hb1 1
      have B1 := Lib.hid (((Below.refl w.heap.size w).alloc (Nat.le_refl _) _).trans (hb1.mono (by simp)))
      clear hb1 c0 c1 c2 c3
      simp at n0 n1
      go_wp2
      refine wp_loop_rounds 1 ?_
      rw [rounds_succ]
      go_wp2_with fail
      refine (KT.out _ _).mono ?_
      rintro e w' ⟨rfl, rfl⟩
      go_wp2
      go_ret
      exact ⟨rfl, B1.out⟩
    by_cases hu1 : usesI op = 1
    · have ha := hp.2.1 (by omega)
      have hop : op = 3 ∨ (op ≠ 1 ∧ op ≠ 2 ∧ op ≠ 3 ∧ op ≠ 4 ∧ op ≠ 9) := by have := op_kinds hp.1.1 hp.1.2.1; omega
      have e3 : mkTm op n (tmAt xs xa.toNat) (tmAt xs xb.toNat) = if op = 3 then .deny (tmAt xs xa.toNat) else .know op n (tmAt xs xa.toNat) := by
        rcases hop with rfl | h
        · rw [mkTm_deny]; rfl
        · rw [if_neg h.2.2.1]; unfold mkTm; rw [if_neg (by omega), if_neg (by omega), if_neg (by omega)]
      rw [e3]
      rw [e1 hu1] at KB
      obtain ⟨k, rfl⟩ : ∃ k : Nat, xa = k := ⟨xa.toNat, by omega⟩
      rw [Int.toNat_natCast] at *
      have hka : k < m := by omega
      have hkl : k < xs.length := by omega
      have KD := Lib.hid (fun W (h : Below w.heap.size w W) => IH.out k W hka hkl (HR.out.below h (Nat.le_refl _)))
      clear e0 e1 e2 e3 hp hu hu1 hka hkl ha
      generalize tmAt xs k = T at *
      have KT : Hid (∀ v W, Rs W v [tv T] → Calls Tryz.prog 103 #[.int .i64 op, .int .i64 n, v] W fun e w' => e = .returned (tv (if op = 3 then .deny T else .know op n T)) ∧ W = w') := Lib.hid (fun v W h => by
        rcases hop with rfl | h'
        · rw [if_pos rfl]; exact newTerm_3 n v T W h
        · rw [if_neg h'.2.2.1]; exact newTerm_1 op n v T W h' h)
      generalize tv (if op = 3 then Tm.deny T else .know op n T) = R at *
      obtain ⟨ty, pv, hx⟩ := tv_form T
      rw [hx] at KD KT
      clear hx hop
      go_enter Tryz.func107, Tryz.ntmps107
      go_wp2_with fail
      refine (KB.out _).mono ?_
      rintro e w1 ⟨g, rfl, hg1, hg2, hgc, hb1⟩
      have B1 := Lib.hid (((Below.refl w.heap.size w).alloc (Nat.le_refl _) _).trans (hb1.mono (by simp)))
      have n0 := node_kept' hb1 0
      have n1 := node_kept' hb1 1
      have q0 : w1.cell? ⟨g, 0, none⟩ = some (.int .i64 k) := hgc 0 (by simp)
      have hN : w.heap.size < w1.heap.size := by have := hb1.size; simp at this; omega
      clear hb1 hgc c0 c1 c2 c3
      simp at n0 n1
      go_wp2
      refine wp_loop_rounds 2 ?_
      rw [rounds_succ]
      go_wp2_with fail
      refine (KD.out _ B1.out).mono ?_
      rintro e w2 ⟨rfl, hb2⟩
      have B2 := Lib.hid hb2
      have hs12 := hb2.size
      clear hb2
      go_wp2_with (at_builtin; refine wpList_push rfl _ _ 123 rfl 75 .nilIface 16 Tryz.underlying123 Tryz.infoTm rfl w1.heap.size w2 (.iface ty pv) (.slice none 0 0) 0 [] (World.ownsRow_nil _ _ _ _) rfl rfl rfl hz0 hz1 hs12 ?_; intro v' w4 hown hbp _; have HO := Lib.hid hown; have BP := Lib.hid hbp; clear hown hbp)
      have B4 := Lib.hid (B2.out.trans BP.out)
      rw [← B4.out.cell (p := ⟨w.heap.size, 0, none⟩) hN] at n0
      rw [← B4.out.cell (p := ⟨w.heap.size, 1, none⟩) hN] at n1
      rw [rounds_succ]
      go_wp2_with fail
      refine (KT.out _ _ (Rs.of_own HO.out)).mono ?_
      rintro e w' ⟨rfl, rfl⟩
      go_wp2
      go_ret
      exact ⟨rfl, B1.out.trans (B4.out.mono (by omega))⟩
    · have hu2 : usesI op = 2 := by have := usesI_le op; omega
      have ho : op = 4 ∨ op = 9 := by have := op_kinds hp.1.1 hp.1.2.1; omega
      have ha := hp.2.1 (by omega)
      have hb' := hp.2.2.1 hu2
      rw [mkTm_joint ho]
      rw [e2 hu2] at KB
      obtain ⟨k, rfl⟩ : ∃ k : Nat, xa = k := ⟨xa.toNat, by omega⟩
      obtain ⟨k', rfl⟩ : ∃ k : Nat, xb = k := ⟨xb.toNat, by omega⟩
      rw [Int.toNat_natCast, Int.toNat_natCast] at *
      have hka : k < m := by omega
      have hkl : k < xs.length := by omega
      have hkb : k' < m := by omega
      have hkl' : k' < xs.length := by omega
      have KD := Lib.hid (fun W (h : Below w.heap.size w W) => IH.out k W hka hkl (HR.out.below h (Nat.le_refl _)))
      have KE := Lib.hid (fun W (h : Below w.heap.size w W) => IH.out k' W hkb hkl' (HR.out.below h (Nat.le_refl _)))
      clear e0 e1 e2 hp hu hu1 hu2 hka hkl hkb hkl' ha hb'
      generalize tmAt xs k = T at *
      generalize tmAt xs k' = U at *
      have KT := Lib.hid (fun v W h => newTerm_2 op n v T U W ho h)
      generalize tv (Tm.joint op T U) = R at *
      obtain ⟨ty, pv, hx⟩ := tv_form T
      rw [hx] at KD KT
      clear hx ho
      obtain ⟨ty', pv', hx⟩ := tv_form U
      rw [hx] at KE KT
      clear hx
      go_enter Tryz.func107, Tryz.ntmps107
      go_wp2_with fail
      refine (KB.out _).mono ?_
      rintro e w1 ⟨g, rfl, hg1, hg2, hgc, hb1⟩
      have B1 := Lib.hid (((Below.refl w.heap.size w).alloc (Nat.le_refl _) _).trans (hb1.mono (by simp)))
      have n0 := node_kept' hb1 0
      have n1 := node_kept' hb1 1
      have q0 : w1.cell? ⟨g, 0, none⟩ = some (.int .i64 k) := hgc 0 (by simp)
      have q1 : w1.cell? ⟨g, 1, none⟩ = some (.int .i64 k') := hgc 1 (by simp)
      have hN : w.heap.size < w1.heap.size := by have := hb1.size; simp at this; omega
      clear hb1 hgc c0 c1 c2 c3
      simp at n0 n1
      go_wp2
      refine wp_loop_rounds 3 ?_
      rw [rounds_succ]
      go_wp2_with fail
      refine (KD.out _ B1.out).mono ?_
      rintro e w2 ⟨rfl, hb2⟩
      have B2 := Lib.hid hb2
      have hs12 := hb2.size
      clear hb2
      go_wp2_with (at_builtin; refine wpList_push rfl _ _ 123 rfl 75 .nilIface 16 Tryz.underlying123 Tryz.infoTm rfl w1.heap.size w2 (.iface ty pv) (.slice none 0 0) 0 [] (World.ownsRow_nil _ _ _ _) rfl rfl rfl hz0 hz1 hs12 ?_; intro v' w4 hown hbp _; have HO := Lib.hid hown; have BP := Lib.hid hbp; clear hown hbp)
      have B4 := Lib.hid (B2.out.trans BP.out)
      have hs14 := B4.out.size
      rw [← B4.out.cell (p := ⟨w.heap.size, 0, none⟩) hN] at n0
      rw [← B4.out.cell (p := ⟨w.heap.size, 1, none⟩) hN] at n1
      rw [← B4.out.cell (p := ⟨g, 1, none⟩) hg1] at q1
      have C4 := Lib.hid (B1.out.trans (B4.out.mono (Nat.le_of_lt hN)))
      clear q0
      rw [rounds_succ]
      go_wp2_with fail
      refine (KE.out _ C4.out).mono ?_
      rintro e w5 ⟨rfl, hb5⟩
      have B5 := Lib.hid (B4.out.trans (hb5.mono hs14))
      have HO5 := Lib.hid (own_below HO.out hb5 (Nat.le_refl _))
      have hs15 := B5.out.size
      rw [← hb5.cell (p := ⟨w.heap.size, 0, none⟩) (by show w.heap.size < _; omega)] at n0
      rw [← hb5.cell (p := ⟨w.heap.size, 1, none⟩) (by show w.heap.size < _; omega)] at n1
      clear hb5 q1
      go_wp2_with (at_builtin; refine wpList_push rfl _ _ 123 rfl 75 .nilIface 16 Tryz.underlying123 Tryz.infoTm rfl w1.heap.size w5 (.iface ty' pv') v' 1 [.iface ty pv] HO5.out rfl rfl rfl hy1 hy2 hs15 ?_; intro v'' w6 hown hbp _; have HO6 := Lib.hid hown; have BP6 := Lib.hid hbp; clear hown hbp)
      have B6 := Lib.hid (B5.out.trans BP6.out)
      rw [← BP6.out.cell (p := ⟨w.heap.size, 0, none⟩) hN] at n0
      rw [← BP6.out.cell (p := ⟨w.heap.size, 1, none⟩) hN] at n1
      rw [rounds_succ]
      go_wp2_with fail
      refine (KT.out _ _ (Rs.of_own HO6.out)).mono ?_
      rintro e w7 ⟨rfl, hb7⟩
      have B7 := Lib.hid (B6.out.trans (hb7.mono B6.out.size))
      clear hb7
      go_wp2
      go_ret
      exact ⟨rfl, B1.out.trans (B7.out.mono (by omega))⟩
end Go.Proofs.YtodjohdbngbpaaaGreat

/-
  Contract of layOut: it appends a term's nodes to a row of the call's own.
-/
namespace Go.Proofs.YtodjohdbngbpaaaGreat
open Go.RowKit
open Go Go.Deep

/-- every block that is no row of nodes is as it was -/
def Keep (w w' : World) : Prop := w.heap.size ≤ w'.heap.size ∧ ∀ k, k < w.heap.size → (∀ cur, w.heap[k]? ≠ some (.cells cur 112 (0, 0))) → w'.heap[k]? = w.heap[k]?
theorem Keep.trans {a b c : World} (h : Keep a b) (k : Keep b c) : Keep a c :=
  ⟨Nat.le_trans h.1 k.1, fun i hi hn => by
    have e := h.2 i hi hn
    rw [← e] at hn
    exact (k.2 i (Nat.lt_of_lt_of_le hi h.1) hn).trans e⟩
theorem Keep.of_below {w w' : World} (h : Below w.heap.size w w') : Keep w w' := ⟨h.size, fun k hk _ => h.block k hk⟩
theorem Keep.of_grown {w w' : World} {base : Nat} {size : Nat} {v : Value} {n : Nat} {xs : List Value} (ho : w.ownsRow base 112 size v n xs) (hg : w.grownBy w' v.ownBlock) : Keep w w' := by
  refine ⟨hg.size, fun k hk hn => hg.block k hk (fun e => ?_)⟩
  rcases ho.2 with ⟨rfl, _⟩ | ⟨g, cap, cur, rfl, _, hh, _⟩
  · simp [Value.ownBlock] at e
  · simp [Value.ownBlock] at e
    subst e
    exact hn cur hh
theorem Keep.row {w w' : World} {b : Nat} {T : TypeId} {n : Nat} {f : Nat → Value} (h : Keep w w') (hr : w.rowIs b T n f) (hT : T ≠ 112) : w'.rowIs b T n f := by
  refine hr.of_block (h.2 b hr.lt (fun cur e => ?_))
  obtain ⟨c, hb, _, _⟩ := hr
  rw [hb] at e
  simp only [Option.some.injEq, Obj.cells.injEq] at e
  exact hT e.2.1
/-- a row of another type lies elsewhere -/
theorem row_ne {w : World} {b g : Nat} {T : TypeId} {n : Nat} {f : Nat → Value} {c : Array Value} (hr : w.rowIs b T n f) (hg : w.heap[g]? = some (.cells c 112 (0, 0))) (hT : T ≠ 112) : b ≠ g := by
  intro e
  subst e
  obtain ⟨c', hb, _, _⟩ := hr
  rw [hb] at hg
  simp only [Option.some.injEq, Obj.cells.injEq] at hg
  exact hT hg.2.1
theorem own_setOther {w : World} {base : Nat} {size : Nat} {v : Value} {n : Nat} {xs : List Value} {b : Nat} {T : TypeId} {m : Nat} {f : Nat → Value} (h : w.ownsRow base 112 size v n xs) (hr : w.rowIs b T m f) (hT : T ≠ 112) (j : Nat) (u : Value) :
    (w.setCell ⟨b, j, none⟩ u).ownsRow base 112 size v n xs := by
  refine ⟨h.1, ?_⟩
  rcases h.2 with hn | ⟨g, cap, cur, rfl, hbg, hgg, rest⟩
  · exact .inl hn
  · refine .inr ⟨g, cap, cur, rfl, hbg, ?_, rest⟩
    have hne := row_ne hr hgg hT
    rw [Below.heap_setCell _ _ _ _ (by show g ≠ b; omega)]
    exact hgg
theorem keep_setCell {w : World} {b : Nat} {w0 : World} (h : Keep w0 w) (hb : w0.heap.size ≤ b) (j : Nat) (u : Value) : Keep w0 (w.setCell ⟨b, j, none⟩ u) :=
  ⟨by simpa [World.setCell] using h.1, fun k hk hn => by rw [Below.heap_setCell _ _ _ _ (by show k ≠ b; omega)]; exact h.2 k hk hn⟩
theorem own_shape' {w : World} {base : Nat} {e : TypeId} {size : Nat} {v : Value} {n : Nat} {xs : List Value} (h : w.ownsRow base e size v n xs) : ∃ a cap, v = .slice a n cap ∧ n ≤ cap ∧ cap ≤ maxLen := by
  rcases h.2 with ⟨rfl, rfl⟩ | ⟨g, cap, cur, rfl, hb, _, h1, h2, _⟩
  · exact ⟨none, 0, rfl, Nat.le_refl _, by decide⟩
  · exact ⟨_, cap, rfl, h1, h2⟩

section
variable {P : Program}
/-- append(s, y): y one element of four cells, just laid in a block of its own by the walk -/
theorem wpList_push4 {ops : Array Oper} {rest : List Oper} {o : Oper} {a : Act} {Q : Exit → Act → World → Prop} (hgd : o.guard = none) (s x : Operand) (t : TypeId)
    (ho : o.op = .call { callee := .builtin .append, args := #[s, x], argTypes := #[t, t] })
    (e : TypeId) (z : Value) (bytes : Nat) (ht : P.underlying t = some (.slice e))
    (hinfo : (P.info? e).map (fun i => (i.zero, i.size, i.bytes)) = some (some z, 4, bytes)) (hzs : z.cells.size = 4)
    (base : Nat) (w0 : World) (y0 y1 y2 y3 v : Value) (n : Nat) (xs : List Value) (hown : w0.ownsRow base e 4 v n xs)
    (hs : a.eval s = v) (b : Nat) (hx : a.eval x = .slice (some ⟨b, 0, none⟩) 1 1) (hbk : b = w0.heap.size) (h0 : y0.oneCell' = true) (h1 : y1.oneCell' = true) (h2 : y2.oneCell' = true) (h3 : y3.oneCell' = true)
    (h63 : n + 1 ≤ maxLen) (hbytes : (n + 1) * bytes ≤ 140737488355328) (hbase : base ≤ w0.heap.size)
    (h : ∀ v' w', w'.ownsRow base e 4 v' (n + 1) (xs ++ [y0, y1, y2, y3]) → Below base w0 w' → w0.grownBy w' v.ownBlock → wpList P ops Q rest (a.put o.dst v') w') :
    wpList P ops Q (o :: rest) a (w0.alloc (.cells #[y0, y1, y2, y3] e)) := by
  subst hbk
  obtain ⟨i0, hi, hz0, hz1, hz2⟩ := info_parts hinfo
  refine wpList_append_own _ hgd s x t ho base e i0 z 4 bytes ht hi hz0 hz1 hz2 hzs (by decide) v n xs hs (hown.alloc _) ⟨w0.heap.size, 0, none⟩ 1 1 [y0, y1, y2, y3] hx rfl ?_ ?_ h63 hbytes (by simp; omega) ?_
  · intro j u hu
    have hj : j < 4 := by
      rcases Nat.lt_or_ge j 4 with h | h
      · exact h
      · rw [List.getElem?_eq_none (by simpa using h)] at hu; cases hu
    rw [addr_add0, World.cell?_alloc_at _ _ _ _ rfl, Nat.zero_add]
    rw [← hu]
    have : j = 0 ∨ j = 1 ∨ j = 2 ∨ j = 3 := by omega
    rcases this with rfl | rfl | rfl | rfl <;> rfl
  · intro u hu
    simp at hu
    rcases hu with rfl | rfl | rfl | rfl <;> assumption
  · intro v' w' hown' hg _
    have hb : ∀ k, v.ownBlock = some k → base ≤ k := fun k hk => (hown.lt k hk).1
    refine h v' w' hown' (((Below.refl base w0).alloc hbase _).grown hg (by simp; omega) hb) ⟨hg.os, hg.tape, hg.output, Nat.le_trans (by simp) hg.size, fun k hk hne => ?_⟩
    rw [hg.block k (by simp; omega) hne, Below.heap_alloc _ _ _ hk]
end

/-- the slice of two parts as a row of its type -/
theorem jointParts_row (op : Int) (a b : Tm) (w : World) : Calls Tryz.prog 226 #[.agg #[.int .i64 op, tv a, tv b]] w fun e w' => ∃ g, e = .returned (.slice (some ⟨g, 0, none⟩) 2 2) ∧ w'.rowIs g 75 2 (fun j => if j = 0 then tv a else tv b) ∧ Below w.heap.size w w' := by
  obtain ⟨ty, pv, hx⟩ := tv_form a
  rw [hx]
  clear hx
  obtain ⟨ty', pv', hx⟩ := tv_form b
  rw [hx]
  clear hx
  go_enter Tryz.func226, Tryz.ntmps226
  go_wp2
  go_ret
  refine ⟨_, rfl, ?_, ((Below.refl _ _).alloc (Nat.le_refl _) _).alloc (by simp) _⟩
  have h := World.rowIs_alloc (w.alloc (.cells #[.int .i64 op, .iface ty pv, .iface ty' pv'] 171)) #[.iface ty pv, .iface ty' pv'] 75 (fun j => if j = 0 then .iface ty pv else .iface ty' pv') (fun i hi => by
    have hi : i < 2 := hi
    have : i = 0 ∨ i = 1 := by omega
    rcases this with rfl | rfl <;> rfl)
  simpa using h
end Go.Proofs.YtodjohdbngbpaaaGreat
