/-
  Several texts in one: Rwa Rwm. Conditions: as each theorem says.
-/
import Derived.Test.YtodjohdbngbpaaaGreatZTmx
import Derived.Test.YtodjohdbngbpaaaGreatZCmb
import Derived.Test.YtodjohdbngbpaaaGreatCount
/-
  Announcements rewritten and formulas simplified, as terms: what they are, that they are well formed and of what size. No program text.
-/
namespace Go.Proofs.YtodjohdbngbpaaaGreat
open Go
set_option linter.unusedSimpArgs false

/-- an announcement of a before a formula without announcements -/
def pushT (a : Tm) : Tm → Tm
  | .leaf op n => if op = 1 then .deny (.joint 4 a (.deny (.leaf 1 n))) else .leaf 2 0
  | .deny c => .deny (.joint 4 a (pushT a c))
  | .know op n c => if op = 6 then .deny (.joint 4 a (.joint 4 (.deny (.know 5 n (pushT a c))) (.deny (.know 5 n (.deny (.joint 4 a (pushT a c)))))))
      else .deny (.joint 4 a (.deny (.know op n (pushT a c))))
  | .joint _ c d => .joint 4 (pushT a c) (pushT a d)
/-- neither announcements nor common knowledge -/
def quietT : Tm → Prop
  | .leaf op n => op = 1 ∨ op = 2 ∧ n = 0
  | .deny a => quietT a
  | .know op _ a => (op = 5 ∨ op = 6 ∨ op = 7) ∧ quietT a
  | .joint op a b => op = 4 ∧ quietT a ∧ quietT b
def limT (t : Tm) : Option Tm := if t.size ≤ 40 then some t else none
def rewT : Tm → Option Tm
  | .leaf op n => some (.leaf op n)
  | .deny a => (rewT a).bind fun x => limT (.deny x)
  | .know op n a => if op = 8 then none else (rewT a).bind fun x => limT (.know op n x)
  | .joint op a b => (rewT a).bind fun x => (rewT b).bind fun y => limT (if op = 4 then .joint 4 x y else pushT x y)
theorem limT_some {t s : Tm} (h : limT t = some s) : s = t ∧ t.size ≤ 40 := by
  unfold limT at h
  split at h
  · rename_i hs; cases h; exact ⟨rfl, hs⟩
  · cases h
theorem push_quiet {a : Tm} (ha : quietT a) : ∀ (c : Tm), quietT c → quietT (pushT a c)
  | .leaf op n, _ => by
    unfold pushT
    split
    · exact ⟨rfl, ha, .inl rfl⟩
    · exact .inr ⟨rfl, rfl⟩
  | .deny c, h => ⟨rfl, ha, push_quiet ha c h⟩
  | .know op n c, h => by
    have hc := push_quiet ha c h.2
    unfold pushT
    split
    · exact ⟨rfl, ha, rfl, ⟨.inl rfl, hc⟩, ⟨.inl rfl, rfl, ha, hc⟩⟩
    · exact ⟨rfl, ha, h.1, hc⟩
  | .joint op c d, h => ⟨rfl, push_quiet ha c h.2.1, push_quiet ha d h.2.2⟩
theorem push_wf {a : Tm} (ha : a.wf) : ∀ (c : Tm), quietT c → c.wf → (pushT a c).wf
  | .leaf op n, _, hw => by
    unfold pushT
    split
    · rename_i ho
      subst ho
      exact ⟨.inl rfl, ha, .inl rfl, hw.2⟩
    · exact ⟨.inr rfl, by decide, by decide⟩
  | .deny c, h, hw => ⟨.inl rfl, ha, push_wf ha c h hw⟩
  | .know op n c, h, hw => by
    obtain ⟨h1, h2, h3, h4⟩ := hw
    have hc := push_wf ha c h.2 h4
    unfold pushT
    split
    · rename_i ho
      subst ho
      have hn : n < limN 5 := h3
      exact ⟨.inl rfl, ha, .inl rfl, ⟨.inl rfl, h2, hn, hc⟩, ⟨.inl rfl, h2, hn, .inl rfl, ha, hc⟩⟩
    · exact ⟨.inl rfl, ha, h1, h2, h3, hc⟩
  | .joint op c d, h, hw => ⟨.inl rfl, push_wf ha c h.2.1 hw.2.1, push_wf ha d h.2.2 hw.2.2⟩
theorem leaf2 {n : Int} (h : (Tm.leaf 2 n).wf) : n = 0 := by
  obtain ⟨_, h1, h2⟩ := h
  have : n < 1 := h2
  omega
theorem rew_quiet : ∀ (t s : Tm), t.wf → rewT t = some s → quietT s ∧ s.wf ∧ (s.size ≤ 40)
  | .leaf op n, s, hw, h => by
    cases h
    refine ⟨?_, hw, by simp [Tm.size]⟩
    rcases hw.1 with rfl | rfl
    · exact .inl rfl
    · exact .inr ⟨rfl, leaf2 hw⟩
  | .deny a, s, hw, h => by
    obtain ⟨x, hx, h2⟩ := Option.bind_eq_some_iff.1 h
    obtain ⟨rfl, hs⟩ := limT_some h2
    obtain ⟨q1, q2, _⟩ := rew_quiet a x hw hx
    exact ⟨q1, q2, hs⟩
  | .know op n a, s, hw, h => by
    unfold rewT at h
    split at h
    · cases h
    · rename_i ho
      obtain ⟨x, hx, h2⟩ := Option.bind_eq_some_iff.1 h
      obtain ⟨rfl, hs⟩ := limT_some h2
      obtain ⟨q1, q2, _⟩ := rew_quiet a x hw.2.2.2 hx
      refine ⟨⟨?_, q1⟩, ⟨hw.1, hw.2.1, hw.2.2.1, q2⟩, hs⟩
      rcases hw.1 with e | e | e | e
      · exact .inl e
      · exact .inr (.inl e)
      · exact .inr (.inr e)
      · exact absurd e ho
  | .joint op a b, s, hw, h => by
    obtain ⟨x, hx, h2⟩ := Option.bind_eq_some_iff.1 h
    obtain ⟨y, hy, h3⟩ := Option.bind_eq_some_iff.1 h2
    obtain ⟨rfl, hs⟩ := limT_some h3
    obtain ⟨q1, q2, _⟩ := rew_quiet a x hw.2.1 hx
    obtain ⟨r1, r2, _⟩ := rew_quiet b y hw.2.2 hy
    refine ⟨?_, ?_, hs⟩
    · split
      · exact ⟨rfl, q1, r1⟩
      · exact push_quiet q1 y r1
    · split
      · exact ⟨.inl rfl, q2, r2⟩
      · exact push_wf q2 y r1 r2
/-- what is rewritten stays as it is when rewritten again -/
theorem rew_again : ∀ (t : Tm), quietT t → t.size ≤ 40 → rewT t = some t
  | .leaf _ _, _, _ => rfl
  | .deny a, h, hs => by
    have hs' : a.size + 1 ≤ 40 := hs
    unfold rewT
    rw [rew_again a h (by omega)]
    exact if_pos hs
  | .know op n a, h, hs => by
    have hs' : a.size + 1 ≤ 40 := hs
    unfold rewT
    have : op ≠ 8 := by have := h.1; omega
    rw [if_neg this, rew_again a h.2 (by omega)]
    exact if_pos hs
  | .joint op a b, h, hs => by
    obtain ⟨rfl, ha, hb⟩ := h
    have hs' : a.size + b.size + 1 ≤ 40 := hs
    unfold rewT
    rw [rew_again a ha (by omega), rew_again b hb (by omega)]
    show limT (if (4 : Int) = 4 then _ else _) = _
    rw [if_pos rfl]
    exact if_pos hs

def isTopT : Tm → Bool
  | .leaf op _ => decide (op = 2)
  | _ => false
def unDeny : Tm → Tm
  | .deny c => c
  | t => .deny t
def simpAnd (x y : Tm) : Tm := if isTopT x && !isTopT y then y else if isTopT y || decide (txt x = txt y) then x else .joint 4 x y
def simpT : Tm → Tm
  | .leaf op n => .leaf op n
  | .deny a => unDeny (simpT a)
  | .know op n a => if isTopT (simpT a) then .leaf 2 0 else .know op n (simpT a)
  | .joint op a b => if op = 4 then simpAnd (simpT a) (simpT b) else .joint op (simpT a) (simpT b)
theorem top_eq {t : Tm} (hw : t.wf) (h : isTopT t = true) : t = .leaf 2 0 := by
  cases t with
  | leaf op n =>
    have ho : op = 2 := of_decide_eq_true h
    subst ho
    rw [leaf2 hw]
  | deny a => cases h
  | know op n a => cases h
  | joint op a b => cases h
theorem simp_wf : ∀ (t : Tm), t.wf → (simpT t).wf ∧ (simpT t).size ≤ t.size
  | .leaf op n, hw => ⟨hw, Nat.le_refl _⟩
  | .deny a, hw => by
    obtain ⟨h1, h2⟩ := simp_wf a hw
    unfold simpT
    cases hs : simpT a with
    | deny c =>
      rw [hs] at h1 h2
      refine ⟨h1, ?_⟩
      simp only [unDeny, Tm.size] at h2 ⊢
      omega
    | leaf op n => rw [hs] at h1 h2; exact ⟨h1, by simp only [unDeny, Tm.size] at h2 ⊢; omega⟩
    | know op n c => rw [hs] at h1 h2; exact ⟨h1, by simp only [unDeny, Tm.size] at h2 ⊢; omega⟩
    | joint op c d => rw [hs] at h1 h2; exact ⟨h1, by simp only [unDeny, Tm.size] at h2 ⊢; omega⟩
  | .know op n a, hw => by
    obtain ⟨h1, h2⟩ := simp_wf a hw.2.2.2
    unfold simpT
    split
    · exact ⟨⟨.inr rfl, by decide, by decide⟩, by simp only [Tm.size]; omega⟩
    · exact ⟨⟨hw.1, hw.2.1, hw.2.2.1, h1⟩, by simp only [Tm.size]; omega⟩
  | .joint op a b, hw => by
    obtain ⟨h1, h2⟩ := simp_wf a hw.2.1
    obtain ⟨h3, h4⟩ := simp_wf b hw.2.2
    unfold simpT
    split
    · unfold simpAnd
      split
      · exact ⟨h3, by simp only [Tm.size]; omega⟩
      · split
        · exact ⟨h1, by simp only [Tm.size]; omega⟩
        · exact ⟨⟨.inl rfl, h1, h3⟩, by simp only [Tm.size]; omega⟩
    · exact ⟨⟨hw.1, h1, h3⟩, by simp only [Tm.size]; omega⟩
theorem txt_one {x y : Tm} (hx : x.wf) (hy : y.wf) (sx : x.size ≤ 40) (sy : y.size ≤ 40) (h : txt x = txt y) : x = y := by
  have h1 := readAll_txt hx sx
  have h2 := readAll_txt hy sy
  rw [h, h2] at h1
  exact (Option.some.inj h1).symm
end Go.Proofs.YtodjohdbngbpaaaGreat

/-
  What Rewrite answers, in mathematics over lists of nodes: a node's rewritten term out of those of its parts; a part that cannot be rewritten. No program text.
-/
namespace Go.Proofs.YtodjohdbngbpaaaGreat
open Go.RowKit Go.WideShapes
open Go Go.Deep
set_option linter.unusedSimpArgs false

/-- a node out of rewritten parts -/
def stepT (op n : Int) (a b : Tm) : Tm := if op = 9 then pushT a b else mkTm op n a b
theorem rew_step {op n : Int} {a b sa sb : Tm} (h1 : 1 ≤ op) (h2 : op ≤ 9) (h8 : op ≠ 8) (ha : 1 ≤ usesI op → rewT a = some sa) (hb : usesI op = 2 → rewT b = some sb) : rewT (mkTm op n a b) = limT (stepT op n sa sb) := by
  unfold stepT
  rcases op_kinds h1 h2 with ⟨ho, hu⟩ | ⟨ho, hu⟩ | ⟨ho, hu⟩ | ⟨ho, hu⟩
  · rw [if_neg (by omega), mkTm_leaf ho, mkTm_leaf ho]; unfold limT; rw [if_pos (by simp [Tm.size])]; rfl
  · subst ho; rw [if_neg (by decide), mkTm_deny, mkTm_deny, rewT, ha (by omega)]; rfl
  · rw [if_neg (by omega), mkTm_know ho, mkTm_know ho, rewT, if_neg h8, ha (by omega)]; rfl
  · rw [mkTm_joint ho, rewT, ha (by omega), hb hu]
    show limT (if op = 4 then .joint 4 sa sb else pushT sa sb) = _
    rcases ho with rfl | rfl
    · rw [if_pos rfl, if_neg (by decide), mkTm_joint (.inl rfl)]
    · rw [if_neg (by decide), if_pos rfl]
theorem rew_failA {op n : Int} {a b : Tm} (h1 : 1 ≤ op) (h2 : op ≤ 9) (hu : 1 ≤ usesI op) (ha : rewT a = none) : rewT (mkTm op n a b) = none := by
  rcases op_kinds h1 h2 with ⟨ho, hu'⟩ | ⟨ho, hu'⟩ | ⟨ho, hu'⟩ | ⟨ho, hu'⟩
  · omega
  · subst ho; rw [mkTm_deny, rewT, ha]; rfl
  · rw [mkTm_know ho, rewT, ha]; split <;> rfl
  · rw [mkTm_joint ho, rewT, ha]; rfl
theorem rew_failB {op n : Int} {a b : Tm} (h1 : 1 ≤ op) (h2 : op ≤ 9) (hu : usesI op = 2) (hb : rewT b = none) : rewT (mkTm op n a b) = none := by
  rcases op_kinds h1 h2 with ⟨ho, hu'⟩ | ⟨ho, hu'⟩ | ⟨ho, hu'⟩ | ⟨ho, hu'⟩
  · omega
  · omega
  · omega
  · rw [mkTm_joint ho, rewT, hb]; cases rewT a <;> rfl
theorem rew_8 {n : Int} {a b : Tm} : rewT (mkTm 8 n a b) = none := by
  rw [mkTm_know (by decide), rewT, if_pos rfl]
/-- every node but the last one is used by a later one -/
theorem used_by {xs : List Nd} (hf : formOk xs = true) {i : Nat} (hi : i < xs.length - 1) : ∃ j, i < j ∧ j < xs.length ∧
    ((1 ≤ usesI (xs.getD j default).op ∧ (xs.getD j default).a.toNat = i) ∨ (usesI (xs.getD j default).op = 2 ∧ (xs.getD j default).b.toNat = i)) := by
  obtain ⟨h1, h2, h3, h4⟩ := formOk_parts hf
  have hm : i ∈ allUsed xs := List.count_pos_iff.1 (by rw [h4 i hi]; decide)
  unfold allUsed at hm
  obtain ⟨x, hx, hj⟩ := List.mem_flatMap.1 hm
  obtain ⟨j, hjl, rfl⟩ := List.getElem_of_mem hx
  have e : xs.getD j default = xs[j] := by rw [List.getD_eq_getElem?_getD, List.getElem?_eq_getElem hjl]; rfl
  have hp := okAt_parts (nodesOk_at h3 hjl)
  rw [← e] at hj
  unfold usedOf at hj
  have hu := usesI_le (xs.getD j default).op
  match hn : usesI (xs.getD j default).op with
  | 0 => rw [hn] at hj; simp at hj
  | 1 =>
    rw [hn] at hj
    have h5 : i = (xs.getD j default).a.toNat := by simpa using hj
    have := hp.2.1 (by omega)
    exact ⟨j, by omega, hjl, .inl ⟨by omega, h5.symm⟩⟩
  | 2 =>
    rw [hn] at hj
    have h5 : i = (xs.getD j default).a.toNat ∨ i = (xs.getD j default).b.toNat := by simpa using hj
    have := hp.2.1 (by omega)
    have := hp.2.2.1 hn
    rcases h5 with h5 | h5
    · exact ⟨j, by omega, hjl, .inl ⟨by omega, h5.symm⟩⟩
    · exact ⟨j, by omega, hjl, .inr ⟨by omega, h5.symm⟩⟩
  | n + 3 => omega
/-- if a part cannot be rewritten, the whole cannot -/
theorem rew_part {xs : List Nd} (hf : formOk xs = true) : ∀ (d i : Nat), i < xs.length → xs.length - i ≤ d → rewT (tmAt xs i) = none → rewT (termOfL xs) = none
  | 0, i, hi, hd, _ => by omega
  | d + 1, i, hi, hd, h => by
    rcases Nat.lt_or_ge i (xs.length - 1) with hl | hl
    · obtain ⟨j, j1, j2, j3⟩ := used_by hf hl
      have hn := (formOk_parts hf).2.2.1
      have hp := okAt_parts (nodesOk_at hn j2)
      refine rew_part hf d j j2 (by omega) ?_
      rw [tmAt_eq hn j2]
      rcases j3 with ⟨u, e⟩ | ⟨u, e⟩
      · exact rew_failA hp.1.1 hp.1.2.1 u (by rw [e]; exact h)
      · exact rew_failB hp.1.1 hp.1.2.1 u (by rw [e]; exact h)
    · unfold termOfL
      rw [show xs.length - 1 = i by omega]; exact h
/-- a part is not greater than the whole -/
theorem sub_size {xs : List Nd} (hf : formOk xs = true) : ∀ (d i : Nat), i < xs.length → xs.length - i ≤ d → (tmAt xs i).size ≤ (termOfL xs).size
  | 0, i, hi, hd => by omega
  | d + 1, i, hi, hd => by
    rcases Nat.lt_or_ge i (xs.length - 1) with hl | hl
    · obtain ⟨j, j1, j2, j3⟩ := used_by hf hl
      refine Nat.le_trans ?_ (sub_size hf d j j2 (by omega))
      rw [tmAt_eq (formOk_parts hf).2.2.1 j2, mkTm_size]
      have hu := usesI_le (xs.getD j default).op
      rcases j3 with ⟨u, e⟩ | ⟨u, e⟩
      · rw [e]
        have h12 : usesI (xs.getD j default).op = 1 ∨ usesI (xs.getD j default).op = 2 := by omega
        rcases h12 with h | h <;> rw [h] <;> simp [sumN] <;> omega
      · rw [e, u]; simp [sumN]; omega
    · unfold termOfL
      rw [show xs.length - 1 = i by omega]; exact Nat.le_refl _
theorem sub_small {xs : List Nd} (hf : formOk xs = true) {i : Nat} (hi : i < xs.length) : (tmAt xs i).size ≤ 40 := Nat.le_trans (sub_size hf _ i hi (Nat.le_refl _)) (termOfL_size hf)
theorem no_op {xs : List Nd} {op : Int} (h : cntOp xs op = 0) {i : Nat} (hi : i < xs.length) : (xs.getD i default).op ≠ op := by
  unfold cntOp at h
  have h2 := List.countP_eq_zero.1 h
  have hm : xs.getD i default ∈ xs := by rw [List.getD_eq_getElem?_getD, List.getElem?_eq_getElem hi]; exact List.getElem_mem hi
  simpa using h2 _ hm
theorem rew_common {xs : List Nd} (hf : formOk xs = true) (h : 0 < cntOp xs 8) : rewT (termOfL xs) = none := by
  unfold cntOp at h
  obtain ⟨x, hx, h8⟩ := List.countP_pos_iff.1 h
  obtain ⟨i, hi, rfl⟩ := List.getElem_of_mem hx
  have e : xs.getD i default = xs[i] := by rw [List.getD_eq_getElem?_getD, List.getElem?_eq_getElem hi]; rfl
  have h8' : (xs.getD i default).op = 8 := by rw [e]; simpa using h8
  refine rew_part hf xs.length i hi (by omega) ?_
  rw [tmAt_eq (formOk_parts hf).2.2.1 hi, h8', rew_8]
/-- the size of what is rewritten, before it is refused -/
theorem push_size {a : Tm} (ha : a.size ≤ 40) : ∀ (c : Tm), (pushT a c).size + 100 ≤ 100 * 2 ^ c.size
  | .leaf op n => by
    unfold pushT
    split <;> simp only [Tm.size] <;> omega
  | .deny c => by
    have h := push_size ha c
    simp only [pushT, Tm.size, Nat.pow_succ] at h ⊢
    omega
  | .know op n c => by
    have h := push_size ha c
    unfold pushT
    split <;> simp only [Tm.size, Nat.pow_succ] at h ⊢ <;> omega
  | .joint op c d => by
    have h := push_size ha c
    have h' := push_size ha d
    have hc : 1 ≤ 2 ^ c.size := Nat.one_le_two_pow
    have hd : 1 ≤ 2 ^ d.size := Nat.one_le_two_pow
    simp only [pushT, Tm.size, Nat.pow_succ, Nat.pow_add] at h h' ⊢
    generalize 2 ^ c.size = x at *
    generalize 2 ^ d.size = y at *
    have hxy : x + y ≤ x * y + 1 := by
      obtain ⟨x', rfl⟩ : ∃ k, x = k + 1 := ⟨x - 1, by omega⟩
      obtain ⟨y', rfl⟩ : ∃ k, y = k + 1 := ⟨y - 1, by omega⟩
      have : (x' + 1) * (y' + 1) = x' * y' + x' + y' + 1 := by rw [Nat.add_mul, Nat.mul_add]; omega
      omega
    omega
theorem push_big {a c : Tm} (ha : a.size ≤ 40) (hc : c.size ≤ 40) : (pushT a c).size ≤ 140737488355328 := by
  have h := push_size ha c
  have h2 : 2 ^ c.size ≤ 2 ^ 40 := Nat.pow_le_pow_right (by decide) hc
  have h3 : (2 : Nat) ^ 40 = 1099511627776 := by decide
  omega
/-- what Rewrite answers -/
def rewL (xs : List Nd) : Option (List Nd) := if formOk xs then (rewT (termOfL xs)).map (lay 0) else none
theorem rewL_cases (xs : List Nd) : (rewL xs = none) ∨ (formOk xs = true ∧ ∃ t, rewT (termOfL xs) = some t ∧ rewL xs = some (lay 0 t) ∧ quietT t ∧ t.wf ∧ t.size ≤ 40) := by
  unfold rewL
  cases hf : formOk xs with
  | false => exact .inl rfl
  | true =>
    rw [if_pos rfl]
    cases hr : rewT (termOfL xs) with
    | none => exact .inl rfl
    | some t =>
      obtain ⟨q1, q2, q3⟩ := rew_quiet _ t (termOfL_wf hf) hr
      exact .inr ⟨rfl, t, rfl, rfl, q1, q2, q3⟩
def growL (xs : List Nd) : Int := match rewL xs with
  | some ys => (ys.length : Int) - xs.length
  | none => 0
/-- what Simplify answers -/
def simpL (xs : List Nd) : Option (List Nd) := if formOk xs then some (lay 0 (simpT (termOfL xs))) else none
theorem rewL_len (xs : List Nd) : ((rewL xs).getD []).length ≤ 40 := by
  rcases rewL_cases xs with h | ⟨_, t, _, h, _, _, hs⟩
  · rw [h]; simp
  · rw [h]; show (lay 0 t).length ≤ 40; rw [lay_len]; exact hs
end Go.Proofs.YtodjohdbngbpaaaGreat
