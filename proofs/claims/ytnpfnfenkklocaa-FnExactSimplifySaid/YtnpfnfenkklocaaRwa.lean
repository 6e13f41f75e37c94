/-
  Announcements rewritten and formulas simplified, as terms: what they are, that they are well formed and of what size. No program text.
-/
import Derived.Test.YtnpfnfenkklocaaZTmx
namespace Go.Proofs.Ytnpfnfenkklocaa
open Go
set_option linter.unusedSimpArgs false

/-- an announcement of a before a formula without announcements -/
def pushT (a : Tm) : Tm → Tm
  | .leaf op n => if op = 1 then .deny (.joint 4 a (.deny (.leaf 1 n))) else .leaf 2 0
  | .deny c => .deny (.joint 4 a (pushT a c))
  | .know op n c => if op = 6 then .deny (.joint 4 a (.joint 4 (.deny (.know 5 n (pushT a c))) (.deny (.know 5 n (.deny (.joint 4 a (pushT a c)))))))
      else .deny (.joint 4 a (.deny (.know op n (pushT a c))))
  | .joint _ c d => .joint 4 (pushT a c) (pushT a d)
/-- neither announcements nor common knowledge -/
def quietT : Tm → Prop
  | .leaf op n => op = 1 ∨ op = 2 ∧ n = 0
  | .deny a => quietT a
  | .know op _ a => (op = 5 ∨ op = 6 ∨ op = 7) ∧ quietT a
  | .joint op a b => op = 4 ∧ quietT a ∧ quietT b
def limT (t : Tm) : Option Tm := if t.size ≤ 40 then some t else none
def rewT : Tm → Option Tm
  | .leaf op n => some (.leaf op n)
  | .deny a => (rewT a).bind fun x => limT (.deny x)
  | .know op n a => if op = 8 then none else (rewT a).bind fun x => limT (.know op n x)
  | .joint op a b => (rewT a).bind fun x => (rewT b).bind fun y => limT (if op = 4 then .joint 4 x y else pushT x y)
theorem limT_some {t s : Tm} (h : limT t = some s) : s = t ∧ t.size ≤ 40 := by
  unfold limT at h
  split at h
  · rename_i hs; cases h; exact ⟨rfl, hs⟩
  · cases h
theorem push_quiet {a : Tm} (ha : quietT a) : ∀ (c : Tm), quietT c → quietT (pushT a c)
  | .leaf op n, _ => by
    unfold pushT
    split
    · exact ⟨rfl, ha, .inl rfl⟩
    · exact .inr ⟨rfl, rfl⟩
  | .deny c, h => ⟨rfl, ha, push_quiet ha c h⟩
  | .know op n c, h => by
    have hc := push_quiet ha c h.2
    unfold pushT
    split
    · exact ⟨rfl, ha, rfl, ⟨.inl rfl, hc⟩, ⟨.inl rfl, rfl, ha, hc⟩⟩
    · exact ⟨rfl, ha, h.1, hc⟩
  | .joint op c d, h => ⟨rfl, push_quiet ha c h.2.1, push_quiet ha d h.2.2⟩
theorem push_wf {a : Tm} (ha : a.wf) : ∀ (c : Tm), quietT c → c.wf → (pushT a c).wf
  | .leaf op n, _, hw => by
    unfold pushT
    split
    · rename_i ho
      subst ho
      exact ⟨.inl rfl, ha, .inl rfl, hw.2⟩
    · exact ⟨.inr rfl, by decide, by decide⟩
  | .deny c, h, hw => ⟨.inl rfl, ha, push_wf ha c h hw⟩
  | .know op n c, h, hw => by
    obtain ⟨h1, h2, h3, h4⟩ := hw
    have hc := push_wf ha c h.2 h4
    unfold pushT
    split
    · rename_i ho
      subst ho
      have hn : n < limN 5 := h3
      exact ⟨.inl rfl, ha, .inl rfl, ⟨.inl rfl, h2, hn, hc⟩, ⟨.inl rfl, h2, hn, .inl rfl, ha, hc⟩⟩
    · exact ⟨.inl rfl, ha, h1, h2, h3, hc⟩
  | .joint op c d, h, hw => ⟨.inl rfl, push_wf ha c h.2.1 hw.2.1, push_wf ha d h.2.2 hw.2.2⟩
theorem leaf2 {n : Int} (h : (Tm.leaf 2 n).wf) : n = 0 := by
  obtain ⟨_, h1, h2⟩ := h
  have : n < 1 := h2
  omega
theorem rew_quiet : ∀ (t s : Tm), t.wf → rewT t = some s → quietT s ∧ s.wf ∧ (s.size ≤ 40)
  | .leaf op n, s, hw, h => by
    cases h
    refine ⟨?_, hw, by simp [Tm.size]⟩
    rcases hw.1 with rfl | rfl
    · exact .inl rfl
    · exact .inr ⟨rfl, leaf2 hw⟩
  | .deny a, s, hw, h => by
    obtain ⟨x, hx, h2⟩ := Option.bind_eq_some_iff.1 h
    obtain ⟨rfl, hs⟩ := limT_some h2
    obtain ⟨q1, q2, _⟩ := rew_quiet a x hw hx
    exact ⟨q1, q2, hs⟩
  | .know op n a, s, hw, h => by
    unfold rewT at h
    split at h
    · cases h
    · rename_i ho
      obtain ⟨x, hx, h2⟩ := Option.bind_eq_some_iff.1 h
      obtain ⟨rfl, hs⟩ := limT_some h2
      obtain ⟨q1, q2, _⟩ := rew_quiet a x hw.2.2.2 hx
      refine ⟨⟨?_, q1⟩, ⟨hw.1, hw.2.1, hw.2.2.1, q2⟩, hs⟩
      rcases hw.1 with e | e | e | e
      · exact .inl e
      · exact .inr (.inl e)
      · exact .inr (.inr e)
      · exact absurd e ho
  | .joint op a b, s, hw, h => by
    obtain ⟨x, hx, h2⟩ := Option.bind_eq_some_iff.1 h
    obtain ⟨y, hy, h3⟩ := Option.bind_eq_some_iff.1 h2
    obtain ⟨rfl, hs⟩ := limT_some h3
    obtain ⟨q1, q2, _⟩ := rew_quiet a x hw.2.1 hx
    obtain ⟨r1, r2, _⟩ := rew_quiet b y hw.2.2 hy
    refine ⟨?_, ?_, hs⟩
    · split
      · exact ⟨rfl, q1, r1⟩
      · exact push_quiet q1 y r1
    · split
      · exact ⟨.inl rfl, q2, r2⟩
      · exact push_wf q2 y r1 r2
/-- what is rewritten stays as it is when rewritten again -/
theorem rew_again : ∀ (t : Tm), quietT t → t.size ≤ 40 → rewT t = some t
  | .leaf _ _, _, _ => rfl
  | .deny a, h, hs => by
    have hs' : a.size + 1 ≤ 40 := hs
    unfold rewT
    rw [rew_again a h (by omega)]
    exact if_pos hs
  | .know op n a, h, hs => by
    have hs' : a.size + 1 ≤ 40 := hs
    unfold rewT
    have : op ≠ 8 := by have := h.1; omega
    rw [if_neg this, rew_again a h.2 (by omega)]
    exact if_pos hs
  | .joint op a b, h, hs => by
    obtain ⟨rfl, ha, hb⟩ := h
    have hs' : a.size + b.size + 1 ≤ 40 := hs
    unfold rewT
    rw [rew_again a ha (by omega), rew_again b hb (by omega)]
    show limT (if (4 : Int) = 4 then _ else _) = _
    rw [if_pos rfl]
    exact if_pos hs

def isTopT : Tm → Bool
  | .leaf op _ => decide (op = 2)
  | _ => false
def unDeny : Tm → Tm
  | .deny c => c
  | t => .deny t
def simpAnd (x y : Tm) : Tm := if isTopT x && !isTopT y then y else if isTopT y || decide (txt x = txt y) then x else .joint 4 x y
def simpT : Tm → Tm
  | .leaf op n => .leaf op n
  | .deny a => unDeny (simpT a)
  | .know op n a => if isTopT (simpT a) then .leaf 2 0 else .know op n (simpT a)
  | .joint op a b => if op = 4 then simpAnd (simpT a) (simpT b) else .joint op (simpT a) (simpT b)
theorem top_eq {t : Tm} (hw : t.wf) (h : isTopT t = true) : t = .leaf 2 0 := by
  cases t with
  | leaf op n =>
    have ho : op = 2 := of_decide_eq_true h
    subst ho
    rw [leaf2 hw]
  | deny a => cases h
  | know op n a => cases h
  | joint op a b => cases h
theorem simp_wf : ∀ (t : Tm), t.wf → (simpT t).wf ∧ (simpT t).size ≤ t.size
  | .leaf op n, hw => ⟨hw, Nat.le_refl _⟩
  | .deny a, hw => by
    obtain ⟨h1, h2⟩ := simp_wf a hw
    unfold simpT
    cases hs : simpT a with
    | deny c =>
      rw [hs] at h1 h2
      refine ⟨h1, ?_⟩
      simp only [unDeny, Tm.size] at h2 ⊢
      omega
    | leaf op n => rw [hs] at h1 h2; exact ⟨h1, by simp only [unDeny, Tm.size] at h2 ⊢; omega⟩
    | know op n c => rw [hs] at h1 h2; exact ⟨h1, by simp only [unDeny, Tm.size] at h2 ⊢; omega⟩
    | joint op c d => rw [hs] at h1 h2; exact ⟨h1, by simp only [unDeny, Tm.size] at h2 ⊢; omega⟩
  | .know op n a, hw => by
    obtain ⟨h1, h2⟩ := simp_wf a hw.2.2.2
    unfold simpT
    split
    · exact ⟨⟨.inr rfl, by decide, by decide⟩, by simp only [Tm.size]; omega⟩
    · exact ⟨⟨hw.1, hw.2.1, hw.2.2.1, h1⟩, by simp only [Tm.size]; omega⟩
  | .joint op a b, hw => by
    obtain ⟨h1, h2⟩ := simp_wf a hw.2.1
    obtain ⟨h3, h4⟩ := simp_wf b hw.2.2
    unfold simpT
    split
    · unfold simpAnd
      split
      · exact ⟨h3, by simp only [Tm.size]; omega⟩
      · split
        · exact ⟨h1, by simp only [Tm.size]; omega⟩
        · exact ⟨⟨.inl rfl, h1, h3⟩, by simp only [Tm.size]; omega⟩
    · exact ⟨⟨hw.1, h1, h3⟩, by simp only [Tm.size]; omega⟩
theorem txt_one {x y : Tm} (hx : x.wf) (hy : y.wf) (sx : x.size ≤ 40) (sy : y.size ≤ 40) (h : txt x = txt y) : x = y := by
  have h1 := readAll_txt hx sx
  have h2 := readAll_txt hy sy
  rw [h, h2] at h1
  exact (Option.some.inj h1).symm
end Go.Proofs.Ytnpfnfenkklocaa
