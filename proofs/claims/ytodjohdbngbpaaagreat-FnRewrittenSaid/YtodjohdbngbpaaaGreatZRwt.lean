/-
  Several texts in one: Rwt Smp. Conditions: as each theorem says.
-/
import Derived.Test.YtodjohdbngbpaaaGreatZBis
import Derived.Test.YtodjohdbngbpaaaGreatZRwm
import Derived.Test.YtodjohdbngbpaaaGreatZTmx
/-
  Announcements rewritten and formulas simplified, in mathematics: both are true in the same worlds. No program but its types' numbers.
-/
namespace Go.Proofs.YtodjohdbngbpaaaGreat
open Go.RowKit Go.WideShapes
open Go Go.Deep
set_option linter.unusedSimpArgs false

/- the truth of the parts, where the world counts -/
theorem evS_deny {a : Tm} {m : Md} {al : Nat → Bool} {w : Nat} (h : al w = true) : evS (.deny a) m al w = !evS a m al w := by
  show (al w && !evS a m al w) = _; rw [h, Bool.true_and]
theorem evS_joint (op : Int) (a b : Tm) (m : Md) (al : Nat → Bool) (w : Nat) : evS (.joint op a b) m al w = (al w && (if op = 4 then evS a m al w && evS b m al w else !evS a m al w || evS b m (fun v => al v && evS a m al v) w)) := rfl
theorem evS_leaf (op n : Int) (m : Md) (al : Nat → Bool) (w : Nat) : evS (.leaf op n) m al w = (al w && (if op = 1 then bitI (m.facts.getD w 0) n.toNat == 1 else true)) := rfl
theorem evS_kn (op n : Int) (a : Tm) (m : Md) (al : Nat → Bool) (w : Nat) : evS (.know op n a) m al w = (al w && (if op = 5 then blockW m n.toNat al (evS a m al) w true else if op = 6 then blockW m n.toNat al (evS a m al) w (evS a m al w)
      else if op = 7 then (List.range m.blocks.length).all fun k => blockW m k al (evS a m al) w true else allW m fun v => !reachA m al w v || evS a m al v)) := rfl
theorem evS_and {a b : Tm} {m : Md} {al : Nat → Bool} {w : Nat} (h : al w = true) : evS (.joint 4 a b) m al w = (evS a m al w && evS b m al w) := by
  rw [evS_joint, h, Bool.true_and, if_pos rfl]
theorem evS_after {a b : Tm} {m : Md} {al : Nat → Bool} {w : Nat} (h : al w = true) : evS (.joint 9 a b) m al w = (!evS a m al w || evS b m (fun v => al v && evS a m al v) w) := by
  rw [evS_joint, h, Bool.true_and, if_neg (by decide)]
theorem evS_fact {n : Int} {m : Md} {al : Nat → Bool} {w : Nat} (h : al w = true) : evS (.leaf 1 n) m al w = (bitI (m.facts.getD w 0) n.toNat == 1) := by
  rw [evS_leaf, h, Bool.true_and, if_pos rfl]
theorem evS_top {n : Int} {m : Md} {al : Nat → Bool} {w : Nat} (h : al w = true) : evS (.leaf 2 n) m al w = true := by
  rw [evS_leaf, h, Bool.true_and, if_neg (by decide)]
theorem evS_know {a : Tm} {n : Int} {m : Md} {al : Nat → Bool} {w : Nat} (h : al w = true) : evS (.know 5 n a) m al w = blockW m n.toNat al (evS a m al) w true := by
  rw [evS_kn, h, Bool.true_and, if_pos rfl]
theorem evS_whether {a : Tm} {n : Int} {m : Md} {al : Nat → Bool} {w : Nat} (h : al w = true) : evS (.know 6 n a) m al w = blockW m n.toNat al (evS a m al) w (evS a m al w) := by
  rw [evS_kn, h, Bool.true_and, if_neg (by decide), if_pos rfl]
theorem evS_every {a : Tm} {n : Int} {m : Md} {al : Nat → Bool} {w : Nat} (h : al w = true) : evS (.know 7 n a) m al w = (List.range m.blocks.length).all fun k => blockW m k al (evS a m al) w true := by
  rw [evS_kn, h, Bool.true_and, if_neg (by decide), if_neg (by decide), if_pos rfl]
theorem evS_common {a : Tm} {n : Int} {m : Md} {al : Nat → Bool} {w : Nat} (h : al w = true) : evS (.know 8 n a) m al w = allW m fun v => !reachA m al w v || evS a m al v := by
  rw [evS_kn, h, Bool.true_and, if_neg (by decide), if_neg (by decide), if_neg (by decide)]
/-- an announcement before a formula is true where the rewritten one is -/
theorem push_ev {a : Tm} {m : Md} {al : Nat → Bool} : ∀ (c : Tm), quietT c → ∀ w, w < m.facts.length → al w = true → evS (pushT a c) m al w = (!evS a m al w || evS c m (fun v => al v && evS a m al v) w) := by
  have know : ∀ (c : Tm), (∀ w, w < m.facts.length → al w = true → evS (pushT a c) m al w = (!evS a m al w || evS c m (fun v => al v && evS a m al v) w)) → ∀ k w,
      blockW m k al (evS (pushT a c) m al) w true = blockW m k (fun v => al v && evS a m al v) (evS c m (fun v => al v && evS a m al v)) w true := fun c ih k w => by
    rw [Bool.eq_iff_iff, blockW_iff, blockW_iff]
    constructor
    · intro h v hv ha hs
      rw [Bool.and_eq_true] at ha
      have := h v hv ha.1 hs
      rw [ih v hv ha.1, ha.2] at this
      simpa using this
    · intro h v hv ha hs
      rw [ih v hv ha]
      cases hA : evS a m al v with
      | false => rfl
      | true => rw [h v hv (by rw [ha, hA]; rfl) hs]; rfl
  intro c
  induction c with
  | leaf op n =>
    intro hq w _ ha
    rcases hq with rfl | ⟨rfl, rfl⟩
    · unfold pushT
      rw [if_pos rfl, evS_deny ha, evS_and ha, evS_deny ha, evS_fact ha]
      cases hA : evS a m al w with
      | false => rfl
      | true => rw [evS_fact (by show (al w && evS a m al w) = true; rw [ha, hA]; rfl)]; simp
    · unfold pushT
      rw [if_neg (by decide), evS_top ha]
      cases hA : evS a m al w with
      | false => rfl
      | true => rw [evS_top (by show (al w && evS a m al w) = true; rw [ha, hA]; rfl)]; rfl
  | deny c ih =>
    intro hq w hw ha
    unfold pushT
    rw [evS_deny ha, evS_and ha, ih hq w hw ha]
    cases hA : evS a m al w with
    | false => rfl
    | true => rw [evS_deny (by show (al w && evS a m al w) = true; rw [ha, hA]; rfl)]; simp
  | joint op c d ih1 ih2 =>
    intro hq w hw ha
    obtain ⟨rfl, hc, hd⟩ := hq
    unfold pushT
    rw [evS_and ha, ih1 hc w hw ha, ih2 hd w hw ha]
    cases hA : evS a m al w with
    | false => rfl
    | true => rw [evS_and (by show (al w && evS a m al w) = true; rw [ha, hA]; rfl)]; simp
  | know op n c ih =>
    intro hq w hw ha
    obtain ⟨ho, hc⟩ := hq
    have K := know c (ih hc)
    unfold pushT
    rcases ho with rfl | rfl | rfl
    · rw [if_neg (by decide), evS_deny ha, evS_and ha, evS_deny ha, evS_know ha, K]
      cases hA : evS a m al w with
      | false => rfl
      | true => rw [evS_know (by show (al w && evS a m al w) = true; rw [ha, hA]; rfl)]; simp
    · rw [if_pos rfl, evS_deny ha, evS_and ha, evS_and ha, evS_deny ha, evS_deny ha, evS_know ha, evS_know ha, K]
      cases hA : evS a m al w with
      | false => rfl
      | true =>
        have hal : (al w && evS a m al w) = true := by rw [ha, hA]; rfl
        rw [evS_whether (al := fun v => al v && evS a m al v) hal]
        rw [Bool.true_and, Bool.not_true, Bool.false_or, Bool.not_and, Bool.not_not, Bool.not_not, Bool.eq_iff_iff, Bool.or_eq_true, blockW_iff, blockW_iff, blockW_iff]
        constructor
        · rintro (h | h)
          · intro v hv hav hs
            rw [h v hv hav hs, h w hw hal (by unfold sameW; simp)]
          · have hf : ∀ v, v < m.facts.length → (al v && evS a m al v) = true → sameW m n.toNat v w = true → evS c m (fun v => al v && evS a m al v) v = false := fun v hv hav hs => by
              rw [Bool.and_eq_true] at hav
              have := h v hv hav.1 hs
              rw [evS_deny hav.1, evS_and hav.1, ih hc v hv hav.1, hav.2] at this
              simpa using this
            intro v hv hav hs
            rw [hf v hv hav hs, hf w hw hal (by unfold sameW; simp)]
        · intro h
          cases hcw : evS c m (fun v => al v && evS a m al v) w with
          | true => exact .inl fun v hv hav hs => by rw [h v hv hav hs, hcw]
          | false =>
            refine .inr fun v hv hav hs => ?_
            rw [evS_deny hav, evS_and hav, ih hc v hv hav]
            cases hAv : evS a m al v with
            | false => rfl
            | true => rw [h v hv (by rw [hav, hAv]; rfl) hs, hcw]; rfl
    · rw [if_neg (by decide), evS_deny ha, evS_and ha, evS_deny ha, evS_every ha]
      have e : ((List.range m.blocks.length).all fun k => blockW m k al (evS (pushT a c) m al) w true) = (List.range m.blocks.length).all fun k => blockW m k (fun v => al v && evS a m al v) (evS c m (fun v => al v && evS a m al v)) w true := by
        congr 1; funext k; exact K k w
      rw [e]
      cases hA : evS a m al w with
      | false => rfl
      | true => rw [evS_every (by show (al w && evS a m al w) = true; rw [ha, hA]; rfl)]; simp
theorem evS_off : ∀ (t : Tm) {m : Md} {al : Nat → Bool} {w : Nat}, al w = false → evS t m al w = false := by
  intro t m al w h
  cases t with
  | leaf op n => rw [evS_leaf, h]; rfl
  | deny a => show (al w && !evS a m al w) = _; rw [h]; rfl
  | know op n a => rw [evS_kn, h]; rfl
  | joint op a b => rw [evS_joint, h]; rfl
/-- equal truth in every part of a model -/
def sameE (t s : Tm) (m : Md) : Prop := ∀ al : Nat → Bool, (∀ w, al w = true → w < m.facts.length) → evS t m al = evS s m al
theorem sameE.refl (t : Tm) (m : Md) : sameE t t m := fun _ _ => rfl
theorem sameE.trans {t s r : Tm} {m : Md} (h : sameE t s m) (h' : sameE s r m) : sameE t r m := fun al hl => (h al hl).trans (h' al hl)
theorem sameE.of {t s : Tm} {m : Md} (h : ∀ al : Nat → Bool, (∀ w, al w = true → w < m.facts.length) → ∀ w, w < m.facts.length → al w = true → evS t m al w = evS s m al w) : sameE t s m := fun al hl => by
  funext w
  cases ha : al w with
  | true => exact h al hl w (hl w ha) ha
  | false => rw [evS_off t ha, evS_off s ha]
theorem sameE.deny {t s : Tm} {m : Md} (h : sameE t s m) : sameE (.deny t) (.deny s) m := fun al hl => by
  funext w; show (al w && !evS t m al w) = (al w && !evS s m al w); rw [h al hl]
theorem sameE.know {t s : Tm} {m : Md} (h : sameE t s m) (op n : Int) : sameE (.know op n t) (.know op n s) m := fun al hl => by
  funext w; rw [evS_kn, evS_kn, h al hl]
theorem sameE.joint {t s t' s' : Tm} {m : Md} (h : sameE t s m) (h' : sameE t' s' m) (op : Int) : sameE (.joint op t t') (.joint op s s') m := fun al hl => by
  have hl' : ∀ w, (al w && evS s m al w) = true → w < m.facts.length := fun w hw => hl w (Bool.and_eq_true _ _ ▸ hw).1
  funext w; rw [evS_joint, evS_joint, h al hl, h' al hl, h' _ hl']
theorem sameE.push {a c : Tm} {m : Md} (hc : quietT c) : sameE (.joint 9 a c) (pushT a c) m := sameE.of fun al _ w hw ha => by
  rw [evS_after ha, push_ev c hc w hw ha]
/-- what is rewritten is true in the same worlds -/
theorem rew_same {m : Md} : ∀ (t s : Tm), t.wf → rewT t = some s → sameE t s m
  | .leaf op n, s, _, h => by cases h; exact sameE.refl _ _
  | .deny a, s, hw, h => by
    obtain ⟨x, hx, h2⟩ := Option.bind_eq_some_iff.1 h
    obtain ⟨rfl, _⟩ := limT_some h2
    exact (rew_same a x hw hx).deny
  | .know op n a, s, hw, h => by
    unfold rewT at h
    split at h
    · cases h
    · obtain ⟨x, hx, h2⟩ := Option.bind_eq_some_iff.1 h
      obtain ⟨rfl, _⟩ := limT_some h2
      exact (rew_same a x hw.2.2.2 hx).know op n
  | .joint op a b, s, hw, h => by
    obtain ⟨x, hx, h2⟩ := Option.bind_eq_some_iff.1 h
    obtain ⟨y, hy, h3⟩ := Option.bind_eq_some_iff.1 h2
    obtain ⟨rfl, _⟩ := limT_some h3
    have hj := (rew_same (m := m) a x hw.2.1 hx).joint (rew_same (m := m) b y hw.2.2 hy) op
    have hq := (rew_quiet b y hw.2.2 hy).1
    rcases hw.1 with rfl | rfl
    · rw [if_pos rfl]; exact hj
    · rw [if_neg (by decide)]; exact hj.trans (sameE.push hq)
/-- and for the program's way -/
theorem sameE.evI {t s : Tm} {m : Md} (h : sameE t s m) (hn : m.facts.length ≤ 16) (hw : t.wf) (hs : s.wf) (ht : tag t m.blocks.length) (hts : tag s m.blocks.length) {w : Nat} (hv : w < m.facts.length) : evI t m w = evI s m w := by
  have g : ∀ n i, i < n → (List.range n).getD i 0 = i := fun n i hi => by rw [List.getD_eq_getElem?_getD, List.getElem?_range hi]; rfl
  rw [ev_rel t m m (List.range m.facts.length) hw ht (Rel.self hn) w (by simpa using hv), ev_rel s m m (List.range m.facts.length) hs hts (Rel.self hn) w (by simpa using hv),
    h (memN (List.range m.facts.length)) fun v hv => List.mem_range.1 (of_decide_eq_true hv)]
theorem push_tag {A : Nat} {a : Tm} (ha : tag a A) : ∀ (c : Tm), quietT c → tag c A → tag (pushT a c) A
  | .leaf op n, _, _ => by unfold pushT; split; exact ⟨ha, trivial⟩; exact trivial
  | .deny c, h, hc => ⟨ha, push_tag ha c h hc⟩
  | .know op n c, h, hc => by
    have hp := push_tag ha c h.2 hc.2
    unfold pushT
    split
    · rename_i ho
      exact ⟨ha, ⟨fun _ => hc.1 (.inr ho), hp⟩, fun _ => hc.1 (.inr ho), ha, hp⟩
    · exact ⟨ha, hc.1, hp⟩
  | .joint op c d, h, hc => ⟨push_tag ha c h.2.1 hc.1, push_tag ha d h.2.2 hc.2⟩
theorem rew_tag {A : Nat} : ∀ (t s : Tm), t.wf → rewT t = some s → tag t A → tag s A
  | .leaf op n, s, _, h, ht => by cases h; exact ht
  | .deny a, s, hw, h, ht => by
    obtain ⟨x, hx, h2⟩ := Option.bind_eq_some_iff.1 h
    obtain ⟨rfl, _⟩ := limT_some h2
    exact rew_tag a x hw hx ht
  | .know op n a, s, hw, h, ht => by
    unfold rewT at h
    split at h
    · cases h
    · obtain ⟨x, hx, h2⟩ := Option.bind_eq_some_iff.1 h
      obtain ⟨rfl, _⟩ := limT_some h2
      exact ⟨ht.1, rew_tag a x hw.2.2.2 hx ht.2⟩
  | .joint op a b, s, hw, h, ht => by
    obtain ⟨x, hx, h2⟩ := Option.bind_eq_some_iff.1 h
    obtain ⟨y, hy, h3⟩ := Option.bind_eq_some_iff.1 h2
    obtain ⟨rfl, _⟩ := limT_some h3
    have h1 := rew_tag a x hw.2.1 hx ht.1
    have h4 := rew_tag b y hw.2.2 hy ht.2
    have hq := (rew_quiet b y hw.2.2 hy).1
    split
    · exact ⟨h1, h4⟩
    · exact push_tag h1 y hq h4
end Go.Proofs.YtodjohdbngbpaaaGreat

/-
  Simplified formulas, in mathematics: true in the same worlds and not longer. No program but its types' numbers.
-/
namespace Go.Proofs.YtodjohdbngbpaaaGreat
open Go.RowKit Go.WideShapes
open Go Go.Deep
set_option linter.unusedSimpArgs false

theorem unDeny_same (t : Tm) (m : Md) : sameE (.deny t) (unDeny t) m := by
  cases t with
  | deny c => exact sameE.of fun al _ w _ ha => by show evS (.deny (.deny c)) m al w = evS c m al w; rw [evS_deny ha, evS_deny ha, Bool.not_not]
  | leaf op n => exact sameE.refl _ _
  | know op n c => exact sameE.refl _ _
  | joint op c d => exact sameE.refl _ _
theorem evS_T {m : Md} {al : Nat → Bool} : evS (.leaf 2 0) m al = al := by
  funext w; rw [evS_leaf, if_neg (by decide), Bool.and_true]
theorem top_and (t : Tm) (m : Md) : sameE (.joint 4 (.leaf 2 0) t) t m := sameE.of fun al _ w _ ha => by rw [evS_and ha, evS_T, ha, Bool.true_and]
theorem and_top (t : Tm) (m : Md) : sameE (.joint 4 t (.leaf 2 0)) t m := sameE.of fun al _ w _ ha => by rw [evS_and ha, evS_T, ha, Bool.and_true]
theorem and_self' (t : Tm) (m : Md) : sameE (.joint 4 t t) t m := sameE.of fun al _ w _ ha => by rw [evS_and ha, Bool.and_self]
theorem reach_on {m : Md} {al : Nat → Bool} {w v : Nat} (h : reachA m al w v = true) (ha : al w = true) : al v = true := by
  refine wsh_least (r := stepA m al) (T := al) (fun i j _ hs => ?_) ha h
  exact (stepA_iff.1 hs).2.2.1
theorem know_top {op n : Int} (ho : op = 5 ∨ op = 6 ∨ op = 7 ∨ op = 8) (m : Md) : sameE (.know op n (.leaf 2 0)) (.leaf 2 0) m := sameE.of fun al _ w hw ha => by
  have hb : ∀ k want, want = true → blockW m k al al w want = true := fun k want hwt => by
    rw [blockW_iff]; intro v _ hv _; rw [hv, hwt]
  rw [evS_top ha]
  rcases ho with rfl | rfl | rfl | rfl
  · rw [evS_know ha, evS_T]; exact hb _ _ rfl
  · rw [evS_whether ha, evS_T]; exact hb _ _ ha
  · rw [evS_every ha, evS_T, List.all_eq_true]; exact fun k _ => hb _ _ rfl
  · rw [evS_common ha, evS_T, allW_iff]
    intro v _
    cases hr : reachA m al w v with
    | false => rfl
    | true => rw [reach_on hr ha]; rfl
/-- what is simplified is true in the same worlds -/
theorem simp_same {m : Md} : ∀ (t : Tm), t.wf → t.size ≤ 40 → sameE t (simpT t) m
  | .leaf op n, _, _ => sameE.refl _ _
  | .deny a, hw, hs => by
    have hs' : a.size + 1 ≤ 40 := hs
    exact (simp_same a hw (by omega)).deny.trans (unDeny_same _ m)
  | .know op n a, hw, hs => by
    have hs' : a.size + 1 ≤ 40 := hs
    have ih := (simp_same (m := m) a hw.2.2.2 (by omega)).know op n
    unfold simpT
    split
    · rename_i ht
      rw [top_eq (simp_wf a hw.2.2.2).1 ht] at ih
      exact ih.trans (know_top hw.1 m)
    · exact ih
  | .joint op a b, hw, hs => by
    have hs' : a.size + b.size + 1 ≤ 40 := hs
    obtain ⟨w1, z1⟩ := simp_wf a hw.2.1
    obtain ⟨w2, z2⟩ := simp_wf b hw.2.2
    have ih := (simp_same (m := m) a hw.2.1 (by omega)).joint (simp_same (m := m) b hw.2.2 (by omega)) op
    unfold simpT
    split
    · rename_i ho
      subst ho
      unfold simpAnd
      split
      · rename_i h
        rw [Bool.and_eq_true] at h
        rw [top_eq w1 h.1] at ih
        exact ih.trans (top_and _ m)
      · split
        · rename_i h
          rw [Bool.or_eq_true] at h
          rcases h with h | h
          · rw [top_eq w2 h] at ih
            exact ih.trans (and_top _ m)
          · rw [← txt_one w1 w2 (by omega) (by omega) (of_decide_eq_true h)] at ih
            exact ih.trans (and_self' _ m)
        · exact ih
    · exact ih
theorem simp_tag {A : Nat} : ∀ (t : Tm), tag t A → tag (simpT t) A
  | .leaf _ _, h => h
  | .deny a, h => by
    have := simp_tag a h
    unfold simpT
    cases hs : simpT a with
    | deny c => rw [hs] at this; exact this
    | leaf op n => trivial
    | know op n c => rw [hs] at this; exact this
    | joint op c d => rw [hs] at this; exact this
  | .know op n a, h => by
    unfold simpT
    split
    · trivial
    · exact ⟨h.1, simp_tag a h.2⟩
  | .joint op a b, h => by
    unfold simpT
    split
    · unfold simpAnd
      split
      · exact simp_tag b h.2
      · split
        · exact simp_tag a h.1
        · exact ⟨simp_tag a h.1, simp_tag b h.2⟩
    · exact ⟨simp_tag a h.1, simp_tag b h.2⟩
end Go.Proofs.YtodjohdbngbpaaaGreat
