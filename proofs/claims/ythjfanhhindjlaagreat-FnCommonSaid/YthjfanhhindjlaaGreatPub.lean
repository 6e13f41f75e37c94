/-
  What public, private and asking events do, in mathematics: plain formulas, who knows what in the product. No program but its types' numbers.
-/
import Derived.Test.YthjfanhhindjlaaGreatPrd
import Derived.Test.YthjfanhhindjlaaGreatZDif
namespace Go.Proofs.YthjfanhhindjlaaGreat
open Go.RowKit Go.WideShapes
open Go Go.Deep
set_option linter.unusedSimpArgs false

/-- a formula about facts alone -/
def plainT : Tm → Prop
  | .leaf _ _ => True
  | .deny a => plainT a
  | .know _ _ _ => False
  | .joint op a b => op = 4 ∧ plainT a ∧ plainT b
theorem plain_ev : ∀ (t : Tm), plainT t → ∀ {m m' : Md} {u u' : Nat}, u < m.facts.length → u' < m'.facts.length → m.facts.getD u 0 = m'.facts.getD u' 0 → evI t m u = evI t m' u'
  | .leaf op n, _, m, m', u, u', h, h', e => by
    show cut m.facts.length _ u = cut m'.facts.length _ u'
    rw [cut_at h, cut_at h', e]
  | .deny a, hp, m, m', u, u', h, h', e => by
    rw [deny_ev h, deny_ev h', plain_ev a hp h h' e]
  | .know _ _ _, hp, _, _, _, _, _, _, _ => hp.elim
  | .joint op a b, hp, m, m', u, u', h, h', e => by
    obtain ⟨rfl, ha, hb⟩ := hp
    unfold evI
    rw [if_pos rfl, if_pos rfl, cut_at h, cut_at h', plain_ev a ha h h' e, plain_ev b hb h h' e]
theorem mem_blkB {m : Md} {k u y : Nat} : blkB m.blocks m.facts.length k u y = true ↔ y ∈ blkD m k u := by
  rw [mem_blkD]
  unfold blkB cut sameW
  rw [Bool.and_eq_true, decide_eq_true_eq, beq_iff_eq, beq_iff_eq]
  exact ⟨fun h => ⟨h.1, h.2.symm⟩, fun h => ⟨h.1, h.2.symm⟩⟩
theorem subB_all {n : Nat} (hn : n ≤ 16) {p q : Nat → Bool} (hp : ∀ i, p i = true → i < n) : subB p q = true ↔ ∀ i, p i = true → q i = true := by
  unfold subB
  rw [List.all_eq_true]
  constructor
  · intro h i hi
    have := h i (List.mem_range.2 (by have := hp i hi; omega))
    rw [hi] at this
    simpa using this
  · intro h i _
    cases hi : p i with
    | false => rfl
    | true => rw [h i hi]; rfl
theorem blkB_in {m : Md} {k u : Nat} : ∀ i, blkB m.blocks m.facts.length k u i = true → i < m.facts.length := fun _ h => cut_in h
theorem whether_ev {m : Md} (hn : m.facts.length ≤ 16) {t : Tm} {k u : Nat} (hu : u < m.facts.length) : evI (.know 6 (k : Int) t) m u = true ↔ (∀ y ∈ blkD m k u, evI t m y = true) ∨ (∀ y ∈ blkD m k u, evI t m y = false) := by
  rw [show evI (.know 6 (k : Int) t) m = cut m.facts.length (fun w => subB (blkB m.blocks m.facts.length k w) (evI t m) || subB (blkB m.blocks m.facts.length k w) (cut m.facts.length fun i => !evI t m i)) from rfl, cut_at hu, Bool.or_eq_true, subB_all hn blkB_in, subB_all hn blkB_in]
  constructor
  · rintro (h | h)
    · exact .inl fun y hy => h y (mem_blkB.2 hy)
    · refine .inr fun y hy => ?_
      have := h y (mem_blkB.2 hy)
      rw [cut_at (mem_blkD.1 hy).1] at this
      simpa using this
  · rintro (h | h)
    · exact .inl fun y hy => h y (mem_blkB.1 hy)
    · refine .inr fun y hy => ?_
      have hy' := mem_blkB.1 hy
      rw [cut_at (mem_blkD.1 hy').1, h y hy']; rfl
/-- common knowledge: true in all that is reached -/
theorem common_ev {m : Md} (hn : m.facts.length ≤ 16) {t : Tm} {n : Int} {u : Nat} (hu : u < m.facts.length) : evI (.know 8 n t) m u = true ↔ ∀ y, reachB m.blocks m.facts.length m.blocks.length u y = true → evI t m y = true := by
  rw [show evI (.know 8 n t) m = cut m.facts.length (fun w => subB (reachB m.blocks m.facts.length m.blocks.length w) (evI t m)) from rfl, cut_at hu, subB_all (n := m.facts.length) (p := reachB m.blocks m.facts.length m.blocks.length u) hn fun i h => wsh_in (fun _ _ => stepP_in) hu h]
theorem every_ev {m : Md} (hn : m.facts.length ≤ 16) {t : Tm} {n : Int} {u : Nat} (hu : u < m.facts.length) : evI (.know 7 n t) m u = true ↔ ∀ y, y < m.facts.length → near m.blocks m.blocks.length u y = true → evI t m y = true := by
  rw [show evI (.know 7 n t) m = cut m.facts.length (fun w => subB (nearB m.blocks m.facts.length m.blocks.length w) (evI t m)) from rfl, cut_at hu, subB_all (n := m.facts.length) (p := nearB m.blocks m.facts.length m.blocks.length u) hn fun i h => cut_in h]
  constructor
  · intro h y hy hs
    exact h y (by unfold nearB; rw [cut_at hy]; exact hs)
  · intro h y hy
    have hyn := cut_in hy
    unfold nearB at hy
    rw [cut_at hyn] at hy
    exact h y hyn hy

/-- a plain formula in a product -/
theorem prd_plain {m : Md} {ebs : List (List Int)} {ea : Nat} {P : List (Nat × Nat)} (hP : ∀ p ∈ P, p.1 < m.facts.length) {t : Tm} (ht : plainT t) {i : Nat} (hi : i < P.length) : evI t (prdM m ebs ea P) i = evI t m (atP P i).1 :=
  plain_ev t ht (by rw [prd_facts_len]; exact hi) (hP _ (atP_mem hi)) (prd_fact hi)
/-- a public event is an announcement -/
theorem prd_public {m : Md} (hm : mdOk m = true) {p : Nat → Bool} (hp : ∀ i, p i = true → i < m.facts.length) (ha : p m.actual.toNat = true) {ebs : List (List Int)} (hz : ∀ k, k < m.blocks.length → (ebs.getD k []).getD 0 0 = 0) :
    prdM m ebs 0 (pairsP m.facts.length 1 fun _ => p) = restM m (lst p 16) := by
  obtain ⟨p1, p2, p3, p4, p5, p6, p7, p8⟩ := mdOk_parts hm
  have hl : lst p m.facts.length = lst p 16 := (lst_16 hp p2).symm
  rw [pairs_one, hl]
  have hmem : m.actual.toNat ∈ lst p 16 := mem_lst.2 ⟨by omega, ha⟩
  obtain ⟨r, hr, hg, hact⟩ := act_rest p7 hmem
  have hP : ((lst p 16).map fun w => (w, 0)).length = (lst p 16).length := by simp
  have hat : ∀ i, i < (lst p 16).length → atP ((lst p 16).map fun w => (w, 0)) i = ((lst p 16).getD i 0, 0) := fun i hi => by
    unfold atP
    rw [List.getD_eq_getElem?_getD, List.getElem?_map, List.getElem?_eq_getElem hi, List.getD_eq_getElem?_getD, List.getElem?_eq_getElem hi]; rfl
  have hin : (m.actual.toNat, 0) ∈ (lst p 16).map fun w => (w, 0) := List.mem_map.2 ⟨_, hmem, rfl⟩
  have hacp : (prdM m ebs 0 ((lst p 16).map fun w => (w, 0))).actual = (restM m (lst p 16)).actual := by
    obtain ⟨b1, b2⟩ := prd_act (ebs := ebs) hin
    rw [hP] at b1
    rw [hat _ b1] at b2
    have e := nodup_getD (lst_nodup p 16) b1 hr ((Prod.mk.inj b2).1.trans hg.symm)
    have h0 : 0 ≤ (prdM m ebs 0 ((lst p 16).map fun w => (w, 0))).actual := Int.natCast_nonneg _
    rw [hact]
    omega
  unfold prdM restM at hacp ⊢
  simp only at hacp
  rw [hacp, Md.mk.injEq]
  refine ⟨?_, ?_, rfl⟩
  · unfold pick; rw [List.map_map]; rfl
  · unfold rawRows
    apply List.ext_getElem?
    intro k
    rw [List.getElem?_map, List.getElem?_map, List.getElem?_map]
    rcases Nat.lt_or_ge k m.blocks.length with h | h
    · rw [List.getElem?_range h, List.getElem?_eq_getElem h]
      simp only [Option.map_some]
      congr 1
      have hb : m.blocks.getD k [] = m.blocks[k] := by rw [List.getD_eq_getElem?_getD, List.getElem?_eq_getElem h]; rfl
      rw [hb]
      refine num_cong (by rw [prdRow_len, pick_len, hP]) fun i j hi hj => ?_
      rw [prdRow_len, hP] at hi hj
      have hpk : ∀ i, i < (lst p 16).length → (pick m.blocks[k] (lst p 16)).getD i 0 = m.blocks[k].getD ((lst p 16).getD i 0) 0 := fun i hi => by
        unfold pick
        rw [List.getD_eq_getElem?_getD, List.getElem?_map, List.getElem?_eq_getElem hi, List.getD_eq_getElem?_getD (l := lst p 16), List.getElem?_eq_getElem hi]; rfl
      rw [prdRow_at (by rw [hP]; exact hi), prdRow_at (by rw [hP]; exact hj), hat i hi, hat j hj, hpk i hi, hpk j hj]
      simp only [hz k h]
      exact ⟨fun e => by omega, fun e => by omega⟩
    · rw [List.getElem?_eq_none (by simpa using h), List.getElem?_eq_none h]; rfl
/-- two events with conditions that exclude each other: one pair a world -/
theorem pairs_ask {p : Nat → Bool} {t : Nat → Nat → Bool} (h0 : t 0 = p) : ∀ n, (∀ w, w < n → t 1 w = !p w) → pairsP n 2 t = (List.range n).map fun w => (w, if p w then 0 else 1)
  | 0, _ => rfl
  | n + 1, h1 => by
    rw [pairs_succ, pairs_ask h0 n fun w hw => h1 w (by omega), List.range_succ (n := n), List.map_append]
    have e1 := h1 n (by omega)
    have e0 : t 0 n = p n := by rw [h0]
    cases hp : p n with
    | true => rw [hp] at e0 e1; simp [List.range_succ, e0, e1, hp]
    | false => rw [hp] at e0 e1; simp [List.range_succ, e0, e1, hp]
theorem pairs_ask_at {p : Nat → Bool} {n i : Nat} (h : i < n) : atP ((List.range n).map fun w => (w, if p w then 0 else 1)) i = (i, if p i then 0 else 1) := by
  unfold atP; rw [List.getD_eq_getElem?_getD, List.getElem?_map, List.getElem?_range h]; rfl
/-- who looks knows whether -/
theorem ask_knows {m : Md} (hm : mdOk m = true) {ebs : List (List Int)} {ea : Nat} {t : Tm} (ht : plainT t) {a : Nat} (ha : a < m.blocks.length) (hb : evB ebs m.blocks.length 2) (h0 : (ebs.getD a []).getD 0 0 = 0) (h1 : (ebs.getD a []).getD 1 0 = 1) {i : Nat} (hi : i < m.facts.length) :
    evI (.know 6 (a : Int) t) (prdM m ebs ea ((List.range m.facts.length).map fun w => (w, if evI t m w then 0 else 1))) i = true := by
  obtain ⟨p1, p2, _⟩ := mdOk_parts hm
  have hl : ((List.range m.facts.length).map fun w => (w, if evI t m w then 0 else 1)).length = m.facts.length := by simp
  have hP : ∀ p ∈ (List.range m.facts.length).map fun w => (w, if evI t m w then 0 else 1), p.1 < m.facts.length ∧ p.2 < 2 := fun p hp => by
    obtain ⟨w, hw, rfl⟩ := List.mem_map.1 hp
    exact ⟨List.mem_range.1 hw, by show (if evI t m w then 0 else 1) < 2; split <;> omega⟩
  have key : ∀ y ∈ blkD (prdM m ebs ea ((List.range m.facts.length).map fun w => (w, if evI t m w then 0 else 1))) a i, y < m.facts.length ∧ evI t m y = evI t m i := fun y hy => by
    obtain ⟨y1, y2⟩ := mem_blkD.1 hy
    rw [prd_facts_len, hl] at y1
    obtain ⟨_, e⟩ := (prd_same hb (fun p hp => (hP p hp).2) ha (by rw [hl]; exact y1) (by rw [hl]; exact hi)).1 y2
    rw [pairs_ask_at y1, pairs_ask_at hi] at e
    refine ⟨y1, ?_⟩
    cases q1 : evI t m y <;> cases q2 : evI t m i <;> rw [q1, q2] at e <;> simp only [Bool.false_eq_true, if_false, if_true, h0, h1] at e ⊢ <;> omega
  have hev : ∀ y, y < m.facts.length → evI t (prdM m ebs ea ((List.range m.facts.length).map fun w => (w, if evI t m w then 0 else 1))) y = evI t m y := fun y hy => by
    rw [prd_plain (fun p hp => (hP p hp).1) ht (by rw [hl]; exact hy), pairs_ask_at hy]
  rw [whether_ev (by rw [prd_facts_len, hl]; exact p2) (by rw [prd_facts_len, hl]; exact hi)]
  cases q : evI t m i with
  | true => exact .inl fun y hy => by obtain ⟨y1, y2⟩ := key y hy; rw [hev y y1, y2, q]
  | false => exact .inr fun y hy => by obtain ⟨y1, y2⟩ := key y hy; rw [hev y y1, y2, q]
/-- after a private event the agent knows it -/
theorem private_knows {m : Md} {ebs : List (List Int)} {ea : Nat} {t : Tm} (ht : plainT t) {T : Nat → Nat → Bool} (hT : T 0 = evI t m) {a i : Nat} (ha : a < m.blocks.length) (hb : evB ebs m.blocks.length 2) (h0 : (ebs.getD a []).getD 0 0 = 0) (h1 : (ebs.getD a []).getD 1 0 = 1)
    (hl : (pairsP m.facts.length 2 T).length ≤ 16) (hi : i < (pairsP m.facts.length 2 T).length) (he : (atP (pairsP m.facts.length 2 T) i).2 = 0) : evI (.know 5 (a : Int) t) (prdM m ebs ea (pairsP m.facts.length 2 T)) i = true := by
  have hP : ∀ p ∈ pairsP m.facts.length 2 T, p.1 < m.facts.length ∧ p.2 < 2 ∧ T p.2 p.1 = true := fun p hp => mem_pairs.1 hp
  rw [know_ev (by rw [prd_facts_len]; exact hl) (by rw [prd_facts_len]; exact hi)]
  intro y hy
  obtain ⟨y1, y2⟩ := mem_blkD.1 hy
  rw [prd_facts_len] at y1
  obtain ⟨_, e⟩ := (prd_same hb (fun p hp => (hP p hp).2.1) ha y1 hi).1 y2
  obtain ⟨m1, m2, m3⟩ := hP _ (atP_mem y1)
  rw [he, h0] at e
  have hz : (atP (pairsP m.facts.length 2 T) y).2 = 0 := by
    rcases Nat.lt_or_ge (atP (pairsP m.facts.length 2 T) y).2 1 with h | h
    · omega
    · have : (atP (pairsP m.facts.length 2 T) y).2 = 1 := by omega
      rw [this, h1] at e
      omega
  rw [hz, hT] at m3
  rw [prd_plain (fun p hp => (hP p hp).1) ht y1]
  exact m3
/-- and the others know what they knew of facts -/
theorem private_others {m : Md} (hm : mdOk m = true) {ebs : List (List Int)} {ea : Nat} {t : Tm} (ht : plainT t) {T : Nat → Nat → Bool} (hT : ∀ w, w < m.facts.length → T 1 w = true) {a i : Nat} (ha : a < m.blocks.length) (hb : evB ebs m.blocks.length 2) (h0 : (ebs.getD a []).getD 0 0 = 0) (h1 : (ebs.getD a []).getD 1 0 = 0)
    (hl : (pairsP m.facts.length 2 T).length ≤ 16) (hi : i < (pairsP m.facts.length 2 T).length) : evI (.know 5 (a : Int) t) (prdM m ebs ea (pairsP m.facts.length 2 T)) i = evI (.know 5 (a : Int) t) m (atP (pairsP m.facts.length 2 T) i).1 := by
  have hP : ∀ p ∈ pairsP m.facts.length 2 T, p.1 < m.facts.length ∧ p.2 < 2 ∧ T p.2 p.1 = true := fun p hp => mem_pairs.1 hp
  have hin := (hP _ (atP_mem hi)).1
  have hz : ∀ k, k < 2 → (ebs.getD a []).getD k 0 = 0 := fun k hk => by
    rcases Nat.lt_or_ge k 1 with h | h
    · have : k = 0 := by omega
      subst this; exact h0
    · have : k = 1 := by omega
      subst this; exact h1
  rw [Bool.eq_iff_iff, know_ev (by rw [prd_facts_len]; exact hl) (by rw [prd_facts_len]; exact hi), know_ev (mdOk_parts hm).2.1 hin]
  constructor
  · intro h w hw
    obtain ⟨w1, w2⟩ := mem_blkD.1 hw
    obtain ⟨j, hj, e⟩ := atP_get (P := pairsP m.facts.length 2 T) (p := (w, 1)) (mem_pairs.2 ⟨w1, by show (1 : Nat) < 2; omega, hT w w1⟩)
    have := h j (mem_blkD.2 ⟨by rw [prd_facts_len]; exact hj, (prd_same hb (fun p hp => (hP p hp).2.1) ha hj hi).2 ⟨by rw [e]; exact w2, by rw [hz _ (hP _ (atP_mem hj)).2.1, hz _ (hP _ (atP_mem hi)).2.1]⟩⟩)
    rw [prd_plain (fun p hp => (hP p hp).1) ht hj, e] at this
    exact this
  · intro h y hy
    obtain ⟨y1, y2⟩ := mem_blkD.1 hy
    rw [prd_facts_len] at y1
    obtain ⟨e, _⟩ := (prd_same hb (fun p hp => (hP p hp).2.1) ha y1 hi).1 y2
    rw [prd_plain (fun p hp => (hP p hp).1) ht y1]
    exact h _ (mem_blkD.2 ⟨(hP _ (atP_mem y1)).1, e⟩)
end Go.Proofs.YthjfanhhindjlaaGreat
