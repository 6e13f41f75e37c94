/-
  Several texts in one: Cls Bis Lea. Conditions: as each theorem says.
-/
import Derived.Test.YtodjohdbngbpaabZSem
import Derived.Test.YtodjohdbngbpaabRmy
import Derived.Test.YtodjohdbngbpaabZMok
/-
  Classes of worlds, in mathematics: one step of the refinement, its steps until nothing changes, why they end. No program but its types' numbers.
-/
namespace Go.Proofs.Ytodjohdbngbpaab
open Go.RowKit Go.WideShapes
open Go Go.Deep
set_option linter.unusedSimpArgs false

theorem idC_le {l : List Int} {i : Nat} {x : Int} (hi : i < l.length) (h : l.getD i 0 = x) : l.idxOf x ≤ i := by
  rcases Nat.lt_or_ge i (l.idxOf x) with h1 | h1
  · have h2 : (l[i] == x) = false := List.not_of_lt_findIdx h1
    rw [List.getD_eq_getElem?_getD, List.getElem?_eq_getElem hi] at h
    simp only [Option.getD_some] at h
    rw [h] at h2
    simp at h2
  · exact h1
theorem idC_get {l : List Int} {k : Nat} (hk : k < l.length) : l.idxOf (l.getD k 0) < l.length ∧ l.getD (l.idxOf (l.getD k 0)) 0 = l.getD k 0 := by
  have hm : l.getD k 0 ∈ l := by rw [List.getD_eq_getElem?_getD, List.getElem?_eq_getElem hk]; exact List.getElem_mem _
  generalize l.getD k 0 = x at *
  have h1 := List.idxOf_lt_length_of_mem hm
  refine ⟨h1, ?_⟩
  rw [List.getD_eq_getElem?_getD, List.getElem?_eq_getElem h1]
  exact List.getElem_idxOf h1
theorem idC_same {l l' : List Int} (hl : l.length = l'.length) (h : ∀ i j, i < l.length → j < l.length → (l.getD i 0 = l.getD j 0 ↔ l'.getD i 0 = l'.getD j 0)) {k : Nat} (hk : k < l.length) : l.idxOf (l.getD k 0) = l'.idxOf (l'.getD k 0) := by
  obtain ⟨a1, a2⟩ := idC_get hk
  obtain ⟨b1, b2⟩ := idC_get (l := l') (k := k) (by omega)
  have c1 := idC_le (l := l') (x := l'.getD k 0) (by omega) ((h _ k a1 hk).1 a2)
  have c2 := idC_le (l := l) (x := l.getD k 0) (by omega) ((h _ k (by omega) hk).2 b2)
  omega
/-- the numbering depends on what is equal alone -/
theorem num_cong {l l' : List Int} (hl : l.length = l'.length) (h : ∀ i j, i < l.length → j < l.length → (l.getD i 0 = l.getD j 0 ↔ l'.getD i 0 = l'.getD j 0)) : num l = num l' := by
  have key : ∀ k, k ≤ l.length → numS l k = numS l' k := by
    intro k
    induction k with
    | zero => intro _; rfl
    | succ k ih =>
      intro hk
      rw [numS, numS, ih (by omega), idC_same hl h (by omega)]
  unfold num
  rw [key _ (Nat.le_refl _), hl]

/-- the worlds of the block of w have the class x among theirs -/
def setB (m : Md) (c : List Int) (k w : Nat) : Nat → Bool := fun x => (List.range m.facts.length).any fun v => ((m.blocks.getD k []).getD v 0 == (m.blocks.getD k []).getD w 0) && (c.getD v 0 == (x : Int))
def eqN (n : Nat) (p q : Nat → Bool) : Bool := (List.range n).all fun x => p x == q x
theorem eqN_iff {n : Nat} {p q : Nat → Bool} : eqN n p q = true ↔ ∀ x, x < n → p x = q x := by
  unfold eqN; rw [List.all_eq_true]
  exact ⟨fun h x hx => by simpa using h x (List.mem_range.2 hx), fun h x hx => by simpa using h x (List.mem_range.1 hx)⟩
/-- two worlds of one class stay in one class -/
def tog (m : Md) (c : List Int) (v w : Nat) : Bool := (c.getD v 0 == c.getD w 0) && (List.range m.blocks.length).all fun k => eqN m.facts.length (setB m c k v) (setB m c k w)
theorem tog_iff {m : Md} {c : List Int} {v w : Nat} : tog m c v w = true ↔ c.getD v 0 = c.getD w 0 ∧ ∀ k, k < m.blocks.length → ∀ x, x < m.facts.length → setB m c k v x = setB m c k w x := by
  unfold tog
  rw [Bool.and_eq_true, List.all_eq_true, beq_iff_eq]
  exact ⟨fun h => ⟨h.1, fun k hk => eqN_iff.1 (h.2 k (List.mem_range.2 hk))⟩, fun h => ⟨h.1, fun k hk => eqN_iff.2 (h.2 k (List.mem_range.1 hk))⟩⟩
theorem tog_refl (m : Md) (c : List Int) (v : Nat) : tog m c v v = true := tog_iff.2 ⟨rfl, fun _ _ _ _ => rfl⟩
theorem tog_symm {m : Md} {c : List Int} {v w : Nat} (h : tog m c v w = true) : tog m c w v = true := by
  obtain ⟨h1, h2⟩ := tog_iff.1 h
  exact tog_iff.2 ⟨h1.symm, fun k hk x hx => (h2 k hk x hx).symm⟩
theorem tog_trans {m : Md} {c : List Int} {u v w : Nat} (h : tog m c u v = true) (h' : tog m c v w = true) : tog m c u w = true := by
  obtain ⟨h1, h2⟩ := tog_iff.1 h
  obtain ⟨h3, h4⟩ := tog_iff.1 h'
  exact tog_iff.2 ⟨h1.trans h3, fun k hk x hx => (h2 k hk x hx).trans (h4 k hk x hx)⟩
/-- the first world that stays together with w -/
def rep (m : Md) (c : List Int) (w : Nat) : Nat := ((List.range w).find? fun v => tog m c v w).getD w
theorem rep_le (m : Md) (c : List Int) (w : Nat) : rep m c w ≤ w := by
  unfold rep
  cases h : (List.range w).find? fun v => tog m c v w with
  | none => exact Nat.le_refl _
  | some v => exact Nat.le_of_lt (List.mem_range.1 (List.mem_of_find?_eq_some h))
theorem rep_tog (m : Md) (c : List Int) (w : Nat) : tog m c (rep m c w) w = true := by
  unfold rep
  cases h : (List.range w).find? fun v => tog m c v w with
  | none => exact tog_refl _ _ _
  | some v => exact (List.find?_some (p := fun v => tog m c v w) h : _)
theorem rep_min {m : Md} {c : List Int} {v w : Nat} (h : tog m c v w = true) : rep m c w ≤ v := by
  rcases Nat.lt_or_ge v (rep m c w) with h1 | h1
  · exfalso
    have hvw : v < w := Nat.lt_of_lt_of_le h1 (rep_le m c w)
    unfold rep at h1
    cases hf : (List.range w).find? fun v => tog m c v w with
    | none =>
      have := List.find?_eq_none.1 hf v (List.mem_range.2 hvw)
      exact this h
    | some u =>
      rw [hf] at h1
      simp only [Option.getD_some] at h1
      obtain ⟨_, us, bs, hab, hno⟩ := List.find?_eq_some_iff_append.1 hf
      have hlen : us.length = u := by
        have := congrArg (fun l => l[us.length]?) hab
        simp only [List.getElem?_append_right (Nat.le_refl _), Nat.sub_self, List.getElem?_cons_zero] at this
        have hlt : us.length < (List.range w).length := by rw [hab]; simp
        rw [List.length_range] at hlt
        rw [List.getElem?_range hlt] at this
        exact Option.some.inj this
      have hva : v ∈ us := by
        have h2 : (List.range w)[v]? = some v := List.getElem?_range hvw
        rw [hab, List.getElem?_append_left (by omega)] at h2
        exact List.mem_of_getElem? h2
      have := hno v hva
      rw [h] at this
      simp at this
  · exact h1
theorem rep_same {m : Md} {c : List Int} {v w : Nat} : rep m c v = rep m c w ↔ tog m c v w = true := by
  constructor
  · intro h
    have h1 := rep_tog m c v
    rw [h] at h1
    exact tog_trans (tog_symm h1) (rep_tog m c w)
  · intro h
    have h1 := rep_min (tog_trans (rep_tog m c v) h)
    have h2 := rep_min (tog_trans (rep_tog m c w) (tog_symm h))
    omega
/-- the next classes -/
def repL (m : Md) (c : List Int) : List Int := (List.range m.facts.length).map fun w => ((rep m c w : Nat) : Int)
def finer (m : Md) (c : List Int) : List Int := num (repL m c)
theorem repL_len (m : Md) (c : List Int) : (repL m c).length = m.facts.length := by simp [repL]
theorem repL_get {m : Md} {c : List Int} {w : Nat} (h : w < m.facts.length) : (repL m c).getD w 0 = ((rep m c w : Nat) : Int) := by
  unfold repL; rw [List.getD_eq_getElem?_getD, List.getElem?_map, List.getElem?_range h]; rfl
theorem finer_len (m : Md) (c : List Int) : (finer m c).length = m.facts.length := by unfold finer; rw [num_len, repL_len]
theorem finer_ord (m : Md) (c : List Int) : ordOk (finer m c) = true := num_ord _
theorem finer_same {m : Md} {c : List Int} {v w : Nat} (hv : v < m.facts.length) (hw : w < m.facts.length) : (finer m c).getD v 0 = (finer m c).getD w 0 ↔ tog m c v w = true := by
  unfold finer
  rw [← num_same (repL m c) (by rw [repL_len]; exact hv) (by rw [repL_len]; exact hw), repL_get hv, repL_get hw, ← rep_same]
  exact ⟨fun h => Int.ofNat.inj h, fun h => by rw [h]⟩
/-- where a world's number comes from -/
theorem repL_idx {m : Md} {c : List Int} {w : Nat} (h : w < m.facts.length) : (repL m c).idxOf ((repL m c).getD w 0) = rep m c w := by
  have hr : rep m c w < m.facts.length := Nat.lt_of_le_of_lt (rep_le m c w) h
  obtain ⟨a1, a2⟩ := idC_get (l := repL m c) (k := w) (by rw [repL_len]; exact h)
  have h1 := idC_le (l := repL m c) (i := rep m c w) (x := (repL m c).getD w 0) (by rw [repL_len]; exact hr) (by
    rw [repL_get hr, repL_get h]
    have := rep_same.2 (rep_tog m c w)
    rw [this])
  rw [repL_len] at a1
  generalize (repL m c).idxOf ((repL m c).getD w 0) = j at *
  rw [repL_get a1, repL_get h] at a2
  have h2 := rep_min (rep_same.1 (Int.ofNat.inj a2))
  omega
/-- the classes of the steps -/
def clsAt (m : Md) : Nat → List Int
  | 0 => num m.facts
  | j + 1 => finer m (clsAt m j)
theorem clsAt_len (m : Md) : ∀ j, (clsAt m j).length = m.facts.length
  | 0 => num_len _
  | _ + 1 => finer_len _ _
theorem clsAt_ord (m : Md) : ∀ j, ordOk (clsAt m j) = true
  | 0 => num_ord _
  | _ + 1 => finer_ord _ _
theorem clsAt_bd {m : Md} {j w : Nat} (hw : w < m.facts.length) : 0 ≤ (clsAt m j).getD w 0 ∧ (clsAt m j).getD w 0 < m.facts.length := by
  have hm : (clsAt m j).getD w 0 ∈ clsAt m j := by rw [List.getD_eq_getElem?_getD, List.getElem?_eq_getElem (by rw [clsAt_len]; exact hw)]; exact List.getElem_mem _
  have := ord_bd (clsAt_ord m j) hm
  rwa [clsAt_len] at this
/-- how many classes there are -/
def newP (l : List Int) : Nat → Bool := fun i => !decide (l.idxOf (l.getD i 0) < i)
theorem numS_new (l : List Int) : ∀ k, (numS l k).2 = (lst (newP l) k).length
  | 0 => rfl
  | k + 1 => by
    rw [numS, lst_succ, List.length_append]
    have ih := numS_new l k
    by_cases h : l.idxOf (l.getD k 0) < k
    · rw [if_pos h]
      have : newP l k = false := by unfold newP; rw [decide_eq_true h]; rfl
      rw [this]
      simp [ih]
    · rw [if_neg h]
      have : newP l k = true := by unfold newP; rw [decide_eq_false h]; rfl
      rw [this]
      simp [ih]
def cntC (m : Md) (c : List Int) : Nat := (lst (newP c) m.facts.length).length
theorem cntC_le (m : Md) (c : List Int) : cntC m c ≤ m.facts.length := lst_len _ _
theorem lst_lt {p q : Nat → Bool} (h : ∀ i, p i = true → q i = true) {n j : Nat} (hj : j < n) (hq : q j = true) (hp : p j = false) : (lst p n).length < (lst q n).length := by
  have key : ∀ k, (lst p k).length + (if j < k then 1 else 0) ≤ (lst q k).length := by
    intro k
    induction k with
    | zero => simp [lst]
    | succ k ih =>
      rw [lst_succ, lst_succ, List.length_append, List.length_append]
      by_cases e : j = k
      · subst e
        rw [hp, hq]
        have : ¬ j < j := by omega
        simp [this] at ih ⊢
        omega
      · have e2 : (j < k + 1) ↔ (j < k) := by omega
        simp only [e2]
        cases hpk : p k with
        | false => simp; omega
        | true => rw [h k hpk]; simp; omega
  have := key n
  rw [if_pos hj] at this
  omega
/-- a finer numbering that is another one has more numbers -/
theorem cnt_lt {m : Md} {c d : List Int} (hc : c.length = m.facts.length) (hd : d.length = m.facts.length) (oc : ordOk c = true) (od : ordOk d = true)
    (hf : ∀ i j, i < m.facts.length → j < m.facts.length → d.getD i 0 = d.getD j 0 → c.getD i 0 = c.getD j 0) (hne : d ≠ c) : cntC m c < cntC m d := by
  -- a world whose class has been split
  have hex : ∃ i j, i < m.facts.length ∧ j < m.facts.length ∧ c.getD i 0 = c.getD j 0 ∧ d.getD i 0 ≠ d.getD j 0 := by
    refine Classical.byContradiction fun hno => hne ?_
    have hsame : ∀ i j, i < d.length → j < d.length → (d.getD i 0 = d.getD j 0 ↔ c.getD i 0 = c.getD j 0) := fun i j hi hj =>
      ⟨hf i j (by omega) (by omega), fun h => Classical.byContradiction fun hn => hno ⟨i, j, by omega, by omega, h, hn⟩⟩
    rw [← num_of_ord od, ← num_of_ord oc]
    exact num_cong (by omega) hsame
  have hsub : ∀ i, i < m.facts.length → newP c i = true → newP d i = true := by
    intro i hi h
    unfold newP at h ⊢
    simp only [Bool.not_eq_true', decide_eq_false_iff_not] at h ⊢
    intro h1
    obtain ⟨a1, a2⟩ := idC_get (l := d) (k := i) (by omega)
    have := idC_le (l := c) (i := d.idxOf (d.getD i 0)) (x := c.getD i 0) (by omega) (hf _ i (by omega) hi a2)
    omega
  obtain ⟨i, j, hi, hj, h1, h2⟩ := hex
  -- the first world of i's class in c, and the first ones of i's and of j's classes in d
  obtain ⟨a1, a2⟩ := idC_get (l := c) (k := i) (by omega)
  obtain ⟨b1, b2⟩ := idC_get (l := d) (k := i) (by omega)
  obtain ⟨e1, e2⟩ := idC_get (l := d) (k := j) (by omega)
  have hr := idC_le (l := c) (i := d.idxOf (d.getD i 0)) (x := c.getD i 0) (by omega) (hf _ i (by omega) hi b2)
  have hs := idC_le (l := c) (i := d.idxOf (d.getD j 0)) (x := c.getD i 0) (by omega) ((hf _ j (by omega) hj e2).trans h1.symm)
  have hdiff : d.idxOf (d.getD i 0) ≠ d.idxOf (d.getD j 0) := fun h => h2 (by rw [← b2, ← e2, h])
  -- one of the two lies behind the first one of c
  have hone : ∃ t, t < m.facts.length ∧ newP d t = true ∧ newP c t = false := by
    have hnew : ∀ t, t < d.length → newP d (d.idxOf (d.getD t 0)) = true := fun t ht => by
      unfold newP
      obtain ⟨f1, f2⟩ := idC_get (l := d) (k := t) ht
      rw [f2]
      simp
    have hold : ∀ t, t < c.length → c.getD t 0 = c.getD i 0 → c.idxOf (c.getD i 0) < t → newP c t = false := fun t ht h3 h4 => by
      unfold newP
      rw [h3, decide_eq_true h4]; rfl
    rcases Nat.lt_or_ge (c.idxOf (c.getD i 0)) (d.idxOf (d.getD i 0)) with h3 | h3
    · exact ⟨_, by omega, hnew i (by omega), hold _ (by omega) (hf _ i (by omega) hi b2) h3⟩
    · exact ⟨_, by omega, hnew j (by omega), hold _ (by omega) ((hf _ j (by omega) hj e2).trans h1.symm) (by omega)⟩
  obtain ⟨t, ht, q1, q2⟩ := hone
  have hp : ∀ i, (newP c i && decide (i < m.facts.length)) = true → (newP d i && decide (i < m.facts.length)) = true := fun i h => by
    rw [Bool.and_eq_true, decide_eq_true_eq] at h ⊢
    exact ⟨hsub i h.2 h.1, h.2⟩
  have hlt := lst_lt hp (n := m.facts.length) ht (by rw [q1]; simp [ht]) (by rw [q2]; rfl)
  have hcut : ∀ p : Nat → Bool, lst (fun i => p i && decide (i < m.facts.length)) m.facts.length = lst p m.facts.length := fun p => lst_congr fun i hi => by simp [hi]
  rw [hcut, hcut] at hlt
  exact hlt
theorem finer_fine {m : Md} {c : List Int} {v w : Nat} (hv : v < m.facts.length) (hw : w < m.facts.length) (h : (finer m c).getD v 0 = (finer m c).getD w 0) : c.getD v 0 = c.getD w 0 := (tog_iff.1 ((finer_same hv hw).1 h)).1
/-- while the classes change there are more and more of them -/
theorem clsAt_grow {m : Md} (h1 : 1 ≤ m.facts.length) : ∀ j, (∀ i, i < j → clsAt m (i + 1) ≠ clsAt m i) → j + 1 ≤ cntC m (clsAt m j)
  | 0, _ => by
    have : newP (clsAt m 0) 0 = true := by unfold newP; simp
    have := lst_lt (p := fun _ => false) (q := newP (clsAt m 0)) (fun i h => by cases h) (n := m.facts.length) (j := 0) (by omega) this rfl
    unfold cntC
    omega
  | j + 1, h => by
    have ih := clsAt_grow h1 j (fun i hi => h i (by omega))
    have := cnt_lt (clsAt_len m j) (clsAt_len m (j + 1)) (clsAt_ord m j) (clsAt_ord m (j + 1)) (fun i k hi hk e => finer_fine hi hk e) (h j (by omega))
    omega
theorem clsAt_ends {m : Md} (h1 : 1 ≤ m.facts.length) {j : Nat} (h : ∀ i, i < j → clsAt m (i + 1) ≠ clsAt m i) : j + 1 ≤ m.facts.length := Nat.le_trans (clsAt_grow h1 j h) (cntC_le _ _)
/-- the first step behind which nothing changes -/
def stab (m : Md) : Nat := ((List.range m.facts.length).find? fun j => decide (clsAt m (j + 1) = clsAt m j)).getD 0
theorem stab_at {m : Md} (h1 : 1 ≤ m.facts.length) {j : Nat} (h : ∀ i, i < j → clsAt m (i + 1) ≠ clsAt m i) (hs : clsAt m (j + 1) = clsAt m j) : stab m = j := by
  have hj := clsAt_ends h1 h
  unfold stab
  have : (List.range m.facts.length).find? (fun j => decide (clsAt m (j + 1) = clsAt m j)) = some j := by
    rw [List.find?_eq_some_iff_append]
    refine ⟨decide_eq_true hs, List.range j, (List.range (m.facts.length - j - 1)).map (· + (j + 1)), ?_, fun i hi => ?_⟩
    · apply List.ext_getElem?
      intro i
      rcases Nat.lt_trichotomy i j with h3 | h3 | h3
      · rw [List.getElem?_append_left (by simpa using h3), List.getElem?_range h3, List.getElem?_range (by omega)]
      · subst h3
        rw [List.getElem?_append_right (by simp), List.length_range, Nat.sub_self, List.getElem?_cons_zero, List.getElem?_range (by omega)]
      · obtain ⟨d, rfl⟩ : ∃ d, i = j + 1 + d := ⟨i - (j + 1), by omega⟩
        rw [List.getElem?_append_right (by simp; omega), List.length_range, show j + 1 + d - j = d + 1 by omega, List.getElem?_cons_succ, List.getElem?_map]
        rcases Nat.lt_or_ge (j + 1 + d) m.facts.length with h4 | h4
        · rw [List.getElem?_range h4, List.getElem?_range (by omega)]
          simp; omega
        · rw [List.getElem?_eq_none (by simpa using h4), List.getElem?_eq_none (by simp; omega)]; rfl
    · simp [h i (List.mem_range.1 hi)]
  rw [this]; rfl
/-- the last classes -/
def lastC (m : Md) : List Int := clsAt m (stab m)
/-- what ClassesOf answers -/
def classR (m : Md) : List Int := if mdOk m then lastC m else []
theorem classR_len (m : Md) : (classR m).length ≤ 16 := by
  unfold classR
  split
  · rename_i h
    unfold lastC
    rw [clsAt_len]
    exact (mdOk_parts h).2.1
  · simp
end Go.Proofs.Ytodjohdbngbpaab

/-
  What is alike has the same truths: two models, worlds of which stand for each other. No program but its types' numbers.
-/
namespace Go.Proofs.Ytodjohdbngbpaab
open Go.RowKit Go.WideShapes
open Go Go.Deep
set_option linter.unusedSimpArgs false

/-- worlds of m stand for worlds of m' -/
structure Bis (m m' : Md) (Z : Nat → Nat → Prop) : Prop where
  agents : m.blocks.length = m'.blocks.length
  dom : ∀ v w, Z v w → v < m.facts.length ∧ w < m'.facts.length
  facts : ∀ v w, Z v w → m.facts.getD v 0 = m'.facts.getD w 0
  forth : ∀ v w k v', Z v w → k < m.blocks.length → v' < m.facts.length → sameW m k v' v = true → ∃ w', Z v' w' ∧ sameW m' k w' w = true
  back : ∀ v w k w', Z v w → k < m.blocks.length → w' < m'.facts.length → sameW m' k w' w = true → ∃ v', Z v' w' ∧ sameW m k v' v = true
theorem Bis.symm {m m' : Md} {Z : Nat → Nat → Prop} (h : Bis m m' Z) : Bis m' m (fun w v => Z v w) :=
  ⟨h.agents.symm, fun v w z => ⟨(h.dom _ _ z).2, (h.dom _ _ z).1⟩, fun v w z => (h.facts _ _ z).symm,
   fun v w k v' z hk hv hs => h.back w v k v' z (by rw [h.agents]; exact hk) hv hs, fun v w k w' z hk hw hs => h.forth w v k w' z (by rw [h.agents]; exact hk) hw hs⟩
theorem sameW_comm (m : Md) (k v w : Nat) : sameW m k v w = sameW m k w v := by unfold sameW; rw [Bool.eq_iff_iff]; simp only [beq_iff_eq]; exact eq_comm
theorem allW_iff {m : Md} {q : Nat → Bool} : allW m q = true ↔ ∀ v, v < m.facts.length → q v = true := by
  unfold allW; rw [List.all_eq_true]; exact ⟨fun h v hv => h v (List.mem_range.2 hv), fun h v hv => h v (List.mem_range.1 hv)⟩
theorem blockW_iff {m : Md} {k w : Nat} {al tr : Nat → Bool} {want : Bool} : blockW m k al tr w want = true ↔ ∀ v, v < m.facts.length → al v = true → sameW m k v w = true → tr v = want := by
  unfold blockW
  rw [allW_iff]
  constructor
  · intro h v hv ha hs
    have := h v hv
    rw [ha, hs] at this
    simpa using this
  · intro h v hv
    cases ha : al v with
    | false => simp
    | true =>
      cases hs : sameW m k v w with
      | false => simp
      | true => simp [h v hv ha hs]
theorem blockW_bis {m m' : Md} {Z : Nat → Nat → Prop} (h : Bis m m' Z) {al al' tr tr' : Nat → Bool} (ha : ∀ v w, Z v w → al v = al' w) (ht : ∀ v w, Z v w → tr v = tr' w) {k v w : Nat} (hk : k < m.blocks.length) (z : Z v w) (want : Bool) :
    blockW m k al tr v want = blockW m' k al' tr' w want := by
  rw [Bool.eq_iff_iff, blockW_iff, blockW_iff]
  constructor
  · intro hb w' hw' hal hs
    obtain ⟨v', z', hs'⟩ := h.back v w k w' z hk hw' hs
    rw [← ht v' w' z']
    exact hb v' (h.dom _ _ z').1 (by rw [ha v' w' z']; exact hal) hs'
  · intro hb v' hv' hal hs
    obtain ⟨w', z', hs'⟩ := h.forth v w k v' z hk hv' hs
    rw [ht v' w' z']
    exact hb w' (h.dom _ _ z').2 (by rw [← ha v' w' z']; exact hal) hs'
theorem stepA_iff {m : Md} {al : Nat → Bool} {i j : Nat} : stepA m al i j = true ↔ i < m.facts.length ∧ j < m.facts.length ∧ al j = true ∧ ∃ k, k < m.blocks.length ∧ sameW m k i j = true := by
  unfold stepA
  rw [near_same, Bool.and_eq_true, Bool.and_eq_true, Bool.and_eq_true, decide_eq_true_eq, decide_eq_true_eq, List.any_eq_true]
  constructor
  · rintro ⟨⟨⟨h1, h2⟩, h3⟩, k, hk, h4⟩
    exact ⟨h1, h2, h3, k, List.mem_range.1 hk, h4⟩
  · rintro ⟨h1, h2, h3, k, hk, h4⟩
    exact ⟨⟨⟨h1, h2⟩, h3⟩, k, List.mem_range.2 hk, h4⟩
open Classical in
theorem reach_bis {m m' : Md} {Z : Nat → Nat → Prop} (h : Bis m m' Z) {al al' : Nat → Bool} (ha : ∀ v w, Z v w → al v = al' w) {v w v' : Nat} (z : Z v w) (hr : reachA m al v v' = true) : ∃ w', Z v' w' ∧ reachA m' al' w w' = true := by
  have key : decide (∃ w', Z v' w' ∧ reachA m' al' w w' = true) = true := by
    refine wsh_least (r := stepA m al) (T := fun j => decide (∃ w', Z j w' ∧ reachA m' al' w w' = true)) (fun i j hi hs => ?_) (decide_eq_true ⟨w, z, wsh_refl _ _ _⟩) hr
    obtain ⟨w1, z1, hr1⟩ := of_decide_eq_true hi
    obtain ⟨s1, s2, s3, k, hk, s4⟩ := stepA_iff.1 hs
    obtain ⟨w2, z2, hs2⟩ := h.forth i w1 k j z1 hk s2 (by rw [sameW_comm]; exact s4)
    refine decide_eq_true ⟨w2, z2, wsh_more (fun _ _ => stepA_in) hr1 (stepA_iff.2 ⟨(h.dom _ _ z1).2, (h.dom _ _ z2).2, by rw [← ha j w2 z2]; exact s3, k, by rw [← h.agents]; exact hk, by rw [sameW_comm]; exact hs2⟩)⟩
  exact of_decide_eq_true key
theorem reachW_bis {m m' : Md} {Z : Nat → Nat → Prop} (h : Bis m m' Z) {al al' tr tr' : Nat → Bool} (ha : ∀ v w, Z v w → al v = al' w) (ht : ∀ v w, Z v w → tr v = tr' w) {v w : Nat} (z : Z v w) :
    allW m (fun x => !reachA m al v x || tr x) = allW m' (fun x => !reachA m' al' w x || tr' x) := by
  have half : ∀ {m m' : Md} {Z : Nat → Nat → Prop} (_ : Bis m m' Z) {al al' tr tr' : Nat → Bool} (_ : ∀ v w, Z v w → al v = al' w) (_ : ∀ v w, Z v w → tr v = tr' w) {v w : Nat} (_ : Z v w),
      allW m' (fun x => !reachA m' al' w x || tr' x) = true → allW m (fun x => !reachA m al v x || tr x) = true := by
    intro m m' Z h al al' tr tr' ha ht v w z hb
    rw [allW_iff] at hb ⊢
    intro x _
    cases hr : reachA m al v x with
    | false => rfl
    | true =>
      obtain ⟨y, zy, hy⟩ := reach_bis h ha z hr
      have := hb y (h.dom _ _ zy).2
      rw [hy] at this
      rw [ht x y zy]
      simpa using this
  rw [Bool.eq_iff_iff]
  exact ⟨half h.symm (fun a b z => (ha b a z).symm) (fun a b z => (ht b a z).symm) z, half h ha ht z⟩
/-- a formula is true in what is alike -/
theorem evS_bis {m m' : Md} {Z : Nat → Nat → Prop} (h : Bis m m' Z) : ∀ (t : Tm), t.wf → tag t m.blocks.length → ∀ (al al' : Nat → Bool), (∀ v w, Z v w → al v = al' w) → ∀ v w, Z v w → evS t m al v = evS t m' al' w
  | .leaf op n, _, _, al, al', ha, v, w, z => by
    unfold evS; rw [ha v w z, h.facts v w z]
  | .deny a, hw, ht, al, al', ha, v, w, z => by
    have ih := evS_bis h a hw ht al al' ha
    show (al v && !evS a m al v) = (al' w && !evS a m' al' w)
    rw [ha v w z, ih v w z]
  | .know op n a, hw, ht, al, al', ha, v, w, z => by
    have ih := evS_bis h a hw.2.2.2 ht.2 al al' ha
    show (al v && (if op = 5 then blockW m n.toNat al (evS a m al) v true else if op = 6 then blockW m n.toNat al (evS a m al) v (evS a m al v)
      else if op = 7 then (List.range m.blocks.length).all fun k => blockW m k al (evS a m al) v true else allW m fun x => !reachA m al v x || evS a m al x))
      = (al' w && (if op = 5 then blockW m' n.toNat al' (evS a m' al') w true else if op = 6 then blockW m' n.toNat al' (evS a m' al') w (evS a m' al' w)
      else if op = 7 then (List.range m'.blocks.length).all fun k => blockW m' k al' (evS a m' al') w true else allW m' fun x => !reachA m' al' w x || evS a m' al' x))
    rw [ha v w z]
    by_cases h5 : op = 5
    · rw [if_pos h5, if_pos h5, blockW_bis h ha ih (by have := ht.1 (.inl h5); have := hw.2.1; omega) z]
    rw [if_neg h5, if_neg h5]
    by_cases h6 : op = 6
    · rw [if_pos h6, if_pos h6, blockW_bis h ha ih (by have := ht.1 (.inr h6); have := hw.2.1; omega) z, ih v w z]
    rw [if_neg h6, if_neg h6]
    by_cases h7 : op = 7
    · rw [if_pos h7, if_pos h7, ← h.agents]
      congr 1
      rw [Bool.eq_iff_iff, List.all_eq_true, List.all_eq_true]
      exact ⟨fun hb k hk => by rw [← blockW_bis h ha ih (List.mem_range.1 hk) z]; exact hb k hk, fun hb k hk => by rw [blockW_bis h ha ih (List.mem_range.1 hk) z]; exact hb k hk⟩
    · rw [if_neg h7, if_neg h7, reachW_bis h ha ih z]
  | .joint op a b, hw, ht, al, al', ha, v, w, z => by
    have iha := evS_bis h a hw.2.1 ht.1 al al' ha
    show (al v && (if op = 4 then evS a m al v && evS b m al v else !evS a m al v || evS b m (fun v => al v && evS a m al v) v))
      = (al' w && (if op = 4 then evS a m' al' w && evS b m' al' w else !evS a m' al' w || evS b m' (fun v => al' v && evS a m' al' v) w))
    rw [ha v w z, iha v w z]
    by_cases h4 : op = 4
    · rw [if_pos h4, if_pos h4, evS_bis h b hw.2.2 ht.2 al al' ha v w z]
    · rw [if_neg h4, if_neg h4, evS_bis h b hw.2.2 ht.2 (fun v => al v && evS a m al v) (fun v => al' v && evS a m' al' v) (fun v w z => by rw [ha v w z, iha v w z]) v w z]
/-- a formula is true in what is alike: the program's way -/
theorem evI_bis {m m' : Md} {Z : Nat → Nat → Prop} (h : Bis m m' Z) (hn : m.facts.length ≤ 16) (hn' : m'.facts.length ≤ 16) {t : Tm} (hw : t.wf) (ht : tag t m.blocks.length) {v w : Nat} (z : Z v w) : evI t m v = evI t m' w := by
  obtain ⟨hv, hw'⟩ := h.dom v w z
  have g : ∀ n i, i < n → (List.range n).getD i 0 = i := fun n i hi => by rw [List.getD_eq_getElem?_getD, List.getElem?_range hi]; rfl
  rw [ev_rel t m m (List.range m.facts.length) hw ht (Rel.self hn) v (by simpa using hv), ev_rel t m' m' (List.range m'.facts.length) hw (by rw [← h.agents]; exact ht) (Rel.self hn') w (by simpa using hw'), g _ _ hv, g _ _ hw']
  refine evS_bis h t hw ht _ _ (fun a b zab => ?_) v w z
  obtain ⟨h1, h2⟩ := h.dom a b zab
  unfold memN
  rw [decide_eq_true (List.mem_range.2 h1), decide_eq_true (List.mem_range.2 h2)]
/-- worlds of one class are alike -/
theorem bis_class {m : Md} {c : List Int} (hs : ∀ v w, v < m.facts.length → w < m.facts.length → c.getD v 0 = c.getD w 0 → tog m c v w = true) (hf : ∀ v w, v < m.facts.length → w < m.facts.length → c.getD v 0 = c.getD w 0 → m.facts.getD v 0 = m.facts.getD w 0)
    (hb : ∀ v, v < m.facts.length → 0 ≤ c.getD v 0 ∧ c.getD v 0 < m.facts.length) : Bis m m (fun v w => v < m.facts.length ∧ w < m.facts.length ∧ c.getD v 0 = c.getD w 0) := by
  have half : ∀ v w k v', (v < m.facts.length ∧ w < m.facts.length ∧ c.getD v 0 = c.getD w 0) → k < m.blocks.length → v' < m.facts.length → sameW m k v' v = true → ∃ w', (v' < m.facts.length ∧ w' < m.facts.length ∧ c.getD v' 0 = c.getD w' 0) ∧ sameW m k w' w = true := by
    rintro v w k v' ⟨h1, h2, h3⟩ hk hv' hsv
    obtain ⟨b0, b1⟩ := hb v' hv'
    have ht := (tog_iff.1 (hs v w h1 h2 h3)).2 k hk (c.getD v' 0).toNat (by omega)
    have hset : setB m c k v (c.getD v' 0).toNat = true := by
      unfold setB
      rw [List.any_eq_true]
      refine ⟨v', List.mem_range.2 hv', ?_⟩
      unfold sameW at hsv
      rw [hsv, Int.toNat_of_nonneg b0]
      simp
    rw [ht] at hset
    unfold setB at hset
    rw [List.any_eq_true] at hset
    obtain ⟨w', hw', hx⟩ := hset
    rw [Bool.and_eq_true, Int.toNat_of_nonneg b0, beq_iff_eq, beq_iff_eq] at hx
    exact ⟨w', ⟨hv', List.mem_range.1 hw', hx.2.symm⟩, by unfold sameW; rw [hx.1]; simp⟩
  refine ⟨rfl, fun v w z => ⟨z.1, z.2.1⟩, fun v w z => hf v w z.1 z.2.1 z.2.2, half, fun v w k w' z hk hw' hsw => ?_⟩
  obtain ⟨v', z', h'⟩ := half w v k w' ⟨z.2.1, z.1, z.2.2.symm⟩ hk hw' hsw
  exact ⟨v', ⟨z'.2.1, z'.1, z'.2.2.symm⟩, h'⟩
/-- the last classes stay as they are -/
theorem lastC_stable {m : Md} (h1 : 1 ≤ m.facts.length) : finer m (lastC m) = lastC m := by
  unfold lastC stab
  cases hf : (List.range m.facts.length).find? fun j => decide (clsAt m (j + 1) = clsAt m j) with
  | none =>
    exfalso
    have hno := List.find?_eq_none.1 hf
    have := clsAt_ends h1 (j := m.facts.length) (fun i hi he => hno i (List.mem_range.2 hi) (decide_eq_true he))
    omega
  | some j =>
    have := of_decide_eq_true (List.find?_some (p := fun j => decide (clsAt m (j + 1) = clsAt m j)) hf)
    exact this
theorem lastC_len (m : Md) : (lastC m).length = m.facts.length := clsAt_len _ _
theorem lastC_ord (m : Md) : ordOk (lastC m) = true := clsAt_ord _ _
theorem clsAt_facts (m : Md) : ∀ j v w, v < m.facts.length → w < m.facts.length → (clsAt m j).getD v 0 = (clsAt m j).getD w 0 → m.facts.getD v 0 = m.facts.getD w 0
  | 0, _, _, hv, hw, h => (num_same m.facts hv hw).2 h
  | j + 1, v, w, hv, hw, h => clsAt_facts m j v w hv hw (finer_fine hv hw h)
theorem lastC_tog {m : Md} (h1 : 1 ≤ m.facts.length) {v w : Nat} (hv : v < m.facts.length) (hw : w < m.facts.length) (h : (lastC m).getD v 0 = (lastC m).getD w 0) : tog m (lastC m) v w = true := by
  rw [← finer_same hv hw, lastC_stable h1]; exact h
/-- worlds of one of the last classes are alike -/
theorem bis_last {m : Md} (h1 : 1 ≤ m.facts.length) : Bis m m (fun v w => v < m.facts.length ∧ w < m.facts.length ∧ (lastC m).getD v 0 = (lastC m).getD w 0) :=
  bis_class (fun _ _ hv hw h => lastC_tog h1 hv hw h) (fun v w hv hw h => clsAt_facts m _ v w hv hw h) (fun _ hv => clsAt_bd hv)
end Go.Proofs.Ytodjohdbngbpaab

/-
  The least equal model and the model of two, in mathematics. No program but its types' numbers.
-/
namespace Go.Proofs.Ytodjohdbngbpaab
open Go.RowKit Go.WideShapes
open Go Go.Deep
set_option linter.unusedSimpArgs false

/-- the first worlds of the classes -/
def firstsC (c : List Int) : List Nat := lst (newP c) c.length
theorem ord_new {c : List Int} (hc : ordOk c = true) {i : Nat} (hi : i < c.length) (h : newP c i = true) : c.getD i 0 = ((lst (newP c) i).length : Int) := by
  unfold ordOk at hc
  have ho : ordTo c (i + 1) := fun j hj => (of_decide_eq_true hc) j (by omega)
  have he := (ord_num c (i + 1) (by omega)).1.1 ho
  have hn : ¬ c.idxOf (c.getD i 0) < i := by unfold newP at h; simpa using h
  rw [numS, if_neg hn] at he
  have h2 : (c.take (i + 1)).getD i 0 = c.getD i 0 := by
    rw [List.getD_eq_getElem?_getD, List.getElem?_take_of_lt (by omega), ← List.getD_eq_getElem?_getD]
  rw [← h2, ← he, getD_last (numS_len c i).symm, numS_new]
theorem lst_at {p : Nat → Bool} {n w : Nat} (hp : p w = true) (hw : w < n) : (lst p w).length < (lst p n).length ∧ (lst p n).getD (lst p w).length 0 = w := by
  obtain ⟨r, h⟩ := lst_pre p (w + 1) (n - (w + 1))
  have h2 := lst_succ p w
  rw [if_pos hp] at h2
  rw [show w + 1 + (n - (w + 1)) = n by omega, h2] at h
  rw [h]
  refine ⟨by simp, ?_⟩
  rw [List.getD_eq_getElem?_getD, List.append_assoc, List.getElem?_append_right (Nat.le_refl _), Nat.sub_self]; rfl
theorem new_first {c : List Int} {v : Nat} (hv : v < c.length) : newP c (c.idxOf (c.getD v 0)) = true := by
  obtain ⟨a1, a2⟩ := idC_get hv
  unfold newP
  rw [a2]; simp
/-- the class of a world is the place of its first world -/
theorem first_of {c : List Int} (hc : ordOk c = true) {v : Nat} (hv : v < c.length) : ∃ a : Nat, c.getD v 0 = (a : Int) ∧ a < (firstsC c).length ∧ (firstsC c).getD a 0 = c.idxOf (c.getD v 0) := by
  obtain ⟨a1, a2⟩ := idC_get hv
  have hn := new_first hv
  have h1 := ord_new hc a1 hn
  obtain ⟨h2, h3⟩ := lst_at hn a1
  exact ⟨_, a2.symm.trans h1, h2, h3⟩
theorem first_in {c : List Int} (hc : ordOk c = true) {a : Nat} (ha : a < (firstsC c).length) : (firstsC c).getD a 0 < c.length ∧ c.getD ((firstsC c).getD a 0) 0 = (a : Int) := by
  have hm : (firstsC c).getD a 0 ∈ firstsC c := by rw [List.getD_eq_getElem?_getD, List.getElem?_eq_getElem ha]; exact List.getElem_mem _
  obtain ⟨h1, h2⟩ := mem_lst.1 hm
  have h3 := ord_new hc h1 h2
  obtain ⟨h4, h5⟩ := lst_at h2 h1
  have h6 : (lst (newP c) ((firstsC c).getD a 0)).length = a := nodup_getD (lst_nodup _ _) h4 ha h5
  exact ⟨h1, by rw [h3, h6]⟩
theorem firsts_len (c : List Int) : (firstsC c).length ≤ c.length := lst_len _ _
theorem firsts_pos {c : List Int} (hc : ordOk c = true) (h : 1 ≤ c.length) : 1 ≤ (firstsC c).length := by
  obtain ⟨a, _, h2, _⟩ := first_of hc (v := 0) (by omega)
  omega

/-- what is linked is the same for all worlds of a class -/
structure Equ (r : Nat → Nat → Bool) (N : Nat) : Prop where
  refl : ∀ a, a < N → r a a = true
  symm : ∀ a b, a < N → b < N → r a b = true → r b a = true
  trans : ∀ a b d, a < N → b < N → d < N → r a b = true → r b d = true → r a d = true
/-- the first one that is linked -/
def minL (r : Nat → Nat → Bool) (a : Nat) : Nat := ((List.range a).find? fun b => r a b).getD a
theorem minL_le (r : Nat → Nat → Bool) (a : Nat) : minL r a ≤ a := by
  unfold minL
  cases h : (List.range a).find? fun b => r a b with
  | none => exact Nat.le_refl _
  | some v => exact Nat.le_of_lt (List.mem_range.1 (List.mem_of_find?_eq_some h))
theorem minL_link {r : Nat → Nat → Bool} {N : Nat} (e : Equ r N) {a : Nat} (ha : a < N) : r a (minL r a) = true := by
  unfold minL
  cases h : (List.range a).find? fun b => r a b with
  | none => exact e.refl a ha
  | some v => exact (List.find?_some (p := fun b => r a b) h : _)
theorem minL_min {r : Nat → Nat → Bool} {a b : Nat} (h : r a b = true) : minL r a ≤ b := by
  rcases Nat.lt_or_ge b (minL r a) with h1 | h1
  · exfalso
    have hba : b < a := Nat.lt_of_lt_of_le h1 (minL_le r a)
    unfold minL at h1
    cases hf : (List.range a).find? fun b => r a b with
    | none =>
      have := List.find?_eq_none.1 hf b (List.mem_range.2 hba)
      exact this h
    | some u =>
      rw [hf] at h1
      simp only [Option.getD_some] at h1
      obtain ⟨_, us, bs, hab, hno⟩ := List.find?_eq_some_iff_append.1 hf
      have hlen : us.length = u := by
        have := congrArg (fun l => l[us.length]?) hab
        simp only [List.getElem?_append_right (Nat.le_refl _), Nat.sub_self, List.getElem?_cons_zero] at this
        have hlt : us.length < (List.range a).length := by rw [hab]; simp
        rw [List.length_range] at hlt
        rw [List.getElem?_range hlt] at this
        exact Option.some.inj this
      have hva : b ∈ us := by
        have h2 : (List.range a)[b]? = some b := List.getElem?_range hba
        rw [hab, List.getElem?_append_left (by omega)] at h2
        exact List.mem_of_getElem? h2
      have := hno b hva
      rw [h] at this
      simp at this
  · exact h1
theorem minL_lt {r : Nat → Nat → Bool} {N a : Nat} (ha : a < N) : minL r a < N := Nat.lt_of_le_of_lt (minL_le r a) ha
theorem minL_same {r : Nat → Nat → Bool} {N : Nat} (e : Equ r N) {a b : Nat} (ha : a < N) (hb : b < N) : minL r a = minL r b ↔ r a b = true := by
  constructor
  · intro h
    have h1 := minL_link e ha
    rw [h] at h1
    exact e.trans a _ b ha (minL_lt hb) hb h1 (e.symm b _ hb (minL_lt hb) (minL_link e hb))
  · intro h
    have h1 := minL_min (e.trans a b _ ha hb (minL_lt hb) h (minL_link e hb))
    have h2 := minL_min (e.trans b a _ hb ha (minL_lt ha) (e.symm a b ha hb h) (minL_link e ha))
    omega
/-- the number of a linked one that came before, the last one wins -/
def goB (s : Nat → Bool) (l : List Int) (k : Int) : Nat → Int
  | 0 => k
  | J + 1 => if s J then l.getD J 0 else goB s l k J
theorem goB_min {r : Nat → Nat → Bool} {N : Nat} (e : Equ r N) {k : Nat} (hk : k < N) {l : List Int} (hl : ∀ j, j < k → l.getD j 0 = ((minL r j : Nat) : Int)) : goB (r k) l (k : Int) k = ((minL r k : Nat) : Int) := by
  have key : ∀ J, J ≤ k → ((∃ j, j < J ∧ r k j = true) → goB (r k) l (k : Int) J = ((minL r k : Nat) : Int)) ∧ ((∀ j, j < J → r k j = false) → goB (r k) l (k : Int) J = (k : Int)) := by
    intro J
    induction J with
    | zero => intro _; exact ⟨fun ⟨j, hj, _⟩ => by omega, fun _ => rfl⟩
    | succ J ih =>
      intro hJ
      obtain ⟨i1, i2⟩ := ih (by omega)
      unfold goB
      cases h : r k J with
      | true =>
        refine ⟨fun _ => ?_, fun h2 => by have := h2 J (by omega); rw [h] at this; cases this⟩
        rw [if_pos rfl, hl J (by omega), (minL_same e (a := J) (b := k) (by omega) hk).2 (e.symm k J hk (by omega) h)]
      | false =>
        rw [if_neg (by decide)]
        refine ⟨fun ⟨j, hj, hr⟩ => i1 ⟨j, ?_, hr⟩, fun h2 => i2 fun j hj => h2 j (by omega)⟩
        rcases Nat.lt_or_eq_of_le (Nat.le_of_lt_succ hj) with h3 | h3
        · exact h3
        · subst h3; rw [h] at hr; cases hr
  obtain ⟨h1, h2⟩ := key k (Nat.le_refl _)
  by_cases hex : ∃ j, j < k ∧ r k j = true
  · exact h1 hex
  · have hno : ∀ j, j < k → r k j = false := fun j hj => by
      cases h : r k j with
      | true => exact absurd ⟨j, hj, h⟩ hex
      | false => rfl
    rw [h2 hno]
    have : minL r k = k := by
      rcases Nat.lt_or_ge (minL r k) k with h | h
      · have := hno _ h
        rw [minL_link e hk] at this; cases this
      · have := minL_le r k; omega
    rw [this]

/-- two classes have worlds in one block -/
def linkC (m : Md) (c : List Int) (k a b : Nat) : Bool := setB m c k ((firstsC c).getD a 0) b
def linkL (m : Md) (c : List Int) (k : Nat) : List Int := (List.range (firstsC c).length).map fun a => ((minL (linkC m c k) a : Nat) : Int)
theorem linkL_len (m : Md) (c : List Int) (k : Nat) : (linkL m c k).length = (firstsC c).length := by simp [linkL]
theorem linkL_get {m : Md} {c : List Int} {k a : Nat} (h : a < (firstsC c).length) : (linkL m c k).getD a 0 = ((minL (linkC m c k) a : Nat) : Int) := by
  unfold linkL; rw [List.getD_eq_getElem?_getD, List.getElem?_map, List.getElem?_range h]; rfl
theorem setB_in {m : Md} {c : List Int} {k w x : Nat} : setB m c k w x = true ↔ ∃ v, v < m.facts.length ∧ sameW m k v w = true ∧ c.getD v 0 = (x : Int) := by
  unfold setB sameW
  rw [List.any_eq_true]
  constructor
  · rintro ⟨v, hv, h⟩
    rw [Bool.and_eq_true, beq_iff_eq, beq_iff_eq] at h
    exact ⟨v, List.mem_range.1 hv, by rw [h.1]; simp, h.2⟩
  · rintro ⟨v, hv, h, h2⟩
    rw [beq_iff_eq] at h
    exact ⟨v, List.mem_range.2 hv, by rw [h, h2]; simp⟩
theorem sameW_trans {m : Md} {k u v w : Nat} (h : sameW m k u v = true) (h2 : sameW m k v w = true) : sameW m k u w = true := by
  unfold sameW at *; rw [beq_iff_eq] at *; exact h.trans h2
/-- the classes keep together what they should -/
structure Stable (m : Md) (c : List Int) : Prop where
  len : c.length = m.facts.length
  ord : ordOk c = true
  tog : ∀ v w, v < m.facts.length → w < m.facts.length → c.getD v 0 = c.getD w 0 → tog m c v w = true
theorem stable_last {m : Md} (h1 : 1 ≤ m.facts.length) : Stable m (lastC m) := ⟨lastC_len m, lastC_ord m, fun _ _ hv hw h => lastC_tog h1 hv hw h⟩
theorem Stable.set {m : Md} {c : List Int} (s : Stable m c) {k v w x : Nat} (hk : k < m.blocks.length) (hv : v < m.facts.length) (hw : w < m.facts.length) (hx : x < m.facts.length) (e : c.getD v 0 = c.getD w 0) (h : setB m c k v x = true) : setB m c k w x = true := by
  rw [← (tog_iff.1 (s.tog v w hv hw e)).2 k hk x hx]; exact h
theorem Stable.equ {m : Md} {c : List Int} (s : Stable m c) {k : Nat} (hk : k < m.blocks.length) : Equ (linkC m c k) (firstsC c).length := by
  have hF : ∀ {a : Nat}, a < (firstsC c).length → (firstsC c).getD a 0 < m.facts.length ∧ c.getD ((firstsC c).getD a 0) 0 = (a : Int) ∧ a < m.facts.length := fun {a} ha => by
    obtain ⟨h1, h2⟩ := first_in s.ord ha
    have := firsts_len c
    rw [s.len] at h1 this
    exact ⟨h1, h2, by omega⟩
  refine ⟨fun a ha => ?_, fun a b ha hb h => ?_, fun a b d ha hb hd h h' => ?_⟩
  · obtain ⟨h1, h2, _⟩ := hF ha
    exact setB_in.2 ⟨_, h1, by unfold sameW; simp, h2⟩
  · obtain ⟨a1, a2, a3⟩ := hF ha
    obtain ⟨b1, b2, b3⟩ := hF hb
    obtain ⟨v, hv, h1, h2⟩ := setB_in.1 h
    refine s.set hk hv b1 a3 (by rw [h2, b2]) (setB_in.2 ⟨_, a1, by rw [sameW_comm]; exact h1, a2⟩)
  · obtain ⟨a1, a2, a3⟩ := hF ha
    obtain ⟨b1, b2, b3⟩ := hF hb
    obtain ⟨d1, d2, d3⟩ := hF hd
    obtain ⟨v, hv, h1, h2⟩ := setB_in.1 h
    obtain ⟨u, hu, h3, h4⟩ := setB_in.1 (s.set hk b1 hv d3 (by rw [h2, b2]) h')
    exact setB_in.2 ⟨u, hu, sameW_trans h3 h1, h4⟩
/-- any list with the same links has the same numbers -/
theorem Stable.num_link {m : Md} {c l : List Int} (s : Stable m c) {k : Nat} (hk : k < m.blocks.length) (hl : l.length = (firstsC c).length) (h : ∀ a b, a < (firstsC c).length → b < (firstsC c).length → (l.getD a 0 = l.getD b 0 ↔ linkC m c k a b = true)) : num l = num (linkL m c k) := by
  refine num_cong (by rw [hl, linkL_len]) fun a b ha hb => ?_
  rw [hl] at ha hb
  rw [h a b ha hb, linkL_get ha, linkL_get hb, ← minL_same (s.equ hk) ha hb]
  exact ⟨fun h => by rw [h], fun h => Int.ofNat.inj h⟩
/-- the least model of a model all of whose worlds are reached -/
def leastOf (m : Md) : Md := ⟨pick m.facts (firstsC (lastC m)), (List.range m.blocks.length).map fun k => num (linkL m (lastC m) k), (lastC m).getD m.actual.toNat 0⟩
theorem leastOf_row {m : Md} {k : Nat} (hk : k < m.blocks.length) : (leastOf m).blocks.getD k [] = num (linkL m (lastC m) k) := by
  unfold leastOf; rw [List.getD_eq_getElem?_getD, List.getElem?_map, List.getElem?_range hk]; rfl
theorem leastOf_same {m : Md} (h1 : 1 ≤ m.facts.length) {k a b : Nat} (hk : k < m.blocks.length) (ha : a < (firstsC (lastC m)).length) (hb : b < (firstsC (lastC m)).length) : sameW (leastOf m) k a b = linkC m (lastC m) k a b := by
  unfold sameW
  rw [leastOf_row hk, Bool.eq_iff_iff, beq_iff_eq, ← num_same _ (by rw [linkL_len]; exact ha) (by rw [linkL_len]; exact hb), linkL_get ha, linkL_get hb, ← minL_same ((stable_last h1).equ hk) ha hb]
  exact ⟨fun h => Int.ofNat.inj h, fun h => by rw [h]⟩
theorem leastOf_len (m : Md) : (leastOf m).facts.length = (firstsC (lastC m)).length := pick_len _ _
/-- a world is alike with its class -/
theorem bis_least {m : Md} (h1 : 1 ≤ m.facts.length) : Bis m (leastOf m) (fun v a => v < m.facts.length ∧ (lastC m).getD v 0 = (a : Int)) := by
  have s := stable_last h1
  have hcl : ∀ {v a : Nat}, v < m.facts.length → (lastC m).getD v 0 = (a : Int) → a < (firstsC (lastC m)).length ∧ (firstsC (lastC m)).getD a 0 < m.facts.length ∧ (lastC m).getD ((firstsC (lastC m)).getD a 0) 0 = (a : Int) := fun {v a} hv e => by
    obtain ⟨b, h2, h3, _⟩ := first_of s.ord (v := v) (by rw [s.len]; exact hv)
    have : b = a := by rw [e] at h2; exact (Int.ofNat.inj h2).symm
    subst this
    obtain ⟨h4, h5⟩ := first_in s.ord h3
    rw [s.len] at h4
    exact ⟨h3, h4, h5⟩
  refine ⟨by unfold leastOf; simp, fun v a ⟨hv, e⟩ => ⟨hv, by rw [leastOf_len]; exact (hcl hv e).1⟩, fun v a ⟨hv, e⟩ => ?_, ?_, ?_⟩
  · obtain ⟨h2, h3, h4⟩ := hcl hv e
    have : (leastOf m).facts.getD a 0 = m.facts.getD ((firstsC (lastC m)).getD a 0) 0 := by
      show (pick m.facts (firstsC (lastC m))).getD a 0 = _
      unfold pick
      rw [List.getD_eq_getElem?_getD, List.getElem?_map, List.getElem?_eq_getElem h2, List.getD_eq_getElem?_getD (l := firstsC (lastC m)), List.getElem?_eq_getElem h2]; rfl
    rw [this]
    exact clsAt_facts m _ v _ hv h3 (by show (lastC m).getD v 0 = (lastC m).getD _ 0; rw [e, h4])
  · rintro v a k v' ⟨hv, e⟩ hk hv' hs
    obtain ⟨h2, h3, h4⟩ := hcl hv e
    obtain ⟨a', e', h5, _⟩ := first_of s.ord (v := v') (by rw [s.len]; exact hv')
    have hl := firsts_len (lastC m)
    rw [s.len] at hl
    refine ⟨a', ⟨hv', e'⟩, ?_⟩
    rw [sameW_comm, leastOf_same h1 hk h2 h5]
    exact s.set hk hv h3 (by omega) (by rw [e, h4]) (setB_in.2 ⟨v', hv', hs, e'⟩)
  · rintro v a k a' ⟨hv, e⟩ hk ha' hs
    obtain ⟨h2, h3, h4⟩ := hcl hv e
    rw [leastOf_len] at ha'
    have hl := firsts_len (lastC m)
    rw [s.len] at hl
    rw [sameW_comm, leastOf_same h1 hk h2 ha'] at hs
    obtain ⟨v', hv', h6, h7⟩ := setB_in.1 (s.set hk h3 hv (by omega) (by rw [e, h4]) hs)
    exact ⟨v', ⟨hv', h7⟩, h6⟩
theorem leastOf_ok {m : Md} (hm : mdOk m = true) : mdOk (leastOf m) = true := by
  obtain ⟨p1, p2, p3, p4, p5, p6, p7, p8⟩ := mdOk_parts hm
  have s := stable_last (m := m) p1
  have hl := firsts_len (lastC m)
  have hp := firsts_pos s.ord (by rw [s.len]; exact p1)
  rw [s.len] at hl
  obtain ⟨a, h2, h3, _⟩ := first_of s.ord (v := m.actual.toNat) (by rw [s.len]; omega)
  rw [← specOk_mdOk]
  unfold specOk inB
  simp only [Bool.and_eq_true, decide_eq_true_eq, List.all_eq_true, List.mem_range, beq_iff_eq]
  have hbl : (leastOf m).blocks.length = m.blocks.length := by unfold leastOf; simp
  have hact : (leastOf m).actual = (a : Int) := h2
  rw [leastOf_len, hbl, hact]
  refine ⟨⟨⟨⟨⟨hp, by omega⟩, p3, p4⟩, by omega, by omega⟩, fun j hj => ?_⟩, fun k hk => ?_⟩
  · have e : (leastOf m).facts.getD j 0 = m.facts.getD ((firstsC (lastC m)).getD j 0) 0 := by
      show (pick m.facts (firstsC (lastC m))).getD j 0 = _
      unfold pick
      rw [List.getD_eq_getElem?_getD, List.getElem?_map, List.getElem?_eq_getElem hj, List.getD_eq_getElem?_getD (l := firstsC (lastC m)), List.getElem?_eq_getElem hj]; rfl
    rw [e]
    have := (first_in s.ord hj).1
    rw [s.len] at this
    exact p6 _ this
  · rw [leastOf_row hk]
    exact ⟨by rw [num_len, linkL_len], num_ord _⟩
/-- what LeastModel answers -/
def reachSet (m : Md) : List Nat := lst (reachB m.blocks m.facts.length m.blocks.length m.actual.toNat) 16
def leastR (m : Md) : Option Md := if mdOk m then some (leastOf (restM m (reachSet m))) else none
/-- what IsLeast answers -/
def isLeastR (m : Md) : Bool := mdOk m && ((List.range m.facts.length).all fun w => (lastC m).getD w 0 == (w : Int)) && ((reachSet m).length == m.facts.length)

/-- the model of the worlds of both -/
def bothRow (m n : Md) (k : Nat) : List Int := m.blocks.getD k [] ++ (n.blocks.getD k []).map (16 + ·)
def bothM (m n : Md) : Md := ⟨m.facts ++ n.facts, (List.range m.blocks.length).map fun k => num (bothRow m n k), m.actual⟩
theorem bothM_row {m n : Md} {k : Nat} (hk : k < m.blocks.length) : (bothM m n).blocks.getD k [] = num (bothRow m n k) := by
  unfold bothM; rw [List.getD_eq_getElem?_getD, List.getElem?_map, List.getElem?_range hk]; rfl
theorem both_ok {m n : Md} (hm : mdOk m = true) (hn : mdOk n = true) (hb : m.blocks.length = n.blocks.length) (hl : m.facts.length + n.facts.length ≤ 16) : mdOk (bothM m n) = true := by
  obtain ⟨p1, p2, p3, p4, p5, p6, p7, p8⟩ := mdOk_parts hm
  obtain ⟨q1, q2, q3, q4, q5, q6, q7, q8⟩ := mdOk_parts hn
  rw [← specOk_mdOk]
  unfold specOk inB
  simp only [Bool.and_eq_true, decide_eq_true_eq, List.all_eq_true, List.mem_range, beq_iff_eq]
  have hfl : (bothM m n).facts.length = m.facts.length + n.facts.length := by unfold bothM; simp
  have hbl : (bothM m n).blocks.length = m.blocks.length := by unfold bothM; simp
  rw [hfl, hbl]
  refine ⟨⟨⟨⟨⟨by omega, hl⟩, p3, p4⟩, p7, by show m.actual < _; omega⟩, fun j hj => ?_⟩, fun k hk => ?_⟩
  · show 0 ≤ (m.facts ++ n.facts).getD j 0 ∧ (m.facts ++ n.facts).getD j 0 < 16
    rcases Nat.lt_or_ge j m.facts.length with h | h
    · rw [List.getD_eq_getElem?_getD, List.getElem?_append_left h, ← List.getD_eq_getElem?_getD]
      exact p6 j h
    · rw [List.getD_eq_getElem?_getD, List.getElem?_append_right h, ← List.getD_eq_getElem?_getD]
      exact q6 _ (by omega)
  · rw [bothM_row hk]
    refine ⟨?_, num_ord _⟩
    rw [num_len]
    unfold bothRow
    rw [List.length_append, List.length_map, (p5 k hk).1, (q5 k (by omega)).1]
/-- what AreAlike answers -/
def alikeR (m n : Md) : Bool := mdOk m && mdOk n && (m.blocks.length == n.blocks.length) && decide (m.facts.length + n.facts.length ≤ 16) && ((lastC (bothM m n)).getD m.actual.toNat 0 == (lastC (bothM m n)).getD (m.facts.length + n.actual.toNat) 0)
end Go.Proofs.Ytodjohdbngbpaab
