/- ZBis -/
import Derived.Test.YtnpfnfenkklocaaGreatDoorZSem
set_option maxRecDepth 100000
set_option maxHeartbeats 64000000
namespace Go.Proofs.YtnpfnfenkklocaaGreatDoor
open Go.RowKit Go.WideShapes
open Go Go.Deep
set_option linter.unusedSimpArgs false
theorem idC_le {l : List Int} {i : Nat} {x : Int} (hi : i < l.length) (h : l.getD i 0 = x) : l.idxOf x ≤ i := by
  rcases Nat.lt_or_ge i (l.idxOf x) with h1 | h1
  · have h2 : (l[i] == x) = false := List.not_of_lt_findIdx h1
    rw [List.getD_eq_getElem?_getD, List.getElem?_eq_getElem hi] at h
    simp only [Option.getD_some] at h
    rw [h] at h2
    simp at h2
  · exact h1
theorem idC_get {l : List Int} {k : Nat} (hk : k < l.length) : l.idxOf (l.getD k 0) < l.length ∧ l.getD (l.idxOf (l.getD k 0)) 0 = l.getD k 0 := by
  have hm : l.getD k 0 ∈ l := by rw [List.getD_eq_getElem?_getD, List.getElem?_eq_getElem hk]; exact List.getElem_mem _
  generalize l.getD k 0 = x at *
  have h1 := List.idxOf_lt_length_of_mem hm
  refine ⟨h1, ?_⟩
  rw [List.getD_eq_getElem?_getD, List.getElem?_eq_getElem h1]
  exact List.getElem_idxOf h1
theorem idC_same {l l' : List Int} (hl : l.length = l'.length) (h : ∀ i j, i < l.length → j < l.length → (l.getD i 0 = l.getD j 0 ↔ l'.getD i 0 = l'.getD j 0)) {k : Nat} (hk : k < l.length) : l.idxOf (l.getD k 0) = l'.idxOf (l'.getD k 0) := by
  obtain ⟨a1, a2⟩ := idC_get hk
  obtain ⟨b1, b2⟩ := idC_get (l := l') (k := k) (by omega)
  have c1 := idC_le (l := l') (x := l'.getD k 0) (by omega) ((h _ k a1 hk).1 a2)
  have c2 := idC_le (l := l) (x := l.getD k 0) (by omega) ((h _ k (by omega) hk).2 b2)
  omega
theorem num_cong {l l' : List Int} (hl : l.length = l'.length) (h : ∀ i j, i < l.length → j < l.length → (l.getD i 0 = l.getD j 0 ↔ l'.getD i 0 = l'.getD j 0)) : num l = num l' := by
  have key : ∀ k, k ≤ l.length → numS l k = numS l' k := by
    intro k
    induction k with
    | zero => intro _; rfl
    | succ k ih =>
      intro hk
      rw [numS, numS, ih (by omega), idC_same hl h (by omega)]
  unfold num
  rw [key _ (Nat.le_refl _), hl]
def setB (m : Md) (c : List Int) (k w : Nat) : Nat → Bool := fun x => (List.range m.facts.length).any fun v => ((m.blocks.getD k []).getD v 0 == (m.blocks.getD k []).getD w 0) && (c.getD v 0 == (x : Int))
def eqN (n : Nat) (p q : Nat → Bool) : Bool := (List.range n).all fun x => p x == q x
theorem eqN_iff {n : Nat} {p q : Nat → Bool} : eqN n p q = true ↔ ∀ x, x < n → p x = q x := by
  unfold eqN; rw [List.all_eq_true]
  exact ⟨fun h x hx => by simpa using h x (List.mem_range.2 hx), fun h x hx => by simpa using h x (List.mem_range.1 hx)⟩
def tog (m : Md) (c : List Int) (v w : Nat) : Bool := (c.getD v 0 == c.getD w 0) && (List.range m.blocks.length).all fun k => eqN m.facts.length (setB m c k v) (setB m c k w)
theorem tog_iff {m : Md} {c : List Int} {v w : Nat} : tog m c v w = true ↔ c.getD v 0 = c.getD w 0 ∧ ∀ k, k < m.blocks.length → ∀ x, x < m.facts.length → setB m c k v x = setB m c k w x := by
  unfold tog
  rw [Bool.and_eq_true, List.all_eq_true, beq_iff_eq]
  exact ⟨fun h => ⟨h.1, fun k hk => eqN_iff.1 (h.2 k (List.mem_range.2 hk))⟩, fun h => ⟨h.1, fun k hk => eqN_iff.2 (h.2 k (List.mem_range.1 hk))⟩⟩
theorem tog_refl (m : Md) (c : List Int) (v : Nat) : tog m c v v = true := tog_iff.2 ⟨rfl, fun _ _ _ _ => rfl⟩
theorem tog_symm {m : Md} {c : List Int} {v w : Nat} (h : tog m c v w = true) : tog m c w v = true := by
  obtain ⟨h1, h2⟩ := tog_iff.1 h
  exact tog_iff.2 ⟨h1.symm, fun k hk x hx => (h2 k hk x hx).symm⟩
theorem tog_trans {m : Md} {c : List Int} {u v w : Nat} (h : tog m c u v = true) (h' : tog m c v w = true) : tog m c u w = true := by
  obtain ⟨h1, h2⟩ := tog_iff.1 h
  obtain ⟨h3, h4⟩ := tog_iff.1 h'
  exact tog_iff.2 ⟨h1.trans h3, fun k hk x hx => (h2 k hk x hx).trans (h4 k hk x hx)⟩
def rep (m : Md) (c : List Int) (w : Nat) : Nat := ((List.range w).find? fun v => tog m c v w).getD w
theorem rep_le (m : Md) (c : List Int) (w : Nat) : rep m c w ≤ w := by
  unfold rep
  cases h : (List.range w).find? fun v => tog m c v w with
  | none => exact Nat.le_refl _
  | some v => exact Nat.le_of_lt (List.mem_range.1 (List.mem_of_find?_eq_some h))
theorem rep_tog (m : Md) (c : List Int) (w : Nat) : tog m c (rep m c w) w = true := by
  unfold rep
  cases h : (List.range w).find? fun v => tog m c v w with
  | none => exact tog_refl _ _ _
  | some v => exact (List.find?_some (p := fun v => tog m c v w) h : _)
theorem rep_min {m : Md} {c : List Int} {v w : Nat} (h : tog m c v w = true) : rep m c w ≤ v := by
  rcases Nat.lt_or_ge v (rep m c w) with h1 | h1
  · exfalso
    have hvw : v < w := Nat.lt_of_lt_of_le h1 (rep_le m c w)
    unfold rep at h1
    cases hf : (List.range w).find? fun v => tog m c v w with
    | none =>
      have := List.find?_eq_none.1 hf v (List.mem_range.2 hvw)
      exact this h
    | some u =>
      rw [hf] at h1
      simp only [Option.getD_some] at h1
      obtain ⟨_, us, bs, hab, hno⟩ := List.find?_eq_some_iff_append.1 hf
      have hlen : us.length = u := by
        have := congrArg (fun l => l[us.length]?) hab
        simp only [List.getElem?_append_right (Nat.le_refl _), Nat.sub_self, List.getElem?_cons_zero] at this
        have hlt : us.length < (List.range w).length := by rw [hab]; simp
        rw [List.length_range] at hlt
        rw [List.getElem?_range hlt] at this
        exact Option.some.inj this
      have hva : v ∈ us := by
        have h2 : (List.range w)[v]? = some v := List.getElem?_range hvw
        rw [hab, List.getElem?_append_left (by omega)] at h2
        exact List.mem_of_getElem? h2
      have := hno v hva
      rw [h] at this
      simp at this
  · exact h1
theorem rep_same {m : Md} {c : List Int} {v w : Nat} : rep m c v = rep m c w ↔ tog m c v w = true := by
  constructor
  · intro h
    have h1 := rep_tog m c v
    rw [h] at h1
    exact tog_trans (tog_symm h1) (rep_tog m c w)
  · intro h
    have h1 := rep_min (tog_trans (rep_tog m c v) h)
    have h2 := rep_min (tog_trans (rep_tog m c w) (tog_symm h))
    omega
def repL (m : Md) (c : List Int) : List Int := (List.range m.facts.length).map fun w => ((rep m c w : Nat) : Int)
def finer (m : Md) (c : List Int) : List Int := num (repL m c)
theorem repL_len (m : Md) (c : List Int) : (repL m c).length = m.facts.length := by simp [repL]
theorem repL_get {m : Md} {c : List Int} {w : Nat} (h : w < m.facts.length) : (repL m c).getD w 0 = ((rep m c w : Nat) : Int) := by
  unfold repL; rw [List.getD_eq_getElem?_getD, List.getElem?_map, List.getElem?_range h]; rfl
theorem finer_len (m : Md) (c : List Int) : (finer m c).length = m.facts.length := by unfold finer; rw [num_len, repL_len]
theorem finer_ord (m : Md) (c : List Int) : ordOk (finer m c) = true := num_ord _
theorem finer_same {m : Md} {c : List Int} {v w : Nat} (hv : v < m.facts.length) (hw : w < m.facts.length) : (finer m c).getD v 0 = (finer m c).getD w 0 ↔ tog m c v w = true := by
  unfold finer
  rw [← num_same (repL m c) (by rw [repL_len]; exact hv) (by rw [repL_len]; exact hw), repL_get hv, repL_get hw, ← rep_same]
  exact ⟨fun h => Int.ofNat.inj h, fun h => by rw [h]⟩
theorem repL_idx {m : Md} {c : List Int} {w : Nat} (h : w < m.facts.length) : (repL m c).idxOf ((repL m c).getD w 0) = rep m c w := by
  have hr : rep m c w < m.facts.length := Nat.lt_of_le_of_lt (rep_le m c w) h
  obtain ⟨a1, a2⟩ := idC_get (l := repL m c) (k := w) (by rw [repL_len]; exact h)
  have h1 := idC_le (l := repL m c) (i := rep m c w) (x := (repL m c).getD w 0) (by rw [repL_len]; exact hr) (by
    rw [repL_get hr, repL_get h]
    have := rep_same.2 (rep_tog m c w)
    rw [this])
  rw [repL_len] at a1
  generalize (repL m c).idxOf ((repL m c).getD w 0) = j at *
  rw [repL_get a1, repL_get h] at a2
  have h2 := rep_min (rep_same.1 (Int.ofNat.inj a2))
  omega
def clsAt (m : Md) : Nat → List Int
  | 0 => num m.facts
  | j + 1 => finer m (clsAt m j)
theorem clsAt_len (m : Md) : ∀ j, (clsAt m j).length = m.facts.length
  | 0 => num_len _
  | _ + 1 => finer_len _ _
theorem clsAt_ord (m : Md) : ∀ j, ordOk (clsAt m j) = true
  | 0 => num_ord _
  | _ + 1 => finer_ord _ _
theorem clsAt_bd {m : Md} {j w : Nat} (hw : w < m.facts.length) : 0 ≤ (clsAt m j).getD w 0 ∧ (clsAt m j).getD w 0 < m.facts.length := by
  have hm : (clsAt m j).getD w 0 ∈ clsAt m j := by rw [List.getD_eq_getElem?_getD, List.getElem?_eq_getElem (by rw [clsAt_len]; exact hw)]; exact List.getElem_mem _
  have := ord_bd (clsAt_ord m j) hm
  rwa [clsAt_len] at this
def newP (l : List Int) : Nat → Bool := fun i => !decide (l.idxOf (l.getD i 0) < i)
theorem numS_new (l : List Int) : ∀ k, (numS l k).2 = (lst (newP l) k).length
  | 0 => rfl
  | k + 1 => by
    rw [numS, lst_succ, List.length_append]
    have ih := numS_new l k
    by_cases h : l.idxOf (l.getD k 0) < k
    · rw [if_pos h]
      have : newP l k = false := by unfold newP; rw [decide_eq_true h]; rfl
      rw [this]
      simp [ih]
    · rw [if_neg h]
      have : newP l k = true := by unfold newP; rw [decide_eq_false h]; rfl
      rw [this]
      simp [ih]
def cntC (m : Md) (c : List Int) : Nat := (lst (newP c) m.facts.length).length
theorem cntC_le (m : Md) (c : List Int) : cntC m c ≤ m.facts.length := lst_len _ _
theorem lst_lt {p q : Nat → Bool} (h : ∀ i, p i = true → q i = true) {n j : Nat} (hj : j < n) (hq : q j = true) (hp : p j = false) : (lst p n).length < (lst q n).length := by
  have key : ∀ k, (lst p k).length + (if j < k then 1 else 0) ≤ (lst q k).length := by
    intro k
    induction k with
    | zero => simp [lst]
    | succ k ih =>
      rw [lst_succ, lst_succ, List.length_append, List.length_append]
      by_cases e : j = k
      · subst e
        rw [hp, hq]
        have : ¬ j < j := by omega
        simp [this] at ih ⊢
        omega
      · have e2 : (j < k + 1) ↔ (j < k) := by omega
        simp only [e2]
        cases hpk : p k with
        | false => simp; omega
        | true => rw [h k hpk]; simp; omega
  have := key n
  rw [if_pos hj] at this
  omega
theorem cnt_lt {m : Md} {c d : List Int} (hc : c.length = m.facts.length) (hd : d.length = m.facts.length) (oc : ordOk c = true) (od : ordOk d = true)
    (hf : ∀ i j, i < m.facts.length → j < m.facts.length → d.getD i 0 = d.getD j 0 → c.getD i 0 = c.getD j 0) (hne : d ≠ c) : cntC m c < cntC m d := by
  have hex : ∃ i j, i < m.facts.length ∧ j < m.facts.length ∧ c.getD i 0 = c.getD j 0 ∧ d.getD i 0 ≠ d.getD j 0 := by
    refine Classical.byContradiction fun hno => hne ?_
    have hsame : ∀ i j, i < d.length → j < d.length → (d.getD i 0 = d.getD j 0 ↔ c.getD i 0 = c.getD j 0) := fun i j hi hj =>
      ⟨hf i j (by omega) (by omega), fun h => Classical.byContradiction fun hn => hno ⟨i, j, by omega, by omega, h, hn⟩⟩
    rw [← num_of_ord od, ← num_of_ord oc]
    exact num_cong (by omega) hsame
  have hsub : ∀ i, i < m.facts.length → newP c i = true → newP d i = true := by
    intro i hi h
    unfold newP at h ⊢
    simp only [Bool.not_eq_true', decide_eq_false_iff_not] at h ⊢
    intro h1
    obtain ⟨a1, a2⟩ := idC_get (l := d) (k := i) (by omega)
    have := idC_le (l := c) (i := d.idxOf (d.getD i 0)) (x := c.getD i 0) (by omega) (hf _ i (by omega) hi a2)
    omega
  obtain ⟨i, j, hi, hj, h1, h2⟩ := hex
  obtain ⟨a1, a2⟩ := idC_get (l := c) (k := i) (by omega)
  obtain ⟨b1, b2⟩ := idC_get (l := d) (k := i) (by omega)
  obtain ⟨e1, e2⟩ := idC_get (l := d) (k := j) (by omega)
  have hr := idC_le (l := c) (i := d.idxOf (d.getD i 0)) (x := c.getD i 0) (by omega) (hf _ i (by omega) hi b2)
  have hs := idC_le (l := c) (i := d.idxOf (d.getD j 0)) (x := c.getD i 0) (by omega) ((hf _ j (by omega) hj e2).trans h1.symm)
  have hdiff : d.idxOf (d.getD i 0) ≠ d.idxOf (d.getD j 0) := fun h => h2 (by rw [← b2, ← e2, h])
  have hone : ∃ t, t < m.facts.length ∧ newP d t = true ∧ newP c t = false := by
    have hnew : ∀ t, t < d.length → newP d (d.idxOf (d.getD t 0)) = true := fun t ht => by
      unfold newP
      obtain ⟨f1, f2⟩ := idC_get (l := d) (k := t) ht
      rw [f2]
      simp
    have hold : ∀ t, t < c.length → c.getD t 0 = c.getD i 0 → c.idxOf (c.getD i 0) < t → newP c t = false := fun t ht h3 h4 => by
      unfold newP
      rw [h3, decide_eq_true h4]; rfl
    rcases Nat.lt_or_ge (c.idxOf (c.getD i 0)) (d.idxOf (d.getD i 0)) with h3 | h3
    · exact ⟨_, by omega, hnew i (by omega), hold _ (by omega) (hf _ i (by omega) hi b2) h3⟩
    · exact ⟨_, by omega, hnew j (by omega), hold _ (by omega) ((hf _ j (by omega) hj e2).trans h1.symm) (by omega)⟩
  obtain ⟨t, ht, q1, q2⟩ := hone
  have hp : ∀ i, (newP c i && decide (i < m.facts.length)) = true → (newP d i && decide (i < m.facts.length)) = true := fun i h => by
    rw [Bool.and_eq_true, decide_eq_true_eq] at h ⊢
    exact ⟨hsub i h.2 h.1, h.2⟩
  have hlt := lst_lt hp (n := m.facts.length) ht (by rw [q1]; simp [ht]) (by rw [q2]; rfl)
  have hcut : ∀ p : Nat → Bool, lst (fun i => p i && decide (i < m.facts.length)) m.facts.length = lst p m.facts.length := fun p => lst_congr fun i hi => by simp [hi]
  rw [hcut, hcut] at hlt
  exact hlt
theorem finer_fine {m : Md} {c : List Int} {v w : Nat} (hv : v < m.facts.length) (hw : w < m.facts.length) (h : (finer m c).getD v 0 = (finer m c).getD w 0) : c.getD v 0 = c.getD w 0 := (tog_iff.1 ((finer_same hv hw).1 h)).1
theorem clsAt_grow {m : Md} (h1 : 1 ≤ m.facts.length) : ∀ j, (∀ i, i < j → clsAt m (i + 1) ≠ clsAt m i) → j + 1 ≤ cntC m (clsAt m j)
  | 0, _ => by
    have : newP (clsAt m 0) 0 = true := by unfold newP; simp
    have := lst_lt (p := fun _ => false) (q := newP (clsAt m 0)) (fun i h => by cases h) (n := m.facts.length) (j := 0) (by omega) this rfl
    unfold cntC
    omega
  | j + 1, h => by
    have ih := clsAt_grow h1 j (fun i hi => h i (by omega))
    have := cnt_lt (clsAt_len m j) (clsAt_len m (j + 1)) (clsAt_ord m j) (clsAt_ord m (j + 1)) (fun i k hi hk e => finer_fine hi hk e) (h j (by omega))
    omega
theorem clsAt_ends {m : Md} (h1 : 1 ≤ m.facts.length) {j : Nat} (h : ∀ i, i < j → clsAt m (i + 1) ≠ clsAt m i) : j + 1 ≤ m.facts.length := Nat.le_trans (clsAt_grow h1 j h) (cntC_le _ _)
def stab (m : Md) : Nat := ((List.range m.facts.length).find? fun j => decide (clsAt m (j + 1) = clsAt m j)).getD 0
theorem stab_at {m : Md} (h1 : 1 ≤ m.facts.length) {j : Nat} (h : ∀ i, i < j → clsAt m (i + 1) ≠ clsAt m i) (hs : clsAt m (j + 1) = clsAt m j) : stab m = j := by
  have hj := clsAt_ends h1 h
  unfold stab
  have : (List.range m.facts.length).find? (fun j => decide (clsAt m (j + 1) = clsAt m j)) = some j := by
    rw [List.find?_eq_some_iff_append]
    refine ⟨decide_eq_true hs, List.range j, (List.range (m.facts.length - j - 1)).map (· + (j + 1)), ?_, fun i hi => ?_⟩
    · apply List.ext_getElem?
      intro i
      rcases Nat.lt_trichotomy i j with h3 | h3 | h3
      · rw [List.getElem?_append_left (by simpa using h3), List.getElem?_range h3, List.getElem?_range (by omega)]
      · subst h3
        rw [List.getElem?_append_right (by simp), List.length_range, Nat.sub_self, List.getElem?_cons_zero, List.getElem?_range (by omega)]
      · obtain ⟨d, rfl⟩ : ∃ d, i = j + 1 + d := ⟨i - (j + 1), by omega⟩
        rw [List.getElem?_append_right (by simp; omega), List.length_range, show j + 1 + d - j = d + 1 by omega, List.getElem?_cons_succ, List.getElem?_map]
        rcases Nat.lt_or_ge (j + 1 + d) m.facts.length with h4 | h4
        · rw [List.getElem?_range h4, List.getElem?_range (by omega)]
          simp; omega
        · rw [List.getElem?_eq_none (by simpa using h4), List.getElem?_eq_none (by simp; omega)]; rfl
    · simp [h i (List.mem_range.1 hi)]
  rw [this]; rfl
def lastC (m : Md) : List Int := clsAt m (stab m)
def classR (m : Md) : List Int := if mdOk m then lastC m else []
structure Bis (m m' : Md) (Z : Nat → Nat → Prop) : Prop where
  agents : m.blocks.length = m'.blocks.length
  dom : ∀ v w, Z v w → v < m.facts.length ∧ w < m'.facts.length
  facts : ∀ v w, Z v w → m.facts.getD v 0 = m'.facts.getD w 0
  forth : ∀ v w k v', Z v w → k < m.blocks.length → v' < m.facts.length → sameW m k v' v = true → ∃ w', Z v' w' ∧ sameW m' k w' w = true
  back : ∀ v w k w', Z v w → k < m.blocks.length → w' < m'.facts.length → sameW m' k w' w = true → ∃ v', Z v' w' ∧ sameW m k v' v = true
theorem Bis.symm {m m' : Md} {Z : Nat → Nat → Prop} (h : Bis m m' Z) : Bis m' m (fun w v => Z v w) :=
  ⟨h.agents.symm, fun v w z => ⟨(h.dom _ _ z).2, (h.dom _ _ z).1⟩, fun v w z => (h.facts _ _ z).symm,
   fun v w k v' z hk hv hs => h.back w v k v' z (by rw [h.agents]; exact hk) hv hs, fun v w k w' z hk hw hs => h.forth w v k w' z (by rw [h.agents]; exact hk) hw hs⟩
theorem sameW_comm (m : Md) (k v w : Nat) : sameW m k v w = sameW m k w v := by unfold sameW; rw [Bool.eq_iff_iff]; simp only [beq_iff_eq]; exact eq_comm
theorem allW_iff {m : Md} {q : Nat → Bool} : allW m q = true ↔ ∀ v, v < m.facts.length → q v = true := by
  unfold allW; rw [List.all_eq_true]; exact ⟨fun h v hv => h v (List.mem_range.2 hv), fun h v hv => h v (List.mem_range.1 hv)⟩
theorem blockW_iff {m : Md} {k w : Nat} {al tr : Nat → Bool} {want : Bool} : blockW m k al tr w want = true ↔ ∀ v, v < m.facts.length → al v = true → sameW m k v w = true → tr v = want := by
  unfold blockW
  rw [allW_iff]
  constructor
  · intro h v hv ha hs
    have := h v hv
    rw [ha, hs] at this
    simpa using this
  · intro h v hv
    cases ha : al v with
    | false => simp
    | true =>
      cases hs : sameW m k v w with
      | false => simp
      | true => simp [h v hv ha hs]
theorem blockW_bis {m m' : Md} {Z : Nat → Nat → Prop} (h : Bis m m' Z) {al al' tr tr' : Nat → Bool} (ha : ∀ v w, Z v w → al v = al' w) (ht : ∀ v w, Z v w → tr v = tr' w) {k v w : Nat} (hk : k < m.blocks.length) (z : Z v w) (want : Bool) :
    blockW m k al tr v want = blockW m' k al' tr' w want := by
  rw [Bool.eq_iff_iff, blockW_iff, blockW_iff]
  constructor
  · intro hb w' hw' hal hs
    obtain ⟨v', z', hs'⟩ := h.back v w k w' z hk hw' hs
    rw [← ht v' w' z']
    exact hb v' (h.dom _ _ z').1 (by rw [ha v' w' z']; exact hal) hs'
  · intro hb v' hv' hal hs
    obtain ⟨w', z', hs'⟩ := h.forth v w k v' z hk hv' hs
    rw [ht v' w' z']
    exact hb w' (h.dom _ _ z').2 (by rw [← ha v' w' z']; exact hal) hs'
theorem stepA_iff {m : Md} {al : Nat → Bool} {i j : Nat} : stepA m al i j = true ↔ i < m.facts.length ∧ j < m.facts.length ∧ al j = true ∧ ∃ k, k < m.blocks.length ∧ sameW m k i j = true := by
  unfold stepA
  rw [near_same, Bool.and_eq_true, Bool.and_eq_true, Bool.and_eq_true, decide_eq_true_eq, decide_eq_true_eq, List.any_eq_true]
  constructor
  · rintro ⟨⟨⟨h1, h2⟩, h3⟩, k, hk, h4⟩
    exact ⟨h1, h2, h3, k, List.mem_range.1 hk, h4⟩
  · rintro ⟨h1, h2, h3, k, hk, h4⟩
    exact ⟨⟨⟨h1, h2⟩, h3⟩, k, List.mem_range.2 hk, h4⟩
open Classical in
theorem reach_bis {m m' : Md} {Z : Nat → Nat → Prop} (h : Bis m m' Z) {al al' : Nat → Bool} (ha : ∀ v w, Z v w → al v = al' w) {v w v' : Nat} (z : Z v w) (hr : reachA m al v v' = true) : ∃ w', Z v' w' ∧ reachA m' al' w w' = true := by
  have key : decide (∃ w', Z v' w' ∧ reachA m' al' w w' = true) = true := by
    refine wsh_least (r := stepA m al) (T := fun j => decide (∃ w', Z j w' ∧ reachA m' al' w w' = true)) (fun i j hi hs => ?_) (decide_eq_true ⟨w, z, wsh_refl _ _ _⟩) hr
    obtain ⟨w1, z1, hr1⟩ := of_decide_eq_true hi
    obtain ⟨s1, s2, s3, k, hk, s4⟩ := stepA_iff.1 hs
    obtain ⟨w2, z2, hs2⟩ := h.forth i w1 k j z1 hk s2 (by rw [sameW_comm]; exact s4)
    refine decide_eq_true ⟨w2, z2, wsh_more (fun _ _ => stepA_in) hr1 (stepA_iff.2 ⟨(h.dom _ _ z1).2, (h.dom _ _ z2).2, by rw [← ha j w2 z2]; exact s3, k, by rw [← h.agents]; exact hk, by rw [sameW_comm]; exact hs2⟩)⟩
  exact of_decide_eq_true key
theorem reachW_bis {m m' : Md} {Z : Nat → Nat → Prop} (h : Bis m m' Z) {al al' tr tr' : Nat → Bool} (ha : ∀ v w, Z v w → al v = al' w) (ht : ∀ v w, Z v w → tr v = tr' w) {v w : Nat} (z : Z v w) :
    allW m (fun x => !reachA m al v x || tr x) = allW m' (fun x => !reachA m' al' w x || tr' x) := by
  have half : ∀ {m m' : Md} {Z : Nat → Nat → Prop} (_ : Bis m m' Z) {al al' tr tr' : Nat → Bool} (_ : ∀ v w, Z v w → al v = al' w) (_ : ∀ v w, Z v w → tr v = tr' w) {v w : Nat} (_ : Z v w),
      allW m' (fun x => !reachA m' al' w x || tr' x) = true → allW m (fun x => !reachA m al v x || tr x) = true := by
    intro m m' Z h al al' tr tr' ha ht v w z hb
    rw [allW_iff] at hb ⊢
    intro x _
    cases hr : reachA m al v x with
    | false => rfl
    | true =>
      obtain ⟨y, zy, hy⟩ := reach_bis h ha z hr
      have := hb y (h.dom _ _ zy).2
      rw [hy] at this
      rw [ht x y zy]
      simpa using this
  rw [Bool.eq_iff_iff]
  exact ⟨half h.symm (fun a b z => (ha b a z).symm) (fun a b z => (ht b a z).symm) z, half h ha ht z⟩
theorem evS_bis {m m' : Md} {Z : Nat → Nat → Prop} (h : Bis m m' Z) : ∀ (t : Tm), t.wf → tag t m.blocks.length → ∀ (al al' : Nat → Bool), (∀ v w, Z v w → al v = al' w) → ∀ v w, Z v w → evS t m al v = evS t m' al' w
  | .leaf op n, _, _, al, al', ha, v, w, z => by
    unfold evS; rw [ha v w z, h.facts v w z]
  | .deny a, hw, ht, al, al', ha, v, w, z => by
    have ih := evS_bis h a hw ht al al' ha
    show (al v && !evS a m al v) = (al' w && !evS a m' al' w)
    rw [ha v w z, ih v w z]
  | .know op n a, hw, ht, al, al', ha, v, w, z => by
    have ih := evS_bis h a hw.2.2.2 ht.2 al al' ha
    show (al v && (if op = 5 then blockW m n.toNat al (evS a m al) v true else if op = 6 then blockW m n.toNat al (evS a m al) v (evS a m al v)
      else if op = 7 then (List.range m.blocks.length).all fun k => blockW m k al (evS a m al) v true else allW m fun x => !reachA m al v x || evS a m al x))
      = (al' w && (if op = 5 then blockW m' n.toNat al' (evS a m' al') w true else if op = 6 then blockW m' n.toNat al' (evS a m' al') w (evS a m' al' w)
      else if op = 7 then (List.range m'.blocks.length).all fun k => blockW m' k al' (evS a m' al') w true else allW m' fun x => !reachA m' al' w x || evS a m' al' x))
    rw [ha v w z]
    by_cases h5 : op = 5
    · rw [if_pos h5, if_pos h5, blockW_bis h ha ih (by have := ht.1 (.inl h5); have := hw.2.1; omega) z]
    rw [if_neg h5, if_neg h5]
    by_cases h6 : op = 6
    · rw [if_pos h6, if_pos h6, blockW_bis h ha ih (by have := ht.1 (.inr h6); have := hw.2.1; omega) z, ih v w z]
    rw [if_neg h6, if_neg h6]
    by_cases h7 : op = 7
    · rw [if_pos h7, if_pos h7, ← h.agents]
      congr 1
      rw [Bool.eq_iff_iff, List.all_eq_true, List.all_eq_true]
      exact ⟨fun hb k hk => by rw [← blockW_bis h ha ih (List.mem_range.1 hk) z]; exact hb k hk, fun hb k hk => by rw [blockW_bis h ha ih (List.mem_range.1 hk) z]; exact hb k hk⟩
    · rw [if_neg h7, if_neg h7, reachW_bis h ha ih z]
  | .joint op a b, hw, ht, al, al', ha, v, w, z => by
    have iha := evS_bis h a hw.2.1 ht.1 al al' ha
    show (al v && (if op = 4 then evS a m al v && evS b m al v else !evS a m al v || evS b m (fun v => al v && evS a m al v) v))
      = (al' w && (if op = 4 then evS a m' al' w && evS b m' al' w else !evS a m' al' w || evS b m' (fun v => al' v && evS a m' al' v) w))
    rw [ha v w z, iha v w z]
    by_cases h4 : op = 4
    · rw [if_pos h4, if_pos h4, evS_bis h b hw.2.2 ht.2 al al' ha v w z]
    · rw [if_neg h4, if_neg h4, evS_bis h b hw.2.2 ht.2 (fun v => al v && evS a m al v) (fun v => al' v && evS a m' al' v) (fun v w z => by rw [ha v w z, iha v w z]) v w z]
theorem evI_bis {m m' : Md} {Z : Nat → Nat → Prop} (h : Bis m m' Z) (hn : m.facts.length ≤ 16) (hn' : m'.facts.length ≤ 16) {t : Tm} (hw : t.wf) (ht : tag t m.blocks.length) {v w : Nat} (z : Z v w) : evI t m v = evI t m' w := by
  obtain ⟨hv, hw'⟩ := h.dom v w z
  have g : ∀ n i, i < n → (List.range n).getD i 0 = i := fun n i hi => by rw [List.getD_eq_getElem?_getD, List.getElem?_range hi]; rfl
  rw [ev_rel t m m (List.range m.facts.length) hw ht (Rel.self hn) v (by simpa using hv), ev_rel t m' m' (List.range m'.facts.length) hw (by rw [← h.agents]; exact ht) (Rel.self hn') w (by simpa using hw'), g _ _ hv, g _ _ hw']
  refine evS_bis h t hw ht _ _ (fun a b zab => ?_) v w z
  obtain ⟨h1, h2⟩ := h.dom a b zab
  unfold memN
  rw [decide_eq_true (List.mem_range.2 h1), decide_eq_true (List.mem_range.2 h2)]
theorem bis_class {m : Md} {c : List Int} (hs : ∀ v w, v < m.facts.length → w < m.facts.length → c.getD v 0 = c.getD w 0 → tog m c v w = true) (hf : ∀ v w, v < m.facts.length → w < m.facts.length → c.getD v 0 = c.getD w 0 → m.facts.getD v 0 = m.facts.getD w 0)
    (hb : ∀ v, v < m.facts.length → 0 ≤ c.getD v 0 ∧ c.getD v 0 < m.facts.length) : Bis m m (fun v w => v < m.facts.length ∧ w < m.facts.length ∧ c.getD v 0 = c.getD w 0) := by
  have half : ∀ v w k v', (v < m.facts.length ∧ w < m.facts.length ∧ c.getD v 0 = c.getD w 0) → k < m.blocks.length → v' < m.facts.length → sameW m k v' v = true → ∃ w', (v' < m.facts.length ∧ w' < m.facts.length ∧ c.getD v' 0 = c.getD w' 0) ∧ sameW m k w' w = true := by
    rintro v w k v' ⟨h1, h2, h3⟩ hk hv' hsv
    obtain ⟨b0, b1⟩ := hb v' hv'
    have ht := (tog_iff.1 (hs v w h1 h2 h3)).2 k hk (c.getD v' 0).toNat (by omega)
    have hset : setB m c k v (c.getD v' 0).toNat = true := by
      unfold setB
      rw [List.any_eq_true]
      refine ⟨v', List.mem_range.2 hv', ?_⟩
      unfold sameW at hsv
      rw [hsv, Int.toNat_of_nonneg b0]
      simp
    rw [ht] at hset
    unfold setB at hset
    rw [List.any_eq_true] at hset
    obtain ⟨w', hw', hx⟩ := hset
    rw [Bool.and_eq_true, Int.toNat_of_nonneg b0, beq_iff_eq, beq_iff_eq] at hx
    exact ⟨w', ⟨hv', List.mem_range.1 hw', hx.2.symm⟩, by unfold sameW; rw [hx.1]; simp⟩
  refine ⟨rfl, fun v w z => ⟨z.1, z.2.1⟩, fun v w z => hf v w z.1 z.2.1 z.2.2, half, fun v w k w' z hk hw' hsw => ?_⟩
  obtain ⟨v', z', h'⟩ := half w v k w' ⟨z.2.1, z.1, z.2.2.symm⟩ hk hw' hsw
  exact ⟨v', ⟨z'.2.1, z'.1, z'.2.2.symm⟩, h'⟩
theorem lastC_stable {m : Md} (h1 : 1 ≤ m.facts.length) : finer m (lastC m) = lastC m := by
  unfold lastC stab
  cases hf : (List.range m.facts.length).find? fun j => decide (clsAt m (j + 1) = clsAt m j) with
  | none =>
    exfalso
    have hno := List.find?_eq_none.1 hf
    have := clsAt_ends h1 (j := m.facts.length) (fun i hi he => hno i (List.mem_range.2 hi) (decide_eq_true he))
    omega
  | some j =>
    have := of_decide_eq_true (List.find?_some (p := fun j => decide (clsAt m (j + 1) = clsAt m j)) hf)
    exact this
theorem lastC_len (m : Md) : (lastC m).length = m.facts.length := clsAt_len _ _
theorem clsAt_facts (m : Md) : ∀ j v w, v < m.facts.length → w < m.facts.length → (clsAt m j).getD v 0 = (clsAt m j).getD w 0 → m.facts.getD v 0 = m.facts.getD w 0
  | 0, _, _, hv, hw, h => (num_same m.facts hv hw).2 h
  | j + 1, v, w, hv, hw, h => clsAt_facts m j v w hv hw (finer_fine hv hw h)
theorem lastC_tog {m : Md} (h1 : 1 ≤ m.facts.length) {v w : Nat} (hv : v < m.facts.length) (hw : w < m.facts.length) (h : (lastC m).getD v 0 = (lastC m).getD w 0) : tog m (lastC m) v w = true := by
  rw [← finer_same hv hw, lastC_stable h1]; exact h
theorem bis_last {m : Md} (h1 : 1 ≤ m.facts.length) : Bis m m (fun v w => v < m.facts.length ∧ w < m.facts.length ∧ (lastC m).getD v 0 = (lastC m).getD w 0) :=
  bis_class (fun _ _ hv hw h => lastC_tog h1 hv hw h) (fun v w hv hw h => clsAt_facts m _ v w hv hw h) (fun _ hv => clsAt_bd hv)
def firstsC (c : List Int) : List Nat := lst (newP c) c.length
theorem ord_new {c : List Int} (hc : ordOk c = true) {i : Nat} (hi : i < c.length) (h : newP c i = true) : c.getD i 0 = ((lst (newP c) i).length : Int) := by
  unfold ordOk at hc
  have ho : ordTo c (i + 1) := fun j hj => (of_decide_eq_true hc) j (by omega)
  have he := (ord_num c (i + 1) (by omega)).1.1 ho
  have hn : ¬ c.idxOf (c.getD i 0) < i := by unfold newP at h; simpa using h
  rw [numS, if_neg hn] at he
  have h2 : (c.take (i + 1)).getD i 0 = c.getD i 0 := by
    rw [List.getD_eq_getElem?_getD, List.getElem?_take_of_lt (by omega), ← List.getD_eq_getElem?_getD]
  rw [← h2, ← he, getD_last (numS_len c i).symm, numS_new]
theorem lst_at {p : Nat → Bool} {n w : Nat} (hp : p w = true) (hw : w < n) : (lst p w).length < (lst p n).length ∧ (lst p n).getD (lst p w).length 0 = w := by
  obtain ⟨r, h⟩ := lst_pre p (w + 1) (n - (w + 1))
  have h2 := lst_succ p w
  rw [if_pos hp] at h2
  rw [show w + 1 + (n - (w + 1)) = n by omega, h2] at h
  rw [h]
  refine ⟨by simp, ?_⟩
  rw [List.getD_eq_getElem?_getD, List.append_assoc, List.getElem?_append_right (Nat.le_refl _), Nat.sub_self]; rfl
theorem new_first {c : List Int} {v : Nat} (hv : v < c.length) : newP c (c.idxOf (c.getD v 0)) = true := by
  obtain ⟨a1, a2⟩ := idC_get hv
  unfold newP
  rw [a2]; simp
theorem first_of {c : List Int} (hc : ordOk c = true) {v : Nat} (hv : v < c.length) : ∃ a : Nat, c.getD v 0 = (a : Int) ∧ a < (firstsC c).length ∧ (firstsC c).getD a 0 = c.idxOf (c.getD v 0) := by
  obtain ⟨a1, a2⟩ := idC_get hv
  have hn := new_first hv
  have h1 := ord_new hc a1 hn
  obtain ⟨h2, h3⟩ := lst_at hn a1
  exact ⟨_, a2.symm.trans h1, h2, h3⟩
theorem first_in {c : List Int} (hc : ordOk c = true) {a : Nat} (ha : a < (firstsC c).length) : (firstsC c).getD a 0 < c.length ∧ c.getD ((firstsC c).getD a 0) 0 = (a : Int) := by
  have hm : (firstsC c).getD a 0 ∈ firstsC c := by rw [List.getD_eq_getElem?_getD, List.getElem?_eq_getElem ha]; exact List.getElem_mem _
  obtain ⟨h1, h2⟩ := mem_lst.1 hm
  have h3 := ord_new hc h1 h2
  obtain ⟨h4, h5⟩ := lst_at h2 h1
  have h6 : (lst (newP c) ((firstsC c).getD a 0)).length = a := nodup_getD (lst_nodup _ _) h4 ha h5
  exact ⟨h1, by rw [h3, h6]⟩
theorem setB_in {m : Md} {c : List Int} {k w x : Nat} : setB m c k w x = true ↔ ∃ v, v < m.facts.length ∧ sameW m k v w = true ∧ c.getD v 0 = (x : Int) := by
  unfold setB sameW
  rw [List.any_eq_true]
  constructor
  · rintro ⟨v, hv, h⟩
    rw [Bool.and_eq_true, beq_iff_eq, beq_iff_eq] at h
    exact ⟨v, List.mem_range.1 hv, by rw [h.1]; simp, h.2⟩
  · rintro ⟨v, hv, h, h2⟩
    rw [beq_iff_eq] at h
    exact ⟨v, List.mem_range.2 hv, by rw [h, h2]; simp⟩
end Go.Proofs.YtnpfnfenkklocaaGreatDoor
