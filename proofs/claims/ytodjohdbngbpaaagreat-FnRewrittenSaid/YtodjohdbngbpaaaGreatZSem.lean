/-
  Several texts in one: Kno Rsc Rmz Sem Rsd Rfs Seq Sev Son. Conditions: as each theorem says.
-/
import Derived.Test.YtodjohdbngbpaaaGreatZRch
import Derived.Test.YtodjohdbngbpaaaGreatZSet
import Derived.Test.YtodjohdbngbpaaaGreatZMok
import Derived.Test.YtodjohdbngbpaaaGreatZTerm
/-
  Contracts of impl.KnowsWhich and spec.KnowsWhich. No condition.
-/
namespace Go.Proofs.YtodjohdbngbpaaaGreat
open Go.RowKit Go.WideShapes
open Go Go.Deep
set_option linter.unusedSimpArgs false

end Go.Proofs.YtodjohdbngbpaaaGreat

/-
  Contract of spec.l03Reach. Condition: the model is valid, there is a bool for each world, and the world is one of the model.
-/
namespace Go.Proofs.YtodjohdbngbpaaaGreat
open Go.RowKit Go.WideShapes
open Go Go.Deep
set_option linter.unusedSimpArgs false

/-- a step of any agent to a world that is alive -/
def stepA (m : Md) (al : Nat → Bool) : Nat → Nat → Bool := fun i j => decide (i < m.facts.length) && decide (j < m.facts.length) && al j && near m.blocks m.blocks.length i j
theorem stepA_in {m : Md} {al : Nat → Bool} {i j : Nat} (h : stepA m al i j = true) : i < m.facts.length ∧ j < m.facts.length := by
  unfold stepA at h
  simp only [Bool.and_eq_true, decide_eq_true_eq] at h
  exact h.1.1
def reachA (m : Md) (al : Nat → Bool) (x : Nat) : Nat → Bool := wsh (stepA m al) m.facts.length x
theorem nodup_len : ∀ (n : Nat) (l : List Nat), l.Nodup → (∀ i ∈ l, i < n) → l.length ≤ n
  | 0, l, _, h => by cases l with
    | nil => simp
    | cons a t => exact absurd (h a (List.mem_cons_self ..)) (by omega)
  | n + 1, l, hn, h => by
    have h1 := nodup_len n (l.erase n) (hn.erase n) (fun i hi => by
      have h2 := (hn.mem_erase_iff).1 hi
      have := h i h2.2
      omega)
    rw [List.length_erase] at h1
    split at h1 <;> omega
end Go.Proofs.YtodjohdbngbpaaaGreat

/-
  What RestrictModel answers, in mathematics. No program but its types' numbers.
-/
namespace Go.Proofs.YtodjohdbngbpaaaGreat
open Go.RowKit Go.WideShapes
open Go Go.Deep
set_option linter.unusedSimpArgs false

theorem memP_bd {l : List Int} {n : Nat} (h : ascOk l n = true) : ∀ i, memP l i = true → i < n := fun i hi => by
  have hok : okTo l n l.length := of_decide_eq_true h
  obtain ⟨j, hj, e⟩ := List.getElem_of_mem (of_decide_eq_true hi)
  have h1 := hok j hj
  rw [List.getD_eq_getElem?_getD, List.getElem?_eq_getElem hj] at h1
  simp only [Option.getD_some] at h1
  omega
/-- what RestrictModel answers -/
def restrR (m : Md) (l : List Int) : Option Md := if mdOk m && ascOk l m.facts.length && l.contains m.actual then some (restM m (lst (memP l) 16)) else none
theorem rest_fits {m : Md} (h : mdOk m = true) (ws : List Nat) (hw : ws.length ≤ 16) : fits (restM m ws) := by
  obtain ⟨p1, p2, p3, p4, _⟩ := mdOk_parts h
  unfold restM
  refine ⟨by rw [pick_len]; exact hw, by rw [List.length_map, rawRows_len]; exact p4, fun k hk => ?_⟩
  simp only [List.length_map, rawRows_len] at hk
  rw [pick_len, List.getD_eq_getElem?_getD, List.getElem?_map]
  have := rawRows_get m ws hk
  rw [List.getD_eq_getElem?_getD] at this
  rw [List.getElem?_eq_getElem (by rw [rawRows_len]; exact hk)] at this ⊢
  simp only [Option.map_some, Option.getD_some] at this ⊢
  rw [num_len, this, pick_len]
end Go.Proofs.YtodjohdbngbpaaaGreat

/-
  The truth of a formula in the worlds of a model, in mathematics: the program's way (restricted models) and the specification's (worlds that are alive); they agree. No program but its types' numbers.
-/
namespace Go.Proofs.YtodjohdbngbpaaaGreat
open Go.RowKit Go.WideShapes
open Go Go.Deep
set_option linter.unusedSimpArgs false

/-- how many members lie below a world -/
def rank (p : Nat → Bool) (w : Nat) : Nat := (lst p w).length
/-- the worlds where p was announced and q held after it, those where p is false -/
def aftK (n : Nat) (p q : Nat → Bool) (k : Nat) : Nat → Bool := fun w => if p w && decide (rank p w < k) then q (rank p w) else decide (w < n) && !p w
def aftB (n : Nat) (p q : Nat → Bool) : Nat → Bool := fun w => if p w then q (rank p w) else decide (w < n) && !p w
theorem lst_pre (p : Nat → Bool) (k : Nat) : ∀ d, ∃ r, lst p (k + d) = lst p k ++ r
  | 0 => ⟨[], by simp⟩
  | d + 1 => by
    obtain ⟨r, h⟩ := lst_pre p k d
    exact ⟨r ++ (if p (k + d) then [k + d] else []), by rw [show k + (d + 1) = (k + d) + 1 by omega, lst_succ, h, List.append_assoc]⟩
theorem lst_rank {p : Nat → Bool} {w : Nat} (hp : p w = true) (hw : w < 16) : rank p w < (lst p 16).length ∧ (lst p 16).getD (rank p w) 0 = w := by
  obtain ⟨r, h⟩ := lst_pre p (w + 1) (16 - (w + 1))
  have h2 := lst_succ p w
  rw [if_pos hp] at h2
  rw [show w + 1 + (16 - (w + 1)) = 16 by omega, h2] at h
  unfold rank
  rw [h]
  refine ⟨by simp, ?_⟩
  rw [List.getD_eq_getElem?_getD, List.append_assoc, List.getElem?_append_right (Nat.le_refl _), Nat.sub_self]; rfl
theorem nodup_getD {l : List Nat} (hnd : l.Nodup) {i j : Nat} (hi : i < l.length) (hj : j < l.length) (e : l.getD i 0 = l.getD j 0) : i = j := by
  rw [List.getD_eq_getElem?_getD, List.getElem?_eq_getElem hi, List.getD_eq_getElem?_getD, List.getElem?_eq_getElem hj] at e
  simp only [Option.getD_some] at e
  rw [List.nodup_iff_pairwise_ne, List.pairwise_iff_getElem] at hnd
  rcases Nat.lt_trichotomy i j with h | h | h
  · exact absurd e (hnd i j hi hj h)
  · exact h
  · exact absurd e.symm (hnd j i hj hi h)
theorem rank_lst {p : Nat → Bool} {k : Nat} (hk : k < (lst p 16).length) : p ((lst p 16).getD k 0) = true ∧ (lst p 16).getD k 0 < 16 ∧ rank p ((lst p 16).getD k 0) = k := by
  have hm : (lst p 16).getD k 0 ∈ lst p 16 := by rw [List.getD_eq_getElem?_getD, List.getElem?_eq_getElem hk]; exact List.getElem_mem _
  obtain ⟨h1, h2⟩ := mem_lst.1 hm
  obtain ⟨h3, h4⟩ := lst_rank h2 h1
  exact ⟨h2, h1, nodup_getD (lst_nodup p 16) h3 hk h4⟩
theorem aftK_0 (n : Nat) (p q : Nat → Bool) : aftK n p q 0 = cut n fun i => !p i := by
  funext w; unfold aftK cut; simp
theorem aftK_upd {n k : Nat} {p q : Nat → Bool} (hk : k < (lst p 16).length) : upd (aftK n p q k) ((lst p 16).getD k 0) (q k) = aftK n p q (k + 1) := by
  obtain ⟨h1, h2, h3⟩ := rank_lst hk
  funext w
  unfold upd aftK
  by_cases e : w = (lst p 16).getD k 0
  · rw [if_pos e, e, h1, h3]; simp
  · rw [if_neg e]
    cases hp : p w with
    | false => simp
    | true =>
      have hne : w < 16 → rank p w ≠ k := fun hw e2 => e (by have := (lst_rank hp hw).2; rw [e2] at this; exact this.symm)
      by_cases hw : w < 16
      · have hne := hne hw
        have : decide (rank p w < k + 1) = decide (rank p w < k) := by rw [decide_eq_decide]; omega
        rw [this]
      · have hge : (lst p 16).length ≤ rank p w := by
          obtain ⟨r, h⟩ := lst_pre p 16 (w - 16)
          rw [show 16 + (w - 16) = w by omega] at h
          unfold rank; rw [h]; simp
        have h5 : ¬ rank p w < k + 1 := by omega
        have h6 : ¬ rank p w < k := by omega
        simp [h5, h6]
theorem aftK_end {n : Nat} {p q : Nat → Bool} {k : Nat} (hk : (lst p 16).length ≤ k) : bL (aftK n p q k) = bL (aftB n p q) := by
  refine bL_congr fun w hw => ?_
  unfold aftK aftB
  cases hp : p w with
  | false => simp
  | true =>
    have := (lst_rank hp hw).1
    have h5 : rank p w < k := by omega
    simp [h5]

/-- the worlds that count for what is known -/
def scopeB (op : Int) (n : Nat) (m : Md) (w : Nat) : Nat → Bool := if op = 5 then blkB m.blocks m.facts.length n w else if op = 7 then nearB m.blocks m.facts.length m.blocks.length w else reachB m.blocks m.facts.length m.blocks.length w
/-- the program's way -/
def evI : Tm → Md → Nat → Bool
  | .leaf op n, m => cut m.facts.length fun w => if op = 1 then bitI (m.facts.getD w 0) n.toNat == 1 else true
  | .deny a, m => cut m.facts.length fun i => !evI a m i
  | .know op n a, m => if op = 6 then cut m.facts.length fun w => subB (blkB m.blocks m.facts.length n.toNat w) (evI a m) || subB (blkB m.blocks m.facts.length n.toNat w) (cut m.facts.length fun i => !evI a m i)
      else cut m.facts.length fun w => subB (scopeB op n.toNat m w) (evI a m)
  | .joint op a b, m => if op = 4 then cut m.facts.length fun w => evI a m w && evI b m w else aftB m.facts.length (evI a m) (evI b (restM m (lst (evI a m) 16)))
theorem cut_in {n i : Nat} {q : Nat → Bool} (h : cut n q i = true) : i < n := by
  unfold cut at h; rw [Bool.and_eq_true, decide_eq_true_eq] at h; exact h.1
theorem evI_in : ∀ (t : Tm) (m : Md) (i : Nat), m.facts.length ≤ 16 → evI t m i = true → i < m.facts.length
  | .leaf _ _, _, _, _, h => by unfold evI at h; exact cut_in h
  | .deny _, _, _, _, h => by unfold evI at h; exact cut_in h
  | .know op _ _, _, _, _, h => by unfold evI at h; split at h <;> exact cut_in h
  | .joint op a b, m, i, hn, h => by
    unfold evI at h
    split at h
    · exact cut_in h
    · unfold aftB at h
      split at h
      · rename_i hp; exact evI_in a m i hn hp
      · simp only [Bool.and_eq_true, decide_eq_true_eq] at h; exact h.1
/-- for all worlds of a model -/
def allW (m : Md) (q : Nat → Bool) : Bool := (List.range m.facts.length).all q
def sameW (m : Md) (k v w : Nat) : Bool := (m.blocks.getD k []).getD v 0 == (m.blocks.getD k []).getD w 0
def blockW (m : Md) (k : Nat) (al tr : Nat → Bool) (w : Nat) (want : Bool) : Bool := allW m fun v => !(al v && sameW m k v w) || tr v == want
/-- the specification's way -/
def evS : Tm → Md → (Nat → Bool) → Nat → Bool
  | .leaf op n, m, al => fun w => al w && (if op = 1 then bitI (m.facts.getD w 0) n.toNat == 1 else true)
  | .deny a, m, al => fun w => al w && !evS a m al w
  | .know op n a, m, al => fun w => al w && (if op = 5 then blockW m n.toNat al (evS a m al) w true else if op = 6 then blockW m n.toNat al (evS a m al) w (evS a m al w)
      else if op = 7 then (List.range m.blocks.length).all fun k => blockW m k al (evS a m al) w true else allW m fun v => !reachA m al w v || evS a m al v)
  | .joint op a b, m, al => fun w => al w && (if op = 4 then evS a m al w && evS b m al w else !evS a m al w || evS b m (fun v => al v && evS a m al v) w)

/-- m' is the model of the worlds ws of m -/
def Rel (m' m : Md) (ws : List Nat) : Prop :=
  m'.facts.length = ws.length ∧ ws.Nodup ∧ (∀ i ∈ ws, i < m.facts.length) ∧ m.facts.length ≤ 16 ∧ m'.blocks.length = m.blocks.length ∧ (∀ i, i < ws.length → m'.facts.getD i 0 = m.facts.getD (ws.getD i 0) 0) ∧
    ∀ k, k < m.blocks.length → ∀ i j, i < ws.length → j < ws.length → sameW m' k i j = sameW m k (ws.getD i 0) (ws.getD j 0)
def memN (ws : List Nat) : Nat → Bool := fun i => decide (i ∈ ws)
theorem getD_memN {ws : List Nat} {i : Nat} (h : i < ws.length) : ws.getD i 0 ∈ ws := by rw [List.getD_eq_getElem?_getD, List.getElem?_eq_getElem h]; exact List.getElem_mem _
theorem memN_get {ws : List Nat} {v : Nat} (h : v ∈ ws) : ∃ i, i < ws.length ∧ ws.getD i 0 = v := by
  obtain ⟨i, hi, e⟩ := List.getElem_of_mem h
  exact ⟨i, hi, by rw [List.getD_eq_getElem?_getD, List.getElem?_eq_getElem hi]; exact e⟩
theorem Rel.len {m' m : Md} {ws : List Nat} (h : Rel m' m ws) : ws.length ≤ 16 := by
  have := nodup_len m.facts.length ws h.2.1 h.2.2.1
  have := h.2.2.2.1
  omega
theorem Rel.self {m : Md} (h : m.facts.length ≤ 16) : Rel m m (List.range m.facts.length) := by
  have hg : ∀ i, i < m.facts.length → (List.range m.facts.length).getD i 0 = i := fun i hi => by rw [List.getD_eq_getElem?_getD, List.getElem?_range hi]; rfl
  refine ⟨by simp, List.nodup_range, fun i hi => List.mem_range.1 hi, h, rfl, fun i hi => ?_, fun k _ i j hi hj => ?_⟩
  · rw [hg i (by simpa using hi)]
  · rw [hg i (by simpa using hi), hg j (by simpa using hj)]
theorem same_pick {m : Md} {us : List Nat} {k i j : Nat} (hk : k < m.blocks.length) (hi : i < us.length) (hj : j < us.length) : sameW (restM m us) k i j = sameW m k (us.getD i 0) (us.getD j 0) := by
  have hl : (pick (m.blocks.getD k []) us).length = us.length := pick_len _ _
  have hrow : (restM m us).blocks.getD k [] = num (pick (m.blocks.getD k []) us) := by
    unfold restM
    simp only
    rw [List.getD_eq_getElem?_getD, List.getElem?_map, ← rawRows_get m us hk, List.getD_eq_getElem?_getD, List.getElem?_eq_getElem (by rw [rawRows_len]; exact hk)]; rfl
  have hp : ∀ i, i < us.length → (pick (m.blocks.getD k []) us).getD i 0 = (m.blocks.getD k []).getD (us.getD i 0) 0 := fun i hi => by
    unfold pick
    rw [List.getD_eq_getElem?_getD, List.getElem?_map, List.getElem?_eq_getElem hi, List.getD_eq_getElem?_getD (l := us), List.getElem?_eq_getElem hi]; rfl
  unfold sameW
  rw [hrow, ← hp i hi, ← hp j hj, Bool.eq_iff_iff, beq_iff_eq, beq_iff_eq]
  exact (numS_same (pick (m.blocks.getD k []) us) _ (Nat.le_refl _) i j (by omega) (by omega)).symm
theorem Rel.rest {m' m : Md} {ws us : List Nat} (h : Rel m' m ws) (hn : us.Nodup) (hu : ∀ i ∈ us, i < ws.length) : Rel (restM m' us) m (us.map fun i => ws.getD i 0) := by
  obtain ⟨h1, h2, h3, h4, h5, h6, h7⟩ := h
  have hg : ∀ i, i < us.length → (us.map fun i => ws.getD i 0).getD i 0 = ws.getD (us.getD i 0) 0 := fun i hi => by
    rw [List.getD_eq_getElem?_getD, List.getElem?_map, List.getElem?_eq_getElem hi, List.getD_eq_getElem?_getD (l := us), List.getElem?_eq_getElem hi]; rfl
  have hul : ∀ i, i < us.length → us.getD i 0 < ws.length := fun i hi => hu _ (getD_memN hi)
  refine ⟨by simp [restM, pick_len], ?_, fun i hi => ?_, h4, by rw [← h5]; simp [restM, rawRows_len], fun i hi => ?_, fun k hk i j hi hj => ?_⟩
  · rw [List.nodup_iff_pairwise_ne, List.pairwise_map]
    rw [List.nodup_iff_pairwise_ne] at hn
    refine List.Pairwise.imp_of_mem (fun {a b} ha hb hab e => hab (nodup_getD h2 (hu a ha) (hu b hb) e)) hn
  · obtain ⟨j, hj, rfl⟩ := List.mem_map.1 hi
    exact h3 _ (getD_memN (hu j hj))
  · rw [List.length_map] at hi
    rw [hg i hi, ← h6 _ (hul i hi)]
    unfold restM pick
    simp only
    rw [List.getD_eq_getElem?_getD, List.getElem?_map, List.getElem?_eq_getElem hi, List.getD_eq_getElem?_getD (l := us), List.getElem?_eq_getElem hi]; rfl
  · rw [List.length_map] at hi hj
    rw [hg i hi, hg j hj, ← h7 k hk _ _ (hul i hi) (hul j hj)]
    exact same_pick (by rw [h5]; exact hk) hi hj
end Go.Proofs.YtodjohdbngbpaaaGreat

/-
  Contract of spec.l03Reach, its walk. Condition: the model is valid, there is a bool for each world, and the world is one of the model.
-/
namespace Go.Proofs.YtodjohdbngbpaaaGreat
open Go.RowKit Go.WideShapes
open Go Go.Deep
set_option linter.unusedSimpArgs false

end Go.Proofs.YtodjohdbngbpaaaGreat

/-
  Contract of spec.ReachedFrom. No condition.
-/
namespace Go.Proofs.YtodjohdbngbpaaaGreat
open Go.RowKit Go.WideShapes
open Go Go.Deep
set_option linter.unusedSimpArgs false

theorem lst_cut {p : Nat → Bool} {n : Nat} (h : ∀ i, p i = true → i < n) : ∀ d, lst p (n + d) = lst p n
  | 0 => rfl
  | d + 1 => by
    have hf : p (n + d) = false := by
      cases e : p (n + d) with
      | false => rfl
      | true => have := h _ e; omega
    rw [show n + (d + 1) = (n + d) + 1 by omega, lst_succ, hf, lst_cut h d]; simp
theorem lst_16 {p : Nat → Bool} {n : Nat} (h : ∀ i, p i = true → i < n) (hn : n ≤ 16) : lst p 16 = lst p n := by
  have := lst_cut h (16 - n)
  rw [show n + (16 - n) = 16 by omega] at this
  exact this
end Go.Proofs.YtodjohdbngbpaaaGreat

/-
  The two ways to the truth of a formula agree. No program but its types' numbers.
-/
namespace Go.Proofs.YtodjohdbngbpaaaGreat
open Go.RowKit Go.WideShapes
open Go Go.Deep
set_option linter.unusedSimpArgs false

/-- the agents that a formula names are there -/
def tag : Tm → Nat → Prop
  | .leaf _ _, _ => True
  | .deny a, A => tag a A
  | .know op n a, A => ((op = 5 ∨ op = 6) → n < A) ∧ tag a A
  | .joint _ a b, A => tag a A ∧ tag b A
theorem near_same (m : Md) (i j : Nat) : near m.blocks m.blocks.length i j = (List.range m.blocks.length).any fun k => sameW m k i j := rfl
theorem near_rel {m' m : Md} {ws : List Nat} (h : Rel m' m ws) {i j : Nat} (hi : i < ws.length) (hj : j < ws.length) : near m'.blocks m'.blocks.length i j = near m.blocks m.blocks.length (ws.getD i 0) (ws.getD j 0) := by
  rw [near_same, near_same, h.2.2.2.2.1, Bool.eq_iff_iff, List.any_eq_true, List.any_eq_true]
  constructor
  · rintro ⟨k, hk, e⟩
    exact ⟨k, hk, by rw [← h.2.2.2.2.2.2 k (List.mem_range.1 hk) i j hi hj]; exact e⟩
  · rintro ⟨k, hk, e⟩
    exact ⟨k, hk, by rw [h.2.2.2.2.2.2 k (List.mem_range.1 hk) i j hi hj]; exact e⟩
theorem Rel.lt {m' m : Md} {ws : List Nat} (h : Rel m' m ws) {i : Nat} (hi : i < ws.length) : ws.getD i 0 < m.facts.length := h.2.2.1 _ (getD_memN hi)
theorem memN_at {ws : List Nat} {i : Nat} (hi : i < ws.length) : memN ws (ws.getD i 0) = true := decide_eq_true (getD_memN hi)
theorem reach_rel {m' m : Md} {ws : List Nat} (h : Rel m' m ws) {i j : Nat} (hi : i < ws.length) (hj : j < ws.length) : reachB m'.blocks m'.facts.length m'.blocks.length i j = reachA m (memN ws) (ws.getD i 0) (ws.getD j 0) := by
  have hn : m'.facts.length = ws.length := h.1
  rw [Bool.eq_iff_iff]
  constructor
  · intro e
    have := wsh_least (r := stepP m'.blocks m'.facts.length m'.blocks.length) (T := fun l => decide (l < ws.length) && reachA m (memN ws) (ws.getD i 0) (ws.getD l 0)) (fun a b ha hab => by
      have hab2 := stepP_in hab
      rw [hn] at hab2
      simp only [Bool.and_eq_true, decide_eq_true_eq] at ha ⊢
      refine ⟨hab2.2, wsh_more (fun _ _ => stepA_in) ha.2 ?_⟩
      unfold stepP at hab
      unfold stepA
      simp only [Bool.and_eq_true, decide_eq_true_eq] at hab ⊢
      exact ⟨⟨⟨h.lt hab2.1, h.lt hab2.2⟩, memN_at hab2.2⟩, by rw [← near_rel h hab2.1 hab2.2]; exact hab.2⟩) (i := i) (by simp only [Bool.and_eq_true, decide_eq_true_eq]; exact ⟨hi, wsh_refl _ _ _⟩) e
    simp only [Bool.and_eq_true, decide_eq_true_eq] at this
    exact this.2
  · intro e
    have := wsh_least (r := stepA m (memN ws)) (T := fun v => (List.range ws.length).any fun l => (ws.getD l 0 == v) && reachB m'.blocks m'.facts.length m'.blocks.length i l) (fun a b ha hab => by
      rw [List.any_eq_true] at ha ⊢
      obtain ⟨l, hl, e2⟩ := ha
      rw [List.mem_range] at hl
      simp only [Bool.and_eq_true, beq_iff_eq] at e2
      have hst := hab
      unfold stepA at hab
      simp only [Bool.and_eq_true, decide_eq_true_eq] at hab
      obtain ⟨l2, hl2, e3⟩ := memN_get (of_decide_eq_true hab.1.2)
      refine ⟨l2, List.mem_range.2 hl2, ?_⟩
      simp only [Bool.and_eq_true, beq_iff_eq]
      refine ⟨e3, wsh_more (fun _ _ => stepP_in) e2.2 ?_⟩
      unfold stepP
      simp only [Bool.and_eq_true, decide_eq_true_eq]
      exact ⟨⟨by omega, by omega⟩, by rw [near_rel h hl hl2, e2.1, e3]; exact hab.2⟩) (i := ws.getD i 0) (by
        rw [List.any_eq_true]
        exact ⟨i, List.mem_range.2 hi, by simp only [Bool.and_eq_true, beq_iff_eq]; exact ⟨trivial, wsh_refl _ _ _⟩⟩) e
    rw [List.any_eq_true] at this
    obtain ⟨l, hl, e2⟩ := this
    simp only [Bool.and_eq_true, beq_iff_eq] at e2
    rw [nodup_getD h.2.1 (List.mem_range.1 hl) hj e2.1] at e2
    exact e2.2
/-- all worlds of a scope -/
theorem sub_rel {m' m : Md} {ws : List Nat} (h : Rel m' m ws) {X' P' X P : Nat → Bool} (hX : ∀ j, j < ws.length → X' j = X (ws.getD j 0)) (hP : ∀ j, j < ws.length → P' j = P (ws.getD j 0)) (hin : ∀ j, X' j = true → j < ws.length) :
    subB X' P' = allW m fun v => !(memN ws v && X v) || P v := by
  have hlen := h.len
  rw [Bool.eq_iff_iff]
  unfold subB allW
  rw [List.all_eq_true, List.all_eq_true]
  constructor
  · intro e v _
    cases hv : memN ws v && X v with
    | false => rfl
    | true =>
      rw [Bool.and_eq_true] at hv
      obtain ⟨j, hj, rfl⟩ := memN_get (of_decide_eq_true hv.1)
      have := e j (List.mem_range.2 (by omega))
      rw [hX j hj, hv.2, hP j hj] at this
      simpa using this
  · intro e j _
    cases hx : X' j with
    | false => rfl
    | true =>
      have hj := hin j hx
      have := e (ws.getD j 0) (List.mem_range.2 (h.lt hj))
      rw [memN_at hj, ← hX j hj, hx, ← hP j hj] at this
      simpa using this
theorem cut_at {n i : Nat} {q : Nat → Bool} (h : i < n) : cut n q i = q i := by unfold cut; simp [h]
theorem sameW_symm (m : Md) (k i j : Nat) : sameW m k i j = sameW m k j i := by
  unfold sameW; rw [Bool.eq_iff_iff, beq_iff_eq, beq_iff_eq]; exact ⟨Eq.symm, Eq.symm⟩
theorem blk_same (m : Md) (n k i : Nat) : blkB m.blocks n k i = cut n fun j => sameW m k i j := rfl
theorem beq_tf (b : Bool) : (b == true) = b := by cases b <;> rfl
theorem beq_ff (b : Bool) : (b == false) = !b := by cases b <;> rfl
theorem block_rel {m' m : Md} {ws : List Nat} (h : Rel m' m ws) {k i : Nat} (hk : k < m.blocks.length) (hi : i < ws.length) {P' P : Nat → Bool} (hP : ∀ j, j < ws.length → P' j = P (ws.getD j 0)) :
    subB (blkB m'.blocks m'.facts.length k i) P' = blockW m k (memN ws) P (ws.getD i 0) true := by
  rw [blk_same, sub_rel h (X := fun v => sameW m k v (ws.getD i 0)) (P := P) (fun j hj => by rw [cut_at (by rw [h.1]; exact hj), h.2.2.2.2.2.2 k hk i j hi hj, sameW_symm]) hP (fun j hj => by rw [← h.1]; exact cut_in hj)]
  unfold blockW
  congr 1
  funext v
  rw [beq_tf]

theorem ev_rel : ∀ (t : Tm) (m' m : Md) (ws : List Nat), t.wf → tag t m.blocks.length → Rel m' m ws → ∀ i, i < ws.length → evI t m' i = evS t m (memN ws) (ws.getD i 0)
  | .leaf op n, m', m, ws, _, _, h, i, hi => by
    unfold evI evS
    rw [cut_at (by rw [h.1]; exact hi), memN_at hi, h.2.2.2.2.2.1 i hi]; rfl
  | .deny a, m', m, ws, hw, ht, h, i, hi => by
    unfold evI evS
    rw [cut_at (by rw [h.1]; exact hi), memN_at hi, ev_rel a m' m ws hw ht h i hi]; rfl
  | .know op n a, m', m, ws, hw, ht, h, i, hi => by
    have IH := fun j hj => ev_rel a m' m ws hw.2.2.2 ht.2 h j hj
    have hn0 : 0 ≤ n := hw.2.1
    unfold evI evS
    rw [memN_at hi, Bool.true_and]
    by_cases h6 : op = 6
    · have hk : n.toNat < m.blocks.length := by have := ht.1 (.inr h6); omega
      have hN := block_rel h hk hi (P' := cut m'.facts.length fun i => !evI a m' i) (P := fun v => !evS a m (memN ws) v) (fun j hj => by rw [cut_at (by rw [h.1]; exact hj), IH j hj])
      have hY := block_rel h hk hi (P' := evI a m') (P := evS a m (memN ws)) IH
      have hself : (memN ws (ws.getD i 0) && sameW m n.toNat (ws.getD i 0) (ws.getD i 0)) = true := by rw [memN_at hi]; simp [sameW]
      rw [if_pos h6, if_neg (by omega), if_pos h6, cut_at (by rw [h.1]; exact hi), hY, hN]
      cases hv : evS a m (memN ws) (ws.getD i 0) with
      | true =>
        have : blockW m n.toNat (memN ws) (fun v => !evS a m (memN ws) v) (ws.getD i 0) true = false := by
          unfold blockW allW
          rw [List.all_eq_false]
          exact ⟨ws.getD i 0, List.mem_range.2 (h.lt hi), by simp only [hself, hv]; decide⟩
        rw [this, Bool.or_false]
      | false =>
        have : blockW m n.toNat (memN ws) (evS a m (memN ws)) (ws.getD i 0) true = false := by
          unfold blockW allW
          rw [List.all_eq_false]
          exact ⟨ws.getD i 0, List.mem_range.2 (h.lt hi), by simp only [hself, hv]; decide⟩
        rw [this, Bool.false_or]
        unfold blockW
        congr 1
        funext v
        rw [beq_tf, beq_ff]
    · rw [if_neg h6, cut_at (by rw [h.1]; exact hi)]
      by_cases h5 : op = 5
      · have hk : n.toNat < m.blocks.length := by have := ht.1 (.inl h5); omega
        unfold scopeB
        rw [if_pos h5, if_pos h5, block_rel h hk hi IH]
      · unfold scopeB
        rw [if_neg h5, if_neg h5, if_neg h6]
        by_cases h7 : op = 7
        · rw [if_pos h7, if_pos h7]
          unfold nearB
          rw [sub_rel h (X := fun v => near m.blocks m.blocks.length (ws.getD i 0) v) (P := evS a m (memN ws)) (fun j hj => by rw [cut_at (by rw [h.1]; exact hj), near_rel h hi hj]) IH (fun j hj => by rw [← h.1]; exact cut_in hj)]
          rw [Bool.eq_iff_iff]
          unfold blockW allW
          simp only [List.all_eq_true, List.mem_range, Bool.or_eq_true, Bool.not_eq_true', beq_iff_eq, near_same]
          constructor
          · intro e k hk v hv
            cases hx : memN ws v && sameW m k v (ws.getD i 0) with
            | false => exact .inl rfl
            | true =>
              rw [Bool.and_eq_true] at hx
              rcases e v hv with e | e
              · rw [hx.1, Bool.true_and, List.any_eq_false] at e
                exact absurd (by rw [sameW_symm]; exact hx.2) (e k (List.mem_range.2 hk))
              · exact .inr e
          · intro e v hv
            cases hx : memN ws v && (List.range m.blocks.length).any (fun k => sameW m k (ws.getD i 0) v) with
            | false => exact .inl rfl
            | true =>
              rw [Bool.and_eq_true, List.any_eq_true] at hx
              obtain ⟨hm, k, hk, e2⟩ := hx
              rcases e k (List.mem_range.1 hk) v hv with e | e
              · rw [hm, sameW_symm, e2] at e; cases e
              · exact .inr e
        · rw [if_neg h7, if_neg h7]
          have hin : ∀ j, reachB m'.blocks m'.facts.length m'.blocks.length i j = true → j < ws.length := fun j hj => by rw [← h.1]; exact wsh_in (fun _ _ => stepP_in) (by rw [h.1]; exact hi) hj
          rw [sub_rel h (X := fun v => reachA m (memN ws) (ws.getD i 0) v) (P := evS a m (memN ws)) (fun j hj => reach_rel h hi hj) IH hin]
          rw [Bool.eq_iff_iff]
          unfold allW
          simp only [List.all_eq_true, List.mem_range, Bool.or_eq_true, Bool.not_eq_true']
          have hmem : ∀ v, reachA m (memN ws) (ws.getD i 0) v = true → memN ws v = true := fun v hv =>
            wsh_least (r := stepA m (memN ws)) (T := memN ws) (fun a b _ hab => by unfold stepA at hab; simp only [Bool.and_eq_true] at hab; exact hab.1.2) (memN_at hi) hv
          constructor
          · intro e v hv
            rcases e v hv with e | e
            · cases hr : reachA m (memN ws) (ws.getD i 0) v with
              | false => exact .inl rfl
              | true => rw [hmem v hr, hr] at e; cases e
            · exact .inr e
          · intro e v hv
            rcases e v hv with e | e
            · exact .inl (by rw [e, Bool.and_false])
            · exact .inr e
  | .joint op a b, m', m, ws, hw, ht, h, i, hi => by
    have IHa := fun j hj => ev_rel a m' m ws hw.2.1 ht.1 h j hj
    unfold evI evS
    rw [memN_at hi, Bool.true_and]
    by_cases h4 : op = 4
    · rw [if_pos h4, if_pos h4, cut_at (by rw [h.1]; exact hi), IHa i hi, ev_rel b m' m ws hw.2.2 ht.2 h i hi]
    · rw [if_neg h4, if_neg h4]
      unfold aftB
      have hlen := h.len
      rw [← IHa i hi]
      cases hp : evI a m' i with
      | false => simp [h.1, hi]
      | true =>
        rw [if_pos rfl, Bool.not_true, Bool.false_or]
        have hus : ∀ j ∈ lst (evI a m') 16, j < ws.length := fun j hj => by rw [← h.1]; exact evI_in a m' j (by rw [h.1]; exact hlen) (mem_lst.1 hj).2
        have hR := h.rest (lst_nodup (evI a m') 16) hus
        obtain ⟨h1, h2⟩ := lst_rank hp (show i < 16 by omega)
        have IHb := ev_rel b (restM m' (lst (evI a m') 16)) m _ hw.2.2 ht.2 hR (rank (evI a m') i) (by rw [List.length_map]; exact h1)
        rw [IHb]
        have e1 : ((lst (evI a m') 16).map fun i => ws.getD i 0).getD (rank (evI a m') i) 0 = ws.getD i 0 := by
          rw [List.getD_eq_getElem?_getD, List.getElem?_eq_getElem h1] at h2
          rw [List.getD_eq_getElem?_getD, List.getElem?_map, List.getElem?_eq_getElem h1]
          simp only [Option.getD_some, Option.map_some] at h2 ⊢
          rw [h2]
        have e2 : memN ((lst (evI a m') 16).map fun i => ws.getD i 0) = fun v => memN ws v && evS a m (memN ws) v := by
          funext v
          rw [Bool.eq_iff_iff, Bool.and_eq_true]
          unfold memN
          rw [decide_eq_true_iff, decide_eq_true_iff, List.mem_map]
          constructor
          · rintro ⟨j, hj, rfl⟩
            exact ⟨getD_memN (hus j hj), by have := IHa j (hus j hj); unfold memN at this; rw [← this]; exact (mem_lst.1 hj).2⟩
          · rintro ⟨hv, e⟩
            obtain ⟨j, hj, rfl⟩ := memN_get hv
            exact ⟨j, mem_lst.2 ⟨by omega, by have := IHa j hj; unfold memN at this; rw [this]; exact e⟩, rfl⟩
        rw [e1, e2]
end Go.Proofs.YtodjohdbngbpaaaGreat

/-
  Contracts of spec.l04Block and spec.l04One. Condition: the model is valid, there is a bool for each world.
-/
namespace Go.Proofs.YtodjohdbngbpaaaGreat
open Go.RowKit Go.WideShapes
open Go Go.Deep
set_option linter.unusedSimpArgs false

end Go.Proofs.YtodjohdbngbpaaaGreat

/-
  Contract of spec.l04One. Conditions: the model is valid, there is a bool for each world, the operation has one formula and its agent is one of the model.
-/
namespace Go.Proofs.YtodjohdbngbpaaaGreat
open Go.RowKit Go.WideShapes
open Go Go.Deep
set_option linter.unusedSimpArgs false

end Go.Proofs.YtodjohdbngbpaaaGreat
