/-
  Several texts in one: Kno Rsc Rmz Sem Rsd Rfs Seq Sev Son. Conditions: as each theorem says.
-/
import Derived.Test.YtodjohdbngbpaaaGreatZRch
import Derived.Test.YtodjohdbngbpaaaGreatZSet
import Derived.Test.YtodjohdbngbpaaaGreatZMok
import Derived.Test.YtodjohdbngbpaaaGreatZTerm
/-
  Contracts of impl.KnowsWhich and spec.KnowsWhich. No condition.
-/
namespace Go.Proofs.YtodjohdbngbpaaaGreat
open Go.RowKit Go.WideShapes
open Go Go.Deep
set_option linter.unusedSimpArgs false

/-- a world whose facts are those of the actual one, or that the agent can tell from it -/
def knowsAt (m : Md) (k act w : Nat) : Bool := !((m.blocks.getD k []).getD w 0 == (m.blocks.getD k []).getD act 0) || (m.facts.getD w 0 == m.facts.getD act 0)
theorem knows_sub {m : Md} {k act : Nat} (hn : m.facts.length ≤ 16) : subB (blkB m.blocks m.facts.length k act) (cut m.facts.length fun i => m.facts.getD i 0 == m.facts.getD act 0) = (List.range m.facts.length).all (knowsAt m k act) := by
  rw [Bool.eq_iff_iff]
  unfold subB blkB cut knowsAt
  simp only [List.all_eq_true, List.mem_range, Bool.or_eq_true, Bool.not_eq_true', Bool.and_eq_true, decide_eq_true_eq, beq_iff_eq, Bool.and_eq_false_iff, decide_eq_false_iff_not, beq_eq_false_iff_ne]
  constructor
  · intro h w hw
    rcases h w (by omega) with h1 | h1
    · rcases h1 with h1 | h1
      · exact absurd hw h1
      · exact .inl (fun e => h1 e.symm)
    · exact .inr h1.2
  · intro h w _
    by_cases hw : w < m.facts.length
    · rcases h w hw with h1 | h1
      · exact .inl (.inr (fun e => h1 e.symm))
      · exact .inr ⟨hw, h1⟩
    · exact .inl (.inl hw)

end Go.Proofs.YtodjohdbngbpaaaGreat

/-
  Contract of spec.l03Reach. Condition: the model is valid, there is a bool for each world, and the world is one of the model.
-/
namespace Go.Proofs.YtodjohdbngbpaaaGreat
open Go.RowKit Go.WideShapes
open Go Go.Deep
set_option linter.unusedSimpArgs false

/-- a step of any agent to a world that is alive -/
def stepA (m : Md) (al : Nat → Bool) : Nat → Nat → Bool := fun i j => decide (i < m.facts.length) && decide (j < m.facts.length) && al j && near m.blocks m.blocks.length i j
theorem stepA_in {m : Md} {al : Nat → Bool} {i j : Nat} (h : stepA m al i j = true) : i < m.facts.length ∧ j < m.facts.length := by
  unfold stepA at h
  simp only [Bool.and_eq_true, decide_eq_true_eq] at h
  exact h.1.1
def reachA (m : Md) (al : Nat → Bool) (x : Nat) : Nat → Bool := wsh (stepA m al) m.facts.length x
theorem nodup_len : ∀ (n : Nat) (l : List Nat), l.Nodup → (∀ i ∈ l, i < n) → l.length ≤ n
  | 0, l, _, h => by cases l with
    | nil => simp
    | cons a t => exact absurd (h a (List.mem_cons_self ..)) (by omega)
  | n + 1, l, hn, h => by
    have h1 := nodup_len n (l.erase n) (hn.erase n) (fun i hi => by
      have h2 := (hn.mem_erase_iff).1 hi
      have := h i h2.2
      omega)
    rw [List.length_erase] at h1
    split at h1 <;> omega
/-- the queue and what it has been held against: t of its worlds are done -/
def bfs (r : Nat → Nat → Bool) (n x : Nat) (q : List Nat) (t : Nat) : Prop :=
  q.Nodup ∧ (∀ i ∈ q, i < n) ∧ x ∈ q ∧ (∀ i ∈ q, wsh r n x i = true) ∧ ∀ s, s < t → ∀ j, r (q.getD s 0) j = true → j ∈ q
def doneTo (r : Nat → Nat → Bool) (q : List Nat) (u j : Nat) : Prop := ∀ i, i < j → r u i = true → i ∈ q
def doneA (m : Md) (al : Nat → Bool) (q : List Nat) (u j k : Nat) : Prop := ∀ a, a < k → al j = true → (m.blocks.getD a []).getD j 0 = (m.blocks.getD a []).getD u 0 → j ∈ q
theorem bfs_0 {r : Nat → Nat → Bool} {n x : Nat} (hx : x < n) : bfs r n x [x] 0 :=
  ⟨by simp, fun i hi => by simp at hi; omega, by simp, fun i hi => by simp at hi; subst hi; exact wsh_refl _ _ _, fun s h => by omega⟩
theorem getD_appN {q : List Nat} {j s : Nat} (h : s < q.length) : (q ++ [j]).getD s 0 = q.getD s 0 := by
  rw [List.getD_eq_getElem?_getD, List.getElem?_append_left h, ← List.getD_eq_getElem?_getD]
theorem bfs_push {r : Nat → Nat → Bool} {n x : Nat} {q : List Nat} {t u j : Nat} (hr : ∀ i j, r i j = true → i < n ∧ j < n) (h : bfs r n x q t) (ht : t < q.length) (hu : q.getD t 0 = u) (hj : j ∉ q) (e : r u j = true) : bfs r n x (q ++ [j]) t := by
  obtain ⟨h1, h2, h3, h4, h5⟩ := h
  have hum : u ∈ q := by rw [← hu, List.getD_eq_getElem?_getD, List.getElem?_eq_getElem ht]; exact List.getElem_mem _
  refine ⟨?_, fun i hi => ?_, List.mem_append_left _ h3, fun i hi => ?_, fun s hs i hi => ?_⟩
  · rw [List.nodup_append]
    exact ⟨h1, by simp, fun a ha b hb e2 => by simp at hb; subst hb; subst e2; exact hj ha⟩
  · rcases List.mem_append.1 hi with hi | hi
    · exact h2 i hi
    · simp at hi; subst hi; exact (hr _ _ e).2
  · rcases List.mem_append.1 hi with hi | hi
    · exact h4 i hi
    · simp at hi; subst hi; exact wsh_more hr (h4 u hum) e
  · rw [getD_appN (by omega)] at hi
    exact List.mem_append_left _ (h5 s hs i hi)
theorem bfs_next {r : Nat → Nat → Bool} {n x : Nat} {q : List Nat} {t u : Nat} (h : bfs r n x q t) (hr : ∀ i j, r i j = true → i < n ∧ j < n) (hu : q.getD t 0 = u) (hd : doneTo r q u n) : bfs r n x q (t + 1) := by
  obtain ⟨h1, h2, h3, h4, h5⟩ := h
  refine ⟨h1, h2, h3, h4, fun s hs i hi => ?_⟩
  rcases Nat.lt_or_eq_of_le (Nat.le_of_lt_succ hs) with h6 | h6
  · exact h5 s h6 i hi
  · subst h6; rw [hu] at hi; exact hd i (hr _ _ hi).2 hi
theorem doneTo_push {r : Nat → Nat → Bool} {q : List Nat} {u j k : Nat} (h : doneTo r q u j) : doneTo r (q ++ [k]) u j := fun i hi e => List.mem_append_left _ (h i hi e)
theorem doneTo_next {m : Md} {al : Nat → Bool} {q : List Nat} {u j : Nat} (h : doneTo (stepA m al) q u j) (h2 : doneA m al q u j m.blocks.length) : doneTo (stepA m al) q u (j + 1) := by
  intro i hi e
  rcases Nat.lt_or_eq_of_le (Nat.le_of_lt_succ hi) with h6 | h6
  · exact h i h6 e
  · subst h6
    unfold stepA near at e
    simp only [Bool.and_eq_true, decide_eq_true_eq, List.any_eq_true, List.mem_range, beq_iff_eq] at e
    obtain ⟨⟨_, ha⟩, k, hk, e⟩ := e
    exact h2 k hk ha e.symm
theorem doneA_next {m : Md} {al : Nat → Bool} {q : List Nat} {u j k : Nat} (h : doneA m al q u j k) (h2 : al j = true → (m.blocks.getD k []).getD j 0 = (m.blocks.getD k []).getD u 0 → j ∈ q) : doneA m al q u j (k + 1) := by
  intro a ha h3 h4
  rcases Nat.lt_or_eq_of_le (Nat.le_of_lt_succ ha) with h6 | h6
  · exact h a h6 h3 h4
  · subst h6; exact h2 h3 h4
theorem stepA_yes {m : Md} {al : Nat → Bool} {u j k : Nat} (hu : u < m.facts.length) (hj : j < m.facts.length) (ha : al j = true) (hk : k < m.blocks.length) (e : (m.blocks.getD k []).getD j 0 = (m.blocks.getD k []).getD u 0) : stepA m al u j = true := by
  unfold stepA near
  simp only [Bool.and_eq_true, decide_eq_true_eq, List.any_eq_true, List.mem_range, beq_iff_eq]
  exact ⟨⟨⟨hu, hj⟩, ha⟩, k, hk, e.symm⟩
/-- which worlds stand in the queue -/
def seenL (n : Nat) (q : List Nat) : List Bool := (List.range n).map fun i => decide (i ∈ q)
theorem seenL_len (n : Nat) (q : List Nat) : (seenL n q).length = n := by simp [seenL]
theorem seenL_get {n j : Nat} {q : List Nat} (h : j < n) : (bools (seenL n q))[j]? = some (.bool (decide (j ∈ q))) := by
  unfold bools seenL; rw [List.getElem?_map, List.getElem?_map, List.getElem?_range h]; rfl
theorem seenL_push {n j : Nat} {q : List Nat} : (bools (seenL n q)).set j (.bool true) = bools (seenL n (q ++ [j])) := by
  rw [bools_set]
  congr 1
  unfold seenL
  apply List.ext_getElem?
  intro i
  rcases Nat.lt_or_ge i n with hi | hi
  · by_cases e : j = i
    · subst e; rw [List.getElem?_set_self (by simpa using hi), List.getElem?_map, List.getElem?_range hi]; simp
    · rw [List.getElem?_set_ne e, List.getElem?_map, List.getElem?_map, List.getElem?_range hi]
      simp [show ¬ i = j from fun h => e h.symm]
  · rw [List.getElem?_eq_none (by simpa using hi), List.getElem?_eq_none (by simpa using hi)]
theorem bfs_end {r : Nat → Nat → Bool} {n x : Nat} {q : List Nat} {t : Nat} (h : bfs r n x q t) (ht : q.length ≤ t) : seenL n q = (List.range n).map (wsh r n x) := by
  obtain ⟨h1, h2, h3, h4, h5⟩ := h
  unfold seenL
  refine List.map_congr_left fun i _ => ?_
  refine wsh_unique (S := fun i => decide (i ∈ q)) (decide_eq_true h3) (fun i j hi e => ?_) (fun j hj => h4 j (of_decide_eq_true hj)) i
  have hi := of_decide_eq_true hi
  obtain ⟨s, hs, e2⟩ := List.getElem_of_mem hi
  refine decide_eq_true (h5 s (by omega) j ?_)
  rw [List.getD_eq_getElem?_getD, List.getElem?_eq_getElem hs]
  simp only [Option.getD_some]
  rw [e2]; exact e
end Go.Proofs.YtodjohdbngbpaaaGreat

/-
  What RestrictModel answers, in mathematics. No program but its types' numbers.
-/
namespace Go.Proofs.YtodjohdbngbpaaaGreat
open Go.RowKit Go.WideShapes
open Go Go.Deep
set_option linter.unusedSimpArgs false

theorem memP_bd {l : List Int} {n : Nat} (h : ascOk l n = true) : ∀ i, memP l i = true → i < n := fun i hi => by
  have hok : okTo l n l.length := of_decide_eq_true h
  obtain ⟨j, hj, e⟩ := List.getElem_of_mem (of_decide_eq_true hi)
  have h1 := hok j hj
  rw [List.getD_eq_getElem?_getD, List.getElem?_eq_getElem hj] at h1
  simp only [Option.getD_some] at h1
  omega
/-- what RestrictModel answers -/
def restrR (m : Md) (l : List Int) : Option Md := if mdOk m && ascOk l m.facts.length && l.contains m.actual then some (restM m (lst (memP l) 16)) else none
theorem rest_fits {m : Md} (h : mdOk m = true) (ws : List Nat) (hw : ws.length ≤ 16) : fits (restM m ws) := by
  obtain ⟨p1, p2, p3, p4, _⟩ := mdOk_parts h
  unfold restM
  refine ⟨by rw [pick_len]; exact hw, by rw [List.length_map, rawRows_len]; exact p4, fun k hk => ?_⟩
  simp only [List.length_map, rawRows_len] at hk
  rw [pick_len, List.getD_eq_getElem?_getD, List.getElem?_map]
  have := rawRows_get m ws hk
  rw [List.getD_eq_getElem?_getD] at this
  rw [List.getElem?_eq_getElem (by rw [rawRows_len]; exact hk)] at this ⊢
  simp only [Option.map_some, Option.getD_some] at this ⊢
  rw [num_len, this, pick_len]
end Go.Proofs.YtodjohdbngbpaaaGreat

/-
  The truth of a formula in the worlds of a model, in mathematics: the program's way (restricted models) and the specification's (worlds that are alive); they agree. No program but its types' numbers.
-/
namespace Go.Proofs.YtodjohdbngbpaaaGreat
open Go.RowKit Go.WideShapes
open Go Go.Deep
set_option linter.unusedSimpArgs false

/-- how many members lie below a world -/
def rank (p : Nat → Bool) (w : Nat) : Nat := (lst p w).length
/-- the worlds where p was announced and q held after it, those where p is false -/
def aftK (n : Nat) (p q : Nat → Bool) (k : Nat) : Nat → Bool := fun w => if p w && decide (rank p w < k) then q (rank p w) else decide (w < n) && !p w
def aftB (n : Nat) (p q : Nat → Bool) : Nat → Bool := fun w => if p w then q (rank p w) else decide (w < n) && !p w
theorem lst_pre (p : Nat → Bool) (k : Nat) : ∀ d, ∃ r, lst p (k + d) = lst p k ++ r
  | 0 => ⟨[], by simp⟩
  | d + 1 => by
    obtain ⟨r, h⟩ := lst_pre p k d
    exact ⟨r ++ (if p (k + d) then [k + d] else []), by rw [show k + (d + 1) = (k + d) + 1 by omega, lst_succ, h, List.append_assoc]⟩
theorem lst_rank {p : Nat → Bool} {w : Nat} (hp : p w = true) (hw : w < 16) : rank p w < (lst p 16).length ∧ (lst p 16).getD (rank p w) 0 = w := by
  obtain ⟨r, h⟩ := lst_pre p (w + 1) (16 - (w + 1))
  have h2 := lst_succ p w
  rw [if_pos hp] at h2
  rw [show w + 1 + (16 - (w + 1)) = 16 by omega, h2] at h
  unfold rank
  rw [h]
  refine ⟨by simp, ?_⟩
  rw [List.getD_eq_getElem?_getD, List.append_assoc, List.getElem?_append_right (Nat.le_refl _), Nat.sub_self]; rfl
theorem nodup_getD {l : List Nat} (hnd : l.Nodup) {i j : Nat} (hi : i < l.length) (hj : j < l.length) (e : l.getD i 0 = l.getD j 0) : i = j := by
  rw [List.getD_eq_getElem?_getD, List.getElem?_eq_getElem hi, List.getD_eq_getElem?_getD, List.getElem?_eq_getElem hj] at e
  simp only [Option.getD_some] at e
  rw [List.nodup_iff_pairwise_ne, List.pairwise_iff_getElem] at hnd
  rcases Nat.lt_trichotomy i j with h | h | h
  · exact absurd e (hnd i j hi hj h)
  · exact h
  · exact absurd e.symm (hnd j i hj hi h)
theorem rank_lst {p : Nat → Bool} {k : Nat} (hk : k < (lst p 16).length) : p ((lst p 16).getD k 0) = true ∧ (lst p 16).getD k 0 < 16 ∧ rank p ((lst p 16).getD k 0) = k := by
  have hm : (lst p 16).getD k 0 ∈ lst p 16 := by rw [List.getD_eq_getElem?_getD, List.getElem?_eq_getElem hk]; exact List.getElem_mem _
  obtain ⟨h1, h2⟩ := mem_lst.1 hm
  obtain ⟨h3, h4⟩ := lst_rank h2 h1
  exact ⟨h2, h1, nodup_getD (lst_nodup p 16) h3 hk h4⟩
theorem aftK_0 (n : Nat) (p q : Nat → Bool) : aftK n p q 0 = cut n fun i => !p i := by
  funext w; unfold aftK cut; simp
theorem aftK_upd {n k : Nat} {p q : Nat → Bool} (hk : k < (lst p 16).length) : upd (aftK n p q k) ((lst p 16).getD k 0) (q k) = aftK n p q (k + 1) := by
  obtain ⟨h1, h2, h3⟩ := rank_lst hk
  funext w
  unfold upd aftK
  by_cases e : w = (lst p 16).getD k 0
  · rw [if_pos e, e, h1, h3]; simp
  · rw [if_neg e]
    cases hp : p w with
    | false => simp
    | true =>
      have hne : w < 16 → rank p w ≠ k := fun hw e2 => e (by have := (lst_rank hp hw).2; rw [e2] at this; exact this.symm)
      by_cases hw : w < 16
      · have hne := hne hw
        have : decide (rank p w < k + 1) = decide (rank p w < k) := by rw [decide_eq_decide]; omega
        rw [this]
      · have hge : (lst p 16).length ≤ rank p w := by
          obtain ⟨r, h⟩ := lst_pre p 16 (w - 16)
          rw [show 16 + (w - 16) = w by omega] at h
          unfold rank; rw [h]; simp
        have h5 : ¬ rank p w < k + 1 := by omega
        have h6 : ¬ rank p w < k := by omega
        simp [h5, h6]
theorem aftK_end {n : Nat} {p q : Nat → Bool} {k : Nat} (hk : (lst p 16).length ≤ k) : bL (aftK n p q k) = bL (aftB n p q) := by
  refine bL_congr fun w hw => ?_
  unfold aftK aftB
  cases hp : p w with
  | false => simp
  | true =>
    have := (lst_rank hp hw).1
    have h5 : rank p w < k := by omega
    simp [h5]

/-- the worlds that count for what is known -/
def scopeB (op : Int) (n : Nat) (m : Md) (w : Nat) : Nat → Bool := if op = 5 then blkB m.blocks m.facts.length n w else if op = 7 then nearB m.blocks m.facts.length m.blocks.length w else reachB m.blocks m.facts.length m.blocks.length w
/-- the program's way -/
def evI : Tm → Md → Nat → Bool
  | .leaf op n, m => cut m.facts.length fun w => if op = 1 then bitI (m.facts.getD w 0) n.toNat == 1 else true
  | .deny a, m => cut m.facts.length fun i => !evI a m i
  | .know op n a, m => if op = 6 then cut m.facts.length fun w => subB (blkB m.blocks m.facts.length n.toNat w) (evI a m) || subB (blkB m.blocks m.facts.length n.toNat w) (cut m.facts.length fun i => !evI a m i)
      else cut m.facts.length fun w => subB (scopeB op n.toNat m w) (evI a m)
  | .joint op a b, m => if op = 4 then cut m.facts.length fun w => evI a m w && evI b m w else aftB m.facts.length (evI a m) (evI b (restM m (lst (evI a m) 16)))
theorem cut_in {n i : Nat} {q : Nat → Bool} (h : cut n q i = true) : i < n := by
  unfold cut at h; rw [Bool.and_eq_true, decide_eq_true_eq] at h; exact h.1
theorem evI_in : ∀ (t : Tm) (m : Md) (i : Nat), m.facts.length ≤ 16 → evI t m i = true → i < m.facts.length
  | .leaf _ _, _, _, _, h => by unfold evI at h; exact cut_in h
  | .deny _, _, _, _, h => by unfold evI at h; exact cut_in h
  | .know op _ _, _, _, _, h => by unfold evI at h; split at h <;> exact cut_in h
  | .joint op a b, m, i, hn, h => by
    unfold evI at h
    split at h
    · exact cut_in h
    · unfold aftB at h
      split at h
      · rename_i hp; exact evI_in a m i hn hp
      · simp only [Bool.and_eq_true, decide_eq_true_eq] at h; exact h.1
/-- for all worlds of a model -/
def allW (m : Md) (q : Nat → Bool) : Bool := (List.range m.facts.length).all q
def sameW (m : Md) (k v w : Nat) : Bool := (m.blocks.getD k []).getD v 0 == (m.blocks.getD k []).getD w 0
def blockW (m : Md) (k : Nat) (al tr : Nat → Bool) (w : Nat) (want : Bool) : Bool := allW m fun v => !(al v && sameW m k v w) || tr v == want
/-- the specification's way -/
def evS : Tm → Md → (Nat → Bool) → Nat → Bool
  | .leaf op n, m, al => fun w => al w && (if op = 1 then bitI (m.facts.getD w 0) n.toNat == 1 else true)
  | .deny a, m, al => fun w => al w && !evS a m al w
  | .know op n a, m, al => fun w => al w && (if op = 5 then blockW m n.toNat al (evS a m al) w true else if op = 6 then blockW m n.toNat al (evS a m al) w (evS a m al w)
      else if op = 7 then (List.range m.blocks.length).all fun k => blockW m k al (evS a m al) w true else allW m fun v => !reachA m al w v || evS a m al v)
  | .joint op a b, m, al => fun w => al w && (if op = 4 then evS a m al w && evS b m al w else !evS a m al w || evS b m (fun v => al v && evS a m al v) w)

/-- m' is the model of the worlds ws of m -/
def Rel (m' m : Md) (ws : List Nat) : Prop :=
  m'.facts.length = ws.length ∧ ws.Nodup ∧ (∀ i ∈ ws, i < m.facts.length) ∧ m.facts.length ≤ 16 ∧ m'.blocks.length = m.blocks.length ∧ (∀ i, i < ws.length → m'.facts.getD i 0 = m.facts.getD (ws.getD i 0) 0) ∧
    ∀ k, k < m.blocks.length → ∀ i j, i < ws.length → j < ws.length → sameW m' k i j = sameW m k (ws.getD i 0) (ws.getD j 0)
def memN (ws : List Nat) : Nat → Bool := fun i => decide (i ∈ ws)
theorem getD_memN {ws : List Nat} {i : Nat} (h : i < ws.length) : ws.getD i 0 ∈ ws := by rw [List.getD_eq_getElem?_getD, List.getElem?_eq_getElem h]; exact List.getElem_mem _
theorem memN_get {ws : List Nat} {v : Nat} (h : v ∈ ws) : ∃ i, i < ws.length ∧ ws.getD i 0 = v := by
  obtain ⟨i, hi, e⟩ := List.getElem_of_mem h
  exact ⟨i, hi, by rw [List.getD_eq_getElem?_getD, List.getElem?_eq_getElem hi]; exact e⟩
theorem Rel.len {m' m : Md} {ws : List Nat} (h : Rel m' m ws) : ws.length ≤ 16 := by
  have := nodup_len m.facts.length ws h.2.1 h.2.2.1
  have := h.2.2.2.1
  omega
theorem Rel.self {m : Md} (h : m.facts.length ≤ 16) : Rel m m (List.range m.facts.length) := by
  have hg : ∀ i, i < m.facts.length → (List.range m.facts.length).getD i 0 = i := fun i hi => by rw [List.getD_eq_getElem?_getD, List.getElem?_range hi]; rfl
  refine ⟨by simp, List.nodup_range, fun i hi => List.mem_range.1 hi, h, rfl, fun i hi => ?_, fun k _ i j hi hj => ?_⟩
  · rw [hg i (by simpa using hi)]
  · rw [hg i (by simpa using hi), hg j (by simpa using hj)]
theorem same_pick {m : Md} {us : List Nat} {k i j : Nat} (hk : k < m.blocks.length) (hi : i < us.length) (hj : j < us.length) : sameW (restM m us) k i j = sameW m k (us.getD i 0) (us.getD j 0) := by
  have hl : (pick (m.blocks.getD k []) us).length = us.length := pick_len _ _
  have hrow : (restM m us).blocks.getD k [] = num (pick (m.blocks.getD k []) us) := by
    unfold restM
    simp only
    rw [List.getD_eq_getElem?_getD, List.getElem?_map, ← rawRows_get m us hk, List.getD_eq_getElem?_getD, List.getElem?_eq_getElem (by rw [rawRows_len]; exact hk)]; rfl
  have hp : ∀ i, i < us.length → (pick (m.blocks.getD k []) us).getD i 0 = (m.blocks.getD k []).getD (us.getD i 0) 0 := fun i hi => by
    unfold pick
    rw [List.getD_eq_getElem?_getD, List.getElem?_map, List.getElem?_eq_getElem hi, List.getD_eq_getElem?_getD (l := us), List.getElem?_eq_getElem hi]; rfl
  unfold sameW
  rw [hrow, ← hp i hi, ← hp j hj, Bool.eq_iff_iff, beq_iff_eq, beq_iff_eq]
  exact (numS_same (pick (m.blocks.getD k []) us) _ (Nat.le_refl _) i j (by omega) (by omega)).symm
theorem Rel.rest {m' m : Md} {ws us : List Nat} (h : Rel m' m ws) (hn : us.Nodup) (hu : ∀ i ∈ us, i < ws.length) : Rel (restM m' us) m (us.map fun i => ws.getD i 0) := by
  obtain ⟨h1, h2, h3, h4, h5, h6, h7⟩ := h
  have hg : ∀ i, i < us.length → (us.map fun i => ws.getD i 0).getD i 0 = ws.getD (us.getD i 0) 0 := fun i hi => by
    rw [List.getD_eq_getElem?_getD, List.getElem?_map, List.getElem?_eq_getElem hi, List.getD_eq_getElem?_getD (l := us), List.getElem?_eq_getElem hi]; rfl
  have hul : ∀ i, i < us.length → us.getD i 0 < ws.length := fun i hi => hu _ (getD_memN hi)
  refine ⟨by simp [restM, pick_len], ?_, fun i hi => ?_, h4, by rw [← h5]; simp [restM, rawRows_len], fun i hi => ?_, fun k hk i j hi hj => ?_⟩
  · rw [List.nodup_iff_pairwise_ne, List.pairwise_map]
    rw [List.nodup_iff_pairwise_ne] at hn
    refine List.Pairwise.imp_of_mem (fun {a b} ha hb hab e => hab (nodup_getD h2 (hu a ha) (hu b hb) e)) hn
  · obtain ⟨j, hj, rfl⟩ := List.mem_map.1 hi
    exact h3 _ (getD_memN (hu j hj))
  · rw [List.length_map] at hi
    rw [hg i hi, ← h6 _ (hul i hi)]
    unfold restM pick
    simp only
    rw [List.getD_eq_getElem?_getD, List.getElem?_map, List.getElem?_eq_getElem hi, List.getD_eq_getElem?_getD (l := us), List.getElem?_eq_getElem hi]; rfl
  · rw [List.length_map] at hi hj
    rw [hg i hi, hg j hj, ← h7 k hk _ _ (hul i hi) (hul j hj)]
    exact same_pick (by rw [h5]; exact hk) hi hj
end Go.Proofs.YtodjohdbngbpaaaGreat

/-
  Contract of spec.l03Reach, its walk. Condition: the model is valid, there is a bool for each world, and the world is one of the model.
-/
namespace Go.Proofs.YtodjohdbngbpaaaGreat
open Go.RowKit Go.WideShapes
open Go Go.Deep
set_option linter.unusedSimpArgs false

set_option maxRecDepth 100000 in
set_option maxHeartbeats 32000000 in
theorem specReach_any (lo hi lo2 hi2 : Nat) (v v2 : Value) (m : Md) (al : List Bool) (x : Nat) (w : World) (hr : Mv lo hi w v m) (hm : mdOk m = true) (hr2 : Bv lo2 hi2 w v2 al) (hal : al.length = m.facts.length) (hx : x < m.facts.length) :
    Calls Tryz.prog 194 #[v, v2, .int .i64 x] w (BoolsAns w ((List.range m.facts.length).map (reachA m (fun i => al.getD i false) x))) := by
  obtain ⟨p1, p2, p3, p4, p5, -⟩ := mdOk_parts hm
  have PR := Lib.hid (fun k hk => (p5 k hk).1)
  obtain ⟨fv, bv0, rfl, hf, hb⟩ := hr
  obtain ⟨fa, fc, e1⟩ := hf.form
  subst e1
  obtain ⟨ba, bc, e1, hbl, hbc, -⟩ := hb.parts
  subst e1
  unfold maxLen at hbc
  obtain ⟨ab, ao, ac, rfl, hac, hacm, -, -, hab, hacell⟩ := hr2.cells (by omega)
  rw [hal] at hac hacell ⊢
  unfold maxLen at hacm
  obtain ⟨alf, half⟩ : ∃ f : Nat → Bool, f = fun i => al.getD i false := ⟨_, rfl⟩
  have HAL : Hid (∀ W, Below w.heap.size w W → ∀ j, j < m.facts.length → W.cell? ⟨ab, ao + j, none⟩ = some (.bool (alf j))) := Lib.hid (fun W hW j hj => (hW.cell (p := ⟨ab, ao + j, none⟩) hab).trans (by rw [hacell j hj, half]))
  rw [← half]
  have HCB : Hid (∀ W, Below w.heap.size w W → ∀ j, j < m.blocks.length → ∃ b o ub uo uc, ba = some ⟨b, o, none⟩ ∧ b < w.heap.size ∧ m.facts.length ≤ uc ∧ uc ≤ 2 ^ 63 - 1 ∧ W.cell? ⟨b, o + j, none⟩ = some (.slice (some ⟨ub, uo, none⟩) m.facts.length uc) ∧ ub < w.heap.size ∧ ∀ i, i < m.facts.length → W.cell? ⟨ub, uo + i, none⟩ = some (.int .i64 ((m.blocks.getD j []).getD i 0))) := Lib.hid (fun W hW j hj => by
    obtain ⟨b, o, u, e, _, _, hlt, hc, hu⟩ := hb.row rfl j hj
    have hrl := PR.out j hj
    obtain ⟨ua, uc, e2, h1, h2, _⟩ := hu.parts
    subst e2
    obtain ⟨ub, uo, e2⟩ := hu.addr (by omega)
    subst e2
    obtain ⟨a', cap', e3, _, _, h4⟩ := hu.parts
    cases e3
    obtain ⟨b4, o4, e4, _, _, hlt4, _⟩ := h4 0 (by omega)
    cases e4
    refine ⟨b, o, ub, uo, uc, e, hlt, by omega, h2, (hW.cell (p := ⟨b, o + j, none⟩) hlt).trans (by rw [hc, hrl]), hlt4, fun i hi => ?_⟩
    obtain ⟨b', o', e5, hc5⟩ := hu.at' hW i (by omega)
    cases e5; exact hc5)
  have HST : Hid (∀ i j, stepA m alf i j = true → i < m.facts.length ∧ j < m.facts.length) := Lib.hid (fun i j => stepA_in)
  have HRD : Hid (reachA m alf x = wsh (stepA m alf) m.facts.length x) := Lib.hid rfl
  rw [HRD.out]
  have hx0 : (0 : Int) ≤ (x : Int) := Int.natCast_nonneg _
  have hxn : (x : Int) < (m.facts.length : Int) := by omega
  have hlen : (m.facts.length : Int) ≤ 16 := by omega
  clear hf hb hr2 hm hal hacell half p5 HRD
  have H16 := Lib.hid p2
  have HMK : Hid (bools (List.replicate m.facts.length false) = bools (seenL m.facts.length [])) := Lib.hid (by
    congr 1; unfold seenL
    apply List.ext_getElem?
    intro i
    rcases Nat.lt_or_ge i m.facts.length with h | h
    · rw [List.getElem?_replicate, if_pos h, List.getElem?_map, List.getElem?_range h]; rfl
    · rw [List.getElem?_eq_none (by simpa using h), List.getElem?_eq_none (by simpa using h)])
  go_enter Tryz.func194, Tryz.ntmps194
  have tk1 : True := trivial
  go_wp2_with
    (first
      | (have _t := tk1; clear _t tk1; refine wpList_makeM rfl (.tmp 15) (.tmp 15) 158 16 rfl rfl 4 (.bool false) 1 Tryz.underlying158 Tryz.infoB m.facts.length .i64 .i64 rfl rfl (by omega) (by unfold maxLen; omega) (bools (List.replicate m.facts.length false)) (madeB m.facts.length) ?_
         intro w1 hz hb1
         rw [HMK.out] at hz
         have X1 := Lib.hid (Mcell.below (Mcell.new (w := w) (T := 26) (b := w.heap.size) (fv := .slice fa m.facts.length fc) (bv := .slice ba m.blocks.length bc) (n := m.actual) rfl) hb1)
         have Z1 : Hid (Cm w1 (w.heap.size + 1) 4 (bools (seenL m.facts.length []))) := Lib.hid (by simpa using hz)
         have B1 : Hid (Below w.heap.size w w1) := Lib.hid (Below.trans (by go_grown) (hb1.mono (by simp)))
         have hq1 : w.heap.size + 1 < w1.heap.size := Z1.out.lt
         have ck : (w1.alloc (.cells #[.int .i64 x] 3)).cell? ⟨w.heap.size + 1, x, none⟩ = some (.bool (decide (x ∈ []))) := by rw [(Z1.out.alloc _).cell]; exact seenL_get (by omega)
         have fk : (w1.alloc (.cells #[.int .i64 x] 3)).frozen? ⟨w.heap.size + 1, x, none⟩ = false := (Z1.out.alloc _).frozen _
         clear hz hb1))
  clear ck fk
  have hsz : (w1.setCell ⟨w.heap.size + 1, x, none⟩ (.bool true)).heap.size = w1.heap.size := by simp [World.setCell]
  have X2 := Lib.hid ((X1.out.other (b' := w.heap.size + 1) (by omega) x (.bool true)).alloc (.cells #[.int .i64 x] 3))
  have Z2 : Hid (Cm ((w1.setCell ⟨w.heap.size + 1, x, none⟩ (.bool true)).alloc (.cells #[.int .i64 x] 3)) (w.heap.size + 1) 4 (bools (seenL m.facts.length [x]))) := Lib.hid (by have h := (Z1.out.set x (.bool true)).alloc (.cells #[.int .i64 x] 3); rw [seenL_push] at h; exact h)
  have B2 : Hid (Below w.heap.size w ((w1.setCell ⟨w.heap.size + 1, x, none⟩ (.bool true)).alloc (.cells #[.int .i64 x] 3))) := Lib.hid ((B1.out.setCell (by show _ ≤ w.heap.size + 1; omega) _).alloc (by rw [hsz]; omega) _)
  have Q2 : Hid (((w1.setCell ⟨w.heap.size + 1, x, none⟩ (.bool true)).alloc (.cells #[.int .i64 x] 3)).ownsRow w1.heap.size 3 1 (.slice (some ⟨w1.heap.size, 0, none⟩) 1 1) [x].length (ints (nums [x]))) := Lib.hid (by
    have h := World.ownsRow_lit (base := w1.heap.size) (e := 3) (size := 1) (w1.setCell ⟨w.heap.size + 1, x, none⟩ (.bool true)) #[.int .i64 x] 1 (by rw [hsz]; exact Nat.le_refl _) (by decide) rfl
    rw [hsz] at h; exact h)
  have hz2 : w1.heap.size ≤ ((w1.setCell ⟨w.heap.size + 1, x, none⟩ (.bool true)).alloc (.cells #[.int .i64 x] 3)).heap.size := by simp [World.setCell]
  clear X1 Z1 B1 HMK hsz
  generalize (w1.setCell ⟨w.heap.size + 1, x, none⟩ (.bool true)).alloc (.cells #[.int .i64 x] 3) = w2 at *
  go_loopw [8, 9] (fun qv iv wr => ∃ (t : Nat) (q : List Nat) (qv' : Value), iv = .int .i64 t ∧ qv' = qv ∧ t ≤ q.length ∧ Hid (bfs (stepA m alf) m.facts.length x q t) ∧ Hid (wr.ownsRow w1.heap.size 3 1 qv' q.length (ints (nums q))) ∧ Hid (Cm wr (w.heap.size + 1) 4 (bools (seenL m.facts.length q))) ∧ Hid (Mcell wr w.heap.size (.slice fa m.facts.length fc) (.slice ba m.blocks.length bc) m.actual) ∧ Hid (Below w.heap.size w wr) ∧ w1.heap.size ≤ wr.heap.size) (fun _ iv _ => m.facts.length - (intOf iv).toNat)
  case atStart => exact ⟨0, [x], _, rfl, rfl, Nat.zero_le _, Lib.hid (bfs_0 (by omega)), Q2, Z2, X2, B2, hz2⟩
  case round =>
    clear X2 Z2 B2 Q2 hz2
    obtain ⟨t, q, qv, rfl, rfl, htq, HB, QR, ZR, XR, BR, hwr⟩ := hrel
    have hqn := nodup_len m.facts.length q HB.out.1 HB.out.2.1
    obtain ⟨qa, qc, e1⟩ := own_form QR.out
    subst e1
    by_cases hlt : t < q.length
    · have hut : q.getD t 0 < m.facts.length := HB.out.2.1 _ (by rw [List.getD_eq_getElem?_getD, List.getElem?_eq_getElem hlt]; exact List.getElem_mem _)
      have HU0 : ∃ u, Hid (q.getD t 0 = u) ∧ u < m.facts.length := ⟨_, Lib.hid rfl, hut⟩
      obtain ⟨u, HU, hun⟩ := HU0
      clear hut
      go_wp2
      go_loopw [8, 30] (fun qv iv wr => ∃ (j : Nat) (q : List Nat) (qv' : Value), iv = .int .i64 j ∧ qv' = qv ∧ j ≤ m.facts.length ∧ t < q.length ∧ Hid (q.getD t 0 = u) ∧ Hid (bfs (stepA m alf) m.facts.length x q t) ∧ Hid (doneTo (stepA m alf) q u j) ∧ Hid (wr.ownsRow w1.heap.size 3 1 qv' q.length (ints (nums q))) ∧ Hid (Cm wr (w.heap.size + 1) 4 (bools (seenL m.facts.length q))) ∧ Hid (Mcell wr w.heap.size (.slice fa m.facts.length fc) (.slice ba m.blocks.length bc) m.actual) ∧ Hid (Below w.heap.size w wr) ∧ w1.heap.size ≤ wr.heap.size) (fun _ iv _ => m.facts.length - (intOf iv).toNat)
      case atStart => exact ⟨0, q, _, rfl, rfl, Nat.zero_le _, hlt, HU, HB, Lib.hid (fun i hi => by omega), QR, ZR, XR, BR, hwr⟩
      case round =>
        clear HU HB QR ZR XR BR hwr hqn htq hlt
        obtain ⟨j, q, qv, rfl, rfl, hjn, hlt, HU, HB, HD, QR, ZR, XR, BR, hwr⟩ := hrel
        by_cases hj : j < m.facts.length
        · obtain ⟨xc0, xc1, xc2, xc3, xc4, xc5⟩ := XR.out
          go_wp2
          clear xc0 xc1 xc2 xc3 xc4 xc5
          go_loopw [8, 36] (fun qv iv wr => ∃ (k : Nat) (q : List Nat) (qv' : Value), iv = .int .i64 k ∧ qv' = qv ∧ k ≤ m.blocks.length ∧ t < q.length ∧ Hid (q.getD t 0 = u) ∧ Hid (bfs (stepA m alf) m.facts.length x q t) ∧ Hid (doneTo (stepA m alf) q u j) ∧ Hid (doneA m alf q u j k) ∧ Hid (wr.ownsRow w1.heap.size 3 1 qv' q.length (ints (nums q))) ∧ Hid (Cm wr (w.heap.size + 1) 4 (bools (seenL m.facts.length q))) ∧ Hid (Mcell wr w.heap.size (.slice fa m.facts.length fc) (.slice ba m.blocks.length bc) m.actual) ∧ Hid (Below w.heap.size w wr) ∧ w1.heap.size ≤ wr.heap.size) (fun _ iv _ => m.blocks.length - (intOf iv).toNat)
          case atStart => exact ⟨0, q, _, rfl, rfl, Nat.zero_le _, hlt, HU, HB, HD, Lib.hid (fun i hi => by omega), QR, ZR, XR, BR, hwr⟩
          case round =>
            clear HU HB HD QR ZR XR BR hwr hlt
            obtain ⟨k, q, qv, rfl, rfl, hkn, hlt, HU, HB, HD, HA, QR, ZR, XR, BR, hwr⟩ := hrel
            by_cases hk : k < m.blocks.length
            · have hqn := nodup_len m.facts.length q HB.out.1 HB.out.2.1
              obtain ⟨b, o, ub, uo, uc, rfl, hbw, huc, hucm, hcb, hubw, hcr⟩ := HCB.out _ BR.out k hk
              have r1 := hcr j hj
              have r2 := hcr u hun
              have ca := HAL.out _ BR.out j hj
              have cs : wr.cell? ⟨w.heap.size + 1, j, none⟩ = some (.bool (decide (j ∈ q))) := by rw [ZR.out.cell]; exact seenL_get hj
              have fs := ZR.out.frozen j
              obtain ⟨qb, qc, e1, hqb, hqlt, hqc, hqcm⟩ : ∃ qb qc, qv = .slice (some ⟨qb, 0, none⟩) q.length qc ∧ w1.heap.size ≤ qb ∧ qb < wr.heap.size ∧ q.length ≤ qc ∧ qc ≤ maxLen := by
                rcases QR.out.2 with ⟨_, h0⟩ | ⟨g, cap, cur, e, h1, h2, h3, h4, _⟩
                · omega
                · exact ⟨g, cap, e, h1, (Array.getElem?_eq_some_iff.1 h2).1, h3, h4⟩
              subst e1
              unfold maxLen at hqcm
              have cq : wr.cell? ⟨qb, t, none⟩ = some (.int .i64 u) := by
                have h := QR.out.cellAt t (by omega)
                rw [h, ints_at (by rw [nums_len]; exact hlt), nums_getD hlt, ← HU.out, List.getD_eq_getElem?_getD, List.getElem?_eq_getElem hlt]; rfl
              have HSY := Lib.hid (stepA_yes (m := m) (al := alf) (u := u) (j := j) (k := k) hun hj)
              have HAN := Lib.hid (doneA_next HA.out)
              obtain ⟨y1, hy1⟩ : ∃ y, y = (m.blocks.getD k []).getD j 0 := ⟨_, rfl⟩
              obtain ⟨y2, hy2⟩ : ∃ y, y = (m.blocks.getD k []).getD u 0 := ⟨_, rfl⟩
              rw [← hy1] at r1 HSY HAN
              rw [← hy2] at r2 HSY HAN
              clear hy1 hy2 hcr
              obtain ⟨s0, hs0⟩ : ∃ s, s = decide (j ∈ q) := ⟨_, rfl⟩
              rw [← hs0] at cs
              have HS0 := Lib.hid hs0
              obtain ⟨a0, ha0⟩ : ∃ s, s = alf j := ⟨_, rfl⟩
              rw [← ha0] at ca HSY HAN
              obtain ⟨e0, he0⟩ : ∃ s, s = (y1 == y2) := ⟨_, rfl⟩
              have he := he0.symm
              have HE0 := Lib.hid he0
              clear hs0 ha0 he0
              have u0 : (0 : Int) ≤ (u : Int) := Int.natCast_nonneg _
              have un : (u : Int) < (m.facts.length : Int) := by omega
              have t0 : (0 : Int) ≤ (t : Int) := Int.natCast_nonneg _
              have tq : (t : Int) < (q.length : Int) := by omega
              have j0 : (0 : Int) ≤ (j : Int) := Int.natCast_nonneg _
              have jn : (j : Int) < (m.facts.length : Int) := by omega
              go_wp2
              cases a0 with
              | false =>
                go_quiet (fail)
                clear r1 r2 ca cs fs cq he
                go_wp2
                go_roundw
                case rel => exact ⟨k + 1, q, _, by go_num, rfl, by omega, hlt, HU, HB, HD, Lib.hid (HAN.out (fun h => by cases h)), Lib.hid (own_drewN QR.out _), Lib.hid (ZR.out.drewN _), Lib.hid (XR.out.drewN _), Lib.hid (below_drewN' BR.out _), hwr⟩
                case measure => simp [intOf]; omega
              | true =>
                cases s0 with
                | true =>
                  go_quiet (fail)
                  clear r1 r2 ca cs fs cq he
                  go_wp2
                  go_roundw
                  case rel => exact ⟨k + 1, q, _, by go_num, rfl, by omega, hlt, HU, HB, HD, Lib.hid (HAN.out (fun _ _ => of_decide_eq_true HS0.out.symm)), Lib.hid (own_drewN QR.out _), Lib.hid (ZR.out.drewN _), Lib.hid (XR.out.drewN _), Lib.hid (below_drewN' BR.out _), hwr⟩
                  case measure => simp [intOf]; omega
                | false =>
                  cases e0 with
                  | false =>
                    go_quiet (fail)
                    clear r1 r2 ca cs fs cq he
                    go_wp2
                    go_roundw
                    case rel => exact ⟨k + 1, q, _, by go_num, rfl, by omega, hlt, HU, HB, HD, Lib.hid (HAN.out (fun _ h => by subst h; have := HE0.out; simp at this)), Lib.hid (own_drewN QR.out _), Lib.hid (ZR.out.drewN _), Lib.hid (XR.out.drewN _), Lib.hid (below_drewN' BR.out _), hwr⟩
                    case measure => simp [intOf]; omega
                  | true =>
                    go_quiet (fail)
                    clear r1 r2 ca cq he
                    have hjq : j ∉ q := of_decide_eq_false HS0.out.symm
                    have hy : y1 = y2 := by have := HE0.out; simpa using this.symm
                    have HST2 := Lib.hid (HSY.out rfl hk hy)
                    have HB2 := Lib.hid (bfs_push HST.out HB.out hlt HU.out hjq HST2.out)
                    have HD2 := Lib.hid (doneTo_push (k := j) HD.out)
                    have HU2 : Hid ((q ++ [j]).getD t 0 = u) := Lib.hid (by rw [getD_appN hlt]; exact HU.out)
                    have HA2 : Hid (doneA m alf (q ++ [j]) u j (k + 1)) := Lib.hid (fun _ _ _ _ => by simp)
                    have HQ : Hid (∀ nn, ((wr.drewN nn).setCell ⟨w.heap.size + 1, j, none⟩ (.bool true)).ownsRow w1.heap.size 3 1 (.slice (some ⟨qb, 0, none⟩) q.length qc) q.length (ints (nums q))) := Lib.hid (fun nn => own_keeps (own_drewN QR.out nn) (fun k hk => Below.heap_setCell _ _ _ _ (by cases hk; show qb ≠ w.heap.size + 1; omega)))
                    have HZ0 : Hid (∀ nn, Cm ((wr.drewN nn).setCell ⟨w.heap.size + 1, j, none⟩ (.bool true)) (w.heap.size + 1) 4 (bools (seenL m.facts.length (q ++ [j])))) := Lib.hid (fun nn => by have h := (ZR.out.drewN nn).set j (.bool true); rw [seenL_push] at h; exact h)
                    have HX0 : Hid (∀ nn, Mcell ((wr.drewN nn).setCell ⟨w.heap.size + 1, j, none⟩ (.bool true)) w.heap.size (.slice fa m.facts.length fc) (.slice (some ⟨b, o, none⟩) m.blocks.length bc) m.actual) := Lib.hid (fun nn => (XR.out.drewN nn).other (b' := w.heap.size + 1) (by omega) j (.bool true))
                    have HB0 : Hid (∀ nn, Below w.heap.size w ((wr.drewN nn).setCell ⟨w.heap.size + 1, j, none⟩ (.bool true))) := Lib.hid (fun nn => (below_drewN' BR.out nn).setCell (by show _ ≤ w.heap.size + 1; omega) _)
                    have HSZ : Hid (∀ nn, ((wr.drewN nn).setCell ⟨w.heap.size + 1, j, none⟩ (.bool true)).heap.size = wr.heap.size) := Lib.hid (fun nn => by simp [World.setCell])
                    clear hjq hy QR HSY HAN ZR XR BR HB HD HU HA HCB
                    have tk2 : True := trivial
                    go_wp2_with
                      (first
                        | (have _t := tk2; clear _t tk2; at_builtin; refine wpList_pushL rfl (.tmp 68) (.tmp 70) 23 71 rfl rfl 3 (.int .i64 0) 8 Tryz.underlying23 Tryz.infoI rfl w1.heap.size (.int .i64 j) (.slice (some ⟨qb, 0, none⟩) q.length qc) q.length (ints (nums q)) (HQ.out _) rfl wr.heap.size rfl (HSZ.out _).symm rfl (by unfold maxLen; omega) (by omega) (by rw [HSZ.out]; omega) ?_
                           intro v6 w6 hown hg
                           have Q6 := Lib.hid hown
                           have G6 := Lib.hid hg
                           clear hown hg))
                    clear cs fs
                    have hsz6 := G6.out.size
                    rw [HSZ.out] at hsz6
                    go_roundw
                    case rel =>
                      refine ⟨k + 1, q ++ [j], _, by go_num, rfl, by omega, by rw [List.length_append]; omega, HU2, HB2, HD2, HA2, Lib.hid ?_, Lib.hid ((HZ0.out _).of_block (G6.out.block (by rw [HSZ.out]; omega) (by show some qb ≠ some _; intro e; cases e; omega))), Lib.hid ((HX0.out _).of_block (G6.out.block (by rw [HSZ.out]; omega) (by show some qb ≠ some _; intro e; cases e; omega))), Lib.hid ((HB0.out _).trans (G6.out.below (by rw [HSZ.out]; omega) (fun k hk => by cases hk; show w.heap.size ≤ qb; omega))), by omega⟩
                      rw [nums_app, ints_app, List.length_append]
                      exact Q6.out
                    case measure => simp [intOf]; omega
            · have HD2 := Lib.hid (doneTo_next HD.out (by rw [show m.blocks.length = k by omega]; exact HA.out))
              go_wp2
              go_roundw
              case rel => exact ⟨j + 1, q, _, by go_num, rfl, by omega, hlt, HU, HB, HD2, QR, ZR, XR, BR, hwr⟩
              case measure => simp [intOf]; omega
        · have HB2 := Lib.hid (bfs_next HB.out HST.out HU.out (by rw [show m.facts.length = j by omega]; exact HD.out))
          have hqn := nodup_len m.facts.length q HB.out.1 HB.out.2.1
          go_wp2
          go_roundw
          case rel => exact ⟨t + 1, q, _, by go_num, rfl, by omega, HB2, QR, ZR, XR, BR, hwr⟩
          case measure => simp [intOf]; omega
    · have HEND := Lib.hid (bfs_end HB.out (by omega))
      have ZF := Lib.hid (cm_own ZR.out (by rw [bools_len, seenL_len]) (by have := H16.out; unfold maxLen; omega))
      rw [HEND.out] at ZF
      clear ZR
      go_wp2
      go_ret
      exact ⟨_, rfl, ⟨by rw [bools_len, List.length_map, List.length_range]; exact own_mono ZF.out (by omega), fun k hk => by cases hk; show w.heap.size + 1 < _; omega⟩, BR.out⟩
end Go.Proofs.YtodjohdbngbpaaaGreat

/-
  Contract of spec.ReachedFrom. No condition.
-/
namespace Go.Proofs.YtodjohdbngbpaaaGreat
open Go.RowKit Go.WideShapes
open Go Go.Deep
set_option linter.unusedSimpArgs false

theorem lst_cut {p : Nat → Bool} {n : Nat} (h : ∀ i, p i = true → i < n) : ∀ d, lst p (n + d) = lst p n
  | 0 => rfl
  | d + 1 => by
    have hf : p (n + d) = false := by
      cases e : p (n + d) with
      | false => rfl
      | true => have := h _ e; omega
    rw [show n + (d + 1) = (n + d) + 1 by omega, lst_succ, hf, lst_cut h d]; simp
theorem lst_16 {p : Nat → Bool} {n : Nat} (h : ∀ i, p i = true → i < n) (hn : n ≤ 16) : lst p 16 = lst p n := by
  have := lst_cut h (16 - n)
  rw [show n + (16 - n) = 16 by omega] at this
  exact this
end Go.Proofs.YtodjohdbngbpaaaGreat

/-
  The two ways to the truth of a formula agree. No program but its types' numbers.
-/
namespace Go.Proofs.YtodjohdbngbpaaaGreat
open Go.RowKit Go.WideShapes
open Go Go.Deep
set_option linter.unusedSimpArgs false

/-- the agents that a formula names are there -/
def tag : Tm → Nat → Prop
  | .leaf _ _, _ => True
  | .deny a, A => tag a A
  | .know op n a, A => ((op = 5 ∨ op = 6) → n < A) ∧ tag a A
  | .joint _ a b, A => tag a A ∧ tag b A
theorem near_same (m : Md) (i j : Nat) : near m.blocks m.blocks.length i j = (List.range m.blocks.length).any fun k => sameW m k i j := rfl
theorem near_rel {m' m : Md} {ws : List Nat} (h : Rel m' m ws) {i j : Nat} (hi : i < ws.length) (hj : j < ws.length) : near m'.blocks m'.blocks.length i j = near m.blocks m.blocks.length (ws.getD i 0) (ws.getD j 0) := by
  rw [near_same, near_same, h.2.2.2.2.1, Bool.eq_iff_iff, List.any_eq_true, List.any_eq_true]
  constructor
  · rintro ⟨k, hk, e⟩
    exact ⟨k, hk, by rw [← h.2.2.2.2.2.2 k (List.mem_range.1 hk) i j hi hj]; exact e⟩
  · rintro ⟨k, hk, e⟩
    exact ⟨k, hk, by rw [h.2.2.2.2.2.2 k (List.mem_range.1 hk) i j hi hj]; exact e⟩
theorem Rel.lt {m' m : Md} {ws : List Nat} (h : Rel m' m ws) {i : Nat} (hi : i < ws.length) : ws.getD i 0 < m.facts.length := h.2.2.1 _ (getD_memN hi)
theorem memN_at {ws : List Nat} {i : Nat} (hi : i < ws.length) : memN ws (ws.getD i 0) = true := decide_eq_true (getD_memN hi)
theorem reach_rel {m' m : Md} {ws : List Nat} (h : Rel m' m ws) {i j : Nat} (hi : i < ws.length) (hj : j < ws.length) : reachB m'.blocks m'.facts.length m'.blocks.length i j = reachA m (memN ws) (ws.getD i 0) (ws.getD j 0) := by
  have hn : m'.facts.length = ws.length := h.1
  rw [Bool.eq_iff_iff]
  constructor
  · intro e
    have := wsh_least (r := stepP m'.blocks m'.facts.length m'.blocks.length) (T := fun l => decide (l < ws.length) && reachA m (memN ws) (ws.getD i 0) (ws.getD l 0)) (fun a b ha hab => by
      have hab2 := stepP_in hab
      rw [hn] at hab2
      simp only [Bool.and_eq_true, decide_eq_true_eq] at ha ⊢
      refine ⟨hab2.2, wsh_more (fun _ _ => stepA_in) ha.2 ?_⟩
      unfold stepP at hab
      unfold stepA
      simp only [Bool.and_eq_true, decide_eq_true_eq] at hab ⊢
      exact ⟨⟨⟨h.lt hab2.1, h.lt hab2.2⟩, memN_at hab2.2⟩, by rw [← near_rel h hab2.1 hab2.2]; exact hab.2⟩) (i := i) (by simp only [Bool.and_eq_true, decide_eq_true_eq]; exact ⟨hi, wsh_refl _ _ _⟩) e
    simp only [Bool.and_eq_true, decide_eq_true_eq] at this
    exact this.2
  · intro e
    have := wsh_least (r := stepA m (memN ws)) (T := fun v => (List.range ws.length).any fun l => (ws.getD l 0 == v) && reachB m'.blocks m'.facts.length m'.blocks.length i l) (fun a b ha hab => by
      rw [List.any_eq_true] at ha ⊢
      obtain ⟨l, hl, e2⟩ := ha
      rw [List.mem_range] at hl
      simp only [Bool.and_eq_true, beq_iff_eq] at e2
      have hst := hab
      unfold stepA at hab
      simp only [Bool.and_eq_true, decide_eq_true_eq] at hab
      obtain ⟨l2, hl2, e3⟩ := memN_get (of_decide_eq_true hab.1.2)
      refine ⟨l2, List.mem_range.2 hl2, ?_⟩
      simp only [Bool.and_eq_true, beq_iff_eq]
      refine ⟨e3, wsh_more (fun _ _ => stepP_in) e2.2 ?_⟩
      unfold stepP
      simp only [Bool.and_eq_true, decide_eq_true_eq]
      exact ⟨⟨by omega, by omega⟩, by rw [near_rel h hl hl2, e2.1, e3]; exact hab.2⟩) (i := ws.getD i 0) (by
        rw [List.any_eq_true]
        exact ⟨i, List.mem_range.2 hi, by simp only [Bool.and_eq_true, beq_iff_eq]; exact ⟨trivial, wsh_refl _ _ _⟩⟩) e
    rw [List.any_eq_true] at this
    obtain ⟨l, hl, e2⟩ := this
    simp only [Bool.and_eq_true, beq_iff_eq] at e2
    rw [nodup_getD h.2.1 (List.mem_range.1 hl) hj e2.1] at e2
    exact e2.2
/-- all worlds of a scope -/
theorem sub_rel {m' m : Md} {ws : List Nat} (h : Rel m' m ws) {X' P' X P : Nat → Bool} (hX : ∀ j, j < ws.length → X' j = X (ws.getD j 0)) (hP : ∀ j, j < ws.length → P' j = P (ws.getD j 0)) (hin : ∀ j, X' j = true → j < ws.length) :
    subB X' P' = allW m fun v => !(memN ws v && X v) || P v := by
  have hlen := h.len
  rw [Bool.eq_iff_iff]
  unfold subB allW
  rw [List.all_eq_true, List.all_eq_true]
  constructor
  · intro e v _
    cases hv : memN ws v && X v with
    | false => rfl
    | true =>
      rw [Bool.and_eq_true] at hv
      obtain ⟨j, hj, rfl⟩ := memN_get (of_decide_eq_true hv.1)
      have := e j (List.mem_range.2 (by omega))
      rw [hX j hj, hv.2, hP j hj] at this
      simpa using this
  · intro e j _
    cases hx : X' j with
    | false => rfl
    | true =>
      have hj := hin j hx
      have := e (ws.getD j 0) (List.mem_range.2 (h.lt hj))
      rw [memN_at hj, ← hX j hj, hx, ← hP j hj] at this
      simpa using this
theorem cut_at {n i : Nat} {q : Nat → Bool} (h : i < n) : cut n q i = q i := by unfold cut; simp [h]
theorem sameW_symm (m : Md) (k i j : Nat) : sameW m k i j = sameW m k j i := by
  unfold sameW; rw [Bool.eq_iff_iff, beq_iff_eq, beq_iff_eq]; exact ⟨Eq.symm, Eq.symm⟩
theorem blk_same (m : Md) (n k i : Nat) : blkB m.blocks n k i = cut n fun j => sameW m k i j := rfl
theorem beq_tf (b : Bool) : (b == true) = b := by cases b <;> rfl
theorem beq_ff (b : Bool) : (b == false) = !b := by cases b <;> rfl
theorem block_rel {m' m : Md} {ws : List Nat} (h : Rel m' m ws) {k i : Nat} (hk : k < m.blocks.length) (hi : i < ws.length) {P' P : Nat → Bool} (hP : ∀ j, j < ws.length → P' j = P (ws.getD j 0)) :
    subB (blkB m'.blocks m'.facts.length k i) P' = blockW m k (memN ws) P (ws.getD i 0) true := by
  rw [blk_same, sub_rel h (X := fun v => sameW m k v (ws.getD i 0)) (P := P) (fun j hj => by rw [cut_at (by rw [h.1]; exact hj), h.2.2.2.2.2.2 k hk i j hi hj, sameW_symm]) hP (fun j hj => by rw [← h.1]; exact cut_in hj)]
  unfold blockW
  congr 1
  funext v
  rw [beq_tf]

theorem ev_rel : ∀ (t : Tm) (m' m : Md) (ws : List Nat), t.wf → tag t m.blocks.length → Rel m' m ws → ∀ i, i < ws.length → evI t m' i = evS t m (memN ws) (ws.getD i 0)
  | .leaf op n, m', m, ws, _, _, h, i, hi => by
    unfold evI evS
    rw [cut_at (by rw [h.1]; exact hi), memN_at hi, h.2.2.2.2.2.1 i hi]; rfl
  | .deny a, m', m, ws, hw, ht, h, i, hi => by
    unfold evI evS
    rw [cut_at (by rw [h.1]; exact hi), memN_at hi, ev_rel a m' m ws hw ht h i hi]; rfl
  | .know op n a, m', m, ws, hw, ht, h, i, hi => by
    have IH := fun j hj => ev_rel a m' m ws hw.2.2.2 ht.2 h j hj
    have hn0 : 0 ≤ n := hw.2.1
    unfold evI evS
    rw [memN_at hi, Bool.true_and]
    by_cases h6 : op = 6
    · have hk : n.toNat < m.blocks.length := by have := ht.1 (.inr h6); omega
      have hN := block_rel h hk hi (P' := cut m'.facts.length fun i => !evI a m' i) (P := fun v => !evS a m (memN ws) v) (fun j hj => by rw [cut_at (by rw [h.1]; exact hj), IH j hj])
      have hY := block_rel h hk hi (P' := evI a m') (P := evS a m (memN ws)) IH
      have hself : (memN ws (ws.getD i 0) && sameW m n.toNat (ws.getD i 0) (ws.getD i 0)) = true := by rw [memN_at hi]; simp [sameW]
      rw [if_pos h6, if_neg (by omega), if_pos h6, cut_at (by rw [h.1]; exact hi), hY, hN]
      cases hv : evS a m (memN ws) (ws.getD i 0) with
      | true =>
        have : blockW m n.toNat (memN ws) (fun v => !evS a m (memN ws) v) (ws.getD i 0) true = false := by
          unfold blockW allW
          rw [List.all_eq_false]
          exact ⟨ws.getD i 0, List.mem_range.2 (h.lt hi), by simp only [hself, hv]; decide⟩
        rw [this, Bool.or_false]
      | false =>
        have : blockW m n.toNat (memN ws) (evS a m (memN ws)) (ws.getD i 0) true = false := by
          unfold blockW allW
          rw [List.all_eq_false]
          exact ⟨ws.getD i 0, List.mem_range.2 (h.lt hi), by simp only [hself, hv]; decide⟩
        rw [this, Bool.false_or]
        unfold blockW
        congr 1
        funext v
        rw [beq_tf, beq_ff]
    · rw [if_neg h6, cut_at (by rw [h.1]; exact hi)]
      by_cases h5 : op = 5
      · have hk : n.toNat < m.blocks.length := by have := ht.1 (.inl h5); omega
        unfold scopeB
        rw [if_pos h5, if_pos h5, block_rel h hk hi IH]
      · unfold scopeB
        rw [if_neg h5, if_neg h5, if_neg h6]
        by_cases h7 : op = 7
        · rw [if_pos h7, if_pos h7]
          unfold nearB
          rw [sub_rel h (X := fun v => near m.blocks m.blocks.length (ws.getD i 0) v) (P := evS a m (memN ws)) (fun j hj => by rw [cut_at (by rw [h.1]; exact hj), near_rel h hi hj]) IH (fun j hj => by rw [← h.1]; exact cut_in hj)]
          rw [Bool.eq_iff_iff]
          unfold blockW allW
          simp only [List.all_eq_true, List.mem_range, Bool.or_eq_true, Bool.not_eq_true', beq_iff_eq, near_same]
          constructor
          · intro e k hk v hv
            cases hx : memN ws v && sameW m k v (ws.getD i 0) with
            | false => exact .inl rfl
            | true =>
              rw [Bool.and_eq_true] at hx
              rcases e v hv with e | e
              · rw [hx.1, Bool.true_and, List.any_eq_false] at e
                exact absurd (by rw [sameW_symm]; exact hx.2) (e k (List.mem_range.2 hk))
              · exact .inr e
          · intro e v hv
            cases hx : memN ws v && (List.range m.blocks.length).any (fun k => sameW m k (ws.getD i 0) v) with
            | false => exact .inl rfl
            | true =>
              rw [Bool.and_eq_true, List.any_eq_true] at hx
              obtain ⟨hm, k, hk, e2⟩ := hx
              rcases e k (List.mem_range.1 hk) v hv with e | e
              · rw [hm, sameW_symm, e2] at e; cases e
              · exact .inr e
        · rw [if_neg h7, if_neg h7]
          have hin : ∀ j, reachB m'.blocks m'.facts.length m'.blocks.length i j = true → j < ws.length := fun j hj => by rw [← h.1]; exact wsh_in (fun _ _ => stepP_in) (by rw [h.1]; exact hi) hj
          rw [sub_rel h (X := fun v => reachA m (memN ws) (ws.getD i 0) v) (P := evS a m (memN ws)) (fun j hj => reach_rel h hi hj) IH hin]
          rw [Bool.eq_iff_iff]
          unfold allW
          simp only [List.all_eq_true, List.mem_range, Bool.or_eq_true, Bool.not_eq_true']
          have hmem : ∀ v, reachA m (memN ws) (ws.getD i 0) v = true → memN ws v = true := fun v hv =>
            wsh_least (r := stepA m (memN ws)) (T := memN ws) (fun a b _ hab => by unfold stepA at hab; simp only [Bool.and_eq_true] at hab; exact hab.1.2) (memN_at hi) hv
          constructor
          · intro e v hv
            rcases e v hv with e | e
            · cases hr : reachA m (memN ws) (ws.getD i 0) v with
              | false => exact .inl rfl
              | true => rw [hmem v hr, hr] at e; cases e
            · exact .inr e
          · intro e v hv
            rcases e v hv with e | e
            · exact .inl (by rw [e, Bool.and_false])
            · exact .inr e
  | .joint op a b, m', m, ws, hw, ht, h, i, hi => by
    have IHa := fun j hj => ev_rel a m' m ws hw.2.1 ht.1 h j hj
    unfold evI evS
    rw [memN_at hi, Bool.true_and]
    by_cases h4 : op = 4
    · rw [if_pos h4, if_pos h4, cut_at (by rw [h.1]; exact hi), IHa i hi, ev_rel b m' m ws hw.2.2 ht.2 h i hi]
    · rw [if_neg h4, if_neg h4]
      unfold aftB
      have hlen := h.len
      rw [← IHa i hi]
      cases hp : evI a m' i with
      | false => simp [h.1, hi]
      | true =>
        rw [if_pos rfl, Bool.not_true, Bool.false_or]
        have hus : ∀ j ∈ lst (evI a m') 16, j < ws.length := fun j hj => by rw [← h.1]; exact evI_in a m' j (by rw [h.1]; exact hlen) (mem_lst.1 hj).2
        have hR := h.rest (lst_nodup (evI a m') 16) hus
        obtain ⟨h1, h2⟩ := lst_rank hp (show i < 16 by omega)
        have IHb := ev_rel b (restM m' (lst (evI a m') 16)) m _ hw.2.2 ht.2 hR (rank (evI a m') i) (by rw [List.length_map]; exact h1)
        rw [IHb]
        have e1 : ((lst (evI a m') 16).map fun i => ws.getD i 0).getD (rank (evI a m') i) 0 = ws.getD i 0 := by
          rw [List.getD_eq_getElem?_getD, List.getElem?_eq_getElem h1] at h2
          rw [List.getD_eq_getElem?_getD, List.getElem?_map, List.getElem?_eq_getElem h1]
          simp only [Option.getD_some, Option.map_some] at h2 ⊢
          rw [h2]
        have e2 : memN ((lst (evI a m') 16).map fun i => ws.getD i 0) = fun v => memN ws v && evS a m (memN ws) v := by
          funext v
          rw [Bool.eq_iff_iff, Bool.and_eq_true]
          unfold memN
          rw [decide_eq_true_iff, decide_eq_true_iff, List.mem_map]
          constructor
          · rintro ⟨j, hj, rfl⟩
            exact ⟨getD_memN (hus j hj), by have := IHa j (hus j hj); unfold memN at this; rw [← this]; exact (mem_lst.1 hj).2⟩
          · rintro ⟨hv, e⟩
            obtain ⟨j, hj, rfl⟩ := memN_get hv
            exact ⟨j, mem_lst.2 ⟨by omega, by have := IHa j hj; unfold memN at this; rw [this]; exact e⟩, rfl⟩
        rw [e1, e2]
end Go.Proofs.YtodjohdbngbpaaaGreat

/-
  Contracts of spec.l04Block and spec.l04One. Condition: the model is valid, there is a bool for each world.
-/
namespace Go.Proofs.YtodjohdbngbpaaaGreat
open Go.RowKit Go.WideShapes
open Go Go.Deep
set_option linter.unusedSimpArgs false

def blkAt (bl : List Int) (al tr : List Bool) (x : Nat) (want : Bool) (v : Nat) : Bool := !(al.getD v false && (bl.getD v 0 == bl.getD x 0)) || (tr.getD v false == want)
def blkL (n : Nat) (bl : List Int) (al tr : List Bool) (x : Nat) (want : Bool) : Bool := (List.range n).all (blkAt bl al tr x want)
theorem all_no {n k : Nat} {p : Nat → Bool} (hk : k < n) (h : p k = false) : (List.range n).all p = false := by
  rw [List.all_eq_false]; exact ⟨k, List.mem_range.2 hk, by rw [h]; decide⟩
theorem all_yes {n : Nat} {p : Nat → Bool} (h : ∀ k, k < n → p k = true) : (List.range n).all p = true := by
  rw [List.all_eq_true]; exact fun k hk => h k (List.mem_range.1 hk)
set_option maxRecDepth 100000 in
set_option maxHeartbeats 16000000 in
theorem specBlock_any (n lo hi lo2 hi2 lo3 hi3 : Nat) (v v2 v3 : Value) (bl : List Int) (al tr : List Bool) (x : Nat) (want : Bool) (w : World) (h1 : Iv lo hi w v bl) (h2 : Bv lo2 hi2 w v2 al) (h3 : Bv lo3 hi3 w v3 tr) (e1 : bl.length = n) (e2 : al.length = n) (e3 : tr.length = n) (hx : x < n) :
    Calls Tryz.prog 193 #[v, v2, v3, .int .i64 x, .bool want] w fun e w' => e = .returned (.bool (blkL n bl al tr x want)) ∧ w = w' := by
  obtain ⟨b1, o1, c1, rfl, q1, r1, k1⟩ := h1.kept (by omega)
  obtain ⟨b2, o2, c2, rfl, q2, r2, k2⟩ := h2.kept (by omega)
  obtain ⟨b3, o3, c3, rfl, q3, r3, k3⟩ := h3.kept (by omega)
  rw [e1] at q1 k1 ⊢
  rw [e2] at q2 k2 ⊢
  rw [e3] at q3 k3 ⊢
  unfold maxLen at r1 r2 r3
  have K1 := Lib.hid (k1 w (Below.refl _ _))
  have K2 := Lib.hid (k2 w (Below.refl _ _))
  have K3 := Lib.hid (k3 w (Below.refl _ _))
  obtain ⟨R, hR⟩ : ∃ R, R = blkL n bl al tr x want := ⟨_, rfl⟩
  rw [← hR]
  have HR := Lib.hid hR
  clear k1 k2 k3 h1 h2 h3 e1 e2 e3 hR
  have x0 : (0 : Int) ≤ (x : Int) := Int.natCast_nonneg _
  have xn : (x : Int) < (n : Int) := by omega
  go_enter Tryz.func193, Tryz.ntmps193
  go_wp2
  go_loop [15] (fun iv => ∃ k : Nat, k ≤ n ∧ iv = .int .i64 k ∧ Hid (∀ j, j < k → blkAt bl al tr x want j = true)) (fun iv => n - (intOf iv).toNat)
  case atStart => exact ⟨0, Nat.zero_le _, rfl, Lib.hid (fun j hj => by omega)⟩
  case round =>
    obtain ⟨k, hk, rfl, HK⟩ := hrel
    by_cases hlt : k < n
    · have ca := K1.out k hlt
      have cx := K1.out x hx
      have cb := K2.out k hlt
      have cc := K3.out k hlt
      have HAT : Hid (blkAt bl al tr x want k = (!(al.getD k false && (bl.getD k 0 == bl.getD x 0)) || (tr.getD k false == want))) := Lib.hid rfl
      have HN : Hid (blkAt bl al tr x want k = true → ∀ j, j < k + 1 → blkAt bl al tr x want j = true) := Lib.hid (fun h j hj => by
        rcases Nat.lt_or_eq_of_le (Nat.le_of_lt_succ hj) with h1 | h1
        · exact HK.out j h1
        · subst h1; exact h)
      have HF : Hid (blkAt bl al tr x want k = false → R = false) := Lib.hid (fun h => by rw [HR.out]; exact all_no hlt h)
      obtain ⟨y1, e1⟩ : ∃ y, y = bl.getD k 0 := ⟨_, rfl⟩
      obtain ⟨y2, e2⟩ : ∃ y, y = bl.getD x 0 := ⟨_, rfl⟩
      obtain ⟨a0, e3⟩ : ∃ y, y = al.getD k false := ⟨_, rfl⟩
      obtain ⟨t0, e4⟩ : ∃ y, y = tr.getD k false := ⟨_, rfl⟩
      rw [← e1] at ca HAT
      rw [← e2] at cx HAT
      rw [← e3] at cb HAT
      rw [← e4] at cc HAT
      obtain ⟨s0, e5⟩ : ∃ s, s = (y1 == y2) := ⟨_, rfl⟩
      rw [← e5] at HAT
      have d5 := e5.symm
      clear e1 e2 e3 e4 e5
      have k0 : (0 : Int) ≤ (k : Int) := Int.natCast_nonneg _
      have kn : (k : Int) < (n : Int) := by omega
      cases a0 with
      | false =>
        have HN' := Lib.hid (HN.out (by rw [HAT.out]; rfl))
        go_wp2
        go_round
        case rel => exact ⟨k + 1, by omega, by go_num, HN'⟩
        case measure => simp [intOf]; omega
      | true =>
        cases s0 with
        | false =>
          have HN' := Lib.hid (HN.out (by rw [HAT.out]; rfl))
          go_wp2
          go_round
          case rel => exact ⟨k + 1, by omega, by go_num, HN'⟩
          case measure => simp [intOf]; omega
        | true =>
          cases t0 <;> cases want
          · have HN' := Lib.hid (HN.out (by rw [HAT.out]; rfl))
            go_wp2
            go_round
            case rel => exact ⟨k + 1, by omega, by go_num, HN'⟩
            case measure => simp [intOf]; omega
          · have HF' := Lib.hid (HF.out (by rw [HAT.out]; rfl))
            go_wp2
            go_ret
            exact ⟨ret_bool HF'.out.symm, rfl⟩
          · have HF' := Lib.hid (HF.out (by rw [HAT.out]; rfl))
            go_wp2
            go_ret
            exact ⟨ret_bool HF'.out.symm, rfl⟩
          · have HN' := Lib.hid (HN.out (by rw [HAT.out]; rfl))
            go_wp2
            go_round
            case rel => exact ⟨k + 1, by omega, by go_num, HN'⟩
            case measure => simp [intOf]; omega
    · go_wp2
      go_ret
      exact ⟨ret_bool (by rw [HR.out]; exact (all_yes (fun j hj => HK.out j (by omega))).symm), rfl⟩
end Go.Proofs.YtodjohdbngbpaaaGreat

/-
  Contract of spec.l04One. Conditions: the model is valid, there is a bool for each world, the operation has one formula and its agent is one of the model.
-/
namespace Go.Proofs.YtodjohdbngbpaaaGreat
open Go.RowKit Go.WideShapes
open Go Go.Deep
set_option linter.unusedSimpArgs false

def farAt (m : Md) (al tr : List Bool) (i v : Nat) : Bool := !(reachA m (fun j => al.getD j false) i v) || tr.getD v false
def oneB (m : Md) (x : Nd) (al tr : List Bool) (i : Nat) : Bool :=
  if x.op = 3 then !(tr.getD i false) else if x.op = 5 then blkL m.facts.length (m.blocks.getD x.n.toNat []) al tr i true else if x.op = 6 then blkL m.facts.length (m.blocks.getD x.n.toNat []) al tr i (tr.getD i false)
  else if x.op = 7 then (List.range m.blocks.length).all fun k => blkL m.facts.length (m.blocks.getD k []) al tr i true
  else (List.range m.facts.length).all (farAt m al tr i)

theorem getD_rangeMap' {p : Nat → Bool} {n i : Nat} (h : i < n) : ((List.range n).map p).getD i false = p i := by
  rw [List.getD_eq_getElem?_getD, List.getElem?_map, List.getElem?_range h]; rfl

set_option maxRecDepth 100000 in
set_option maxHeartbeats 32000000 in
theorem specOne_any (lo hi lo2 hi2 lo3 hi3 : Nat) (v v2 v3 : Value) (m : Md) (x : Nd) (al tr : List Bool) (i : Nat) (w : World) (hr : Mv lo hi w v m) (hm : mdOk m = true) (h2 : Bv lo2 hi2 w v2 al) (h3 : Bv lo3 hi3 w v3 tr) (e2 : al.length = m.facts.length) (e3 : tr.length = m.facts.length) (hiw : i < m.facts.length)
    (hop : x.op = 3 ∨ x.op = 5 ∨ x.op = 6 ∨ x.op = 7 ∨ x.op = 8) (hn : x.op = 5 ∨ x.op = 6 → 0 ≤ x.n ∧ x.n < m.blocks.length) :
    Calls Tryz.prog 173 #[v, x.v, v2, v3, .int .i64 i] w fun e w' => e = .returned (.bool (oneB m x al tr i)) ∧ Below w.heap.size w w' := by
  obtain ⟨p1, p2, -, -, p5, -⟩ := mdOk_parts hm
  have KR := Lib.hid (fun W (h : Below w.heap.size w W) => specReach_any lo hi lo2 hi2 v v2 m al i W (hr.keeps (Keeps.of_all h)) hm (h2.keeps (Keeps.of_all h)) e2 hiw)
  have KB := Lib.hid (fun k (hk : k < m.blocks.length) u W (h : Below w.heap.size w W) (hu : Iv lo hi W u (m.blocks.getD k [])) want => specBlock_any m.facts.length lo hi lo2 hi2 lo3 hi3 u v2 v3 (m.blocks.getD k []) al tr i want W hu (h2.keeps (Keeps.of_all h)) (h3.keeps (Keeps.of_all h)) ((p5 k hk).1) e2 e3 hiw)
  obtain ⟨b2, o2, c2, rfl, q2, r2, -⟩ := h2.kept (by omega)
  obtain ⟨b3, o3, c3, rfl, q3, r3, k3⟩ := h3.kept (by omega)
  rw [e2] at q2 KR KB ⊢
  rw [e3] at q3 k3 KB ⊢
  have K3 := Lib.hid k3
  clear k3 h2 h3
  unfold maxLen at r2 r3
  clear e2 e3
  obtain ⟨fv, bv0, rfl, hf, hb⟩ := hr
  obtain ⟨fa, fc, e1⟩ := hf.form
  subst e1
  obtain ⟨ba, bc, e1, hbl, hbc, -⟩ := hb.parts
  subst e1
  unfold maxLen at hbc
  have HROW := Lib.hid (fun k (hk : k < m.blocks.length) => hb.row rfl k hk)
  obtain ⟨op, n, xa, xb⟩ := x
  unfold Nd.v
  simp only at hop hn ⊢
  have i0 : (0 : Int) ≤ (i : Int) := Int.natCast_nonneg _
  have iN : (i : Int) < (m.facts.length : Int) := by omega
  have hbv := hb
  clear hf hb hm p5
  obtain ⟨R, hR⟩ : ∃ R, R = oneB m ⟨op, n, xa, xb⟩ al tr i := ⟨_, rfl⟩
  rw [← hR]
  have HR := Lib.hid hR
  clear hR
  unfold oneB at HR
  simp only at HR
  rcases hop with rfl | rfl | rfl | rfl | rfl
  · obtain ⟨t0, ht0⟩ : ∃ t0, t0 = tr.getD i false := ⟨_, rfl⟩
    have HQ : Hid (R = !t0) := Lib.hid (by rw [HR.out, if_pos rfl, ht0])
    have c3i := K3.out ((w.alloc (.cells #[.slice fa m.facts.length fc, .slice ba m.blocks.length bc, .int .i64 m.actual] 26)).alloc (.cells #[.int .i64 3, .int .i64 n, .int .i64 xa, .int .i64 xb] 112)) (by go_grown) i hiw
    rw [← ht0] at c3i
    clear KR KB HROW K3 hn hbv ht0
    clear HR
    go_enter Tryz.func173, Tryz.ntmps173
    go_wp2
    go_ret
    exact ⟨ret_bool HQ.out.symm, by go_grown⟩
  · obtain ⟨n0, nA⟩ := hn (.inl rfl)
    obtain ⟨k, rfl⟩ := Int.eq_ofNat_of_zero_le n0
    have hk : k < m.blocks.length := by omega
    have HQ : Hid (R = blkL m.facts.length (m.blocks.getD k []) al tr i true) := Lib.hid (by rw [HR.out, if_neg (by decide), if_pos rfl, Int.toNat_natCast])
    have KB := Lib.hid (KB.out k hk)
    obtain ⟨b, o, u, rfl, _, _, hbw, cb, hu⟩ := HROW.out k hk
    obtain ⟨row, hrow⟩ : ∃ row, row = m.blocks.getD k [] := ⟨_, rfl⟩
    rw [← hrow] at KB HQ hu
    have HU := Lib.hid hu
    clear hrow
    have cb2 : ((w.alloc (.cells #[.slice fa m.facts.length fc, .slice (some ⟨b, o, none⟩) m.blocks.length bc, .int .i64 m.actual] 26)).alloc (.cells #[.int .i64 5, .int .i64 k, .int .i64 xa, .int .i64 xb] 112)).cell? ⟨b, o + k, none⟩ = some u := by
      rw [(show Below w.heap.size w _ by go_grown : Below w.heap.size w ((w.alloc (.cells #[.slice fa m.facts.length fc, .slice (some ⟨b, o, none⟩) m.blocks.length bc, .int .i64 m.actual] 26)).alloc (.cells #[.int .i64 5, .int .i64 k, .int .i64 xa, .int .i64 xb] 112))).cell (p := ⟨b, o + k, none⟩) hbw]; exact cb
    clear KR HROW K3 hn cb hu hbv
    clear HR
    go_enter Tryz.func173, Tryz.ntmps173
    go_wp2_with fail
    refine (KB.out _ _ (by go_grown) (HU.out.keeps (Keeps.of_all (by go_grown))) _).mono ?_
    rintro e w2 ⟨rfl, rfl⟩
    go_wp2
    go_ret
    exact ⟨ret_bool HQ.out.symm, by go_grown⟩
  · obtain ⟨n0, nA⟩ := hn (.inr rfl)
    obtain ⟨k, rfl⟩ := Int.eq_ofNat_of_zero_le n0
    have hk : k < m.blocks.length := by omega
    have HQ : Hid (R = blkL m.facts.length (m.blocks.getD k []) al tr i (tr.getD i false)) := Lib.hid (by rw [HR.out, if_neg (by decide), if_neg (by decide), if_pos rfl, Int.toNat_natCast])
    obtain ⟨t0, ht0⟩ : ∃ t0, t0 = tr.getD i false := ⟨_, rfl⟩
    have HT0 : Hid (∀ W, Below w.heap.size w W → W.cell? ⟨b3, o3 + i, none⟩ = some (.bool t0)) := Lib.hid (fun W h => by rw [ht0]; exact K3.out W h i hiw)
    rw [← ht0] at HQ
    have KB := Lib.hid (KB.out k hk)
    obtain ⟨b, o, u, rfl, _, _, hbw, cb, hu⟩ := HROW.out k hk
    obtain ⟨row, hrow⟩ : ∃ row, row = m.blocks.getD k [] := ⟨_, rfl⟩
    rw [← hrow] at KB HQ hu
    have HU := Lib.hid hu
    clear hrow
    have HRW : Hid (∀ W, Below w.heap.size w W → W.cell? ⟨b, o + k, none⟩ = some u) := Lib.hid (fun W h => (h.cell (p := ⟨b, o + k, none⟩) hbw).trans cb)
    have k0 : (0 : Int) ≤ (k : Int) := Int.natCast_nonneg _
    clear KR HROW hn hu cb hbv K3 ht0
    clear HR
    go_enter Tryz.func173, Tryz.ntmps173
    go_wp2
    have X2 := Lib.hid ((Mcell.new (w := w) (T := 26) (b := w.heap.size) (fv := .slice fa m.facts.length fc) (bv := .slice (some ⟨b, o, none⟩) m.blocks.length bc) (n := m.actual) rfl).alloc (.cells #[.int .i64 6, .int .i64 k, .int .i64 xa, .int .i64 xb] 112))
    have N2 := Lib.hid (Cm.new (w := w.alloc (.cells #[.slice fa m.facts.length fc, .slice (some ⟨b, o, none⟩) m.blocks.length bc, .int .i64 m.actual] 26)) (b := w.heap.size + 1) (T := 112) (cs := [.int .i64 6, .int .i64 k, .int .i64 xa, .int .i64 xb]) (by simp))
    have B2 : Hid (Below w.heap.size w ((w.alloc (.cells #[.slice fa m.facts.length fc, .slice (some ⟨b, o, none⟩) m.blocks.length bc, .int .i64 m.actual] 26)).alloc (.cells #[.int .i64 6, .int .i64 k, .int .i64 xa, .int .i64 xb] 112))) := Lib.hid (by go_grown)
    generalize (w.alloc (.cells #[.slice fa m.facts.length fc, .slice (some ⟨b, o, none⟩) m.blocks.length bc, .int .i64 m.actual] 26)).alloc (.cells #[.int .i64 6, .int .i64 k, .int .i64 xa, .int .i64 xb] 112) = w2 at *
    refine regionL (fun W => Below w2.heap.size w2 W) [] (by kernel_rfl) (Below.refl _ _).drew (fun hHeld => ?_)
    refine takeA (i := 0) (v := .pointer (some ⟨w.heap.size, 1, none⟩)) 38 rfl rfl (by kernel_rfl) (by kernel_rfl) (by kernel_rfl) (by kernel_rfl) (fun _ _ _ h => h) (Or.inl ⟨by rfl, by intro W hSw; go_simp⟩) hHeld ?_
    simp only [Act.put, List.setIfInBounds_toArray, List.set_cons_zero, List.set_cons_succ]
    refine takeA (i := 2) (v := .pointer (some ⟨w.heap.size + 1, 1, none⟩)) 40 rfl rfl (by kernel_rfl) (by kernel_rfl) (by kernel_rfl) (by kernel_rfl) (fun _ _ _ h => h) (Or.inl ⟨by rfl, by intro W hSw; go_simp⟩) hHeld ?_
    simp only [Act.put, List.setIfInBounds_toArray, List.set_cons_zero, List.set_cons_succ]
    refine takeA (i := 6) (v := .slice (some ⟨b2, o2, none⟩) m.facts.length c2) 44 rfl rfl (by kernel_rfl) (by kernel_rfl) (by kernel_rfl) (by kernel_rfl) (fun _ _ _ h => h) (Or.inl ⟨by rfl, by intro W hSw; go_simp⟩) hHeld ?_
    simp only [Act.put, List.setIfInBounds_toArray, List.set_cons_zero, List.set_cons_succ]
    refine takeA (i := 7) (v := .slice (some ⟨b3, o3, none⟩) m.facts.length c3) 45 rfl rfl (by kernel_rfl) (by kernel_rfl) (by kernel_rfl) (by kernel_rfl) (fun _ _ _ h => h) (Or.inl ⟨by rfl, by intro W hSw; go_simp⟩) hHeld ?_
    simp only [Act.put, List.setIfInBounds_toArray, List.set_cons_zero, List.set_cons_succ]
    refine takeA (i := 8) (v := .int .i64 i) 46 rfl rfl (by kernel_rfl) (by kernel_rfl) (by kernel_rfl) (by kernel_rfl) (fun _ _ _ h => h) (Or.inl ⟨by rfl, by intro W hSw; go_simp⟩) hHeld ?_
    simp only [Act.put, List.setIfInBounds_toArray, List.set_cons_zero, List.set_cons_succ]
    refine takeA (i := 9) (v := .slice (some ⟨b3, o3, none⟩) m.facts.length c3) 47 rfl rfl (by kernel_rfl) (by kernel_rfl) (by kernel_rfl) (by kernel_rfl) (fun _ _ _ h => h) (Or.inl ⟨by rfl, by intro W hSw; go_simp⟩) hHeld ?_
    simp only [Act.put, List.setIfInBounds_toArray, List.set_cons_zero, List.set_cons_succ]
    refine takeA (i := 10) (v := .int .i64 i) 48 rfl rfl (by kernel_rfl) (by kernel_rfl) (by kernel_rfl) (by kernel_rfl) (fun _ _ _ h => h) (Or.inl ⟨by rfl, by intro W hSw; go_simp⟩) hHeld ?_
    simp only [Act.put, List.setIfInBounds_toArray, List.set_cons_zero, List.set_cons_succ]
    refine takeA (i := 1) (v := .slice (some ⟨b, o, none⟩) m.blocks.length bc) 39 rfl rfl (by kernel_rfl) (by kernel_rfl) (by kernel_rfl) (by kernel_rfl) (fun _ _ _ h => h) (Or.inl ⟨by rfl, by intro W hSw; have c1 := (X2.out.below hSw).2.1; go_simp⟩) hHeld ?_
    simp only [Act.put, List.setIfInBounds_toArray, List.set_cons_zero, List.set_cons_succ]
    refine takeA (i := 3) (v := .int .i64 k) 41 rfl rfl (by kernel_rfl) (by kernel_rfl) (by kernel_rfl) (by kernel_rfl) (fun _ _ _ h => h) (Or.inl ⟨by rfl, by intro W hSw; have c1 := (N2.out.all hSw).cell 1; go_simp⟩) hHeld ?_
    simp only [Act.put, List.setIfInBounds_toArray, List.set_cons_zero, List.set_cons_succ]
    refine takeA (i := 11) (v := .pointer (some ⟨b3, o3 + i, none⟩)) 49 rfl rfl (by kernel_rfl) (by kernel_rfl) (by kernel_rfl) (by kernel_rfl) (fun _ _ _ h => h) (Or.inl ⟨by rfl, by intro W hSw; go_simp⟩) hHeld ?_
    simp only [Act.put, List.setIfInBounds_toArray, List.set_cons_zero, List.set_cons_succ]
    refine takeA (i := 4) (v := .pointer (some ⟨b, o + k, none⟩)) 42 rfl rfl (by kernel_rfl) (by kernel_rfl) (by kernel_rfl) (by kernel_rfl) (fun _ _ _ h => h) (Or.inl ⟨by rfl, by intro W hSw; go_simp⟩) hHeld ?_
    simp only [Act.put, List.setIfInBounds_toArray, List.set_cons_zero, List.set_cons_succ]
    refine takeA (i := 12) (v := .bool t0) 50 rfl rfl (by kernel_rfl) (by kernel_rfl) (by kernel_rfl) (by kernel_rfl) (fun _ _ _ h => h) (Or.inl ⟨by rfl, by intro W hSw; have c1 := HT0.out _ (B2.out.trans (hSw.mono B2.out.size)); go_simp⟩) hHeld ?_
    simp only [Act.put, List.setIfInBounds_toArray, List.set_cons_zero, List.set_cons_succ]
    refine takeA (i := 5) (v := u) 43 rfl rfl (by kernel_rfl) (by kernel_rfl) (by kernel_rfl) (by kernel_rfl) (fun _ _ _ h => h) (Or.inl ⟨by rfl, by intro W hSw; have c1 := HRW.out _ (B2.out.trans (hSw.mono B2.out.size)); go_simp⟩) hHeld ?_
    simp only [Act.put, List.setIfInBounds_toArray, List.set_cons_zero, List.set_cons_succ]
    refine onlyL (i := 13) (by kernel_rfl) rfl (by rfl) (fun K hK => ?_)
    go_simp
    have B3 := B2.out.trans (hHeld.mono B2.out.size)
    refine (KB.out _ _ B3 (HU.out.keeps (Keeps.of_all B3)) _).mono ?_
    rintro e w4 ⟨rfl, rfl⟩
    refine hK.out _ _ (fun _ => hHeld) (fun hHeld => ?_)
    have hHeld := hHeld (by decide)
    clear hK K
    try simp only [Act.put, List.setIfInBounds_toArray, List.set_cons_zero, List.set_cons_succ]
    refine takeA (i := 14) (v := .bool (blkL m.facts.length row al tr i t0)) 10 rfl rfl (by kernel_rfl) (by kernel_rfl) (by kernel_rfl) (by kernel_rfl) (fun _ _ _ h => h) (Or.inl ⟨by rfl, by intro W hSw; go_simp⟩) hHeld ?_
    simp only [Act.put, List.setIfInBounds_toArray, List.set_cons_zero, List.set_cons_succ]
    refine doneL (by kernel_rfl) ?_ _
    go_wp2
    go_ret
    exact ⟨ret_bool HQ.out.symm, B3⟩
  · have HQ : Hid (R = (List.range m.blocks.length).all fun k => blkL m.facts.length (m.blocks.getD k []) al tr i true) := Lib.hid (by rw [HR.out, if_neg (by decide), if_neg (by decide), if_neg (by decide), if_pos rfl])
    have HRW := Lib.hid (fun k (hk : k < m.blocks.length) W (h : Below w.heap.size w W) => (Ivv.keeps (lo := lo) (hi := hi) (hbv) (Keeps.of_all h)).row rfl k hk)
    clear KR HROW K3 hn hbv
    clear HR
    go_enter Tryz.func173, Tryz.ntmps173
    go_wp2
    have B2 : Hid (Below w.heap.size w ((w.alloc (.cells #[.slice fa m.facts.length fc, .slice ba m.blocks.length bc, .int .i64 m.actual] 26)).alloc (.cells #[.int .i64 7, .int .i64 n, .int .i64 xa, .int .i64 xb] 112))) := Lib.hid (by go_grown)
    generalize (w.alloc (.cells #[.slice fa m.facts.length fc, .slice ba m.blocks.length bc, .int .i64 m.actual] 26)).alloc (.cells #[.int .i64 7, .int .i64 n, .int .i64 xa, .int .i64 xb] 112) = w2 at *
    go_loop [57] (fun iv => ∃ k : Nat, k ≤ m.blocks.length ∧ iv = .int .i64 k ∧ Hid (∀ j, j < k → blkL m.facts.length (m.blocks.getD j []) al tr i true = true)) (fun iv => m.blocks.length - (intOf iv).toNat)
    case atStart => exact ⟨0, Nat.zero_le _, rfl, Lib.hid (fun j hj => by omega)⟩
    case round =>
      obtain ⟨k, hk, rfl, HK⟩ := hrel
      by_cases hlt : k < m.blocks.length
      · obtain ⟨b, o, u, rfl, _, _, hbw, cb, hu⟩ := HRW.out k hlt _ B2.out
        have KB := Lib.hid (KB.out k hlt u _ B2.out hu true)
        have HN : Hid (blkL m.facts.length (m.blocks.getD k []) al tr i true = true → ∀ j, j < k + 1 → blkL m.facts.length (m.blocks.getD j []) al tr i true = true) := Lib.hid (fun h j hj => by
          rcases Nat.lt_or_eq_of_le (Nat.le_of_lt_succ hj) with h1 | h1
          · exact HK.out j h1
          · subst h1; exact h)
        have HF : Hid (blkL m.facts.length (m.blocks.getD k []) al tr i true = false → R = false) := Lib.hid (fun h => by rw [HQ.out]; exact all_no hlt h)
        obtain ⟨q, hq⟩ : ∃ q, q = blkL m.facts.length (m.blocks.getD k []) al tr i true := ⟨_, rfl⟩
        rw [← hq] at KB HN HF
        clear hq hu
        go_wp2_with fail
        refine KB.out.mono ?_
        rintro e w3 ⟨rfl, rfl⟩
        cases q with
        | true =>
          have HN' := Lib.hid (HN.out rfl)
          go_wp2
          go_round
          case rel => exact ⟨k + 1, by omega, by go_num, HN'⟩
          case measure => simp [intOf]; omega
        | false =>
          have HF' := Lib.hid (HF.out rfl)
          go_wp2
          go_ret
          exact ⟨ret_bool HF'.out.symm, B2.out⟩
      · go_wp2
        go_ret
        exact ⟨ret_bool (by rw [HQ.out]; exact (all_yes (fun j hj => HK.out j (by omega))).symm), B2.out⟩
  · have HQ : Hid (R = (List.range m.facts.length).all (farAt m al tr i)) := Lib.hid (by rw [HR.out, if_neg (by decide), if_neg (by decide), if_neg (by decide), if_neg (by decide)])
    obtain ⟨RL, hRL⟩ : ∃ RL, RL = (List.range m.facts.length).map (reachA m (fun j => al.getD j false) i) := ⟨_, rfl⟩
    have HAT : Hid (∀ j, j < m.facts.length → farAt m al tr i j = (!(RL.getD j false) || tr.getD j false)) := Lib.hid (fun j hj => by rw [hRL, getD_rangeMap' hj]; rfl)
    have hRLl : RL.length = m.facts.length := by rw [hRL]; simp
    rw [← hRL] at KR
    clear KB HROW hn hRL hbv
    clear HR
    go_enter Tryz.func173, Tryz.ntmps173
    go_wp2_with fail
    refine (KR.out _ (by go_grown)).mono ?_
    rintro e w3 ⟨v3, rfl, ho3, hb3⟩
    have B3 : Hid (Below w.heap.size w w3) := Lib.hid (Below.trans (by go_grown) (hb3.mono (by simp; omega)))
    obtain ⟨b4, o4, c4, rfl, q4, r4, k4⟩ := ho3.read.kept (by omega)
    rw [hRLl] at q4 k4 ⊢
    unfold maxLen at r4
    have K4 := Lib.hid (k4 _ (Below.refl _ _))
    have K3 := Lib.hid (K3.out _ B3.out)
    clear k4 ho3 hb3 hRLl KR
    go_wp2
    go_loop [73] (fun iv => ∃ k : Nat, k ≤ m.facts.length ∧ iv = .int .i64 k ∧ Hid (∀ j, j < k → farAt m al tr i j = true)) (fun iv => m.facts.length - (intOf iv).toNat)
    case atStart => exact ⟨0, Nat.zero_le _, rfl, Lib.hid (fun j hj => by omega)⟩
    case round =>
      obtain ⟨k, hk, rfl, HK⟩ := hrel
      by_cases hlt : k < m.facts.length
      · have ca := K4.out k hlt
        have cb := K3.out k hlt
        have HA := Lib.hid (HAT.out k hlt)
        have HN : Hid (farAt m al tr i k = true → ∀ j, j < k + 1 → farAt m al tr i j = true) := Lib.hid (fun h j hj => by
          rcases Nat.lt_or_eq_of_le (Nat.le_of_lt_succ hj) with h1 | h1
          · exact HK.out j h1
          · subst h1; exact h)
        have HF : Hid (farAt m al tr i k = false → R = false) := Lib.hid (fun h => by rw [HQ.out]; exact all_no hlt h)
        obtain ⟨a0, e4⟩ : ∃ y, y = RL.getD k false := ⟨_, rfl⟩
        obtain ⟨t0, e5⟩ : ∃ y, y = tr.getD k false := ⟨_, rfl⟩
        rw [← e4] at ca HA
        rw [← e5] at cb HA
        clear e4 e5
        have k0 : (0 : Int) ≤ (k : Int) := Int.natCast_nonneg _
        have kn : (k : Int) < (m.facts.length : Int) := by omega
        cases a0 with
        | false =>
          have HN' := Lib.hid (HN.out (by rw [HA.out]; rfl))
          go_wp2
          go_round
          case rel => exact ⟨k + 1, by omega, by go_num, HN'⟩
          case measure => simp [intOf]; omega
        | true =>
          cases t0 with
          | true =>
            have HN' := Lib.hid (HN.out (by rw [HA.out]; rfl))
            go_wp2
            go_round
            case rel => exact ⟨k + 1, by omega, by go_num, HN'⟩
            case measure => simp [intOf]; omega
          | false =>
            have HF' := Lib.hid (HF.out (by rw [HA.out]; rfl))
            go_wp2
            go_ret
            exact ⟨ret_bool HF'.out.symm, B3.out⟩
      · go_wp2
        go_ret
        exact ⟨ret_bool (by rw [HQ.out]; exact (all_yes (fun j hj => HK.out j (by omega))).symm), B3.out⟩
end Go.Proofs.YtodjohdbngbpaaaGreat
