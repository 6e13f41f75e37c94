/-
  Several texts in one: Kno Rsc Rmz Sem Rsd Rfs Seq Sev Son. Conditions: as each theorem says.
-/
import Derived.Test.YtgmpenchojnihaaGreatZRch
import Derived.Test.YtgmpenchojnihaaGreatZSet
import Derived.Test.YtgmpenchojnihaaGreatZMok
import Derived.Test.YtgmpenchojnihaaGreatZTerm
/-
  Contracts of impl.KnowsWhich and spec.KnowsWhich. No condition.
-/
namespace Go.Proofs.YtgmpenchojnihaaGreat
open Go.RowKit Go.WideShapes
open Go Go.Deep
set_option linter.unusedSimpArgs false

end Go.Proofs.YtgmpenchojnihaaGreat

/-
  Contract of spec.l03Reach. Condition: the model is valid, there is a bool for each world, and the world is one of the model.
-/
namespace Go.Proofs.YtgmpenchojnihaaGreat
open Go.RowKit Go.WideShapes
open Go Go.Deep
set_option linter.unusedSimpArgs false

theorem nodup_len : ∀ (n : Nat) (l : List Nat), l.Nodup → (∀ i ∈ l, i < n) → l.length ≤ n
  | 0, l, _, h => by cases l with
    | nil => simp
    | cons a t => exact absurd (h a (List.mem_cons_self ..)) (by omega)
  | n + 1, l, hn, h => by
    have h1 := nodup_len n (l.erase n) (hn.erase n) (fun i hi => by
      have h2 := (hn.mem_erase_iff).1 hi
      have := h i h2.2
      omega)
    rw [List.length_erase] at h1
    split at h1 <;> omega
end Go.Proofs.YtgmpenchojnihaaGreat

/-
  What RestrictModel answers, in mathematics. No program but its types' numbers.
-/
namespace Go.Proofs.YtgmpenchojnihaaGreat
open Go.RowKit Go.WideShapes
open Go Go.Deep
set_option linter.unusedSimpArgs false

theorem memP_bd {l : List Int} {n : Nat} (h : ascOk l n = true) : ∀ i, memP l i = true → i < n := fun i hi => by
  have hok : okTo l n l.length := of_decide_eq_true h
  obtain ⟨j, hj, e⟩ := List.getElem_of_mem (of_decide_eq_true hi)
  have h1 := hok j hj
  rw [List.getD_eq_getElem?_getD, List.getElem?_eq_getElem hj] at h1
  simp only [Option.getD_some] at h1
  omega
/-- what RestrictModel answers -/
def restrR (m : Md) (l : List Int) : Option Md := if mdOk m && ascOk l m.facts.length && l.contains m.actual then some (restM m (lst (memP l) 16)) else none
theorem rest_fits {m : Md} (h : mdOk m = true) (ws : List Nat) (hw : ws.length ≤ 16) : fits (restM m ws) := by
  obtain ⟨p1, p2, p3, p4, _⟩ := mdOk_parts h
  unfold restM
  refine ⟨by rw [pick_len]; exact hw, by rw [List.length_map, rawRows_len]; exact p4, fun k hk => ?_⟩
  simp only [List.length_map, rawRows_len] at hk
  rw [pick_len, List.getD_eq_getElem?_getD, List.getElem?_map]
  have := rawRows_get m ws hk
  rw [List.getD_eq_getElem?_getD] at this
  rw [List.getElem?_eq_getElem (by rw [rawRows_len]; exact hk)] at this ⊢
  simp only [Option.map_some, Option.getD_some] at this ⊢
  rw [num_len, this, pick_len]
end Go.Proofs.YtgmpenchojnihaaGreat

/-
  The truth of a formula in the worlds of a model, in mathematics: the program's way (restricted models) and the specification's (worlds that are alive); they agree. No program but its types' numbers.
-/
namespace Go.Proofs.YtgmpenchojnihaaGreat
open Go.RowKit Go.WideShapes
open Go Go.Deep
set_option linter.unusedSimpArgs false

/-- how many members lie below a world -/
def rank (p : Nat → Bool) (w : Nat) : Nat := (lst p w).length
/-- the worlds where p was announced and q held after it, those where p is false -/
def aftK (n : Nat) (p q : Nat → Bool) (k : Nat) : Nat → Bool := fun w => if p w && decide (rank p w < k) then q (rank p w) else decide (w < n) && !p w
def aftB (n : Nat) (p q : Nat → Bool) : Nat → Bool := fun w => if p w then q (rank p w) else decide (w < n) && !p w
theorem lst_pre (p : Nat → Bool) (k : Nat) : ∀ d, ∃ r, lst p (k + d) = lst p k ++ r
  | 0 => ⟨[], by simp⟩
  | d + 1 => by
    obtain ⟨r, h⟩ := lst_pre p k d
    exact ⟨r ++ (if p (k + d) then [k + d] else []), by rw [show k + (d + 1) = (k + d) + 1 by omega, lst_succ, h, List.append_assoc]⟩
theorem lst_rank {p : Nat → Bool} {w : Nat} (hp : p w = true) (hw : w < 16) : rank p w < (lst p 16).length ∧ (lst p 16).getD (rank p w) 0 = w := by
  obtain ⟨r, h⟩ := lst_pre p (w + 1) (16 - (w + 1))
  have h2 := lst_succ p w
  rw [if_pos hp] at h2
  rw [show w + 1 + (16 - (w + 1)) = 16 by omega, h2] at h
  unfold rank
  rw [h]
  refine ⟨by simp, ?_⟩
  rw [List.getD_eq_getElem?_getD, List.append_assoc, List.getElem?_append_right (Nat.le_refl _), Nat.sub_self]; rfl
theorem nodup_getD {l : List Nat} (hnd : l.Nodup) {i j : Nat} (hi : i < l.length) (hj : j < l.length) (e : l.getD i 0 = l.getD j 0) : i = j := by
  rw [List.getD_eq_getElem?_getD, List.getElem?_eq_getElem hi, List.getD_eq_getElem?_getD, List.getElem?_eq_getElem hj] at e
  simp only [Option.getD_some] at e
  rw [List.nodup_iff_pairwise_ne, List.pairwise_iff_getElem] at hnd
  rcases Nat.lt_trichotomy i j with h | h | h
  · exact absurd e (hnd i j hi hj h)
  · exact h
  · exact absurd e.symm (hnd j i hj hi h)
theorem rank_lst {p : Nat → Bool} {k : Nat} (hk : k < (lst p 16).length) : p ((lst p 16).getD k 0) = true ∧ (lst p 16).getD k 0 < 16 ∧ rank p ((lst p 16).getD k 0) = k := by
  have hm : (lst p 16).getD k 0 ∈ lst p 16 := by rw [List.getD_eq_getElem?_getD, List.getElem?_eq_getElem hk]; exact List.getElem_mem _
  obtain ⟨h1, h2⟩ := mem_lst.1 hm
  obtain ⟨h3, h4⟩ := lst_rank h2 h1
  exact ⟨h2, h1, nodup_getD (lst_nodup p 16) h3 hk h4⟩
theorem aftK_0 (n : Nat) (p q : Nat → Bool) : aftK n p q 0 = cut n fun i => !p i := by
  funext w; unfold aftK cut; simp
theorem aftK_upd {n k : Nat} {p q : Nat → Bool} (hk : k < (lst p 16).length) : upd (aftK n p q k) ((lst p 16).getD k 0) (q k) = aftK n p q (k + 1) := by
  obtain ⟨h1, h2, h3⟩ := rank_lst hk
  funext w
  unfold upd aftK
  by_cases e : w = (lst p 16).getD k 0
  · rw [if_pos e, e, h1, h3]; simp
  · rw [if_neg e]
    cases hp : p w with
    | false => simp
    | true =>
      have hne : w < 16 → rank p w ≠ k := fun hw e2 => e (by have := (lst_rank hp hw).2; rw [e2] at this; exact this.symm)
      by_cases hw : w < 16
      · have hne := hne hw
        have : decide (rank p w < k + 1) = decide (rank p w < k) := by rw [decide_eq_decide]; omega
        rw [this]
      · have hge : (lst p 16).length ≤ rank p w := by
          obtain ⟨r, h⟩ := lst_pre p 16 (w - 16)
          rw [show 16 + (w - 16) = w by omega] at h
          unfold rank; rw [h]; simp
        have h5 : ¬ rank p w < k + 1 := by omega
        have h6 : ¬ rank p w < k := by omega
        simp [h5, h6]
theorem aftK_end {n : Nat} {p q : Nat → Bool} {k : Nat} (hk : (lst p 16).length ≤ k) : bL (aftK n p q k) = bL (aftB n p q) := by
  refine bL_congr fun w hw => ?_
  unfold aftK aftB
  cases hp : p w with
  | false => simp
  | true =>
    have := (lst_rank hp hw).1
    have h5 : rank p w < k := by omega
    simp [h5]

/-- the worlds that count for what is known -/
def scopeB (op : Int) (n : Nat) (m : Md) (w : Nat) : Nat → Bool := if op = 5 then blkB m.blocks m.facts.length n w else if op = 7 then nearB m.blocks m.facts.length m.blocks.length w else reachB m.blocks m.facts.length m.blocks.length w
/-- the program's way -/
def evI : Tm → Md → Nat → Bool
  | .leaf op n, m => cut m.facts.length fun w => if op = 1 then bitI (m.facts.getD w 0) n.toNat == 1 else true
  | .deny a, m => cut m.facts.length fun i => !evI a m i
  | .know op n a, m => if op = 6 then cut m.facts.length fun w => subB (blkB m.blocks m.facts.length n.toNat w) (evI a m) || subB (blkB m.blocks m.facts.length n.toNat w) (cut m.facts.length fun i => !evI a m i)
      else cut m.facts.length fun w => subB (scopeB op n.toNat m w) (evI a m)
  | .joint op a b, m => if op = 4 then cut m.facts.length fun w => evI a m w && evI b m w else aftB m.facts.length (evI a m) (evI b (restM m (lst (evI a m) 16)))
theorem cut_in {n i : Nat} {q : Nat → Bool} (h : cut n q i = true) : i < n := by
  unfold cut at h; rw [Bool.and_eq_true, decide_eq_true_eq] at h; exact h.1
theorem evI_in : ∀ (t : Tm) (m : Md) (i : Nat), m.facts.length ≤ 16 → evI t m i = true → i < m.facts.length
  | .leaf _ _, _, _, _, h => by unfold evI at h; exact cut_in h
  | .deny _, _, _, _, h => by unfold evI at h; exact cut_in h
  | .know op _ _, _, _, _, h => by unfold evI at h; split at h <;> exact cut_in h
  | .joint op a b, m, i, hn, h => by
    unfold evI at h
    split at h
    · exact cut_in h
    · unfold aftB at h
      split at h
      · rename_i hp; exact evI_in a m i hn hp
      · simp only [Bool.and_eq_true, decide_eq_true_eq] at h; exact h.1
def sameW (m : Md) (k v w : Nat) : Bool := (m.blocks.getD k []).getD v 0 == (m.blocks.getD k []).getD w 0
/-- m' is the model of the worlds ws of m -/
def Rel (m' m : Md) (ws : List Nat) : Prop :=
  m'.facts.length = ws.length ∧ ws.Nodup ∧ (∀ i ∈ ws, i < m.facts.length) ∧ m.facts.length ≤ 16 ∧ m'.blocks.length = m.blocks.length ∧ (∀ i, i < ws.length → m'.facts.getD i 0 = m.facts.getD (ws.getD i 0) 0) ∧
    ∀ k, k < m.blocks.length → ∀ i j, i < ws.length → j < ws.length → sameW m' k i j = sameW m k (ws.getD i 0) (ws.getD j 0)
theorem getD_memN {ws : List Nat} {i : Nat} (h : i < ws.length) : ws.getD i 0 ∈ ws := by rw [List.getD_eq_getElem?_getD, List.getElem?_eq_getElem h]; exact List.getElem_mem _
theorem memN_get {ws : List Nat} {v : Nat} (h : v ∈ ws) : ∃ i, i < ws.length ∧ ws.getD i 0 = v := by
  obtain ⟨i, hi, e⟩ := List.getElem_of_mem h
  exact ⟨i, hi, by rw [List.getD_eq_getElem?_getD, List.getElem?_eq_getElem hi]; exact e⟩
end Go.Proofs.YtgmpenchojnihaaGreat

/-
  Contract of spec.l03Reach, its walk. Condition: the model is valid, there is a bool for each world, and the world is one of the model.
-/
namespace Go.Proofs.YtgmpenchojnihaaGreat
open Go.RowKit Go.WideShapes
open Go Go.Deep
set_option linter.unusedSimpArgs false

end Go.Proofs.YtgmpenchojnihaaGreat

/-
  Contract of spec.ReachedFrom. No condition.
-/
namespace Go.Proofs.YtgmpenchojnihaaGreat
open Go.RowKit Go.WideShapes
open Go Go.Deep
set_option linter.unusedSimpArgs false

theorem lst_cut {p : Nat → Bool} {n : Nat} (h : ∀ i, p i = true → i < n) : ∀ d, lst p (n + d) = lst p n
  | 0 => rfl
  | d + 1 => by
    have hf : p (n + d) = false := by
      cases e : p (n + d) with
      | false => rfl
      | true => have := h _ e; omega
    rw [show n + (d + 1) = (n + d) + 1 by omega, lst_succ, hf, lst_cut h d]; simp
theorem lst_16 {p : Nat → Bool} {n : Nat} (h : ∀ i, p i = true → i < n) (hn : n ≤ 16) : lst p 16 = lst p n := by
  have := lst_cut h (16 - n)
  rw [show n + (16 - n) = 16 by omega] at this
  exact this
end Go.Proofs.YtgmpenchojnihaaGreat

/-
  The two ways to the truth of a formula agree. No program but its types' numbers.
-/
namespace Go.Proofs.YtgmpenchojnihaaGreat
open Go.RowKit Go.WideShapes
open Go Go.Deep
set_option linter.unusedSimpArgs false

theorem Rel.lt {m' m : Md} {ws : List Nat} (h : Rel m' m ws) {i : Nat} (hi : i < ws.length) : ws.getD i 0 < m.facts.length := h.2.2.1 _ (getD_memN hi)
theorem cut_at {n i : Nat} {q : Nat → Bool} (h : i < n) : cut n q i = q i := by unfold cut; simp [h]
end Go.Proofs.YtgmpenchojnihaaGreat

/-
  Contracts of spec.l04Block and spec.l04One. Condition: the model is valid, there is a bool for each world.
-/
namespace Go.Proofs.YtgmpenchojnihaaGreat
open Go.RowKit Go.WideShapes
open Go Go.Deep
set_option linter.unusedSimpArgs false

/-- the cells of a list of bools that is not empty, kept -/
theorem Bv.kept {lo hi : Nat} {w : World} {v : Value} {l : List Bool} (h : Bv lo hi w v l) (h0 : 0 < l.length) : ∃ b o c, v = .slice (some ⟨b, o, none⟩) l.length c ∧ l.length ≤ c ∧ c ≤ maxLen ∧ ∀ W, Below w.heap.size w W → ∀ j, j < l.length → W.cell? ⟨b, o + j, none⟩ = some (.bool (l.getD j false)) := by
  obtain ⟨b, o, c, e, h1, h2, _, _, hlt, hc⟩ := h.cells h0
  exact ⟨b, o, c, e, h1, h2, fun W hW j hj => (hW.cell (p := ⟨b, o + j, none⟩) hlt).trans (hc j hj)⟩
theorem Iv.kept {lo hi : Nat} {w : World} {v : Value} {l : List Int} (h : Iv lo hi w v l) (h0 : 0 < l.length) : ∃ b o c, v = .slice (some ⟨b, o, none⟩) l.length c ∧ l.length ≤ c ∧ c ≤ maxLen ∧ ∀ W, Below w.heap.size w W → ∀ j, j < l.length → W.cell? ⟨b, o + j, none⟩ = some (.int .i64 (l.getD j 0)) := by
  obtain ⟨a, c, rfl, h1, h2, h3⟩ := h.parts
  obtain ⟨b, o, rfl, _, _, q3, _⟩ := h3 0 h0
  refine ⟨b, o, c, rfl, h1, h2, fun W hW j hj => ?_⟩
  obtain ⟨b', o', e, _, _, hlt, hc⟩ := h3 j hj
  cases e
  exact (hW.cell (p := ⟨b, o + j, none⟩) hlt).trans hc

end Go.Proofs.YtgmpenchojnihaaGreat

/-
  Contract of spec.l04One. Conditions: the model is valid, there is a bool for each world, the operation has one formula and its agent is one of the model.
-/
namespace Go.Proofs.YtgmpenchojnihaaGreat
open Go.RowKit Go.WideShapes
open Go Go.Deep
set_option linter.unusedSimpArgs false

end Go.Proofs.YtgmpenchojnihaaGreat
