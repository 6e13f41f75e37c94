/-
  Two announcements are one, in mathematics: a model of some worlds of a model of some worlds; the term of a layout. No program but its types' numbers.
-/
import Derived.Test.YtodjohdbngbpaaaGreatZSem
import Derived.Test.YtodjohdbngbpaaaGreatRmy
import Derived.Test.YtodjohdbngbpaaaGreatZForm
import Derived.Test.YtodjohdbngbpaaaGreatLtm
import Derived.Test.YtodjohdbngbpaaaGreatZTmx
import Derived.Test.YtodjohdbngbpaaaGreatTru
namespace Go.Proofs.YtodjohdbngbpaaaGreat
open Go.RowKit Go.WideShapes
open Go Go.Deep
set_option linter.unusedSimpArgs false

/- the numbering of blocks depends on what is equal alone -/
theorem idxI_le {l : List Int} {i : Nat} {x : Int} (hi : i < l.length) (h : l.getD i 0 = x) : l.idxOf x ≤ i := by
  rcases Nat.lt_or_ge i (l.idxOf x) with h1 | h1
  · have h2 : (l[i] == x) = false := List.not_of_lt_findIdx h1
    rw [List.getD_eq_getElem?_getD, List.getElem?_eq_getElem hi] at h
    simp only [Option.getD_some] at h
    rw [h] at h2
    simp at h2
  · exact h1
theorem idxI_get {l : List Int} {k : Nat} (hk : k < l.length) : l.idxOf (l.getD k 0) < l.length ∧ l.getD (l.idxOf (l.getD k 0)) 0 = l.getD k 0 := by
  have hm : l.getD k 0 ∈ l := by rw [List.getD_eq_getElem?_getD, List.getElem?_eq_getElem hk]; exact List.getElem_mem _
  generalize l.getD k 0 = x at *
  have h1 := List.idxOf_lt_length_of_mem hm
  refine ⟨h1, ?_⟩
  rw [List.getD_eq_getElem?_getD, List.getElem?_eq_getElem h1]
  exact List.getElem_idxOf h1
theorem nodup_getDI {l : List Int} (hnd : l.Nodup) {i j : Nat} (hi : i < l.length) (hj : j < l.length) (e : l.getD i 0 = l.getD j 0) : i = j := by
  rw [List.getD_eq_getElem?_getD, List.getElem?_eq_getElem hi, List.getD_eq_getElem?_getD, List.getElem?_eq_getElem hj] at e
  simp only [Option.getD_some] at e
  rw [List.nodup_iff_pairwise_ne, List.pairwise_iff_getElem] at hnd
  rcases Nat.lt_trichotomy i j with h | h | h
  · exact absurd e (hnd i j hi hj h)
  · exact h
  · exact absurd e.symm (hnd j i hj hi h)
theorem idxI_same {l l' : List Int} (hl : l.length = l'.length) (h : ∀ i j, i < l.length → j < l.length → (l.getD i 0 = l.getD j 0 ↔ l'.getD i 0 = l'.getD j 0)) {k : Nat} (hk : k < l.length) : l.idxOf (l.getD k 0) = l'.idxOf (l'.getD k 0) := by
  obtain ⟨a1, a2⟩ := idxI_get hk
  obtain ⟨b1, b2⟩ := idxI_get (l := l') (k := k) (by omega)
  have c1 := idxI_le (l := l') (x := l'.getD k 0) (by omega) ((h _ k a1 hk).1 a2)
  have c2 := idxI_le (l := l) (x := l.getD k 0) (by omega) ((h _ k (by omega) hk).2 b2)
  omega
theorem num_congr {l l' : List Int} (hl : l.length = l'.length) (h : ∀ i j, i < l.length → j < l.length → (l.getD i 0 = l.getD j 0 ↔ l'.getD i 0 = l'.getD j 0)) : num l = num l' := by
  have key : ∀ k, k ≤ l.length → numS l k = numS l' k := by
    intro k
    induction k with
    | zero => intro _; rfl
    | succ k ih =>
      intro hk
      rw [numS, numS, ih (by omega), idxI_same hl h (by omega)]
  unfold num
  rw [key _ (Nat.le_refl _), hl]
theorem pick_get (b : List Int) {us : List Nat} {i : Nat} (hi : i < us.length) : (pick b us).getD i 0 = b.getD (us.getD i 0) 0 := by
  unfold pick
  rw [List.getD_eq_getElem?_getD, List.getElem?_map, List.getElem?_eq_getElem hi, List.getD_eq_getElem?_getD (l := us), List.getElem?_eq_getElem hi]; rfl
theorem pick_pick (b : List Int) {ws us : List Nat} (hu : ∀ u ∈ us, u < ws.length) : pick (pick b ws) us = pick b (us.map fun u => ws.getD u 0) := by
  show us.map _ = (us.map _).map _
  rw [List.map_map]
  exact List.map_congr_left fun u hu' => pick_get b (hu u hu')
theorem num_pick (r : List Int) {us : List Nat} (hu : ∀ u ∈ us, u < r.length) : num (pick (num r) us) = num (pick r us) := by
  refine num_congr (by rw [pick_len, pick_len]) fun i j hi hj => ?_
  rw [pick_len] at hi hj
  rw [pick_get _ hi, pick_get _ hj, pick_get _ hi, pick_get _ hj]
  exact (num_same r (hu _ (getD_memN hi)) (hu _ (getD_memN hj))).symm
theorem nums_nodup {ws : List Nat} (h : ws.Nodup) : (nums ws).Nodup := by
  unfold nums
  rw [List.nodup_iff_pairwise_ne] at h ⊢
  exact List.pairwise_map.2 (h.imp fun hab e => hab (Int.ofNat.inj e))
theorem idxI_at {l : List Int} (hnd : l.Nodup) {t : Nat} (ht : t < l.length) : l.idxOf (l.getD t 0) = t := by
  obtain ⟨h1, h2⟩ := idxI_get ht
  exact nodup_getDI hnd h1 ht h2
theorem actIn_at {ws : List Nat} (hnd : ws.Nodup) {t : Nat} (ht : t < ws.length) : actIn ((ws.getD t 0 : Nat) : Int) ws = (t : Int) := by
  have hm : (nums ws).contains ((ws.getD t 0 : Nat) : Int) = true := nums_contains.2 ⟨_, getD_memN ht, rfl⟩
  unfold actIn
  rw [if_pos hm, ← getD_nums ht, idxI_at (nums_nodup hnd) (by rw [nums_len]; exact ht)]
/-- the model of some worlds of a model of some worlds -/
theorem restM_comp {m : Md} {ws us : List Nat} (hnd : ws.Nodup) (hud : us.Nodup) (hu : ∀ u ∈ us, u < ws.length) {r : Nat} (hr : r < ws.length) (ha : m.actual = ((ws.getD r 0 : Nat) : Int)) (hru : r ∈ us) :
    restM (restM m ws) us = restM m (us.map fun u => ws.getD u 0) := by
  obtain ⟨t, ht, e⟩ := memN_get hru
  have hml : (us.map fun u => ws.getD u 0).length = us.length := by simp
  have hmt : (us.map fun u => ws.getD u 0).getD t 0 = ws.getD r 0 := by
    rw [List.getD_eq_getElem?_getD, List.getElem?_map, List.getElem?_eq_getElem ht]
    rw [List.getD_eq_getElem?_getD, List.getElem?_eq_getElem ht] at e
    simp only [Option.getD_some, Option.map_some] at e ⊢
    rw [e]
  have hmn : (us.map fun u => ws.getD u 0).Nodup := by
    rw [List.nodup_iff_pairwise_ne] at hud ⊢
    rw [List.pairwise_map]
    refine List.Pairwise.imp_of_mem (fun {a b} hxa hxb hab e => hab (nodup_getD hnd (hu a hxa) (hu b hxb) e)) hud
  have e1 : (restM m ws).actual = (r : Int) := by
    show actIn m.actual ws = _
    rw [ha, actIn_at hnd hr]
  unfold restM at e1 ⊢
  simp only at e1 ⊢
  rw [Md.mk.injEq]
  refine ⟨pick_pick _ hu, ?_, ?_⟩
  · unfold rawRows
    simp only [List.map_map]
    refine List.map_congr_left fun b _ => ?_
    show num (pick (num (pick b ws)) us) = num (pick b _)
    rw [num_pick _ (fun u hu' => by rw [pick_len]; exact hu u hu'), pick_pick b hu]
  · rw [e1, ha, ← hmt, actIn_at hmn (by rw [hml]; exact ht)]
    have := actIn_at hud ht
    rw [e] at this
    exact this
theorem sortedN_ext : ∀ (a b : List Nat), a.Pairwise (· < ·) → b.Pairwise (· < ·) → (∀ x, x ∈ a ↔ x ∈ b) → a = b
  | [], [], _, _, _ => rfl
  | [], y :: b, _, _, h => by have := (h y).2 (List.mem_cons_self ..); simp at this
  | x :: a, [], _, _, h => by have := (h x).1 (List.mem_cons_self ..); simp at this
  | x :: a, y :: b, ha, hb, h => by
    obtain ⟨ha1, ha2⟩ := List.pairwise_cons.1 ha
    obtain ⟨hb1, hb2⟩ := List.pairwise_cons.1 hb
    have e : x = y := by
      have h1 := (h x).1 (List.mem_cons_self ..)
      have h2 := (h y).2 (List.mem_cons_self ..)
      rcases List.mem_cons.1 h1 with h1 | h1
      · exact h1
      · rcases List.mem_cons.1 h2 with h2 | h2
        · exact h2.symm
        · have := ha1 y h2; have := hb1 x h1; omega
    subst e
    rw [sortedN_ext a b ha2 hb2 (fun z => ⟨fun hz => ?_, fun hz => ?_⟩)]
    · rcases List.mem_cons.1 ((h z).1 (List.mem_cons_of_mem _ hz)) with e | e
      · subst e; have := ha1 z hz; omega
      · exact e
    · rcases List.mem_cons.1 ((h z).2 (List.mem_cons_of_mem _ hz)) with e | e
      · subst e; have := hb1 z hz; omega
      · exact e
theorem lst_sorted (p : Nat → Bool) (k : Nat) : (lst p k).Pairwise (· < ·) := List.Pairwise.sublist List.filter_sublist List.pairwise_lt_range
/-- the worlds where p holds, and q in the model of these -/
theorem lst_comp {p q : Nat → Bool} (hq : ∀ u, q u = true → u < (lst p 16).length) : (lst q 16).map (fun u => (lst p 16).getD u 0) = lst (fun i => p i && q (rank p i)) 16 := by
  have hlen : (lst p 16).length ≤ 16 := lst_len _ _
  have hinc : ∀ u v, u < (lst p 16).length → v < (lst p 16).length → u < v → (lst p 16).getD u 0 < (lst p 16).getD v 0 := by
    intro u v hu hv huv
    have := List.pairwise_iff_getElem.1 (lst_sorted p 16) u v hu hv huv
    rwa [List.getD_eq_getElem?_getD, List.getElem?_eq_getElem hu, List.getD_eq_getElem?_getD, List.getElem?_eq_getElem hv]
  refine sortedN_ext _ _ ?_ (lst_sorted _ _) (fun x => ?_)
  · rw [List.pairwise_map]
    exact List.Pairwise.imp_of_mem (fun {a b} ha hb hab => hinc a b (hq a (mem_lst.1 ha).2) (hq b (mem_lst.1 hb).2) hab) (lst_sorted q 16)
  · rw [List.mem_map, mem_lst, Bool.and_eq_true]
    constructor
    · rintro ⟨u, hu, rfl⟩
      obtain ⟨h1, h2, h3⟩ := rank_lst (hq u (mem_lst.1 hu).2)
      exact ⟨h2, h1, by rw [h3]; exact (mem_lst.1 hu).2⟩
    · rintro ⟨h1, h2, h3⟩
      obtain ⟨h4, h5⟩ := lst_rank h2 h1
      exact ⟨rank p x, mem_lst.2 ⟨by omega, h3⟩, h5⟩
end Go.Proofs.YtodjohdbngbpaaaGreat
