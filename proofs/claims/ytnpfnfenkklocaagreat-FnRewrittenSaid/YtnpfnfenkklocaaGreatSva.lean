/-
  Contract of spec.l04Eval: the truth of a formula's part in the worlds that are alive. Conditions: the model and the formula are valid, the formula's agents are the model's, there is a bool for each world.
-/
import Derived.Test.YtnpfnfenkklocaaGreatZSem
import Derived.Test.YtnpfnfenkklocaaGreatZForm
import Derived.Test.YtnpfnfenkklocaaGreatZSet
namespace Go.Proofs.YtnpfnfenkklocaaGreat
open Go.RowKit Go.WideShapes
open Go Go.Deep
set_option linter.unusedSimpArgs false

/-- the truth of a formula in all worlds, as a list -/
def evL (T : Tm) (m : Md) (al : Nat → Bool) : List Bool := (List.range m.facts.length).map (evS T m al)
theorem evL_len (T : Tm) (m : Md) (al : Nat → Bool) : (evL T m al).length = m.facts.length := by simp [evL]
theorem evL_at {T : Tm} {m : Md} {al : Nat → Bool} {i : Nat} (h : i < m.facts.length) : (evL T m al).getD i false = evS T m al i := getD_rangeMap' h
/-- what lies in the answer before the k-th world -/
def outL (n : Nat) (V : Nat → Bool) (k : Nat) : List Bool := (List.range n).map fun i => decide (i < k) && V i
theorem outL_len (n : Nat) (V : Nat → Bool) (k : Nat) : (outL n V k).length = n := by simp [outL]
theorem outL_0 (n : Nat) (V : Nat → Bool) : outL n V 0 = List.replicate n false := by
  unfold outL
  apply List.ext_getElem?
  intro i
  rcases Nat.lt_or_ge i n with h | h
  · rw [List.getElem?_map, List.getElem?_range h, List.getElem?_replicate, if_pos h]; simp
  · rw [List.getElem?_eq_none (by simpa using h), List.getElem?_eq_none (by simpa using h)]
theorem outL_end (n : Nat) (V : Nat → Bool) : outL n V n = (List.range n).map V := by
  unfold outL
  refine List.map_congr_left fun i hi => ?_
  rw [List.mem_range] at hi
  simp [hi]
theorem outL_no {n : Nat} {V : Nat → Bool} {k : Nat} (h : V k = false) : outL n V (k + 1) = outL n V k := by
  unfold outL
  refine List.map_congr_left fun i _ => ?_
  rcases Nat.lt_trichotomy i k with h1 | h1 | h1
  · rw [decide_eq_true (by omega), decide_eq_true h1]
  · subst h1; rw [h]; simp
  · rw [decide_eq_false (by omega), decide_eq_false (by omega)]
theorem outL_set {n : Nat} {V : Nat → Bool} {k : Nat} (hk : k < n) : (outL n V k).set k (V k) = outL n V (k + 1) := by
  unfold outL
  apply List.ext_getElem?
  intro i
  rw [List.getElem?_set]
  by_cases e : k = i
  · subst e
    rw [if_pos rfl, if_pos (by simpa using hk), List.getElem?_map, List.getElem?_range hk]; simp
  · rw [if_neg e]
    rcases Nat.lt_or_ge i n with h | h
    · rw [List.getElem?_map, List.getElem?_range h, List.getElem?_map, List.getElem?_range h]
      have : decide (i < k) = decide (i < k + 1) := by rw [decide_eq_decide]; omega
      simp [this]
    · rw [List.getElem?_eq_none (by simpa using h), List.getElem?_eq_none (by simpa using h)]
theorem outL_cell {n : Nat} {V : Nat → Bool} {k : Nat} (hk : k < n) : (bools (outL n V k))[k]? = some (.bool ((outL n V k).getD k false)) := bools_at (by rw [outL_len]; exact hk)

theorem slice_inj {b o c b' o' c' n n' : Nat} (h : Value.slice (some ⟨b, o, none⟩) n c = .slice (some ⟨b', o', none⟩) n' c') : b = b' ∧ o = o' ∧ c = c' := by cases h; exact ⟨rfl, rfl, rfl⟩
theorem range_snoc (p : Nat → Bool) (k : Nat) : (List.range (k + 1)).map p = (List.range k).map p ++ [p k] := by rw [List.range_succ, List.map_append]; rfl
theorem allW_cong {m : Md} {p q : Nat → Bool} (h : ∀ i, i < m.facts.length → p i = q i) : allW m p = allW m q := by
  unfold allW
  rw [Bool.eq_iff_iff, List.all_eq_true, List.all_eq_true]
  exact ⟨fun e i hi => by rw [← h i (List.mem_range.1 hi)]; exact e i hi, fun e i hi => by rw [h i (List.mem_range.1 hi)]; exact e i hi⟩
theorem stepA_cong {m : Md} {al al' : Nat → Bool} (h : ∀ i, i < m.facts.length → al i = al' i) (i j : Nat) : stepA m al i j = stepA m al' i j := by
  unfold stepA
  by_cases e : j < m.facts.length
  · rw [h j e]
  · simp [e]
theorem evS_cong : ∀ (T : Tm) (m : Md) (al al' : Nat → Bool), (∀ i, i < m.facts.length → al i = al' i) → ∀ i, i < m.facts.length → evS T m al i = evS T m al' i
  | .leaf op n, m, al, al', h, i, hi => by unfold evS; rw [h i hi]
  | .deny a, m, al, al', h, i, hi => by unfold evS; rw [h i hi, evS_cong a m al al' h i hi]
  | .know op n a, m, al, al', h, i, hi => by
    have IH := evS_cong a m al al' h
    have hb : ∀ k want, blockW m k al (evS a m al) i want = blockW m k al' (evS a m al') i want := fun k want => by
      unfold blockW
      exact allW_cong fun v hv => by rw [h v hv, IH v hv]
    have hreach : ∀ v, reachA m al i v = reachA m al' i v := fun v => wsh_congr (stepA_cong h) _ _ _
    unfold evS
    rw [h i hi]
    congr 1
    split
    · exact hb _ _
    · split
      · rw [IH i hi]; exact hb _ _
      · split
        · congr 1; funext k; exact hb _ _
        · exact allW_cong fun v hv => by rw [hreach v, IH v hv]
  | .joint op a b, m, al, al', h, i, hi => by
    have IH := evS_cong a m al al' h
    have IB := evS_cong b m al al' h
    have IC := evS_cong b m (fun v => al v && evS a m al v) (fun v => al' v && evS a m al' v) (fun v hv => by rw [h v hv, IH v hv])
    unfold evS
    rw [h i hi]
    congr 1
    split
    · rw [IH i hi, IB i hi]
    · rw [IH i hi, IC i hi]
theorem evL_cong {T : Tm} {m : Md} {al al' : Nat → Bool} (h : ∀ i, i < m.facts.length → al i = al' i) : evL T m al = evL T m al' := by
  unfold evL
  exact List.map_congr_left fun i hi => evS_cong T m al al' h i (List.mem_range.1 hi)

end Go.Proofs.YtnpfnfenkklocaaGreat
