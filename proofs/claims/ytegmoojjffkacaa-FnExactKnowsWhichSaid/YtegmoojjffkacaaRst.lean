/-
  The model of some worlds of a model, in mathematics, and the contract of grid.restricted. Condition: the model is valid.
-/
import Derived.Test.YtegmoojjffkacaaSet
namespace Go.Proofs.Ytegmoojjffkacaa
open Go.RowKit Go.WideShapes
open Go Go.Deep
set_option linter.unusedSimpArgs false

/-- the elements of a row at some worlds -/
def pick (b : List Int) (ws : List Nat) : List Int := ws.map fun w => b.getD w 0
theorem pick_len (b : List Int) (ws : List Nat) : (pick b ws).length = ws.length := by simp [pick]
theorem pick_app (b : List Int) (u v : List Nat) : pick b (u ++ v) = pick b u ++ pick b v := by simp [pick]
def rawRows (m : Md) (ws : List Nat) : List (List Int) := m.blocks.map fun b => pick b ws
theorem rawRows_len (m : Md) (ws : List Nat) : (rawRows m ws).length = m.blocks.length := by simp [rawRows]
theorem rawRows_get (m : Md) (ws : List Nat) {k : Nat} (h : k < m.blocks.length) : (rawRows m ws).getD k [] = pick (m.blocks.getD k []) ws := by
  unfold rawRows
  rw [List.getD_eq_getElem?_getD, List.getElem?_map, List.getD_eq_getElem?_getD, List.getElem?_eq_getElem h]; rfl
/-- the place of the actual world; 0 if it is not there -/
def actIn (a : Int) (ws : List Nat) : Int := if (nums ws).contains a then ((nums ws).idxOf a : Nat) else 0
def restM (m : Md) (ws : List Nat) : Md := ⟨pick m.facts ws, (rawRows m ws).map num, actIn m.actual ws⟩
theorem take_snocN {ws : List Nat} {k : Nat} (h : k < ws.length) : ws.take (k + 1) = ws.take k ++ [ws[k]] := by
  rw [List.take_add_one, List.getElem?_eq_getElem h]; rfl
/-- rows of which the first j have been given one element more -/
def mix (m : Md) (ws : List Nat) (k j : Nat) : List (List Int) := (rawRows m (ws.take (k + 1))).take j ++ (rawRows m (ws.take k)).drop j
theorem mix_0 (m : Md) (ws : List Nat) (k : Nat) : mix m ws k 0 = rawRows m (ws.take k) := by simp [mix]
theorem mix_end (m : Md) (ws : List Nat) (k : Nat) : mix m ws k m.blocks.length = rawRows m (ws.take (k + 1)) := by
  unfold mix
  rw [List.take_of_length_le (by rw [rawRows_len]; exact Nat.le_refl _), List.drop_of_length_le (by rw [rawRows_len]; exact Nat.le_refl _), List.append_nil]
theorem mix_get (m : Md) (ws : List Nat) {k j : Nat} (h : j < m.blocks.length) : (mix m ws k j).getD j [] = pick (m.blocks.getD j []) (ws.take k) := by
  unfold mix
  have hl : ((rawRows m (ws.take (k + 1))).take j).length = j := by rw [List.length_take, rawRows_len]; omega
  rw [List.getD_eq_getElem?_getD, List.getElem?_append_right (by omega), hl, Nat.sub_self, List.getElem?_drop, Nat.add_zero, ← List.getD_eq_getElem?_getD, rawRows_get m _ h]
theorem mix_len (m : Md) (ws : List Nat) (k : Nat) {j : Nat} (h : j ≤ m.blocks.length) : (mix m ws k j).length = m.blocks.length := by
  unfold mix
  rw [List.length_append, List.length_take, List.length_drop, rawRows_len, rawRows_len]; omega
theorem mix_set (m : Md) (ws : List Nat) {k j : Nat} (hk : k < ws.length) (h : j < m.blocks.length) : (mix m ws k j).set j (pick (m.blocks.getD j []) (ws.take k) ++ [(m.blocks.getD j []).getD ws[k] 0]) = mix m ws k (j + 1) := by
  have e : pick (m.blocks.getD j []) (ws.take k) ++ [(m.blocks.getD j []).getD ws[k] 0] = (rawRows m (ws.take (k + 1))).getD j [] := by
    rw [rawRows_get m _ h, take_snocN hk, pick_app]; rfl
  rw [e]
  unfold mix
  have hl : ((rawRows m (ws.take (k + 1))).take j).length = j := by rw [List.length_take, rawRows_len]; omega
  have hd : j < (rawRows m (ws.take k)).length := by rw [rawRows_len]; exact h
  have hd2 : j < (rawRows m (ws.take (k + 1))).length := by rw [rawRows_len]; exact h
  generalize rawRows m (ws.take (k + 1)) = A at *
  generalize rawRows m (ws.take k) = B at *
  rw [List.set_append_right _ _ (by omega), hl, Nat.sub_self, List.drop_eq_getElem_cons hd, List.set_cons_zero, List.getD_eq_getElem?_getD, List.getElem?_eq_getElem hd2]
  simp only [Option.getD_some]
  rw [List.take_succ_eq_append_getElem hd2, List.append_assoc]; rfl
/-- rows of which the first j have been numbered -/
def nmix (rows : List (List Int)) (j : Nat) : List (List Int) := (rows.map num).take j ++ rows.drop j
theorem nmix_0 (rows : List (List Int)) : nmix rows 0 = rows := by simp [nmix]
theorem nmix_end (rows : List (List Int)) : nmix rows rows.length = rows.map num := by
  unfold nmix
  rw [List.take_of_length_le (by simp), List.drop_of_length_le (Nat.le_refl _), List.append_nil]
theorem nmix_get (rows : List (List Int)) {j : Nat} (h : j < rows.length) : (nmix rows j).getD j [] = rows.getD j [] := by
  unfold nmix
  have hl : ((rows.map num).take j).length = j := by rw [List.length_take, List.length_map]; omega
  rw [List.getD_eq_getElem?_getD, List.getElem?_append_right (by omega), hl, Nat.sub_self, List.getElem?_drop, Nat.add_zero, ← List.getD_eq_getElem?_getD]
theorem nmix_succ (rows : List (List Int)) {j : Nat} (h : j < rows.length) : (nmix rows (j + 1)).getD j [] = num (rows.getD j []) := by
  unfold nmix
  rw [List.getD_eq_getElem?_getD, List.getElem?_append_left (by rw [List.length_take, List.length_map]; omega), List.getElem?_take_of_lt (by omega), List.getElem?_map, List.getD_eq_getElem?_getD, List.getElem?_eq_getElem h]; rfl
theorem nmix_other (rows : List (List Int)) {i j : Nat} (h : j < rows.length) (e : i ≠ j) : (nmix rows (j + 1)).getD i [] = (nmix rows j).getD i [] := by
  unfold nmix
  have hl : ((rows.map num).take j).length = j := by rw [List.length_take, List.length_map]; omega
  have hl1 : ((rows.map num).take (j + 1)).length = j + 1 := by rw [List.length_take, List.length_map]; omega
  rw [List.getD_eq_getElem?_getD, List.getD_eq_getElem?_getD]
  rcases Nat.lt_or_ge i j with hi | hi
  · rw [List.getElem?_append_left (by omega), List.getElem?_append_left (by omega), List.getElem?_take_of_lt (by omega), List.getElem?_take_of_lt hi]
  · rw [List.getElem?_append_right (by omega), List.getElem?_append_right (by omega), hl, hl1, List.getElem?_drop, List.getElem?_drop]
    congr 2; omega
/-- a grid's cell is set -/
theorem gL_set0 {n a c x : Int} {f : List Int} {rows : List (List Int)} : (ints (gL n a f rows c)).set 0 (.int .i64 x) = ints (gL x a f rows c) := rfl
theorem gL_setr {n a c x : Int} {f : List Int} {rows : List (List Int)} {j k : Nat} (hs : small f rows) (hj : j < 3) (hjr : j < rows.length) (hk : (rows.getD j []).length = k) (hk16 : k < 16) :
    (ints (gL n a f rows c)).set (18 + j * 16 + k) (.int .i64 x) = ints (gL n a f (rows.set j (rows.getD j [] ++ [x])) c) := by
  have hps := pad_set (l := rows.getD j []) (x := x) (by omega)
  rw [hk] at hps
  rw [ints_set, ← gL_set (n := n) (a := a) (c := c) (rows := rows) (rows' := rows.set j (rows.getD j [] ++ [x])) (r := rows.getD j [] ++ [x]) (k := j) hs (by rw [List.length_append, hk]; simp; omega) hj (set_getD_same hjr) (fun i hi => set_getD_ne hi), ← hps]
  have hl := gL_len (n := n) (a := a) (c := c) hs
  have hpl : ((pad (rows.getD j [])).set k x).length = 16 := by rw [List.length_set, pad_len (hs.2 j)]
  rw [lay'_eq _ _ _ (by rw [ints_len, ints_len, hpl, hl]; omega)]
  apply List.ext_getElem?
  intro i
  rw [ints_get]
  have hlt : ((ints (gL n a f rows c)).take (18 + j * 16)).length = 18 + j * 16 := by rw [List.length_take, ints_len, hl]; omega
  rcases Nat.lt_or_ge i (18 + j * 16) with h1 | h1
  · rw [List.getElem?_set_ne (by omega), List.append_assoc, List.getElem?_append_left (by omega), List.getElem?_take_of_lt h1, ints_get]
  · rcases Nat.lt_or_ge i (18 + j * 16 + 16) with h2 | h2
    · rw [List.append_assoc, List.getElem?_append_right (by omega), hlt, List.getElem?_append_left (by rw [ints_len, hpl]; omega), ints_get]
      obtain ⟨t, rfl⟩ : ∃ t, i = 18 + j * 16 + t := ⟨i - (18 + j * 16), by omega⟩
      rw [Nat.add_sub_cancel_left]
      by_cases e : k = t
      · subst e
        rw [List.getElem?_set_self (by omega), List.getElem?_set_self (by rw [pad_len (hs.2 j)]; omega)]
      · rw [List.getElem?_set_ne (by omega), List.getElem?_set_ne e, gL_r hs hj (by omega)]
    · rw [List.getElem?_set_ne (by omega), List.getElem?_append_right (by rw [List.length_append, hlt, ints_len, hpl]; omega), List.length_append, hlt, ints_len, hpl, List.getElem?_drop, ints_get]
      congr 2; omega
theorem raw_small {m : Md} (ws : List Nat) (f : List Int) (hw : ws.length ≤ 16) (hf : f.length ≤ 16) : small f (rawRows m ws) := by
  refine ⟨hf, fun k => ?_⟩
  rcases Nat.lt_or_ge k m.blocks.length with h | h
  · rw [rawRows_get m ws h, pick_len]; exact hw
  · rw [List.getD_eq_getElem?_getD, List.getElem?_eq_none (by rw [rawRows_len]; exact h)]; simp
theorem mix_small {m : Md} (ws : List Nat) (f : List Int) {k j : Nat} (hj : j ≤ m.blocks.length) (hw : ws.length ≤ 16) (hf : f.length ≤ 16) : small f (mix m ws k j) := by
  refine ⟨hf, fun i => ?_⟩
  have ha : ∀ i, ((rawRows m (ws.take (k + 1))).getD i []).length ≤ 16 := (raw_small (m := m) (ws.take (k + 1)) f (by rw [List.length_take]; omega) hf).2
  have hb : ∀ i, ((rawRows m (ws.take k)).getD i []).length ≤ 16 := (raw_small (m := m) (ws.take k) f (by rw [List.length_take]; omega) hf).2
  unfold mix
  have hl : ((rawRows m (ws.take (k + 1))).take j).length = j := by rw [List.length_take, rawRows_len]; omega
  rw [List.getD_eq_getElem?_getD]
  rcases Nat.lt_or_ge i j with hi | hi
  · rw [List.getElem?_append_left (by omega), List.getElem?_take_of_lt hi, ← List.getD_eq_getElem?_getD]; exact ha i
  · rw [List.getElem?_append_right (by omega), hl, List.getElem?_drop, ← List.getD_eq_getElem?_getD]; exact hb _
theorem nmix_small (rows : List (List Int)) (f : List Int) (j : Nat) (h : small f rows) : small f (nmix rows j) := by
  refine ⟨h.1, fun i => ?_⟩
  unfold nmix
  rw [List.getD_eq_getElem?_getD]
  rcases Nat.lt_or_ge i ((rows.map num).take j).length with hi | hi
  · rw [List.getElem?_append_left hi]
    have hi' : i < j ∧ i < rows.length := by rw [List.length_take, List.length_map] at hi; omega
    rw [List.getElem?_take_of_lt hi'.1, List.getElem?_map]
    have := h.2 i
    rw [List.getD_eq_getElem?_getD] at this
    rw [List.getElem?_eq_getElem hi'.2] at this ⊢
    simp only [Option.map_some, Option.getD_some] at this ⊢
    rw [num_len]; exact this
  · rw [List.getElem?_append_right hi, List.getElem?_drop, ← List.getD_eq_getElem?_getD]; exact h.2 _

theorem nums_contains {ws : List Nat} {a : Int} : (nums ws).contains a = true ↔ ∃ i ∈ ws, (i : Int) = a := by
  unfold nums
  rw [List.contains_iff_mem, List.mem_map]
  exact Iff.rfl
theorem actIn_succ {a : Int} {ws : List Nat} {k : Nat} (hk : k < ws.length) (hnd : ws.Nodup) : actIn a (ws.take (k + 1)) = if (ws[k] : Int) = a then (k : Int) else actIn a (ws.take k) := by
  have hlk : (nums (ws.take k)).length = k := by rw [nums_len, List.length_take]; omega
  rw [take_snocN hk]
  unfold actIn
  rw [nums_app, List.contains_append]
  by_cases e : (ws[k] : Int) = a
  · rw [if_pos e]
    have hno : (nums (ws.take k)).contains a = false := by
      rw [Bool.eq_false_iff]
      intro h
      obtain ⟨i, hi, he⟩ := nums_contains.1 h
      have hik : i = ws[k] := by omega
      subst hik
      obtain ⟨j, hj, hje⟩ := List.getElem_of_mem hi
      rw [List.length_take] at hj
      rw [List.getElem_take] at hje
      have := (List.getElem_inj hnd).1 hje
      omega
    have hyes : (nums [ws[k]]).contains a = true := nums_contains.2 ⟨ws[k], by simp, e⟩
    have hnm : a ∉ nums (ws.take k) := by rw [← List.contains_iff_mem, hno]; decide
    rw [hno, hyes]
    simp only [Bool.false_or, if_true]
    rw [List.idxOf_append, if_neg hnm, hlk]
    have : (nums [ws[k]]).idxOf a = 0 := by unfold nums; simp only [List.map_cons, List.map_nil]; rw [← e]; simp
    rw [this]; simp
  · rw [if_neg e]
    have hno : (nums [ws[k]]).contains a = false := by
      rw [Bool.eq_false_iff]
      intro h
      obtain ⟨i, hi, he⟩ := nums_contains.1 h
      simp only [List.mem_singleton] at hi
      subst hi
      exact e he
    rw [hno, Bool.or_false]
    cases h : (nums (ws.take k)).contains a with
    | true =>
      simp only [if_true]
      have hm : a ∈ nums (ws.take k) := by rw [← List.contains_iff_mem, h]
      rw [List.idxOf_append, if_pos hm]
    | false => rfl
theorem lst_nodup (p : Nat → Bool) (k : Nat) : (lst p k).Nodup := List.Nodup.sublist List.filter_sublist List.nodup_range
theorem nums_getD {ws : List Nat} {k : Nat} (h : k < ws.length) : (nums ws).getD k 0 = (ws[k] : Int) := by
  unfold nums
  rw [List.getD_eq_getElem?_getD, List.getElem?_map, List.getElem?_eq_getElem h]; rfl

end Go.Proofs.Ytegmoojjffkacaa
