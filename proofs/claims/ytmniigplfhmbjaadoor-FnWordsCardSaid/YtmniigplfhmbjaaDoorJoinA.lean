/-
  Contracts of szStringS, toStringS, spec.Join, impl.Join, and the walk of the law FnExactJoin. Conditions of the contracts: bounds on the lengths, which the law itself checks.
-/
import Derived.Test.YtmniigplfhmbjaaDoorStrs
import Derived.Test.YtmniigplfhmbjaaDoorShelf
import Derived.SliceStrings
import Derived.WideShapes
namespace Go.Proofs.YtmniigplfhmbjaaDoor
open Go.RowKit Go.WideShapes
open Go Go.Deep

/-- what a list of strings that came in is -/
def InStrs (w : World) (v : Value) (xs : List ByteArray) : Prop := Rs w v (xs.map Value.string) ∧ (∀ j, (xs.getD j ByteArray.empty).size ≤ maxLen)
theorem open_Slstring {H : Type} {enc : TypeId × Value → H} (W : World) (base : Nat) (v : Value) (d : DataW H) (p : List MemPlace) (_hv : Value.okWide Tryd.prog W .any base 29 v)
    (h : DataW.Trod enc Tryd.prog W 0 (fun _ => true) true 29 v d p) : ∃ xs, InStrs W v xs := by
  obtain ⟨a0, len0, cap0, rfl⟩ := okWide_slice Tryd.underlying29 _hv
  obtain ⟨fuel, hf⟩ := h
  rcases Go.ChangeShapes.open_strings Tryd.underlying29 Tryd.underlying9 (by kernel_rfl) hf with ⟨hcs, _⟩ | ⟨a, len, cap, ss, hcs, _, hl, hm, hz, _, hcell, hws⟩
  · simp [Value.cells] at hcs
    obtain ⟨rfl, rfl, rfl⟩ := hcs
    exact ⟨[], ⟨none, 0, rfl, Nat.le_refl _, by decide, .inl rfl⟩, fun j => by simp [maxLen]⟩
  · simp [Value.cells] at hcs
    obtain ⟨rfl, rfl, rfl⟩ := hcs
    simp only [if_true] at hz
    have hlen : (ss.take len0).length = len0 := by rw [List.length_take]; omega
    refine ⟨ss.take len0, ⟨some a, cap0, by rw [List.length_map, hlen], by rw [List.length_map, hlen]; exact hl, hm, ?_⟩, fun j => ?_⟩
    · rcases Nat.eq_zero_or_pos len0 with h0 | h0
      · exact .inl (by subst h0; rfl)
      · have hc0 := hcell 0 (by omega)
        obtain ⟨b, o, s⟩ := a
        have hs : s = none := by simpa [Addr.add] using World.cell?_spot hc0
        subst hs
        refine .inr ⟨b, o, rfl, World.block_lt_of_cell? W _ (by rw [addr_add0] at hc0; exact hc0), fun j x hx => ?_⟩
        have hj : j < len0 := by
          rcases Nat.lt_or_ge j len0 with h' | h'
          · exact h'
          · rw [List.getElem?_eq_none (by rw [List.length_map, hlen]; exact h')] at hx; cases hx
        have hcj := hcell j (by omega)
        rw [addr_add0] at hcj
        rw [hcj]
        rw [List.getElem?_map, List.getElem?_take, if_pos hj, List.getElem?_eq_getElem (by omega)] at hx
        rw [List.getD_eq_getElem?_getD, List.getElem?_eq_getElem (by omega)]
        simpa using hx
    · rw [List.getD_eq_getElem?_getD]
      rcases hq : (ss.take len0)[j]? with _ | y
      · simp [maxLen]
      · exact hws y (List.mem_of_mem_take (List.mem_of_getElem? hq))
def totL (xs : List ByteArray) : Nat := (xs.map (·.size)).sum

theorem str_at {xs : List ByteArray} {j : Nat} (hj : j < xs.length) : (xs.map Value.string)[j]? = some (.string (xs.getD j ByteArray.empty)) := by
  rw [List.getElem?_map, List.getElem?_eq_getElem hj, List.getD_eq_getElem?_getD, List.getElem?_eq_getElem hj]; rfl
theorem Rs.parts {w : World} {v : Value} {xs : List ByteArray} (h : Rs w v (xs.map Value.string)) : ∃ a cap, v = .slice a xs.length cap ∧ xs.length ≤ cap ∧ cap ≤ maxLen ∧
    ∀ j, j < xs.length → ∃ b o, a = some ⟨b, o, none⟩ ∧ b < w.heap.size ∧ w.cell? ⟨b, o + j, none⟩ = some (.string (xs.getD j ByteArray.empty)) := by
  obtain ⟨a, cap, rfl, h1, h2, h3⟩ := h
  rw [List.length_map] at *
  refine ⟨a, cap, rfl, h1, h2, fun j hj => ?_⟩
  rcases h3 with h3 | ⟨b, o, rfl, hlt, h3⟩
  · have := congrArg List.length h3; simp at this; subst this; simp at hj
  · exact ⟨b, o, rfl, hlt, h3 j _ (str_at hj)⟩

def szTo (xs : List ByteArray) (k : Nat) : Nat := totL (xs.take k)
theorem szTo_succ {xs : List ByteArray} {k : Nat} (h : k < xs.length) : szTo xs (k + 1) = szTo xs k + (xs.getD k ByteArray.empty).size := by
  unfold szTo totL
  rw [List.take_succ_eq_append_getElem h, List.getD_eq_getElem?_getD, List.getElem?_eq_getElem h, List.map_append, List.sum_append]
  simp

/-- spec.Join after k elements -/
def joinTo (xs : List ByteArray) (sep : List UInt8) : Nat → List UInt8
  | 0 => []
  | k + 1 => joinTo xs sep k ++ (if k = 0 then [] else sep) ++ (xs.getD k ByteArray.empty).data.toList
theorem joinTo_tail (x : ByteArray) (r : List ByteArray) (sep : List UInt8) : ∀ k, k ≤ r.length → joinTo (x :: r) sep (k + 1) = x.data.toList ++ Lib.joinTail sep ((r.take k).map (·.data.toList))
  | 0, _ => by simp [joinTo, Lib.joinTail]
  | k + 1, h => by
    rw [joinTo, joinTo_tail x r sep k (by omega), if_neg (by omega), List.take_succ_eq_append_getElem (by omega), List.map_append]
    have e : (x :: r).getD (k + 1) ByteArray.empty = r[k] := by
      rw [List.getD_eq_getElem?_getD, List.getElem?_cons_succ, List.getElem?_eq_getElem (by omega)]; rfl
    rw [e]
    unfold Lib.joinTail
    rw [List.map_append, List.flatten_append]
    simp
theorem joinTo_eq (xs : List ByteArray) (sep : List UInt8) : joinTo xs sep xs.length = Lib.join (xs.map (·.data.toList)) sep := by
  cases xs with
  | nil => simp [joinTo, Lib.join_nil]
  | cons x r =>
    rw [List.length_cons, joinTo_tail x r sep r.length (Nat.le_refl _), List.take_of_length_le (Nat.le_refl _), List.map_cons, Lib.join_cons]
theorem joinTo_len (xs : List ByteArray) (sep : List UInt8) (hs : sep.length ≤ 1048576) (hx : ∀ j, (xs.getD j ByteArray.empty).size ≤ 1048576) : ∀ k, (joinTo xs sep k).length ≤ k * 2097152
  | 0 => by simp [joinTo]
  | k + 1 => by
    have ih := joinTo_len xs sep hs hx k
    have h := hx k
    have e : (xs.getD k ByteArray.empty).data.toList.length = (xs.getD k ByteArray.empty).size := by simp
    rw [joinTo, List.length_append, List.length_append, e]
    generalize (xs.getD k ByteArray.empty).size = q at h
    split
    · simp only [List.length_nil]; omega
    · omega
theorem ba_ext {b : ByteArray} {l : List UInt8} (h : b.data.toList = l) : b = ⟨l.toArray⟩ := by
  subst h; cases b; rfl

set_option maxHeartbeats 1000000 in
theorem joinParts_any (v : Value) (xs : List ByteArray) (sep : ByteArray) (w : World) (hr : Rs w v (xs.map Value.string)) (hn : xs.length ≤ 140737488355328) (hl : (Lib.join (xs.map (·.data.toList)) sep.data.toList).length ≤ 140737488355328) :
    Calls Tryd.prog 23 #[.string sep, v] w fun e w' => e = .returned (.string ⟨(Lib.join (xs.map (·.data.toList)) sep.data.toList).toArray⟩) ∧ Below w.heap.size w w' := by
  obtain ⟨a, cap, rfl, h1, h2, h3⟩ := hr
  rw [List.length_map] at *
  rcases h3 with h3 | ⟨b, o, rfl, hb, hc⟩
  · have e : xs = [] := by cases xs with
      | nil => rfl
      | cons x r => simp at h3
    subst e
    go_enter Tryd.func23, Tryd.ntmps23
    go_wp2_with fail
    refine (Tryd.strings_Join_none _ _ _ _).mono ?_
    rintro e w' ⟨rfl, rfl⟩
    go_wp2
    go_ret
    exact ⟨rfl, Below.refl _ _⟩
  · have H := Lib.hid (Tryd.strings_Join b o cap xs sep w (fun j x hx => hc j _ (by rw [List.getElem?_map, hx]; rfl)) hb hn h1 hl)
    clear hc
    generalize (Lib.join (xs.map (·.data.toList)) sep.data.toList).toArray = J at H
    go_enter Tryd.func23, Tryd.ntmps23
    go_wp2_with fail
    refine H.out.mono ?_
    rintro e w' ⟨rfl, hb1⟩
    have HB := Lib.hid hb1; clear hb1
    go_wp2
    go_ret
    exact ⟨rfl, HB.out⟩

theorem implJoin_any (v : Value) (xs : List ByteArray) (sep : ByteArray) (w : World) (hr : Rs w v (xs.map Value.string)) (hn : xs.length ≤ 140737488355328) (hl : (Lib.join (xs.map (·.data.toList)) sep.data.toList).length ≤ 140737488355328) :
    Calls Tryd.prog 10 #[v, .string sep] w fun e w' => e = .returned (.string ⟨(Lib.join (xs.map (·.data.toList)) sep.data.toList).toArray⟩) ∧ Below w.heap.size w w' := by
  have H := Lib.hid (joinParts_any v xs sep w hr hn hl)
  generalize (Lib.join (xs.map (·.data.toList)) sep.data.toList).toArray = J at H
  clear hr hl
  go_enter Tryd.func10, Tryd.ntmps10
  go_wp2_with fail
  refine H.out.mono ?_
  rintro e w' ⟨rfl, hb1⟩
  have HB := Lib.hid hb1; clear hb1
  go_wp2
  go_ret
  exact ⟨rfl, HB.out⟩

theorem toS_step {wr : World} {base g n i : Nat} {ys : List ByteArray} {z : Value} (h : wr.ownsRow base 9 1 (.slice (some ⟨g, 0, none⟩) n n) n ((ys.take i).map Value.string ++ List.replicate (n - i) z)) (hi : i < n) (hn : ys.length = n) :
    wr.cell? ⟨g, i, none⟩ = some z ∧ (wr.setCell ⟨g, i, none⟩ (.string (ys.getD i ByteArray.empty))).ownsRow base 9 1 (.slice (some ⟨g, 0, none⟩) n n) n ((ys.take (i + 1)).map Value.string ++ List.replicate (n - (i + 1)) z) := by
  have hl : ((ys.take i).map Value.string).length = i := by simp; omega
  have hr : List.replicate (n - i) z = z :: List.replicate (n - (i + 1)) z := by
    rw [show n - i = (n - (i + 1)) + 1 by omega, List.replicate_succ]
  refine ⟨?_, ?_⟩
  · rw [h.cellAt i (by omega), List.getElem?_append_right (by omega), hl, Nat.sub_self, hr]; rfl
  · have h1 := (h.stored i (.string (ys.getD i ByteArray.empty))).1
    rw [List.set_append_right _ _ (by omega), hl, Nat.sub_self, hr, List.set_cons_zero] at h1
    rw [List.take_succ_eq_append_getElem (by omega), List.map_append, List.append_assoc]
    have e : ys.getD i ByteArray.empty = ys[i] := by rw [List.getD_eq_getElem?_getD, List.getElem?_eq_getElem (by omega)]; rfl
    rw [e] at h1 ⊢
    exact h1

theorem totL_le {xs : List ByteArray} (h : totL xs ≤ 1048576) : ∀ j, (xs.getD j ByteArray.empty).size ≤ 1048576 := by
  intro j
  rcases Nat.lt_or_ge j xs.length with hj | hj
  · have h1 := szTo_succ hj
    have h2 : szTo xs (j + 1) ≤ totL xs := by
      unfold szTo totL
      conv => rhs; rw [← List.take_append_drop (j + 1) xs]
      rw [List.map_append, List.sum_append]; omega
    omega
  · rw [List.getD_eq_getElem?_getD, List.getElem?_eq_none hj]; simp

end Go.Proofs.YtmniigplfhmbjaaDoor
