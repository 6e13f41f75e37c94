/-
  Contracts of szStringS, toStringS, spec.Join, impl.Join, and the walk of the law FnExactJoin. Conditions of the contracts: bounds on the lengths, which the law itself checks.
-/
import Derived.Test.YtmniigplfhmbjaaStrs
import Derived.Test.YtmniigplfhmbjaaShelf
import Derived.SliceStrings
import Derived.WideShapes
namespace Go.Proofs.Ytmniigplfhmbjaa
open Go.RowKit Go.WideShapes
open Go Go.Deep

/-- what a list of strings that came in is -/
def InStrs (w : World) (v : Value) (xs : List ByteArray) : Prop := Rs w v (xs.map Value.string) ∧ (∀ j, (xs.getD j ByteArray.empty).size ≤ maxLen)
theorem open_Slstring {H : Type} {enc : TypeId × Value → H} (W : World) (base : Nat) (v : Value) (d : DataW H) (p : List MemPlace) (_hv : Value.okWide Try.prog W .any base 23 v)
    (h : DataW.Trod enc Try.prog W 0 (fun _ => true) true 23 v d p) : ∃ xs, InStrs W v xs := by
  obtain ⟨a0, len0, cap0, rfl⟩ := okWide_slice Try.underlying23 _hv
  obtain ⟨fuel, hf⟩ := h
  rcases Go.ChangeShapes.open_strings Try.underlying23 Try.underlying9 (by kernel_rfl) hf with ⟨hcs, _⟩ | ⟨a, len, cap, ss, hcs, _, hl, hm, hz, _, hcell, hws⟩
  · simp [Value.cells] at hcs
    obtain ⟨rfl, rfl, rfl⟩ := hcs
    exact ⟨[], ⟨none, 0, rfl, Nat.le_refl _, by decide, .inl rfl⟩, fun j => by simp [maxLen]⟩
  · simp [Value.cells] at hcs
    obtain ⟨rfl, rfl, rfl⟩ := hcs
    simp only [if_true] at hz
    have hlen : (ss.take len0).length = len0 := by rw [List.length_take]; omega
    refine ⟨ss.take len0, ⟨some a, cap0, by rw [List.length_map, hlen], by rw [List.length_map, hlen]; exact hl, hm, ?_⟩, fun j => ?_⟩
    · rcases Nat.eq_zero_or_pos len0 with h0 | h0
      · exact .inl (by subst h0; rfl)
      · have hc0 := hcell 0 (by omega)
        obtain ⟨b, o, s⟩ := a
        have hs : s = none := by simpa [Addr.add] using World.cell?_spot hc0
        subst hs
        refine .inr ⟨b, o, rfl, World.block_lt_of_cell? W _ (by rw [addr_add0] at hc0; exact hc0), fun j x hx => ?_⟩
        have hj : j < len0 := by
          rcases Nat.lt_or_ge j len0 with h' | h'
          · exact h'
          · rw [List.getElem?_eq_none (by rw [List.length_map, hlen]; exact h')] at hx; cases hx
        have hcj := hcell j (by omega)
        rw [addr_add0] at hcj
        rw [hcj]
        rw [List.getElem?_map, List.getElem?_take, if_pos hj, List.getElem?_eq_getElem (by omega)] at hx
        rw [List.getD_eq_getElem?_getD, List.getElem?_eq_getElem (by omega)]
        simpa using hx
    · rw [List.getD_eq_getElem?_getD]
      rcases hq : (ss.take len0)[j]? with _ | y
      · simp [maxLen]
      · exact hws y (List.mem_of_mem_take (List.mem_of_getElem? hq))
def totL (xs : List ByteArray) : Nat := (xs.map (·.size)).sum

theorem str_at {xs : List ByteArray} {j : Nat} (hj : j < xs.length) : (xs.map Value.string)[j]? = some (.string (xs.getD j ByteArray.empty)) := by
  rw [List.getElem?_map, List.getElem?_eq_getElem hj, List.getD_eq_getElem?_getD, List.getElem?_eq_getElem hj]; rfl
theorem Rs.parts {w : World} {v : Value} {xs : List ByteArray} (h : Rs w v (xs.map Value.string)) : ∃ a cap, v = .slice a xs.length cap ∧ xs.length ≤ cap ∧ cap ≤ maxLen ∧
    ∀ j, j < xs.length → ∃ b o, a = some ⟨b, o, none⟩ ∧ b < w.heap.size ∧ w.cell? ⟨b, o + j, none⟩ = some (.string (xs.getD j ByteArray.empty)) := by
  obtain ⟨a, cap, rfl, h1, h2, h3⟩ := h
  rw [List.length_map] at *
  refine ⟨a, cap, rfl, h1, h2, fun j hj => ?_⟩
  rcases h3 with h3 | ⟨b, o, rfl, hlt, h3⟩
  · have := congrArg List.length h3; simp at this; subst this; simp at hj
  · exact ⟨b, o, rfl, hlt, h3 j _ (str_at hj)⟩

def szTo (xs : List ByteArray) (k : Nat) : Nat := totL (xs.take k)
theorem szTo_succ {xs : List ByteArray} {k : Nat} (h : k < xs.length) : szTo xs (k + 1) = szTo xs k + (xs.getD k ByteArray.empty).size := by
  unfold szTo totL
  rw [List.take_succ_eq_append_getElem h, List.getD_eq_getElem?_getD, List.getElem?_eq_getElem h, List.map_append, List.sum_append]
  simp

set_option maxHeartbeats 1000000 in
theorem szStringS_any (v : Value) (xs : List ByteArray) (w : World) (hr : Rs w v (xs.map Value.string)) (hm : ∀ j, (xs.getD j ByteArray.empty).size ≤ maxLen) :
    Calls Try.prog 20 #[v, .int .i64 1048576] w fun e w' => ∃ n : Int, e = .returned (.int .i64 n) ∧ w = w' ∧ (n < 0 ∨ (0 ≤ n ∧ n = 1048576 - xs.length - totL xs)) := by
  obtain ⟨a, cap, rfl, h1, h2, h3⟩ := hr.parts
  unfold maxLen at h2 hm
  have KEY := Lib.hid h3
  have HM := Lib.hid hm
  clear h3 hm
  by_cases hbig : 1048576 < xs.length
  · go_enter Try.func20, Try.ntmps20
    go_wp2
    go_ret
    exact ⟨_, rfl, rfl, .inl (by omega)⟩
  go_enter Try.func20, Try.ntmps20
  go_wp2
  go_loop [1, 5] (fun l i => ∃ k t : Nat, k ≤ xs.length ∧ i = .int .i64 k ∧ l = .int .i64 (1048576 - xs.length - t : Int) ∧ t + xs.length ≤ 1048576 ∧ Hid (t = szTo xs k)) (fun _ i => xs.length - (intOf i).toNat)
  case atStart => exact ⟨0, 0, Nat.zero_le _, rfl, by simp, by omega, Lib.hid (by simp [szTo, totL])⟩
  case round =>
    obtain ⟨k, t, hk, rfl, rfl, ht, HT⟩ := hrel
    by_cases hlt : k < xs.length
    · obtain ⟨b, o, rfl, hb, hc⟩ := KEY.out k hlt
      have hsz := HM.out k
      have HS := Lib.hid (szTo_succ hlt)
      generalize xs.getD k ByteArray.empty = y at hc hsz HS
      by_cases hs : t + y.size + xs.length ≤ 1048576
      · go_wp2
        go_round
        case rel => exact ⟨k + 1, t + y.size, by omega, by go_num, by go_num, by omega, Lib.hid (by rw [HS.out, ← HT.out])⟩
        case measure => simp [intOf]; omega
      · go_wp2
        go_ret
        exact ⟨_, rfl, rfl, .inl (by omega)⟩
    · obtain rfl : k = xs.length := by omega
      go_wp2
      go_ret
      refine ⟨_, rfl, rfl, .inr ⟨by omega, ?_⟩⟩
      rw [HT.out]; unfold szTo; rw [List.take_of_length_le (Nat.le_refl _)]

/-- spec.Join after k elements -/
def joinTo (xs : List ByteArray) (sep : List UInt8) : Nat → List UInt8
  | 0 => []
  | k + 1 => joinTo xs sep k ++ (if k = 0 then [] else sep) ++ (xs.getD k ByteArray.empty).data.toList
theorem joinTo_tail (x : ByteArray) (r : List ByteArray) (sep : List UInt8) : ∀ k, k ≤ r.length → joinTo (x :: r) sep (k + 1) = x.data.toList ++ Lib.joinTail sep ((r.take k).map (·.data.toList))
  | 0, _ => by simp [joinTo, Lib.joinTail]
  | k + 1, h => by
    rw [joinTo, joinTo_tail x r sep k (by omega), if_neg (by omega), List.take_succ_eq_append_getElem (by omega), List.map_append]
    have e : (x :: r).getD (k + 1) ByteArray.empty = r[k] := by
      rw [List.getD_eq_getElem?_getD, List.getElem?_cons_succ, List.getElem?_eq_getElem (by omega)]; rfl
    rw [e]
    unfold Lib.joinTail
    rw [List.map_append, List.flatten_append]
    simp
theorem joinTo_eq (xs : List ByteArray) (sep : List UInt8) : joinTo xs sep xs.length = Lib.join (xs.map (·.data.toList)) sep := by
  cases xs with
  | nil => simp [joinTo, Lib.join_nil]
  | cons x r =>
    rw [List.length_cons, joinTo_tail x r sep r.length (Nat.le_refl _), List.take_of_length_le (Nat.le_refl _), List.map_cons, Lib.join_cons]
theorem joinTo_len (xs : List ByteArray) (sep : List UInt8) (hs : sep.length ≤ 1048576) (hx : ∀ j, (xs.getD j ByteArray.empty).size ≤ 1048576) : ∀ k, (joinTo xs sep k).length ≤ k * 2097152
  | 0 => by simp [joinTo]
  | k + 1 => by
    have ih := joinTo_len xs sep hs hx k
    have h := hx k
    have e : (xs.getD k ByteArray.empty).data.toList.length = (xs.getD k ByteArray.empty).size := by simp
    rw [joinTo, List.length_append, List.length_append, e]
    generalize (xs.getD k ByteArray.empty).size = q at h
    split
    · simp only [List.length_nil]; omega
    · omega
theorem ba_ext {b : ByteArray} {l : List UInt8} (h : b.data.toList = l) : b = ⟨l.toArray⟩ := by
  subst h; cases b; rfl

set_option maxHeartbeats 1000000 in
theorem specJoin_any (v : Value) (xs : List ByteArray) (sep : ByteArray) (w : World) (hr : Rs w v (xs.map Value.string)) (hm : ∀ j, (xs.getD j ByteArray.empty).size ≤ 1048576) (hn : xs.length ≤ 1048576) (hs : sep.size ≤ 1048576) :
    Calls Try.prog 21 #[v, .string sep] w fun e w' => e = .returned (.string ⟨(Lib.join (xs.map (·.data.toList)) sep.data.toList).toArray⟩) ∧ w = w' := by
  obtain ⟨a, cap, rfl, h1, h2, h3⟩ := hr.parts
  unfold maxLen at h2
  have KEY := Lib.hid h3
  have HM := Lib.hid hm
  clear h3 hm
  go_enter Try.func21, Try.ntmps21
  go_wp2
  go_loop [5, 10] (fun sv i => ∃ (k : Nat) (B : ByteArray), k ≤ xs.length ∧ i = .int .i64 k ∧ sv = .string B ∧ B.size ≤ k * 2097152 ∧ Hid (B.data.toList = joinTo xs sep.data.toList k)) (fun _ i => xs.length - (intOf i).toNat)
  case atStart => exact ⟨0, ⟨#[]⟩, Nat.zero_le _, rfl, rfl, Nat.zero_le _, Lib.hid rfl⟩
  case round =>
    obtain ⟨k, B, hk, rfl, rfl, hB, HT⟩ := hrel
    by_cases hlt : k < xs.length
    · obtain ⟨b, o, rfl, hb, hc⟩ := KEY.out k hlt
      have hsz := HM.out k
      have HS : Hid (joinTo xs sep.data.toList (k + 1) = joinTo xs sep.data.toList k ++ (if k = 0 then [] else sep.data.toList) ++ (xs.getD k ByteArray.empty).data.toList) := Lib.hid rfl
      generalize xs.getD k ByteArray.empty = y at hc hsz HS
      by_cases hk0 : 0 < k
      · go_wp2
        go_round
        case rel => exact ⟨k + 1, B ++ sep ++ y, by omega, by go_num, rfl, by simp [ByteArray.size_append]; omega, Lib.hid (by rw [HS.out, ← HT.out, if_neg (by omega)]; simp [ByteArray.data_append])⟩
        case measure => simp [intOf]; omega
      · go_wp2
        go_round
        case rel => exact ⟨k + 1, B ++ y, by omega, by go_num, rfl, by simp [ByteArray.size_append]; omega, Lib.hid (by rw [HS.out, ← HT.out, if_pos (by omega)]; simp [ByteArray.data_append])⟩
        case measure => simp [intOf]; omega
    · obtain rfl : k = xs.length := by omega
      go_wp2
      go_ret
      exact ⟨ret_str (ba_ext (by rw [HT.out, joinTo_eq])), rfl⟩

set_option maxHeartbeats 1000000 in
theorem joinParts_any (v : Value) (xs : List ByteArray) (sep : ByteArray) (w : World) (hr : Rs w v (xs.map Value.string)) (hn : xs.length ≤ 140737488355328) (hl : (Lib.join (xs.map (·.data.toList)) sep.data.toList).length ≤ 140737488355328) :
    Calls Try.prog 30 #[.string sep, v] w fun e w' => e = .returned (.string ⟨(Lib.join (xs.map (·.data.toList)) sep.data.toList).toArray⟩) ∧ Below w.heap.size w w' := by
  obtain ⟨a, cap, rfl, h1, h2, h3⟩ := hr
  rw [List.length_map] at *
  rcases h3 with h3 | ⟨b, o, rfl, hb, hc⟩
  · have e : xs = [] := by cases xs with
      | nil => rfl
      | cons x r => simp at h3
    subst e
    go_enter Try.func30, Try.ntmps30
    go_wp2_with fail
    refine (Try.strings_Join_none _ _ _ _).mono ?_
    rintro e w' ⟨rfl, rfl⟩
    go_wp2
    go_ret
    exact ⟨rfl, Below.refl _ _⟩
  · have H := Lib.hid (Try.strings_Join b o cap xs sep w (fun j x hx => hc j _ (by rw [List.getElem?_map, hx]; rfl)) hb hn h1 hl)
    clear hc
    generalize (Lib.join (xs.map (·.data.toList)) sep.data.toList).toArray = J at H
    go_enter Try.func30, Try.ntmps30
    go_wp2_with fail
    refine H.out.mono ?_
    rintro e w' ⟨rfl, hb1⟩
    have HB := Lib.hid hb1; clear hb1
    go_wp2
    go_ret
    exact ⟨rfl, HB.out⟩

theorem implJoin_any (v : Value) (xs : List ByteArray) (sep : ByteArray) (w : World) (hr : Rs w v (xs.map Value.string)) (hn : xs.length ≤ 140737488355328) (hl : (Lib.join (xs.map (·.data.toList)) sep.data.toList).length ≤ 140737488355328) :
    Calls Try.prog 23 #[v, .string sep] w fun e w' => e = .returned (.string ⟨(Lib.join (xs.map (·.data.toList)) sep.data.toList).toArray⟩) ∧ Below w.heap.size w w' := by
  have H := Lib.hid (joinParts_any v xs sep w hr hn hl)
  generalize (Lib.join (xs.map (·.data.toList)) sep.data.toList).toArray = J at H
  clear hr hl
  go_enter Try.func23, Try.ntmps23
  go_wp2_with fail
  refine H.out.mono ?_
  rintro e w' ⟨rfl, hb1⟩
  have HB := Lib.hid hb1; clear hb1
  go_wp2
  go_ret
  exact ⟨rfl, HB.out⟩

theorem toS_step {wr : World} {base g n i : Nat} {ys : List ByteArray} {z : Value} (h : wr.ownsRow base 9 1 (.slice (some ⟨g, 0, none⟩) n n) n ((ys.take i).map Value.string ++ List.replicate (n - i) z)) (hi : i < n) (hn : ys.length = n) :
    wr.cell? ⟨g, i, none⟩ = some z ∧ (wr.setCell ⟨g, i, none⟩ (.string (ys.getD i ByteArray.empty))).ownsRow base 9 1 (.slice (some ⟨g, 0, none⟩) n n) n ((ys.take (i + 1)).map Value.string ++ List.replicate (n - (i + 1)) z) := by
  have hl : ((ys.take i).map Value.string).length = i := by simp; omega
  have hr : List.replicate (n - i) z = z :: List.replicate (n - (i + 1)) z := by
    rw [show n - i = (n - (i + 1)) + 1 by omega, List.replicate_succ]
  refine ⟨?_, ?_⟩
  · rw [h.cellAt i (by omega), List.getElem?_append_right (by omega), hl, Nat.sub_self, hr]; rfl
  · have h1 := (h.stored i (.string (ys.getD i ByteArray.empty))).1
    rw [List.set_append_right _ _ (by omega), hl, Nat.sub_self, hr, List.set_cons_zero] at h1
    rw [List.take_succ_eq_append_getElem (by omega), List.map_append, List.append_assoc]
    have e : ys.getD i ByteArray.empty = ys[i] := by rw [List.getD_eq_getElem?_getD, List.getElem?_eq_getElem (by omega)]; rfl
    rw [e] at h1 ⊢
    exact h1

set_option maxHeartbeats 1000000 in
theorem toStringS_any (v : Value) (xs : List ByteArray) (w : World) (hr : Rs w v (xs.map Value.string)) (hn : xs.length ≤ 2097152) :
    Calls Try.prog 22 #[v] w fun e w' => ∃ g, e = .returned g ∧ w'.ownsRow w.heap.size 9 1 g xs.length (xs.map Value.string) ∧ Below w.heap.size w w' := by
  obtain ⟨i0, hi, hz0, hz1, hz2⟩ := info_parts Try.infoStr
  obtain ⟨a, cap, rfl, h1, h2, h3⟩ := hr.parts
  unfold maxLen at h2
  have KEY := Lib.hid h3
  clear h3
  have hb1 : i0.bytes * xs.length ≤ 281474976710656 := by rw [hz2]; omega
  have HB1 := Lib.hid hb1
  clear hb1
  go_enter Try.func22, Try.ntmps22
  go_wp2_with (at_make; refine wpList_make_full _ rfl _ _ 23 rfl w.heap.size 9 i0 (.string ByteArray.empty) 1 Try.underlying23 hi hz0 hz1 _ _ _ _ xs.length rfl rfl rfl rfl HB1.out (by unfold maxLen; omega) (Nat.le_refl _) ?_; intro w1 hown hg; have HO := Lib.hid hown; have HG := Lib.hid hg; clear hown hg)
  have hst : Hid (w1.ownsRow w.heap.size 9 1 (.slice (some ⟨w.heap.size, 0, none⟩) xs.length xs.length) xs.length ((xs.take 0).map Value.string ++ List.replicate (xs.length - 0) (.string ByteArray.empty))) := Lib.hid (by
    have h := HO.out
    rw [Nat.mul_one, show (Value.string ByteArray.empty).cells = #[Value.string ByteArray.empty] from rfl, toList_madeCells_one] at h
    simpa using h)
  have hbw : Hid (Below w.heap.size w w1) := Lib.hid ((Below.refl _ _).grown HG.out (Nat.le_refl _) (fun k hk => by cases hk))
  clear HO HG
  go_loopw [4] (fun i wr => ∃ k : Nat, k ≤ xs.length ∧ i = .int .i64 k ∧ Hid (wr.ownsRow w.heap.size 9 1 (.slice (some ⟨w.heap.size, 0, none⟩) xs.length xs.length) xs.length ((xs.take k).map Value.string ++ List.replicate (xs.length - k) (.string ByteArray.empty))) ∧ Hid (Below w.heap.size w wr)) (fun i _ => xs.length - (intOf i).toNat)
  case atStart => exact ⟨0, Nat.zero_le _, rfl, hst, hbw⟩
  case round =>
    obtain ⟨k, hk, rfl, HO, HB⟩ := hrel
    by_cases hlt : k < xs.length
    · obtain ⟨b, o, rfl, hb, hc⟩ := KEY.out k hlt
      have hcr : wr.cell? ⟨b, o + k, none⟩ = some (.string (xs.getD k ByteArray.empty)) := by rw [HB.out.cell (p := ⟨b, o + k, none⟩) hb]; exact hc
      obtain ⟨hz, hnx⟩ := toS_step HO.out hlt rfl
      have hf := HO.out.frozenAt k
      have HN := Lib.hid hnx
      clear hc hnx
      generalize xs.getD k ByteArray.empty = y at hcr HN
      go_wp2
      go_roundw
      case rel => exact ⟨k + 1, by omega, by go_num, HN, Lib.hid (HB.out.setCell (Nat.le_refl _) _)⟩
      case measure => simp [intOf]; omega
    · obtain rfl : k = xs.length := by omega
      go_wp2
      go_ret
      refine ⟨_, rfl, ?_, HB.out⟩
      have h := HO.out
      rw [Nat.sub_self, List.take_of_length_le (Nat.le_refl _)] at h
      simpa using h

theorem totL_le {xs : List ByteArray} (h : totL xs ≤ 1048576) : ∀ j, (xs.getD j ByteArray.empty).size ≤ 1048576 := by
  intro j
  rcases Nat.lt_or_ge j xs.length with hj | hj
  · have h1 := szTo_succ hj
    have h2 : szTo xs (j + 1) ≤ totL xs := by
      unfold szTo totL
      conv => rhs; rw [← List.take_append_drop (j + 1) xs]
      rw [List.map_append, List.sum_append]; omega
    omega
  · rw [List.getD_eq_getElem?_getD, List.getElem?_eq_none hj]; simp

set_option maxHeartbeats 1000000 in
theorem walk_FnExactJoin (v0 : Value) (xs : List ByteArray) (a1 : ByteArray) (w : World) (h0 : InStrs w v0 xs) (_w1 : a1.size ≤ maxLen) :
    Calls Try.prog 7 #[v0, .string a1] w fun e w' => e = .returned (.bool true) ∧ Below w.heap.size w w' := by
  obtain ⟨hr, hm⟩ := h0
  by_cases h : 1048576 < a1.size
  · go_enter Try.func7, Try.ntmps7
    go_wp2
    go_ret
    exact ⟨rfl, Below.refl _ _⟩
  have R := Lib.hid hr
  have M := Lib.hid hm
  clear hr hm
  go_enter Try.func7, Try.ntmps7
  go_wp2_with fail
  refine (szStringS_any _ _ _ R.out M.out).mono ?_
  rintro e x ⟨n, rfl, rfl, hn⟩
  rcases hn with hn | ⟨hn, hn'⟩
  · go_wp2
    go_ret
    exact ⟨rfl, Below.refl _ _⟩
  have hlen : xs.length ≤ 1048576 := by omega
  have htot : totL xs ≤ 1048576 := by omega
  have MM := Lib.hid (totL_le htot)
  clear hn' htot
  have hjl : (Lib.join (xs.map (·.data.toList)) a1.data.toList).length ≤ 140737488355328 := by
    have h2 := joinTo_len xs a1.data.toList (by simp; omega) MM.out xs.length
    rw [← joinTo_eq]
    omega
  have JL := Lib.hid hjl
  clear hjl
  go_wp2_with fail
  refine (toStringS_any _ _ _ R.out (by omega)).mono ?_
  rintro e x1 ⟨g1, rfl, ho1, hb1⟩
  have O1 := Lib.hid ho1; have B1 := Lib.hid hb1; clear ho1 hb1
  go_wp2_with fail
  refine (specJoin_any _ xs _ _ (Rs.of_own O1.out) MM.out hlen (by omega)).mono ?_
  rintro e x ⟨rfl, rfl⟩
  have s1 : w.heap.size ≤ x1.heap.size := B1.out.size
  go_wp2_with fail
  refine (toStringS_any _ _ _ (R.out.below B1.out (Nat.le_refl _)) (by omega)).mono ?_
  rintro e x2 ⟨g2, rfl, ho2, hb2⟩
  have O2 := Lib.hid ho2; have B2 := Lib.hid hb2; clear ho2 hb2
  go_wp2_with fail
  refine (implJoin_any _ xs _ _ (Rs.of_own O2.out) (by omega) JL.out).mono ?_
  rintro e x3 ⟨rfl, hb3⟩
  have B3 := Lib.hid hb3; clear hb3
  have s2 : x1.heap.size ≤ x2.heap.size := B2.out.size
  have s3 : x2.heap.size ≤ x3.heap.size := B3.out.size
  have B03 : Hid (Below w.heap.size w x3) := Lib.hid ((B1.out.trans (B2.out.mono (by omega))).trans (B3.out.mono (by omega)))
  go_wp2_with fail
  refine (toStringS_any _ _ _ (R.out.below B03.out (Nat.le_refl _)) (by omega)).mono ?_
  rintro e x4 ⟨g4, rfl, ho4, hb4⟩
  have O4 := Lib.hid ho4; have B4 := Lib.hid hb4; clear ho4 hb4
  have s4 : x3.heap.size ≤ x4.heap.size := B4.out.size
  go_wp2_with fail
  refine (eqStringS_same _ _ xs _ ((Rs.of_own O2.out).below (B3.out.trans (B4.out.mono (by omega))) (Nat.le_refl _)) (Rs.of_own O4.out)).mono ?_
  rintro e x5 ⟨rfl, n5, rfl⟩
  go_wp2
  go_ret
  exact ⟨rfl, below_drewN' (B03.out.trans (B4.out.mono (by omega))) n5⟩
end Go.Proofs.Ytmniigplfhmbjaa
