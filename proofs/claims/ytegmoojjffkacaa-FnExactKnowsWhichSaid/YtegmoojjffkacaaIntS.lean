/-
  Contracts of the laws' helpers over []int and [][]int: toIntS, szIntS, eqIntS, markIntS, heldIntS, toIntSS, szIntSS, eqIntSS, markIntSS, heldIntSS. Conditions: bounds on the lengths, which the laws check.
-/
import Derived.Test.YtegmoojjffkacaaIv
namespace Go.Proofs.Ytegmoojjffkacaa
open Go.RowKit Go.WideShapes
open Go Go.Deep

theorem Try.infoI : (Try.prog.info? 3).map (fun i => (i.zero, i.size, i.bytes)) = some (some (.int .i64 0), 1, 8) := by kernel_rfl
theorem Try.infoL : (Try.prog.info? 22).map (fun i => (i.zero, i.size, i.bytes)) = some (some (.slice none 0 0), 1, 24) := by kernel_rfl

theorem set_takeL {α : Type} (xs : List α) (k n : Nat) (d x : α) (hk : k < xs.length) (hn : k < n) (hx : xs[k]? = some x) : (xs.take k ++ List.replicate (n - k) d).set k x = xs.take (k + 1) ++ List.replicate (n - (k + 1)) d := by
  have hl : (xs.take k).length = k := by rw [List.length_take]; omega
  rw [List.set_append_right _ _ (by omega), hl, Nat.sub_self, show n - k = (n - (k + 1)) + 1 by omega, List.replicate_succ, List.set_cons_zero, List.take_add_one, hx]
  simp
/-- what a store into an own row of one-cell values asks -/
theorem own_one {w : World} {base g cap n k : Nat} {e : TypeId} {xs : List Value} (h : w.ownsRow base e 1 (.slice (some ⟨g, 0, none⟩) n cap) n xs) (hk : k < n) :
    w.frozen? ⟨g, k, none⟩ = false ∧ ∃ z, w.cell? ⟨g, k, none⟩ = some z := by
  refine ⟨h.frozenAt _, ?_⟩
  rw [h.cellAt k (by omega)]
  exact ⟨_, List.getElem?_eq_getElem (by rw [h.1]; omega)⟩
theorem madeI (n : Nat) : (madeCells (Value.int .i64 0).cells n).toList = ints (List.replicate n 0) := by
  rw [show (Value.int .i64 0).cells = #[Value.int .i64 0] from rfl, toList_madeCells_one]; simp [ints]
theorem ints_set (l : List Int) (k : Nat) (x : Int) : (ints l).set k (.int .i64 x) = ints (l.set k x) := by simp [ints, List.map_set]

set_option maxRecDepth 100000 in
set_option maxHeartbeats 1000000 in
theorem toIntS_any (lo hi : Nat) (v : Value) (l : List Int) (w : World) (hr : Iv lo hi w v l) (hn : l.length ≤ 1048576) :
    Calls Try.prog 23 #[v] w (IntsAns w l) := by
  obtain ⟨i0, hi, hz0, hz1, hz2⟩ := info_parts Try.infoI
  obtain ⟨a, cap, rfl, h1, h2, h3⟩ := hr.parts
  unfold maxLen at h2
  have KEY := Lib.hid h3
  clear h3
  have hb1 : i0.bytes * l.length ≤ 281474976710656 := by rw [hz2]; omega
  have HB1 := Lib.hid hb1
  clear hb1
  go_enter Try.func23, Try.ntmps23
  go_wp2_with (at_make; refine wpList_make_full _ rfl _ _ 22 rfl w.heap.size 3 i0 (.int .i64 0) 1 Try.underlying22 hi hz0 hz1 _ _ _ _ l.length rfl rfl rfl rfl HB1.out (by unfold maxLen; omega) (Nat.le_refl _) ?_; intro w1 hown hg; have HO := Lib.hid hown; have HG := Lib.hid hg; clear hown hg)
  have hst : Hid (w1.ownsRow w.heap.size 3 1 (.slice (some ⟨w.heap.size, 0, none⟩) l.length l.length) l.length (ints (l.take 0 ++ List.replicate (l.length - 0) 0))) := Lib.hid (by
    have h := HO.out
    rw [Nat.mul_one, madeI] at h
    simpa using h)
  have hbw : Hid (Below w.heap.size w w1) := Lib.hid ((Below.refl _ _).grown HG.out (Nat.le_refl _) (fun k hk => by cases hk))
  clear HO HG
  go_loopw [4] (fun i wr => ∃ k : Nat, k ≤ l.length ∧ i = .int .i64 k ∧ Hid (wr.ownsRow w.heap.size 3 1 (.slice (some ⟨w.heap.size, 0, none⟩) l.length l.length) l.length (ints (l.take k ++ List.replicate (l.length - k) 0))) ∧ Hid (Below w.heap.size w wr)) (fun i _ => l.length - (intOf i).toNat)
  case atStart => exact ⟨0, Nat.zero_le _, rfl, hst, hbw⟩
  case round =>
    obtain ⟨k, hk, rfl, HO, HB⟩ := hrel
    by_cases hlt : k < l.length
    · obtain ⟨b, o, rfl, _, _, hb, c0⟩ := KEY.out k hlt
      rw [← HB.out.cell (p := ⟨b, o + k, none⟩) hb] at c0
      obtain ⟨f0, z0, g0⟩ := own_one HO.out hlt
      have HX : Hid (l[k]? = some (l.getD k 0)) := Lib.hid (getD_some 0 hlt)
      generalize l.getD k 0 = x at c0 HX
      go_wp2
      go_roundw
      case rel =>
        refine ⟨k + 1, by omega, by go_num, Lib.hid ?_, Lib.hid (HB.out.setCell (Nat.le_refl _) _)⟩
        rw [← set_takeL l k l.length 0 x hlt hlt HX.out, ← ints_set]
        exact (HO.out.stored k _).1
      case measure => simp [intOf]; omega
    · obtain rfl : k = l.length := by omega
      go_wp2
      go_ret
      refine ⟨_, rfl, ?_, HB.out⟩
      have h := HO.out
      rw [Nat.sub_self, List.take_of_length_le (Nat.le_refl _)] at h
      simp only [List.replicate_zero, List.append_nil] at h
      exact Ro.of_own h

/-- what is left of a budget -/
def budget (left : Int) (n : Nat) : Int := if left - n < 0 then -1 else left - n
set_option maxHeartbeats 1000000 in
theorem szIntS_any (lo hi : Nat) (v : Value) (l : List Int) (left : Int) (w : World) (h : Iv lo hi w v l) (h0 : 0 ≤ left) (h1 : left ≤ 1048576) :
    Calls Try.prog 61 #[v, .int .i64 left] w fun e w' => e = .returned (.int .i64 (budget left l.length)) ∧ w = w' := by
  obtain ⟨a, cap, rfl, h2, h3, _⟩ := h.parts
  unfold maxLen at h3
  unfold budget
  by_cases hlt : left - (l.length : Int) < 0
  · rw [if_pos hlt]
    go_enter Try.func61, Try.ntmps61
    go_wp2
    go_ret
    exact ⟨rfl, rfl⟩
  · rw [if_neg hlt]
    go_enter Try.func61, Try.ntmps61
    go_wp2
    go_ret
    exact ⟨rfl, rfl⟩

set_option maxRecDepth 100000 in
set_option maxHeartbeats 2000000 in
theorem eqIntS_same (lo hi lo' hi' : Nat) (u v : Value) (l : List Int) (w : World) (hu : Iv lo hi w u l) (hv : Iv lo' hi' w v l) :
    Calls Try.prog 25 #[u, v] w fun e w' => e = .returned (.bool true) ∧ ∃ n, w' = w.drewN n := by
  obtain ⟨a1, c1, rfl, hc1, hm1, h1⟩ := hu.parts
  obtain ⟨a2, c2, rfl, hc2, hm2, h2⟩ := hv.parts
  have K1 := Lib.hid h1
  have K2 := Lib.hid h2
  clear h1 h2 hu hv
  unfold maxLen at hm1 hm2
  go_enter Try.func25, Try.ntmps25
  go_wp2
  go_loopw [5] (fun i wr => ∃ k n : Nat, k ≤ l.length ∧ i = .int .i64 k ∧ wr = w.drewN n) (fun i _ => l.length - (intOf i).toNat)
  case atStart => exact ⟨0, 0, Nat.zero_le _, rfl, rfl⟩
  case round =>
    obtain ⟨k, n, hk, rfl, rfl⟩ := hrel
    by_cases hlt : k < l.length
    · obtain ⟨b1, o1, rfl, _, _, hb1, d0⟩ := K1.out k hlt
      obtain ⟨b2, o2, rfl, _, _, hb2, e0⟩ := K2.out k hlt
      go_wp2
      go_quiet (fail)
      go_wp2
      go_roundw
      case rel => exact ⟨k + 1, _, by omega, by go_num, rfl⟩
      case measure => simp [intOf]; omega
    · go_wp2
      go_ret
      exact ⟨rfl, n, rfl⟩

set_option maxRecDepth 100000 in
set_option maxHeartbeats 2000000 in
theorem markIntS_row (lo hi : Nat) (v : Value) (l : List Int) (k : Nat) (w : World) (hn : l.length ≤ 2097152) (hk : k ≤ 8388608) (ho : Io lo hi w v l) :
    Calls Try.prog 26 #[v, .int .i64 k] w fun e w' => e = .returned (.int .i64 (k + l.length : Nat)) ∧ Io lo hi w' v (mrow k l.length) ∧ w.grownBy w' v.ownBlock := by
  obtain ⟨ho, hhi⟩ := ho
  rw [ints_len] at ho
  rcases Nat.eq_zero_or_pos l.length with h00 | hpos
  · obtain rfl : l = [] := List.length_eq_zero_iff.1 h00
    obtain ⟨a, cap, rfl⟩ : ∃ a cap, v = .slice a 0 cap := by
      rcases ho.2 with ⟨rfl, _⟩ | ⟨g, cap, cur, rfl, _⟩
      · exact ⟨_, _, rfl⟩
      · exact ⟨_, _, rfl⟩
    have HO := Lib.hid ho
    have HH := Lib.hid hhi
    clear ho hhi
    go_enter Try.func26, Try.ntmps26
    go_wp2
    refine wp_loop_rounds 1 ?_
    rw [rounds_succ]
    go_wp2
    go_ret
    exact ⟨ret_int (by simp), ⟨HO.out, HH.out⟩, World.grownBy.refl _ _⟩
  obtain ⟨g, cap, rfl, hbg⟩ : ∃ g cap, v = .slice (some ⟨g, 0, none⟩) l.length cap ∧ lo ≤ g := by
    rcases ho.2 with ⟨rfl, h⟩ | ⟨g, cap, cur, rfl, hb, _⟩
    · omega
    · exact ⟨_, _, rfl, hb⟩
  have hgo : (Value.slice (some ⟨g, 0, none⟩) l.length cap).ownBlock = some g := rfl
  have HGO := Lib.hid hgo
  have HH := Lib.hid hhi
  clear hgo hhi
  go_enter Try.func26, Try.ntmps26
  go_wp2
  go_loopw [1, 5] (fun kv iv wr => ∃ i : Nat, i ≤ l.length ∧ iv = .int .i64 i ∧ kv = .int .i64 (k + i : Nat) ∧ Hid (wr.ownsRow lo 3 1 (.slice (some ⟨g, 0, none⟩) l.length cap) l.length (ints (mrow k i ++ l.drop i))) ∧ Hid (w.grownBy wr (some g))) (fun _ iv _ => l.length - (intOf iv).toNat)
  case atStart => exact ⟨0, Nat.zero_le _, rfl, by go_num, Lib.hid (by simpa [mrow] using ho), Lib.hid (World.grownBy.refl _ _)⟩
  case round =>
    obtain ⟨i, hi, rfl, rfl, HO, HB⟩ := hrel
    by_cases hlt : i < l.length
    · obtain ⟨f0, z0, g0⟩ := own_one HO.out hlt
      go_wp2
      go_roundw
      case rel =>
        refine ⟨i + 1, by omega, by go_num, by go_num, Lib.hid ?_, Lib.hid (HB.out.trans (HO.out.stored i _).2)⟩
        rw [← mrow_set hlt, ← ints_set]
        exact (HO.out.stored i _).1
      case measure => simp [intOf]; omega
    · obtain rfl : i = l.length := by omega
      go_wp2
      go_ret
      refine ⟨rfl, ⟨?_, HH.out⟩, HB.out⟩
      have := HO.out; rw [List.drop_of_length_le (Nat.le_refl _), List.append_nil] at this
      rw [ints_len, mrow_len]
      exact this

set_option maxRecDepth 100000 in
set_option maxHeartbeats 2000000 in
theorem heldIntS_any (lo hi : Nat) (v : Value) (n k : Nat) (w : World) (hn : n ≤ 2097152) (hk : k ≤ 8388608) (hr : Iv lo hi w v (mrow k n)) :
    Calls Try.prog 29 #[v, .int .i64 k] w fun e w' => e = .returned (.int .i64 (k + n : Nat)) ∧ w = w' := by
  obtain ⟨a, cap, rfl, hc1, hm1, h1⟩ := hr.parts
  rw [mrow_len] at *
  have KEY := Lib.hid h1
  clear h1 hr
  unfold maxLen at hm1
  go_enter Try.func29, Try.ntmps29
  go_wp2
  go_loop [1, 5] (fun kv iv => ∃ i : Nat, i ≤ n ∧ iv = .int .i64 i ∧ kv = .int .i64 (k + i : Nat)) (fun _ iv => n - (intOf iv).toNat)
  case atStart => exact ⟨0, Nat.zero_le _, rfl, by go_num⟩
  case round =>
    obtain ⟨i, hi, rfl, rfl⟩ := hrel
    by_cases hlt : i < n
    · obtain ⟨b, o, rfl, _, _, hbl, c0⟩ := KEY.out i hlt
      rw [mrow_get hlt] at c0
      go_wp2
      go_round
      case rel => exact ⟨i + 1, by omega, by go_num, by go_num⟩
      case measure => simp [intOf]; omega
    · obtain rfl : i = n := by omega
      go_wp2
      go_ret
      exact ⟨rfl, rfl⟩

theorem madeL (n : Nat) : (madeCells (Value.slice none 0 0).cells n).toList = List.replicate n (Value.slice none 0 0) := by
  rw [show (Value.slice none 0 0).cells = #[Value.slice none 0 0] from rfl, toList_madeCells_one]
/-- rows that lie in turn: each in a block of its own -/
theorem pair_snoc {v u : Value} {vs : List Value} (h : (v :: vs).Pairwise apart) (hu : ∀ x ∈ v :: vs, apart x u) : (v :: (vs ++ [u])).Pairwise apart := by
  rw [show v :: (vs ++ [u]) = (v :: vs) ++ [u] from rfl, List.pairwise_append]
  exact ⟨h, List.pairwise_singleton _ _, fun x hx y hy => by simp only [List.mem_singleton] at hy; subst hy; exact hu x hx⟩
theorem Rows'.snoc {lo hi : Nat} {w : World} {vs : List Value} {ll : List (List Int)} {u : Value} {l : List Int} (h : Rows' lo hi w vs ll) (hu : Io lo hi w u l) : Rows' lo hi w (vs ++ [u]) (ll ++ [l]) := by
  refine ⟨by simp [h.1], fun j hj => ?_⟩
  rcases Nat.lt_or_ge j ll.length with h1 | h1
  · have e1 : (vs ++ [u]).getD j (.bool false) = vs.getD j (.bool false) := by
      rw [List.getD_eq_getElem?_getD, List.getElem?_append_left (by rw [h.1]; exact h1), List.getD_eq_getElem?_getD]
    have e2 : (ll ++ [l]).getD j [] = ll.getD j [] := by
      rw [List.getD_eq_getElem?_getD, List.getElem?_append_left h1, List.getD_eq_getElem?_getD]
    rw [e1, e2]; exact h.2 j h1
  · have hj' : j = ll.length := by simp at hj; omega
    have e1 : (vs ++ [u]).getD j (.bool false) = u := by
      rw [List.getD_eq_getElem?_getD, List.getElem?_append_right (by rw [h.1]; omega), h.1, hj']; simp
    have e2 : (ll ++ [l]).getD j [] = l := by
      rw [List.getD_eq_getElem?_getD, List.getElem?_append_right (by omega), hj']; simp
    rw [e1, e2]; exact hu
theorem Rows'.blk {lo hi : Nat} {w : World} {vs : List Value} {ll : List (List Int)} (h : Rows' lo hi w vs ll) {x : Value} (hx : x ∈ vs) : ∀ k, x.ownBlock = some k → lo ≤ k ∧ k < hi ∧ k < w.heap.size := by
  obtain ⟨j, hj, rfl⟩ := List.getElem_of_mem hx
  have hr := h.2 j (by rw [← h.1]; exact hj)
  rw [List.getD_eq_getElem?_getD, List.getElem?_eq_getElem hj] at hr
  intro k hk
  exact ⟨(hr.1.lt k hk).1, hr.2 k hk, (hr.1.lt k hk).2⟩

set_option maxRecDepth 100000 in
set_option maxHeartbeats 4000000 in
theorem toIntSS_any (lo hi : Nat) (v : Value) (ll : List (List Int)) (w : World) (hr : Ivv lo hi w v ll) (hhi : hi ≤ w.heap.size) (hn : ll.length ≤ 1048576) (ht : tot ll ≤ 1048576) :
    Calls Try.prog 66 #[v] w fun e w' => ∃ v' vs, e = .returned v' ∧ Ioo w.heap.size w'.heap.size w' v' vs ll ∧ Below w.heap.size w w' := by
  obtain ⟨i0, hi, hz0, hz1, hz2⟩ := info_parts Try.infoL
  obtain ⟨a, cap, rfl, h1, h2, h3⟩ := hr.parts
  unfold maxLen at h2
  have KEY := Lib.hid h3
  have HT := Lib.hid (fun k (h : k < ll.length) => tot_get_le h)
  clear h3
  have hb1 : i0.bytes * ll.length ≤ 281474976710656 := by rw [hz2]; omega
  have HB1 := Lib.hid hb1
  clear hb1
  go_enter Try.func66, Try.ntmps66
  go_wp2_with (at_make; refine wpList_make_full _ rfl _ _ 23 rfl w.heap.size 22 i0 (.slice none 0 0) 1 Try.underlying23 hi hz0 hz1 _ _ _ _ ll.length rfl rfl rfl rfl HB1.out (by unfold maxLen; omega) (Nat.le_refl _) ?_; intro w1 hown hg; have HO := Lib.hid hown; have HG := Lib.hid hg; clear hown hg)
  have hst : Hid (w1.ownsRow w.heap.size 22 1 (.slice (some ⟨w.heap.size, 0, none⟩) ll.length ll.length) ll.length ([] ++ List.replicate (ll.length - 0) (.slice none 0 0))) := Lib.hid (by
    have h := HO.out
    rw [Nat.mul_one, madeL] at h
    simpa using h)
  have hbw : Hid (Below w.heap.size w w1) := Lib.hid ((Below.refl _ _).grown HG.out (Nat.le_refl _) (fun k hk => by cases hk))
  clear HO HG
  go_loopw [4] (fun i wr => ∃ (k : Nat) (vs : List Value), k ≤ ll.length ∧ i = .int .i64 k ∧ Hid (wr.ownsRow w.heap.size 22 1 (.slice (some ⟨w.heap.size, 0, none⟩) ll.length ll.length) ll.length (vs ++ List.replicate (ll.length - k) (.slice none 0 0))) ∧ Hid (Rows' w.heap.size wr.heap.size wr vs (ll.take k)) ∧ Hid (((Value.slice (some ⟨w.heap.size, 0, none⟩) ll.length ll.length) :: vs).Pairwise apart) ∧ Hid (Below w.heap.size w wr)) (fun i _ => ll.length - (intOf i).toNat)
  case atStart => exact ⟨0, [], Nat.zero_le _, rfl, hst, Lib.hid ⟨by simp, fun j hj => by simp at hj⟩, Lib.hid (List.pairwise_singleton _ _), hbw⟩
  case round =>
    obtain ⟨k, vs, hk, rfl, HO, HR, HP, HB⟩ := hrel
    by_cases hlt : k < ll.length
    · obtain ⟨b, o, u, rfl, _, _, hb, c0, hu⟩ := KEY.out k hlt
      have hl2 := HT.out k hlt
      have hl3 : (ll.getD k []).length ≤ 1048576 := by omega
      clear hl2
      rw [← HB.out.cell (p := ⟨b, o + k, none⟩) hb] at c0
      have HU := Lib.hid (hu.keeps (Keeps.of_below HB.out hhi))
      have HS := Lib.hid (take_snocL hlt)
      clear hu
      generalize ll.getD k [] = l at *
      go_wp2_with fail
      refine (toIntS_any lo _ u l _ HU.out hl3).mono ?_
      rintro e w2 ⟨v2, rfl, hi2, hb2⟩
      obtain ⟨a2, c2, hf2⟩ := hi2.form
      subst hf2
      have HO2 := Lib.hid (own_below HO.out hb2 (Nat.le_refl _))
      have HB2 := Lib.hid (HB.out.trans (hb2.mono HB.out.size))
      have HR2 := Lib.hid ((HR.out.keeps (Keeps.of_all hb2)).wide (Nat.le_refl _) hb2.size)
      have HI2 := Lib.hid (hi2.wide HB.out.size (Nat.le_refl _))
      have HA2 : Hid (∀ x ∈ (Value.slice (some ⟨w.heap.size, 0, none⟩) ll.length ll.length) :: vs, apart x (.slice a2 l.length c2)) := Lib.hid (fun x hx => by
        refine apart_lt (B := wr.heap.size) (fun q hq => ?_) (fun q hq => (hi2.1.lt q hq).1)
        rcases List.mem_cons.1 hx with rfl | hx
        · exact (HO.out.lt q hq).2
        · exact (HR.out.blk hx q hq).2.2)
      clear hi2 hb2 c0
      obtain ⟨f0, z0, g0⟩ := own_one HO2.out hlt
      go_wp2
      go_roundw
      case rel =>
        have hvl : vs.length = k := by have := HR.out.1; rw [List.length_take] at this; omega
        have hst2 := HO2.out.stored k (.slice a2 l.length c2)
        rw [List.set_append_right _ _ (by omega), hvl, Nat.sub_self, show ll.length - k = (ll.length - (k + 1)) + 1 by omega, List.replicate_succ, List.set_cons_zero] at hst2
        have hrow : ∀ (x : Value) (y : List Int), apart (Value.slice (some ⟨w.heap.size, 0, none⟩) ll.length ll.length) x → Io w.heap.size w2.heap.size w2 x y → Io w.heap.size w2.heap.size (w2.setCell ⟨w.heap.size, k, none⟩ (.slice a2 l.length c2)) x y := fun x y ha hx =>
          hx.keptBy hst2.2 (by
            rcases apart_symm ha with h | h
            · exact .inl h
            · exact .inr h)
        refine ⟨k + 1, vs ++ [.slice a2 l.length c2], by omega, by go_num, Lib.hid ?_, Lib.hid ?_, Lib.hid (pair_snoc HP.out HA2.out), Lib.hid (HB2.out.setCell (Nat.le_refl _) _)⟩
        · rw [List.append_assoc]; exact hst2.1
        · rw [HS.out, show (w2.setCell ⟨w.heap.size, k, none⟩ (.slice a2 l.length c2)).heap.size = w2.heap.size by simp [World.setCell]]
          refine Rows'.snoc ⟨HR2.out.1, fun j hj => hrow _ _ ?_ (HR2.out.2 j hj)⟩ (hrow _ _ (HA2.out _ (List.mem_cons_self ..)) HI2.out)
          have hp := (List.pairwise_cons.1 HP.out).1
          apply hp
          rw [List.getD_eq_getElem?_getD, List.getElem?_eq_getElem (by rw [HR2.out.1]; exact hj)]
          exact List.getElem_mem _
      case measure => simp [intOf]; omega
    · obtain rfl : k = ll.length := by omega
      go_wp2
      go_ret
      have hvl : vs.length = ll.length := by have := HR.out.1; rw [List.length_take] at this; omega
      refine ⟨_, vs, rfl, ⟨?_, ?_, HP.out⟩, HB.out⟩
      · have h := HO.out
        rw [Nat.sub_self, List.replicate_zero, List.append_nil] at h
        exact Ro.of_own h
      · have h := HR.out
        rw [List.take_of_length_le (Nat.le_refl _)] at h
        exact h

theorem budget_add (left : Int) (a b : Nat) : budget left (a + b) = if left - a < 0 then -1 else budget (left - a) b := by
  unfold budget
  by_cases h1 : left - (a : Int) < 0
  · rw [if_pos h1, if_pos (by omega)]
  · rw [if_neg h1]
    by_cases h2 : left - (a : Int) - b < 0
    · rw [if_pos h2, if_pos (by omega)]
    · rw [if_neg h2, if_neg (by omega)]; omega
set_option maxHeartbeats 2000000 in
theorem szIntSS_any (lo hi : Nat) (v : Value) (ll : List (List Int)) (left : Int) (w : World) (h : Ivv lo hi w v ll) (h0 : 0 ≤ left) (h1 : left ≤ 1048576) :
    Calls Try.prog 62 #[v, .int .i64 left] w fun e w' => e = .returned (.int .i64 (budget left (ll.length + tot ll))) ∧ w = w' := by
  obtain ⟨a, cap, rfl, h2, h3, h4⟩ := h.parts
  unfold maxLen at h3
  have KEY := Lib.hid h4
  clear h4
  rw [budget_add _ _ _]
  by_cases hlt : left - (ll.length : Int) < 0
  · rw [if_pos hlt]
    go_enter Try.func62, Try.ntmps62
    go_wp2
    go_ret
    exact ⟨rfl, rfl⟩
  rw [if_neg hlt]
  have HT := Lib.hid (fun k (h : k < ll.length) => tot_take h)
  have HU := Lib.hid (fun k => tot_take_le ll k)
  go_enter Try.func62, Try.ntmps62
  go_wp2
  go_loop [1, 5] (fun lv i => ∃ (k t : Nat), k ≤ ll.length ∧ i = .int .i64 k ∧ lv = .int .i64 (left - ll.length - t) ∧ (t : Int) ≤ left - ll.length ∧ Hid (t = tot (ll.take k))) (fun _ i => ll.length - (intOf i).toNat)
  case atStart => exact ⟨0, 0, Nat.zero_le _, rfl, by go_num, by omega, Lib.hid (by simp [tot])⟩
  case round =>
    obtain ⟨k, t, hk, rfl, rfl, ht, HK⟩ := hrel
    by_cases hlt : k < ll.length
    · obtain ⟨b, o, u, rfl, _, _, hb, c0, hu⟩ := KEY.out k hlt
      have HS := Lib.hid (HT.out k hlt)
      have HV := Lib.hid (HU.out (k + 1))
      have KS := Lib.hid (szIntS_any lo hi u (ll.getD k []) (left - ll.length - t) w hu (by omega) (by omega))
      clear hu
      generalize ll.getD k [] = l at *
      by_cases hs : left - (ll.length : Int) - t - l.length < 0
      · have hbud : budget (left - ll.length - t) l.length = -1 := by unfold budget; rw [if_pos hs]
        rw [hbud] at KS
        have HF : Hid (budget (left - ll.length) (tot ll) = -1) := Lib.hid (by have h1 := HV.out; rw [HS.out, ← HK.out] at h1; unfold budget; rw [if_pos (by omega)])
        clear hbud
        go_wp2_with fail
        refine KS.out.mono ?_
        rintro e w' ⟨rfl, rfl⟩
        go_wp2
        go_ret
        exact ⟨by rw [HF.out]; rfl, rfl⟩
      · have hbud : budget (left - ll.length - t) l.length = left - ll.length - t - l.length := by unfold budget; rw [if_neg hs]
        rw [hbud] at KS
        clear hbud
        go_wp2_with fail
        refine KS.out.mono ?_
        rintro e w' ⟨rfl, rfl⟩
        go_wp2
        go_round
        case rel => exact ⟨k + 1, t + l.length, by omega, by go_num, by go_num, by omega, Lib.hid (by rw [HS.out, ← HK.out])⟩
        case measure => simp [intOf]; omega
    · obtain rfl : k = ll.length := by omega
      go_wp2
      go_ret
      refine ⟨ret_int ?_, rfl⟩
      have h1 := HK.out
      rw [List.take_of_length_le (Nat.le_refl _)] at h1
      unfold budget
      rw [← h1, if_neg (by omega)]
end Go.Proofs.Ytegmoojjffkacaa
