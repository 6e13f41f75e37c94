/-
  Contracts of the laws' helpers over [][]int and models: eqIntSS, markIntSS, heldIntSS, toModel, szModel, eqModel, markModel, heldModel; what an argument that is a model is. Conditions: bounds on the lengths, which the laws check.
-/
import Derived.Test.YtegmoojjffkacaaIntS
namespace Go.Proofs.Ytegmoojjffkacaa
open Go.RowKit Go.WideShapes
open Go Go.Deep

theorem quiet_drawn {P : Program} {f : FuncId} {args : Array Value} {w : World} {v : Value} (h : ∀ m, Calls P f args (w.drewN m) fun e w' => e = .returned v ∧ ∃ n, w' = (w.drewN m).drewN n) (m : Nat) :
    Calls P f args (w.drewN m) fun e w' => e = .returned v ∧ ∃ n, w' = w.drewN n := (h m).mono fun _ _ ⟨he, n, hw⟩ => ⟨he, m + n, by rw [hw, World.drewN_drewN]⟩

set_option maxRecDepth 100000 in
set_option maxHeartbeats 2000000 in
theorem eqIntSS_same (lo hi lo' hi' : Nat) (u v : Value) (ll : List (List Int)) (w : World) (hu : Ivv lo hi w u ll) (hv : Ivv lo' hi' w v ll) :
    Calls Try.prog 70 #[u, v] w fun e w' => e = .returned (.bool true) ∧ Below w.heap.size w w' := by
  obtain ⟨a1, c1, rfl, hc1, hm1, _⟩ := hu.parts
  obtain ⟨a2, c2, rfl, hc2, hm2, _⟩ := hv.parts
  have K1 := Lib.hid hu
  have K2 := Lib.hid hv
  clear hu hv
  unfold maxLen at hm1 hm2
  go_enter Try.func70, Try.ntmps70
  go_wp2
  go_loopw [5] (fun i wr => ∃ k : Nat, k ≤ ll.length ∧ i = .int .i64 k ∧ Hid (Below w.heap.size w wr)) (fun i _ => ll.length - (intOf i).toNat)
  case atStart => exact ⟨0, Nat.zero_le _, rfl, Lib.hid (Below.refl _ _)⟩
  case round =>
    obtain ⟨k, hk, rfl, HB⟩ := hrel
    by_cases hlt : k < ll.length
    · obtain ⟨_, _, e1, _, _, h1⟩ := (K1.out.keeps (Keeps.of_all HB.out)).parts
      obtain ⟨_, _, e2, _, _, h2⟩ := (K2.out.keeps (Keeps.of_all HB.out)).parts
      cases e1; cases e2
      obtain ⟨b1, o1, u1, rfl, _, _, hb1, d0, du⟩ := h1 k hlt
      obtain ⟨b2, o2, u2, rfl, _, _, hb2, e0, eu⟩ := h2 k hlt
      obtain ⟨a1, q1, rfl, _⟩ := id du
      obtain ⟨a2, q2, rfl, _⟩ := id eu
      have KQ := Lib.hid (quiet_drawn fun m => eqIntS_same lo hi lo' hi' _ _ (ll.getD k []) (wr.drewN m) (du.drewN m) (eu.drewN m))
      clear du eu
      generalize ll.getD k [] = l at *
      have hi0 : (0 : Int) ≤ (k : Int) := Int.natCast_nonneg _
      have hi1 : (k : Int) < (ll.length : Int) := by omega
      go_wp2
      go_quiet ((go_at_call 25; exact KQ.out _))
      go_wp2
      go_roundw
      case rel => exact ⟨k + 1, by omega, by go_num, Lib.hid (below_drewN' HB.out _)⟩
      case measure => simp [intOf]; omega
    · go_wp2
      go_ret
      exact ⟨rfl, HB.out⟩

theorem apart_at {v : Value} {vs : List Value} (h : (v :: vs).Pairwise apart) {i j : Nat} (hi : i < vs.length) (hj : j < vs.length) (hij : i ≠ j) : apart (vs.getD j (.bool false)) (vs.getD i (.bool false)) := by
  have h2 := List.pairwise_iff_getElem.1 (List.pairwise_cons.1 h).2
  rw [List.getD_eq_getElem?_getD, List.getElem?_eq_getElem hj, List.getD_eq_getElem?_getD, List.getElem?_eq_getElem hi]
  rcases Nat.lt_or_gt_of_ne hij with h1 | h1
  · exact apart_symm (h2 i j hi hj h1)
  · exact h2 j i hj hi h1
/-- one row of an owned table is written -/
theorem Ioo.step {lo hi : Nat} {w w' : World} {v : Value} {vs : List Value} {ll : List (List Int)} (h : Ioo lo hi w v vs ll) {i : Nat} (hi0 : i < ll.length) {l' : List Int}
    (hg : w.grownBy w' (vs.getD i (.bool false)).ownBlock) (hl : Io lo hi w' (vs.getD i (.bool false)) l') : Ioo lo hi w' v vs (ll.set i l') := by
  have hlen := h.2.1.1
  have hm : vs.getD i (.bool false) ∈ vs := by
    rw [List.getD_eq_getElem?_getD, List.getElem?_eq_getElem (by omega)]; exact List.getElem_mem _
  refine ⟨h.1.keptBy hg ((List.pairwise_cons.1 h.2.2).1 _ hm), ⟨by rw [List.length_set]; exact hlen, fun j hj => ?_⟩, h.2.2⟩
  rw [List.length_set] at hj
  by_cases e : j = i
  · subst e
    rw [List.getD_eq_getElem?_getD (l := ll.set j l'), List.getElem?_set_self (by omega)]
    exact hl
  · rw [List.getD_eq_getElem?_getD (l := ll.set i l'), List.getElem?_set_ne (Ne.symm e), ← List.getD_eq_getElem?_getD]
    exact Ro.keptBy (h.2.1.2 j hj) hg (apart_at h.2.2 (by omega) (by omega) (Ne.symm e))
/-- only the rows vs are written -/
def Only (vs : List Value) (w w' : World) : Prop := w.heap.size ≤ w'.heap.size ∧ ∀ b, b < w.heap.size → (∀ u ∈ vs, u.ownBlock ≠ some b) → w'.heap[b]? = w.heap[b]?
theorem Only.refl (vs : List Value) (w : World) : Only vs w w := ⟨Nat.le_refl _, fun _ _ _ => rfl⟩
theorem Only.grown {vs : List Value} {w w1 w2 : World} (h : Only vs w w1) {u : Value} (hu : u ∈ vs) (hg : w1.grownBy w2 u.ownBlock) : Only vs w w2 :=
  ⟨Nat.le_trans h.1 hg.size, fun b hb hne => (hg.block b (Nat.lt_of_lt_of_le hb h.1) (fun e => hne u hu e.symm)).trans (h.2 b hb hne)⟩
theorem Only.io {vs : List Value} {w w' : World} (h : Only vs w w') {lo hi : Nat} {x : Value} {l : List Int} (hx : Io lo hi w x l) (ha : ∀ u ∈ vs, apart x u) : Io lo hi w' x l :=
  ⟨own_keeps hx.1 fun q hq => h.2 q (hx.1.lt q hq).2 fun u hu e => by
    rcases ha u hu with h1 | h1
    · rw [h1] at hq; cases hq
    · exact h1 (by rw [hq, e]), hx.2⟩
theorem marks_setL (k : Nat) (ll : List (List Int)) (i : Nat) (h : i < ll.length) :
    (mrows k (ll.take i) ++ ll.drop i).set i (mrow (k + tot (ll.take i)) (ll.getD i []).length) = mrows k (ll.take (i + 1)) ++ ll.drop (i + 1) := by
  have hl : (mrows k (ll.take i)).length = i := by rw [mrows_len, List.length_take]; omega
  rw [List.set_append_right _ _ (by omega), hl, Nat.sub_self, List.drop_eq_getElem_cons h, List.set_cons_zero, take_snocL h, mrows_app, mrows, mrows, List.append_assoc]
  rfl
theorem marks_getL (k : Nat) (ll : List (List Int)) (i : Nat) (h : i < ll.length) : (mrows k (ll.take i) ++ ll.drop i).getD i [] = ll.getD i [] := by
  have hl : (mrows k (ll.take i)).length = i := by rw [mrows_len, List.length_take]; omega
  rw [List.getD_eq_getElem?_getD, List.getElem?_append_right (by omega), hl, Nat.sub_self, List.getElem?_drop, Nat.add_zero, ← List.getD_eq_getElem?_getD]

set_option maxRecDepth 100000 in
set_option maxHeartbeats 4000000 in
theorem markIntSS_own (lo hi : Nat) (v : Value) (vs : List Value) (ll : List (List Int)) (k : Nat) (w : World) (hn : ll.length ≤ 1048576) (ht : tot ll ≤ 1048576) (hk : k ≤ 4194304) (ho : Ioo lo hi w v vs ll) :
    Calls Try.prog 71 #[v, .int .i64 k] w fun e w' => e = .returned (.int .i64 (k + tot ll : Nat)) ∧ Ioo lo hi w' v vs (mrows k ll) ∧ Touch lo hi w w' ∧ Only vs w w' := by
  have hvl := ho.2.1.1
  obtain ⟨a, cap, e0, hc1, hm1, hxx⟩ := ho.1.read.parts
  clear hxx
  unfold maxLen at hm1
  rw [hvl] at e0 hc1
  have HV := Lib.hid hvl
  clear hvl
  subst e0
  have HT := Lib.hid (fun i (h : i < ll.length) => tot_get_le h)
  have HT2 := Lib.hid (fun i (h : i < ll.length) => tot_take h)
  go_enter Try.func71, Try.ntmps71
  go_wp2
  go_loopw [1, 5] (fun kv iv wr => ∃ i t : Nat, i ≤ ll.length ∧ iv = .int .i64 i ∧ kv = .int .i64 (k + t : Nat) ∧ t ≤ 1048576 ∧ Hid (t = tot (ll.take i)) ∧ Hid (Ioo lo hi wr (.slice a ll.length cap) vs (mrows k (ll.take i) ++ ll.drop i)) ∧ Hid (Touch lo hi w wr) ∧ Hid (Only vs w wr)) (fun _ iv _ => ll.length - (intOf iv).toNat)
  case atStart => exact ⟨0, 0, Nat.zero_le _, rfl, by go_num, by omega, Lib.hid (by simp [tot]), Lib.hid (by simpa [mrows] using ho), Lib.hid (Touch.refl _ _ _), Lib.hid (Only.refl _ _)⟩
  case round =>
    obtain ⟨i, t, hit, rfl, rfl, htt, HTT, HO, HB, HY⟩ := hrel
    by_cases hlt : i < ll.length
    · have hlen2 : (mrows k (ll.take i) ++ ll.drop i).length = ll.length := by rw [List.length_append, mrows_len, ← List.length_append, List.take_append_drop]
      have hrow := HO.out.2.1.2 i (by rw [hlen2]; exact hlt)
      rw [marks_getL k ll i hlt] at hrow
      obtain ⟨a', _, e2, _, _, hcell⟩ := HO.out.1.read.parts
      obtain rfl : a' = a := by simp only [Value.slice.injEq] at e2; exact e2.1.symm
      obtain ⟨b, o, rfl, _, _, hb, c0⟩ := hcell i (by rw [HV.out]; exact hlt)
      have hs1 := HT.out i hlt
      have HS := Lib.hid (HT2.out i hlt)
      have hll : (ll.getD i []).length ≤ 1048576 := by omega
      have htl : t + (ll.getD i []).length ≤ 1048576 := by rw [HTT.out]; omega
      have HX := Lib.hid (marks_setL k ll i hlt)
      have HST := Lib.hid (fun (w' : World) l' => HO.out.step (w' := w') (l' := l') (i := i) (by rw [hlen2]; exact hlt))
      have HMM : Hid (vs.getD i (.bool false) ∈ vs) := Lib.hid (by rw [List.getD_eq_getElem?_getD, List.getElem?_eq_getElem (by rw [HV.out]; exact hlt)]; exact List.getElem_mem _)
      have HBK : Hid (∀ q, (vs.getD i (.bool false)).ownBlock = some q → lo ≤ q ∧ q < hi) := Lib.hid fun q hq => ⟨(hrow.1.lt q hq).1, hrow.2 q hq⟩
      have KM := Lib.hid (markIntS_row lo hi _ _ (k + t) wr (by omega) (by omega) hrow)
      clear hcell hs1 hlen2 hrow e2
      generalize vs.getD i (.bool false) = u at *
      generalize ll.getD i [] = l at *
      rw [← HTT.out] at HX HS
      go_wp2_with fail
      refine KM.out.mono ?_
      rintro e w2 ⟨rfl, hi2, hg2⟩
      have HI2 := Lib.hid hi2
      have HG2 := Lib.hid hg2
      clear hi2 hg2 c0
      go_wp2
      go_roundw
      case rel =>
        refine ⟨i + 1, t + l.length, by omega, by go_num, by go_num, by omega, Lib.hid HS.out.symm, Lib.hid ?_, Lib.hid (HB.out.trans (Touch.of_grown HG2.out HBK.out)), Lib.hid (HY.out.grown HMM.out HG2.out)⟩
        rw [← HX.out]
        exact HST.out _ _ HG2.out HI2.out
      case measure => simp [intOf]; omega
    · obtain rfl : i = ll.length := by omega
      go_wp2
      go_ret
      have h1 := HTT.out
      have h2 := HO.out
      rw [List.take_of_length_le (Nat.le_refl _)] at h1 h2
      rw [List.drop_of_length_le (Nat.le_refl _), List.append_nil] at h2
      exact ⟨by rw [← h1]; rfl, h2, HB.out, HY.out⟩

set_option maxRecDepth 100000 in
set_option maxHeartbeats 4000000 in
theorem heldIntSS_any (lo hi : Nat) (v : Value) (ll : List (List Int)) (k : Nat) (w : World) (hn : ll.length ≤ 1048576) (ht : tot ll ≤ 1048576) (hk : k ≤ 4194304) (hr : Ivv lo hi w v (mrows k ll)) :
    Calls Try.prog 72 #[v, .int .i64 k] w fun e w' => e = .returned (.int .i64 (k + tot ll : Nat)) ∧ w = w' := by
  obtain ⟨a, cap, rfl, hc1, hm1, h1⟩ := hr.parts
  rw [mrows_len] at *
  have KEY := Lib.hid h1
  clear h1 hr
  unfold maxLen at hm1
  have HT := Lib.hid (fun i (h : i < ll.length) => tot_get_le h)
  have HT2 := Lib.hid (fun i (h : i < ll.length) => tot_take h)
  go_enter Try.func72, Try.ntmps72
  go_wp2
  go_loop [1, 5] (fun kv iv => ∃ i t : Nat, i ≤ ll.length ∧ iv = .int .i64 i ∧ kv = .int .i64 (k + t : Nat) ∧ t ≤ 1048576 ∧ Hid (t = tot (ll.take i))) (fun _ iv => ll.length - (intOf iv).toNat)
  case atStart => exact ⟨0, 0, Nat.zero_le _, rfl, by go_num, by omega, Lib.hid (by simp [tot])⟩
  case round =>
    obtain ⟨i, t, hit, rfl, rfl, htt, HTT⟩ := hrel
    by_cases hlt : i < ll.length
    · obtain ⟨b, o, u, rfl, _, _, hbl, c0, hu⟩ := KEY.out i hlt
      rw [mrows_get _ _ _ hlt, ← HTT.out] at hu
      have hs1 := HT.out i hlt
      have HS := Lib.hid (HT2.out i hlt)
      have hll : (ll.getD i []).length ≤ 1048576 := by omega
      have htl : t + (ll.getD i []).length ≤ 1048576 := by rw [HTT.out]; omega
      generalize ll.getD i [] = l at *
      have KH := Lib.hid (heldIntS_any lo hi u l.length (k + t) w (by omega) (by omega) hu)
      rw [← HTT.out] at HS
      clear hu hs1
      go_wp2_with fail
      refine KH.out.mono ?_
      rintro e w2 ⟨rfl, rfl⟩
      go_wp2
      go_round
      case rel => exact ⟨i + 1, t + l.length, by omega, by go_num, by go_num, by omega, Lib.hid HS.out.symm⟩
      case measure => simp [intOf]; omega
    · obtain rfl : i = ll.length := by omega
      go_wp2
      go_ret
      have h1 := HTT.out
      rw [List.take_of_length_le (Nat.le_refl _)] at h1
      exact ⟨by rw [← h1]; rfl, rfl⟩
end Go.Proofs.Ytegmoojjffkacaa
