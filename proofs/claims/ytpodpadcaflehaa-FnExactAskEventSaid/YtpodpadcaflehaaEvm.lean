/-
  Contracts of the laws' helpers over event models: toEvent, szEvent, eqEvent, markEvent, heldEvent, heldNodeSS; what an argument that is an event model is. Conditions: bounds on the lengths, which the laws check.
-/
import Derived.Test.YtpodpadcaflehaaZAnn
import Derived.Test.YtpodpadcaflehaaOss
import Derived.Test.YtpodpadcaflehaaZArr
namespace Go.Proofs.Ytpodpadcaflehaa
open Go.RowKit Go.WideShapes
open Go Go.Deep
set_option linter.unusedSimpArgs false

/-- an event model: conditions, blocks, the event that happens -/
structure Ed where
  conds : List (List Nd)
  blocks : List (List Int)
  actual : Int
instance : Inhabited Ed := ⟨⟨[], [], 0⟩⟩
/-- the value v reads as the event model e -/
def Vv (lo hi : Nat) (w : World) (v : Value) (e : Ed) : Prop :=
  ∃ cv bv, v = .agg #[cv, bv, .int .i64 e.actual] ∧ Nvv lo hi w cv e.conds ∧ Ivv lo hi w bv e.blocks
theorem Vv.later {lo hi : Nat} {w w' : World} {v : Value} {e : Ed} (h : Vv lo hi w v e) (hb : Below w.heap.size w w') : Vv lo hi w' v e := by
  obtain ⟨cv, bv, e, h1, h2⟩ := h
  exact ⟨cv, bv, e, h1.later hb, h2.keeps (Keeps.of_all hb)⟩
/-- v owns the event model e -/
def Vo (lo hi : Nat) (w : World) (v : Value) (e : Ed) : Prop :=
  ∃ cv bv cs vs, v = .agg #[cv, bv, .int .i64 e.actual] ∧ Noo lo hi w cv cs e.conds ∧ Ioo lo hi w bv vs e.blocks ∧ ∀ x ∈ cv :: cs, ∀ u ∈ bv :: vs, apart x u
theorem Vo.read {lo hi : Nat} {w : World} {v : Value} {e : Ed} (h : Vo lo hi w v e) : Vv lo hi w v e := by
  obtain ⟨cv, bv, cs, vs, e, h1, h2, _⟩ := h
  exact ⟨cv, bv, e, h1.read, h2.read⟩
theorem Vo.keeps {lo hi : Nat} {w w' : World} {v : Value} {e : Ed} (h : Vo lo hi w v e) (k : Keeps lo hi w w') : Vo lo hi w' v e := by
  obtain ⟨cv, bv, cs, vs, e, h1, h2, h3⟩ := h
  exact ⟨cv, bv, cs, vs, e, h1.keeps k, h2.keeps k, h3⟩
theorem Vo.wide {lo hi lo' hi' : Nat} {w : World} {v : Value} {e : Ed} (h : Vo lo hi w v e) (a : lo' ≤ lo) (b : hi ≤ hi') : Vo lo' hi' w v e := by
  obtain ⟨cv, bv, cs, vs, e, h1, h2, h3⟩ := h
  exact ⟨cv, bv, cs, vs, e, h1.wide a b, h2.wide a b, h3⟩
theorem Nvv.form {lo hi : Nat} {w : World} {v : Value} {ll : List (List Nd)} (h : Nvv lo hi w v ll) : ∃ a c, v = .slice a ll.length c := by
  obtain ⟨a, c, e, _⟩ := h.parts
  exact ⟨a, c, e⟩
theorem Ivv.form {lo hi : Nat} {w : World} {v : Value} {ll : List (List Int)} (h : Ivv lo hi w v ll) : ∃ a c, v = .slice a ll.length c := by
  obtain ⟨a, c, e, _⟩ := h.parts
  exact ⟨a, c, e⟩
theorem Vv.form {lo hi : Nat} {w : World} {v : Value} {e : Ed} (h : Vv lo hi w v e) : ∃ a c b d, v = .agg #[.slice a e.conds.length c, .slice b e.blocks.length d, .int .i64 e.actual] := by
  obtain ⟨cv, bv, rfl, h1, h2⟩ := h
  obtain ⟨a, c, rfl⟩ := h1.form
  obtain ⟨b, d, rfl⟩ := h2.form
  exact ⟨_, _, _, _, rfl⟩
theorem Vo.none (lo hi : Nat) (w : World) : Vo lo hi w (.agg #[.slice none 0 0, .slice none 0 0, .int .i64 0]) ⟨[], [], 0⟩ :=
  ⟨_, _, [], [], rfl, ⟨Ro.nil _ _ _ _, ⟨rfl, fun j hj => by simp at hj⟩, List.pairwise_singleton _ _⟩, ⟨Ro.nil _ _ _ _, ⟨rfl, fun j hj => by simp at hj⟩, List.pairwise_singleton _ _⟩, fun x hx u _ => by
    simp only [List.mem_singleton] at hx
    subst hx; exact apart_nil u⟩
/-- an answer: a new event model -/
def EvAns (w : World) (x : Ed) (e : Ending) (w' : World) : Prop := ∃ v, e = .returned v ∧ Vo w.heap.size w'.heap.size w' v x ∧ Below w.heap.size w w'
/-- an answer: a new event model and a bool -/
def EvAns2 (w : World) (r : Option Ed) (e : Ending) (w' : World) : Prop := ∃ v, e = .returned (.tuple #[v, .bool r.isSome]) ∧ Vo w.heap.size w'.heap.size w' v (r.getD ⟨[], [], 0⟩) ∧ Below w.heap.size w w'
def esize (e : Ed) : Nat := e.conds.length + totN e.conds + (e.blocks.length + tot e.blocks)
def emarks (e : Ed) : Nat := totN e.conds * 4 + tot e.blocks
def mev (k : Nat) (e : Ed) : Ed := ⟨mrowsN k e.conds, mrows (k + totN e.conds * 4) e.blocks, e.actual⟩
theorem totN_nil {ll : List (List Nd)} (h : ll.length = 0) : totN ll = 0 := by
  rw [List.length_eq_zero_iff.1 h]; rfl
theorem RowsN.blk2 {lo hi : Nat} {w : World} {vs : List Value} {ll : List (List Nd)} {x : Value} (h : RowsN lo hi w vs ll) (hx : x ∈ vs) : ∀ k, x.ownBlock = some k → k < w.heap.size := fun k hk => (h.blk hx k hk).2.2

set_option maxRecDepth 100000 in
set_option maxHeartbeats 4000000 in
theorem heldNodeSS_any (lo hi : Nat) (v : Value) (ll : List (List Nd)) (k : Nat) (w : World) (hn : ll.length ≤ 1048576) (ht : totN ll ≤ 1048576) (h0 : 0 < k) (hk : k + totN ll * 4 ≤ 4194400) (hr : Nvv lo hi w v (mrowsN k ll)) :
    Calls Try.prog 55 #[v, .int .i64 k] w fun e w' => e = .returned (.int .i64 (k + totN ll * 4 : Nat)) ∧ w = w' := by
  obtain ⟨a, cap, rfl, hc1, hm1, h1⟩ := hr.parts
  rw [mrowsN_len] at *
  have KEY := Lib.hid h1
  clear h1 hr
  unfold maxLen at hm1
  have HT := Lib.hid (fun i (h : i < ll.length) => totN_get_le h)
  have HT2 := Lib.hid (fun i (h : i < ll.length) => totN_take h)
  have HG : Hid (∀ i, i < ll.length → (mrowsN k ll).getD i [] = marksNd (k + totN (ll.take i) * 4) (ll.getD i []).length) := Lib.hid (fun i hi => by
    have h1 := marks_getN k ll
    have : ∀ (k : Nat) (ls : List (List Nd)) (j : Nat), j < ls.length → (mrowsN k ls).getD j [] = marksNd (k + totN (ls.take j) * 4) (ls.getD j []).length := by
      intro k ls
      induction ls generalizing k with
      | nil => intro j hj; simp at hj
      | cons l ls ih =>
        intro j hj
        cases j with
        | zero => simp [mrowsN, totN]
        | succ j =>
          have := ih (k + l.length * 4) j (by simpa using hj)
          rw [mrowsN, List.getD_cons_succ, this, List.take_succ_cons, totN, List.getD_cons_succ, show k + l.length * 4 + totN (ls.take j) * 4 = k + (l.length + totN (ls.take j)) * 4 by omega]
    exact this k ll i hi)
  go_enter Try.func55, Try.ntmps55
  go_wp2
  go_loop [1, 5] (fun kv iv => ∃ i t : Nat, i ≤ ll.length ∧ iv = .int .i64 i ∧ kv = .int .i64 (k + t * 4 : Nat) ∧ t ≤ 1048576 ∧ Hid (t = totN (ll.take i))) (fun _ iv => ll.length - (intOf iv).toNat)
  case atStart => exact ⟨0, 0, Nat.zero_le _, rfl, by go_num, by omega, Lib.hid (by simp [totN])⟩
  case round =>
    obtain ⟨i, t, hit, rfl, rfl, htt, HTT⟩ := hrel
    by_cases hlt : i < ll.length
    · obtain ⟨b, o, u, rfl, _, _, hbl, c0, hu⟩ := KEY.out i hlt
      rw [HG.out i hlt, ← HTT.out] at hu
      have hs1 := HT.out i hlt
      have HS := Lib.hid (HT2.out i hlt)
      have hll : (ll.getD i []).length ≤ 1048576 := by omega
      have htl : t + (ll.getD i []).length ≤ 1048576 := by rw [HTT.out]; omega
      have htn : t ≤ totN ll := by rw [HTT.out]; exact totN_take_le _ _
      generalize ll.getD i [] = l at *
      have KH := Lib.hid (heldNodeS_any u l.length (k + t * 4) w (by omega) (by omega) (by omega) hu)
      rw [← HTT.out] at HS
      clear hu hs1
      go_wp2_with fail
      refine KH.out.mono ?_
      rintro e w2 ⟨rfl, rfl⟩
      go_wp2
      go_round
      case rel => exact ⟨i + 1, t + l.length, by omega, by go_num, by go_num, by omega, Lib.hid HS.out.symm⟩
      case measure => simp [intOf]; omega
    · obtain rfl : i = ll.length := by omega
      go_wp2
      go_ret
      have h1 := HTT.out
      rw [List.take_of_length_le (Nat.le_refl _)] at h1
      exact ⟨by rw [← h1]; rfl, rfl⟩

theorem Try.sizeEd : (Try.prog.info? 38).map (·.size) = some 3 := by kernel_rfl
set_option maxRecDepth 100000 in
set_option maxHeartbeats 4000000 in
theorem toEvent_any (lo hi : Nat) (v : Value) (x : Ed) (w : World) (hr : Vv lo hi w v x) (hhi : hi ≤ w.heap.size) (hn : esize x ≤ 1048576) :
    Calls Try.prog 15 #[v] w (EvAns w x) := by
  obtain ⟨fv, bv, rfl, hf, hb⟩ := hr
  obtain ⟨fa, fc, e1⟩ := hf.form
  obtain ⟨ba, bc, e2⟩ := hb.form
  subst e1
  subst e2
  unfold esize at hn
  have KF := Lib.hid (fun W (h : Below w.heap.size w W) => toNodeSS_any lo hi _ x.conds W (hf.later h) (by omega) (by omega))
  have KB := Lib.hid (fun W (h : Below w.heap.size w W) => toIntSS_any lo hi _ x.blocks W (hb.keeps (Keeps.of_all h)) (Nat.le_trans hhi h.size) (by omega) (by omega))
  clear hf hb
  go_enter Try.func15, Try.ntmps15
  go_wp2_with fail
  refine (KF.out _ (by go_grown)).mono ?_
  rintro e w2 ⟨v2, cs, rfl, hi2, hb2⟩
  obtain ⟨a2, c2, hf2⟩ := hi2.1.form
  rw [hi2.2.1.1] at hf2
  subst hf2
  have X2 := Lib.hid (Mcell.below (((Mcell.new rfl).alloc _).alloc _) hb2)
  have Y2 := Lib.hid (Mcell.below (b := w.heap.size + 1) ((Mcell.new (by simp)).alloc _) hb2)
  have Z2 := Lib.hid (Mcell.below (b := w.heap.size + 1 + 1) (Mcell.new (by simp)) hb2)
  have HI2 := Lib.hid (hi2.wide (lo' := w.heap.size + 1 + 1 + 1) (by simp) (Nat.le_refl _))
  have HB2 : Hid (Below w.heap.size w w2) := Lib.hid (Below.trans (by go_grown) (hb2.mono (by simp; omega)))
  clear hi2 hb2
  obtain ⟨x0, x1, x2, _⟩ := X2.out
  obtain ⟨z0, _, _, z3, _⟩ := Z2.out
  have hz2 := Z2.out.lt
  go_wp2_with fail
  have B3 : Below w.heap.size w (w2.setCell ⟨w.heap.size + 1 + 1, 0, none⟩ (.slice a2 x.conds.length c2)) := HB2.out.setCell (by show _ ≤ w.heap.size + 1 + 1; omega) _
  refine (KB.out _ B3).mono ?_
  rintro e w4 ⟨v4, vs, rfl, ho4, hb4⟩
  obtain ⟨a4, c4, hf4⟩ := ho4.1.form
  rw [ho4.2.1.1] at hf4
  subst hf4
  have X4 := Lib.hid (Mcell.below (X2.out.other (by omega) _ _) hb4)
  have Y4 := Lib.hid (Mcell.below (Y2.out.other (by omega) _ _) hb4)
  have Z4 := Lib.hid (Mcell.below (Z2.out.set0 (.slice a2 x.conds.length c2)) hb4)
  have HO4 := Lib.hid (ho4.wide (lo' := w2.heap.size) (by simp [World.setCell]) (Nat.le_refl _))
  have HI4 := Lib.hid ((HI2.out.keeps (Keeps.setCell _ _ _ _ (.inl (by omega)))).keeps (Keeps.of_all hb4))
  have hs4 : w2.heap.size ≤ w4.heap.size := by have := hb4.size; simpa [World.setCell] using this
  have HB4 := Lib.hid (B3.trans (hb4.mono B3.size))
  clear ho4 hb4 x0 x1 x2 z0 z3 X2 Y2 Z2 B3 KB KF
  obtain ⟨x0, x1, x2, _⟩ := X4.out
  obtain ⟨z0, z1, z2, z3, z4, z5⟩ := Z4.out
  obtain ⟨y0, y1, y2, y3, y4, y5⟩ := Y4.out
  go_wp2
  have Y5 := ((Y4.out.other (b' := w.heap.size + 1 + 1) (by omega) 1 (.slice a4 x.blocks.length c4)).other (b' := w.heap.size + 1 + 1) (by omega) 2 (.int .i64 x.actual)).write (.slice a2 x.conds.length c2) (.slice a4 x.blocks.length c4) x.actual
  refine bodyPost_ret (results_mid1 Try.results15 _ _ _ _ _ rfl Y5.range Try.underlying38 rfl Try.sizeEd) rfl ?_
  refine ⟨_, rfl, ⟨_, _, cs, vs, rfl, ?_, ?_, ?_⟩, ((((HB4.out.setCell (by show _ ≤ w.heap.size + 1 + 1; omega) _).setCell (by show _ ≤ w.heap.size + 1 + 1; omega) _).setCell (by show _ ≤ w.heap.size + 1; omega) _).setCell (by show _ ≤ w.heap.size + 1; omega) _).setCell (by show _ ≤ w.heap.size + 1; omega) _⟩
  · exact (HI4.out.keeps (((((Keeps.setCell _ _ _ _ (by omega)).set (by omega) _ _).set (by omega) _ _).set (by omega) _ _).set (by omega) _ _)).wide (by omega) (by simp [World.setCell]; omega)
  · exact (HO4.out.keeps (((((Keeps.setCell _ _ _ _ (by omega)).set (by omega) _ _).set (by omega) _ _).set (by omega) _ _).set (by omega) _ _)).wide (by omega) (by simp [World.setCell])
  · intro y hy u hu
    refine apart_lt (B := w2.heap.size) (fun q hq => ?_) (fun q hq => ?_)
    · rcases List.mem_cons.1 hy with rfl | hy
      · exact HI4.out.1.2 q hq
      · exact (HI4.out.2.1.blk hy q hq).2.1
    · rcases List.mem_cons.1 hu with rfl | hu
      · exact (HO4.out.1.1.lt q hq).1
      · exact (HO4.out.2.1.blk hu q hq).1

set_option maxHeartbeats 2000000 in
theorem szEvent_any (lo hi : Nat) (v : Value) (x : Ed) (left : Int) (w : World) (h : Vv lo hi w v x) (hl0 : 0 ≤ left) (hl1 : left ≤ 1048576) :
    Calls Try.prog 13 #[v, .int .i64 left] w fun e w' => e = .returned (.int .i64 (budget left (esize x))) ∧ Below w.heap.size w w' := by
  obtain ⟨fv, bv, rfl, hf, hb⟩ := h
  obtain ⟨fa, fc, e1⟩ := hf.form
  obtain ⟨ba, bc, e2⟩ := hb.form
  subst e1
  subst e2
  unfold esize
  rw [budget_add]
  have KF := Lib.hid (fun W (h : Below w.heap.size w W) => szNodeSS_any lo hi _ x.conds left W (hf.later h) (by omega) (by omega))
  have hN : ((x.conds.length + totN x.conds : Nat) : Int) = x.conds.length + totN x.conds := by omega
  by_cases h1 : left - ((x.conds.length + totN x.conds : Nat) : Int) < 0
  · rw [if_pos h1]
    have hbud : budget left (x.conds.length + totN x.conds) = -1 := by unfold budget; rw [if_pos h1]
    rw [hbud] at KF
    clear hbud hf hb hN
    go_enter Try.func13, Try.ntmps13
    go_wp2_with fail
    refine (KF.out _ (by go_grown)).mono ?_
    rintro e w' ⟨rfl, rfl⟩
    go_wp2
    go_ret
    exact ⟨rfl, by go_grown⟩
  · rw [if_neg h1]
    have hbud : budget left (x.conds.length + totN x.conds) = left - ((x.conds.length + totN x.conds : Nat) : Int) := by unfold budget; rw [if_neg h1]
    rw [hbud] at KF
    have KB := Lib.hid (fun W (h : Below w.heap.size w W) => szIntSS_any lo hi _ x.blocks (left - ((x.conds.length + totN x.conds : Nat) : Int)) W (hb.keeps (Keeps.of_all h)) (by omega) (by omega))
    clear hbud hf hb hN
    have hcase : budget (left - ((x.conds.length + totN x.conds : Nat) : Int)) (x.blocks.length + tot x.blocks) = -1 ∨ 0 ≤ budget (left - ((x.conds.length + totN x.conds : Nat) : Int)) (x.blocks.length + tot x.blocks) := by
      unfold budget
      split
      · exact .inl rfl
      · exact .inr (by omega)
    have hl2 : 0 ≤ left - ((x.conds.length + totN x.conds : Nat) : Int) := by omega
    generalize left - ((x.conds.length + totN x.conds : Nat) : Int) = left2 at *
    generalize budget left2 (x.blocks.length + tot x.blocks) = q at *
    rcases hcase with rfl | hq
    · go_enter Try.func13, Try.ntmps13
      go_wp2_with fail
      refine (KF.out _ (by go_grown)).mono ?_
      rintro e w' ⟨rfl, rfl⟩
      go_wp2_with fail
      refine (KB.out _ (by go_grown)).mono ?_
      rintro e w' ⟨rfl, rfl⟩
      go_wp2
      go_ret
      exact ⟨rfl, by go_grown⟩
    · go_enter Try.func13, Try.ntmps13
      go_wp2_with fail
      refine (KF.out _ (by go_grown)).mono ?_
      rintro e w' ⟨rfl, rfl⟩
      go_wp2_with fail
      refine (KB.out _ (by go_grown)).mono ?_
      rintro e w' ⟨rfl, rfl⟩
      go_wp2
      go_ret
      exact ⟨rfl, by go_grown⟩

set_option maxHeartbeats 2000000 in
theorem eqEvent_same (lo hi lo' hi' : Nat) (u v : Value) (x : Ed) (w : World) (hu : Vv lo hi w u x) (hv : Vv lo' hi' w v x) :
    Calls Try.prog 17 #[u, v] w fun e w' => e = .returned (.bool true) ∧ Below w.heap.size w w' := by
  obtain ⟨fu, bu, rfl, hf, hb⟩ := hu
  obtain ⟨fv, bv, rfl, hf', hb'⟩ := hv
  obtain ⟨fa, fc, e1⟩ := hf.form
  obtain ⟨ba, bc, e2⟩ := hb.form
  subst e1
  subst e2
  obtain ⟨fa', fc', e1⟩ := hf'.form
  obtain ⟨ba', bc', e2⟩ := hb'.form
  subst e1
  subst e2
  have KF := Lib.hid (fun W (h : Below w.heap.size w W) => eqNodeSS_same lo hi lo' hi' _ _ x.conds W (hf.later h) (hf'.later h))
  have KB := Lib.hid (fun W (h : Below w.heap.size w W) => eqIntSS_same lo hi lo' hi' _ _ x.blocks W (hb.keeps (Keeps.of_all h)) (hb'.keeps (Keeps.of_all h)))
  clear hf hb hf' hb'
  go_enter Try.func17, Try.ntmps17
  go_wp2_with fail
  refine (KF.out _ (by go_grown)).mono ?_
  rintro e w1 ⟨rfl, hb1⟩
  have X1 := Lib.hid (Mcell.below (b := w.heap.size) ((Mcell.new rfl).alloc _) hb1)
  have Y1 := Lib.hid (Mcell.below (b := w.heap.size + 1) (Mcell.new (by simp)) hb1)
  have B1 : Hid (Below w.heap.size w w1) := Lib.hid (Below.trans (by go_grown) (hb1.mono (by simp; omega)))
  clear hb1
  obtain ⟨_, x1, x2, _⟩ := X1.out
  obtain ⟨_, y1, y2, _⟩ := Y1.out
  go_wp2_with fail
  refine (KB.out _ B1.out).mono ?_
  rintro e w2 ⟨rfl, hb2⟩
  have X2 := Lib.hid (X1.out.below hb2)
  have Y2 := Lib.hid (Y1.out.below hb2)
  have B2 : Hid (Below w.heap.size w w2) := Lib.hid (B1.out.trans (hb2.mono B1.out.size))
  clear hb2 x1 x2 y1 y2
  obtain ⟨_, _, x2, _⟩ := X2.out
  obtain ⟨_, _, y2, _⟩ := Y2.out
  go_wp2
  go_ret
  exact ⟨rfl, B2.out⟩

theorem Only.ro {vs : List Value} {w w' : World} (h : Only vs w w') {lo hi : Nat} {e : TypeId} {x : Value} {l : List Value} (hx : Ro lo hi w e x l) (ha : ∀ u ∈ vs, apart x u) : Ro lo hi w' e x l :=
  ⟨own_keeps hx.1 fun q hq => h.2 q (hx.1.lt q hq).2 fun u hu e => by
    rcases ha u hu with h1 | h1
    · rw [h1] at hq; cases hq
    · exact h1 (by rw [hq, e]), hx.2⟩
theorem Only.no {vs : List Value} {w w' : World} (h : Only vs w w') {lo hi : Nat} {x : Value} {l : List Nd} (hx : No lo hi w x l) (ha : ∀ u ∈ vs, apart x u) : No lo hi w' x l :=
  ⟨own_keeps hx.1 fun q hq => h.2 q (hx.1.lt q hq).2 fun u hu e => by
    rcases ha u hu with h1 | h1
    · rw [h1] at hq; cases hq
    · exact h1 (by rw [hq, e]), hx.2⟩
theorem getD_memV {vs : List Value} {j : Nat} (h : j < vs.length) : vs.getD j (.bool false) ∈ vs := by
  rw [List.getD_eq_getElem?_getD, List.getElem?_eq_getElem h]; exact List.getElem_mem _
theorem Only.ioo {us : List Value} {w w' : World} (h : Only us w w') {lo hi : Nat} {v : Value} {vs : List Value} {ll : List (List Int)} (hx : Ioo lo hi w v vs ll) (ha : ∀ x ∈ v :: vs, ∀ u ∈ us, apart x u) : Ioo lo hi w' v vs ll :=
  ⟨h.ro hx.1 (ha _ (List.mem_cons_self ..)), ⟨hx.2.1.1, fun j hj => h.io (hx.2.1.2 j hj) (ha _ (List.mem_cons_of_mem _ (getD_memV (by rw [hx.2.1.1]; exact hj))))⟩, hx.2.2⟩
theorem Only.noo {us : List Value} {w w' : World} (h : Only us w w') {lo hi : Nat} {v : Value} {vs : List Value} {ll : List (List Nd)} (hx : Noo lo hi w v vs ll) (ha : ∀ x ∈ v :: vs, ∀ u ∈ us, apart x u) : Noo lo hi w' v vs ll :=
  ⟨h.ro hx.1 (ha _ (List.mem_cons_self ..)), ⟨hx.2.1.1, fun j hj => h.no (hx.2.1.2 j hj) (ha _ (List.mem_cons_of_mem _ (getD_memV (by rw [hx.2.1.1]; exact hj))))⟩, hx.2.2⟩

set_option maxHeartbeats 2000000 in
theorem markEvent_own (lo hi : Nat) (v : Value) (x : Ed) (k : Nat) (w : World) (hs : esize x ≤ 1048576) (h0 : 0 < k) (hk : k + totN x.conds * 4 ≤ 4194304) (hhi : hi ≤ w.heap.size) (ho : Vo lo hi w v x) :
    Calls Try.prog 24 #[v, .int .i64 k] w fun e w' => e = .returned (.int .i64 (k + emarks x : Nat)) ∧ Vo lo hi w' v (mev k x) ∧ Touch lo hi w w' := by
  obtain ⟨fv, bv, cs, vs, rfl, hf, hb, hap⟩ := ho
  obtain ⟨fa, fc, e1⟩ := hf.1.form
  obtain ⟨ba, bc, e2⟩ := hb.1.form
  rw [hf.2.1.1] at e1
  rw [hb.2.1.1] at e2
  subst e1
  subst e2
  unfold esize at hs
  unfold emarks
  have KF := Lib.hid (fun W (h : Below w.heap.size w W) => markNodeSS_own lo hi _ cs x.conds k W (by omega) (by omega) h0 (by omega) (hf.keeps (Keeps.of_all h)))
  have KB := Lib.hid (fun W (h : Ioo lo hi W (.slice ba x.blocks.length bc) vs x.blocks) => markIntSS_own lo hi _ vs x.blocks (k + totN x.conds * 4) W (by omega) (by omega) (by omega) h)
  have HB := Lib.hid hb
  have HA := Lib.hid hap
  clear hf hb hap
  go_enter Try.func24, Try.ntmps24
  go_wp2_with fail
  refine (KF.out _ (by go_grown)).mono ?_
  rintro e w1 ⟨rfl, hi1, ht1, hy1⟩
  have X1 : Hid (Mcell w1 w.heap.size (.slice fa x.conds.length fc) (.slice ba x.blocks.length bc) x.actual) := Lib.hid ((Mcell.new (w := w) (T := 38) rfl).of_block (ht1.block _ (by simp) (.inr hhi)))
  have T1 := Lib.hid (Touch.trans (Touch.of_all (lo := lo) (hi := hi) (w := w) (by go_grown)) ht1)
  have HB1 : Hid (Ioo lo hi w1 (.slice ba x.blocks.length bc) vs x.blocks) := Lib.hid (by
    have h1 := HB.out.keeps (Keeps.of_all (w' := w.alloc (.cells #[.slice fa x.conds.length fc, .slice ba x.blocks.length bc, .int .i64 x.actual] 38)) (by go_grown))
    exact hy1.ioo h1 (fun u hu y hy => apart_symm (HA.out y (List.mem_cons_of_mem _ hy) u hu)))
  have HI1 := Lib.hid hi1
  clear hi1 ht1 hy1
  obtain ⟨_, x1, _⟩ := X1.out
  go_wp2_with fail
  refine (KB.out _ HB1.out).mono ?_
  rintro e w2 ⟨rfl, ho2, ht2, hy2⟩
  have HO2 := Lib.hid ho2
  have HT2 := Lib.hid ht2
  have HI2 := Lib.hid (hy2.noo HI1.out fun u hu y hy => HA.out u hu y (List.mem_cons_of_mem _ hy))
  clear ho2 ht2 hy2 x1
  go_wp2
  go_ret
  exact ⟨ret_int (by go_num), ⟨_, _, cs, vs, rfl, HI2.out, HO2.out, HA.out⟩, T1.out.trans HT2.out⟩

theorem mev_conds (k : Nat) (x : Ed) : (mev k x).conds = mrowsN k x.conds := rfl
theorem mev_blocks (k : Nat) (x : Ed) : (mev k x).blocks = mrows (k + totN x.conds * 4) x.blocks := rfl
set_option maxHeartbeats 2000000 in
theorem heldEvent_any (lo hi : Nat) (v : Value) (x : Ed) (k : Nat) (w : World) (hs : esize x ≤ 1048576) (h0 : 0 < k) (hk : k + totN x.conds * 4 ≤ 4194304) (h : Vv lo hi w v (mev k x)) :
    Calls Try.prog 25 #[v, .int .i64 k] w fun e w' => e = .returned (.int .i64 (k + emarks x : Nat)) ∧ Below w.heap.size w w' := by
  obtain ⟨fv, bv, rfl, hf, hb⟩ := h
  rw [mev_conds] at hf
  rw [mev_blocks] at hb
  obtain ⟨fa, fc, e1⟩ := hf.form
  obtain ⟨ba, bc, e2⟩ := hb.form
  rw [mrowsN_len] at e1
  rw [mrows_len] at e2
  subst e1
  subst e2
  unfold esize at hs
  unfold emarks
  have KF := Lib.hid (fun W (h : Below w.heap.size w W) => heldNodeSS_any lo hi _ x.conds k W (by omega) (by omega) h0 (by omega) (hf.later h))
  have KB := Lib.hid (fun W (h : Below w.heap.size w W) => heldIntSS_any lo hi _ x.blocks (k + totN x.conds * 4) W (by omega) (by omega) (by omega) (hb.keeps (Keeps.of_all h)))
  clear hf hb
  go_enter Try.func25, Try.ntmps25
  go_wp2_with fail
  refine (KF.out _ (by go_grown)).mono ?_
  rintro e w1 ⟨rfl, rfl⟩
  go_wp2_with fail
  refine (KB.out _ (by go_grown)).mono ?_
  rintro e w2 ⟨rfl, rfl⟩
  go_wp2
  go_ret
  exact ⟨ret_int (by go_num), by go_grown⟩

theorem open_noderows {H : Type} {enc : TypeId × Value → H} {W : World} {n : Nat} {v : Value} {y : DataW H × List MemPlace}
    (hf : DataW.trod enc Try.prog W 0 (fun _ => true) true n 31 [v] = some y) : ∃ ll, Nvv 0 W.heap.size W v ll := by
  rcases Go.Deep.open_slice1 Try.underlying31 (by kernel_rfl) hf with ⟨hcs, _⟩ | ⟨a, len, cap, mm, n, V, D, Pl, hcs, _, hl, hm, hmm, _, hx⟩
  · simp only [List.cons.injEq, and_true] at hcs
    subst hcs
    exact ⟨[], [], rfl, Rv.nil _ _ _, fun j hj => by simp at hj⟩
  · simp only [List.cons.injEq, and_true] at hcs
    subst hcs
    simp only [if_true] at hmm
    have key : ∀ r, r < len → ∃ xs, Ns W (V r) xs := fun r hr => by
      obtain ⟨v, xs, e, hn⟩ := open_nodes (hx r (by omega)).2
      simp only [List.cons.injEq, and_true] at e
      subst e
      exact ⟨xs, hn⟩
    obtain ⟨f, hf'⟩ : ∃ f : Nat → List Nd, ∀ r, r < len → Ns W (V r) (f r) := by
      refine ⟨fun i => if h : i < len then (key i h).choose else default, fun i h => ?_⟩
      simp only [dif_pos h]
      exact (key i h).choose_spec
    have hl1 : ((List.range len).map f).length = len := by simp
    have hl2 : ((List.range len).map V).length = len := by simp
    refine ⟨(List.range len).map f, (List.range len).map V, by rw [hl1, hl2], ⟨some a, cap, by rw [hl2], by rw [hl2]; exact hl, hm, ?_⟩, fun j hj => ?_⟩
    · rcases Nat.eq_zero_or_pos len with h0 | h0
      · exact .inl (by subst h0; rfl)
      · have c0 := (hx 0 (by omega)).1
        obtain ⟨b, o, s⟩ := a
        have hs : s = none := by simpa [Addr.add] using World.cell?_spot c0
        subst hs
        refine .inr ⟨b, o, rfl, Nat.zero_le _, World.block_lt_of_cell? W _ (by rw [addr_add0] at c0; exact c0), World.block_lt_of_cell? W _ (by rw [addr_add0] at c0; exact c0), fun j x hjx => ?_⟩
        have hj : j < len := by
          rcases Nat.lt_or_ge j len with h' | h'
          · exact h'
          · rw [List.getElem?_eq_none (by rw [hl2]; exact h')] at hjx; cases hjx
        rw [List.getElem?_map, List.getElem?_range hj] at hjx
        simp only [Option.map_some, Option.some.injEq] at hjx
        have := (hx j (by omega)).1
        rw [addr_add0] at this
        rw [this, hjx]
    · rw [hl1] at hj
      have e1 : ((List.range len).map V).getD j (.bool false) = V j := by
        rw [List.getD_eq_getElem?_getD, List.getElem?_map, List.getElem?_range hj]; rfl
      have e2 : ((List.range len).map f).getD j [] = f j := by
        rw [List.getD_eq_getElem?_getD, List.getElem?_map, List.getElem?_range hj]; rfl
      rw [e1, e2]
      exact hf' j hj
set_option maxRecDepth 100000 in
theorem open_Event {H : Type} {enc : TypeId × Value → H} (W : World) (base : Nat) (v : Value) (d : DataW H) (p : List MemPlace) (_hv : Value.okWide Try.prog W .any base 33 v)
    (h : DataW.Trod enc Try.prog W 0 (fun _ => true) true 33 v d p) : ∃ e, Vv 0 W.heap.size W v e := by
  obtain ⟨c0, c1, c2, y0, y1, y2, n, rfl, rfl, rfl, h0, h1, h2⟩ := Go.Joins.open_agg3 Try.underlying33 (by kernel_rfl) (by kernel_rfl) _hv h
  obtain ⟨l, hl⟩ := open_noderows h0
  obtain ⟨ll, hll⟩ := open_rows h1
  obtain ⟨q, hq, _⟩ := DataW.trod_int Try.underlying3 h2
  simp only [List.cons.injEq, and_true] at hq
  subst hq
  exact ⟨⟨l, ll, q⟩, c0, c1, rfl, hl, hll⟩
end Go.Proofs.Ytpodpadcaflehaa
