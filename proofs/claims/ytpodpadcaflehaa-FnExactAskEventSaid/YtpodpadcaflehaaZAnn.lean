/-
  Several texts in one: Nss. Conditions: as each theorem says.
-/
import Derived.Test.YtpodpadcaflehaaZTerm
import Derived.Test.YtpodpadcaflehaaZLib
/-
  Slices of slices of nodes: what reads as lists of nodes (Nvv), what is owned (Noo); contracts of the laws' helpers over [][]Node: szNodeSS, toNodeSS, eqNodeSS, markNodeSS. Conditions: bounds on the lengths, which the laws check.
-/
namespace Go.Proofs.Ytpodpadcaflehaa
open Go.RowKit Go.WideShapes
open Go Go.Deep
set_option linter.unusedSimpArgs false

/-- v reads as the lists of nodes ll -/
def Nvv (lo hi : Nat) (w : World) (v : Value) (ll : List (List Nd)) : Prop :=
  ∃ vs, vs.length = ll.length ∧ Rv lo hi w v vs ∧ ∀ j, j < ll.length → Ns w (vs.getD j (.bool false)) (ll.getD j [])
theorem Nvv.later {lo hi : Nat} {w w' : World} {v : Value} {ll : List (List Nd)} (h : Nvv lo hi w v ll) (hb : Below w.heap.size w w') : Nvv lo hi w' v ll := by
  obtain ⟨vs, h1, h2, h3⟩ := h
  exact ⟨vs, h1, h2.keeps (Keeps.of_all hb), fun j hj => (h3 j hj).below hb (Nat.le_refl _)⟩
theorem Nvv.parts {lo hi : Nat} {w : World} {v : Value} {ll : List (List Nd)} (h : Nvv lo hi w v ll) : ∃ a cap, v = .slice a ll.length cap ∧ ll.length ≤ cap ∧ cap ≤ maxLen ∧
    ∀ j, j < ll.length → ∃ b o u, a = some ⟨b, o, none⟩ ∧ lo ≤ b ∧ b < hi ∧ b < w.heap.size ∧ w.cell? ⟨b, o + j, none⟩ = some u ∧ Ns w u (ll.getD j []) := by
  obtain ⟨vs, h1, h2, h3⟩ := h
  obtain ⟨a, cap, rfl, c1, c2, c3⟩ := h2.parts
  refine ⟨a, cap, by rw [h1], by omega, c2, fun j hj => ?_⟩
  obtain ⟨b, o, e, l1, l2, l3, l4⟩ := c3 j (by omega)
  exact ⟨b, o, _, e, l1, l2, l3, l4, h3 j hj⟩
theorem No.wide {lo hi lo' hi' : Nat} {w : World} {v : Value} {xs : List Nd} (h : No lo hi w v xs) (a : lo' ≤ lo) (b : hi ≤ hi') : No lo' hi' w v xs :=
  ⟨own_mono h.1 a, fun k hk => by have := h.2 k hk; omega⟩
theorem No.form {lo hi : Nat} {w : World} {v : Value} {xs : List Nd} (h : No lo hi w v xs) : ∃ a c, v = .slice a xs.length c := by
  obtain ⟨a, c, e, _⟩ := Ns.parts (Ns.of_own h.1)
  exact ⟨a, c, e⟩
theorem No.keptBy {lo hi : Nat} {w w' : World} {v : Value} {xs : List Nd} {row : Option Nat} (h : No lo hi w v xs) (hg : w.grownBy w' row) (hne : v.ownBlock = none ∨ v.ownBlock ≠ row) : No lo hi w' v xs := ⟨h.1.kept hg hne, h.2⟩
/-- the rows vs hold the lists ll -/
def RowsN (lo hi : Nat) (w : World) (vs : List Value) (ll : List (List Nd)) : Prop := vs.length = ll.length ∧ ∀ j, j < ll.length → No lo hi w (vs.getD j (.bool false)) (ll.getD j [])
theorem RowsN.keeps {lo hi : Nat} {w w' : World} {vs : List Value} {ll : List (List Nd)} (h : RowsN lo hi w vs ll) (k : Keeps lo hi w w') : RowsN lo hi w' vs ll := ⟨h.1, fun j hj => (h.2 j hj).keeps k⟩
theorem RowsN.wide {lo hi lo' hi' : Nat} {w : World} {vs : List Value} {ll : List (List Nd)} (h : RowsN lo hi w vs ll) (a : lo' ≤ lo) (b : hi ≤ hi') : RowsN lo' hi' w vs ll := ⟨h.1, fun j hj => (h.2 j hj).wide a b⟩
/-- v owns its rows ll, each row its own -/
def Noo (lo hi : Nat) (w : World) (v : Value) (vs : List Value) (ll : List (List Nd)) : Prop :=
  Ro lo hi w 46 v vs ∧ RowsN lo hi w vs ll ∧ (v :: vs).Pairwise apart
theorem Noo.read {lo hi : Nat} {w : World} {v : Value} {vs : List Value} {ll : List (List Nd)} (h : Noo lo hi w v vs ll) : Nvv lo hi w v ll := ⟨vs, h.2.1.1, h.1.read, fun j hj => Ns.of_own (h.2.1.2 j hj).1⟩
theorem Noo.keeps {lo hi : Nat} {w w' : World} {v : Value} {vs : List Value} {ll : List (List Nd)} (h : Noo lo hi w v vs ll) (k : Keeps lo hi w w') : Noo lo hi w' v vs ll := ⟨h.1.keeps k, h.2.1.keeps k, h.2.2⟩
theorem Noo.wide {lo hi lo' hi' : Nat} {w : World} {v : Value} {vs : List Value} {ll : List (List Nd)} (h : Noo lo hi w v vs ll) (a : lo' ≤ lo) (b : hi ≤ hi') : Noo lo' hi' w v vs ll := ⟨h.1.wide a b, h.2.1.wide a b, h.2.2⟩
def totN : List (List Nd) → Nat
  | [] => 0
  | l :: ls => l.length + totN ls
def mrowsN : Nat → List (List Nd) → List (List Nd)
  | _, [] => []
  | k, l :: ls => marksNd k l.length :: mrowsN (k + l.length * 4) ls
theorem totN_app : ∀ (a b : List (List Nd)), totN (a ++ b) = totN a + totN b
  | [], b => by simp [totN]
  | x :: a, b => by rw [List.cons_append, totN, totN, totN_app a b]; omega
theorem mrowsN_len : ∀ (k : Nat) (ls : List (List Nd)), (mrowsN k ls).length = ls.length
  | _, [] => rfl
  | k, l :: ls => by rw [mrowsN, List.length_cons, List.length_cons, mrowsN_len]
theorem mrowsN_app : ∀ (k : Nat) (a b : List (List Nd)), mrowsN k (a ++ b) = mrowsN k a ++ mrowsN (k + totN a * 4) b
  | k, [], b => by simp [mrowsN, totN]
  | k, x :: a, b => by rw [List.cons_append, mrowsN, mrowsN, mrowsN_app _ a b, totN, List.cons_append, show k + x.length * 4 + totN a * 4 = k + (x.length + totN a) * 4 by omega]
theorem totN_mrowsN : ∀ (k : Nat) (ls : List (List Nd)), totN (mrowsN k ls) = totN ls
  | _, [] => rfl
  | k, l :: ls => by rw [mrowsN, totN, totN, totN_mrowsN, marksNd_len]
theorem take_snocN2 {ls : List (List Nd)} {k : Nat} (h : k < ls.length) : ls.take (k + 1) = ls.take k ++ [ls.getD k []] := by
  rw [List.take_add_one, getD_some [] h]; rfl
theorem totN_take {ls : List (List Nd)} {k : Nat} (h : k < ls.length) : totN (ls.take (k + 1)) = totN (ls.take k) + (ls.getD k []).length := by
  rw [take_snocN2 h, totN_app]; simp [totN]
theorem totN_take_le (ls : List (List Nd)) (k : Nat) : totN (ls.take k) ≤ totN ls := by
  have := totN_app (ls.take k) (ls.drop k); rw [List.take_append_drop] at this; omega
theorem totN_get_le {ls : List (List Nd)} {k : Nat} (h : k < ls.length) : totN (ls.take k) + (ls.getD k []).length ≤ totN ls := by
  rw [← totN_take h]; exact totN_take_le _ _
theorem szNodeS_b (v : Value) (xs : List Nd) (left : Int) (w : World) (h : Ns w v xs) (h0 : 0 ≤ left) (h1 : left ≤ 1048576) :
    Calls Try.prog 18 #[v, .int .i64 left] w fun e w' => e = .returned (.int .i64 (budget left xs.length)) ∧ w = w' := szNodeS_any v xs left w h h0 h1
set_option maxRecDepth 100000 in
set_option maxHeartbeats 4000000 in
theorem szNodeSS_any (lo hi : Nat) (v : Value) (ll : List (List Nd)) (left : Int) (w : World) (h : Nvv lo hi w v ll) (h0 : 0 ≤ left) (h1 : left ≤ 1048576) :
    Calls Try.prog 42 #[v, .int .i64 left] w fun e w' => e = .returned (.int .i64 (budget left (ll.length + totN ll))) ∧ w = w' := by
  obtain ⟨a, cap, rfl, h2, h3, h4⟩ := h.parts
  unfold maxLen at h3
  have KEY := Lib.hid h4
  clear h4
  rw [budget_add _ _ _]
  by_cases hlt : left - (ll.length : Int) < 0
  · rw [if_pos hlt]
    go_enter Try.func42, Try.ntmps42
    go_wp2
    go_ret
    exact ⟨rfl, rfl⟩
  rw [if_neg hlt]
  have HT := Lib.hid (fun k (h : k < ll.length) => totN_take h)
  have HU := Lib.hid (fun k => totN_take_le ll k)
  go_enter Try.func42, Try.ntmps42
  go_wp2
  go_loop [1, 5] (fun lv i => ∃ (k t : Nat), k ≤ ll.length ∧ i = .int .i64 k ∧ lv = .int .i64 (left - ll.length - t) ∧ (t : Int) ≤ left - ll.length ∧ Hid (t = totN (ll.take k))) (fun _ i => ll.length - (intOf i).toNat)
  case atStart => exact ⟨0, 0, Nat.zero_le _, rfl, by go_num, by omega, Lib.hid (by simp [totN])⟩
  case round =>
    obtain ⟨k, t, hk, rfl, rfl, ht, HK⟩ := hrel
    by_cases hlt : k < ll.length
    · obtain ⟨b, o, u, rfl, _, _, hb, c0, hu⟩ := KEY.out k hlt
      have HS := Lib.hid (HT.out k hlt)
      have HV := Lib.hid (HU.out (k + 1))
      have KS := Lib.hid (szNodeS_b u (ll.getD k []) (left - ll.length - t) w hu (by omega) (by omega))
      clear hu
      generalize ll.getD k [] = l at *
      by_cases hs : left - (ll.length : Int) - t - l.length < 0
      · have hbud : budget (left - ll.length - t) l.length = -1 := by unfold budget; rw [if_pos hs]
        rw [hbud] at KS
        have HF : Hid (budget (left - ll.length) (totN ll) = -1) := Lib.hid (by have h1 := HV.out; rw [HS.out, ← HK.out] at h1; unfold budget; rw [if_pos (by omega)])
        clear hbud
        go_wp2_with fail
        refine KS.out.mono ?_
        rintro e w' ⟨rfl, rfl⟩
        go_wp2
        go_ret
        exact ⟨by rw [HF.out]; rfl, rfl⟩
      · have hbud : budget (left - ll.length - t) l.length = left - ll.length - t - l.length := by unfold budget; rw [if_neg hs]
        rw [hbud] at KS
        clear hbud
        go_wp2_with fail
        refine KS.out.mono ?_
        rintro e w' ⟨rfl, rfl⟩
        go_wp2
        go_round
        case rel => exact ⟨k + 1, t + l.length, by omega, by go_num, by go_num, by omega, Lib.hid (by rw [HS.out, ← HK.out])⟩
        case measure => simp [intOf]; omega
    · obtain rfl : k = ll.length := by omega
      go_wp2
      go_ret
      refine ⟨ret_int ?_, rfl⟩
      have h1 := HK.out
      rw [List.take_of_length_le (Nat.le_refl _)] at h1
      unfold budget
      rw [← h1, if_neg (by omega)]

theorem Try.infoNl : (Try.prog.info? 46).map (fun i => (i.zero, i.size, i.bytes)) = some (some (.slice none 0 0), 1, 24) := by kernel_rfl
theorem RowsN.snoc {lo hi : Nat} {w : World} {vs : List Value} {ll : List (List Nd)} {u : Value} {l : List Nd} (h : RowsN lo hi w vs ll) (hu : No lo hi w u l) : RowsN lo hi w (vs ++ [u]) (ll ++ [l]) := by
  refine ⟨by simp [h.1], fun j hj => ?_⟩
  rcases Nat.lt_or_ge j ll.length with h1 | h1
  · have e1 : (vs ++ [u]).getD j (.bool false) = vs.getD j (.bool false) := by
      rw [List.getD_eq_getElem?_getD, List.getElem?_append_left (by rw [h.1]; exact h1), List.getD_eq_getElem?_getD]
    have e2 : (ll ++ [l]).getD j [] = ll.getD j [] := by
      rw [List.getD_eq_getElem?_getD, List.getElem?_append_left h1, List.getD_eq_getElem?_getD]
    rw [e1, e2]; exact h.2 j h1
  · have hj' : j = ll.length := by simp at hj; omega
    have e1 : (vs ++ [u]).getD j (.bool false) = u := by
      rw [List.getD_eq_getElem?_getD, List.getElem?_append_right (by rw [h.1]; omega), h.1, hj']; simp
    have e2 : (ll ++ [l]).getD j [] = l := by
      rw [List.getD_eq_getElem?_getD, List.getElem?_append_right (by omega), hj']; simp
    rw [e1, e2]; exact hu
theorem RowsN.blk {lo hi : Nat} {w : World} {vs : List Value} {ll : List (List Nd)} (h : RowsN lo hi w vs ll) {x : Value} (hx : x ∈ vs) : ∀ k, x.ownBlock = some k → lo ≤ k ∧ k < hi ∧ k < w.heap.size := by
  obtain ⟨j, hj, rfl⟩ := List.getElem_of_mem hx
  have hr := h.2 j (by rw [← h.1]; exact hj)
  rw [List.getD_eq_getElem?_getD, List.getElem?_eq_getElem hj] at hr
  intro k hk
  exact ⟨(hr.1.lt k hk).1, hr.2 k hk, (hr.1.lt k hk).2⟩

set_option maxRecDepth 100000 in
set_option maxHeartbeats 4000000 in
theorem toNodeSS_any (lo hi : Nat) (v : Value) (ll : List (List Nd)) (w : World) (hr : Nvv lo hi w v ll) (hn : ll.length ≤ 1048576) (ht : totN ll ≤ 1048576) :
    Calls Try.prog 46 #[v] w fun e w' => ∃ v' vs, e = .returned v' ∧ Noo w.heap.size w'.heap.size w' v' vs ll ∧ Below w.heap.size w w' := by
  obtain ⟨i0, hi, hz0, hz1, hz2⟩ := info_parts Try.infoNl
  obtain ⟨a, cap, rfl, h1, h2, h3⟩ := hr.parts
  unfold maxLen at h2
  have KEY := Lib.hid h3
  have HT := Lib.hid (fun k (h : k < ll.length) => totN_get_le h)
  clear h3
  have hb1 : i0.bytes * ll.length ≤ 281474976710656 := by rw [hz2]; omega
  have HB1 := Lib.hid hb1
  clear hb1
  go_enter Try.func46, Try.ntmps46
  go_wp2_with (at_make; refine wpList_make_full _ rfl _ _ 36 rfl w.heap.size 46 i0 (.slice none 0 0) 1 Try.underlying36 hi hz0 hz1 _ _ _ _ ll.length rfl rfl rfl rfl HB1.out (by unfold maxLen; omega) (Nat.le_refl _) ?_; intro w1 hown hg; have HO := Lib.hid hown; have HG := Lib.hid hg; clear hown hg)
  have hst : Hid (w1.ownsRow w.heap.size 46 1 (.slice (some ⟨w.heap.size, 0, none⟩) ll.length ll.length) ll.length ([] ++ List.replicate (ll.length - 0) (.slice none 0 0))) := Lib.hid (by
    have h := HO.out
    rw [Nat.mul_one, madeL] at h
    simpa using h)
  have hbw : Hid (Below w.heap.size w w1) := Lib.hid ((Below.refl _ _).grown HG.out (Nat.le_refl _) (fun k hk => by cases hk))
  clear HO HG
  go_loopw [4] (fun i wr => ∃ (k : Nat) (vs : List Value), k ≤ ll.length ∧ i = .int .i64 k ∧ Hid (wr.ownsRow w.heap.size 46 1 (.slice (some ⟨w.heap.size, 0, none⟩) ll.length ll.length) ll.length (vs ++ List.replicate (ll.length - k) (.slice none 0 0))) ∧ Hid (RowsN w.heap.size wr.heap.size wr vs (ll.take k)) ∧ Hid (((Value.slice (some ⟨w.heap.size, 0, none⟩) ll.length ll.length) :: vs).Pairwise apart) ∧ Hid (Below w.heap.size w wr)) (fun i _ => ll.length - (intOf i).toNat)
  case atStart => exact ⟨0, [], Nat.zero_le _, rfl, hst, Lib.hid ⟨by simp, fun j hj => by simp at hj⟩, Lib.hid (List.pairwise_singleton _ _), hbw⟩
  case round =>
    obtain ⟨k, vs, hk, rfl, HO, HR, HP, HB⟩ := hrel
    by_cases hlt : k < ll.length
    · obtain ⟨b, o, u, rfl, _, _, hb, c0, hu⟩ := KEY.out k hlt
      have hl2 := HT.out k hlt
      have hl3 : (ll.getD k []).length ≤ 1048576 := by omega
      clear hl2
      rw [← HB.out.cell (p := ⟨b, o + k, none⟩) hb] at c0
      have HU := Lib.hid (hu.below HB.out (Nat.le_refl _))
      have HS := Lib.hid (take_snocN2 hlt)
      clear hu
      generalize ll.getD k [] = l at *
      go_wp2_with fail
      refine (toNodeS_no u l _ HU.out hl3).mono ?_
      rintro e w2 ⟨v2, rfl, hi2, hb2⟩
      obtain ⟨a2, c2, hf2⟩ := hi2.form
      subst hf2
      have HO2 := Lib.hid (own_below HO.out hb2 (Nat.le_refl _))
      have HB2 := Lib.hid (HB.out.trans (hb2.mono HB.out.size))
      have HR2 := Lib.hid ((HR.out.keeps (Keeps.of_all hb2)).wide (Nat.le_refl _) hb2.size)
      have HI2 := Lib.hid (hi2.wide HB.out.size (Nat.le_refl _))
      have HA2 : Hid (∀ x ∈ (Value.slice (some ⟨w.heap.size, 0, none⟩) ll.length ll.length) :: vs, apart x (.slice a2 l.length c2)) := Lib.hid (fun x hx => by
        refine apart_lt (B := wr.heap.size) (fun q hq => ?_) (fun q hq => (hi2.1.lt q hq).1)
        rcases List.mem_cons.1 hx with rfl | hx
        · exact (HO.out.lt q hq).2
        · exact (HR.out.blk hx q hq).2.2)
      clear hi2 hb2 c0
      obtain ⟨f0, z0, g0⟩ := own_one HO2.out hlt
      go_wp2
      go_roundw
      case rel =>
        have hvl : vs.length = k := by have := HR.out.1; rw [List.length_take] at this; omega
        have hst2 := HO2.out.stored k (.slice a2 l.length c2)
        rw [List.set_append_right _ _ (by omega), hvl, Nat.sub_self, show ll.length - k = (ll.length - (k + 1)) + 1 by omega, List.replicate_succ, List.set_cons_zero] at hst2
        have hrow : ∀ (x : Value) (y : List Nd), apart (Value.slice (some ⟨w.heap.size, 0, none⟩) ll.length ll.length) x → No w.heap.size w2.heap.size w2 x y → No w.heap.size w2.heap.size (w2.setCell ⟨w.heap.size, k, none⟩ (.slice a2 l.length c2)) x y := fun x y ha hx =>
          hx.keptBy hst2.2 (by
            rcases apart_symm ha with h | h
            · exact .inl h
            · exact .inr h)
        refine ⟨k + 1, vs ++ [.slice a2 l.length c2], by omega, by go_num, Lib.hid ?_, Lib.hid ?_, Lib.hid (pair_snoc HP.out HA2.out), Lib.hid (HB2.out.setCell (Nat.le_refl _) _)⟩
        · rw [List.append_assoc]; exact hst2.1
        · rw [HS.out, show (w2.setCell ⟨w.heap.size, k, none⟩ (.slice a2 l.length c2)).heap.size = w2.heap.size by simp [World.setCell]]
          refine RowsN.snoc ⟨HR2.out.1, fun j hj => hrow _ _ ?_ (HR2.out.2 j hj)⟩ (hrow _ _ (HA2.out _ (List.mem_cons_self ..)) HI2.out)
          have hp := (List.pairwise_cons.1 HP.out).1
          apply hp
          rw [List.getD_eq_getElem?_getD, List.getElem?_eq_getElem (by rw [HR2.out.1]; exact hj)]
          exact List.getElem_mem _
      case measure => simp [intOf]; omega
    · obtain rfl : k = ll.length := by omega
      go_wp2
      go_ret
      have hvl : vs.length = ll.length := by have := HR.out.1; rw [List.length_take] at this; omega
      refine ⟨_, vs, rfl, ⟨?_, ?_, HP.out⟩, HB.out⟩
      · have h := HO.out
        rw [Nat.sub_self, List.replicate_zero, List.append_nil] at h
        exact Ro.of_own h
      · have h := HR.out
        rw [List.take_of_length_le (Nat.le_refl _)] at h
        exact h


set_option maxRecDepth 100000 in
set_option maxHeartbeats 4000000 in
theorem eqNodeSS_same (lo hi lo' hi' : Nat) (u v : Value) (ll : List (List Nd)) (w : World) (hu : Nvv lo hi w u ll) (hv : Nvv lo' hi' w v ll) :
    Calls Try.prog 48 #[u, v] w fun e w' => e = .returned (.bool true) ∧ Below w.heap.size w w' := by
  obtain ⟨a1, c1, rfl, hc1, hm1, _⟩ := hu.parts
  obtain ⟨a2, c2, rfl, hc2, hm2, _⟩ := hv.parts
  have K1 := Lib.hid hu
  have K2 := Lib.hid hv
  clear hu hv
  unfold maxLen at hm1 hm2
  go_enter Try.func48, Try.ntmps48
  go_wp2
  go_loopw [5] (fun i wr => ∃ k : Nat, k ≤ ll.length ∧ i = .int .i64 k ∧ Hid (Below w.heap.size w wr)) (fun i _ => ll.length - (intOf i).toNat)
  case atStart => exact ⟨0, Nat.zero_le _, rfl, Lib.hid (Below.refl _ _)⟩
  case round =>
    obtain ⟨k, hk, rfl, HB⟩ := hrel
    by_cases hlt : k < ll.length
    · obtain ⟨_, _, e1, _, _, h1⟩ := (K1.out.later HB.out).parts
      obtain ⟨_, _, e2, _, _, h2⟩ := (K2.out.later HB.out).parts
      cases e1; cases e2
      obtain ⟨b1, o1, u1, rfl, _, _, hb1, d0, du⟩ := h1 k hlt
      obtain ⟨b2, o2, u2, rfl, _, _, hb2, e0, eu⟩ := h2 k hlt
      obtain ⟨a1, q1, rfl, _⟩ := id du
      obtain ⟨a2, q2, rfl, _⟩ := id eu
      have D := Lib.hid du; have E := Lib.hid eu
      clear du eu
      generalize ll.getD k [] = l at *
      have hi0 : (0 : Int) ≤ (k : Int) := Int.natCast_nonneg _
      have hi1 : (k : Int) < (ll.length : Int) := by omega
      go_wp2
      have hsz := HB.out.size
      go_region_with ((go_at_call 22; refine (eqNodeS_same _ _ l _ (D.out.below (Below.refl _ _).drew (Nat.le_refl _)) (E.out.below (Below.refl _ _).drew (Nat.le_refl _))).mono ?_; rintro e w1 ⟨rfl, hb1⟩; have HB1 := Lib.hid hb1; clear hb1))
      all_goals
        go_wp2
        go_roundw
        case rel => exact ⟨k + 1, by omega, by go_num, Lib.hid (HB.out.drew.trans (HB1.out.mono hsz))⟩
        case measure => simp [intOf]; omega
    · go_wp2
      go_ret
      exact ⟨rfl, HB.out⟩

/-- one row of an owned table is written -/
theorem Noo.step {lo hi : Nat} {w w' : World} {v : Value} {vs : List Value} {ll : List (List Nd)} (h : Noo lo hi w v vs ll) {i : Nat} (hi0 : i < ll.length) {l' : List Nd}
    (hg : w.grownBy w' (vs.getD i (.bool false)).ownBlock) (hl : No lo hi w' (vs.getD i (.bool false)) l') : Noo lo hi w' v vs (ll.set i l') := by
  have hlen := h.2.1.1
  have hm : vs.getD i (.bool false) ∈ vs := by
    rw [List.getD_eq_getElem?_getD, List.getElem?_eq_getElem (by omega)]; exact List.getElem_mem _
  refine ⟨h.1.keptBy hg ((List.pairwise_cons.1 h.2.2).1 _ hm), ⟨by rw [List.length_set]; exact hlen, fun j hj => ?_⟩, h.2.2⟩
  rw [List.length_set] at hj
  by_cases e : j = i
  · subst e
    rw [List.getD_eq_getElem?_getD (l := ll.set j l'), List.getElem?_set_self (by omega)]
    exact hl
  · rw [List.getD_eq_getElem?_getD (l := ll.set i l'), List.getElem?_set_ne (Ne.symm e), ← List.getD_eq_getElem?_getD]
    exact No.keptBy (h.2.1.2 j hj) hg (apart_at h.2.2 (by omega) (by omega) (Ne.symm e))
theorem markNodeS_no (lo hi : Nat) (v : Value) (xs : List Nd) (k : Nat) (w : World) (hn : xs.length ≤ 1048576) (h0 : 0 < k) (hk : k ≤ 4194400) (ho : No lo hi w v xs) :
    Calls Try.prog 23 #[v, .int .i64 k] w fun e w' => e = .returned (.int .i64 (k + xs.length * 4 : Nat)) ∧ No lo hi w' v (marksNd k xs.length) ∧ w.grownBy w' v.ownBlock := by
  refine (markNodeS_rw lo v xs.length xs k w hn h0 hk ho.1).mono ?_
  rintro e w' ⟨rfl, h1, h2⟩
  exact ⟨rfl, ⟨by rw [marksNd_len]; exact h1, ho.2⟩, h2⟩
theorem marks_setN (k : Nat) (ll : List (List Nd)) (i : Nat) (h : i < ll.length) :
    (mrowsN k (ll.take i) ++ ll.drop i).set i (marksNd (k + totN (ll.take i) * 4) (ll.getD i []).length) = mrowsN k (ll.take (i + 1)) ++ ll.drop (i + 1) := by
  have hl : (mrowsN k (ll.take i)).length = i := by rw [mrowsN_len, List.length_take]; omega
  rw [List.set_append_right _ _ (by omega), hl, Nat.sub_self, List.drop_eq_getElem_cons h, List.set_cons_zero, take_snocN2 h, mrowsN_app, mrowsN, mrowsN, List.append_assoc]
  rfl
theorem marks_getN (k : Nat) (ll : List (List Nd)) (i : Nat) (h : i < ll.length) : (mrowsN k (ll.take i) ++ ll.drop i).getD i [] = ll.getD i [] := by
  have hl : (mrowsN k (ll.take i)).length = i := by rw [mrowsN_len, List.length_take]; omega
  rw [List.getD_eq_getElem?_getD, List.getElem?_append_right (by omega), hl, Nat.sub_self, List.getElem?_drop, Nat.add_zero, ← List.getD_eq_getElem?_getD]

set_option maxRecDepth 100000 in
set_option maxHeartbeats 4000000 in
theorem markNodeSS_own (lo hi : Nat) (v : Value) (vs : List Value) (ll : List (List Nd)) (k : Nat) (w : World) (hn : ll.length ≤ 1048576) (ht : totN ll ≤ 1048576) (h0 : 0 < k) (hk : k + totN ll * 4 ≤ 4194400) (ho : Noo lo hi w v vs ll) :
    Calls Try.prog 53 #[v, .int .i64 k] w fun e w' => e = .returned (.int .i64 (k + totN ll * 4 : Nat)) ∧ Noo lo hi w' v vs (mrowsN k ll) ∧ Touch lo hi w w' ∧ Only vs w w' := by
  have hvl := ho.2.1.1
  obtain ⟨a, cap, e0, hc1, hm1, hxx⟩ := ho.1.read.parts
  clear hxx
  unfold maxLen at hm1
  rw [hvl] at e0 hc1
  have HV := Lib.hid hvl
  clear hvl
  subst e0
  have HT := Lib.hid (fun i (h : i < ll.length) => totN_get_le h)
  have HT2 := Lib.hid (fun i (h : i < ll.length) => totN_take h)
  go_enter Try.func53, Try.ntmps53
  go_wp2
  go_loopw [1, 5] (fun kv iv wr => ∃ i t : Nat, i ≤ ll.length ∧ iv = .int .i64 i ∧ kv = .int .i64 (k + t * 4 : Nat) ∧ t ≤ 1048576 ∧ Hid (t = totN (ll.take i)) ∧ Hid (Noo lo hi wr (.slice a ll.length cap) vs (mrowsN k (ll.take i) ++ ll.drop i)) ∧ Hid (Touch lo hi w wr) ∧ Hid (Only vs w wr)) (fun _ iv _ => ll.length - (intOf iv).toNat)
  case atStart => exact ⟨0, 0, Nat.zero_le _, rfl, by go_num, by omega, Lib.hid (by simp [totN]), Lib.hid (by simpa [mrowsN] using ho), Lib.hid (Touch.refl _ _ _), Lib.hid (Only.refl _ _)⟩
  case round =>
    obtain ⟨i, t, hit, rfl, rfl, htt, HTT, HO, HB, HY⟩ := hrel
    by_cases hlt : i < ll.length
    · have hlen2 : (mrowsN k (ll.take i) ++ ll.drop i).length = ll.length := by rw [List.length_append, mrowsN_len, ← List.length_append, List.take_append_drop]
      have hrow := HO.out.2.1.2 i (by rw [hlen2]; exact hlt)
      rw [marks_getN k ll i hlt] at hrow
      obtain ⟨a', _, e2, _, _, hcell⟩ := HO.out.1.read.parts
      obtain rfl : a' = a := by simp only [Value.slice.injEq] at e2; exact e2.1.symm
      obtain ⟨b, o, rfl, _, _, hb, c0⟩ := hcell i (by rw [HV.out]; exact hlt)
      have hs1 := HT.out i hlt
      have HS := Lib.hid (HT2.out i hlt)
      have hll : (ll.getD i []).length ≤ 1048576 := by omega
      have htl : t + (ll.getD i []).length ≤ 1048576 := by rw [HTT.out]; omega
      have HX := Lib.hid (marks_setN k ll i hlt)
      have HST := Lib.hid (fun (w' : World) l' => HO.out.step (w' := w') (l' := l') (i := i) (by rw [hlen2]; exact hlt))
      have HMM : Hid (vs.getD i (.bool false) ∈ vs) := Lib.hid (by rw [List.getD_eq_getElem?_getD, List.getElem?_eq_getElem (by rw [HV.out]; exact hlt)]; exact List.getElem_mem _)
      have HBK : Hid (∀ q, (vs.getD i (.bool false)).ownBlock = some q → lo ≤ q ∧ q < hi) := Lib.hid fun q hq => ⟨(hrow.1.lt q hq).1, hrow.2 q hq⟩
      have htn : t ≤ totN ll := by rw [HTT.out]; exact totN_take_le _ _
      have KM := Lib.hid (markNodeS_no lo hi _ _ (k + t * 4) wr (by omega) (by omega) (by omega) hrow)
      clear hcell hs1 hlen2 hrow e2
      generalize vs.getD i (.bool false) = u at *
      generalize ll.getD i [] = l at *
      rw [← HTT.out] at HX HS
      go_wp2_with fail
      refine KM.out.mono ?_
      rintro e w2 ⟨rfl, hi2, hg2⟩
      have HI2 := Lib.hid hi2
      have HG2 := Lib.hid hg2
      clear hi2 hg2 c0
      go_wp2
      go_roundw
      case rel =>
        refine ⟨i + 1, t + l.length, by omega, by go_num, by go_num, by omega, Lib.hid HS.out.symm, Lib.hid ?_, Lib.hid (HB.out.trans (Touch.of_grown HG2.out HBK.out)), Lib.hid (HY.out.grown HMM.out HG2.out)⟩
        rw [← HX.out]
        exact HST.out _ _ HG2.out HI2.out
      case measure => simp [intOf]; omega
    · obtain rfl : i = ll.length := by omega
      go_wp2
      go_ret
      have h1 := HTT.out
      have h2 := HO.out
      rw [List.take_of_length_le (Nat.le_refl _)] at h1 h2
      rw [List.drop_of_length_le (Nat.le_refl _), List.append_nil] at h2
      exact ⟨by rw [← h1]; rfl, h2, HB.out, HY.out⟩


end Go.Proofs.Ytpodpadcaflehaa
