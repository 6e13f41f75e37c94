/-
  Contract of spec.ReachedFrom. No condition.
-/
import Derived.Test.YtegmoojjffkacaaRsd
import Derived.Test.YtegmoojjffkacaaRfi
namespace Go.Proofs.Ytegmoojjffkacaa
open Go.RowKit Go.WideShapes
open Go Go.Deep
set_option linter.unusedSimpArgs false

theorem lst_cut {p : Nat → Bool} {n : Nat} (h : ∀ i, p i = true → i < n) : ∀ d, lst p (n + d) = lst p n
  | 0 => rfl
  | d + 1 => by
    have hf : p (n + d) = false := by
      cases e : p (n + d) with
      | false => rfl
      | true => have := h _ e; omega
    rw [show n + (d + 1) = (n + d) + 1 by omega, lst_succ, hf, lst_cut h d]; simp
theorem lst_16 {p : Nat → Bool} {n : Nat} (h : ∀ i, p i = true → i < n) (hn : n ≤ 16) : lst p 16 = lst p n := by
  have := lst_cut h (16 - n)
  rw [show n + (16 - n) = 16 by omega] at this
  exact this
theorem stepA_all {m : Md} {al : Nat → Bool} (h : ∀ i, i < m.facts.length → al i = true) (i j : Nat) : stepA m al i j = stepP m.blocks m.facts.length m.blocks.length i j := by
  unfold stepA stepP
  by_cases e : j < m.facts.length
  · rw [h j e, Bool.and_true]
  · simp [e]
theorem getD_rangeMap {p : Nat → Bool} {n i : Nat} (h : i < n) : ((List.range n).map p).getD i false = p i := by
  rw [List.getD_eq_getElem?_getD, List.getElem?_map, List.getElem?_range h]; rfl
theorem reach_same {m : Md} (hm : mdOk m = true) {x : Nat} (hx : x < m.facts.length) {al : List Bool} (ha : ∀ i, i < m.facts.length → al.getD i false = true) :
    lst (fun i => ((List.range m.facts.length).map (reachA m (fun i => al.getD i false) x)).getD i false) m.facts.length = lst (reachB m.blocks m.facts.length m.blocks.length x) 16 := by
  obtain ⟨p1, p2, -⟩ := mdOk_parts hm
  rw [lst_16 (p := reachB m.blocks m.facts.length m.blocks.length x) (n := m.facts.length) (fun i hi => wsh_in (fun _ _ => stepP_in) hx hi) p2]
  refine lst_congr fun i hi => ?_
  rw [getD_rangeMap hi]
  exact wsh_congr (stepA_all ha) _ _ _

set_option maxRecDepth 100000 in
set_option maxHeartbeats 16000000 in
theorem specReached_any (lo hi : Nat) (v : Value) (m : Md) (x : Int) (w : World) (hr : Mv lo hi w v m) :
    Calls Try.prog 27 #[v, .int .i64 x] w (IntsAns w (reachR m x)) := by
  have KS := Lib.hid (fun W (h : Below w.heap.size w W) => specOk_any lo hi v m W (hr.keeps (Keeps.of_all h)))
  rw [specOk_mdOk] at KS
  have KW := Lib.hid (fun W (h : Below w.heap.size w W) => specWorld_any lo hi v m x W (hr.keeps (Keeps.of_all h)))
  have KR := Lib.hid (fun i (hm : mdOk m = true) (hi' : i < m.facts.length) lo2 hi2 v2 W (h : Below w.heap.size w W) h2 => specReach_any lo hi lo2 hi2 v v2 m (List.replicate m.facts.length true) i W (hr.keeps (Keeps.of_all h)) hm h2 (by simp) hi')
  have HR : Hid (reachR m x = if mdOk m && inB x m.facts.length then nums (lst (reachB m.blocks m.facts.length m.blocks.length x.toNat) 16) else []) := Lib.hid rfl
  generalize reachR m x = R at *
  obtain ⟨fv, bv, rfl, hf, hb⟩ := hr
  obtain ⟨fa, fc, rfl⟩ := hf.form
  obtain ⟨ba, bc, rfl, -⟩ := hb.parts
  clear hf hb
  cases hm : mdOk m with
  | false =>
    rw [hm] at KS HR
    have HR' : Hid (R = []) := Lib.hid (by rw [HR.out]; rfl)
    clear hm HR KW KR
    go_enter Try.func27, Try.ntmps27
    go_wp2_with fail
    refine (KS.out _ (by go_grown)).mono ?_
    rintro e w1 ⟨rfl, hb1⟩
    have B1 : Hid (Below w.heap.size w w1) := Lib.hid (Below.trans (by go_grown) (hb1.mono (by simp)))
    clear hb1
    go_wp2
    go_ret
    rw [HR'.out]
    exact ints_nil _ _ B1.out
  | true =>
    rw [hm] at KS HR
    cases hi' : inB x m.facts.length with
    | false =>
      rw [hi'] at KW HR
      have HR' : Hid (R = []) := Lib.hid (by rw [HR.out]; rfl)
      clear hm hi' HR KR
      go_enter Try.func27, Try.ntmps27
      go_wp2_with fail
      refine (KS.out _ (by go_grown)).mono ?_
      rintro e w1 ⟨rfl, hb1⟩
      have X1 := Lib.hid (Mcell.below (b := w.heap.size) (Mcell.new rfl) hb1)
      have B1 : Hid (Below w.heap.size w w1) := Lib.hid (Below.trans (by go_grown) (hb1.mono (by simp)))
      clear hb1
      obtain ⟨c0, c1, c2, c3, c4, c5⟩ := X1.out
      go_wp2_with fail
      clear c0 c1 c2 c3 c4 c5
      refine (KW.out _ B1.out).mono ?_
      rintro e w2 ⟨rfl, hb2⟩
      have B2 := Lib.hid (B1.out.trans (hb2.mono B1.out.size))
      clear hb2
      go_wp2
      go_ret
      rw [HR'.out]
      exact ints_nil _ _ B2.out
    | true =>
      obtain ⟨hx0, hxn⟩ := inB_parts hi'
      obtain ⟨i, rfl⟩ := Int.eq_ofNat_of_zero_le hx0
      have hin : i < m.facts.length := by omega
      rw [hi'] at KW HR
      have hsame := reach_same hm hin (al := List.replicate m.facts.length true) (fun j hj => by rw [List.getD_eq_getElem?_getD, List.getElem?_replicate, if_pos hj]; rfl)
      have HR' : Hid (R = nums (lst (fun j => ((List.range m.facts.length).map (reachA m (fun j => (List.replicate m.facts.length true).getD j false) i)).getD j false) m.facts.length)) := Lib.hid (by rw [hsame, HR.out, Int.toNat_natCast]; rfl)
      have KR := Lib.hid (KR.out i hm hin)
      have KA := Lib.hid (fun W => specAll_any m.facts.length W (mdOk_parts hm).2.1)
      have hlen := (mdOk_parts hm).2.1
      rw [HR'.out]
      clear HR hi' HR' hsame hm
      obtain ⟨RL, hRL⟩ : ∃ RL, RL = (List.range m.facts.length).map (reachA m (fun j => (List.replicate m.facts.length true).getD j false) i) := ⟨_, rfl⟩
      have hRLl : RL.length = m.facts.length := by rw [hRL]; simp
      rw [← hRL] at KR ⊢
      clear hRL
      have KL := Lib.hid (fun lo hi v W h => specList_any lo hi v RL W h (by omega))
      rw [hRLl] at KL
      have HRL := Lib.hid hRLl
      clear hRLl
      go_enter Try.func27, Try.ntmps27
      go_wp2_with fail
      refine (KS.out _ (by go_grown)).mono ?_
      rintro e w1 ⟨rfl, hb1⟩
      have X1 := Lib.hid (Mcell.below (b := w.heap.size) (Mcell.new rfl) hb1)
      have B1 : Hid (Below w.heap.size w w1) := Lib.hid (Below.trans (by go_grown) (hb1.mono (by simp)))
      clear hb1
      obtain ⟨c0, c1, c2, c3, c4, c5⟩ := X1.out
      go_wp2_with fail
      clear c0 c1 c2 c3 c4 c5
      refine (KW.out _ B1.out).mono ?_
      rintro e w2 ⟨rfl, hb2⟩
      have X2 := Lib.hid (X1.out.below hb2)
      have B2 := Lib.hid (B1.out.trans (hb2.mono B1.out.size))
      clear hb2 X1 B1
      have HX : Hid (∀ W, Below w2.heap.size w2 W → Mcell W w.heap.size (.slice fa m.facts.length fc) (.slice ba m.blocks.length bc) m.actual) := Lib.hid (fun W h => X2.out.below h)
      go_wp2
      refine regionL (fun W => Below w2.heap.size w2 W) [] (by kernel_rfl) (Below.refl _ _).drew (fun hHeld => ?_)
      refine takeA (i := 0) (v := .agg #[.slice fa m.facts.length fc, .slice ba m.blocks.length bc, .int .i64 m.actual]) 14 rfl rfl (by kernel_rfl) (by kernel_rfl) (by kernel_rfl) (by kernel_rfl) (fun _ _ _ h => h) (Or.inl ⟨by rfl, by intro W hSw; obtain ⟨c0, c1, c2, _⟩ := HX.out _ hSw; go_simp⟩) hHeld ?_
      simp only [Act.put, List.setIfInBounds_toArray, List.set_cons_zero, List.set_cons_succ]
      refine takeA (i := 1) (v := .pointer (some ⟨w.heap.size, 0, none⟩)) 15 rfl rfl (by kernel_rfl) (by kernel_rfl) (by kernel_rfl) (by kernel_rfl) (fun _ _ _ h => h) (Or.inl ⟨by rfl, by intro W hSw; go_simp⟩) hHeld ?_
      simp only [Act.put, List.setIfInBounds_toArray, List.set_cons_zero, List.set_cons_succ]
      refine takeA (i := 2) (v := .slice fa m.facts.length fc) 16 rfl rfl (by kernel_rfl) (by kernel_rfl) (by kernel_rfl) (by kernel_rfl) (fun _ _ _ h => h) (Or.inl ⟨by rfl, by intro W hSw; obtain ⟨c0, c1, c2, _⟩ := HX.out _ hSw; go_simp⟩) hHeld ?_
      simp only [Act.put, List.setIfInBounds_toArray, List.set_cons_zero, List.set_cons_succ]
      refine takeA (i := 3) (v := .int .i64 m.facts.length) 17 rfl rfl (by kernel_rfl) (by kernel_rfl) (by kernel_rfl) (by kernel_rfl) (fun _ _ _ h => h) (Or.inl ⟨by rfl, by intro W hSw; go_simp⟩) hHeld ?_
      simp only [Act.put, List.setIfInBounds_toArray, List.set_cons_zero, List.set_cons_succ]
      refine takeA (i := 5) (v := .int .i64 i) 19 rfl rfl (by kernel_rfl) (by kernel_rfl) (by kernel_rfl) (by kernel_rfl) (fun _ _ _ h => h) (Or.inl ⟨by rfl, by intro W hSw; go_simp⟩) hHeld ?_
      simp only [Act.put, List.setIfInBounds_toArray, List.set_cons_zero, List.set_cons_succ]
      refine onlyL (i := 4) (by kernel_rfl) rfl (by rfl) (fun K hK => ?_)
      go_simp
      refine (KA.out _).mono ?_
      rintro e w3 ⟨v3, rfl, ho3, hb3⟩
      have t3 : Below w2.heap.size w2 w3 := hHeld.trans (hb3.mono (Nat.le_refl _))
      have O3 := Lib.hid ho3.read
      clear ho3 hb3 hHeld
      refine hK.out _ _ (fun _ => t3) (fun hHeld => ?_)
      have hHeld := hHeld (by decide)
      clear hK K
      try simp only [Act.put, List.setIfInBounds_toArray, List.set_cons_zero, List.set_cons_succ]
      refine onlyL (i := 6) (by kernel_rfl) rfl (by rfl) (fun K hK => ?_)
      go_simp
      refine (KR.out _ _ _ _ (B2.out.trans (t3.mono B2.out.size)) O3.out).mono ?_
      rintro e w4 ⟨v4, rfl, ho4, hb4⟩
      have t4 : Below w2.heap.size w2 w4 := t3.trans (hb4.mono t3.size)
      have O4 := Lib.hid ho4.read
      clear ho4 hb4 hHeld O3
      refine hK.out _ _ (fun _ => t4) (fun hHeld => ?_)
      have hHeld := hHeld (by decide)
      clear hK K
      try simp only [Act.put, List.setIfInBounds_toArray, List.set_cons_zero, List.set_cons_succ]
      refine onlyL (i := 7) (by kernel_rfl) rfl (by rfl) (fun K hK => ?_)
      go_simp
      refine (KL.out _ _ _ _ O4.out).mono ?_
      rintro e w5 ⟨v5, rfl, ho5, hb5⟩
      have t5 : Below w2.heap.size w2 w5 := t4.trans (hb5.mono t4.size)
      have O5 := Lib.hid ho5
      have hz4 := t4.size
      clear ho5 hb5 hHeld O4
      refine hK.out _ _ (fun _ => t5) (fun hHeld => ?_)
      have hHeld := hHeld (by decide)
      clear hK K
      try simp only [Act.put, List.setIfInBounds_toArray, List.set_cons_zero, List.set_cons_succ]
      refine takeA (i := 8) (v := v5) 4 rfl rfl (by kernel_rfl) (by kernel_rfl) (by kernel_rfl) (by kernel_rfl) (fun _ _ _ h => h) (Or.inl ⟨by rfl, by intro W hSw; go_simp⟩) hHeld ?_
      simp only [Act.put, List.setIfInBounds_toArray, List.set_cons_zero, List.set_cons_succ]
      refine doneL (by kernel_rfl) ?_ _
      go_wp2
      go_ret
      exact ⟨_, rfl, O5.out.wide (by have := B2.out.size; omega) (Nat.le_refl _), B2.out.trans (t5.mono B2.out.size)⟩
end Go.Proofs.Ytegmoojjffkacaa
