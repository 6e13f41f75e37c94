/-
  What an argument that is a slice of slices of nodes is. No condition.
-/
import Derived.Test.YtodjohdbngbpaaaGreatZAnn
import Derived.Test.YtodjohdbngbpaaaGreatZArr
namespace Go.Proofs.YtodjohdbngbpaaaGreat
open Go.RowKit Go.WideShapes
open Go Go.Deep
set_option linter.unusedSimpArgs false

set_option maxRecDepth 100000 in
set_option maxHeartbeats 2000000 in
theorem open_nodes {H : Type} {enc : TypeId × Value → H} {W : World} {n : Nat} {cs : List Value} {y : DataW H × List MemPlace}
    (h : DataW.trod enc Tryz.prog W 0 (fun _ => true) true n 51 cs = some y) : ∃ v xs, cs = [v] ∧ Ns W v xs := by
  rcases Go.Deep.open_slice Tryz.underlying51 h with ⟨hcs, _⟩ | ⟨a, len, cap, m, n, D, Pl, hcs, _, hl, hm, hmm, _, hi⟩
  · exact ⟨_, [], hcs, none, 0, rfl, Nat.le_refl _, by decide, .inl rfl⟩
  · simp only [if_true] at hmm
    have hC : Tryz.prog.cellsOf 114 = 4 := by kernel_rfl
    rw [hC] at hi
    have key : ∀ i, i < len → ∃ x : Nd, W.cell? (a.add (i * 4 + 0)) = some (.int .i64 x.op) ∧ W.cell? (a.add (i * 4 + 1)) = some (.int .i64 x.n) ∧ W.cell? (a.add (i * 4 + 2)) = some (.int .i64 x.a) ∧ W.cell? (a.add (i * 4 + 3)) = some (.int .i64 x.b) := by
      intro i hlt
      obtain ⟨cs, hc, ht⟩ := hi i (by omega)
      obtain ⟨_, hlen, hat⟩ := World.cells?_some hc
      obtain ⟨ys, k, hk, hx, hcl, hyl, hg⟩ := DataW.trod_struct Tryz.underlying114 ht
      match cs, hlen with
      | [c0, c1, c2, c3], _ =>
        have hI : Tryz.prog.cellsOf 3 = 1 := by kernel_rfl
        have e0 : DataW.trod enc Tryz.prog W 0 (fun _ => true) true k 3 (([c0, c1, c2, c3].drop 0).take (Tryz.prog.cellsOf 3)) = ys[0]? := hg 0 _ rfl
        have e1 : DataW.trod enc Tryz.prog W 0 (fun _ => true) true k 3 (([c0, c1, c2, c3].drop 1).take (Tryz.prog.cellsOf 3)) = ys[1]? := hg 1 _ rfl
        have e2 : DataW.trod enc Tryz.prog W 0 (fun _ => true) true k 3 (([c0, c1, c2, c3].drop 2).take (Tryz.prog.cellsOf 3)) = ys[2]? := hg 2 _ rfl
        have e3 : DataW.trod enc Tryz.prog W 0 (fun _ => true) true k 3 (([c0, c1, c2, c3].drop 3).take (Tryz.prog.cellsOf 3)) = ys[3]? := hg 3 _ rfl
        rw [hI] at e0 e1 e2 e3
        simp only [List.drop_zero, List.drop_succ_cons, List.take_succ_cons, List.take_zero] at e0 e1 e2 e3
        rw [List.getElem?_eq_getElem (by rw [hyl]; decide)] at e0 e1 e2 e3
        obtain ⟨n0, h0, _⟩ := DataW.trod_int Tryz.underlying3 e0
        obtain ⟨n1, h1, _⟩ := DataW.trod_int Tryz.underlying3 e1
        obtain ⟨n2, h2, _⟩ := DataW.trod_int Tryz.underlying3 e2
        obtain ⟨n3, h3, _⟩ := DataW.trod_int Tryz.underlying3 e3
        simp only [List.cons.injEq, and_true] at h0 h1 h2 h3
        subst h0 h1 h2 h3
        exact ⟨⟨n0, n1, n2, n3⟩, by rw [← Go.Deep.add_add]; exact hat 0 (by decide), by rw [← Go.Deep.add_add]; exact hat 1 (by decide), by rw [← Go.Deep.add_add]; exact hat 2 (by decide), by rw [← Go.Deep.add_add]; exact hat 3 (by decide)⟩
    have hex : ∃ f : Nat → Nd, ∀ i, i < len → W.cell? (a.add (i * 4 + 0)) = some (.int .i64 (f i).op) ∧ W.cell? (a.add (i * 4 + 1)) = some (.int .i64 (f i).n) ∧ W.cell? (a.add (i * 4 + 2)) = some (.int .i64 (f i).a) ∧ W.cell? (a.add (i * 4 + 3)) = some (.int .i64 (f i).b) := by
      refine ⟨fun i => if h : i < len then (key i h).choose else default, fun i h => ?_⟩
      simp only [dif_pos h]
      exact (key i h).choose_spec
    obtain ⟨f, hf'⟩ := hex
    have hlen : ((List.range len).map f).length = len := by simp
    refine ⟨_, (List.range len).map f, hcs, some a, cap, by rw [hlen], by rw [hlen]; exact hl, hm, ?_⟩
    rcases Nat.eq_zero_or_pos len with h0 | h0
    · exact .inl (by subst h0; rfl)
    · have hc0 := (hf' 0 h0).1
      obtain ⟨b, o, s⟩ := a
      have hs : s = none := by simpa [Addr.add] using World.cell?_spot hc0
      subst hs
      refine .inr ⟨b, o, rfl, World.block_lt_of_cell? W _ (by rw [addr_add0] at hc0; exact hc0), fun j hj => ?_⟩
      have hj' : j < len := by rw [hlen] at hj; exact hj
      have hx : ((List.range len).map f).getD j default = f j := by
        rw [List.getD_eq_getElem?_getD, List.getElem?_map, List.getElem?_range hj']; rfl
      have := hf' j hj'
      simp only [addr_add0, ← Nat.add_assoc, Nat.add_zero] at this
      rw [hx]
      exact this

set_option maxRecDepth 100000 in
set_option maxHeartbeats 2000000 in
theorem open_SlSlNode {H : Type} {enc : TypeId × Value → H} (W : World) (base : Nat) (v : Value) (d : DataW H) (p : List MemPlace) (_hv : Value.okWide Tryz.prog W .any base 59 v)
    (h : DataW.Trod enc Tryz.prog W 0 (fun _ => true) true 59 v d p) : ∃ ll, Nvv 0 W.heap.size W v ll := by
  obtain ⟨a0, len0, cap0, rfl⟩ := okWide_slice Tryz.underlying59 _hv
  obtain ⟨fuel, hf⟩ := h
  rcases Go.Deep.open_slice1 Tryz.underlying59 (by kernel_rfl) hf with ⟨hcs, _⟩ | ⟨a, len, cap, mm, n, V, D, Pl, hcs, _, hl, hm, hmm, _, hx⟩
  · simp [Value.cells] at hcs
    obtain ⟨rfl, rfl, rfl⟩ := hcs
    exact ⟨[], [], rfl, Rv.nil _ _ _, fun j hj => by simp at hj⟩
  · simp [Value.cells] at hcs
    obtain ⟨rfl, rfl, rfl⟩ := hcs
    simp only [if_true] at hmm
    have key : ∀ r, r < len0 → ∃ xs, Ns W (V r) xs := fun r hr => by
      obtain ⟨v, xs, e, hn⟩ := open_nodes (hx r (by omega)).2
      simp only [List.cons.injEq, and_true] at e
      subst e
      exact ⟨xs, hn⟩
    obtain ⟨f, hf'⟩ : ∃ f : Nat → List Nd, ∀ r, r < len0 → Ns W (V r) (f r) := by
      refine ⟨fun i => if h : i < len0 then (key i h).choose else default, fun i h => ?_⟩
      simp only [dif_pos h]
      exact (key i h).choose_spec
    have hl1 : ((List.range len0).map f).length = len0 := by simp
    have hl2 : ((List.range len0).map V).length = len0 := by simp
    refine ⟨(List.range len0).map f, (List.range len0).map V, by rw [hl1, hl2], ⟨some a, cap0, by rw [hl2], by rw [hl2]; exact hl, hm, ?_⟩, fun j hj => ?_⟩
    · rcases Nat.eq_zero_or_pos len0 with h0 | h0
      · exact .inl (by subst h0; rfl)
      · have c0 := (hx 0 (by omega)).1
        obtain ⟨b, o, s⟩ := a
        have hs : s = none := by simpa [Addr.add] using World.cell?_spot c0
        subst hs
        refine .inr ⟨b, o, rfl, Nat.zero_le _, World.block_lt_of_cell? W _ (by rw [addr_add0] at c0; exact c0), World.block_lt_of_cell? W _ (by rw [addr_add0] at c0; exact c0), fun j x hjx => ?_⟩
        have hj : j < len0 := by
          rcases Nat.lt_or_ge j len0 with h' | h'
          · exact h'
          · rw [List.getElem?_eq_none (by rw [hl2]; exact h')] at hjx; cases hjx
        rw [List.getElem?_map, List.getElem?_range hj] at hjx
        simp only [Option.map_some, Option.some.injEq] at hjx
        have := (hx j (by omega)).1
        rw [addr_add0] at this
        rw [this, hjx]
    · rw [hl1] at hj
      have e1 : ((List.range len0).map V).getD j (.bool false) = V j := by
        rw [List.getD_eq_getElem?_getD, List.getElem?_map, List.getElem?_range hj]; rfl
      have e2 : ((List.range len0).map f).getD j [] = f j := by
        rw [List.getD_eq_getElem?_getD, List.getElem?_map, List.getElem?_range hj]; rfl
      rw [e1, e2]
      exact hf' j hj
end Go.Proofs.YtodjohdbngbpaaaGreat
