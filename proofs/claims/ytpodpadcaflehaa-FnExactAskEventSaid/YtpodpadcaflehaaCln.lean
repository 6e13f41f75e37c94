/-
  slices.Clone of nodes, spec.l07Copy; rows of rows of nodes that grow by a row. Condition: the formula is not empty and short.
-/
import Derived.Test.YtpodpadcaflehaaEvm
import Derived.Test.YtpodpadcaflehaaZReg
namespace Go.Proofs.Ytpodpadcaflehaa
open Go.RowKit Go.WideShapes
open Go Go.Deep
set_option linter.unusedSimpArgs false

theorem nd_one {xs : List Nd} {u : Value} (h : u ∈ ndCells xs) : u.oneCell' = true := by
  unfold ndCells at h
  obtain ⟨x, _, hx⟩ := List.mem_flatMap.1 h
  simp only [Nd.cs, List.mem_cons, List.not_mem_nil, or_false] at hx
  rcases hx with rfl | rfl | rfl | rfl <;> rfl
/-- where the cells of a row of nodes lie, now and later -/
theorem ns_open {w : World} {v : Value} {xs : List Nd} (h : Ns w v xs) (h0 : 0 < xs.length) : ∃ b o c, v = .slice (some ⟨b, o, none⟩) xs.length c ∧ xs.length ≤ c ∧ c ≤ maxLen ∧ b < w.heap.size ∧
    ∀ W, Below w.heap.size w W → ∀ j u, (ndCells xs)[j]? = some u → W.cell? ((⟨b, o, none⟩ : Addr).add j) = some u := by
  obtain ⟨a, cap, rfl, h1, h2, h3⟩ := h
  rcases h3 with h3 | ⟨b, o, rfl, hlt, hc⟩
  · subst h3; simp at h0
  · refine ⟨b, o, cap, rfl, h1, h2, hlt, fun W hW j u hu => ?_⟩
    have hj : j < xs.length * 4 := by
      rcases Nat.lt_or_ge j (xs.length * 4) with h' | h'
      · exact h'
      · rw [List.getElem?_eq_none (by rw [ndCells_len]; exact h')] at hu; cases hu
    obtain ⟨i, k, hk, rfl⟩ : ∃ i k, k < 4 ∧ j = i * 4 + k := ⟨j / 4, j % 4, by omega, by omega⟩
    have hi : i < xs.length := by omega
    rw [ndCells_at hi hk] at hu
    obtain ⟨c0, c1, c2, c3⟩ := hc i hi
    rw [addr_add0, hW.cell (p := ⟨b, o + (i * 4 + k), none⟩) hlt, ← hu]
    match k, hk with
    | 0, _ => exact c0
    | 1, _ => rw [← Nat.add_assoc]; exact c1
    | 2, _ => rw [← Nat.add_assoc]; exact c2
    | 3, _ => rw [← Nat.add_assoc]; exact c3

set_option maxRecDepth 100000 in
set_option maxHeartbeats 2000000 in
theorem cloneN_any (u : Value) (xs : List Nd) (w : World) (hr : Ns w u xs) (h0 : 0 < xs.length) (hn : xs.length ≤ 1048576) :
    Calls Try.prog 70 #[u] w fun e w' => ∃ v, e = .returned v ∧ No w.heap.size w'.heap.size w' v xs ∧ Below w.heap.size w w' := by
  obtain ⟨i0, hi, hz0, hz1, hz2⟩ := info_parts Try.infoNd
  obtain ⟨b, o, cap, rfl, h1, h2, h3, h4⟩ := ns_open hr h0
  have HN := Lib.hid h4
  have H1 := Lib.hid (fun v (hv : v ∈ ndCells xs) => nd_one hv)
  have HL := Lib.hid (ndCells_len xs)
  clear hr h4
  generalize hLL : ndCells xs = L at *
  have HLL := Lib.hid hLL
  clear hLL
  go_enter Try.func70, Try.ntmps70
  have hsl := fun W => Lib.run_eql_slice_nil (P := Try.prog) W 46
  go_wp2_with (at_builtin; refine wpList_append_own _ rfl (.tmp 5) (.tmp 6) 46 rfl w.heap.size 81 i0 (.agg #[.int .i64 0, .int .i64 0, .int .i64 0, .int .i64 0]) 4 32 Try.underlying46 hi hz0 hz1 hz2 rfl (by decide) (.slice (some ⟨w.heap.size, 0, none⟩) 0 0) 0 [] rfl (World.ownsRow_lit _ #[] 0 (Nat.le_refl _) (by decide) rfl) ⟨b, o, none⟩ xs.length cap L rfl HL.out (HN.out _ (by go_grown)) H1.out (by unfold maxLen; omega) (by omega) (by simp) ?_; intro v1 w1 hown hg _; have HO := Lib.hid hown; have HG := Lib.hid hg; clear hown hg)
  go_ret
  have h := HO.out
  rw [List.nil_append, Nat.zero_add, ← HLL.out] at h
  exact ⟨v1, rfl, ⟨h, fun k hk => (h.lt k hk).2⟩, (Below.alloc (Below.refl _ _) (Nat.le_refl _) _).grown HG.out (by simp) (fun k hk => by cases hk; exact Nat.le_refl _)⟩
set_option maxRecDepth 100000 in
set_option maxHeartbeats 2000000 in
theorem copyN_any (u : Value) (xs : List Nd) (w : World) (hr : Ns w u xs) (h0 : 0 < xs.length) (hn : xs.length ≤ 1048576) :
    Calls Try.prog 49 #[u] w fun e w' => ∃ v, e = .returned v ∧ No w.heap.size w'.heap.size w' v xs ∧ Below w.heap.size w w' := by
  obtain ⟨i0, hi, hz0, hz1, hz2⟩ := info_parts Try.infoNd
  obtain ⟨b, o, cap, rfl, h1, h2, h3, h4⟩ := ns_open hr h0
  have HN := Lib.hid h4
  have H1 := Lib.hid (fun v (hv : v ∈ ndCells xs) => nd_one hv)
  have HL := Lib.hid (ndCells_len xs)
  clear hr h4
  generalize hLL : ndCells xs = L at *
  have HLL := Lib.hid hLL
  clear hLL
  go_enter Try.func49, Try.ntmps49
  go_wp2_with (at_builtin; refine wpList_append_own _ rfl (.tmp 3) (.tmp 4) 46 rfl w.heap.size 81 i0 (.agg #[.int .i64 0, .int .i64 0, .int .i64 0, .int .i64 0]) 4 32 Try.underlying46 hi hz0 hz1 hz2 rfl (by decide) (.slice (some ⟨w.heap.size, 0, none⟩) 0 0) 0 [] rfl (World.ownsRow_lit _ #[] 0 (Nat.le_refl _) (by decide) rfl) ⟨b, o, none⟩ xs.length cap L rfl HL.out (HN.out _ (by go_grown)) H1.out (by unfold maxLen; omega) (by omega) (by simp) ?_; intro v1 w1 hown hg _; have HO := Lib.hid hown; have HG := Lib.hid hg; clear hown hg)
  go_ret
  have h := HO.out
  rw [List.nil_append, Nat.zero_add, ← HLL.out] at h
  exact ⟨v1, rfl, ⟨h, fun k hk => (h.lt k hk).2⟩, (Below.alloc (Below.refl _ _) (Nat.le_refl _) _).grown HG.out (by simp) (fun k hk => by cases hk; exact Nat.le_refl _)⟩

theorem Grewn.no {lo hi : Nat} {w w' : World} {v v' u : Value} {xs : List Nd} (h : Grewn w v w' v') (hu : No lo hi w u xs) (ha : apart u v) : No lo hi w' u xs := hu.keptBy h.1 ha
/-- a row of nodes is pushed to an owned table -/
theorem Noo.push {lo h1 h2 : Nat} {w w' : World} {bv v' u : Value} {vs : List Value} {ll : List (List Nd)} {l : List Nd} {n : Nat} (hb : Noo lo h1 w bv vs ll) (hu : No h1 h2 w u l) (h2s : h2 ≤ w.heap.size) (h1s : h1 ≤ h2) (hl : lo ≤ h1)
    (hown : w'.ownsRow lo 46 1 v' n (vs ++ [u])) (hg : Grewn w bv w' v') : Noo lo w'.heap.size w' v' (vs ++ [u]) (ll ++ [l]) := by
  obtain ⟨r1, r2, r3⟩ := hb
  have hub : ∀ k, u.ownBlock = some k → h1 ≤ k ∧ k < h2 := fun k hk => ⟨(hu.1.lt k hk).1, hu.2 k hk⟩
  have hbb : ∀ k, bv.ownBlock = some k → lo ≤ k ∧ k < h1 := fun k hk => ⟨(r1.1.lt k hk).1, r1.2 k hk⟩
  have hws := hg.size
  have hubv : apart u bv := apart_symm (apart_lt (B := h1) (fun k hk => (hbb k hk).2) (fun k hk => (hub k hk).1))
  have hall : ∀ x ∈ vs, apart x bv := fun x hx => apart_symm ((List.pairwise_cons.1 r3).1 x hx)
  have hblk : ∀ x ∈ vs, ∀ k, x.ownBlock = some k → lo ≤ k ∧ k < h1 ∧ k < w.heap.size := fun x hx => r2.blk hx
  refine ⟨?_, ?_, ?_⟩
  · have hnn : n = (vs ++ [u]).length := by have := hown.1; omega
    rw [hnn] at hown
    exact ⟨hown, fun k hk => (hown.lt k hk).2⟩
  · refine RowsN.snoc ⟨r2.1, fun j hj => ?_⟩ ?_
    · exact (hg.no (r2.2 j hj) (hall _ (getD_memV (by rw [r2.1]; exact hj)))).wide (Nat.le_refl _) (by omega)
    · exact (hg.no hu hubv).wide hl (by omega)
  · rw [List.pairwise_cons]
    have hp := List.pairwise_cons.1 r3
    have key : ∀ x ∈ vs ++ [u], apart x bv ∧ ∀ k, x.ownBlock = some k → k < w.heap.size := fun x hx => by
      rcases List.mem_append.1 hx with hx | hx
      · exact ⟨hall x hx, fun k hk => (hblk x hx k hk).2.2⟩
      · simp only [List.mem_singleton] at hx
        subst hx
        exact ⟨hubv, fun k hk => by have := hub k hk; omega⟩
    refine ⟨fun x hx => apart_symm (apart_where hg (key x hx).1 (key x hx).2), ?_⟩
    rw [List.pairwise_append]
    refine ⟨hp.2, List.pairwise_singleton _ _, fun x hx y hy => ?_⟩
    simp only [List.mem_singleton] at hy
    subst hy
    exact apart_lt (B := h1) (fun k hk => (hblk x hx k hk).2.1) (fun k hk => (hub k hk).1)
end Go.Proofs.Ytpodpadcaflehaa
