/-
  grid.difference by induction: it answers what diffT says.
-/
import Derived.Test.YtnpfnfenkklocaaGreatDoorDff
namespace Go.Proofs.YtnpfnfenkklocaaGreatDoor
open Go.RowKit Go.WideShapes
open Go Go.Deep
set_option linter.unusedSimpArgs false

theorem stab_16 {m : Md} (hn : m.facts.length ≤ 16) : stab m ≤ 16 := by
  unfold stab
  cases hf : (List.range m.facts.length).find? fun j => decide (clsAt m (j + 1) = clsAt m j) with
  | none => simp
  | some j => have := List.mem_range.1 (List.mem_of_find?_eq_some hf); simp; omega
theorem diff_any (m : Md) (hm : mdOk m = true) (sv : Value) (B0 : World) (hSt : StV B0 sv m) (hT : BTab B0) : ∀ (f x y : Nat) (w : World), x < m.facts.length → y < m.facts.length → sameAt m (stab m) x y = false →
    (sameAt m 0 x y = true → stepOf m x y + 1 < f) → 0 < f → Below B0.heap.size B0 w →
    Calls Tryz.prog 33 #[.agg (ints (gL m.facts.length m.blocks.length m.facts m.blocks m.actual)).toArray, sv, .int .i64 x, .int .i64 y] w (Ans w (combL (diffT m f x y)))
  | 0, _, _, _, _, _, _, _, h, _ => absurd h (by decide)
  | f + 1, x, y, w, hx, hy, hl, hs, _, hB => by
    obtain ⟨p1, p2, p3, p4, p5, p6, -⟩ := mdOk_parts hm
    have hsl := md_small hm
    unfold diffT
    cases hb : firstBit (m.facts.getD x 0) (m.facts.getD y 0) with
    | some k => exact diffFact_any m hm sv x y k w hx hy hb (hT.below hB (Nat.le_refl _))
    | none =>
      simp only
      have hfe := firstBit_none (p6 x hx) (p6 y hy) hb
      have h0 := (sameAt_0 hx hy).2 hfe
      obtain ⟨s1, s2, s3⟩ := stepOf_at hl h0
      have hfu := hs h0
      have hiff := step_iff hx hy hl h0
      have hcl' : ∀ u, u < m.facts.length → 0 ≤ (clsAt m (stepOf m x y)).getD u 0 := fun u hu => (clsAt_bd hu).1
      have htog : tog m (clsAt m (stepOf m x y)) x y = false := by
        cases h : tog m (clsAt m (stepOf m x y)) x y with
        | false => rfl
        | true =>
          have := (finer_same hx hy).2 h
          unfold sameAt at s3
          rw [show clsAt m (stepOf m x y + 1) = finer m (clsAt m (stepOf m x y)) from rfl, this] at s3
          simp at s3
      have hse : (clsAt m (stepOf m x y)).getD x 0 = (clsAt m (stepOf m x y)).getD y 0 := by unfold sameAt at s1; exact beq_iff_eq.1 s1
      obtain ⟨k, b, z, hp, hk, hA, hBf⟩ := pickA_some hcl' hse htog
      rw [hp]
      obtain ⟨e1, e2, e3⟩ := pick_first p2 hp
      have hrec : ∀ u v, u < m.facts.length → v < m.facts.length → (clsAt m (stepOf m x y)).getD u 0 ≠ (clsAt m (stepOf m x y)).getD v 0 → ∀ W, Below B0.heap.size B0 W →
          Calls Tryz.prog 33 #[.agg (ints (gL m.facts.length m.blocks.length m.facts m.blocks m.actual)).toArray, sv, .int .i64 u, .int .i64 v] W (Ans W (combL (diffT m f u v))) := by
        intro u v hu hv hne W hW
        have huv : sameAt m (stepOf m x y) u v = false := by
          cases h : sameAt m (stepOf m x y) u v with
          | false => rfl
          | true => unfold sameAt at h; exact absurd (beq_iff_eq.1 h) hne
        have hup : ∀ j, stepOf m x y ≤ j → sameAt m j u v = false := fun j hj => by
          cases h : sameAt m j u v with
          | false => rfl
          | true => have := sameAt_down hu hv hj h; rw [huv] at this; cases this
        refine diff_any m hm sv B0 hSt hT f u v W hu hv (hup _ (by omega)) (fun h0' => ?_) (by omega) hW
        obtain ⟨t1, t2, t3⟩ := stepOf_at (hup _ (by omega)) h0'
        rcases Nat.lt_or_ge (stepOf m u v) (stepOf m x y) with h | h
        · omega
        · rw [hup _ h] at t1; cases t1
      have hwf : ∀ u v, (diffT m f u v).wf := fun u v => diff_wf p4 f u v
      have hG : (gL m.facts.length m.blocks.length m.facts m.blocks m.actual).length = 67 := gL_len hsl
      have hconj : ∀ l : List Nat, (conjT (l.map (diffT m f z))).wf := fun l => conj_wf _ (fun t ht => by obtain ⟨u, _, rfl⟩ := List.mem_map.1 ht; exact hwf z u)
      have hk3 : (k : Int) < limN 5 := by show (k : Int) < 3; omega
      have hknow : ∀ l : List Nat, (Tm.know 5 (k : Int) (.deny (conjT (l.map (diffT m f z))))).wf := fun l => ⟨.inl rfl, Int.natCast_nonneg _, hk3, hconj l⟩
      -- the block's own differences
      have hall : ∀ (u : Nat), u < m.facts.length → z < m.facts.length → (∀ v ∈ blkD m k u, (clsAt m (stepOf m x y)).getD z 0 ≠ (clsAt m (stepOf m x y)).getD v 0) → ∀ W, Below w.heap.size w W →
          Calls Tryz.prog 70 #[.agg (ints (gL m.facts.length m.blocks.length m.facts m.blocks m.actual)).toArray, sv, .int .i64 k, .int .i64 z, .agg (bL (blkB m.blocks m.facts.length k u)).toArray] W (Ans W (combL (.know 5 (k : Int) (.deny (conjT ((blkD m k u).map (diffT m f z))))))) := by
        intro u hu hz hne W hW
        refine knownNot_any _ hG sv _ z k _ W (hconj _) (fun W' lo hi vv hW' hv => ?_)
        rw [lst_blk p2] at hv
        refine diffAll_any _ hG sv (diffT m f z) z B0 (blkD m k u) (fun h => by have := blkD_pos (m := m) (k := k) hu; rw [h] at this; cases this) (fun v _ => hwf z v) (fun v hv' W2 hW2 => hrec z v hz (mem_blkD.1 hv').1 (hne v hv') W2 hW2) lo hi vv W' ?_ hv
        exact (hB.trans (hW.mono hB.size)).trans (hW'.mono (Nat.le_trans hB.size hW.size))
      cases b with
      | true =>
        obtain ⟨q1, q2⟩ := hA rfl
        exact diffStep_any m hm sv x y k (stepOf m x y) z true _ w hx hy hfe (hSt.below hB) (by omega) (stab_16 p2) hiff hk e1 e2 e3 (hknow _) (hall y hy (mem_blkD.1 q1).1 q2)
      | false =>
        obtain ⟨q1, q2⟩ := hBf rfl
        exact diffStep_any m hm sv x y k (stepOf m x y) z false _ w hx hy hfe (hSt.below hB) (by omega) (stab_16 p2) hiff hk e1 e2 e3 (hknow _) (hall x hx (mem_blkD.1 q1).1 q2)
end Go.Proofs.YtnpfnfenkklocaaGreatDoor
