/-
  Contracts of impl.rewritten, impl.Rewrite and impl.GrowthOf: what cannot be rewritten is refused. No condition but the readings.
-/
import Derived.Test.YtodjohdbngbpaaaGreatZLnk
namespace Go.Proofs.YtodjohdbngbpaaaGreat
open Go.RowKit Go.WideShapes
open Go Go.Deep
set_option linter.unusedSimpArgs false

/-- the rewritten term of a node -/
def rwS (xs : List Nd) (j : Nat) : Tm := (rewT (tmAt xs j)).getD (.leaf 2 0)
theorem Lk.set {lo : Nat} {w : World} {t : Tm} {v : Value} (h : Lk lo w t v) {b : Nat} (hb : b < lo) (o : Nat) (u : Value) : Lk lo (w.setCell ⟨b, o, none⟩ u) t v :=
  Lk.keeps ⟨by simp [World.setCell], fun k h1 _ _ => Below.heap_setCell _ _ _ _ (by show k ≠ b; omega)⟩ h
theorem getD_setP {l : List Value} {i j : Nat} {d u : Value} (hi : i < l.length) : (l.set i u).getD j d = if i = j then u else l.getD j d := by
  rw [List.getD_eq_getElem?_getD, List.getD_eq_getElem?_getD, List.getElem?_set]
  by_cases h : i = j
  · subst h; simp [hi]
  · simp [h]
/-- what the loop has made -/
def RewAt (w : World) (xs : List Nd) (wr : World) (i : Nat) : Prop :=
  Below w.heap.size w wr ∧ ∃ ps : List Value, wr.ownsRow w.heap.size 102 1 (.slice (some ⟨w.heap.size, 0, none⟩) xs.length xs.length) xs.length ps ∧ ∀ j, j < i → rewT (tmAt xs j) = some (rwS xs j) ∧ Lk (w.heap.size + 1) wr (rwS xs j) (ps.getD j (.pointer none))
theorem RewAt.made {w wr : World} {xs : List Nd} {i : Nat} (h : RewAt w xs wr i) (hi : i ≤ xs.length) (_hp : 0 < xs.length) : MadeAt (w.heap.size + 1) wr w.heap.size i (rwS xs) := by
  obtain ⟨hb, ps, ho, hl⟩ := h
  have hlen : ps.length = xs.length := by have := ho.1; omega
  refine ⟨(ho.lt _ rfl).2, fun j hj => ⟨ps.getD j (.pointer none), ?_, (hl j hj).2⟩⟩
  rw [ho.cellAt j (by omega), List.getD_eq_getElem?_getD, List.getElem?_eq_getElem (by omega)]; rfl
/-- a node has been made -/
theorem RewAt.next {w wr w2 : World} {xs : List Nd} {i b : Nat} {T : Tm} (h : RewAt w xs wr i) (hi : i < xs.length) (h2 : Below wr.heap.size wr w2) (hT : rewT (tmAt xs i) = some T) (hl : Lk (w.heap.size + 1) w2 T (.pointer (some ⟨b, 0, none⟩))) :
    RewAt w xs (w2.setCell ⟨w.heap.size, i, none⟩ (.pointer (some ⟨b, 0, none⟩))) (i + 1) := by
  obtain ⟨hb, ps, ho, hps⟩ := h
  have hlen : ps.length = xs.length := by have := ho.1; omega
  have ho2 := own_below ho h2 (Nat.le_refl _)
  have hS : rwS xs i = T := by unfold rwS; rw [hT]; rfl
  refine ⟨(hb.trans (h2.mono hb.size)).setCell (Nat.le_refl _) _, ps.set i (.pointer (some ⟨b, 0, none⟩)), (ho2.stored i _).1, fun j hj => ?_⟩
  rw [getD_setP (by omega)]
  by_cases e : i = j
  · subst e
    rw [if_pos rfl, hS]
    exact ⟨hT, hl.set (Nat.lt_succ_self _) _ _⟩
  · rw [if_neg e]
    obtain ⟨h3, h4⟩ := hps j (by omega)
    exact ⟨h3, (h4.below h2).set (Nat.lt_succ_self _) _ _⟩

set_option maxRecDepth 100000 in
set_option maxHeartbeats 16000000 in
theorem rewritten_any (xs : List Nd) (v : Value) (w : World) (hf : formOk xs = true) (h8 : cntOp xs 8 = 0) (hr : Ns w v xs) :
    Calls Tryz.prog 73 #[v] w (LkOpt 0 w (rewT (termOfL xs))) := by
  obtain ⟨q1, q2, q3, _⟩ := formOk_parts hf
  obtain ⟨a, cap, rfl, h1, h2, h3⟩ := hr.parts
  unfold maxLen at h2
  have HF := Lib.hid hf
  have HN := Lib.hid q3
  have H8 := Lib.hid (fun i hi => no_op h8 (i := i) hi)
  have KEY := Lib.hid h3
  obtain ⟨R, hR⟩ : ∃ R, R = rewT (termOfL xs) := ⟨_, rfl⟩
  rw [← hR]
  have HRN : Hid (∀ i, i < xs.length → rewT (tmAt xs i) = none → R = none) := Lib.hid (fun i hi h => hR.trans (rew_part hf _ i hi (Nat.le_refl _) h))
  have HRS : Hid (R = rewT (tmAt xs (xs.length - 1))) := Lib.hid hR
  obtain ⟨i0, hi, hz0, hz1, hz2⟩ := info_parts Tryz.infoLk
  have HB1 : Hid (i0.bytes * xs.length ≤ 281474976710656) := Lib.hid (by rw [hz2]; omega)
  clear h3 hr hf h8 q3 hR
  go_enter Tryz.func73, Tryz.ntmps73
  go_wp2_with (at_make; refine wpList_make_full _ rfl _ _ 149 rfl w.heap.size 102 i0 (.pointer none) 1 Tryz.underlying149 hi hz0 hz1 _ _ _ _ xs.length rfl rfl rfl rfl HB1.out (by unfold maxLen; omega) (Nat.le_refl _) ?_; intro w1 hown hg; have HO := Lib.hid hown; have HG := Lib.hid hg; clear hown hg)
  have hst : Hid (RewAt w xs w1 0) := Lib.hid ⟨(Below.refl _ _).grown HG.out (Nat.le_refl _) (fun k hk => by cases hk), _, HO.out, fun j hj => absurd hj (by omega)⟩
  clear HO HG
  go_loopw [11] (fun iv wr => ∃ i : Nat, i ≤ xs.length ∧ iv = .int .i64 i ∧ Hid (RewAt w xs wr i)) (fun iv _ => xs.length - (intOf iv).toNat)
  case atStart => exact ⟨0, Nat.zero_le _, rfl, hst⟩
  case round =>
    clear hst
    obtain ⟨i, hil, rfl, HR⟩ := hrel
    have hn0 : (0 : Int) ≤ (xs.length : Int) := Int.natCast_nonneg _
    by_cases hlt : i < xs.length
    · have hi0 : (0 : Int) ≤ (i : Int) := Int.natCast_nonneg _
      have hin : (i : Int) < (xs.length : Int) := by omega
      have hok := nodesOk_at HN.out hlt
      have hp := okAt_parts hok
      obtain ⟨b, o, rfl, hb, c0, c1, c2, c3⟩ := KEY.out i hlt
      have BR := Lib.hid HR.out.1
      rw [← BR.out.cell (p := ⟨b, o + i * 4, none⟩) hb] at c0
      rw [← BR.out.cell (p := ⟨b, o + i * 4 + 1, none⟩) hb] at c1
      rw [← BR.out.cell (p := ⟨b, o + i * 4 + 2, none⟩) hb] at c2
      rw [← BR.out.cell (p := ⟨b, o + i * 4 + 3, none⟩) hb] at c3
      have hRow : ∃ ps : List Value, wr.ownsRow w.heap.size 102 1 (.slice (some ⟨w.heap.size, 0, none⟩) xs.length xs.length) xs.length ps := ⟨_, HR.out.2.choose_spec.1⟩
      obtain ⟨ps, hps⟩ := hRow
      have HPS := Lib.hid hps
      clear hps
      have HMD := Lib.hid (HR.out.made hil (by omega))
      have HSM := Lib.hid (fun j (hj : j < i) => HR.out.2.choose_spec.2 j hj)
      have HQ := Lib.hid (fun j (hj : j < i) => rew_quiet (tmAt xs j) (rwS xs j) (tmAt_wf HN.out _ j (Nat.le_refl _) (by omega)) (HSM.out j hj).1)
      have h8i := H8.out i hlt
      have HST : Hid (rewT (tmAt xs i) = limT (stepT (xs.getD i default).op (xs.getD i default).n (rwS xs (xs.getD i default).a.toNat) (rwS xs (xs.getD i default).b.toNat))) := Lib.hid (by
        rw [tmAt_eq HN.out hlt]
        exact rew_step hp.1.1 hp.1.2.1 h8i (fun hu => (HSM.out _ (by have := hp.2.1 hu; omega)).1) (fun hu => (HSM.out _ (by have := hp.2.2.1 hu; omega)).1))
      have HOK := Lib.hid hok
      clear hok h8i
      generalize xs.getD i default = x at *
      obtain ⟨op, n, xa, xb⟩ := x
      simp only [] at c0 c1 c2 c3 hp HST
      have hzr := BR.out.size
      have hb0 : Below wr.heap.size wr (wr.alloc (.cells #[.int .i64 op, .int .i64 n, .int .i64 xa, .int .i64 xb] 112)) := (Below.refl _ _).alloc (Nat.le_refl _) _
      have B0 := Lib.hid hb0
      have HLO : Hid (w.heap.size + 1 ≤ wr.heap.size) := Lib.hid (HPS.out.lt _ rfl).2
      clear hb0
      by_cases h9 : op = 9
      · subst h9
        have ha := hp.2.1 (by decide)
        have hb' := hp.2.2.1 (by decide)
        obtain ⟨k, rfl⟩ : ∃ k : Nat, xa = k := ⟨xa.toNat, by omega⟩
        obtain ⟨k', rfl⟩ : ∃ k : Nat, xb = k := ⟨xb.toNat, by omega⟩
        rw [Int.toNat_natCast, Int.toNat_natCast] at HST
        have hki : k < i := by omega
        have hki' : k' < i := by omega
        have hk0 : (0 : Int) ≤ (k : Int) := Int.natCast_nonneg _
        have hkm : (k : Int) < (xs.length : Int) := by omega
        have hk0' : (0 : Int) ≤ (k' : Int) := Int.natCast_nonneg _
        have hkm' : (k' : Int) < (xs.length : Int) := by omega
        have HST := Lib.hid (HST.out.trans (congrArg limT (show stepT 9 n (rwS xs k) (rwS xs k') = pushT (rwS xs k) (rwS xs k') from if_pos rfl)))
        have KA := Lib.hid (fun v v' W (hW : Below wr.heap.size wr W) h h' => after_any (w.heap.size + 1) (rwS xs k) v (HQ.out k hki).2.2 (rwS xs k') v' W (Nat.le_trans HLO.out hW.size) h h' (HQ.out k' hki').1 (HQ.out k' hki').2.2)
        unfold LkAns at KA
        have hMk := Lib.hid (fun W (h : Below wr.heap.size wr W) => (HMD.out.below h).2 k hki)
        have hMk' := Lib.hid (fun W (h : Below wr.heap.size wr W) => (HMD.out.below h).2 k' hki')
        clear hp ha hb' hki hki'
        generalize pushT (rwS xs k) (rwS xs k') = T at *
        go_wp2
        have HBX : Hid ((wr.alloc (.cells #[.int .i64 9, .int .i64 n, .int .i64 k, .int .i64 k'] 112)).cell? ⟨wr.heap.size, 2, none⟩ = some (.int .i64 k) ∧ (wr.alloc (.cells #[.int .i64 9, .int .i64 n, .int .i64 k, .int .i64 k'] 112)).cell? ⟨wr.heap.size, 3, none⟩ = some (.int .i64 k')) := Lib.hid ⟨by rw [World.cell?_alloc_at _ _ _ _ rfl]; rfl, by rw [World.cell?_alloc_at _ _ _ _ rfl]; rfl⟩
        have hsz : wr.heap.size < (wr.alloc (.cells #[.int .i64 9, .int .i64 n, .int .i64 k, .int .i64 k'] 112)).heap.size := by simp
        generalize wr.alloc (.cells #[.int .i64 9, .int .i64 n, .int .i64 k, .int .i64 k'] 112) = wb at *
        have HBW := Lib.hid (fun W (h : Below wb.heap.size wb W) => And.intro ((h.cell (p := ⟨wr.heap.size, 2, none⟩) hsz).trans HBX.out.1) ((h.cell (p := ⟨wr.heap.size, 3, none⟩) hsz).trans HBX.out.2))
        have HWR := Lib.hid (fun W (h : Below wb.heap.size wb W) => (B0.out.trans (h.mono B0.out.size) : Below wr.heap.size wr W))
        obtain ⟨p1, m1, l1⟩ := hMk.out wr (Below.refl _ _)
        obtain ⟨bp1, rfl, -⟩ := l1.ptr
        obtain ⟨p2, m2, l2⟩ := hMk'.out wr (Below.refl _ _)
        obtain ⟨bp2, rfl, -⟩ := l2.ptr
        have HMC := Lib.hid (fun W (h : Below wr.heap.size wr W) => And.intro ((h.cell (p := ⟨w.heap.size, k, none⟩) HLO.out).trans m1) ((h.cell (p := ⟨w.heap.size, k', none⟩) HLO.out).trans m2))
        have HL1 := Lib.hid l1
        have HL2 := Lib.hid l2
        clear m1 m2 l1 l2 hMk hMk' c0 c1 c2 c3
        refine regionL (fun W => Below wb.heap.size wb W) [14] (by kernel_rfl) (Below.refl _ _).drew (fun hHeld => ?_)
        refine takeA (i := 0) (v := .slice (some ⟨w.heap.size, 0, none⟩) xs.length xs.length) 19 rfl rfl (by kernel_rfl) (by kernel_rfl) (by kernel_rfl) (by kernel_rfl) (fun _ _ _ h => h) (Or.inl ⟨by rfl, by intro W hSw; go_simp⟩) hHeld ?_
        simp only [Act.put, List.setIfInBounds_toArray, List.set_cons_zero, List.set_cons_succ]
        refine takeA (i := 1) (v := .int .i64 i) 20 rfl rfl (by kernel_rfl) (by kernel_rfl) (by kernel_rfl) (by kernel_rfl) (fun _ _ _ h => h) (Or.inl ⟨by rfl, by intro W hSw; go_simp⟩) hHeld ?_
        simp only [Act.put, List.setIfInBounds_toArray, List.set_cons_zero, List.set_cons_succ]
        refine takeA (i := 2) (v := .slice (some ⟨w.heap.size, 0, none⟩) xs.length xs.length) 21 rfl rfl (by kernel_rfl) (by kernel_rfl) (by kernel_rfl) (by kernel_rfl) (fun _ _ _ h => h) (Or.inl ⟨by rfl, by intro W hSw; go_simp⟩) hHeld ?_
        simp only [Act.put, List.setIfInBounds_toArray, List.set_cons_zero, List.set_cons_succ]
        refine takeA (i := 3) (v := .pointer (some ⟨wr.heap.size, 2, none⟩)) 22 rfl rfl (by kernel_rfl) (by kernel_rfl) (by kernel_rfl) (by kernel_rfl) (fun _ _ _ h => h) (Or.inl ⟨by rfl, by intro W hSw; go_simp⟩) hHeld ?_
        simp only [Act.put, List.setIfInBounds_toArray, List.set_cons_zero, List.set_cons_succ]
        refine takeA (i := 7) (v := .slice (some ⟨w.heap.size, 0, none⟩) xs.length xs.length) 26 rfl rfl (by kernel_rfl) (by kernel_rfl) (by kernel_rfl) (by kernel_rfl) (fun _ _ _ h => h) (Or.inl ⟨by rfl, by intro W hSw; go_simp⟩) hHeld ?_
        simp only [Act.put, List.setIfInBounds_toArray, List.set_cons_zero, List.set_cons_succ]
        refine takeA (i := 8) (v := .pointer (some ⟨wr.heap.size, 3, none⟩)) 27 rfl rfl (by kernel_rfl) (by kernel_rfl) (by kernel_rfl) (by kernel_rfl) (fun _ _ _ h => h) (Or.inl ⟨by rfl, by intro W hSw; go_simp⟩) hHeld ?_
        simp only [Act.put, List.setIfInBounds_toArray, List.set_cons_zero, List.set_cons_succ]
        refine takeA (i := 4) (v := .int .i64 k) 23 rfl rfl (by kernel_rfl) (by kernel_rfl) (by kernel_rfl) (by kernel_rfl) (fun _ _ _ h => h) (Or.inl ⟨by rfl, by intro W hSw; have c1 := (HBW.out _ hSw).1; go_simp⟩) hHeld ?_
        simp only [Act.put, List.setIfInBounds_toArray, List.set_cons_zero, List.set_cons_succ]
        refine takeA (i := 9) (v := .int .i64 k') 28 rfl rfl (by kernel_rfl) (by kernel_rfl) (by kernel_rfl) (by kernel_rfl) (fun _ _ _ h => h) (Or.inl ⟨by rfl, by intro W hSw; have c1 := (HBW.out _ hSw).2; go_simp⟩) hHeld ?_
        simp only [Act.put, List.setIfInBounds_toArray, List.set_cons_zero, List.set_cons_succ]
        refine takeA (i := 5) (v := .pointer (some ⟨w.heap.size, k, none⟩)) 24 rfl rfl (by kernel_rfl) (by kernel_rfl) (by kernel_rfl) (by kernel_rfl) (fun _ _ _ h => h) (Or.inl ⟨by rfl, by intro W hSw; go_simp⟩) hHeld ?_
        simp only [Act.put, List.setIfInBounds_toArray, List.set_cons_zero, List.set_cons_succ]
        refine takeA (i := 10) (v := .pointer (some ⟨w.heap.size, k', none⟩)) 29 rfl rfl (by kernel_rfl) (by kernel_rfl) (by kernel_rfl) (by kernel_rfl) (fun _ _ _ h => h) (Or.inl ⟨by rfl, by intro W hSw; go_simp⟩) hHeld ?_
        simp only [Act.put, List.setIfInBounds_toArray, List.set_cons_zero, List.set_cons_succ]
        refine takeA (i := 6) (v := .pointer (some ⟨bp1, 0, none⟩)) 25 rfl rfl (by kernel_rfl) (by kernel_rfl) (by kernel_rfl) (by kernel_rfl) (fun _ _ _ h => h) (Or.inl ⟨by rfl, by intro W hSw; have c1 := (HMC.out _ (HWR.out _ hSw)).1; go_simp⟩) hHeld ?_
        simp only [Act.put, List.setIfInBounds_toArray, List.set_cons_zero, List.set_cons_succ]
        refine takeA (i := 11) (v := .pointer (some ⟨bp2, 0, none⟩)) 30 rfl rfl (by kernel_rfl) (by kernel_rfl) (by kernel_rfl) (by kernel_rfl) (fun _ _ _ h => h) (Or.inl ⟨by rfl, by intro W hSw; have c1 := (HMC.out _ (HWR.out _ hSw)).2; go_simp⟩) hHeld ?_
        simp only [Act.put, List.setIfInBounds_toArray, List.set_cons_zero, List.set_cons_succ]
        generalize (World.drew _) = wd at hHeld ⊢
        refine onlyL (i := 12) (by kernel_rfl) rfl (by rfl) (fun K hK => ?_)
        go_simp
        refine (KA.out _ _ _ (HWR.out _ hHeld) (HL1.out.below (HWR.out _ hHeld)) (HL2.out.below (HWR.out _ hHeld))).mono ?_
        rintro e w2 ⟨b2, rfl, hl, hb2⟩
        have t2 : Below wb.heap.size wb w2 := hHeld.trans (hb2.mono hHeld.size)
        have H2 := Lib.hid hl
        clear hl hb2 hHeld
        refine hK.out _ _ (fun _ => t2) (fun _ => ?_)
        clear hK K
        have hHeld := t2
        try simp only [Act.put, List.setIfInBounds_toArray, List.set_cons_zero, List.set_cons_succ]
        refine takeA (i := 13) (v := .pointer (some ⟨w.heap.size, i, none⟩)) 32 rfl rfl (by kernel_rfl) (by kernel_rfl) (by kernel_rfl) (by kernel_rfl) (fun _ _ _ h => h) (Or.inl ⟨by rfl, by intro W hSw; go_simp⟩) hHeld ?_
        simp only [Act.put, List.setIfInBounds_toArray, List.set_cons_zero, List.set_cons_succ]
        clear hHeld
        have B2 := Lib.hid (HWR.out _ t2)
        have z2 := (own_below HPS.out B2.out (Nat.le_refl _)).cellAt i (by omega)
        rw [show ps[i]? = some (ps.getD i (.pointer none)) by rw [List.getD_eq_getElem?_getD, List.getElem?_eq_getElem (by have := HPS.out.1; omega)]; rfl] at z2
        have f2 := (own_below HPS.out B2.out (Nat.le_refl _)).frozenAt i
        clear t2
        refine onlyL (i := 14) (by kernel_rfl) rfl (by rfl) (fun K hK => ?_)
        go_simp
        refine hK.out _ _ (fun h => absurd (by decide) h) (fun _ => ?_)
        clear hK K
        try simp only [Act.put, List.setIfInBounds_toArray, List.set_cons_zero, List.set_cons_succ]
        refine doneL (by kernel_rfl) ?_ _
        try simp only [Act.put, List.setIfInBounds_toArray, List.set_cons_zero, List.set_cons_succ]
        have hsz2 : (w2.setCell ⟨w.heap.size, i, none⟩ (.pointer (some ⟨b2, 0, none⟩))).cell? ⟨b2, 3, none⟩ = some (.int .i64 T.size) := by
          obtain ⟨bq, e, h1, h2, h3⟩ := (H2.out.set (b := w.heap.size) (Nat.lt_succ_self _) i (.pointer (some ⟨b2, 0, none⟩))).sizeCell
          cases e
          exact h3
        have ht0 : (0 : Int) ≤ (T.size : Int) := Int.natCast_nonneg _
        by_cases hbig : 40 < T.size
        · have HNN := Lib.hid (HRN.out i hlt (HST.out.trans (if_neg (by omega))))
          have hbig' : (40 : Int) < (T.size : Int) := by omega
          clear hbig
          go_wp2
          go_ret
          rw [HNN.out]
          exact ⟨rfl, (BR.out.trans (B2.out.mono BR.out.size)).setCell (Nat.le_refl _) _⟩
        · have HNX := Lib.hid (HR.out.next hlt B2.out (HST.out.trans (if_pos (by omega))) H2.out)
          have hbig' : decide ((40 : Int) < (T.size : Int)) = false := decide_eq_false (by omega)
          clear hbig
          go_wp2
          go_roundw
          case rel => exact ⟨i + 1, by omega, by go_num, HNX⟩
          case measure => simp [intOf]; omega
      · have HST := Lib.hid (HST.out.trans (congrArg limT (show stepT op n (rwS xs xa.toNat) (rwS xs xb.toNat) = mkTm op n (rwS xs xa.toNat) (rwS xs xb.toNat) from if_neg h9)))
        have h9' : (op == 9) = false := by simpa using h9
        have KA := Lib.hid (fun W (hW : Below wr.heap.size wr W) => linkNode_any (w.heap.size + 1) op n xa xb i HOK.out w.heap.size xs.length hlt q2 (rwS xs) (fun j hj => (HQ.out j hj).2.2) W (Nat.le_trans HLO.out hW.size) (HMD.out.below hW))
        unfold LkAns at KA
        clear hp h9 HSM
        generalize mkTm op n (rwS xs xa.toNat) (rwS xs xb.toNat) = T at *
        go_wp2_with fail
        refine (KA.out _ B0.out).mono ?_
        rintro e w2 ⟨b2, rfl, hl, hb2⟩
        have H2 := Lib.hid hl
        have B2 := Lib.hid (B0.out.trans (hb2.mono B0.out.size))
        clear hl hb2 c0 c1 c2 c3
        have z2 := (own_below HPS.out B2.out (Nat.le_refl _)).cellAt i (by omega)
        rw [show ps[i]? = some (ps.getD i (.pointer none)) by rw [List.getD_eq_getElem?_getD, List.getElem?_eq_getElem (by have := HPS.out.1; omega)]; rfl] at z2
        have f2 := (own_below HPS.out B2.out (Nat.le_refl _)).frozenAt i
        have hsz2 : (w2.setCell ⟨w.heap.size, i, none⟩ (.pointer (some ⟨b2, 0, none⟩))).cell? ⟨b2, 3, none⟩ = some (.int .i64 T.size) := by
          obtain ⟨bq, e, h1, h2, h3⟩ := (H2.out.set (b := w.heap.size) (Nat.lt_succ_self _) i (.pointer (some ⟨b2, 0, none⟩))).sizeCell
          cases e
          exact h3
        have ht0 : (0 : Int) ≤ (T.size : Int) := Int.natCast_nonneg _
        by_cases hbig : 40 < T.size
        · have HNN := Lib.hid (HRN.out i hlt (HST.out.trans (if_neg (by omega))))
          have hbig' : (40 : Int) < (T.size : Int) := by omega
          clear hbig
          go_wp2
          go_ret
          rw [HNN.out]
          exact ⟨rfl, (BR.out.trans (B2.out.mono BR.out.size)).setCell (Nat.le_refl _) _⟩
        · have HNX := Lib.hid (HR.out.next hlt B2.out (HST.out.trans (if_pos (by omega))) H2.out)
          have hbig' : decide ((40 : Int) < (T.size : Int)) = false := decide_eq_false (by omega)
          clear hbig
          go_wp2
          go_roundw
          case rel => exact ⟨i + 1, by omega, by go_num, HNX⟩
          case measure => simp [intOf]; omega
    · obtain rfl : i = xs.length := by omega
      have hlast := HR.out.2.choose_spec
      have HMD := Lib.hid (HR.out.made (Nat.le_refl _) (by omega))
      have hRL := HR.out.2.choose_spec.2 (xs.length - 1) (by omega)
      have HRR : Hid (R = some (rwS xs (xs.length - 1))) := Lib.hid (HRS.out.trans hRL.1)
      have BR := Lib.hid HR.out.1
      obtain ⟨p, hpc, hpl⟩ := HMD.out.2 (xs.length - 1) (by omega)
      obtain ⟨bp, rfl, -⟩ := hpl.ptr
      have HPL := Lib.hid (hpl.down (Nat.zero_le _))
      have hq0 : (0 : Int) ≤ (xs.length : Int) - 1 := by omega
      have hq1 : (xs.length : Int) - 1 < (xs.length : Int) := by omega
      have hq2 : (1 : Int) ≤ (xs.length : Int) := by omega
      have hq3 : decide ((xs.length : Int) - 1 < 0) = false := by simp; omega
      clear hlast hRL hpl
      go_wp2
      go_ret
      rw [HRR.out]
      exact ⟨_, rfl, HPL.out, BR.out⟩

set_option maxHeartbeats 8000000 in
theorem implRewrite_any (u : Value) (xs : List Nd) (w : World) (hr : Ns w u xs) (hn : xs.length ≤ 1048576) :
    Calls Tryz.prog 26 #[u] w (Ans w (rewL xs)) := by
  have HR := Lib.hid hr
  have KO := Lib.hid (fun W h => implForm_any u xs W h)
  have KC := Lib.hid (fun W h => implCountOp_any u xs 8 W h hn)
  obtain ⟨ua, uc, rfl, -⟩ := hr
  cases hf : formOk xs with
  | false =>
    have HA : Hid (rewL xs = none) := Lib.hid (by unfold rewL; rw [hf]; rfl)
    rw [hf] at KO
    clear hf KC
    go_enter Tryz.func26, Tryz.ntmps26
    go_wp2_with fail
    refine (KO.out _ HR.out).mono ?_
    rintro e w1 ⟨rfl, hb1⟩
    have B1 := Lib.hid hb1; clear hb1
    go_wp2
    go_returns
    rw [HA.out]
    exact Ans.none_of B1.out
  | true =>
    rw [hf] at KO
    obtain ⟨c, hc⟩ : ∃ c, c = cntOp xs 8 := ⟨_, rfl⟩
    rw [← hc] at KC
    have hc0 : (0 : Int) ≤ (c : Int) := Int.natCast_nonneg _
    rcases Nat.eq_zero_or_pos c with h0 | h0
    · subst h0
      have KW := Lib.hid (fun W h => rewritten_any xs (.slice ua xs.length uc) W hf hc.symm h)
      have HA : Hid (rewL xs = (rewT (termOfL xs)).map (lay 0)) := Lib.hid (by unfold rewL; rw [hf]; rfl)
      have HQ : Hid (∀ t, rewT (termOfL xs) = some t → t.wf ∧ t.size ≤ 40) := Lib.hid (fun t h => (rew_quiet _ t (termOfL_wf hf) h).2)
      clear hf hc hc0
      cases hrw : rewT (termOfL xs) with
      | none =>
        rw [hrw] at KW HA
        unfold LkOpt at KW
        clear hrw HQ
        go_enter Tryz.func26, Tryz.ntmps26
        go_wp2_with fail
        refine (KO.out _ HR.out).mono ?_
        rintro e w1 ⟨rfl, hb1⟩
        have B1 := Lib.hid hb1; clear hb1
        go_wp2_with fail
        refine (KC.out _ (HR.out.below B1.out (Nat.le_refl _))).mono ?_
        rintro e w2 ⟨rfl, hb2⟩
        have B2 := Lib.hid (B1.out.trans (hb2.mono B1.out.size)); clear hb2
        go_wp2_with fail
        refine (KW.out _ (HR.out.below B2.out (Nat.le_refl _))).mono ?_
        rintro e w3 ⟨rfl, hb3⟩
        have B3 := Lib.hid (B2.out.trans (hb3.mono B2.out.size)); clear hb3
        go_wp2
        go_returns
        rw [HA.out]
        exact Ans.none_of B3.out
      | some t =>
        rw [hrw] at KW HA
        obtain ⟨hw, hs⟩ := HQ.out t hrw
        unfold LkOpt LkAns at KW
        have KT := Lib.hid (fun b W h => term_any 0 t (.pointer (some ⟨b, 0, none⟩)) W h (Tm.wf_ops t hw))
        have KF := Lib.hid (fun W => formulaOf_any t W (by omega))
        have HL : Hid (combL t = some (lay 0 t)) := Lib.hid (by unfold combL; rw [if_pos (lay_formOk hw hs)])
        rw [HL.out] at KF
        unfold Ans at KF
        clear hrw HQ hw hs HL
        obtain ⟨ty, pv, hx⟩ := tv_form t
        rw [hx] at KT KF
        clear hx
        go_enter Tryz.func26, Tryz.ntmps26
        go_wp2_with fail
        refine (KO.out _ HR.out).mono ?_
        rintro e w1 ⟨rfl, hb1⟩
        have B1 := Lib.hid hb1; clear hb1
        go_wp2_with fail
        refine (KC.out _ (HR.out.below B1.out (Nat.le_refl _))).mono ?_
        rintro e w2 ⟨rfl, hb2⟩
        have B2 := Lib.hid (B1.out.trans (hb2.mono B1.out.size)); clear hb2
        go_wp2_with fail
        refine (KW.out _ (HR.out.below B2.out (Nat.le_refl _))).mono ?_
        rintro e w3 ⟨b3, rfl, hl3, hb3⟩
        have H3 := Lib.hid hl3
        have B3 := Lib.hid (B2.out.trans (hb3.mono B2.out.size)); clear hb3 hl3
        go_wp2_with fail
        refine (KT.out _ _ H3.out).mono ?_
        rintro e w4 ⟨rfl, hb4⟩
        have B4 := Lib.hid (B3.out.trans (hb4.mono B3.out.size)); clear hb4
        go_wp2_with fail
        refine (KF.out _).mono ?_
        rintro e w5 ⟨v5, rfl, ho5, hb5⟩
        have O5 := Lib.hid ho5; have B5 := Lib.hid hb5; clear ho5 hb5
        go_wp2
        go_returns
        rw [HA.out]
        exact Ans.later B4.out ⟨_, rfl, O5.out, B5.out⟩
    · have HA : Hid (rewL xs = none) := Lib.hid (by unfold rewL; rw [hf, if_pos rfl, rew_common hf (by omega)]; rfl)
      have h0' : (0 : Int) < (c : Int) := by omega
      clear hf hc h0
      go_enter Tryz.func26, Tryz.ntmps26
      go_wp2_with fail
      refine (KO.out _ HR.out).mono ?_
      rintro e w1 ⟨rfl, hb1⟩
      have B1 := Lib.hid hb1; clear hb1
      go_wp2_with fail
      refine (KC.out _ (HR.out.below B1.out (Nat.le_refl _))).mono ?_
      rintro e w2 ⟨rfl, hb2⟩
      have B2 := Lib.hid (B1.out.trans (hb2.mono B1.out.size)); clear hb2
      go_wp2
      go_returns
      rw [HA.out]
      exact Ans.none_of B2.out

set_option maxHeartbeats 8000000 in
theorem implGrowthOf_any (xs : List Nd) (u : Value) (w : World) (hr : Ns w u xs) (hn : xs.length ≤ 1048576) :
    Calls Tryz.prog 30 #[u] w fun e w' => e = .returned (.int .i64 (growL xs)) ∧ Below w.heap.size w w' := by
  have KW := Lib.hid (implRewrite_any u xs w hr hn)
  unfold Ans at KW
  have HLN := rewL_len xs
  obtain ⟨ua, uc, rfl, -⟩ := hr
  have hn0 : (0 : Int) ≤ (xs.length : Int) := Int.natCast_nonneg _
  have hn1 : (xs.length : Int) ≤ 1048576 := by omega
  cases hrw : rewL xs with
  | none =>
    have HA : Hid (growL xs = 0) := Lib.hid (by unfold growL; rw [hrw])
    rw [hrw] at KW
    clear hrw HLN hn
    go_enter Tryz.func30, Tryz.ntmps30
    go_wp2_with fail
    refine KW.out.mono ?_
    rintro e w1 ⟨v1, rfl, ho1, hb1⟩
    have B1 := Lib.hid hb1; clear hb1 ho1
    go_wp2
    go_ret
    exact ⟨ret_int HA.out.symm, B1.out⟩
  | some ys =>
    have HA : Hid (growL xs = (ys.length : Int) - xs.length) := Lib.hid (by unfold growL; rw [hrw])
    rw [hrw] at KW HLN
    have hy0 : (0 : Int) ≤ (ys.length : Int) := Int.natCast_nonneg _
    have hy1 : (ys.length : Int) ≤ 40 := by have : ys.length ≤ 40 := HLN; omega
    clear hrw HLN hn
    go_enter Tryz.func30, Tryz.ntmps30
    go_wp2_with fail
    refine KW.out.mono ?_
    rintro e w1 ⟨v1, rfl, ho1, hb1⟩
    have B1 := Lib.hid hb1
    obtain ⟨va, vc, hv⟩ : ∃ a c, v1 = .slice a ys.length c := by
      obtain ⟨a, c, h, _⟩ := (Ns.of_own ho1).parts
      exact ⟨a, c, h⟩
    subst hv
    clear hb1 ho1
    go_wp2
    go_ret
    exact ⟨ret_int HA.out.symm, B1.out⟩
end Go.Proofs.YtodjohdbngbpaaaGreat
