/-
  spec.WhoKnows. No condition but the readings.
-/
import Derived.Test.YthjfanhhindjlaaWkn
namespace Go.Proofs.Ythjfanhhindjlaa
open Go.RowKit Go.WideShapes
open Go Go.Deep
set_option linter.unusedSimpArgs false

theorem blkL_sub {n k x : Nat} {bl : List Int} {rows : List (List Int)} {p : Nat → Bool} (hbl : rows.getD k [] = bl) (hn : n ≤ 16) : blkL n bl (List.replicate n true) ((List.range n).map p) x true = subB (blkB rows n k x) p := by
  rw [Bool.eq_iff_iff]
  unfold blkL subB blkB cut
  rw [hbl, List.all_eq_true, List.all_eq_true]
  have hat : ∀ v, v < n → blkAt bl (List.replicate n true) ((List.range n).map p) x true v = (!(bl.getD v 0 == bl.getD x 0) || p v) := fun v hv => by
    unfold blkAt
    rw [getD_rangeMap' hv, show (List.replicate n true).getD v false = true by rw [List.getD_eq_getElem?_getD, List.getElem?_replicate, if_pos hv]; rfl]
    cases p v <;> simp
  have hsym : ∀ v, (bl.getD v 0 == bl.getD x 0) = (bl.getD x 0 == bl.getD v 0) := fun v => Bool.eq_iff_iff.2 ⟨fun h => by rw [beq_iff_eq] at *; exact h.symm, fun h => by rw [beq_iff_eq] at *; exact h.symm⟩
  constructor
  · intro h v hv
    by_cases e : v < n
    · have := h v (List.mem_range.2 e)
      rw [hat v e, hsym] at this
      rw [decide_eq_true e, Bool.true_and]; exact this
    · rw [decide_eq_false e]; rfl
  · intro h v hv
    have hv' := List.mem_range.1 hv
    have := h v (List.mem_range.2 (by omega))
    rw [decide_eq_true hv', Bool.true_and] at this
    rw [hat v hv', hsym]; exact this
/-- a list of rows that is not empty, kept -/
theorem Ivv.kept {lo hi : Nat} {w : World} {v : Value} {ll : List (List Int)} (h : Ivv lo hi w v ll) (h0 : 0 < ll.length) : ∃ b o c, v = .slice (some ⟨b, o, none⟩) ll.length c ∧ ll.length ≤ c ∧ c ≤ maxLen ∧ ∀ W, Below w.heap.size w W → ∀ j, j < ll.length → ∃ u, W.cell? ⟨b, o + j, none⟩ = some u ∧ Iv lo hi W u (ll.getD j []) := by
  obtain ⟨a, c, rfl, h1, h2, h3⟩ := h.parts
  obtain ⟨b, o, u, rfl, -⟩ := h3 0 h0
  refine ⟨b, o, c, rfl, h1, h2, fun W hW j hj => ?_⟩
  obtain ⟨b', o', u', e, _, _, hlt, hc, hu⟩ := h3 j hj
  cases e
  exact ⟨u', (hW.cell (p := ⟨b, o + j, none⟩) hlt).trans hc, hu.keeps (Keeps.of_all hW)⟩

set_option maxRecDepth 100000 in
set_option maxHeartbeats 16000000 in
theorem specWho_any (lo hi : Nat) (v v2 : Value) (m : Md) (xs : List Nd) (w : World) (hr : Mv lo hi w v m) (_hhi : hi ≤ w.heap.size) (hr2 : Ns w v2 xs) :
    Calls Try.prog 27 #[v, v2] w (IntsAns w (whoR m xs)) := by
  have KO := Lib.hid (fun W (h : Below w.heap.size w W) => specEvOk_any lo hi v v2 m xs W (hr.keeps (Keeps.of_all h)) (hr2.below h (Nat.le_refl _)))
  have KT := Lib.hid (fun (hok : evOk m xs = true) W (h : Below w.heap.size w W) => specTruth_any lo hi v v2 m xs W (hr.keeps (Keeps.of_all h)) (hr2.below h (Nat.le_refl _)) hok)
  have HBV := Lib.hid (fun (h : 0 < m.blocks.length) => by
    obtain ⟨fv, bv, e, -, hb⟩ := hr
    exact (⟨fv, bv, e, hb.kept h⟩ : ∃ fv bv, v = .agg #[fv, bv, .int .i64 m.actual] ∧ ∃ b o c, bv = .slice (some ⟨b, o, none⟩) m.blocks.length c ∧ m.blocks.length ≤ c ∧ c ≤ maxLen ∧ ∀ W, Below w.heap.size w W → ∀ j, j < m.blocks.length → ∃ u, W.cell? ⟨b, o + j, none⟩ = some u ∧ Iv lo hi W u (m.blocks.getD j [])))
  obtain ⟨fv, bv, rfl, hf, hb⟩ := hr
  obtain ⟨a2, c2, rfl, -⟩ := hr2.parts
  clear hf hb hr2
  cases hok : evOk m xs with
  | false =>
    rw [hok] at KO
    have HA : Hid (whoR m xs = []) := Lib.hid (by unfold whoR; rw [hok]; rfl)
    clear KT HBV hok
    go_enter Try.func27, Try.ntmps27
    go_wp2_with fail
    refine (KO.out _ (by go_grown)).mono ?_
    rintro e w1 ⟨rfl, hb1⟩
    have X1 := Lib.hid (Mcell.below (b := w.heap.size) (Mcell.new (fv := fv) (bv := bv) (n := m.actual) rfl) hb1)
    have B1 : Hid (Below w.heap.size w w1) := Lib.hid (Below.trans (by go_grown) (hb1.mono (by simp)))
    clear hb1
    go_wp2
    go_ret
    exact ⟨.slice none 0 0, rfl, by rw [HA.out]; exact Ro.of_own (World.ownsRow_nil _ _ _ _), B1.out⟩
  | true =>
    rw [hok] at KO
    have HP := ok_len hok
    obtain ⟨-, -, p3, p4, p5, -, p7, p8⟩ := mdOk_parts (evOk_parts hok).1
    obtain ⟨act, hact⟩ := Int.eq_ofNat_of_zero_le p7
    have hactn : act < m.facts.length := by omega
    have HA : Hid (whoR m xs = nums (lst (whoP m xs) m.blocks.length)) := Lib.hid (by unfold whoR; rw [if_pos hok])
    have HWP : Hid (∀ k, blkL m.facts.length (m.blocks.getD k []) (List.replicate m.facts.length true) (truthR m xs) act true = whoP m xs k) := Lib.hid (fun k => by
      unfold whoP truthR
      rw [hact, Int.toNat_natCast]
      exact blkL_sub rfl HP.2)
    have KT := Lib.hid (KT.out hok)
    have HTL : Hid ((truthR m xs).length = m.facts.length) := Lib.hid (truthR_len m xs)
    have KA := Lib.hid (fun W => specAll_any m.facts.length W HP.2)
    have HRL : Hid ((List.replicate m.facts.length true).length = m.facts.length) := Lib.hid (by simp)
    have KB := Lib.hid (fun k (hk : k < m.blocks.length) lo hi lo2 hi2 lo3 hi3 u v2 v3 (tr : List Bool) (htr : tr.length = m.facts.length) W (h1 : Iv lo hi W u (m.blocks.getD k [])) (h2 : Bv lo2 hi2 W v2 (List.replicate m.facts.length true)) (h3 : Bv lo3 hi3 W v3 tr) => specBlock_any m.facts.length lo hi lo2 hi2 lo3 hi3 u v2 v3 (m.blocks.getD k []) (List.replicate m.facts.length true) tr act true W h1 h2 h3 (p5 k hk).1 (by simp) htr hactn)
    obtain ⟨fv', bv', e0, b, o, bc, rfl, q1, r1, hrow⟩ := HBV.out p3
    cases e0
    have HRW := Lib.hid hrow
    have hn1 := HP.1
    have hn2 := HP.2
    have HLL := Lib.hid (fun k => lst_len (whoP m xs) k)
    have HLS := Lib.hid (fun k => lst_succ (whoP m xs) k)
    rw [HA.out]
    generalize truthR m xs = tl at *
    generalize whoP m xs = wp at *
    rw [hact] at KO KT ⊢
    generalize hnn : m.facts.length = n at *
    generalize han : m.blocks.length = an at *
    clear HA HBV HP p5 hact p7 p8 hrow hok hnn han
    unfold maxLen at r1
    go_enter Try.func27, Try.ntmps27
    go_wp2_with fail
    refine (KO.out _ (by go_grown)).mono ?_
    rintro e w1 ⟨rfl, hb1⟩
    have X1 := Lib.hid (Mcell.below (b := w.heap.size) (Mcell.new (fv := fv) (bv := .slice (some ⟨b, o, none⟩) an bc) (n := (act : Int)) rfl) hb1)
    have B1 : Hid (Below w.heap.size w w1) := Lib.hid (Below.trans (by go_grown) (hb1.mono (by simp)))
    clear hb1
    obtain ⟨c0, c1, c2, c3, c4, c5⟩ := X1.out
    go_wp2_with fail
    clear c0 c1 c2 c3 c4 c5
    refine (KT.out _ B1.out).mono ?_
    rintro e w2 ⟨v3, rfl, ho, hb⟩
    have sb1 : w.heap.size ≤ w1.heap.size := B1.out.size
    have X2 := Lib.hid (X1.out.below hb)
    have B2 : Hid (Below w.heap.size w w2) := Lib.hid (B1.out.trans (hb.mono sb1))
    have HO := Lib.hid ho.read
    obtain ⟨ta, tc, ht⟩ := ho.read.form
    rw [HTL.out] at ht
    subst ht
    clear ho hb X1 B1 KO KT
    obtain ⟨c0, c1, c2, -, -, -⟩ := X2.out
    have hlt2 := X2.out.lt
    have sb2 : w.heap.size ≤ w2.heap.size := B2.out.size
    go_wp2
    clear c0 c1 c2
    go_loopw [6, 20] (fun lv iv wr => ∃ (k : Nat) (lv' : Value), k ≤ an ∧ iv = .int .i64 k ∧ lv' = lv ∧ Hid (wr.ownsRow w2.heap.size 3 1 lv' (lst wp k).length (ints (nums (lst wp k)))) ∧ Hid (Below w2.heap.size w2 wr)) (fun _ iv _ => an - (intOf iv).toNat)
    case atStart => exact ⟨0, _, Nat.zero_le _, rfl, rfl, Lib.hid (World.ownsRow_lit w2 #[] 0 (Nat.le_refl _) (Nat.zero_le _) rfl), Lib.hid (by go_grown)⟩
    case round =>
      obtain ⟨k, lv, hk, rfl, rfl, LR, BR⟩ := hrel
      by_cases hlt : k < an
      · have hlk := HLL.out k
        have HS := Lib.hid (HLS.out k)
        have HWK := Lib.hid (HWP.out k)
        have hszr : w2.heap.size ≤ wr.heap.size := BR.out.size
        have B3 : Hid (Below w.heap.size w wr) := Lib.hid (B2.out.trans (BR.out.mono sb2))
        obtain ⟨u, cu, hu⟩ := HRW.out _ B3.out k hlt
        have HU := Lib.hid hu
        have HT3 := Lib.hid (HO.out.keeps (Keeps.of_below BR.out (Nat.le_refl _)))
        have X3 : Hid (Mcell wr w.heap.size fv (.slice (some ⟨b, o, none⟩) an bc) (act : Int)) := Lib.hid (X2.out.of_block (BR.out.block _ hlt2))
        have k0 : (0 : Int) ≤ (k : Int) := Int.natCast_nonneg _
        have kn : (k : Int) < (an : Int) := by omega
        have KBk := Lib.hid (KB.out k hlt)
        clear hu
        go_wp2
        obtain ⟨wo, rfl⟩ : ∃ wo : World, wo = wr := ⟨_, rfl⟩
        refine regionL (fun W => Below wo.heap.size wo W) [] (by kernel_rfl) (Below.refl _ _).drew (fun hHeld => ?_)
        refine takeA (i := 0) (v := u) 25 rfl rfl (by kernel_rfl) (by kernel_rfl) (by kernel_rfl) (by kernel_rfl) (fun _ _ _ h => h) (Or.inl ⟨by rfl, by intro W hSw; go_simp⟩) hHeld ?_
        simp only [Act.put, List.setIfInBounds_toArray, List.set_cons_zero, List.set_cons_succ]
        refine takeA (i := 1) (v := .slice ta n tc) 26 rfl rfl (by kernel_rfl) (by kernel_rfl) (by kernel_rfl) (by kernel_rfl) (fun _ _ _ h => h) (Or.inl ⟨by rfl, by intro W hSw; go_simp⟩) hHeld ?_
        simp only [Act.put, List.setIfInBounds_toArray, List.set_cons_zero, List.set_cons_succ]
        refine takeA (i := 4) (v := .slice ta n tc) 29 rfl rfl (by kernel_rfl) (by kernel_rfl) (by kernel_rfl) (by kernel_rfl) (fun _ _ _ h => h) (Or.inl ⟨by rfl, by intro W hSw; go_simp⟩) hHeld ?_
        simp only [Act.put, List.setIfInBounds_toArray, List.set_cons_zero, List.set_cons_succ]
        refine takeA (i := 5) (v := .pointer (some ⟨w.heap.size, 2, none⟩)) 30 rfl rfl (by kernel_rfl) (by kernel_rfl) (by kernel_rfl) (by kernel_rfl) (fun _ _ _ h => h) (Or.inl ⟨by rfl, by intro W hSw; go_simp⟩) hHeld ?_
        simp only [Act.put, List.setIfInBounds_toArray, List.set_cons_zero, List.set_cons_succ]
        refine takeA (i := 2) (v := .int .i64 n) 27 rfl rfl (by kernel_rfl) (by kernel_rfl) (by kernel_rfl) (by kernel_rfl) (fun _ _ _ h => h) (Or.inl ⟨by rfl, by intro W hSw; go_simp⟩) hHeld ?_
        simp only [Act.put, List.setIfInBounds_toArray, List.set_cons_zero, List.set_cons_succ]
        refine takeA (i := 6) (v := .int .i64 act) 31 rfl rfl (by kernel_rfl) (by kernel_rfl) (by kernel_rfl) (by kernel_rfl) (fun _ _ _ h => h) (Or.inl ⟨by rfl, by intro W hSw; have c1 := (X3.out.below hSw).2.2.1; go_simp⟩) hHeld ?_
        simp only [Act.put, List.setIfInBounds_toArray, List.set_cons_zero, List.set_cons_succ]
        refine onlyL (i := 3) (by kernel_rfl) rfl (by rfl) (fun K hK => ?_)
        go_simp
        refine (KA.out _).mono ?_
        rintro e w8 ⟨va, rfl, hoa, hb8⟩
        have t8 : Below wo.heap.size wo w8 := hHeld.trans (hb8.mono (Nat.le_refl _))
        obtain ⟨aa, ac, ha⟩ := hoa.read.form
        rw [HRL.out] at ha
        subst ha
        have HOA := Lib.hid hoa.read
        clear hb8 hHeld hoa
        refine hK.out _ _ (fun _ => t8) (fun hHeld => ?_)
        have hHeld := hHeld (by decide)
        clear hK K
        try simp only [Act.put, List.setIfInBounds_toArray, List.set_cons_zero, List.set_cons_succ]
        refine onlyL (i := 7) (by kernel_rfl) rfl (by rfl) (fun K hK => ?_)
        go_simp
        refine (KBk.out _ _ _ _ _ _ _ _ _ tl HTL.out _ (HU.out.keeps (Keeps.of_all t8)) HOA.out (HT3.out.keeps (Keeps.of_all t8))).mono ?_
        rw [HWK.out]
        rintro e w9 ⟨rfl, rfl⟩
        refine hK.out _ _ (fun _ => t8) (fun hHeld => ?_)
        clear hK K hHeld
        try simp only [Act.put, List.setIfInBounds_toArray, List.set_cons_zero, List.set_cons_succ]
        refine doneL (by kernel_rfl) ?_ _
        try simp only [List.getElem_toArray, List.getElem_cons_succ, List.getElem_cons_zero]
        have LR := Lib.hid (own_keeps LR.out fun q hq => t8.block q (LR.out.lt q hq).2)
        have BR : Hid (Below w2.heap.size w2 w8) := Lib.hid (BR.out.trans (t8.mono hszr))
        have hsz9 : w2.heap.size ≤ w8.heap.size := BR.out.size
        clear t8 KBk HWK HU HT3 X3 HOA cu B3
        obtain ⟨bb, hb⟩ : ∃ b, b = wp k := ⟨_, rfl⟩
        rw [← hb] at HS ⊢
        clear hb
        have HLB : Hid (∀ q, lv.ownBlock = some q → w2.heap.size ≤ q) := Lib.hid (fun q hq => (LR.out.lt q hq).1)
        cases bb with
        | true =>
          go_wp2_with (at_builtin; refine wpList_pushL rfl (.tmp 33) (.tmp 35) 22 36 rfl rfl 3 (.int .i64 0) 8 Try.underlying22 Try.infoI rfl w2.heap.size (.int .i64 k) lv (lst wp k).length (ints (nums (lst wp k))) LR.out rfl w8.heap.size rfl rfl rfl (by unfold maxLen; omega) (by omega) hsz9 ?_; intro v6 w6 hown hg; have L6 := Lib.hid hown; have B6 : Hid (Below w2.heap.size w2 w6) := Lib.hid (BR.out.trans (hg.below hsz9 HLB.out)); clear hown hg)
          go_roundw
          case rel =>
            refine ⟨k + 1, _, by omega, by go_num, rfl, Lib.hid ?_, B6⟩
            rw [HS.out, if_pos rfl, nums_app, ints_app, List.length_append]
            exact L6.out
          case measure => simp [intOf]; omega
        | false =>
          go_wp2
          go_roundw
          case rel =>
            refine ⟨k + 1, _, by omega, by go_num, rfl, Lib.hid ?_, BR⟩
            rw [HS.out, if_neg (by decide), List.append_nil]
            exact LR.out
          case measure => simp [intOf]; omega
      · obtain rfl : k = an := by omega
        go_wp2
        go_ret
        exact ⟨_, rfl, (Ro.of_own LR.out).wide sb2 (Nat.le_refl _), B2.out.trans (BR.out.mono sb2)⟩
end Go.Proofs.Ythjfanhhindjlaa
