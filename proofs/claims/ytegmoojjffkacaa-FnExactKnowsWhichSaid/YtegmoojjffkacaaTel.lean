/-
  Contracts of spec.TellFact and impl.TellFact. No condition.
-/
import Derived.Test.YtegmoojjffkacaaBit
import Derived.Test.YtegmoojjffkacaaNum
namespace Go.Proofs.Ytegmoojjffkacaa
open Go.RowKit Go.WideShapes
open Go Go.Deep
set_option linter.unusedSimpArgs false

/-- what TellFact answers -/
def tellR (m : Md) (a f : Int) : Option Md := if mdOk m && inB a m.blocks.length && inB f 4 then some (tellM m a.toNat f.toNat) else none
theorem inB_parts {x n : Int} (h : inB x n = true) : 0 ≤ x ∧ x < n := of_decide_eq_true h
theorem inB_not {x n : Int} (h : inB x n = false) : x < 0 ∨ n ≤ x := by
  have := of_decide_eq_false h; omega
/-- a row of rows is replaced by one that lies behind them -/
theorem Ioo.put {lo h1 h2 : Nat} {w : World} {pb n cap a : Nat} {vs : List Value} {ll : List (List Int)} {u : Value} {l : List Int} (hb : Ioo lo h1 w (.slice (some ⟨pb, 0, none⟩) n cap) vs ll) (hu : Io h1 h2 w u l) (ha : a < ll.length) (h12 : h1 ≤ h2) :
    Ioo lo h2 (w.setCell ⟨pb, a, none⟩ u) (.slice (some ⟨pb, 0, none⟩) n cap) (vs.set a u) (ll.set a l) ∧ w.grownBy (w.setCell ⟨pb, a, none⟩ u) (some pb) := by
  obtain ⟨r1, r2, r3⟩ := hb
  have hn : n = vs.length := by
    rcases r1.1.2 with ⟨e, _⟩ | ⟨g, c, cur, e, _⟩
    · cases e
    · cases e; rfl
  subst hn
  have st := r1.1.stored a u
  have hpb : pb < h1 := r1.2 pb rfl
  have hub : ∀ k, u.ownBlock = some k → h1 ≤ k := fun k hk => (hu.1.lt k hk).1
  refine ⟨⟨⟨by rw [List.length_set]; exact st.1, fun k hk => by have := r1.2 k hk; omega⟩, ⟨by rw [List.length_set, List.length_set]; exact r2.1, fun j hj => ?_⟩, ?_⟩, st.2⟩
  · rw [List.length_set] at hj
    by_cases e : j = a
    · subst e
      rw [set_getD_same (by rw [r2.1]; exact hj), set_getD_same hj]
      exact (hu.keeps (Keeps.setCell w pb j u (.inl hpb))).wide (by have := (r1.1.lt pb rfl).1; omega) (Nat.le_refl _)
    · rw [set_getD_ne e, set_getD_ne e]
      have hmem : vs.getD j (.bool false) ∈ vs := by
        rw [List.getD_eq_getElem?_getD, List.getElem?_eq_getElem (by rw [r2.1]; exact hj)]
        exact List.getElem_mem _
      exact Ro.wide ((r2.2 j hj).keptBy st.2 (apart_symm ((List.pairwise_cons.1 r3).1 _ hmem))) (Nat.le_refl _) h12
  · have hvb : ∀ x ∈ vs, apart x u := fun x hx => apart_lt (B := h1) (fun k hk => (Rows'.blk r2 hx k hk).2.1) hub
    have hbu : apart (.slice (some ⟨pb, 0, none⟩) vs.length cap) u := apart_lt (B := h1) (fun k hk => r1.2 k hk) hub
    obtain ⟨p1, p2⟩ := List.pairwise_cons.1 r3
    refine List.pairwise_cons.2 ⟨fun x hx => ?_, ?_⟩
    · rcases List.mem_or_eq_of_mem_set hx with hx | rfl
      · exact p1 x hx
      · exact hbu
    · rw [List.pairwise_iff_getElem] at p2 ⊢
      intro i j hi hj hij
      rw [List.length_set] at hi hj
      rw [List.getElem_set, List.getElem_set]
      by_cases e1 : a = i
      · rw [if_pos e1, if_neg (by omega)]
        exact apart_symm (hvb _ (List.getElem_mem _))
      · rw [if_neg e1]
        by_cases e2 : a = j
        · rw [if_pos e2]; exact hvb _ (List.getElem_mem _)
        · rw [if_neg e2]; exact p2 i j hi hj hij

theorem tot_bd : ∀ (ll : List (List Int)), (∀ l ∈ ll, l.length ≤ 16) → tot ll ≤ 16 * ll.length
  | [], _ => by simp [tot]
  | l :: ll, h => by
    have h1 := h l (List.mem_cons_self ..)
    have h2 := tot_bd ll (fun x hx => h x (List.mem_cons_of_mem _ hx))
    rw [tot, List.length_cons]; omega
theorem fits_size {m : Md} (h : fits m) : msize m + m.blocks.length ≤ 1048576 := by
  have h1 := tot_bd m.blocks (fun l hl => by
    obtain ⟨j, hj, rfl⟩ := List.getElem_of_mem hl
    have := h.2.2 j hj
    rw [List.getD_eq_getElem?_getD, List.getElem?_eq_getElem hj] at this
    simp only [Option.getD_some] at this
    have := h.1; omega)
  have h2 := h.1
  have h3 := h.2.1
  unfold msize
  omega
theorem tell_size (m : Md) (a f : Int) : msize ((tellR m a f).getD ⟨[], [], 0⟩) + ((tellR m a f).getD ⟨[], [], 0⟩).blocks.length ≤ 1048576 := by
  unfold tellR
  split
  · rename_i h
    simp only [Bool.and_eq_true] at h
    obtain ⟨⟨h1, h2⟩, h3⟩ := h
    have := inB_parts h2
    exact fits_size (tell_fits (md_fits h1) _ _ (by omega))
  · decide
set_option maxRecDepth 100000 in
set_option maxHeartbeats 16000000 in
theorem implTell_any (lo hi : Nat) (v : Value) (m : Md) (a f : Int) (w : World) (hr : Mv lo hi w v m) (hhi : hi ≤ w.heap.size) :
    Calls Try.prog 33 #[v, .int .i64 a, .int .i64 f] w (MdAns2 w (tellR m a f)) := by
  have KG := Lib.hid (fun W (h : Below w.heap.size w W) => gridOf_any lo hi v m W (hr.keeps (Keeps.of_all h)) (Nat.le_trans hhi h.size))
  have HR : Hid (tellR m a f = if mdOk m && inB a m.blocks.length && inB f 4 then some (tellM m a.toNat f.toNat) else none) := Lib.hid rfl
  generalize tellR m a f = R at *
  obtain ⟨fv, bv, rfl, hf, hb⟩ := hr
  clear hf hb hhi
  cases hm : mdOk m with
  | false =>
    simp only [hm, Bool.false_eq_true, if_false] at KG
    have HR' : Hid (R = none) := Lib.hid (by rw [HR.out, hm]; rfl)
    clear HR hm
    unfold GdAns at KG
    simp only [Option.getD_none, Option.isSome_none] at KG
    have HLG : Hid ((ints (gL 0 0 [] [] 0)).length = 67) := Lib.hid rfl
    have HLO := Lib.hid (fun v (hv : v ∈ ints (gL 0 0 [] [] 0)) => ints_one hv)
    obtain ⟨G, hG⟩ : ∃ G, G = gL 0 0 [] [] 0 := ⟨_, rfl⟩
    rw [← hG] at KG HLG HLO
    clear hG
    go_enter Try.func33, Try.ntmps33
    go_wp2_with fail
    refine (KG.out _ (by go_grown)).mono ?_
    rintro e w1 ⟨rfl, hb1⟩
    have M1 := Lib.hid (Mcell.below (b := w.heap.size + 1) (Mcell.new (by simp)) hb1)
    have B1 : Hid (Below w.heap.size w w1) := Lib.hid (Below.trans (by go_grown) (hb1.mono (by simp; omega)))
    clear hb1
    go_wp2_with
      (first
        | (refine wpList_allocM rfl 75 rfl (ints (gL 0 0 [] [] 0)) Try.allocGrid ?_
           intro w2 hc2 hb2 hs2
           have CC := Lib.hid hc2
           have BB : Hid (Below w.heap.size w w2) := Lib.hid (B1.out.trans (hb2.mono B1.out.size))
           have MM := Lib.hid (M1.out.below hb2)
           have hgb : w.heap.size + 1 < w1.heap.size := M1.out.lt
           clear hc2 hb2 hs2 M1)
        | (refine wpList_storeM rfl 75 _ _ rfl w1.heap.size 0 rfl (ints G) rfl 75 (ints (gL 0 0 [] [] 0)) CC.out (by rw [HLG.out]; exact Nat.le_refl _) (by rw [HLG.out]; exact Try.sizeGrid) HLO.out ?_
           intro w3 hc3 ha3
           rw [lay'_all (by rw [HLG.out]; rfl)] at hc3
           have CC := Lib.hid hc3
           have BB : Hid (Below w.heap.size w w3) := Lib.hid (BB.out.trans (ha3.below B1.out.size))
           have MM := Lib.hid (MM.out.of_block (ha3.block _ (by omega)))
           obtain ⟨mc0, mc1, mc2, mc3, mc4, mc5⟩ := MM.out
           clear hc3 ha3))
    clear mc0 mc1 mc2 mc3 mc4 mc5
    have M6 := MM.out.write (.slice none 0 0) (.slice none 0 0) 0
    refine bodyPost_ret (results_mid2 Try.results33 _ _ (w.heap.size + 1) _ _ (.bool false) rfl rfl M6.range Try.underlying27 rfl Try.sizeMd) rfl ?_
    rw [HR'.out]
    exact ⟨_, rfl, Mo.none _ _ _, ((BB.out.setCell (by show _ ≤ w.heap.size + 1; omega) _).setCell (by show _ ≤ w.heap.size + 1; omega) _).setCell (by show _ ≤ w.heap.size + 1; omega) _⟩
  | true =>
    have HMD := Lib.hid hm
    simp only [hm, if_true] at KG
    have hs := md_small hm
    have HFT := Lib.hid (md_fits hm)
    have HP := Lib.hid (mdOk_parts hm)
    rw [hm] at HR
    clear hm
    unfold GdAns at KG
    simp only [Option.getD_some, Option.isSome_some] at KG
    unfold gOf at KG
    have HLG : Hid ((ints (gL m.facts.length m.blocks.length m.facts m.blocks m.actual)).length = 67) := Lib.hid (by rw [ints_len]; exact gL_len hs)
    have HLO := Lib.hid (fun v (hv : v ∈ ints (gL m.facts.length m.blocks.length m.facts m.blocks m.actual)) => ints_one hv)
    have KW := Lib.hid (fun W => hasAgent_any m.facts.length m.blocks.length m.actual m.facts m.blocks a W)
    have KTD := Lib.hid (fun a f ha hf W => told_any m a f HMD.out ha hf W)
    have KM : Hid (∀ a f, a < m.blocks.length → ∀ W, Calls Try.prog 69 #[.agg (ints (gL m.facts.length m.blocks.length m.facts (tellM m a f).blocks m.actual)).toArray] W (MdAns W (tellM m a f))) := Lib.hid (fun a f ha W => by
      have h := gridModel_any (tellM m a f) (tell_fits HFT.out a f ha) W
      rw [show (tellM m a f).blocks.length = m.blocks.length by simp [tellM]] at h
      exact h)
    generalize gL m.facts.length m.blocks.length m.facts m.blocks m.actual = G at *
    clear hs HFT HP HMD
    cases ha : inB a m.blocks.length with
    | false =>
      rw [ha] at KW HR
      have HR' : Hid (R = none) := Lib.hid (by rw [HR.out]; rfl)
      clear HR ha KM KTD
      go_enter Try.func33, Try.ntmps33
      go_wp2_with fail
      refine (KG.out _ (by go_grown)).mono ?_
      rintro e w1 ⟨rfl, hb1⟩
      have M1 := Lib.hid (Mcell.below (b := w.heap.size + 1) (Mcell.new (by simp)) hb1)
      have B1 : Hid (Below w.heap.size w w1) := Lib.hid (Below.trans (by go_grown) (hb1.mono (by simp; omega)))
      clear hb1
      go_wp2_with
        (first
          | (refine wpList_allocM rfl 75 rfl (ints (gL 0 0 [] [] 0)) Try.allocGrid ?_
             intro w2 hc2 hb2 hs2
             have CC := Lib.hid hc2
             have BB : Hid (Below w.heap.size w w2) := Lib.hid (B1.out.trans (hb2.mono B1.out.size))
             have MM := Lib.hid (M1.out.below hb2)
             have hgb : w.heap.size + 1 < w1.heap.size := M1.out.lt
             clear hc2 hb2 hs2 M1)
          | (refine wpList_storeM rfl 75 _ _ rfl w1.heap.size 0 rfl (ints G) rfl 75 (ints (gL 0 0 [] [] 0)) CC.out (by rw [HLG.out]; exact Nat.le_refl _) (by rw [HLG.out]; exact Try.sizeGrid) HLO.out ?_
             intro w3 hc3 ha3
             rw [lay'_all (by rw [HLG.out]; rfl)] at hc3
             have CC := Lib.hid hc3
             have BB : Hid (Below w.heap.size w w3) := Lib.hid (BB.out.trans (ha3.below B1.out.size))
             have MM := Lib.hid (MM.out.of_block (ha3.block _ (by omega)))
             obtain ⟨mc0, mc1, mc2, mc3, mc4, mc5⟩ := MM.out
             clear hc3 ha3)
          | (refine wpList_loadMG rfl (by rfl) 75 _ rfl w1.heap.size 0 rfl 75 (ints G) (ints G) CC.out (fun j _ => by rw [Nat.zero_add]) _ Try.underlying75 rfl (by rw [HLG.out]; exact Try.sizeGrid) ?_)
          | (go_at_call 84; (with_reducible refine (KW.out _).mono ?_); rintro e w4 ⟨rfl, hb4⟩; clear mc0 mc1 mc2 mc3 mc4 mc5; have CC := Lib.hid (CC.out.all hb4); have MM := Lib.hid (MM.out.below hb4); have BB : Hid (Below w.heap.size w w4) := Lib.hid (BB.out.trans (hb4.mono BB.out.size)); obtain ⟨mc0, mc1, mc2, mc3, mc4, mc5⟩ := MM.out; clear hb4))
      clear mc0 mc1 mc2 mc3 mc4 mc5
      have M6 := MM.out.write (.slice none 0 0) (.slice none 0 0) 0
      refine bodyPost_ret (results_mid2 Try.results33 _ _ (w.heap.size + 1) _ _ (.bool false) rfl rfl M6.range Try.underlying27 rfl Try.sizeMd) rfl ?_
      rw [HR'.out]
      exact ⟨_, rfl, Mo.none _ _ _, ((BB.out.setCell (by show _ ≤ w.heap.size + 1; omega) _).setCell (by show _ ≤ w.heap.size + 1; omega) _).setCell (by show _ ≤ w.heap.size + 1; omega) _⟩
    | true =>
      rw [ha] at KW HR
      obtain ⟨a0, a1⟩ := inB_parts ha
      cases hf : inB f 4 with
      | false =>
        rw [hf] at HR
        have HR' : Hid (R = none) := Lib.hid (by rw [HR.out]; rfl)
        have hf' := inB_not hf
        clear HR ha hf KM KTD
        rcases hf' with hf' | hf'
        all_goals
          go_enter Try.func33, Try.ntmps33
          go_wp2_with fail
          refine (KG.out _ (by go_grown)).mono ?_
          rintro e w1 ⟨rfl, hb1⟩
          have M1 := Lib.hid (Mcell.below (b := w.heap.size + 1) (Mcell.new (by simp)) hb1)
          have B1 : Hid (Below w.heap.size w w1) := Lib.hid (Below.trans (by go_grown) (hb1.mono (by simp; omega)))
          clear hb1
          go_wp2_with
            (first
              | (refine wpList_allocM rfl 75 rfl (ints (gL 0 0 [] [] 0)) Try.allocGrid ?_
                 intro w2 hc2 hb2 hs2
                 have CC := Lib.hid hc2
                 have BB : Hid (Below w.heap.size w w2) := Lib.hid (B1.out.trans (hb2.mono B1.out.size))
                 have MM := Lib.hid (M1.out.below hb2)
                 have hgb : w.heap.size + 1 < w1.heap.size := M1.out.lt
                 clear hc2 hb2 hs2 M1)
              | (refine wpList_storeM rfl 75 _ _ rfl w1.heap.size 0 rfl (ints G) rfl 75 (ints (gL 0 0 [] [] 0)) CC.out (by rw [HLG.out]; exact Nat.le_refl _) (by rw [HLG.out]; exact Try.sizeGrid) HLO.out ?_
                 intro w3 hc3 ha3
                 rw [lay'_all (by rw [HLG.out]; rfl)] at hc3
                 have CC := Lib.hid hc3
                 have BB : Hid (Below w.heap.size w w3) := Lib.hid (BB.out.trans (ha3.below B1.out.size))
                 have MM := Lib.hid (MM.out.of_block (ha3.block _ (by omega)))
                 obtain ⟨mc0, mc1, mc2, mc3, mc4, mc5⟩ := MM.out
                 clear hc3 ha3)
              | (refine wpList_loadMG rfl (by rfl) 75 _ rfl w1.heap.size 0 rfl 75 (ints G) (ints G) CC.out (fun j _ => by rw [Nat.zero_add]) _ Try.underlying75 rfl (by rw [HLG.out]; exact Try.sizeGrid) ?_)
              | (go_at_call 84; (with_reducible refine (KW.out _).mono ?_); rintro e w4 ⟨rfl, hb4⟩; clear mc0 mc1 mc2 mc3 mc4 mc5; have CC := Lib.hid (CC.out.all hb4); have MM := Lib.hid (MM.out.below hb4); have BB : Hid (Below w.heap.size w w4) := Lib.hid (BB.out.trans (hb4.mono BB.out.size)); obtain ⟨mc0, mc1, mc2, mc3, mc4, mc5⟩ := MM.out; clear hb4))
          clear mc0 mc1 mc2 mc3 mc4 mc5
          have M6 := MM.out.write (.slice none 0 0) (.slice none 0 0) 0
          refine bodyPost_ret (results_mid2 Try.results33 _ _ (w.heap.size + 1) _ _ (.bool false) rfl rfl M6.range Try.underlying27 rfl Try.sizeMd) rfl ?_
          rw [HR'.out]
          exact ⟨_, rfl, Mo.none _ _ _, ((BB.out.setCell (by show _ ≤ w.heap.size + 1; omega) _).setCell (by show _ ≤ w.heap.size + 1; omega) _).setCell (by show _ ≤ w.heap.size + 1; omega) _⟩
      | true =>
        rw [hf] at HR
        have HR' : Hid (R = some (tellM m a.toNat f.toNat)) := Lib.hid (by rw [HR.out]; rfl)
        obtain ⟨f0, f1⟩ := inB_parts hf
        clear HR ha hf
        obtain ⟨a, rfl⟩ := Int.eq_ofNat_of_zero_le a0
        obtain ⟨f, rfl⟩ := Int.eq_ofNat_of_zero_le f0
        rw [Int.toNat_natCast, Int.toNat_natCast] at HR'
        have ha : a < m.blocks.length := by omega
        have hf : f < 4 := by omega
        have KTD := Lib.hid (KTD.out a f ha hf)
        have KM := Lib.hid (KM.out a f ha)
        go_enter Try.func33, Try.ntmps33
        go_wp2_with fail
        refine (KG.out _ (by go_grown)).mono ?_
        rintro e w1 ⟨rfl, hb1⟩
        have M1 := Lib.hid (Mcell.below (b := w.heap.size + 1) (Mcell.new (by simp)) hb1)
        have B1 : Hid (Below w.heap.size w w1) := Lib.hid (Below.trans (by go_grown) (hb1.mono (by simp; omega)))
        clear hb1
        go_wp2_with
          (first
            | (refine wpList_allocM rfl 75 rfl (ints (gL 0 0 [] [] 0)) Try.allocGrid ?_
               intro w2 hc2 hb2 hs2
               have CC := Lib.hid hc2
               have BB : Hid (Below w.heap.size w w2) := Lib.hid (B1.out.trans (hb2.mono B1.out.size))
               have MM := Lib.hid (M1.out.below hb2)
               have hgb : w.heap.size + 1 < w1.heap.size := M1.out.lt
               clear hc2 hb2 hs2 M1)
            | (refine wpList_storeM rfl 75 _ _ rfl w1.heap.size 0 rfl (ints G) rfl 75 (ints (gL 0 0 [] [] 0)) CC.out (by rw [HLG.out]; exact Nat.le_refl _) (by rw [HLG.out]; exact Try.sizeGrid) HLO.out ?_
               intro w3 hc3 ha3
               rw [lay'_all (by rw [HLG.out]; rfl)] at hc3
               have CC := Lib.hid hc3
               have BB : Hid (Below w.heap.size w w3) := Lib.hid (BB.out.trans (ha3.below B1.out.size))
               have MM := Lib.hid (MM.out.of_block (ha3.block _ (by omega)))
               obtain ⟨mc0, mc1, mc2, mc3, mc4, mc5⟩ := MM.out
               clear hc3 ha3)
            | (refine wpList_loadMG rfl (by rfl) 75 _ rfl w1.heap.size 0 rfl 75 (ints G) (ints G) CC.out (fun j _ => by rw [Nat.zero_add]) _ Try.underlying75 rfl (by rw [HLG.out]; exact Try.sizeGrid) ?_)
            | (go_at_call 84; (with_reducible refine (KW.out _).mono ?_); rintro e w4 ⟨rfl, hb4⟩; clear mc0 mc1 mc2 mc3 mc4 mc5; have CC := Lib.hid (CC.out.all hb4); have MM := Lib.hid (MM.out.below hb4); have BB : Hid (Below w.heap.size w w4) := Lib.hid (BB.out.trans (hb4.mono BB.out.size)); obtain ⟨mc0, mc1, mc2, mc3, mc4, mc5⟩ := MM.out; clear hb4)
            | (refine wpList_loadM rfl 75 _ rfl w1.heap.size 0 rfl 75 (ints G) (ints G) CC.out (fun j _ => by rw [Nat.zero_add]) _ Try.underlying75 rfl (by rw [HLG.out]; exact Try.sizeGrid) ?_))
        clear mc0 mc1 mc2 mc3 mc4 mc5
        refine (KTD.out _).mono ?_
        rintro e w5 ⟨rfl, hb5⟩
        have M5 := Lib.hid (MM.out.below hb5)
        have B5 := Lib.hid (BB.out.trans (hb5.mono BB.out.size))
        clear hb5
        go_wp2_with fail
        refine (KM.out _).mono ?_
        rintro e w6 ⟨v6, rfl, ho6, hb6⟩
        have M6 := Lib.hid (M5.out.below hb6)
        have B6 := Lib.hid (B5.out.trans (hb6.mono B5.out.size))
        have O6 := Lib.hid ho6
        have hz2 : w.heap.size + 1 < w5.heap.size := M5.out.lt
        obtain ⟨qa, qc, pa, pc, e3⟩ := ho6.read.form
        subst e3
        clear ho6 hb6
        obtain ⟨mc0, mc1, mc2, mc3, mc4, mc5⟩ := M6.out
        go_wp2
        clear mc0 mc1 mc2 mc3 mc4 mc5
        obtain ⟨o7, b7, m7⟩ := ans_put (m := tellM m a f) M6.out O6.out hz2 (by omega) (Nat.le_refl _) B6.out
        refine bodyPost_ret (results_mid2 Try.results33 _ _ (w.heap.size + 1) _ _ (.bool true) rfl rfl m7.range Try.underlying27 rfl Try.sizeMd) rfl ?_
        rw [HR'.out]
        exact ⟨_, rfl, o7, b7⟩

set_option maxRecDepth 100000 in
set_option maxHeartbeats 16000000 in
theorem specTell_any (lo hi : Nat) (v : Value) (m : Md) (a f : Int) (w : World) (hr : Mv lo hi w v m) (hhi : hi ≤ w.heap.size) :
    Calls Try.prog 32 #[v, .int .i64 a, .int .i64 f] w (MdAns2 w (tellR m a f)) := by
  have KS := Lib.hid (fun W (h : Below w.heap.size w W) => specOk_any lo hi v m W (hr.keeps (Keeps.of_all h)))
  have KC := Lib.hid (fun (hm : mdOk m = true) W (h : Below w.heap.size w W) => specCopy_any lo hi v m W (hr.keeps (Keeps.of_all h)) (Nat.le_trans hhi h.size) hm)
  have HR : Hid (tellR m a f = if mdOk m && inB a m.blocks.length && inB f 4 then some (tellM m a.toNat f.toNat) else none) := Lib.hid rfl
  generalize tellR m a f = R at *
  rw [specOk_mdOk] at KS
  obtain ⟨fv, bv, rfl, hf, hb⟩ := hr
  obtain ⟨fa, fc, rfl⟩ := hf.form
  obtain ⟨ba, bc, rfl, hbl, hbc, _⟩ := hb.parts
  unfold maxLen at hbc
  have HF := Lib.hid hf
  have HB := Lib.hid hb
  clear hf hb hhi
  cases hm : mdOk m with
  | false =>
    rw [hm] at KS HR
    have HR' : Hid (R = none) := Lib.hid (by rw [HR.out]; rfl)
    clear hm HR KC HF HB
    go_enter Try.func32, Try.ntmps32
    go_wp2_with fail
    refine (KS.out _ (by go_grown)).mono ?_
    rintro e w1 ⟨rfl, hb1⟩
    have X1 := Lib.hid (Mcell.below (b := w.heap.size) ((Mcell.new rfl).alloc _) hb1)
    have M1 := Lib.hid (Mcell.below (b := w.heap.size + 1) (Mcell.new (by simp)) hb1)
    have B1 : Hid (Below w.heap.size w w1) := Lib.hid (Below.trans (by go_grown) (hb1.mono (by simp; omega)))
    clear hb1
    obtain ⟨x1c0, x1c1, x1c2, x1c3, x1c4, x1c5⟩ := X1.out
    obtain ⟨m1c0, m1c1, m1c2, m1c3, m1c4, m1c5⟩ := M1.out
    go_wp2
    clear x1c0 x1c1 x1c2 x1c3 x1c4 x1c5 m1c0 m1c1 m1c2 m1c3 m1c4 m1c5
    have M6 := M1.out.write (.slice none 0 0) (.slice none 0 0) 0
    refine bodyPost_ret (results_mid2 Try.results32 _ _ (w.heap.size + 1) _ _ (.bool false) rfl rfl M6.range Try.underlying27 rfl Try.sizeMd) rfl ?_
    rw [HR'.out]
    exact ⟨_, rfl, Mo.none _ _ _, ((B1.out.setCell (by show _ ≤ w.heap.size + 1; omega) _).setCell (by show _ ≤ w.heap.size + 1; omega) _).setCell (by show _ ≤ w.heap.size + 1; omega) _⟩
  | true =>
    rw [hm] at KS HR
    cases ha : inB a m.blocks.length with
    | false =>
      rw [ha] at HR
      have HR' : Hid (R = none) := Lib.hid (by rw [HR.out]; rfl)
      have ha' := inB_not ha
      clear hm ha HR KC HF HB
      rcases ha' with ha' | ha'
      all_goals
        go_enter Try.func32, Try.ntmps32
        go_wp2_with fail
        refine (KS.out _ (by go_grown)).mono ?_
        rintro e w1 ⟨rfl, hb1⟩
        have X1 := Lib.hid (Mcell.below (b := w.heap.size) ((Mcell.new rfl).alloc _) hb1)
        have M1 := Lib.hid (Mcell.below (b := w.heap.size + 1) (Mcell.new (by simp)) hb1)
        have B1 : Hid (Below w.heap.size w w1) := Lib.hid (Below.trans (by go_grown) (hb1.mono (by simp; omega)))
        clear hb1
        obtain ⟨x1c0, x1c1, x1c2, x1c3, x1c4, x1c5⟩ := X1.out
        obtain ⟨m1c0, m1c1, m1c2, m1c3, m1c4, m1c5⟩ := M1.out
        go_wp2
        clear x1c0 x1c1 x1c2 x1c3 x1c4 x1c5 m1c0 m1c1 m1c2 m1c3 m1c4 m1c5
        have M6 := M1.out.write (.slice none 0 0) (.slice none 0 0) 0
        refine bodyPost_ret (results_mid2 Try.results32 _ _ (w.heap.size + 1) _ _ (.bool false) rfl rfl M6.range Try.underlying27 rfl Try.sizeMd) rfl ?_
        rw [HR'.out]
        exact ⟨_, rfl, Mo.none _ _ _, ((B1.out.setCell (by show _ ≤ w.heap.size + 1; omega) _).setCell (by show _ ≤ w.heap.size + 1; omega) _).setCell (by show _ ≤ w.heap.size + 1; omega) _⟩
    | true =>
      rw [ha] at HR
      obtain ⟨a0, a1⟩ := inB_parts ha
      cases hf : inB f 4 with
      | false =>
        rw [hf] at HR
        have HR' : Hid (R = none) := Lib.hid (by rw [HR.out]; rfl)
        have hf' := inB_not hf
        clear hm ha hf HR KC HF HB
        rcases hf' with hf' | hf'
        all_goals
          go_enter Try.func32, Try.ntmps32
          go_wp2_with fail
          refine (KS.out _ (by go_grown)).mono ?_
          rintro e w1 ⟨rfl, hb1⟩
          have X1 := Lib.hid (Mcell.below (b := w.heap.size) ((Mcell.new rfl).alloc _) hb1)
          have M1 := Lib.hid (Mcell.below (b := w.heap.size + 1) (Mcell.new (by simp)) hb1)
          have B1 : Hid (Below w.heap.size w w1) := Lib.hid (Below.trans (by go_grown) (hb1.mono (by simp; omega)))
          clear hb1
          obtain ⟨x1c0, x1c1, x1c2, x1c3, x1c4, x1c5⟩ := X1.out
          obtain ⟨m1c0, m1c1, m1c2, m1c3, m1c4, m1c5⟩ := M1.out
          go_wp2_with (go_at_call 81; (first | refine (inI_yes _ _ _ _ (by omega) (by omega)).mono ?_ | refine (inI_no _ _ _ _ (by omega)).mono ?_); rintro e w' ⟨rfl, rfl⟩)
          clear x1c0 x1c1 x1c2 x1c3 x1c4 x1c5 m1c0 m1c1 m1c2 m1c3 m1c4 m1c5
          have M6 := M1.out.write (.slice none 0 0) (.slice none 0 0) 0
          refine bodyPost_ret (results_mid2 Try.results32 _ _ (w.heap.size + 1) _ _ (.bool false) rfl rfl M6.range Try.underlying27 rfl Try.sizeMd) rfl ?_
          rw [HR'.out]
          exact ⟨_, rfl, Mo.none _ _ _, ((B1.out.setCell (by show _ ≤ w.heap.size + 1; omega) _).setCell (by show _ ≤ w.heap.size + 1; omega) _).setCell (by show _ ≤ w.heap.size + 1; omega) _⟩
      | true =>
        rw [hf] at HR
        have HR' : Hid (R = some (tellM m a.toNat f.toNat)) := Lib.hid (by rw [HR.out]; rfl)
        obtain ⟨f0, f1⟩ := inB_parts hf
        obtain ⟨p1, p2, p3, p4, p5, p6, p7, p8⟩ := mdOk_parts hm
        have KC' := Lib.hid (KC.out hm)
        clear HR ha hf hm KC p7 p8
        obtain ⟨a, rfl⟩ := Int.eq_ofNat_of_zero_le a0
        obtain ⟨f, rfl⟩ := Int.eq_ofNat_of_zero_le f0
        rw [Int.toNat_natCast, Int.toNat_natCast] at HR'
        have ha : a < m.blocks.length := by omega
        have hf : f < 4 := by omega
        obtain ⟨b0, o0, u0, e0, _, _, hlt0, c0, hu0⟩ := HB.out.row rfl a ha
        subst e0
        have hrl := (p5 a ha).1
        obtain ⟨ua, uc, e0⟩ := hu0.form
        subst e0
        obtain ⟨ub, uo, e0⟩ := hu0.addr (by omega)
        subst e0
        obtain ⟨fb, fo, e0⟩ := HF.out.addr (by omega)
        subst e0
        have HCF : Hid (∀ W, Below w.heap.size w W → ∀ j, j < m.facts.length → W.cell? ⟨fb, fo + j, none⟩ = some (.int .i64 (m.facts.getD j 0))) := Lib.hid (fun W hW j hj => by
          obtain ⟨b', o', e, hc⟩ := HF.out.at' hW j hj
          cases e; exact hc)
        have HCU : Hid (∀ W, Below w.heap.size w W → ∀ j, j < m.facts.length → W.cell? ⟨ub, uo + j, none⟩ = some (.int .i64 ((m.blocks.getD a []).getD j 0))) := Lib.hid (fun W hW j hj => by
          obtain ⟨b', o', e, hc⟩ := hu0.at' hW j (by omega)
          cases e; exact hc)
        have HC0 : Hid (∀ W, Below w.heap.size w W → W.cell? ⟨b0, o0 + a, none⟩ = some (.slice (some ⟨ub, uo, none⟩) (m.blocks.getD a []).length uc)) := Lib.hid (fun W hW => (hW.cell (p := ⟨b0, o0 + a, none⟩) hlt0).trans c0)
        rw [hrl] at HC0
        obtain ⟨ua', uc', e0, hul, hum, _⟩ := hu0.parts
        cases e0
        unfold maxLen at hum
        rw [hrl] at hul
        have HBD : Hid (∀ j, j < m.facts.length → 0 ≤ m.facts.getD j 0 ∧ m.facts.getD j 0 < 16 ∧ 0 ≤ (m.blocks.getD a []).getD j 0 ∧ (m.blocks.getD a []).getD j 0 < 16) := Lib.hid (fun j hj => by
          have h1 := p6 j hj
          have h2 := ord_bd (p5 a ha).2 (getD_mem (l := m.blocks.getD a []) (i := j) (by rw [(p5 a ha).1]; exact hj))
          rw [(p5 a ha).1] at h2
          omega)
        have HTK := Lib.hid (splitL_take m a f)
        have HNB : Hid ((splitL m a f).length = m.facts.length) := Lib.hid (splitL_len m a f)
        clear c0 hu0 HF HB p5 p6 hrl
        have hda : decide ((a : Int) < 0) = false := decide_eq_false (by omega)
        go_enter Try.func32, Try.ntmps32
        go_wp2_with fail
        refine (KS.out _ (by go_grown)).mono ?_
        rintro e w1 ⟨rfl, hb1⟩
        have X1 := Lib.hid (Mcell.below (b := w.heap.size) ((Mcell.new rfl).alloc _) hb1)
        have M1 := Lib.hid (Mcell.below (b := w.heap.size + 1) (Mcell.new (by simp)) hb1)
        have B1 : Hid (Below w.heap.size w w1) := Lib.hid (Below.trans (by go_grown) (hb1.mono (by simp; omega)))
        clear hb1
        obtain ⟨x1c0, x1c1, x1c2, x1c3, x1c4, x1c5⟩ := X1.out
        obtain ⟨m1c0, m1c1, m1c2, m1c3, m1c4, m1c5⟩ := M1.out
        go_wp2_with (go_at_call 81; (first | refine (inI_yes _ _ _ _ (by omega) (by omega)).mono ?_ | refine (inI_no _ _ _ _ (by omega)).mono ?_); rintro e w' ⟨rfl, rfl⟩)
        clear x1c0 x1c1 x1c2 x1c3 x1c4 x1c5 m1c0 m1c1 m1c2 m1c3 m1c4 m1c5
        refine (KC'.out _ B1.out).mono ?_
        rintro e w3 ⟨v3, rfl, ho3, hb3⟩
        have X3 := Lib.hid (X1.out.below hb3)
        have M3 := Lib.hid (M1.out.below hb3)
        have B3 := Lib.hid (B1.out.trans (hb3.mono B1.out.size))
        have O3 := Lib.hid ho3
        obtain ⟨qa, qc, pa, pc, e3⟩ := ho3.read.form
        subst e3
        have hz : w.heap.size + 1 < w3.heap.size := M3.out.lt
        have hz1 : w.heap.size + 1 < w1.heap.size := M1.out.lt
        have hz0 : w.heap.size < w3.heap.size := by omega
        have hw0 : w.heap.size ≤ w3.heap.size := by omega
        have hl0 : b0 < w3.heap.size := by omega
        have c0 := HC0.out _ B3.out
        clear ho3 hb3 X1 M1
        obtain ⟨x3c0, x3c1, x3c2, x3c3, x3c4, x3c5⟩ := X3.out
        go_wp2
        have hW : ((w3.alloc (.cells #[.slice qa m.facts.length qc, .slice pa m.blocks.length pc, .int .i64 m.actual] 27)).alloc (.cells #[] 3)).heap.size = w3.heap.size + 2 := by simp
        have d5 : Cm ((w3.alloc (.cells #[.slice qa m.facts.length qc, .slice pa m.blocks.length pc, .int .i64 m.actual] 27)).alloc (.cells #[] 3)) w3.heap.size 27 [.slice qa m.facts.length qc, .slice pa m.blocks.length pc, .int .i64 m.actual] := (Cm.new rfl).alloc _
        have l5 : World.ownsRow ((w3.alloc (.cells #[.slice qa m.facts.length qc, .slice pa m.blocks.length pc, .int .i64 m.actual] 27)).alloc (.cells #[] 3)) (w3.heap.size + 1) 3 1 (.slice (some ⟨w3.heap.size + 1, 0, none⟩) 0 0) 0 [] := by
          have h := World.ownsRow_lit (base := w3.heap.size + 1) (e := 3) (size := 1) (w3.alloc (.cells #[.slice qa m.facts.length qc, .slice pa m.blocks.length pc, .int .i64 m.actual] 27)) #[] 0 (by simp) (by decide) rfl
          simpa using h
        have hb5 : Below w3.heap.size w3 ((w3.alloc (.cells #[.slice qa m.facts.length qc, .slice pa m.blocks.length pc, .int .i64 m.actual] 27)).alloc (.cells #[] 3)) := by go_grown
        generalize (w3.alloc (.cells #[.slice qa m.facts.length qc, .slice pa m.blocks.length pc, .int .i64 m.actual] 27)).alloc (.cells #[] 3) = w5 at *
        have D5 := Lib.hid d5
        have X5 := Lib.hid (X3.out.below hb5)
        have M5 := Lib.hid (M3.out.below hb5)
        have B5 := Lib.hid (B3.out.trans (hb5.mono B3.out.size))
        have O5 := Lib.hid (O3.out.keeps (Keeps.of_all hb5))
        have hs5 : w3.heap.size + 1 < w5.heap.size := by omega
        clear x3c0 x3c1 x3c2 x3c3 x3c4 x3c5 c0 hW d5 hb5 X3 M3 B3 O3
        go_loopw [9, 41] (fun lv iv wr => ∃ (k : Nat) (lv' : Value), k ≤ m.facts.length ∧ iv = .int .i64 k ∧ lv' = lv ∧ Hid (wr.ownsRow (w3.heap.size + 1) 3 1 lv' k (ints ((splitL m a f).take k))) ∧ Hid (Below (w3.heap.size + 1) w5 wr)) (fun _ iv _ => m.facts.length - (intOf iv).toNat)
        case atStart => exact ⟨0, _, Nat.zero_le _, rfl, rfl, Lib.hid l5, Lib.hid (Below.refl _ _)⟩
        case round =>
          clear l5
          obtain ⟨k, lv, hk, rfl, rfl, LR, BR⟩ := hrel
          have hwr : w5.heap.size ≤ wr.heap.size := BR.out.size
          have XR := Lib.hid (X5.out.of_block (BR.out.block _ (by omega)))
          have BW : Hid (Below w.heap.size w wr) := Lib.hid (B5.out.trans (BR.out.mono (by omega)))
          by_cases hlt : k < m.facts.length
          · obtain ⟨x0, x1, y0, y1⟩ := HBD.out k hlt
            have HT := Lib.hid (HTK.out k hlt)
            have cf := HCF.out _ BW.out k hlt
            have cu := HCU.out _ BW.out k hlt
            generalize m.facts.getD k 0 = x at *
            generalize (m.blocks.getD a []).getD k 0 = y at *
            have hx2 := bitI_bd x f
            obtain ⟨z, hz⟩ : ∃ z, z = bitI x f := ⟨_, rfl⟩
            have KB := Lib.hid (fun W => l03Bit_any x f W x0 x1 hf)
            rw [← hz] at hx2 KB HT
            clear hz
            obtain ⟨z0, z1⟩ := hx2
            obtain ⟨xc0, xc1, xc2, _⟩ := XR.out
            have hlb : ∀ q, lv.ownBlock = some q → w3.heap.size + 1 ≤ q := fun q hq => (LR.out.lt q hq).1
            have HLB := Lib.hid hlb
            clear hlb
            go_wp2_with
              (first
                | (go_at_call 82; refine (KB.out _).mono ?_; rintro e w' ⟨rfl, rfl⟩)
                | (at_builtin; refine wpList_pushL rfl (.tmp 46) (.tmp 57) 22 58 rfl rfl 3 (.int .i64 0) 8 Try.underlying22 Try.infoI rfl (w3.heap.size + 1) (.int .i64 (2 * y + z)) lv k (ints ((splitL m a f).take k)) LR.out rfl wr.heap.size rfl rfl rfl (by unfold maxLen; omega) (by omega) (by omega) ?_; intro v6 w6 hown hg; have L6 := Lib.hid hown; have B6 : Hid (Below (w3.heap.size + 1) w5 w6) := Lib.hid (BR.out.trans (hg.below (by omega) HLB.out)); clear hown hg xc0 xc1 xc2 cf cu))
            go_roundw
            case rel =>
              refine ⟨k + 1, _, by omega, by go_num, rfl, Lib.hid ?_, B6⟩
              rw [HT.out, ints_app]
              exact L6.out
            case measure => simp [intOf]; omega
          · obtain ⟨k', hk'⟩ : ∃ x, x = k := ⟨_, rfl⟩
            subst hk'
            have DR := Lib.hid (D5.out.of_block (BR.out.block _ (by omega)))
            have MR := Lib.hid (M5.out.of_block (BR.out.block _ (by omega)))
            have LI : Hid (Io (w3.heap.size + 1) wr.heap.size wr lv (splitL m a f)) := Lib.hid (by
              have h := Ro.of_own LR.out
              rw [List.take_of_length_le (by rw [HNB.out]; omega)] at h
              exact h)
            have OR := Lib.hid (O5.out.keeps (hi := w3.heap.size) (lo := w1.heap.size) ⟨hwr, fun q _ h2 _ => BR.out.block q (by omega)⟩)
            have hsl : (splitL m a f).length ≤ 1048576 := by rw [HNB.out]; omega
            have HSL := Lib.hid hsl
            clear hsl LR XR
            go_wp2
            obtain ⟨qv, pv, vs, e5, OI, OO, OA⟩ := OR.out
            simp only [Value.agg.injEq] at e5
            have e6 := congrArg (fun x : Array Value => x.toList) e5
            simp only [List.cons.injEq, and_true] at e6
            obtain ⟨e6, e7⟩ := e6
            subst e6
            subst e7
            clear e5
            have hpa : ∃ pb, pa = some ⟨pb, 0, none⟩ := by
              rcases OO.1.1.2 with ⟨e, h0⟩ | ⟨g, c, cur, e, _⟩
              · have := OO.2.1.1; omega
              · simp only [Value.slice.injEq] at e; exact ⟨g, e.1⟩
            obtain ⟨pb, e5⟩ := hpa
            subst e5
            have hpb : pb < w3.heap.size := OO.1.2 pb rfl
            have hpb1 : w1.heap.size ≤ pb := (OO.1.1.lt pb rfl).1
            have OI := Lib.hid OI
            have OO := Lib.hid OO
            have OA := Lib.hid OA
            refine regionL (fun W => Below wr.heap.size wr W) [6] (by kernel_rfl) (Below.refl _ _).drew (fun hHeld => ?_)
            refine takeA (i := 0) (v := .pointer (some ⟨w3.heap.size, 1, none⟩)) 60 rfl rfl (by kernel_rfl) (by kernel_rfl) (by kernel_rfl) (by kernel_rfl) (fun _ _ _ h => h) (Or.inl ⟨by rfl, by intro W hSw; go_simp⟩) hHeld ?_
            simp only [Act.put, List.setIfInBounds_toArray, List.set_cons_zero, List.set_cons_succ]
            refine takeA (i := 2) (v := .int .i64 a) 62 rfl rfl (by kernel_rfl) (by kernel_rfl) (by kernel_rfl) (by kernel_rfl) (fun _ _ _ h => h) (Or.inl ⟨by rfl, by intro W hSw; go_simp⟩) hHeld ?_
            simp only [Act.put, List.setIfInBounds_toArray, List.set_cons_zero, List.set_cons_succ]
            refine takeA (i := 3) (v := lv) 63 rfl rfl (by kernel_rfl) (by kernel_rfl) (by kernel_rfl) (by kernel_rfl) (fun _ _ _ h => h) (Or.inl ⟨by rfl, by intro W hSw; go_simp⟩) hHeld ?_
            simp only [Act.put, List.setIfInBounds_toArray, List.set_cons_zero, List.set_cons_succ]
            refine takeA (i := 1) (v := .slice (some ⟨pb, 0, none⟩) m.blocks.length pc) 61 rfl rfl (by kernel_rfl) (by kernel_rfl) (by kernel_rfl) (by kernel_rfl) (fun _ _ _ h => h) (Or.inl ⟨by rfl, by intro W hSw; have d1 := (DR.out.all hSw).cell 1; simp only [List.getElem?_cons_succ, List.getElem?_cons_zero] at d1; go_simp⟩) hHeld ?_
            simp only [Act.put, List.setIfInBounds_toArray, List.set_cons_zero, List.set_cons_succ]
            refine onlyL (i := 4) (by kernel_rfl) rfl (by rfl) (fun K hK => ?_)
            go_simp
            refine (specNumber_any _ _ _ (splitL m a f) _ (LI.out.read.keeps (Keeps.of_all hHeld)) HSL.out).mono ?_
            rintro e w6 ⟨v6, rfl, ho6, hb6⟩
            have t6 : Below wr.heap.size wr w6 := hHeld.trans (hb6.mono (Nat.le_refl _))
            have U6 : Hid (Io wr.heap.size w6.heap.size w6 v6 (num (splitL m a f))) := Lib.hid ho6
            obtain ⟨na, nc, e6⟩ := ho6.form
            subst e6
            clear ho6 hb6 hHeld
            refine hK.out _ _ (fun _ => t6) (fun hHeld => ?_)
            have hHeld := hHeld (by decide)
            clear hK K
            try simp only [Act.put, List.setIfInBounds_toArray, List.set_cons_zero, List.set_cons_succ]
            have D6 := Lib.hid (DR.out.all t6)
            have M6 := Lib.hid (MR.out.below t6)
            have B6 := Lib.hid (BW.out.trans (t6.mono BW.out.size))
            have I6 := Lib.hid (OI.out.keeps (Keeps.of_all t6))
            have O6 := Lib.hid (OO.out.keeps (Keeps.of_all t6))
            have hs6 : wr.heap.size ≤ w6.heap.size := t6.size
            clear t6 DR MR BW OI OO LI
            have aI0 : (0 : Int) ≤ (a : Int) := Int.natCast_nonneg _
            refine takeA (i := 5) (v := .pointer (some ⟨pb, a, none⟩)) 65 rfl rfl (by kernel_rfl) (by kernel_rfl) (by kernel_rfl) (by kernel_rfl) (fun _ _ _ h => h) (Or.inl ⟨by rfl, by intro W hSw; go_simp⟩) hHeld ?_
            simp only [Act.put, List.setIfInBounds_toArray, List.set_cons_zero, List.set_cons_succ]
            refine onlyL (i := 6) (by kernel_rfl) rfl (by rfl) (fun K hK => ?_)
            obtain ⟨fpb, zpb, cpb⟩ := own_one (k := a) (n := m.blocks.length) (by have h := O6.out.1.1; rw [show vs.length = m.blocks.length from O6.out.2.1.1] at h; exact h) ha
            go_simp
            refine hK.out _ _ (fun h => absurd (by decide) h) (fun _ => ?_)
            clear hK K hHeld fpb cpb
            refine doneL (by kernel_rfl) ?_ _
            obtain ⟨P7, G7⟩ := Ioo.put (h2 := w6.heap.size) O6.out (Ro.wide U6.out (by omega) (Nat.le_refl _)) ha (by omega)
            have hpne : ∀ q, q ≠ pb → (w6.setCell ⟨pb, a, none⟩ (.slice na (num (splitL m a f)).length nc)).heap[q]? = w6.heap[q]? := fun q hq => heap_setCell_other w6 ⟨pb, a, none⟩ q _ hq
            have D7 := Lib.hid (D6.out.of_block (hpne _ (by omega)))
            have M7 := Lib.hid (M6.out.of_block (hpne _ (by omega)))
            have B7 : Hid (Below w.heap.size w (w6.setCell ⟨pb, a, none⟩ (.slice na (num (splitL m a f)).length nc))) := Lib.hid (B6.out.setCell (by show _ ≤ pb; omega) _)
            have hI7 : Io w1.heap.size w3.heap.size (w6.setCell ⟨pb, a, none⟩ (.slice na (num (splitL m a f)).length nc)) (.slice qa m.facts.length qc) m.facts := Ro.keptBy I6.out G7 (OA.out _ (List.mem_cons_self ..))
            have hlw : vs.length = m.blocks.length := O6.out.2.1.1
            have hO7 : Mo w1.heap.size w6.heap.size (w6.setCell ⟨pb, a, none⟩ (.slice na (num (splitL m a f)).length nc)) (.agg #[.slice qa m.facts.length qc, .slice (some ⟨pb, 0, none⟩) m.blocks.length pc, .int .i64 (tellM m a f).actual]) (tellM m a f) := by
              refine ⟨_, _, vs.set a (.slice na (num (splitL m a f)).length nc), rfl, Ro.wide hI7 (Nat.le_refl _) (by omega), P7, fun u hu => ?_⟩
              rcases List.mem_cons.1 hu with rfl | hu
              · exact OA.out _ (List.mem_cons_self ..)
              · rcases List.mem_or_eq_of_mem_set hu with hu | rfl
                · exact OA.out _ (List.mem_cons_of_mem _ hu)
                · exact apart_lt (B := wr.heap.size) (fun q hq => by have := I6.out.2 q hq; omega) (fun q hq => (U6.out.1.lt q hq).1)
            have hsz7 : w6.heap.size ≤ (w6.setCell ⟨pb, a, none⟩ (.slice na (num (splitL m a f)).length nc)).heap.size := by simp [World.setCell]
            generalize w6.setCell ⟨pb, a, none⟩ (.slice na (num (splitL m a f)).length nc) = w7 at *
            have HO7 := Lib.hid hO7
            clear P7 G7 hpne hI7 hO7 D6 M6 B6 I6 O6
            obtain ⟨mc0, mc1, mc2, mc3, mc4, mc5⟩ := M7.out
            go_wp2_with (refine wpList_loadM rfl 27 _ rfl w3.heap.size 0 rfl 27 _ [.slice qa m.facts.length qc, .slice (some ⟨pb, 0, none⟩) m.blocks.length pc, .int .i64 m.actual] D7.out (fun j _ => by rw [Nat.zero_add]) _ Try.underlying27 rfl Try.sizeMd ?_)
            clear mc0 mc1 mc2 mc3 mc4 mc5
            obtain ⟨o8, b8, m8⟩ := ans_put (m := tellM m a f) M7.out HO7.out hz1 (by omega) hsz7 B7.out
            refine bodyPost_ret (results_mid2 Try.results32 _ _ (w.heap.size + 1) _ _ (.bool true) rfl rfl m8.range Try.underlying27 rfl Try.sizeMd) rfl ?_
            rw [HR'.out]
            exact ⟨_, rfl, o8, b8⟩
end Go.Proofs.Ytegmoojjffkacaa
