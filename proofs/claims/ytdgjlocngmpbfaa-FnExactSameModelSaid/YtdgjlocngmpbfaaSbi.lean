/-
  Contract of impl.SameBlock; the walk of the law FnExactSameBlock: it returns true and writes nothing that was there. No condition.
-/
import Derived.Test.YtdgjlocngmpbfaaSbl
import Derived.Test.YtdgjlocngmpbfaaLawM
namespace Go.Proofs.Ytdgjlocngmpbfaa
open Go.RowKit Go.WideShapes
open Go Go.Deep

/-- guarded: a struct or an array is read out of a block of one's own -/
theorem wpList_loadMG {P : Program} {ops : Array Oper} {rest : List Oper} {o : Oper} {a : Act} {w : World} {Q : Exit → Act → World → Prop} {g : Nat × Bool} (hg : o.guard = some g) (hw : Region.wanted o (yielded ops a.tmps) = true) (ty : TypeId) (x : Operand) (ho : o.op = .load ty x)
    (b off : Nat) (hx : a.eval x = .pointer (some ⟨b, off, none⟩)) (B : TypeId) (cs ds : List Value) (hc : Cm w b B cs) (hd : ∀ j, j < ds.length → cs[off + j]? = ds[j]?)
    (d : TypeDesc) (hu : P.underlying ty = some d) (hr : d.isRow = true) (hi : (P.info? ty).map (·.size) = some ds.length)
    (h : wpList P ops Q rest (a.put o.dst (.agg ds.toArray)) w) : wpList P ops Q (o :: rest) a w :=
  wpList_wanted hg hw fun _ hK => wp_load_mid ty x ho b off hx ds d (hc.range off ds hd) hu hr hi (hK _ _ h)

set_option maxRecDepth 100000 in
set_option maxHeartbeats 8000000 in
theorem implSame_any (lo hi : Nat) (v : Value) (m : Md) (a i j : Int) (w : World) (hr : Mv lo hi w v m) (hhi : hi ≤ w.heap.size) :
    Calls Try.prog 21 #[v, .int .i64 a, .int .i64 i, .int .i64 j] w fun e w' => e = .returned (.bool (sameB m a i j)) ∧ Below w.heap.size w w' := by
  have KG := Lib.hid (fun W (h : Below w.heap.size w W) => gridOf_any lo hi v m W (hr.keeps (Keeps.of_all h)) (Nat.le_trans hhi h.size))
  have HR : Hid (sameB m a i j = (specOk m && inB a m.blocks.length && inB i m.facts.length && inB j m.facts.length && decide ((m.blocks.getD a.toNat []).getD i.toNat 0 = (m.blocks.getD a.toNat []).getD j.toNat 0))) := Lib.hid rfl
  generalize sameB m a i j = R at *
  rw [specOk_mdOk] at HR
  obtain ⟨fv, bv, rfl, hf, hb⟩ := hr
  clear hf hb hhi
  cases hm : mdOk m with
  | false =>
    simp only [hm, Bool.false_eq_true, if_false] at KG
    have HR' : Hid (R = false) := Lib.hid (by rw [HR.out, hm]; rfl)
    clear HR hm
    unfold GdAns at KG
    simp only [Option.getD_none, Option.isSome_none] at KG
    have HLG : Hid ((ints (gL 0 0 [] [] 0)).length = 67) := Lib.hid rfl
    have HLO := Lib.hid (fun v (hv : v ∈ ints (gL 0 0 [] [] 0)) => ints_one hv)
    obtain ⟨G, hG⟩ : ∃ G, G = gL 0 0 [] [] 0 := ⟨_, rfl⟩
    have HAL := Lib.hid Try.allocGrid
    rw [← hG] at KG HLG HLO HAL
    clear hG
    go_enter Try.func21, Try.ntmps21
    go_wp2_with fail
    refine (KG.out _ (by go_grown)).mono ?_
    rintro e w1 ⟨rfl, hb1⟩
    have B1 : Hid (Below w.heap.size w w1) := Lib.hid (Below.trans (by go_grown) (hb1.mono (by simp)))
    clear hb1
    go_wp2_with
      (refine wpList_allocM rfl 62 rfl (ints G) HAL.out ?_
       intro w2 hc2 hb2 hs2
       have C2 := Lib.hid hc2
       have B2 := Lib.hid (B1.out.trans (hb2.mono B1.out.size))
       clear hc2 hb2 hs2
       go_wp2_with
         (refine wpList_storeM rfl 62 _ _ rfl w1.heap.size 0 rfl (ints G) rfl 62 _ C2.out (by rw [HLG.out]; exact Nat.le_refl _) (by rw [HLG.out]; exact Try.sizeGrid) HLO.out ?_
          intro w3 hc3 ha3
          have B3 : Hid (Below w.heap.size w w3) := Lib.hid (B2.out.trans (ha3.below B1.out.size))
          clear hc3 ha3
          go_wp2_with fail
          go_ret
          exact ⟨ret_bool HR'.out.symm, B3.out⟩))
  | true =>
    simp only [hm, if_true] at KG
    have hs := md_small hm
    have HP := Lib.hid (mdOk_parts hm)
    rw [hm] at HR
    clear hm
    unfold GdAns at KG
    simp only [Option.getD_some, Option.isSome_some] at KG
    unfold gOf at KG
    have HLG : Hid ((ints (gL m.facts.length m.blocks.length m.facts m.blocks m.actual)).length = 67) := Lib.hid (by rw [ints_len]; exact gL_len hs)
    have HLO := Lib.hid (fun v (hv : v ∈ ints (gL m.facts.length m.blocks.length m.facts m.blocks m.actual)) => ints_one hv)
    have KA := Lib.hid (fun W => hasAgent_any m.facts.length m.blocks.length m.actual m.facts m.blocks a W)
    have KI := Lib.hid (fun W => hasWorld_any m.facts.length m.blocks.length m.actual m.facts m.blocks i W)
    have KJ := Lib.hid (fun W => hasWorld_any m.facts.length m.blocks.length m.actual m.facts m.blocks j W)
    have KC := Lib.hid (fun k i j hk hi hj W => confuses_any m.facts.length m.blocks.length m.actual m.facts m.blocks hs k i j hk hi hj W)
    generalize gL m.facts.length m.blocks.length m.facts m.blocks m.actual = G at *
    clear hs
    cases ha : inB a m.blocks.length with
    | false =>
      rw [ha] at KA HR
      have HR' : Hid (R = false) := Lib.hid (by rw [HR.out]; simp)
      clear HR ha KI KJ KC HP
      go_enter Try.func21, Try.ntmps21
      go_wp2_with fail
      refine (KG.out _ (by go_grown)).mono ?_
      rintro e w1 ⟨rfl, hb1⟩
      have B1 : Hid (Below w.heap.size w w1) := Lib.hid (Below.trans (by go_grown) (hb1.mono (by simp)))
      clear hb1
      go_wp2_with
        (refine wpList_allocM rfl 62 rfl (ints (gL 0 0 [] [] 0)) Try.allocGrid ?_
         intro w2 hc2 hb2 hs2
         have C2 := Lib.hid hc2
         have B2 := Lib.hid (B1.out.trans (hb2.mono B1.out.size))
         clear hc2 hb2 hs2
         go_wp2_with
           (refine wpList_storeM rfl 62 _ _ rfl w1.heap.size 0 rfl (ints G) rfl 62 _ C2.out (by rw [HLG.out]; exact Nat.le_refl _) (by rw [HLG.out]; exact Try.sizeGrid) HLO.out ?_
            intro w3 hc3 ha3
            rw [lay'_all (by rw [HLG.out]; rfl)] at hc3
            have CC := Lib.hid hc3
            have BB : Hid (Below w.heap.size w w3) := Lib.hid (B2.out.trans (ha3.below B1.out.size))
            clear hc3 ha3 C2 B2
            go_wp2_with
                (first
                   | (refine wpList_loadMG rfl (by rfl) 62 _ rfl w1.heap.size 0 rfl 62 (ints G) (ints G) CC.out (fun j _ => by rw [Nat.zero_add]) _ Try.underlying62 rfl (by rw [HLG.out]; exact Try.sizeGrid) ?_)
                   | (go_at_call 57; (with_reducible refine (KA.out _).mono ?_); rintro e w4 ⟨rfl, hb4⟩; have CC := Lib.hid (CC.out.all hb4); have BB : Hid (Below w.heap.size w w4) := Lib.hid (BB.out.trans (hb4.mono BB.out.size)); clear hb4))
            go_ret
            exact ⟨ret_bool HR'.out.symm, BB.out⟩))
    | true =>
      rw [ha] at KA HR
      cases hi : inB i m.facts.length with
      | false =>
        rw [hi] at KI HR
        have HR' : Hid (R = false) := Lib.hid (by rw [HR.out]; simp)
        clear HR ha hi KJ KC HP
        go_enter Try.func21, Try.ntmps21
        go_wp2_with fail
        refine (KG.out _ (by go_grown)).mono ?_
        rintro e w1 ⟨rfl, hb1⟩
        have B1 : Hid (Below w.heap.size w w1) := Lib.hid (Below.trans (by go_grown) (hb1.mono (by simp)))
        clear hb1
        go_wp2_with
          (refine wpList_allocM rfl 62 rfl (ints (gL 0 0 [] [] 0)) Try.allocGrid ?_
           intro w2 hc2 hb2 hs2
           have C2 := Lib.hid hc2
           have B2 := Lib.hid (B1.out.trans (hb2.mono B1.out.size))
           clear hc2 hb2 hs2
           go_wp2_with
             (refine wpList_storeM rfl 62 _ _ rfl w1.heap.size 0 rfl (ints G) rfl 62 _ C2.out (by rw [HLG.out]; exact Nat.le_refl _) (by rw [HLG.out]; exact Try.sizeGrid) HLO.out ?_
              intro w3 hc3 ha3
              rw [lay'_all (by rw [HLG.out]; rfl)] at hc3
              have CC := Lib.hid hc3
              have BB : Hid (Below w.heap.size w w3) := Lib.hid (B2.out.trans (ha3.below B1.out.size))
              clear hc3 ha3 C2 B2
              go_wp2_with
                  (first
                     | (refine wpList_loadMG rfl (by rfl) 62 _ rfl w1.heap.size 0 rfl 62 (ints G) (ints G) CC.out (fun j _ => by rw [Nat.zero_add]) _ Try.underlying62 rfl (by rw [HLG.out]; exact Try.sizeGrid) ?_)
                     | (go_at_call 57; (with_reducible refine (KA.out _).mono ?_); rintro e w4 ⟨rfl, hb4⟩; have CC := Lib.hid (CC.out.all hb4); have BB : Hid (Below w.heap.size w w4) := Lib.hid (BB.out.trans (hb4.mono BB.out.size)); clear hb4)
                     | (go_at_call 52; (with_reducible refine (KI.out _).mono ?_); rintro e w4 ⟨rfl, hb4⟩; have CC := Lib.hid (CC.out.all hb4); have BB : Hid (Below w.heap.size w w4) := Lib.hid (BB.out.trans (hb4.mono BB.out.size)); clear hb4))
              go_ret
              exact ⟨ret_bool HR'.out.symm, BB.out⟩))
      | true =>
        rw [hi] at KI HR
        cases hj : inB j m.facts.length with
        | false =>
          rw [hj] at KJ HR
          have HR' : Hid (R = false) := Lib.hid (by rw [HR.out]; simp)
          clear HR ha hi hj KC HP
          go_enter Try.func21, Try.ntmps21
          go_wp2_with fail
          refine (KG.out _ (by go_grown)).mono ?_
          rintro e w1 ⟨rfl, hb1⟩
          have B1 : Hid (Below w.heap.size w w1) := Lib.hid (Below.trans (by go_grown) (hb1.mono (by simp)))
          clear hb1
          go_wp2_with
            (refine wpList_allocM rfl 62 rfl (ints (gL 0 0 [] [] 0)) Try.allocGrid ?_
             intro w2 hc2 hb2 hs2
             have C2 := Lib.hid hc2
             have B2 := Lib.hid (B1.out.trans (hb2.mono B1.out.size))
             clear hc2 hb2 hs2
             go_wp2_with
               (refine wpList_storeM rfl 62 _ _ rfl w1.heap.size 0 rfl (ints G) rfl 62 _ C2.out (by rw [HLG.out]; exact Nat.le_refl _) (by rw [HLG.out]; exact Try.sizeGrid) HLO.out ?_
                intro w3 hc3 ha3
                rw [lay'_all (by rw [HLG.out]; rfl)] at hc3
                have CC := Lib.hid hc3
                have BB : Hid (Below w.heap.size w w3) := Lib.hid (B2.out.trans (ha3.below B1.out.size))
                clear hc3 ha3 C2 B2
                go_wp2_with
                    (first
                       | (refine wpList_loadMG rfl (by rfl) 62 _ rfl w1.heap.size 0 rfl 62 (ints G) (ints G) CC.out (fun j _ => by rw [Nat.zero_add]) _ Try.underlying62 rfl (by rw [HLG.out]; exact Try.sizeGrid) ?_)
                       | (go_at_call 57; (with_reducible refine (KA.out _).mono ?_); rintro e w4 ⟨rfl, hb4⟩; have CC := Lib.hid (CC.out.all hb4); have BB : Hid (Below w.heap.size w w4) := Lib.hid (BB.out.trans (hb4.mono BB.out.size)); clear hb4)
                       | (go_at_call 52; (with_reducible refine (KI.out _).mono ?_); rintro e w4 ⟨rfl, hb4⟩; have CC := Lib.hid (CC.out.all hb4); have BB : Hid (Below w.heap.size w w4) := Lib.hid (BB.out.trans (hb4.mono BB.out.size)); clear hb4)
                       | (go_at_call 52; (with_reducible refine (KJ.out _).mono ?_); rintro e w4 ⟨rfl, hb4⟩; have CC := Lib.hid (CC.out.all hb4); have BB : Hid (Below w.heap.size w w4) := Lib.hid (BB.out.trans (hb4.mono BB.out.size)); clear hb4))
                go_ret
                exact ⟨ret_bool HR'.out.symm, BB.out⟩))
        | true =>
          rw [hj] at KJ HR
          obtain ⟨a0, a1⟩ : 0 ≤ a ∧ a < m.blocks.length := of_decide_eq_true ha
          obtain ⟨i0, i1⟩ : 0 ≤ i ∧ i < m.facts.length := of_decide_eq_true hi
          obtain ⟨j0, j1⟩ : 0 ≤ j ∧ j < m.facts.length := of_decide_eq_true hj
          obtain ⟨a, rfl⟩ := Int.eq_ofNat_of_zero_le a0
          obtain ⟨i, rfl⟩ := Int.eq_ofNat_of_zero_le i0
          obtain ⟨j, rfl⟩ := Int.eq_ofNat_of_zero_le j0
          have HR1 : Hid (R = decide ((m.blocks.getD a []).getD i 0 = (m.blocks.getD a []).getD j 0)) := Lib.hid (by rw [HR.out]; simp)
          have KC := Lib.hid (KC.out a i j (by have := HP.out.2.2.2.1; omega) (by have := HP.out.2.1; omega) (by have := HP.out.2.1; omega))
          have HX : Hid (((m.blocks.getD a []).getD i 0 == (m.blocks.getD a []).getD j 0) = R) := Lib.hid (by rw [HR1.out, Bool.eq_iff_iff]; simp)
          clear HR HR1 ha hi hj HP
          simp only [HX.out] at KC
          clear HX
          go_enter Try.func21, Try.ntmps21
          go_wp2_with fail
          refine (KG.out _ (by go_grown)).mono ?_
          rintro e w1 ⟨rfl, hb1⟩
          have B1 : Hid (Below w.heap.size w w1) := Lib.hid (Below.trans (by go_grown) (hb1.mono (by simp)))
          clear hb1
          go_wp2_with
            (refine wpList_allocM rfl 62 rfl (ints (gL 0 0 [] [] 0)) Try.allocGrid ?_
             intro w2 hc2 hb2 hs2
             have C2 := Lib.hid hc2
             have B2 := Lib.hid (B1.out.trans (hb2.mono B1.out.size))
             clear hc2 hb2 hs2
             go_wp2_with
               (refine wpList_storeM rfl 62 _ _ rfl w1.heap.size 0 rfl (ints G) rfl 62 _ C2.out (by rw [HLG.out]; exact Nat.le_refl _) (by rw [HLG.out]; exact Try.sizeGrid) HLO.out ?_
                intro w3 hc3 ha3
                rw [lay'_all (by rw [HLG.out]; rfl)] at hc3
                have CC := Lib.hid hc3
                have BB : Hid (Below w.heap.size w w3) := Lib.hid (B2.out.trans (ha3.below B1.out.size))
                clear hc3 ha3 C2 B2
                go_wp2_with
                    (first
                       | (refine wpList_loadMG rfl (by rfl) 62 _ rfl w1.heap.size 0 rfl 62 (ints G) (ints G) CC.out (fun j _ => by rw [Nat.zero_add]) _ Try.underlying62 rfl (by rw [HLG.out]; exact Try.sizeGrid) ?_)
                       | (go_at_call 57; (with_reducible refine (KA.out _).mono ?_); rintro e w4 ⟨rfl, hb4⟩; have CC := Lib.hid (CC.out.all hb4); have BB : Hid (Below w.heap.size w w4) := Lib.hid (BB.out.trans (hb4.mono BB.out.size)); clear hb4)
                       | (go_at_call 52; (with_reducible refine (KI.out _).mono ?_); rintro e w4 ⟨rfl, hb4⟩; have CC := Lib.hid (CC.out.all hb4); have BB : Hid (Below w.heap.size w w4) := Lib.hid (BB.out.trans (hb4.mono BB.out.size)); clear hb4)
                       | (go_at_call 52; (with_reducible refine (KJ.out _).mono ?_); rintro e w4 ⟨rfl, hb4⟩; have CC := Lib.hid (CC.out.all hb4); have BB : Hid (Below w.heap.size w w4) := Lib.hid (BB.out.trans (hb4.mono BB.out.size)); clear hb4)
                       | (go_at_call 58; (with_reducible refine (KC.out _).mono ?_); rintro e w4 ⟨rfl, hb4⟩; have CC := Lib.hid (CC.out.all hb4); have BB : Hid (Below w.heap.size w w4) := Lib.hid (BB.out.trans (hb4.mono BB.out.size)); clear hb4))
                go_ret
                exact ⟨ret_bool (by simp), BB.out⟩))
set_option maxRecDepth 100000 in
set_option maxHeartbeats 8000000 in
theorem walk_FnExactSameBlock (v0 : Value) (m : Md) (a i j : Int) (w : World) (h0 : Mv 0 w.heap.size w v0 m) (_w1 : (Lit.int .i64 a).wf = true) (_w2 : (Lit.int .i64 i).wf = true) (_w3 : (Lit.int .i64 j).wf = true) :
    Calls Try.prog 7 #[v0, .int .i64 a, .int .i64 i, .int .i64 j] w fun e w' => e = .returned (.bool true) ∧ Below w.heap.size w w' := by
  have KZ := Lib.hid (fun W (h : Below w.heap.size w W) => szModel_any 0 w.heap.size v0 m W (h0.keeps (Keeps.of_all h)))
  have KT := Lib.hid (fun W (h : Below w.heap.size w W) => toModel_any 0 w.heap.size v0 m W (h0.keeps (Keeps.of_all h)) h.size)
  obtain ⟨fv, bv, rfl, hf, hb⟩ := h0
  clear hf hb _w1 _w2 _w3
  by_cases hbig : 1048576 < msize m + m.blocks.length
  · rw [budget_big hbig] at KZ
    clear KT hbig
    go_enter Try.func7, Try.ntmps7
    go_wp2_with fail
    refine (KZ.out _ (by go_grown)).mono ?_
    rintro e w1 ⟨rfl, hb1⟩
    have B1 : Hid (Below w.heap.size w w1) := Lib.hid (Below.trans (by go_grown) (hb1.mono (by simp)))
    clear hb1
    go_wp2
    go_ret
    exact ⟨rfl, B1.out⟩
  have hsm : msize m + m.blocks.length ≤ 1048576 := by omega
  rw [budget_small hsm] at KZ
  have hbn : (0 : Int) ≤ 1048576 - ((msize m + m.blocks.length : Nat) : Int) := by omega
  have HSM := Lib.hid hsm
  generalize (1048576 : Int) - ((msize m + m.blocks.length : Nat) : Int) = left at *
  have KS := Lib.hid (fun lo hi v W h => specSame_any lo hi v m a i j W h)
  have KI := Lib.hid (fun lo hi v W h hh => implSame_any lo hi v m a i j W h hh)
  have KE := Lib.hid (fun lo hi lo' hi' u v W h h' => eqModel_same lo hi lo' hi' u v m W h h')
  clear hbig hsm
  generalize sameB m a i j = ok at *
  go_enter Try.func7, Try.ntmps7
  go_wp2_with fail
  refine (KZ.out _ (by go_grown)).mono ?_
  rintro e w1 ⟨rfl, hb1⟩
  have B1 : Hid (Below w.heap.size w w1) := Lib.hid (Below.trans (by go_grown) (hb1.mono (by simp)))
  have A1 := Lib.hid (Mcell.below (b := w.heap.size) (Mcell.new rfl) hb1)
  clear hb1
  obtain ⟨a0, a1, a2, _⟩ := A1.out
  go_wp2_with fail
  refine (KT.out _ B1.out HSM.out).mono ?_
  rintro e w2 ⟨v2, rfl, hi2, hb2⟩
  have M2 := Lib.hid hi2.read
  have A2 := Lib.hid (A1.out.below hb2)
  have B2 := Lib.hid (B1.out.trans (hb2.mono B1.out.size))
  clear hi2 hb2 a0 a1 a2
  go_wp2_with fail
  refine (KS.out _ _ _ _ M2.out).mono ?_
  rintro e w3 ⟨rfl, hb3⟩
  have A3 := Lib.hid (A2.out.below hb3)
  have B3 := Lib.hid (B2.out.trans (hb3.mono B2.out.size))
  clear hb3 M2
  obtain ⟨a0, a1, a2, _⟩ := A3.out
  go_wp2_with fail
  refine (KT.out _ B3.out HSM.out).mono ?_
  rintro e w4 ⟨v4, rfl, hi4, hb4⟩
  have X4 := Lib.hid hi4.read
  have A4 := Lib.hid (A3.out.below hb4)
  have B4 := Lib.hid (B3.out.trans (hb4.mono B3.out.size))
  clear hi4 hb4 a0 a1 a2
  obtain ⟨fa, fc, ba, bc, e4⟩ := X4.out.form
  subst e4
  go_wp2_with fail
  have Y5 := Lib.hid (Mcell.new (w := w4) (T := 26) (b := w4.heap.size) (fv := .slice fa m.facts.length fc) (bv := .slice ba m.blocks.length bc) (n := m.actual) rfl)
  have B5' : Below w4.heap.size w4 (w4.alloc (.cells #[.slice fa m.facts.length fc, .slice ba m.blocks.length bc, .int .i64 m.actual] 26)) := by go_grown
  have X5 := Lib.hid (X4.out.keeps (Keeps.of_all B5'))
  have A5 := Lib.hid (A4.out.below B5')
  have B5 := Lib.hid (B4.out.trans (B5'.mono B4.out.size))
  have hs5 : w4.heap.size ≤ (w4.alloc (.cells #[.slice fa m.facts.length fc, .slice ba m.blocks.length bc, .int .i64 m.actual] 26)).heap.size := B5'.size
  clear B5'
  refine (KI.out _ _ _ _ X5.out hs5).mono ?_
  rintro e w6 ⟨rfl, hb6⟩
  have X6 := Lib.hid (X5.out.keeps (Keeps.of_all hb6))
  have A6 := Lib.hid (A5.out.below hb6)
  have Y6 := Lib.hid (Y5.out.below hb6)
  have B6 := Lib.hid (B5.out.trans (hb6.mono B5.out.size))
  clear hb6 hs5 X5 Y5 A5
  go_wp2
  refine wp_region_held_drew (S := fun w' => Below w6.heap.size w6 w') (by kernel_rfl) (Below.refl _ _).drew (fun hHeld => ?_)
  refine wpAnyH_take (i := 0) (v := .agg #[.slice fa m.facts.length fc, .slice ba m.blocks.length bc, .int .i64 m.actual]) rfl (by kernel_rfl) (by kernel_rfl) (by kernel_rfl) (fun _ _ _ h => h) (Or.inl ⟨by rfl, by intro W hSw; obtain ⟨c0, c1, c2, _⟩ := Y6.out.below hSw; go_simp⟩) hHeld ?_
  simp only [Act.put]
  refine wpAnyH_take (i := 1) (v := .agg #[fv, bv, .int .i64 m.actual]) rfl (by kernel_rfl) (by kernel_rfl) (by kernel_rfl) (fun _ _ _ h => h) (Or.inl ⟨by rfl, by intro W hSw; obtain ⟨c0, c1, c2, _⟩ := A6.out.below hSw; go_simp⟩) hHeld ?_
  simp only [Act.put]
  refine wpAnyH_ready (rs := [2]) (by kernel_rfl) (by simp) ?_
  refine AllReadyH.cons rfl (fun K hK => ?_) AllReadyH.nil
  go_simp
  refine (KT.out _ (B6.out.trans (hHeld.mono B6.out.size)) HSM.out).mono ?_
  rintro e w7 ⟨v7, rfl, hi7, hb7⟩
  have hB7 : Below w6.heap.size w6 w7 := hHeld.trans (hb7.mono hHeld.size)
  have M7 := Lib.hid hi7.read
  clear hi7 hb7 hHeld
  refine hK.out _ _ hB7 (fun hHeld => ?_)
  clear hK K
  refine wpAnyH_ready (rs := [3]) (by kernel_rfl) (by simp) ?_
  refine AllReadyH.cons rfl (fun K hK => ?_) AllReadyH.nil
  go_simp
  refine (KE.out _ _ _ _ _ _ _ (X6.out.keeps (Keeps.of_all hB7)) M7.out).mono ?_
  rintro e w8 ⟨rfl, hb8⟩
  have hB8 : Below w6.heap.size w6 w8 := hB7.trans (hb8.mono hB7.size)
  clear hB7 hb8 hHeld
  refine hK.out _ _ hB8 (fun hHeld => ?_)
  clear hK K
  refine wpAnyH_take (i := 4) (v := .bool false) rfl (by kernel_rfl) (by kernel_rfl) (by kernel_rfl) (fun _ _ _ h => h) (Or.inl ⟨by rfl, by intro w hSw; go_simp⟩) hHeld ?_
  simp only [Act.put]
  refine wpAnyH_done (by kernel_rfl) ?_ _
  have B8 := Lib.hid (B6.out.trans (hB8.mono B6.out.size))
  clear hB8 hHeld
  go_wp2
  go_ret
  exact ⟨rfl, B8.out⟩

end Go.Proofs.Ytdgjlocngmpbfaa
