/-
  Contract of impl.SameBlock; the walk of the law FnExactSameBlock: it returns true and writes nothing that was there. No condition.
-/
import Derived.Test.YtegmoojjffkacaaSbl
import Derived.Test.YtegmoojjffkacaaLawM
namespace Go.Proofs.Ytegmoojjffkacaa
open Go.RowKit Go.WideShapes
open Go Go.Deep

/-- guarded: a struct or an array is read out of a block of one's own -/
theorem wpList_loadMG {P : Program} {ops : Array Oper} {rest : List Oper} {o : Oper} {a : Act} {w : World} {Q : Exit → Act → World → Prop} {g : Nat × Bool} (hg : o.guard = some g) (hw : Region.wanted o (yielded ops a.tmps) = true) (ty : TypeId) (x : Operand) (ho : o.op = .load ty x)
    (b off : Nat) (hx : a.eval x = .pointer (some ⟨b, off, none⟩)) (B : TypeId) (cs ds : List Value) (hc : Cm w b B cs) (hd : ∀ j, j < ds.length → cs[off + j]? = ds[j]?)
    (d : TypeDesc) (hu : P.underlying ty = some d) (hr : d.isRow = true) (hi : (P.info? ty).map (·.size) = some ds.length)
    (h : wpList P ops Q rest (a.put o.dst (.agg ds.toArray)) w) : wpList P ops Q (o :: rest) a w :=
  wpList_wanted hg hw fun _ hK => wp_load_mid ty x ho b off hx ds d (hc.range off ds hd) hu hr hi (hK _ _ h)

set_option maxRecDepth 100000 in
set_option maxHeartbeats 8000000 in
theorem implSame_any (lo hi : Nat) (v : Value) (m : Md) (a i j : Int) (w : World) (hr : Mv lo hi w v m) (hhi : hi ≤ w.heap.size) :
    Calls Try.prog 39 #[v, .int .i64 a, .int .i64 i, .int .i64 j] w fun e w' => e = .returned (.bool (sameB m a i j)) ∧ Below w.heap.size w w' := by
  have KG := Lib.hid (fun W (h : Below w.heap.size w W) => gridOf_any lo hi v m W (hr.keeps (Keeps.of_all h)) (Nat.le_trans hhi h.size))
  have HR : Hid (sameB m a i j = (specOk m && inB a m.blocks.length && inB i m.facts.length && inB j m.facts.length && decide ((m.blocks.getD a.toNat []).getD i.toNat 0 = (m.blocks.getD a.toNat []).getD j.toNat 0))) := Lib.hid rfl
  generalize sameB m a i j = R at *
  rw [specOk_mdOk] at HR
  obtain ⟨fv, bv, rfl, hf, hb⟩ := hr
  clear hf hb hhi
  cases hm : mdOk m with
  | false =>
    simp only [hm, Bool.false_eq_true, if_false] at KG
    have HR' : Hid (R = false) := Lib.hid (by rw [HR.out, hm]; rfl)
    clear HR hm
    unfold GdAns at KG
    simp only [Option.getD_none, Option.isSome_none] at KG
    have HLG : Hid ((ints (gL 0 0 [] [] 0)).length = 67) := Lib.hid rfl
    have HLO := Lib.hid (fun v (hv : v ∈ ints (gL 0 0 [] [] 0)) => ints_one hv)
    obtain ⟨G, hG⟩ : ∃ G, G = gL 0 0 [] [] 0 := ⟨_, rfl⟩
    have HAL := Lib.hid Try.allocGrid
    rw [← hG] at KG HLG HLO HAL
    clear hG
    go_enter Try.func39, Try.ntmps39
    go_wp2_with fail
    refine (KG.out _ (by go_grown)).mono ?_
    rintro e w1 ⟨rfl, hb1⟩
    have B1 : Hid (Below w.heap.size w w1) := Lib.hid (Below.trans (by go_grown) (hb1.mono (by simp)))
    clear hb1
    go_wp2_with
      (refine wpList_allocM rfl 75 rfl (ints G) HAL.out ?_
       intro w2 hc2 hb2 hs2
       have C2 := Lib.hid hc2
       have B2 := Lib.hid (B1.out.trans (hb2.mono B1.out.size))
       clear hc2 hb2 hs2
       go_wp2_with
         (refine wpList_storeM rfl 75 _ _ rfl w1.heap.size 0 rfl (ints G) rfl 75 _ C2.out (by rw [HLG.out]; exact Nat.le_refl _) (by rw [HLG.out]; exact Try.sizeGrid) HLO.out ?_
          intro w3 hc3 ha3
          have B3 : Hid (Below w.heap.size w w3) := Lib.hid (B2.out.trans (ha3.below B1.out.size))
          clear hc3 ha3
          go_wp2_with fail
          go_ret
          exact ⟨ret_bool HR'.out.symm, B3.out⟩))
  | true =>
    simp only [hm, if_true] at KG
    have hs := md_small hm
    have HP := Lib.hid (mdOk_parts hm)
    rw [hm] at HR
    clear hm
    unfold GdAns at KG
    simp only [Option.getD_some, Option.isSome_some] at KG
    unfold gOf at KG
    have HLG : Hid ((ints (gL m.facts.length m.blocks.length m.facts m.blocks m.actual)).length = 67) := Lib.hid (by rw [ints_len]; exact gL_len hs)
    have HLO := Lib.hid (fun v (hv : v ∈ ints (gL m.facts.length m.blocks.length m.facts m.blocks m.actual)) => ints_one hv)
    have KA := Lib.hid (fun W => hasAgent_any m.facts.length m.blocks.length m.actual m.facts m.blocks a W)
    have KI := Lib.hid (fun W => hasWorld_any m.facts.length m.blocks.length m.actual m.facts m.blocks i W)
    have KJ := Lib.hid (fun W => hasWorld_any m.facts.length m.blocks.length m.actual m.facts m.blocks j W)
    have KC := Lib.hid (fun k i j hk hi hj W => confuses_any m.facts.length m.blocks.length m.actual m.facts m.blocks hs k i j hk hi hj W)
    generalize gL m.facts.length m.blocks.length m.facts m.blocks m.actual = G at *
    clear hs
    cases ha : inB a m.blocks.length with
    | false =>
      rw [ha] at KA HR
      have HR' : Hid (R = false) := Lib.hid (by rw [HR.out]; simp)
      clear HR ha KI KJ KC HP
      go_enter Try.func39, Try.ntmps39
      go_wp2_with fail
      refine (KG.out _ (by go_grown)).mono ?_
      rintro e w1 ⟨rfl, hb1⟩
      have B1 : Hid (Below w.heap.size w w1) := Lib.hid (Below.trans (by go_grown) (hb1.mono (by simp)))
      clear hb1
      go_wp2_with
        (refine wpList_allocM rfl 75 rfl (ints (gL 0 0 [] [] 0)) Try.allocGrid ?_
         intro w2 hc2 hb2 hs2
         have C2 := Lib.hid hc2
         have B2 := Lib.hid (B1.out.trans (hb2.mono B1.out.size))
         clear hc2 hb2 hs2
         go_wp2_with
           (refine wpList_storeM rfl 75 _ _ rfl w1.heap.size 0 rfl (ints G) rfl 75 _ C2.out (by rw [HLG.out]; exact Nat.le_refl _) (by rw [HLG.out]; exact Try.sizeGrid) HLO.out ?_
            intro w3 hc3 ha3
            rw [lay'_all (by rw [HLG.out]; rfl)] at hc3
            have CC := Lib.hid hc3
            have BB : Hid (Below w.heap.size w w3) := Lib.hid (B2.out.trans (ha3.below B1.out.size))
            clear hc3 ha3 C2 B2
            go_wp2_with
                (first
                   | (refine wpList_loadMG rfl (by rfl) 75 _ rfl w1.heap.size 0 rfl 75 (ints G) (ints G) CC.out (fun j _ => by rw [Nat.zero_add]) _ Try.underlying75 rfl (by rw [HLG.out]; exact Try.sizeGrid) ?_)
                   | (go_at_call 84; (with_reducible refine (KA.out _).mono ?_); rintro e w4 ⟨rfl, hb4⟩; have CC := Lib.hid (CC.out.all hb4); have BB : Hid (Below w.heap.size w w4) := Lib.hid (BB.out.trans (hb4.mono BB.out.size)); clear hb4))
            go_ret
            exact ⟨ret_bool HR'.out.symm, BB.out⟩))
    | true =>
      rw [ha] at KA HR
      cases hi : inB i m.facts.length with
      | false =>
        rw [hi] at KI HR
        have HR' : Hid (R = false) := Lib.hid (by rw [HR.out]; simp)
        clear HR ha hi KJ KC HP
        go_enter Try.func39, Try.ntmps39
        go_wp2_with fail
        refine (KG.out _ (by go_grown)).mono ?_
        rintro e w1 ⟨rfl, hb1⟩
        have B1 : Hid (Below w.heap.size w w1) := Lib.hid (Below.trans (by go_grown) (hb1.mono (by simp)))
        clear hb1
        go_wp2_with
          (refine wpList_allocM rfl 75 rfl (ints (gL 0 0 [] [] 0)) Try.allocGrid ?_
           intro w2 hc2 hb2 hs2
           have C2 := Lib.hid hc2
           have B2 := Lib.hid (B1.out.trans (hb2.mono B1.out.size))
           clear hc2 hb2 hs2
           go_wp2_with
             (refine wpList_storeM rfl 75 _ _ rfl w1.heap.size 0 rfl (ints G) rfl 75 _ C2.out (by rw [HLG.out]; exact Nat.le_refl _) (by rw [HLG.out]; exact Try.sizeGrid) HLO.out ?_
              intro w3 hc3 ha3
              rw [lay'_all (by rw [HLG.out]; rfl)] at hc3
              have CC := Lib.hid hc3
              have BB : Hid (Below w.heap.size w w3) := Lib.hid (B2.out.trans (ha3.below B1.out.size))
              clear hc3 ha3 C2 B2
              go_wp2_with
                  (first
                     | (refine wpList_loadMG rfl (by rfl) 75 _ rfl w1.heap.size 0 rfl 75 (ints G) (ints G) CC.out (fun j _ => by rw [Nat.zero_add]) _ Try.underlying75 rfl (by rw [HLG.out]; exact Try.sizeGrid) ?_)
                     | (go_at_call 84; (with_reducible refine (KA.out _).mono ?_); rintro e w4 ⟨rfl, hb4⟩; have CC := Lib.hid (CC.out.all hb4); have BB : Hid (Below w.heap.size w w4) := Lib.hid (BB.out.trans (hb4.mono BB.out.size)); clear hb4)
                     | (go_at_call 68; (with_reducible refine (KI.out _).mono ?_); rintro e w4 ⟨rfl, hb4⟩; have CC := Lib.hid (CC.out.all hb4); have BB : Hid (Below w.heap.size w w4) := Lib.hid (BB.out.trans (hb4.mono BB.out.size)); clear hb4))
              go_ret
              exact ⟨ret_bool HR'.out.symm, BB.out⟩))
      | true =>
        rw [hi] at KI HR
        cases hj : inB j m.facts.length with
        | false =>
          rw [hj] at KJ HR
          have HR' : Hid (R = false) := Lib.hid (by rw [HR.out]; simp)
          clear HR ha hi hj KC HP
          go_enter Try.func39, Try.ntmps39
          go_wp2_with fail
          refine (KG.out _ (by go_grown)).mono ?_
          rintro e w1 ⟨rfl, hb1⟩
          have B1 : Hid (Below w.heap.size w w1) := Lib.hid (Below.trans (by go_grown) (hb1.mono (by simp)))
          clear hb1
          go_wp2_with
            (refine wpList_allocM rfl 75 rfl (ints (gL 0 0 [] [] 0)) Try.allocGrid ?_
             intro w2 hc2 hb2 hs2
             have C2 := Lib.hid hc2
             have B2 := Lib.hid (B1.out.trans (hb2.mono B1.out.size))
             clear hc2 hb2 hs2
             go_wp2_with
               (refine wpList_storeM rfl 75 _ _ rfl w1.heap.size 0 rfl (ints G) rfl 75 _ C2.out (by rw [HLG.out]; exact Nat.le_refl _) (by rw [HLG.out]; exact Try.sizeGrid) HLO.out ?_
                intro w3 hc3 ha3
                rw [lay'_all (by rw [HLG.out]; rfl)] at hc3
                have CC := Lib.hid hc3
                have BB : Hid (Below w.heap.size w w3) := Lib.hid (B2.out.trans (ha3.below B1.out.size))
                clear hc3 ha3 C2 B2
                go_wp2_with
                    (first
                       | (refine wpList_loadMG rfl (by rfl) 75 _ rfl w1.heap.size 0 rfl 75 (ints G) (ints G) CC.out (fun j _ => by rw [Nat.zero_add]) _ Try.underlying75 rfl (by rw [HLG.out]; exact Try.sizeGrid) ?_)
                       | (go_at_call 84; (with_reducible refine (KA.out _).mono ?_); rintro e w4 ⟨rfl, hb4⟩; have CC := Lib.hid (CC.out.all hb4); have BB : Hid (Below w.heap.size w w4) := Lib.hid (BB.out.trans (hb4.mono BB.out.size)); clear hb4)
                       | (go_at_call 68; (with_reducible refine (KI.out _).mono ?_); rintro e w4 ⟨rfl, hb4⟩; have CC := Lib.hid (CC.out.all hb4); have BB : Hid (Below w.heap.size w w4) := Lib.hid (BB.out.trans (hb4.mono BB.out.size)); clear hb4)
                       | (go_at_call 68; (with_reducible refine (KJ.out _).mono ?_); rintro e w4 ⟨rfl, hb4⟩; have CC := Lib.hid (CC.out.all hb4); have BB : Hid (Below w.heap.size w w4) := Lib.hid (BB.out.trans (hb4.mono BB.out.size)); clear hb4))
                go_ret
                exact ⟨ret_bool HR'.out.symm, BB.out⟩))
        | true =>
          rw [hj] at KJ HR
          obtain ⟨a0, a1⟩ : 0 ≤ a ∧ a < m.blocks.length := of_decide_eq_true ha
          obtain ⟨i0, i1⟩ : 0 ≤ i ∧ i < m.facts.length := of_decide_eq_true hi
          obtain ⟨j0, j1⟩ : 0 ≤ j ∧ j < m.facts.length := of_decide_eq_true hj
          obtain ⟨a, rfl⟩ := Int.eq_ofNat_of_zero_le a0
          obtain ⟨i, rfl⟩ := Int.eq_ofNat_of_zero_le i0
          obtain ⟨j, rfl⟩ := Int.eq_ofNat_of_zero_le j0
          have HR1 : Hid (R = decide ((m.blocks.getD a []).getD i 0 = (m.blocks.getD a []).getD j 0)) := Lib.hid (by rw [HR.out]; simp)
          have KC := Lib.hid (KC.out a i j (by have := HP.out.2.2.2.1; omega) (by have := HP.out.2.1; omega) (by have := HP.out.2.1; omega))
          have HX : Hid (((m.blocks.getD a []).getD i 0 == (m.blocks.getD a []).getD j 0) = R) := Lib.hid (by rw [HR1.out, Bool.eq_iff_iff]; simp)
          clear HR HR1 ha hi hj HP
          simp only [HX.out] at KC
          clear HX
          go_enter Try.func39, Try.ntmps39
          go_wp2_with fail
          refine (KG.out _ (by go_grown)).mono ?_
          rintro e w1 ⟨rfl, hb1⟩
          have B1 : Hid (Below w.heap.size w w1) := Lib.hid (Below.trans (by go_grown) (hb1.mono (by simp)))
          clear hb1
          go_wp2_with
            (refine wpList_allocM rfl 75 rfl (ints (gL 0 0 [] [] 0)) Try.allocGrid ?_
             intro w2 hc2 hb2 hs2
             have C2 := Lib.hid hc2
             have B2 := Lib.hid (B1.out.trans (hb2.mono B1.out.size))
             clear hc2 hb2 hs2
             go_wp2_with
               (refine wpList_storeM rfl 75 _ _ rfl w1.heap.size 0 rfl (ints G) rfl 75 _ C2.out (by rw [HLG.out]; exact Nat.le_refl _) (by rw [HLG.out]; exact Try.sizeGrid) HLO.out ?_
                intro w3 hc3 ha3
                rw [lay'_all (by rw [HLG.out]; rfl)] at hc3
                have CC := Lib.hid hc3
                have BB : Hid (Below w.heap.size w w3) := Lib.hid (B2.out.trans (ha3.below B1.out.size))
                clear hc3 ha3 C2 B2
                go_wp2_with
                    (first
                       | (refine wpList_loadMG rfl (by rfl) 75 _ rfl w1.heap.size 0 rfl 75 (ints G) (ints G) CC.out (fun j _ => by rw [Nat.zero_add]) _ Try.underlying75 rfl (by rw [HLG.out]; exact Try.sizeGrid) ?_)
                       | (go_at_call 84; (with_reducible refine (KA.out _).mono ?_); rintro e w4 ⟨rfl, hb4⟩; have CC := Lib.hid (CC.out.all hb4); have BB : Hid (Below w.heap.size w w4) := Lib.hid (BB.out.trans (hb4.mono BB.out.size)); clear hb4)
                       | (go_at_call 68; (with_reducible refine (KI.out _).mono ?_); rintro e w4 ⟨rfl, hb4⟩; have CC := Lib.hid (CC.out.all hb4); have BB : Hid (Below w.heap.size w w4) := Lib.hid (BB.out.trans (hb4.mono BB.out.size)); clear hb4)
                       | (go_at_call 68; (with_reducible refine (KJ.out _).mono ?_); rintro e w4 ⟨rfl, hb4⟩; have CC := Lib.hid (CC.out.all hb4); have BB : Hid (Below w.heap.size w w4) := Lib.hid (BB.out.trans (hb4.mono BB.out.size)); clear hb4)
                       | (go_at_call 90; (with_reducible refine (KC.out _).mono ?_); rintro e w4 ⟨rfl, hb4⟩; have CC := Lib.hid (CC.out.all hb4); have BB : Hid (Below w.heap.size w w4) := Lib.hid (BB.out.trans (hb4.mono BB.out.size)); clear hb4))
                go_ret
                exact ⟨ret_bool (by simp), BB.out⟩))
end Go.Proofs.Ytegmoojjffkacaa
