/-
  Contracts of impl.KnowsWhich and spec.KnowsWhich. No condition.
-/
import Derived.Test.YtegmoojjffkacaaFw
import Derived.Test.YtegmoojjffkacaaRfi
namespace Go.Proofs.Ytegmoojjffkacaa
open Go.RowKit Go.WideShapes
open Go Go.Deep
set_option linter.unusedSimpArgs false

/-- a world whose facts are those of the actual one, or that the agent can tell from it -/
def knowsAt (m : Md) (k act w : Nat) : Bool := !((m.blocks.getD k []).getD w 0 == (m.blocks.getD k []).getD act 0) || (m.facts.getD w 0 == m.facts.getD act 0)
def knowsR (m : Md) (a : Int) : Bool := mdOk m && inB a m.blocks.length && (List.range m.facts.length).all (knowsAt m a.toNat m.actual.toNat)
theorem knows_sub {m : Md} {k act : Nat} (hn : m.facts.length ≤ 16) : subB (blkB m.blocks m.facts.length k act) (cut m.facts.length fun i => m.facts.getD i 0 == m.facts.getD act 0) = (List.range m.facts.length).all (knowsAt m k act) := by
  rw [Bool.eq_iff_iff]
  unfold subB blkB cut knowsAt
  simp only [List.all_eq_true, List.mem_range, Bool.or_eq_true, Bool.not_eq_true', Bool.and_eq_true, decide_eq_true_eq, beq_iff_eq, Bool.and_eq_false_iff, decide_eq_false_iff_not, beq_eq_false_iff_ne]
  constructor
  · intro h w hw
    rcases h w (by omega) with h1 | h1
    · rcases h1 with h1 | h1
      · exact absurd hw h1
      · exact .inl (fun e => h1 e.symm)
    · exact .inr h1.2
  · intro h w _
    by_cases hw : w < m.facts.length
    · rcases h w hw with h1 | h1
      · exact .inl (.inr (fun e => h1 e.symm))
      · exact .inr ⟨hw, h1⟩
    · exact .inl (.inl hw)

set_option maxRecDepth 100000 in
set_option maxHeartbeats 4000000 in
theorem facts_test (w : World) (b : Nat) (n a : Int) (k : Nat) (act : Nat) (f : List Int) (rows : List (List Int)) (hs : small f rows) (hk : k ≤ 16) (ha : act < 16) (hc : Cm w b 75 (ints (gL n a f rows act))) :
    Test w 103 #[.pointer (some ⟨b, 0, none⟩)] k (fun i => f.getD i 0 == f.getD act 0) := by
  refine ⟨enters_of Try.func103 (by kernel_rfl) rfl, fun i hi W hW => ?_⟩
  show Calls Try.prog 103 #[.int .i64 i, .pointer (some ⟨b, 0, none⟩)] W _
  have CG := hc.all hW
  have c1 := CG.gf hs (show i < 16 by omega)
  have c2 := CG.gf hs ha
  have c3 := CG.g66 hs
  have hi0 : (0 : Int) ≤ (i : Int) := Int.natCast_nonneg _
  have hi16 : (i : Int) < 16 := by omega
  have a0 : (0 : Int) ≤ (act : Int) := Int.natCast_nonneg _
  have a16 : (act : Int) < 16 := by omega
  generalize hx : f.getD i 0 = x at *
  generalize hy : f.getD act 0 = y at *
  have HX := Lib.hid hx
  clear hc hW hx hy CG
  go_enter Try.func103, Try.ntmps103
  go_wp2
  go_quiet (fail)
  go_wp2
  go_ret
  exact ⟨ret_bool (by rw [HX.out]), below_drewN' (Below.refl _ _) _⟩

set_option maxRecDepth 100000 in
set_option maxHeartbeats 16000000 in
theorem implKnows_any (lo hi : Nat) (v : Value) (m : Md) (a : Int) (w : World) (hr : Mv lo hi w v m) (hhi : hi ≤ w.heap.size) :
    Calls Try.prog 60 #[v, .int .i64 a] w fun e w' => e = .returned (.bool (knowsR m a)) ∧ Below w.heap.size w w' := by
  have KG := Lib.hid (fun W (h : Below w.heap.size w W) => gridOf_any lo hi v m W (hr.keeps (Keeps.of_all h)) (Nat.le_trans hhi h.size))
  have HR : Hid (knowsR m a = (mdOk m && inB a m.blocks.length && (List.range m.facts.length).all (knowsAt m a.toNat m.actual.toNat))) := Lib.hid rfl
  generalize knowsR m a = R at *
  obtain ⟨fv, bv, rfl, hf, hb⟩ := hr
  clear hf hb hhi
  cases hm : mdOk m with
  | false =>
    simp only [hm, Bool.false_eq_true, if_false] at KG
    have HR' : Hid (R = false) := Lib.hid (by rw [HR.out, hm]; rfl)
    clear HR hm
    unfold GdAns at KG
    simp only [Option.getD_none, Option.isSome_none] at KG
    have HLG : Hid ((ints (gL 0 0 [] [] 0)).length = 67) := Lib.hid rfl
    have HLO := Lib.hid (fun v (hv : v ∈ ints (gL 0 0 [] [] 0)) => ints_one hv)
    obtain ⟨G, hG⟩ : ∃ G, G = gL 0 0 [] [] 0 := ⟨_, rfl⟩
    rw [← hG] at KG HLG HLO
    clear hG
    go_enter Try.func60, Try.ntmps60
    go_wp2_with fail
    refine (KG.out _ (by go_grown)).mono ?_
    rintro e w1 ⟨rfl, hb1⟩
    have B1 : Hid (Below w.heap.size w w1) := Lib.hid (Below.trans (by go_grown) (hb1.mono (by simp)))
    clear hb1
    have tk1 : True := trivial
    have tk2 : True := trivial
    go_wp2_with
      (first
        | (have _t := tk1; clear _t tk1; refine wpList_allocM rfl 75 rfl (ints (gL 0 0 [] [] 0)) Try.allocGrid ?_
           intro w2 hc2 hb2 hs2
           have CC := Lib.hid hc2
           have BB : Hid (Below w.heap.size w w2) := Lib.hid (B1.out.trans (hb2.mono B1.out.size))
           clear hc2 hb2 hs2)
        | (have _t := tk2; clear _t tk2; refine wpList_storeM rfl 75 _ _ rfl w1.heap.size 0 rfl (ints G) rfl 75 (ints (gL 0 0 [] [] 0)) CC.out (by rw [HLG.out]; exact Nat.le_refl _) (by rw [HLG.out]; exact Try.sizeGrid) HLO.out ?_
           intro w3 hc3 ha3
           have BB : Hid (Below w.heap.size w w3) := Lib.hid (BB.out.trans (ha3.below B1.out.size))
           clear hc3 ha3))
    go_ret
    exact ⟨ret_bool HR'.out.symm, BB.out⟩
  | true =>
    simp only [hm, if_true] at KG
    have hs := md_small hm
    have HLG : Hid ((ints (gL m.facts.length m.blocks.length m.facts m.blocks m.actual)).length = 67) := Lib.hid (by rw [ints_len]; exact gL_len hs)
    have HLO := Lib.hid (fun v (hv : v ∈ ints (gL m.facts.length m.blocks.length m.facts m.blocks m.actual)) => ints_one hv)
    unfold GdAns at KG
    simp only [Option.getD_some, Option.isSome_some] at KG
    unfold gOf at KG
    obtain ⟨p1, p2, p3, p4, -, -, p7, p8⟩ := mdOk_parts hm
    have KA := Lib.hid (fun W => hasAgent_any m.facts.length m.blocks.length m.actual m.facts m.blocks a W)
    rw [hm] at HR
    cases hi' : inB a m.blocks.length with
    | false =>
      rw [hi'] at KA HR
      have HR' : Hid (R = false) := Lib.hid (by rw [HR.out]; rfl)
      generalize gL m.facts.length m.blocks.length m.facts m.blocks m.actual = G at *
      clear HR hi' hs hm
      go_enter Try.func60, Try.ntmps60
      go_wp2_with fail
      refine (KG.out _ (by go_grown)).mono ?_
      rintro e w1 ⟨rfl, hb1⟩
      have B1 : Hid (Below w.heap.size w w1) := Lib.hid (Below.trans (by go_grown) (hb1.mono (by simp)))
      clear hb1
      have tk3 : True := trivial
      have tk4 : True := trivial
      have tk5 : True := trivial
      have tk6 : True := trivial
      go_wp2_with
        (first
          | (have _t := tk3; clear _t tk3; refine wpList_allocM rfl 75 rfl (ints (gL 0 0 [] [] 0)) Try.allocGrid ?_
             intro w2 hc2 hb2 hs2
             have CC := Lib.hid hc2
             have BB : Hid (Below w.heap.size w w2) := Lib.hid (B1.out.trans (hb2.mono B1.out.size))
             clear hc2 hb2 hs2)
          | (have _t := tk4; clear _t tk4; refine wpList_storeM rfl 75 _ _ rfl w1.heap.size 0 rfl (ints G) rfl 75 (ints (gL 0 0 [] [] 0)) CC.out (by rw [HLG.out]; exact Nat.le_refl _) (by rw [HLG.out]; exact Try.sizeGrid) HLO.out ?_
             intro w3 hc3 ha3
             rw [lay'_all (by rw [HLG.out]; rfl)] at hc3
             have CC := Lib.hid hc3
             have BB : Hid (Below w.heap.size w w3) := Lib.hid (BB.out.trans (ha3.below B1.out.size))
             clear hc3 ha3)
          | (have _t := tk5; clear _t tk5; refine wpList_loadMG rfl (by rfl) 75 _ rfl w1.heap.size 0 rfl 75 (ints G) (ints G) CC.out (fun j _ => by rw [Nat.zero_add]) _ Try.underlying75 rfl (by rw [HLG.out]; exact Try.sizeGrid) ?_)
          | (have _t := tk6; clear _t tk6; go_at_call 84; (with_reducible refine (KA.out _).mono ?_); rintro e w4 ⟨rfl, hb4⟩; have BB : Hid (Below w.heap.size w w4) := Lib.hid (BB.out.trans (hb4.mono BB.out.size)); clear hb4))
      go_ret
      exact ⟨ret_bool HR'.out.symm, BB.out⟩
    | true =>
      obtain ⟨hx0, hxn⟩ := inB_parts hi'
      obtain ⟨i, rfl⟩ := Int.eq_ofNat_of_zero_le hx0
      obtain ⟨act, hact⟩ := Int.eq_ofNat_of_zero_le p7
      rw [hi'] at KA HR
      have hact16 : act < 16 := by omega
      have HR' : Hid (R = subB (blkB m.blocks m.facts.length i act) (cut m.facts.length fun j => m.facts.getD j 0 == m.facts.getD act 0)) := Lib.hid (by rw [HR.out, knows_sub p2, Int.toNat_natCast, hact, Int.toNat_natCast]; rfl)
      have KW := Lib.hid (fun caps W h => where_any m.facts.length m.blocks.length m.actual m.facts m.blocks hs p2 103 caps (fun j => m.facts.getD j 0 == m.facts.getD act 0) W h)
      have KT := Lib.hid (fun W b h => facts_test W b m.facts.length m.blocks.length m.facts.length act m.facts m.blocks hs p2 hact16 h)
      have KB := Lib.hid (fun W => block_any m.facts.length m.blocks.length m.actual m.facts m.blocks hs p2 i act (by omega) hact16 W)
      have H66 : Hid (∀ W b T, Cm W b T (ints (gL m.facts.length m.blocks.length m.facts m.blocks m.actual)) → W.cell? ⟨b, 66, none⟩ = some (.int .i64 act)) := Lib.hid (fun W b T h => by rw [h.g66 hs, hact])
      rw [← hact] at KT
      generalize blkB m.blocks m.facts.length i act = PB at *
      generalize (cut m.facts.length fun j => m.facts.getD j 0 == m.facts.getD act 0) = PC at *
      generalize gL m.facts.length m.blocks.length m.facts m.blocks m.actual = G at *
      clear HR hi' hact hs hm
      go_enter Try.func60, Try.ntmps60
      go_wp2_with fail
      refine (KG.out _ (by go_grown)).mono ?_
      rintro e w1 ⟨rfl, hb1⟩
      have B1 : Hid (Below w.heap.size w w1) := Lib.hid (Below.trans (by go_grown) (hb1.mono (by simp)))
      clear hb1
      have hmf : ∀ (fn : Fn) (first cap : Array Value) (w : World), (Instr.makeFunc fn first cap).run Try.prog w = .ok (.func fn first cap) w := fun _ _ _ _ => rfl
      have tk7 : True := trivial
      have tk8 : True := trivial
      have tk9 : True := trivial
      have tk10 : True := trivial
      have tk11 : True := trivial
      have tk12 : True := trivial
      have tk13 : True := trivial
      have tk14 : True := trivial
      go_wp2_with
        (first
          | (have _t := tk7; clear _t tk7; refine wpList_allocM rfl 75 rfl (ints (gL 0 0 [] [] 0)) Try.allocGrid ?_
             intro w2 hc2 hb2 hs2
             have CC := Lib.hid hc2
             have BB : Hid (Below w.heap.size w w2) := Lib.hid (B1.out.trans (hb2.mono B1.out.size))
             clear hc2 hb2 hs2)
          | (have _t := tk8; clear _t tk8; refine wpList_storeM rfl 75 _ _ rfl w1.heap.size 0 rfl (ints G) rfl 75 (ints (gL 0 0 [] [] 0)) CC.out (by rw [HLG.out]; exact Nat.le_refl _) (by rw [HLG.out]; exact Try.sizeGrid) HLO.out ?_
             intro w3 hc3 ha3
             rw [lay'_all (by rw [HLG.out]; rfl)] at hc3
             have CC := Lib.hid hc3
             have BB : Hid (Below w.heap.size w w3) := Lib.hid (BB.out.trans (ha3.below B1.out.size))
             clear hc3 ha3)
          | (have _t := tk9; clear _t tk9; refine wpList_loadMG rfl (by rfl) 75 _ rfl w1.heap.size 0 rfl 75 (ints G) (ints G) CC.out (fun j _ => by rw [Nat.zero_add]) _ Try.underlying75 rfl (by rw [HLG.out]; exact Try.sizeGrid) ?_)
          | (have _t := tk10; clear _t tk10; go_at_call 84; (with_reducible refine (KA.out _).mono ?_); rintro e w4 ⟨rfl, hb4⟩; have CC := Lib.hid (CC.out.all hb4); have BB : Hid (Below w.heap.size w w4) := Lib.hid (BB.out.trans (hb4.mono BB.out.size)); clear hb4)
          | (have _t := tk11; clear _t tk11; refine wpList_loadM rfl 75 _ rfl w1.heap.size 0 rfl 75 (ints G) (ints G) CC.out (fun j _ => by rw [Nat.zero_add]) _ Try.underlying75 rfl (by rw [HLG.out]; exact Try.sizeGrid) ?_)
          | (have _t := tk12; clear _t tk12; go_at_call 102; (with_reducible refine (KW.out _ _ (KT.out _ _ CC.out)).mono ?_); rintro e w5 ⟨rfl, hb5⟩; have CC := Lib.hid (CC.out.all hb5); have BB : Hid (Below w.heap.size w w5) := Lib.hid (BB.out.trans (hb5.mono BB.out.size)); have hq5 : w1.heap.size < w5.heap.size := CC.out.lt; have hq6 : w.heap.size ≤ w5.heap.size := BB.out.size; clear hb5)
          | (have _t := tk13; clear _t tk13; refine wpList_allocM rfl 83 rfl (bL (fun _ => false)) Try.allocSet ?_
             intro w6 hc6 hb6 hs6
             have CS := Lib.hid hc6
             have CC := Lib.hid (CC.out.all hb6)
             have BB := Lib.hid (BB.out.trans (hb6.mono BB.out.size))
             clear hc6 hb6 hs6)
          | (have _t := tk14; clear _t tk14; refine wpList_storeM rfl 83 (.tmp 7) (.tmp 23) rfl w5.heap.size 0 rfl (bL PC) rfl 83 _ CS.out (by rw [bL_len, bL_len]; exact Nat.le_refl _) (by rw [bL_len]; exact Try.sizeSet) (fun v hv => bL_one hv) ?_
             intro w7 hc7 ha7
             rw [lay'_all (by rw [bL_len, bL_len])] at hc7
             have CS := Lib.hid hc7
             have CC := Lib.hid (ha7.cm CC.out (by omega))
             have BB : Hid (Below w.heap.size w w7) := Lib.hid (BB.out.trans (ha7.below (by omega)))
             clear hc7 ha7))
      have HRG : Hid (∀ W, Below w7.heap.size w7 W → W.rangeAt w1.heap.size 0 (ints G)) := Lib.hid (fun W h => (CC.out.all h).whole)
      have HRS : Hid (∀ W, Below w7.heap.size w7 W → W.rangeAt w5.heap.size 0 (bL PC)) := Lib.hid (fun W h => (CS.out.all h).whole)
      have H66' : Hid (∀ W, Below w7.heap.size w7 W → W.cell? ⟨w1.heap.size, 66, none⟩ = some (.int .i64 act)) := Lib.hid (fun W h => H66.out _ _ _ (CC.out.all h))
      have HU : Try.prog.underlying 75 = some _ := Try.underlying75
      have HUS : Try.prog.underlying 83 = some _ := Try.underlying83
      clear CC CS H66 HLO
      refine regionL (fun W => Below w7.heap.size w7 W) [] (by kernel_rfl) (Below.refl _ _).drew (fun hHeld => ?_)
      refine takeA (i := 0) (v := .agg (ints G).toArray) 24 rfl rfl (by kernel_rfl) (by kernel_rfl) (by kernel_rfl) (by kernel_rfl) (fun _ _ _ h => h) (yieldsIf_load_mid (by rfl) 75 _ rfl w1.heap.size 0 rfl (ints G) _ HRG.out HU rfl (by rw [HLG.out]; exact Try.sizeGrid)) hHeld ?_
      simp only [Act.put, List.setIfInBounds_toArray, List.set_cons_zero, List.set_cons_succ]
      refine takeA (i := 1) (v := .int .i64 i) 25 rfl rfl (by kernel_rfl) (by kernel_rfl) (by kernel_rfl) (by kernel_rfl) (fun _ _ _ h => h) (Or.inl ⟨by rfl, by intro W hSw; go_simp⟩) hHeld ?_
      simp only [Act.put, List.setIfInBounds_toArray, List.set_cons_zero, List.set_cons_succ]
      refine takeA (i := 2) (v := .pointer (some ⟨w1.heap.size, 66, none⟩)) 26 rfl rfl (by kernel_rfl) (by kernel_rfl) (by kernel_rfl) (by kernel_rfl) (fun _ _ _ h => h) (Or.inl ⟨by rfl, by intro W hSw; go_simp⟩) hHeld ?_
      simp only [Act.put, List.setIfInBounds_toArray, List.set_cons_zero, List.set_cons_succ]
      refine takeA (i := 3) (v := .int .i64 act) 27 rfl rfl (by kernel_rfl) (by kernel_rfl) (by kernel_rfl) (by kernel_rfl) (fun _ _ _ h => h) (Or.inl ⟨by rfl, by intro W hSw; have c1 := H66'.out _ hSw; go_simp⟩) hHeld ?_
      simp only [Act.put, List.setIfInBounds_toArray, List.set_cons_zero, List.set_cons_succ]
      refine takeA (i := 5) (v := .agg (bL PC).toArray) 29 rfl rfl (by kernel_rfl) (by kernel_rfl) (by kernel_rfl) (by kernel_rfl) (fun _ _ _ h => h) (yieldsIf_load_mid (by rfl) 83 _ rfl w5.heap.size 0 rfl (bL PC) _ HRS.out HUS rfl (by rw [bL_len]; exact Try.sizeSet)) hHeld ?_
      simp only [Act.put, List.setIfInBounds_toArray, List.set_cons_zero, List.set_cons_succ]
      refine onlyL (i := 4) (by kernel_rfl) rfl (by rfl) (fun K hK => ?_)
      go_simp
      refine (KB.out _).mono ?_
      rintro e w8 ⟨rfl, hb8⟩
      have t8 : Below w7.heap.size w7 w8 := hHeld.trans (hb8.mono (Nat.le_refl _))
      clear hb8 hHeld
      refine hK.out _ _ (fun _ => t8) (fun hHeld => ?_)
      have hHeld := hHeld (by decide)
      clear hK K
      try simp only [Act.put, List.setIfInBounds_toArray, List.set_cons_zero, List.set_cons_succ]
      refine onlyL (i := 6) (by kernel_rfl) rfl (by rfl) (fun K hK => ?_)
      go_simp
      refine (isWithin_any PB PC _).mono ?_
      rintro e w9 ⟨rfl, hb9⟩
      have t9 : Below w7.heap.size w7 w9 := t8.trans (hb9.mono t8.size)
      clear hb9 hHeld
      refine hK.out _ _ (fun _ => t9) (fun hHeld => ?_)
      have hHeld := hHeld (by decide)
      clear hK K
      try simp only [Act.put, List.setIfInBounds_toArray, List.set_cons_zero, List.set_cons_succ]
      refine takeA (i := 7) (v := .bool (subB PB PC)) 4 rfl rfl (by kernel_rfl) (by kernel_rfl) (by kernel_rfl) (by kernel_rfl) (fun _ _ _ h => h) (Or.inl ⟨by rfl, by intro W hSw; go_simp⟩) hHeld ?_
      simp only [Act.put, List.setIfInBounds_toArray, List.set_cons_zero, List.set_cons_succ]
      refine doneL (by kernel_rfl) ?_ _
      go_wp2
      go_ret
      exact ⟨ret_bool HR'.out.symm, BB.out.trans (t9.mono BB.out.size)⟩
end Go.Proofs.Ytegmoojjffkacaa
