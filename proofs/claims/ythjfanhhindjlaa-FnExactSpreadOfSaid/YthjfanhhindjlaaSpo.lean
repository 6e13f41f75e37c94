/-
  SpreadOf of both sides: the numbers of steps from a world. No condition but the readings.
-/
import Derived.Test.YthjfanhhindjlaaSpr
import Derived.Test.YthjfanhhindjlaaLvs
import Derived.Test.YthjfanhhindjlaaZRch
import Derived.Test.YthjfanhhindjlaaZMok
namespace Go.Proofs.Ythjfanhhindjlaa
open Go.RowKit Go.WideShapes
open Go Go.Deep
set_option linter.unusedSimpArgs false

/-- what SpreadOf answers -/
def sprR (m : Md) (x : Int) : List Int := if mdOk m && inB x m.facts.length then spreadR m x.toNat else []
theorem sprR_len (m : Md) (x : Int) : (sprR m x).length ≤ 16 := by
  unfold sprR
  split
  · rename_i h
    rw [Bool.and_eq_true] at h
    unfold spreadR
    rw [List.length_map, List.length_range]
    exact (mdOk_parts h.1).2.1
  · simp
theorem lev_ball {m : Md} (hm : mdOk m = true) {x : Nat} (hx : x < m.facts.length) : ∀ k j, j < m.facts.length → levP m.blocks m.facts.length m.blocks.length (cut m.facts.length fun j => decide (j = x)) k j = ballB m k x j
  | 0, j, hj => by
    show cut m.facts.length (fun j => decide (j = x)) j = decide (x = j)
    unfold cut
    rw [decide_eq_true hj, Bool.true_and, decide_eq_decide]
    exact ⟨fun h => h.symm, fun h => h.symm⟩
  | k + 1, j, hj => by
    have ih := lev_ball hm hx k
    have h16 := (mdOk_parts hm).2.1
    have hin := levP_in (rows := m.blocks) (a := m.blocks.length) (p := cut m.facts.length fun j => decide (j = x)) (fun i h => cut_in h) k
    show wid _ _ _ _ j = ballB m (k + 1) x j
    rw [Bool.eq_iff_iff, ball_succ]
    unfold wid widK
    rw [Bool.and_eq_true, decide_eq_true_eq, List.any_eq_true]
    constructor
    · rintro ⟨_, i, hi, hn⟩
      have hp := (mem_lst.1 hi).2
      have hi' := hin i hp
      rw [ih i hi'] at hp
      exact ⟨hj, i, hi', hp, hn⟩
    · rintro ⟨_, i, hi, hp, hn⟩
      exact ⟨hj, i, mem_lst.2 ⟨by omega, by rw [ih i hi]; exact hp⟩, hn⟩
theorem idx_spread {m : Md} (hm : mdOk m = true) {x j : Nat} (hx : x < m.facts.length) (hj : j < m.facts.length) : idxI (fun k => levP m.blocks m.facts.length m.blocks.length (cut m.facts.length fun j => decide (j = x)) k j) m.facts.length = match distB m x j with | some k => (k : Int) | none => -1 := by
  unfold idxI distB
  rw [show (fun k => levP m.blocks m.facts.length m.blocks.length (cut m.facts.length fun j => decide (j = x)) k j) = fun k => ballB m k x j from funext fun k => lev_ball hm hx k j hj]
  cases leastK (fun k => ballB m k x j) m.facts.length <;> rfl

set_option maxRecDepth 100000 in
set_option maxHeartbeats 16000000 in
theorem specSpreadOf_any (lo hi : Nat) (v : Value) (m : Md) (x : Int) (w : World) (hr : Mv lo hi w v m) :
    Calls Try.prog 18 #[v, .int .i64 x] w (IntsAns w (sprR m x)) := by
  have KS := Lib.hid (fun W (h : Below w.heap.size w W) => specOk_any lo hi v m W (hr.keeps (Keeps.of_all h)))
  rw [specOk_mdOk] at KS
  have KW := Lib.hid (fun W (h : Below w.heap.size w W) => specWorld_any lo hi v m x W (hr.keeps (Keeps.of_all h)))
  have KR := Lib.hid (fun i (hm : mdOk m = true) (hi' : i < m.facts.length) W (h : Below w.heap.size w W) => specSpread_any lo hi v m i W (hr.keeps (Keeps.of_all h)) hm hi')
  have HR : Hid (sprR m x = if mdOk m && inB x m.facts.length then spreadR m x.toNat else []) := Lib.hid rfl
  generalize sprR m x = R at *
  obtain ⟨fv, bv, rfl, hf, hb⟩ := hr
  clear hf hb
  cases hm : mdOk m with
  | false =>
    rw [hm] at KS HR
    have HR' : Hid (R = []) := Lib.hid (by rw [HR.out]; rfl)
    clear hm HR KW KR
    go_enter Try.func18, Try.ntmps18
    go_wp2_with fail
    refine (KS.out _ (by go_grown)).mono ?_
    rintro e w1 ⟨rfl, hb1⟩
    have B1 : Hid (Below w.heap.size w w1) := Lib.hid (Below.trans (by go_grown) (hb1.mono (by simp)))
    clear hb1
    go_wp2
    go_ret
    rw [HR'.out]
    exact ints_nil _ _ B1.out
  | true =>
    rw [hm] at KS HR
    cases hi' : inB x m.facts.length with
    | false =>
      rw [hi'] at KW HR
      have HR' : Hid (R = []) := Lib.hid (by rw [HR.out]; rfl)
      clear hm hi' HR KR
      go_enter Try.func18, Try.ntmps18
      go_wp2_with fail
      refine (KS.out _ (by go_grown)).mono ?_
      rintro e w1 ⟨rfl, hb1⟩
      have X1 := Lib.hid (Mcell.below (b := w.heap.size) (Mcell.new rfl) hb1)
      have B1 : Hid (Below w.heap.size w w1) := Lib.hid (Below.trans (by go_grown) (hb1.mono (by simp)))
      clear hb1
      obtain ⟨c0, c1, c2, c3, c4, c5⟩ := X1.out
      go_wp2_with fail
      clear c0 c1 c2 c3 c4 c5
      refine (KW.out _ B1.out).mono ?_
      rintro e w2 ⟨rfl, hb2⟩
      have B2 := Lib.hid (B1.out.trans (hb2.mono B1.out.size))
      clear hb2
      go_wp2
      go_ret
      rw [HR'.out]
      exact ints_nil _ _ B2.out
    | true =>
      obtain ⟨hx0, hxn⟩ := inB_parts hi'
      obtain ⟨i, rfl⟩ := Int.eq_ofNat_of_zero_le hx0
      have hin : i < m.facts.length := by omega
      rw [hi'] at KW HR
      have HR' : Hid (R = spreadR m i) := Lib.hid (by rw [HR.out, Int.toNat_natCast]; rfl)
      have KR := Lib.hid (KR.out i hm hin)
      unfold IntsAns at KR ⊢
      rw [HR'.out]
      clear HR hi' HR' hm
      go_enter Try.func18, Try.ntmps18
      go_wp2_with fail
      refine (KS.out _ (by go_grown)).mono ?_
      rintro e w1 ⟨rfl, hb1⟩
      have X1 := Lib.hid (Mcell.below (b := w.heap.size) (Mcell.new rfl) hb1)
      have B1 : Hid (Below w.heap.size w w1) := Lib.hid (Below.trans (by go_grown) (hb1.mono (by simp)))
      clear hb1
      obtain ⟨c0, c1, c2, c3, c4, c5⟩ := X1.out
      go_wp2_with fail
      clear c0 c1 c2 c3 c4 c5
      refine (KW.out _ B1.out).mono ?_
      rintro e w2 ⟨rfl, hb2⟩
      have X2 := Lib.hid (X1.out.below hb2)
      have B2 := Lib.hid (B1.out.trans (hb2.mono B1.out.size))
      clear hb2 X1 B1
      obtain ⟨c0, c1, c2, c3, c4, c5⟩ := X2.out
      go_wp2_with fail
      clear c0 c1 c2 c3 c4 c5
      refine (KR.out _ B2.out).mono ?_
      rintro e w3 ⟨v3, rfl, ho3, hb3⟩
      have O3 := Lib.hid ho3
      have sb2 : w.heap.size ≤ w2.heap.size := B2.out.size
      have B3 := Lib.hid (B2.out.trans (hb3.mono sb2))
      clear ho3 hb3
      go_wp2
      go_ret
      exact ⟨v3, rfl, O3.out.wide sb2 (Nat.le_refl _), B3.out⟩

set_option maxRecDepth 100000 in
set_option maxHeartbeats 2000000 in
theorem spread_test (w : World) (bx n x : Nat) (hb : Cm w bx 3 [.int .i64 x]) : Test w 50 #[.pointer (some ⟨bx, 0, none⟩)] n (fun j => decide (j = x)) := by
  refine ⟨enters_of Try.func50 (by kernel_rfl) rfl, fun j hj W hW => ?_⟩
  show Calls Try.prog 50 #[.int .i64 j, .pointer (some ⟨bx, 0, none⟩)] W fun e W' => e = .returned (.bool (decide (j = x))) ∧ Below W.heap.size W W'
  have c1 := (hb.all hW).one
  have hd : decide (j = x) = decide ((j : Int) = (x : Int)) := by rw [decide_eq_decide]; omega
  rw [hd]
  clear hb hW hd
  generalize (x : Int) = xi at *
  generalize (j : Int) = ji at *
  go_enter Try.func50, Try.ntmps50
  go_wp2
  go_ret
  exact ⟨rfl, Below.refl _ _⟩

set_option maxRecDepth 100000 in
set_option maxHeartbeats 16000000 in
theorem implSpreadOf_any (lo hi : Nat) (v : Value) (m : Md) (x : Int) (w : World) (hr : Mv lo hi w v m) (hhi : hi ≤ w.heap.size) :
    Calls Try.prog 19 #[v, .int .i64 x] w (IntsAns w (sprR m x)) := by
  have KG := Lib.hid (fun W (h : Below w.heap.size w W) => gridOf_any lo hi v m W (hr.keeps (Keeps.of_all h)) (Nat.le_trans hhi h.size))
  have HR : Hid (sprR m x = if mdOk m && inB x m.facts.length then spreadR m x.toNat else []) := Lib.hid rfl
  generalize sprR m x = R at *
  obtain ⟨fv, bv, rfl, hf, hb⟩ := hr
  clear hf hb hhi
  cases hm : mdOk m with
  | false =>
    simp only [hm, Bool.false_eq_true, if_false] at KG
    have HR' : Hid (R = []) := Lib.hid (by rw [HR.out, hm]; rfl)
    clear HR hm
    unfold GdAns at KG
    simp only [Option.getD_none, Option.isSome_none] at KG
    have HLG : Hid ((ints (gL 0 0 [] [] 0)).length = 67) := Lib.hid rfl
    have HLO := Lib.hid (fun v (hv : v ∈ ints (gL 0 0 [] [] 0)) => ints_one hv)
    obtain ⟨G, hG⟩ : ∃ G, G = gL 0 0 [] [] 0 := ⟨_, rfl⟩
    rw [← hG] at KG HLG HLO
    clear hG
    go_enter Try.func19, Try.ntmps19
    go_wp2_with fail
    refine (KG.out _ (by go_grown)).mono ?_
    rintro e w1 ⟨rfl, hb1⟩
    have B1 : Hid (Below w.heap.size w w1) := Lib.hid (Below.trans (by go_grown) (hb1.mono (by simp; omega)))
    clear hb1
    have tk1 : True := trivial
    have tk2 : True := trivial
    go_wp2_with
      (first
        | (have _t := tk1; clear _t tk1; refine wpList_allocM rfl 62 rfl (ints (gL 0 0 [] [] 0)) Try.allocGrid ?_
           intro w2 hc2 hb2 hs2
           have CC := Lib.hid hc2
           have BB : Hid (Below w.heap.size w w2) := Lib.hid (B1.out.trans (hb2.mono B1.out.size))
           clear hc2 hb2 hs2)
        | (have _t := tk2; clear _t tk2; refine wpList_storeM rfl 62 _ _ rfl w1.heap.size 0 rfl (ints G) rfl 62 (ints (gL 0 0 [] [] 0)) CC.out (by rw [HLG.out]; exact Nat.le_refl _) (by rw [HLG.out]; exact Try.sizeGrid) HLO.out ?_
           intro w3 hc3 ha3
           have BB : Hid (Below w.heap.size w w3) := Lib.hid (BB.out.trans (ha3.below B1.out.size))
           clear hc3 ha3))
    go_ret
    rw [HR'.out]
    exact ints_nil _ _ BB.out
  | true =>
    simp only [hm, if_true] at KG
    have hs := md_small hm
    have HLG : Hid ((ints (gL m.facts.length m.blocks.length m.facts m.blocks m.actual)).length = 67) := Lib.hid (by rw [ints_len]; exact gL_len hs)
    have HLO := Lib.hid (fun v (hv : v ∈ ints (gL m.facts.length m.blocks.length m.facts m.blocks m.actual)) => ints_one hv)
    unfold GdAns at KG
    simp only [Option.getD_some, Option.isSome_some] at KG
    unfold gOf at KG
    obtain ⟨p1, p2, p3, p4, -, -, p7, p8⟩ := mdOk_parts hm
    have KH := Lib.hid (fun W => hasWorld_any m.facts.length m.blocks.length m.actual m.facts m.blocks x W)
    rw [hm] at HR
    cases hi' : inB x m.facts.length with
    | false =>
      rw [hi'] at KH HR
      have HR' : Hid (R = []) := Lib.hid (by rw [HR.out]; rfl)
      generalize gL m.facts.length m.blocks.length m.facts m.blocks m.actual = G at *
      clear HR hi' hs hm
      go_enter Try.func19, Try.ntmps19
      go_wp2_with fail
      have XB0 : Hid (Cm ((w.alloc (.cells #[fv, bv, .int .i64 m.actual] 30)).alloc (.cells #[.int .i64 x] 3)) (w.heap.size + 1) 3 [.int .i64 x]) := Lib.hid (Cm.new (by simp))
      refine (KG.out _ (by go_grown)).mono ?_
      rintro e w1 ⟨rfl, hb1⟩
      have B1 : Hid (Below w.heap.size w w1) := Lib.hid (Below.trans (by go_grown) (hb1.mono (by simp; omega)))
      have XB := Lib.hid (XB0.out.all hb1)
      clear hb1 XB0
      have tk3 : True := trivial
      have tk4 : True := trivial
      have tk5 : True := trivial
      have tk6 : True := trivial
      go_wp2_with
        (first
          | (have _t := tk3; clear _t tk3; refine wpList_allocM rfl 62 rfl (ints (gL 0 0 [] [] 0)) Try.allocGrid ?_
             intro w2 hc2 hb2 hs2
             have CC := Lib.hid hc2
             have lx : w.heap.size + 1 < w1.heap.size := XB.out.lt
             have XB := Lib.hid (XB.out.all hb2)
             have BB : Hid (Below w.heap.size w w2) := Lib.hid (B1.out.trans (hb2.mono B1.out.size))
             clear hc2 hb2 hs2)
          | (have _t := tk4; clear _t tk4; refine wpList_storeM rfl 62 _ _ rfl w1.heap.size 0 rfl (ints G) rfl 62 (ints (gL 0 0 [] [] 0)) CC.out (by rw [HLG.out]; exact Nat.le_refl _) (by rw [HLG.out]; exact Try.sizeGrid) HLO.out ?_
             intro w3 hc3 ha3
             rw [lay'_all (by rw [HLG.out]; rfl)] at hc3
             have CC := Lib.hid hc3
             have XB := Lib.hid (ha3.cm XB.out (by omega))
             have BB : Hid (Below w.heap.size w w3) := Lib.hid (BB.out.trans (ha3.below B1.out.size))
             have cx := XB.out.one
             clear hc3 ha3)
          | (have _t := tk5; clear _t tk5; refine wpList_loadMG rfl (by rfl) 62 _ rfl w1.heap.size 0 rfl 62 (ints G) (ints G) CC.out (fun j _ => by rw [Nat.zero_add]) _ Try.underlying62 rfl (by rw [HLG.out]; exact Try.sizeGrid) ?_)
          | (have _t := tk6; clear _t tk6; go_at_call 47; (with_reducible refine (KH.out _).mono ?_); rintro e w4 ⟨rfl, hb4⟩; have BB : Hid (Below w.heap.size w w4) := Lib.hid (BB.out.trans (hb4.mono BB.out.size)); clear hb4 cx))
      go_ret
      rw [HR'.out]
      exact ints_nil _ _ BB.out
    | true =>
      obtain ⟨hx0, hxn⟩ := inB_parts hi'
      obtain ⟨y, rfl⟩ := Int.eq_ofNat_of_zero_le hx0
      have hyn : y < m.facts.length := by omega
      rw [hi'] at KH HR
      have KW := Lib.hid (fun caps W h => where_any m.facts.length m.blocks.length m.actual m.facts m.blocks hs p2 50 caps (fun j => decide (j = y)) W h)
      have KT := Lib.hid (fun W b hb => spread_test W b m.facts.length y hb)
      have KL := Lib.hid (fun W => levels_any m.facts.length m.blocks.length m.actual m.facts m.blocks hs p1 p2 p4 (cut m.facts.length fun j => decide (j = y)) (fun i h => cut_in h) W)
      have HID := Lib.hid (fun j (hj : j < m.facts.length) => idx_spread hm hyn hj)
      have HG0 : Hid (∀ W b T, Cm W b T (ints (gL m.facts.length m.blocks.length m.facts m.blocks m.actual)) → W.cell? ⟨b, 0, none⟩ = some (.int .i64 m.facts.length)) := Lib.hid (fun W b T h => h.g0)
      generalize gL m.facts.length m.blocks.length m.facts m.blocks m.actual = G at *
      generalize (cut m.facts.length fun j => decide (j = y)) = PC at *
      generalize levP m.blocks m.facts.length m.blocks.length PC = LP at *
      have HST := Lib.hid (fun u j (hj : j < 16) W h => stepsTo_any u LP m.facts.length p2 j hj W h)
      have HOS := Lib.hid (fun (W : World) base u (h : W.ownsRow base 76 16 u m.facts.length (setsV LP m.facts.length)) => SetsV.of_own p1 h)
      obtain ⟨sp, hsp⟩ : ∃ sp : Nat → Int, sp = fun j => idxI (fun k => LP k j) m.facts.length := ⟨_, rfl⟩
      have HSP : Hid (∀ j, idxI (fun k => LP k j) m.facts.length = sp j) := Lib.hid (fun j => by rw [hsp])
      have HRR : Hid (R = (List.range m.facts.length).map sp) := Lib.hid (by
        rw [HR.out, Int.toNat_natCast]
        show spreadR m y = _
        unfold spreadR
        refine List.map_congr_left fun j hj => ?_
        rw [← HSP.out, HID.out j (List.mem_range.1 hj)]
        cases distB m y j <;> rfl)
      have HMS : Hid (∀ k, (List.range (k + 1)).map sp = (List.range k).map sp ++ [sp k]) := Lib.hid (fun k => by rw [List.range_succ, List.map_append]; rfl)
      rw [HRR.out]
      generalize m.facts.length = n at *
      clear HRR HR hsp HID hi' hs hm p3 p4 p7 p8 hx0
      go_enter Try.func19, Try.ntmps19
      go_wp2_with fail
      have XB0 : Hid (Cm ((w.alloc (.cells #[fv, bv, .int .i64 m.actual] 30)).alloc (.cells #[.int .i64 y] 3)) (w.heap.size + 1) 3 [.int .i64 y]) := Lib.hid (Cm.new (by simp))
      refine (KG.out _ (by go_grown)).mono ?_
      rintro e w1 ⟨rfl, hb1⟩
      have B1 : Hid (Below w.heap.size w w1) := Lib.hid (Below.trans (by go_grown) (hb1.mono (by simp; omega)))
      have XB := Lib.hid (XB0.out.all hb1)
      clear hb1 XB0
      have tk7 : True := trivial
      have tk8 : True := trivial
      have tk9 : True := trivial
      have tk10 : True := trivial
      go_wp2_with
        (first
          | (have _t := tk7; clear _t tk7; refine wpList_allocM rfl 62 rfl (ints (gL 0 0 [] [] 0)) Try.allocGrid ?_
             intro w2 hc2 hb2 hs2
             have CC := Lib.hid hc2
             have lx : w.heap.size + 1 < w1.heap.size := XB.out.lt
             have XB := Lib.hid (XB.out.all hb2)
             have BB : Hid (Below w.heap.size w w2) := Lib.hid (B1.out.trans (hb2.mono B1.out.size))
             clear hc2 hb2 hs2)
          | (have _t := tk8; clear _t tk8; refine wpList_storeM rfl 62 _ _ rfl w1.heap.size 0 rfl (ints G) rfl 62 (ints (gL 0 0 [] [] 0)) CC.out (by rw [HLG.out]; exact Nat.le_refl _) (by rw [HLG.out]; exact Try.sizeGrid) HLO.out ?_
             intro w3 hc3 ha3
             rw [lay'_all (by rw [HLG.out]; rfl)] at hc3
             have CC := Lib.hid hc3
             have XB := Lib.hid (ha3.cm XB.out (by omega))
             have BB : Hid (Below w.heap.size w w3) := Lib.hid (BB.out.trans (ha3.below B1.out.size))
             have cx := XB.out.one
             clear hc3 ha3)
          | (have _t := tk9; clear _t tk9; refine wpList_loadMG rfl (by rfl) 62 _ rfl w1.heap.size 0 rfl 62 (ints G) (ints G) CC.out (fun j _ => by rw [Nat.zero_add]) _ Try.underlying62 rfl (by rw [HLG.out]; exact Try.sizeGrid) ?_)
          | (have _t := tk10; clear _t tk10; go_at_call 47; (with_reducible refine (KH.out _).mono ?_); rintro e w4 ⟨rfl, hb4⟩; have CC := Lib.hid (CC.out.all hb4); have XB := Lib.hid (XB.out.all hb4); have BB : Hid (Below w.heap.size w w4) := Lib.hid (BB.out.trans (hb4.mono BB.out.size)); clear hb4 cx))
      have HRG : Hid (∀ W, Below w4.heap.size w4 W → W.rangeAt w1.heap.size 0 (ints G)) := Lib.hid (fun W h => (CC.out.all h).whole)
      have HU : Try.prog.underlying 62 = some _ := Try.underlying62
      have hmf : ∀ (fn : Fn) (first cap : Array Value) (w : World), (Instr.makeFunc fn first cap).run Try.prog w = .ok (.func fn first cap) w := fun _ _ _ _ => rfl
      refine regionL (fun W => Below w4.heap.size w4 W) [] (by kernel_rfl) (Below.refl _ _).drew (fun hHeld => ?_)
      refine takeA (i := 0) (v := .agg (ints G).toArray) 23 rfl rfl (by kernel_rfl) (by kernel_rfl) (by kernel_rfl) (by kernel_rfl) (fun _ _ _ h => h) (yieldsIf_load_mid (by rfl) 62 _ rfl w1.heap.size 0 rfl (ints G) _ HRG.out HU rfl (by rw [HLG.out]; exact Try.sizeGrid)) hHeld ?_
      simp only [Act.put, List.setIfInBounds_toArray, List.set_cons_zero, List.set_cons_succ]
      refine takeA (i := 1) (v := .agg (ints G).toArray) 24 rfl rfl (by kernel_rfl) (by kernel_rfl) (by kernel_rfl) (by kernel_rfl) (fun _ _ _ h => h) (yieldsIf_load_mid (by rfl) 62 _ rfl w1.heap.size 0 rfl (ints G) _ HRG.out HU rfl (by rw [HLG.out]; exact Try.sizeGrid)) hHeld ?_
      simp only [Act.put, List.setIfInBounds_toArray, List.set_cons_zero, List.set_cons_succ]
      refine onlyL (i := 2) (by kernel_rfl) rfl (by rfl) (fun K hK => ?_)
      go_simp
      refine hK.out _ _ (fun _ => hHeld) (fun hHeld => ?_)
      have hHeld := hHeld (by decide)
      clear hK K
      try simp only [Act.put, List.setIfInBounds_toArray, List.set_cons_zero, List.set_cons_succ]
      refine onlyL (i := 3) (by kernel_rfl) rfl (by rfl) (fun K hK => ?_)
      go_simp
      refine (KW.out _ _ (KT.out _ _ (XB.out.all hHeld))).mono ?_
      rintro e w5 ⟨rfl, hb5⟩
      have t5 : Below w4.heap.size w4 w5 := hHeld.trans (hb5.mono (Nat.le_refl _))
      clear hb5 hHeld
      refine hK.out _ _ (fun _ => t5) (fun hHeld => ?_)
      have hHeld := hHeld (by decide)
      clear hK K
      try simp only [Act.put, List.setIfInBounds_toArray, List.set_cons_zero, List.set_cons_succ]
      refine onlyL (i := 4) (by kernel_rfl) rfl (by rfl) (fun K hK => ?_)
      go_simp
      refine (KL.out _).mono ?_
      rintro e w6 ⟨lv, rfl, ho6, hb6⟩
      have t6 : Below w4.heap.size w4 w6 := t5.trans (hb6.mono t5.size)
      have S6 := Lib.hid (HOS.out _ _ _ ho6)
      clear hb6 hHeld ho6
      refine hK.out _ _ (fun _ => t6) (fun hHeld => ?_)
      have hHeld := hHeld (by decide)
      clear hK K
      try simp only [Act.put, List.setIfInBounds_toArray, List.set_cons_zero, List.set_cons_succ]
      refine takeA (i := 5) (v := lv) 7 rfl rfl (by kernel_rfl) (by kernel_rfl) (by kernel_rfl) (by kernel_rfl) (fun _ _ _ h => h) (Or.inl ⟨by rfl, by intro W hSw; go_simp⟩) hHeld ?_
      simp only [Act.put, List.setIfInBounds_toArray, List.set_cons_zero, List.set_cons_succ]
      refine doneL (by kernel_rfl) ?_ _
      try simp only [List.getElem_toArray, List.getElem_cons_succ, List.getElem_cons_zero]
      have CC := Lib.hid (CC.out.all t6)
      have BB : Hid (Below w.heap.size w w6) := Lib.hid (BB.out.trans (t6.mono BB.out.size))
      have hw16 : w1.heap.size < w6.heap.size := CC.out.lt
      have hz6 : w.heap.size ≤ w6.heap.size := BB.out.size
      have c0 := HG0.out _ _ _ CC.out
      clear t5 t6 hHeld HRG XB
      go_wp2
      clear c0
      go_loopw [8, 30] (fun av iv wr => ∃ (k : Nat) (av' : Value), k ≤ n ∧ iv = .int .i64 k ∧ av' = av ∧ Hid (wr.ownsRow w6.heap.size 3 1 av' k (ints ((List.range k).map sp))) ∧ Hid (Below w6.heap.size w6 wr)) (fun _ iv _ => n - (intOf iv).toNat)
      case atStart => exact ⟨0, _, Nat.zero_le _, rfl, rfl, Lib.hid (World.ownsRow_nil _ _ _ _), Lib.hid (Below.refl _ _)⟩
      case round =>
        obtain ⟨k, av, hk, rfl, rfl, AR, BR⟩ := hrel
        by_cases hlt : k < n
        · have hszr : w6.heap.size ≤ wr.heap.size := BR.out.size
          have SR := Lib.hid (S6.out.below BR.out)
          have k0 : (0 : Int) ≤ (k : Int) := Int.natCast_nonneg _
          have kn : (k : Int) < (n : Int) := by omega
          have HMk := Lib.hid (HMS.out k)
          go_wp2_with fail
          refine (HST.out lv k (by omega) _ SR.out).mono ?_
          rw [HSP.out]
          rintro e w7 ⟨rfl, hb7⟩
          have AR := Lib.hid (own_below' AR.out hb7)
          have BR := Lib.hid (BR.out.trans (hb7.mono hszr))
          have hsz7 : w6.heap.size ≤ w7.heap.size := BR.out.size
          have HLB : Hid (∀ q, av.ownBlock = some q → w6.heap.size ≤ q) := Lib.hid (fun q hq => (AR.out.lt q hq).1)
          clear hb7 SR
          go_wp2_with (at_builtin; refine wpList_pushL rfl (.tmp 33) (.tmp 37) 22 38 rfl rfl 3 (.int .i64 0) 8 Try.underlying22 Try.infoI rfl w6.heap.size (.int .i64 (sp k)) av k (ints ((List.range k).map sp)) AR.out rfl w7.heap.size rfl rfl rfl (by unfold maxLen; omega) (by omega) hsz7 ?_; intro v8 w8 hown hg; have L8 := Lib.hid hown; have B8 : Hid (Below w6.heap.size w6 w8) := Lib.hid (BR.out.trans (hg.below hsz7 HLB.out)); clear hown hg)
          go_roundw
          case rel =>
            refine ⟨k + 1, _, by omega, by go_num, rfl, Lib.hid ?_, B8⟩
            rw [HMk.out, ints_app]
            exact L8.out
          case measure => simp [intOf]; omega
        · obtain rfl : k = n := by omega
          go_wp2
          go_ret
          exact ⟨_, rfl, (Ro.of_own AR.out).wide hz6 (Nat.le_refl _), BB.out.trans (BR.out.mono hz6)⟩
end Go.Proofs.Ythjfanhhindjlaa
