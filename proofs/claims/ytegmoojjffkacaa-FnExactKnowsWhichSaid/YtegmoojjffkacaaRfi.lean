/-
  Contract of impl.ReachedFrom. No condition.
-/
import Derived.Test.YtegmoojjffkacaaRea
namespace Go.Proofs.Ytegmoojjffkacaa
open Go.RowKit Go.WideShapes
open Go Go.Deep
set_option linter.unusedSimpArgs false

/-- what ReachedFrom answers -/
def reachR (m : Md) (x : Int) : List Int := if mdOk m && inB x m.facts.length then nums (lst (reachB m.blocks m.facts.length m.blocks.length x.toNat) 16) else []
theorem reachR_len (m : Md) (x : Int) : (reachR m x).length ≤ 1048576 := by
  unfold reachR
  split
  · rw [nums_len]; have := lst_len (reachB m.blocks m.facts.length m.blocks.length x.toNat) 16; omega
  · simp
theorem ints_nil (w w' : World) (h : Below w.heap.size w w') : IntsAns w [] (.returned (.slice none 0 0)) w' := ⟨_, rfl, Ro.nil _ _ _ _, h⟩

set_option maxRecDepth 100000 in
set_option maxHeartbeats 16000000 in
theorem implReached_any (lo hi : Nat) (v : Value) (m : Md) (x : Int) (w : World) (hr : Mv lo hi w v m) (hhi : hi ≤ w.heap.size) :
    Calls Try.prog 28 #[v, .int .i64 x] w (IntsAns w (reachR m x)) := by
  have KG := Lib.hid (fun W (h : Below w.heap.size w W) => gridOf_any lo hi v m W (hr.keeps (Keeps.of_all h)) (Nat.le_trans hhi h.size))
  have HR : Hid (reachR m x = if mdOk m && inB x m.facts.length then nums (lst (reachB m.blocks m.facts.length m.blocks.length x.toNat) 16) else []) := Lib.hid rfl
  generalize reachR m x = R at *
  obtain ⟨fv, bv, rfl, hf, hb⟩ := hr
  clear hf hb hhi
  cases hm : mdOk m with
  | false =>
    simp only [hm, Bool.false_eq_true, if_false] at KG
    have HR' : Hid (R = []) := Lib.hid (by rw [HR.out, hm]; rfl)
    clear HR hm
    unfold GdAns at KG
    simp only [Option.getD_none, Option.isSome_none] at KG
    have HLG : Hid ((ints (gL 0 0 [] [] 0)).length = 67) := Lib.hid rfl
    have HLO := Lib.hid (fun v (hv : v ∈ ints (gL 0 0 [] [] 0)) => ints_one hv)
    obtain ⟨G, hG⟩ : ∃ G, G = gL 0 0 [] [] 0 := ⟨_, rfl⟩
    rw [← hG] at KG HLG HLO
    clear hG
    go_enter Try.func28, Try.ntmps28
    go_wp2_with fail
    refine (KG.out _ (by go_grown)).mono ?_
    rintro e w1 ⟨rfl, hb1⟩
    have B1 : Hid (Below w.heap.size w w1) := Lib.hid (Below.trans (by go_grown) (hb1.mono (by simp)))
    clear hb1
    have tk1 : True := trivial
    have tk2 : True := trivial
    go_wp2_with
      (first
        | (have _t := tk1; clear _t tk1; refine wpList_allocM rfl 75 rfl (ints (gL 0 0 [] [] 0)) Try.allocGrid ?_
           intro w2 hc2 hb2 hs2
           have CC := Lib.hid hc2
           have BB : Hid (Below w.heap.size w w2) := Lib.hid (B1.out.trans (hb2.mono B1.out.size))
           clear hc2 hb2 hs2)
        | (have _t := tk2; clear _t tk2; refine wpList_storeM rfl 75 _ _ rfl w1.heap.size 0 rfl (ints G) rfl 75 (ints (gL 0 0 [] [] 0)) CC.out (by rw [HLG.out]; exact Nat.le_refl _) (by rw [HLG.out]; exact Try.sizeGrid) HLO.out ?_
           intro w3 hc3 ha3
           have BB : Hid (Below w.heap.size w w3) := Lib.hid (BB.out.trans (ha3.below B1.out.size))
           clear hc3 ha3))
    go_ret
    rw [HR'.out]
    exact ints_nil _ _ BB.out
  | true =>
    simp only [hm, if_true] at KG
    have hs := md_small hm
    have HLG : Hid ((ints (gL m.facts.length m.blocks.length m.facts m.blocks m.actual)).length = 67) := Lib.hid (by rw [ints_len]; exact gL_len hs)
    have HLO := Lib.hid (fun v (hv : v ∈ ints (gL m.facts.length m.blocks.length m.facts m.blocks m.actual)) => ints_one hv)
    unfold GdAns at KG
    simp only [Option.getD_some, Option.isSome_some] at KG
    unfold gOf at KG
    obtain ⟨p1, p2, p3, p4, -⟩ := mdOk_parts hm
    have KW := Lib.hid (fun W => hasWorld_any m.facts.length m.blocks.length m.actual m.facts m.blocks x W)
    have KR := Lib.hid (fun i (h : i < m.facts.length) W => reached_any m.facts.length m.blocks.length m.actual m.facts m.blocks hs p2 p3 p4 i h W)
    have KL := Lib.hid (fun i W => setList_any (reachB m.blocks m.facts.length m.blocks.length i) W)
    rw [hm] at HR
    generalize gL m.facts.length m.blocks.length m.facts m.blocks m.actual = G at *
    clear hs hm
    cases hi' : inB x m.facts.length with
    | false =>
      rw [hi'] at KW HR
      have HR' : Hid (R = []) := Lib.hid (by rw [HR.out]; rfl)
      clear HR hi' KR KL
      go_enter Try.func28, Try.ntmps28
      go_wp2_with fail
      refine (KG.out _ (by go_grown)).mono ?_
      rintro e w1 ⟨rfl, hb1⟩
      have B1 : Hid (Below w.heap.size w w1) := Lib.hid (Below.trans (by go_grown) (hb1.mono (by simp)))
      clear hb1
      have tk3 : True := trivial
      have tk4 : True := trivial
      have tk5 : True := trivial
      have tk6 : True := trivial
      go_wp2_with
        (first
          | (have _t := tk3; clear _t tk3; refine wpList_allocM rfl 75 rfl (ints (gL 0 0 [] [] 0)) Try.allocGrid ?_
             intro w2 hc2 hb2 hs2
             have CC := Lib.hid hc2
             have BB : Hid (Below w.heap.size w w2) := Lib.hid (B1.out.trans (hb2.mono B1.out.size))
             clear hc2 hb2 hs2)
          | (have _t := tk4; clear _t tk4; refine wpList_storeM rfl 75 _ _ rfl w1.heap.size 0 rfl (ints G) rfl 75 (ints (gL 0 0 [] [] 0)) CC.out (by rw [HLG.out]; exact Nat.le_refl _) (by rw [HLG.out]; exact Try.sizeGrid) HLO.out ?_
             intro w3 hc3 ha3
             rw [lay'_all (by rw [HLG.out]; rfl)] at hc3
             have CC := Lib.hid hc3
             have BB : Hid (Below w.heap.size w w3) := Lib.hid (BB.out.trans (ha3.below B1.out.size))
             clear hc3 ha3)
          | (have _t := tk5; clear _t tk5; refine wpList_loadMG rfl (by rfl) 75 _ rfl w1.heap.size 0 rfl 75 (ints G) (ints G) CC.out (fun j _ => by rw [Nat.zero_add]) _ Try.underlying75 rfl (by rw [HLG.out]; exact Try.sizeGrid) ?_)
          | (have _t := tk6; clear _t tk6; go_at_call 68; (with_reducible refine (KW.out _).mono ?_); rintro e w4 ⟨rfl, hb4⟩; have BB : Hid (Below w.heap.size w w4) := Lib.hid (BB.out.trans (hb4.mono BB.out.size)); clear hb4))
      go_ret
      rw [HR'.out]
      exact ints_nil _ _ BB.out
    | true =>
      obtain ⟨hx0, hxn⟩ := inB_parts hi'
      obtain ⟨i, rfl⟩ := Int.eq_ofNat_of_zero_le hx0
      rw [hi'] at KW HR
      have HR' : Hid (R = nums (lst (reachB m.blocks m.facts.length m.blocks.length i) 16)) := Lib.hid (by rw [HR.out, Int.toNat_natCast]; rfl)
      have KR := Lib.hid (KR.out i (by omega))
      have KL := Lib.hid (KL.out i)
      rw [HR'.out]
      clear HR hi' HR'
      generalize reachB m.blocks m.facts.length m.blocks.length i = S at *
      go_enter Try.func28, Try.ntmps28
      go_wp2_with fail
      refine (KG.out _ (by go_grown)).mono ?_
      rintro e w1 ⟨rfl, hb1⟩
      have B1 : Hid (Below w.heap.size w w1) := Lib.hid (Below.trans (by go_grown) (hb1.mono (by simp)))
      clear hb1
      have tk7 : True := trivial
      have tk8 : True := trivial
      have tk9 : True := trivial
      have tk10 : True := trivial
      have tk11 : True := trivial
      have tk12 : True := trivial
      go_wp2_with
        (first
          | (have _t := tk7; clear _t tk7; refine wpList_allocM rfl 75 rfl (ints (gL 0 0 [] [] 0)) Try.allocGrid ?_
             intro w2 hc2 hb2 hs2
             have CC := Lib.hid hc2
             have BB : Hid (Below w.heap.size w w2) := Lib.hid (B1.out.trans (hb2.mono B1.out.size))
             clear hc2 hb2 hs2)
          | (have _t := tk8; clear _t tk8; refine wpList_storeM rfl 75 _ _ rfl w1.heap.size 0 rfl (ints G) rfl 75 (ints (gL 0 0 [] [] 0)) CC.out (by rw [HLG.out]; exact Nat.le_refl _) (by rw [HLG.out]; exact Try.sizeGrid) HLO.out ?_
             intro w3 hc3 ha3
             rw [lay'_all (by rw [HLG.out]; rfl)] at hc3
             have CC := Lib.hid hc3
             have BB : Hid (Below w.heap.size w w3) := Lib.hid (BB.out.trans (ha3.below B1.out.size))
             clear hc3 ha3)
          | (have _t := tk9; clear _t tk9; refine wpList_loadMG rfl (by rfl) 75 _ rfl w1.heap.size 0 rfl 75 (ints G) (ints G) CC.out (fun j _ => by rw [Nat.zero_add]) _ Try.underlying75 rfl (by rw [HLG.out]; exact Try.sizeGrid) ?_)
          | (have _t := tk10; clear _t tk10; go_at_call 68; (with_reducible refine (KW.out _).mono ?_); rintro e w4 ⟨rfl, hb4⟩; have CC := Lib.hid (CC.out.all hb4); have BB : Hid (Below w.heap.size w w4) := Lib.hid (BB.out.trans (hb4.mono BB.out.size)); clear hb4)
          | (have _t := tk11; clear _t tk11; refine wpList_loadM rfl 75 _ rfl w1.heap.size 0 rfl 75 (ints G) (ints G) CC.out (fun j _ => by rw [Nat.zero_add]) _ Try.underlying75 rfl (by rw [HLG.out]; exact Try.sizeGrid) ?_)
          | (have _t := tk12; clear _t tk12; go_at_call 79; (with_reducible refine (KR.out _).mono ?_); rintro e w5 ⟨rfl, hb5⟩; have BB : Hid (Below w.heap.size w w5) := Lib.hid (BB.out.trans (hb5.mono BB.out.size)); clear hb5))
      refine (KL.out _).mono ?_
      rintro e w6 ⟨v6, rfl, ho6, hb6⟩
      have O6 := Lib.hid ho6
      have B6 := Lib.hid (BB.out.trans (hb6.mono BB.out.size))
      have hz := BB.out.size
      clear ho6 hb6
      go_wp2
      go_ret
      exact ⟨_, rfl, O6.out.wide hz (Nat.le_refl _), B6.out⟩
end Go.Proofs.Ytegmoojjffkacaa
