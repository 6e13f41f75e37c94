/-
  impl.LeastModel. No condition but the reading.
-/
import Derived.Test.YtodjohdbngbpaaaGeq
import Derived.Test.YtodjohdbngbpaaaZSem
namespace Go.Proofs.Ytodjohdbngbpaaa
open Go.RowKit Go.WideShapes
open Go Go.Deep
set_option linter.unusedSimpArgs false

set_option maxRecDepth 100000 in
set_option maxHeartbeats 16000000 in
theorem implLeast_any (lo hi : Nat) (v : Value) (m : Md) (w : World) (hr : Mv lo hi w v m) (hhi : hi ≤ w.heap.size) :
    Calls Try.prog 28 #[v] w (MdAns2 w (leastR m)) := by
  have KG := Lib.hid (fun W (h : Below w.heap.size w W) => gridOf_any lo hi v m W (hr.keeps (Keeps.of_all h)) (Nat.le_trans hhi h.size))
  have HR : Hid (leastR m = if mdOk m then some (leastM m) else none) := Lib.hid rfl
  generalize leastR m = R at *
  obtain ⟨fv, bv, rfl, hf, hb⟩ := hr
  clear hf hb hhi
  cases hm : mdOk m with
  | false =>
    simp only [hm, Bool.false_eq_true, if_false] at KG
    have HR' : Hid (R = none) := Lib.hid (by rw [HR.out, hm]; rfl)
    clear HR hm
    unfold GdAns at KG
    simp only [Option.getD_none, Option.isSome_none] at KG
    have HLG : Hid ((ints (gL 0 0 [] [] 0)).length = 67) := Lib.hid rfl
    have HLO := Lib.hid (fun v (hv : v ∈ ints (gL 0 0 [] [] 0)) => ints_one hv)
    obtain ⟨G, hG⟩ : ∃ G, G = gL 0 0 [] [] 0 := ⟨_, rfl⟩
    rw [← hG] at KG HLG HLO
    clear hG
    go_enter Try.func28, Try.ntmps28
    go_wp2_with fail
    refine (KG.out _ (by go_grown)).mono ?_
    rintro e w1 ⟨rfl, hb1⟩
    have M1 := Lib.hid (Mcell.below (b := w.heap.size + 1) (Mcell.new (by simp)) hb1)
    have B1 : Hid (Below w.heap.size w w1) := Lib.hid (Below.trans (by go_grown) (hb1.mono (by simp; omega)))
    clear hb1
    go_wp2_with
      (first
        | (refine wpList_allocM rfl 60 rfl (ints (gL 0 0 [] [] 0)) Try.allocGrid ?_
           intro w2 hc2 hb2 hs2
           have CC := Lib.hid hc2
           have BB : Hid (Below w.heap.size w w2) := Lib.hid (B1.out.trans (hb2.mono B1.out.size))
           have MM := Lib.hid (M1.out.below hb2)
           have hgb : w.heap.size + 1 < w1.heap.size := M1.out.lt
           clear hc2 hb2 hs2 M1)
        | (refine wpList_storeM rfl 60 _ _ rfl w1.heap.size 0 rfl (ints G) rfl 60 (ints (gL 0 0 [] [] 0)) CC.out (by rw [HLG.out]; exact Nat.le_refl _) (by rw [HLG.out]; exact Try.sizeGrid) HLO.out ?_
           intro w3 hc3 ha3
           rw [lay'_all (by rw [HLG.out]; rfl)] at hc3
           have CC := Lib.hid hc3
           have BB : Hid (Below w.heap.size w w3) := Lib.hid (BB.out.trans (ha3.below B1.out.size))
           have MM := Lib.hid (MM.out.of_block (ha3.block _ (by omega)))
           obtain ⟨mc0, mc1, mc2, mc3, mc4, mc5⟩ := MM.out
           clear hc3 ha3))
    clear mc0 mc1 mc2 mc3 mc4 mc5
    have M6 := MM.out.write (.slice none 0 0) (.slice none 0 0) 0
    refine bodyPost_ret (results_mid2 Try.results28 _ _ (w.heap.size + 1) _ _ (.bool false) rfl rfl M6.range Try.underlying27 rfl Try.sizeMd) rfl ?_
    rw [HR'.out]
    exact ⟨_, rfl, Mo.none _ _ _, ((BB.out.setCell (by show _ ≤ w.heap.size + 1; omega) _).setCell (by show _ ≤ w.heap.size + 1; omega) _).setCell (by show _ ≤ w.heap.size + 1; omega) _⟩
  | true =>
    simp only [hm, if_true] at KG
    have hs := md_small hm
    have hR := leastOf_ok (reach_ok hm)
    unfold GdAns at KG
    simp only [Option.getD_some, Option.isSome_some] at KG
    unfold gOf at KG
    have HLG : Hid ((ints (gM2 m)).length = 67) := Lib.hid (by rw [ints_len]; exact gL_len hs)
    have HLO := Lib.hid (fun v (hv : v ∈ ints (gM2 m)) => ints_one hv)
    have KRS := Lib.hid (fun W => least_any m hm W)
    have KM : Hid (∀ W, Calls Try.prog 33 #[.agg (ints (gM2 (leastM m))).toArray] W (MdAns W (leastM m))) := Lib.hid (fun W => gridModel_any (leastM m) (md_fits hR) W)
    have HR' : Hid (R = some (leastM m)) := Lib.hid (by rw [HR.out, hm]; rfl)
    change Hid (∀ W, _ → Calls _ _ _ W fun e w' => e = .returned (.tuple #[.agg (ints (gM2 m)).toArray, .bool true]) ∧ _) at KG
    clear HR hs hR hm
    generalize gM2 (leastM m) = G2 at *
    generalize gM2 m = G at *
    generalize leastM m = RM at *
    go_enter Try.func28, Try.ntmps28
    go_wp2_with fail
    refine (KG.out _ (by go_grown)).mono ?_
    rintro e w1 ⟨rfl, hb1⟩
    have M1 := Lib.hid (Mcell.below (b := w.heap.size + 1) (Mcell.new (by simp)) hb1)
    have B1 : Hid (Below w.heap.size w w1) := Lib.hid (Below.trans (by go_grown) (hb1.mono (by simp; omega)))
    clear hb1
    go_wp2_with
      (first
        | (refine wpList_allocM rfl 60 rfl (ints (gL 0 0 [] [] 0)) Try.allocGrid ?_
           intro w2 hc2 hb2 hs2
           have CC := Lib.hid hc2
           have BB : Hid (Below w.heap.size w w2) := Lib.hid (B1.out.trans (hb2.mono B1.out.size))
           have MM := Lib.hid (M1.out.below hb2)
           have hgb : w.heap.size + 1 < w1.heap.size := M1.out.lt
           clear hc2 hb2 hs2 M1)
        | (refine wpList_storeM rfl 60 _ _ rfl w1.heap.size 0 rfl (ints G) rfl 60 (ints (gL 0 0 [] [] 0)) CC.out (by rw [HLG.out]; exact Nat.le_refl _) (by rw [HLG.out]; exact Try.sizeGrid) HLO.out ?_
           intro w3 hc3 ha3
           rw [lay'_all (by rw [HLG.out]; rfl)] at hc3
           have CC := Lib.hid hc3
           have BB : Hid (Below w.heap.size w w3) := Lib.hid (BB.out.trans (ha3.below B1.out.size))
           have MM := Lib.hid (MM.out.of_block (ha3.block _ (by omega)))
           clear hc3 ha3)
        | (refine wpList_loadM rfl 60 _ rfl w1.heap.size 0 rfl 60 (ints G) (ints G) CC.out (fun j _ => by rw [Nat.zero_add]) _ Try.underlying60 rfl (by rw [HLG.out]; exact Try.sizeGrid) ?_))
    refine (KRS.out _).mono ?_
    rintro e w7 ⟨rfl, hb7⟩
    have M7 := Lib.hid (MM.out.below hb7)
    have B7 := Lib.hid (BB.out.trans (hb7.mono BB.out.size))
    clear hb7
    go_wp2_with fail
    refine (KM.out _).mono ?_
    rintro e w8 ⟨v8, rfl, ho8, hb8⟩
    have M8 := Lib.hid (M7.out.below hb8)
    have B8 := Lib.hid (B7.out.trans (hb8.mono B7.out.size))
    have O8 := Lib.hid ho8
    have hz2 : w.heap.size + 1 < w7.heap.size := M7.out.lt
    obtain ⟨qa, qc, pa, pc, e3⟩ := ho8.read.form
    subst e3
    clear ho8 hb8
    obtain ⟨mc0, mc1, mc2, mc3, mc4, mc5⟩ := M8.out
    go_wp2
    clear mc0 mc1 mc2 mc3 mc4 mc5
    obtain ⟨o9, b9, m9⟩ := ans_put (m := RM) M8.out O8.out hz2 (by omega) (Nat.le_refl _) B8.out
    refine bodyPost_ret (results_mid2 Try.results28 _ _ (w.heap.size + 1) _ _ (.bool true) rfl rfl m9.range Try.underlying27 rfl Try.sizeMd) rfl ?_
    rw [HR'.out]
    exact ⟨_, rfl, o9, b9⟩
end Go.Proofs.Ytodjohdbngbpaaa
