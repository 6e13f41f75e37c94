/-
  AnnounceAll of both sides: formulas announced in order. No condition but the readings.
-/
import Derived.Test.YtgmpenchojnihaaGreatAni
import Derived.Test.YtgmpenchojnihaaGreatNss
import Derived.Test.YtgmpenchojnihaaGreatZReg
import Derived.Test.YtgmpenchojnihaaGreatGof
import Derived.Test.YtgmpenchojnihaaGreatZMok
namespace Go.Proofs.YtgmpenchojnihaaGreat
open Go.RowKit Go.WideShapes
open Go Go.Deep
set_option linter.unusedSimpArgs false

/-- formulas are announced in order -/
def annList (m : Md) : List (List Nd) → Option Md
  | [] => some m
  | f :: r => match annR m f with
    | some R => annList R r
    | none => none
/-- what AnnounceAll answers -/
def annAllR (m : Md) (ll : List (List Nd)) : Option Md := if mdOk m && decide (ll.length ≤ 20) then annList m ll else none
theorem annList_none {M : Md} {ll : List (List Nd)} {k : Nat} (hk : k < ll.length) (h : annR M (ll.getD k []) = none) : annList M (ll.drop k) = none := by
  rw [List.drop_eq_getElem_cons hk, annList]
  rw [List.getD_eq_getElem?_getD, List.getElem?_eq_getElem hk] at h
  simp only [Option.getD_some] at h
  rw [h]
theorem annList_some {M R : Md} {ll : List (List Nd)} {k : Nat} (hk : k < ll.length) (h : annR M (ll.getD k []) = some R) : annList M (ll.drop k) = annList R (ll.drop (k + 1)) := by
  rw [List.drop_eq_getElem_cons hk, annList]
  rw [List.getD_eq_getElem?_getD, List.getElem?_eq_getElem hk] at h
  simp only [Option.getD_some] at h
  rw [h]
theorem annR_fits {m R : Md} {xs : List Nd} (h : annR m xs = some R) : fits R := by
  unfold annR at h
  split at h
  · rename_i hh; cases h; exact ann_fits hh
  · cases h
theorem annList_fits : ∀ (ll : List (List Nd)) {m R : Md}, fits m → annList m ll = some R → fits R
  | [], m, R, h, e => by cases e; exact h
  | f :: r, m, R, h, e => by
    unfold annList at e
    cases h1 : annR m f with
    | none => rw [h1] at e; cases e
    | some Q => rw [h1] at e; exact annList_fits r (annR_fits h1) e
theorem md_fits2 {m : Md} (h : mdOk m = true) : fits m := by
  obtain ⟨p1, p2, p3, p4, p5, _⟩ := mdOk_parts h
  exact ⟨p2, p4, fun k hk => (p5 k hk).1⟩
theorem annAll_size (m : Md) (ll : List (List Nd)) : msize ((annAllR m ll).getD ⟨[], [], 0⟩) + ((annAllR m ll).getD ⟨[], [], 0⟩).blocks.length ≤ 1048576 := by
  unfold annAllR
  split
  · rename_i h
    rw [Bool.and_eq_true] at h
    cases e : annList m ll with
    | none => decide
    | some R => exact fits_size (annList_fits ll (md_fits2 h.1) e)
  · decide
theorem ans_put2 {w3 : World} {b lo hi : Nat} {fv bv fv0 bv0 : Value} {m : Md} {n0 : Int} (hM : Mcell w3 b fv0 bv0 n0) (hO : Mo lo hi w3 (.agg #[fv, bv, .int .i64 m.actual]) m) (hb : b < lo) :
    Mo lo hi (((w3.setCell ⟨b, 0, none⟩ fv).setCell ⟨b, 1, none⟩ bv).setCell ⟨b, 2, none⟩ (.int .i64 m.actual)) (.agg #[fv, bv, .int .i64 m.actual]) m ∧ Mcell (((w3.setCell ⟨b, 0, none⟩ fv).setCell ⟨b, 1, none⟩ bv).setCell ⟨b, 2, none⟩ (.int .i64 m.actual)) b fv bv m.actual :=
  ⟨hO.keeps (((Keeps.setCell _ _ _ _ (.inl hb)).set (.inl hb) _ _).set (.inl hb) _ _), hM.write _ _ _⟩

set_option maxRecDepth 100000 in
set_option maxHeartbeats 16000000 in
theorem implAnnAll_any (lo hi lo2 hi2 : Nat) (v v2 : Value) (m : Md) (ll : List (List Nd)) (w : World) (hr : Mv lo hi w v m) (hhi : hi ≤ w.heap.size) (hr2 : Nvv lo2 hi2 w v2 ll) :
    Calls Tryz.prog 23 #[v, v2] w (MdAns2 w (annAllR m ll)) := by
  have KG := Lib.hid (fun W (h : Below w.heap.size w W) => gridOf_any lo hi v m W (hr.keeps (Keeps.of_all h)) (Nat.le_trans hhi h.size))
  obtain ⟨a2, c2, rfl, q1, q2, q3⟩ := hr2.parts
  have H2 := Lib.hid q3
  unfold maxLen at q2
  obtain ⟨fv, bv, rfl, hf, hb⟩ := hr
  clear hf hb hr2 q3
  by_cases hbad : mdOk m = false ∨ 20 < ll.length
  · have HA : Hid (annAllR m ll = none) := Lib.hid (by
      unfold annAllR
      rcases hbad with h | h
      · rw [h]; rfl
      · rw [decide_eq_false (p := ll.length ≤ 20) (by omega), Bool.and_false]; rfl)
    obtain ⟨G, ok, hG, hKG, hor⟩ : ∃ (G : List Int) (ok : Bool), (ints G).length = 67 ∧ (∀ W, Below w.heap.size w W → Calls Tryz.prog 63 #[.agg #[fv, bv, .int .i64 m.actual]] W fun e w' => e = .returned (.tuple #[.agg (ints G).toArray, .bool ok]) ∧ Below W.heap.size W w') ∧ (ok = false ∨ 20 < ll.length) := by
      have KG := KG.out
      unfold GdAns at KG
      cases hm : mdOk m with
      | false =>
        simp only [hm, Bool.false_eq_true, if_false, Option.getD_none, Option.isSome_none] at KG
        exact ⟨_, _, rfl, KG, .inl rfl⟩
      | true =>
        simp only [hm, if_true, Option.getD_some, Option.isSome_some] at KG
        exact ⟨_, _, by rw [ints_len]; exact gL_len (md_small hm), KG, .inr (hbad.resolve_left (by rw [hm]; decide))⟩
    have KG := Lib.hid hKG
    have HLG := Lib.hid hG
    clear hbad hKG hG H2
    have hdec : ok = false ∨ (ok = true ∧ decide ((20 : Int) < (ll.length : Int)) = true) := by
      cases ok with
      | false => exact .inl rfl
      | true => exact .inr ⟨rfl, decide_eq_true (by have := hor.resolve_left (by decide); omega)⟩
    clear hor
    rcases hdec with rfl | ⟨rfl, d20⟩
    · go_enter Tryz.func23, Tryz.ntmps23
      go_wp2_with fail
      refine (KG.out _ (by go_grown)).mono ?_
      rintro e w1 ⟨rfl, hb1⟩
      have M1 := Lib.hid (Mcell.below (b := w.heap.size + 1) (Mcell.new (by simp)) hb1)
      have B1 : Hid (Below w.heap.size w w1) := Lib.hid (Below.trans (by go_grown) (hb1.mono (by simp; omega)))
      have lt1 : w.heap.size + 1 < w1.heap.size := M1.out.lt
      clear hb1
      have tk1 : True := trivial
      have tk2 : True := trivial
      go_wp2_with
        (first
          | (have _t := tk1; clear _t tk1; refine wpList_allocM rfl 86 rfl (ints (gL 0 0 [] [] 0)) Tryz.allocGrid ?_
             intro w2 hc2 hb2 hs2
             have CC := Lib.hid hc2
             have B1 : Hid (Below w.heap.size w w2) := Lib.hid (B1.out.trans (hb2.mono B1.out.size))
             have M1 := Lib.hid (M1.out.below hb2)
             clear hc2 hb2 hs2)
          | (have _t := tk2; clear _t tk2; refine wpList_storeM rfl 86 (.tmp 6) (.tmp 14) rfl w1.heap.size 0 rfl (ints G) rfl 86 (ints (gL 0 0 [] [] 0)) CC.out (by rw [HLG.out]; exact Nat.le_refl _) (by rw [HLG.out]; exact Tryz.sizeGrid) (fun v hv => ints_one hv) ?_
             intro w3 hc3 ha3
             have B1 : Hid (Below w.heap.size w w3) := Lib.hid (B1.out.trans (ha3.below (by omega)))
             have M1 := Lib.hid (M1.out.of_block (ha3.block _ (by omega)))
             obtain ⟨mc0, mc1, mc2, mc3, mc4, mc5⟩ := M1.out
             clear hc3 ha3))
      clear mc0 mc1 mc2 mc3 mc4 mc5
      have M6 := M1.out.write (.slice none 0 0) (.slice none 0 0) 0
      refine bodyPost_ret (results_mid2 Tryz.results23 _ _ (w.heap.size + 1) _ _ (.bool false) rfl rfl M6.range Tryz.underlying29 rfl Tryz.sizeMd) rfl ?_
      rw [HA.out]
      exact ⟨_, rfl, Mo.none _ _ _, ((B1.out.setCell (by show _ ≤ w.heap.size + 1; omega) _).setCell (by show _ ≤ w.heap.size + 1; omega) _).setCell (by show _ ≤ w.heap.size + 1; omega) _⟩
    · go_enter Tryz.func23, Tryz.ntmps23
      go_wp2_with fail
      refine (KG.out _ (by go_grown)).mono ?_
      rintro e w1 ⟨rfl, hb1⟩
      have M1 := Lib.hid (Mcell.below (b := w.heap.size + 1) (Mcell.new (by simp)) hb1)
      have B1 : Hid (Below w.heap.size w w1) := Lib.hid (Below.trans (by go_grown) (hb1.mono (by simp; omega)))
      have lt1 : w.heap.size + 1 < w1.heap.size := M1.out.lt
      clear hb1
      have tk3 : True := trivial
      have tk4 : True := trivial
      go_wp2_with
        (first
          | (have _t := tk3; clear _t tk3; refine wpList_allocM rfl 86 rfl (ints (gL 0 0 [] [] 0)) Tryz.allocGrid ?_
             intro w2 hc2 hb2 hs2
             have CC := Lib.hid hc2
             have B1 : Hid (Below w.heap.size w w2) := Lib.hid (B1.out.trans (hb2.mono B1.out.size))
             have M1 := Lib.hid (M1.out.below hb2)
             clear hc2 hb2 hs2)
          | (have _t := tk4; clear _t tk4; refine wpList_storeM rfl 86 (.tmp 6) (.tmp 14) rfl w1.heap.size 0 rfl (ints G) rfl 86 (ints (gL 0 0 [] [] 0)) CC.out (by rw [HLG.out]; exact Nat.le_refl _) (by rw [HLG.out]; exact Tryz.sizeGrid) (fun v hv => ints_one hv) ?_
             intro w3 hc3 ha3
             have B1 : Hid (Below w.heap.size w w3) := Lib.hid (B1.out.trans (ha3.below (by omega)))
             have M1 := Lib.hid (M1.out.of_block (ha3.block _ (by omega)))
             obtain ⟨mc0, mc1, mc2, mc3, mc4, mc5⟩ := M1.out
             clear hc3 ha3))
      clear mc0 mc1 mc2 mc3 mc4 mc5
      have M6 := M1.out.write (.slice none 0 0) (.slice none 0 0) 0
      refine bodyPost_ret (results_mid2 Tryz.results23 _ _ (w.heap.size + 1) _ _ (.bool false) rfl rfl M6.range Tryz.underlying29 rfl Tryz.sizeMd) rfl ?_
      rw [HA.out]
      exact ⟨_, rfl, Mo.none _ _ _, ((B1.out.setCell (by show _ ≤ w.heap.size + 1; omega) _).setCell (by show _ ≤ w.heap.size + 1; omega) _).setCell (by show _ ≤ w.heap.size + 1; omega) _⟩
  · have hm : mdOk m = true := by
      cases h : mdOk m with
      | true => rfl
      | false => exact absurd (.inl h) hbad
    have hl20 : ll.length ≤ 20 := by
      rcases Nat.lt_or_ge 20 ll.length with h | h
      · exact absurd (.inr h) hbad
      · exact h
    have HA : Hid (annAllR m ll = annList m ll) := Lib.hid (by unfold annAllR; rw [hm, decide_eq_true hl20]; rfl)
    have HLG : Hid ((ints (gOf m)).length = 67) := Lib.hid (by rw [ints_len]; exact gL_len (md_small hm))
    have KM := Lib.hid (fun W => gridModel_any m (md_fits2 hm) W)
    rw [show gL m.facts.length m.blocks.length m.facts m.blocks m.actual = gOf m from rfl] at KM
    unfold GdAns at KG
    simp only [hm, if_true, Option.getD_some, Option.isSome_some] at KG
    have d20 : decide ((20 : Int) < (ll.length : Int)) = false := decide_eq_false (by omega)
    have HN := Lib.hid (fun (M : Md) (k : Nat) => annList_none (M := M) (ll := ll) (k := k))
    have HS := Lib.hid (fun (M R : Md) (k : Nat) => annList_some (M := M) (R := R) (ll := ll) (k := k))
    have HE : Hid (annList m ll = annList m (ll.drop 0)) := Lib.hid rfl
    have HEE : Hid (∀ M, annList M (ll.drop ll.length) = some M) := Lib.hid (fun M => by rw [List.drop_of_length_le (Nat.le_refl _)]; rfl)
    generalize gOf m = G at *
    generalize annAllR m ll = RES at *
    clear hbad hm
    go_enter Tryz.func23, Tryz.ntmps23
    go_wp2_with fail
    refine (KG.out _ (by go_grown)).mono ?_
    rintro e w1 ⟨rfl, hb1⟩
    have M1 := Lib.hid (Mcell.below (b := w.heap.size + 1) (Mcell.new (by simp)) hb1)
    have B1 : Hid (Below w.heap.size w w1) := Lib.hid (Below.trans (by go_grown) (hb1.mono (by simp; omega)))
    have lt1 : w.heap.size + 1 < w1.heap.size := M1.out.lt
    clear hb1
    have tk5 : True := trivial
    have tk6 : True := trivial
    have tk7 : True := trivial
    go_wp2_with
      (first
        | (have _t := tk5; clear _t tk5; refine wpList_allocM rfl 86 rfl (ints (gL 0 0 [] [] 0)) Tryz.allocGrid ?_
           intro w2 hc2 hb2 hs2
           have CC := Lib.hid hc2
           have B1 : Hid (Below w.heap.size w w2) := Lib.hid (B1.out.trans (hb2.mono B1.out.size))
           have M1 := Lib.hid (M1.out.below hb2)
           clear hc2 hb2 hs2)
        | (have _t := tk6; clear _t tk6; refine wpList_storeM rfl 86 (.tmp 6) (.tmp 14) rfl w1.heap.size 0 rfl (ints G) rfl 86 (ints (gL 0 0 [] [] 0)) CC.out (by rw [HLG.out]; exact Nat.le_refl _) (by rw [HLG.out]; exact Tryz.sizeGrid) (fun v hv => ints_one hv) ?_
           intro w3 hc3 ha3
           rw [lay'_all (by rw [HLG.out]; rfl)] at hc3
           have CC := Lib.hid hc3
           have B1 : Hid (Below w.heap.size w w3) := Lib.hid (B1.out.trans (ha3.below (by omega)))
           have M1 := Lib.hid (M1.out.of_block (ha3.block _ (by omega)))
           clear hc3 ha3)
        | (have _t := tk7; clear _t tk7; refine wpList_loadM rfl 86 _ rfl w1.heap.size 0 rfl 86 (ints G) (ints G) CC.out (fun j _ => by rw [Nat.zero_add]) _ Tryz.underlying86 rfl (by rw [HLG.out]; exact Tryz.sizeGrid) ?_))
    refine (KM.out _).mono ?_
    rintro e w4 ⟨v4, rfl, ho4, hb4⟩
    have M1 := Lib.hid (M1.out.below hb4)
    have B1 := Lib.hid (B1.out.trans (hb4.mono B1.out.size))
    have lt4 : w.heap.size + 1 < w4.heap.size := M1.out.lt
    have lt3 : w1.heap.size < w3.heap.size := CC.out.lt
    have O4 := Lib.hid (ho4.wide (lo' := w.heap.size + 2) (by omega) (Nat.le_refl _))
    obtain ⟨qa, qc, pa, pc, e4⟩ := ho4.read.form
    subst e4
    clear ho4 hb4
    have hb8 : Below w4.heap.size w4 (w4.alloc (.cells #[.slice qa m.facts.length qc, .slice pa m.blocks.length pc, .int .i64 m.actual] 29)) := (Below.refl _ _).alloc (Nat.le_refl _) _
    have M1 := Lib.hid (M1.out.below hb8)
    have O4 := Lib.hid ((O4.out.keeps (Keeps.of_all hb8)).wide (Nat.le_refl _) hb8.size)
    have B1 := Lib.hid (B1.out.trans (hb8.mono B1.out.size))
    have X8 : Hid (Mcell (w4.alloc (.cells #[.slice qa m.facts.length qc, .slice pa m.blocks.length pc, .int .i64 m.actual] 29)) w4.heap.size (.slice qa m.facts.length qc) (.slice pa m.blocks.length pc) m.actual) := Lib.hid (Mcell.new rfl)
    clear hb8 CC KG KM HLG
    go_wp2
    go_loopw [28] (fun iv wr => ∃ (k : Nat) (M : Md) (fa ba : Option Addr) (fc bc : Nat), k ≤ ll.length ∧ iv = .int .i64 k ∧ Hid (RES = annList M (ll.drop k)) ∧ Hid (Mo (w.heap.size + 2) wr.heap.size wr (.agg #[.slice fa M.facts.length fc, .slice ba M.blocks.length bc, .int .i64 M.actual]) M) ∧ Hid (Mcell wr w4.heap.size (.slice fa M.facts.length fc) (.slice ba M.blocks.length bc) M.actual) ∧ Hid (Mcell wr (w.heap.size + 1) (.slice none 0 0) (.slice none 0 0) 0) ∧ Hid (Below w.heap.size w wr)) (fun iv _ => ll.length - (intOf iv).toNat)
    case atStart => exact ⟨0, m, qa, pa, qc, pc, Nat.zero_le _, rfl, Lib.hid (by rw [HA.out, HE.out]), O4, X8, M1, B1⟩
    case round =>
      clear O4 X8 M1 B1
      obtain ⟨k, M, fa, ba, fc, bc, hk, rfl, HJ, HO, HX, HM, HB⟩ := hrel
      by_cases hlt : k < ll.length
      · obtain ⟨b, o, u, rfl, -, -, hb, hc0, hu⟩ := H2.out k hlt
        rw [← HB.out.cell (p := ⟨b, o + k, none⟩) hb] at hc0
        obtain ⟨ua, uc, rfl, -⟩ := hu.parts
        have hu2 := hu.below HB.out (Nat.le_refl _)
        have KA := Lib.hid (implAnn_any (w.heap.size + 2) wr.heap.size _ _ M (ll.getD k []) wr HO.out.read (Nat.le_refl _) hu2)
        have HN := Lib.hid (HN.out M k hlt)
        have HS := Lib.hid (fun R => HS.out M R k hlt)
        clear hu hu2
        generalize ll.getD k [] = f at *
        unfold MdAns2 at KA
        cases hR : annR M f with
        | none =>
          have HR : Hid (RES = none) := Lib.hid (by rw [HJ.out, HN.out hR])
          rw [hR] at KA
          simp only [Option.getD_none, Option.isSome_none] at KA
          clear hR HN HS HJ HO
          have ltx : w4.heap.size < wr.heap.size := HX.out.lt
          obtain ⟨x0, x1, x2, x3, x4, x5⟩ := HX.out
          go_wp2_with fail
          clear x0 x1 x2 x3 x4 x5 hc0
          refine KA.out.mono ?_
          rintro e w5 ⟨v5, rfl, ho5, hb5⟩
          have HX := Lib.hid (HX.out.below hb5)
          have HM := Lib.hid (HM.out.below hb5)
          have HB := Lib.hid (HB.out.trans (hb5.mono HB.out.size))
          have lt5 : wr.heap.size ≤ w5.heap.size := hb5.size
          obtain ⟨ga, gc, da, dc, e5⟩ := ho5.read.form
          subst e5
          have HO := Lib.hid ho5
          clear hb5 KA ho5
          obtain ⟨x0, x1, x2, x3, x4, x5⟩ := HX.out
          obtain ⟨y0, y1, y2, y3, y4, y5⟩ := HM.out
          have hne : ¬ w4.heap.size = w.heap.size + 1 := by omega
          go_wp2
          clear x0 x1 x2 x3 x4 x5 y0 y1 y2 y3 y4 y5
          have hbne : w.heap.size + 1 ≠ w4.heap.size := fun h => hne h.symm
          have M6 := (((HM.out.other hbne 0 (.slice ga 0 gc)).other hbne 1 (.slice da 0 dc)).other hbne 2 (.int .i64 0)).write (.slice none 0 0) (.slice none 0 0) 0
          have B6 := ((HB.out.setCell (p := ⟨w4.heap.size, 0, none⟩) (by show _ ≤ w4.heap.size; omega) (.slice ga 0 gc)).setCell (p := ⟨w4.heap.size, 1, none⟩) (by show _ ≤ w4.heap.size; omega) (.slice da 0 dc)).setCell (p := ⟨w4.heap.size, 2, none⟩) (by show _ ≤ w4.heap.size; omega) (.int .i64 0)
          refine bodyPost_ret (results_mid2 Tryz.results23 _ _ (w.heap.size + 1) _ _ (.bool false) rfl rfl M6.range Tryz.underlying29 rfl Tryz.sizeMd) rfl ?_
          rw [HR.out]
          exact ⟨_, rfl, Mo.none _ _ _, ((B6.setCell (by show _ ≤ w.heap.size + 1; omega) _).setCell (by show _ ≤ w.heap.size + 1; omega) _).setCell (by show _ ≤ w.heap.size + 1; omega) _⟩
        | some R =>
          have HR : Hid (RES = annList R (ll.drop (k + 1))) := Lib.hid (by rw [HJ.out, HS.out R hR])
          rw [hR] at KA
          simp only [Option.getD_some, Option.isSome_some] at KA
          clear hR HN HS HJ HO
          have ltx : w4.heap.size < wr.heap.size := HX.out.lt
          obtain ⟨x0, x1, x2, x3, x4, x5⟩ := HX.out
          go_wp2_with fail
          clear x0 x1 x2 x3 x4 x5 hc0
          refine KA.out.mono ?_
          rintro e w5 ⟨v5, rfl, ho5, hb5⟩
          have HX := Lib.hid (HX.out.below hb5)
          have HM := Lib.hid (HM.out.below hb5)
          have HB := Lib.hid (HB.out.trans (hb5.mono HB.out.size))
          have lt5 : wr.heap.size ≤ w5.heap.size := hb5.size
          obtain ⟨ga, gc, da, dc, e5⟩ := ho5.read.form
          subst e5
          have HO := Lib.hid ho5
          clear hb5 KA ho5
          obtain ⟨x0, x1, x2, x3, x4, x5⟩ := HX.out
          obtain ⟨y0, y1, y2, y3, y4, y5⟩ := HM.out
          have hne : ¬ w4.heap.size = w.heap.size + 1 := by omega
          go_wp2
          clear x0 x1 x2 x3 x4 x5 y0 y1 y2 y3 y4 y5
          go_roundw
          case rel =>
            have hbne : w.heap.size + 1 ≠ w4.heap.size := fun h => hne h.symm
            obtain ⟨o6, m6⟩ := ans_put2 (m := R) HX.out HO.out ltx
            exact ⟨k + 1, R, ga, da, gc, dc, by omega, by go_num, HR, Lib.hid (o6.wide (by omega) (by simp [World.setCell])), Lib.hid m6, Lib.hid (((HM.out.other hbne _ _).other hbne _ _).other hbne _ _),
              Lib.hid (((HB.out.setCell (p := ⟨w4.heap.size, 0, none⟩) (by show _ ≤ w4.heap.size; omega) _).setCell (p := ⟨w4.heap.size, 1, none⟩) (by show _ ≤ w4.heap.size; omega) _).setCell (p := ⟨w4.heap.size, 2, none⟩) (by show _ ≤ w4.heap.size; omega) _)⟩
          case measure => simp [intOf]; omega
      · obtain rfl : k = ll.length := by omega
        have HR : Hid (RES = some M) := Lib.hid (by rw [HJ.out, HEE.out])
        have ltx : w4.heap.size < wr.heap.size := HX.out.lt
        have lty : w.heap.size + 1 < wr.heap.size := HM.out.lt
        obtain ⟨x0, x1, x2, x3, x4, x5⟩ := HX.out
        obtain ⟨y0, y1, y2, y3, y4, y5⟩ := HM.out
        go_wp2
        clear x0 x1 x2 x3 x4 x5 y0 y1 y2 y3 y4 y5
        obtain ⟨o9, m9⟩ := ans_put2 (m := M) HM.out HO.out (by omega)
        refine bodyPost_ret (results_mid2 Tryz.results23 _ _ (w.heap.size + 1) _ _ (.bool true) rfl rfl m9.range Tryz.underlying29 rfl Tryz.sizeMd) rfl ?_
        rw [HR.out]
        exact ⟨_, rfl, o9.wide (by omega) (by simp [World.setCell]), ((HB.out.setCell (by show _ ≤ w.heap.size + 1; omega) _).setCell (by show _ ≤ w.heap.size + 1; omega) _).setCell (by show _ ≤ w.heap.size + 1; omega) _⟩
end Go.Proofs.YtgmpenchojnihaaGreat
