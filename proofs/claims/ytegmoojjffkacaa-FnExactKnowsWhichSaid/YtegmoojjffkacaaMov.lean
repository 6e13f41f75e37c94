/-
  Contracts of spec.MoveTo and impl.MoveTo; the walk of the law FnExactMoveTo: it returns true and writes nothing that was there. No condition.
-/
import Derived.Test.YtegmoojjffkacaaCpy
import Derived.Test.YtegmoojjffkacaaSbi
namespace Go.Proofs.Ytegmoojjffkacaa
open Go.RowKit Go.WideShapes
open Go Go.Deep
set_option linter.unusedSimpArgs false

/-- what MoveTo answers -/
def moveR (m : Md) (x : Int) : Option Md := if mdOk m && inB x m.facts.length then some ⟨m.facts, m.blocks, x⟩ else none
theorem none_ans {w w' : World} (h : Below w.heap.size w w') : MdAns2 w none (.returned (.tuple #[.agg #[.slice none 0 0, .slice none 0 0, .int .i64 0], .bool false])) w' := ⟨_, rfl, Mo.none _ _ _, h⟩
/-- the zero model is laid down and answered -/
theorem Mcell.zero {w : World} {b : Nat} {fv bv : Value} {n : Int} (h : Mcell w b fv bv n) : w.rangeAt b 0 [fv, bv, .int .i64 n] := h.range
theorem Mo.act {lo hi : Nat} {w : World} {fv bv : Value} {n : Int} {m : Md} (h : Mo lo hi w (.agg #[fv, bv, .int .i64 n]) m) (x : Int) : Mo lo hi w (.agg #[fv, bv, .int .i64 x]) ⟨m.facts, m.blocks, x⟩ := by
  obtain ⟨fv', bv', vs, e, h1, h2, h3⟩ := h
  cases e
  exact ⟨_, _, vs, rfl, h1, h2, h3⟩
/-- a model is stored into the block of the answer -/
theorem ans_put {w w3 : World} {b lo hi : Nat} {fv bv fv0 bv0 : Value} {m : Md} {n0 : Int} (hM : Mcell w3 b fv0 bv0 n0) (hO : Mo lo hi w3 (.agg #[fv, bv, .int .i64 m.actual]) m) (hb : b < lo) (hwb : w.heap.size ≤ b) (hhi : hi ≤ w3.heap.size) (hB : Below w.heap.size w w3) :
    Mo w.heap.size (((w3.setCell ⟨b, 0, none⟩ fv).setCell ⟨b, 1, none⟩ bv).setCell ⟨b, 2, none⟩ (.int .i64 m.actual)).heap.size (((w3.setCell ⟨b, 0, none⟩ fv).setCell ⟨b, 1, none⟩ bv).setCell ⟨b, 2, none⟩ (.int .i64 m.actual)) (.agg #[fv, bv, .int .i64 m.actual]) m ∧
    Below w.heap.size w (((w3.setCell ⟨b, 0, none⟩ fv).setCell ⟨b, 1, none⟩ bv).setCell ⟨b, 2, none⟩ (.int .i64 m.actual)) ∧
    Mcell (((w3.setCell ⟨b, 0, none⟩ fv).setCell ⟨b, 1, none⟩ bv).setCell ⟨b, 2, none⟩ (.int .i64 m.actual)) b fv bv m.actual := by
  refine ⟨(hO.keeps (((Keeps.setCell _ _ _ _ (.inl hb)).set (.inl hb) _ _).set (.inl hb) _ _)).wide (by omega) (by simp [World.setCell]; omega), ((hB.setCell hwb _).setCell hwb _).setCell hwb _, hM.write _ _ _⟩
theorem ans_alloc {w w4 : World} {v : Value} {m : Md} (o : Obj) (hO : Mo w.heap.size w4.heap.size w4 v m) (hB : Below w.heap.size w w4) : Mo w.heap.size (w4.alloc o).heap.size (w4.alloc o) v m ∧ Below w.heap.size w (w4.alloc o) :=
  ⟨(hO.keeps (Keeps.of_all ((Below.refl _ _).alloc (Nat.le_refl _) o))).wide (Nat.le_refl _) (by simp), hB.alloc hB.size o⟩
theorem fits_move {m : Md} (h : fits m) (x : Int) : fits ⟨m.facts, m.blocks, x⟩ := h
theorem gL_setC {n a c x : Int} {f : List Int} {rows : List (List Int)} (hs : small f rows) : (ints (gL n a f rows c)).set 66 (.int .i64 x) = ints (gL n a f rows x) := by
  have h0 := pad_len hs.1; have h1 := pad_len (hs.2 0); have h2 := pad_len (hs.2 1); have h3 := pad_len (hs.2 2)
  unfold gL
  generalize pad (rows.getD 0 []) = R0 at *
  generalize pad (rows.getD 1 []) = R1 at *
  generalize pad (rows.getD 2 []) = R2 at *
  rw [ints_set, ← List.append_assoc, ← List.append_assoc, ← List.append_assoc, ← List.append_assoc, List.set_append_right _ _ (by simp [h0, h1, h2, h3]), show 66 - ([n, a] ++ pad f ++ R0 ++ R1 ++ R2).length = 0 by simp [h0, h1, h2, h3]]
  simp

set_option maxRecDepth 100000 in
set_option maxHeartbeats 8000000 in
theorem specMove_any (lo hi : Nat) (v : Value) (m : Md) (x : Int) (w : World) (hr : Mv lo hi w v m) (hhi : hi ≤ w.heap.size) :
    Calls Try.prog 16 #[v, .int .i64 x] w (MdAns2 w (moveR m x)) := by
  have KS := Lib.hid (fun W (h : Below w.heap.size w W) => specOk_any lo hi v m W (hr.keeps (Keeps.of_all h)))
  have KW := Lib.hid (fun W (h : Below w.heap.size w W) => specWorld_any lo hi v m x W (hr.keeps (Keeps.of_all h)))
  have KC := Lib.hid (fun (hm : mdOk m = true) W (h : Below w.heap.size w W) => specCopy_any lo hi v m W (hr.keeps (Keeps.of_all h)) (Nat.le_trans hhi h.size) hm)
  have HR : Hid (moveR m x = if mdOk m && inB x m.facts.length then some ⟨m.facts, m.blocks, x⟩ else none) := Lib.hid rfl
  generalize moveR m x = R at *
  rw [specOk_mdOk] at KS
  obtain ⟨fv, bv, rfl, hf, hb⟩ := hr
  obtain ⟨fa, fc, rfl⟩ := hf.form
  obtain ⟨ba, bc, rfl, _⟩ := hb.parts
  clear hf hb hhi
  cases hm : mdOk m with
  | false =>
    rw [hm] at KS HR
    have HR' : Hid (R = none) := Lib.hid (by rw [HR.out]; rfl)
    clear hm HR KW KC
    go_enter Try.func16, Try.ntmps16
    go_wp2_with fail
    refine (KS.out _ (by go_grown)).mono ?_
    rintro e w1 ⟨rfl, hb1⟩
    have X1 := Lib.hid (Mcell.below (b := w.heap.size) ((Mcell.new rfl).alloc _) hb1)
    have M1 := Lib.hid (Mcell.below (b := w.heap.size + 1) (Mcell.new (by simp)) hb1)
    have B1 : Hid (Below w.heap.size w w1) := Lib.hid (Below.trans (by go_grown) (hb1.mono (by simp; omega)))
    clear hb1
    obtain ⟨x1c0, x1c1, x1c2, x1c3, x1c4, x1c5⟩ := X1.out
    obtain ⟨m1c0, m1c1, m1c2, m1c3, m1c4, m1c5⟩ := M1.out
    go_wp2
    clear x1c0 x1c1 x1c2 x1c3 x1c4 x1c5 m1c0 m1c1 m1c2 m1c3 m1c4 m1c5
    have M6 := M1.out.write (.slice none 0 0) (.slice none 0 0) 0
    refine bodyPost_ret (results_mid2 Try.results16 _ _ (w.heap.size + 1) _ _ (.bool false) rfl rfl M6.range Try.underlying27 rfl Try.sizeMd) rfl ?_
    rw [HR'.out]
    exact ⟨_, rfl, Mo.none _ _ _, ((B1.out.setCell (by show _ ≤ w.heap.size + 1; omega) _).setCell (by show _ ≤ w.heap.size + 1; omega) _).setCell (by show _ ≤ w.heap.size + 1; omega) _⟩
  | true =>
    rw [hm] at KS HR
    cases hi : inB x m.facts.length with
    | false =>
      rw [hi] at KW HR
      have HR' : Hid (R = none) := Lib.hid (by rw [HR.out]; rfl)
      clear hm hi HR KC
      go_enter Try.func16, Try.ntmps16
      go_wp2_with fail
      refine (KS.out _ (by go_grown)).mono ?_
      rintro e w1 ⟨rfl, hb1⟩
      have X1 := Lib.hid (Mcell.below (b := w.heap.size) ((Mcell.new rfl).alloc _) hb1)
      have M1 := Lib.hid (Mcell.below (b := w.heap.size + 1) (Mcell.new (by simp)) hb1)
      have B1 : Hid (Below w.heap.size w w1) := Lib.hid (Below.trans (by go_grown) (hb1.mono (by simp; omega)))
      clear hb1
      obtain ⟨x1c0, x1c1, x1c2, x1c3, x1c4, x1c5⟩ := X1.out
      obtain ⟨m1c0, m1c1, m1c2, m1c3, m1c4, m1c5⟩ := M1.out
      go_wp2_with fail
      clear x1c0 x1c1 x1c2 x1c3 x1c4 x1c5 m1c0 m1c1 m1c2 m1c3 m1c4 m1c5
      refine (KW.out _ B1.out).mono ?_
      rintro e w2 ⟨rfl, hb2⟩
      have X2 := Lib.hid (X1.out.below hb2)
      have M2 := Lib.hid (M1.out.below hb2)
      have B2 := Lib.hid (B1.out.trans (hb2.mono B1.out.size))
      clear hb2 X1 M1
      obtain ⟨x2c0, x2c1, x2c2, x2c3, x2c4, x2c5⟩ := X2.out
      obtain ⟨m2c0, m2c1, m2c2, m2c3, m2c4, m2c5⟩ := M2.out
      go_wp2
      clear x2c0 x2c1 x2c2 x2c3 x2c4 x2c5 m2c0 m2c1 m2c2 m2c3 m2c4 m2c5
      have M6 := M2.out.write (.slice none 0 0) (.slice none 0 0) 0
      refine bodyPost_ret (results_mid2 Try.results16 _ _ (w.heap.size + 1) _ _ (.bool false) rfl rfl M6.range Try.underlying27 rfl Try.sizeMd) rfl ?_
      rw [HR'.out]
      exact ⟨_, rfl, Mo.none _ _ _, ((B2.out.setCell (by show _ ≤ w.heap.size + 1; omega) _).setCell (by show _ ≤ w.heap.size + 1; omega) _).setCell (by show _ ≤ w.heap.size + 1; omega) _⟩
    | true =>
      rw [hi] at KW HR
      have HR' : Hid (R = some ⟨m.facts, m.blocks, x⟩) := Lib.hid (by rw [HR.out]; rfl)
      have KC' := Lib.hid (KC.out hm)
      clear hm hi HR KC
      go_enter Try.func16, Try.ntmps16
      go_wp2_with fail
      refine (KS.out _ (by go_grown)).mono ?_
      rintro e w1 ⟨rfl, hb1⟩
      have X1 := Lib.hid (Mcell.below (b := w.heap.size) ((Mcell.new rfl).alloc _) hb1)
      have M1 := Lib.hid (Mcell.below (b := w.heap.size + 1) (Mcell.new (by simp)) hb1)
      have B1 : Hid (Below w.heap.size w w1) := Lib.hid (Below.trans (by go_grown) (hb1.mono (by simp; omega)))
      clear hb1
      obtain ⟨x1c0, x1c1, x1c2, x1c3, x1c4, x1c5⟩ := X1.out
      obtain ⟨m1c0, m1c1, m1c2, m1c3, m1c4, m1c5⟩ := M1.out
      go_wp2_with fail
      clear x1c0 x1c1 x1c2 x1c3 x1c4 x1c5 m1c0 m1c1 m1c2 m1c3 m1c4 m1c5
      refine (KW.out _ B1.out).mono ?_
      rintro e w2 ⟨rfl, hb2⟩
      have X2 := Lib.hid (X1.out.below hb2)
      have M2 := Lib.hid (M1.out.below hb2)
      have B2 := Lib.hid (B1.out.trans (hb2.mono B1.out.size))
      clear hb2 X1 M1
      obtain ⟨x2c0, x2c1, x2c2, x2c3, x2c4, x2c5⟩ := X2.out
      obtain ⟨m2c0, m2c1, m2c2, m2c3, m2c4, m2c5⟩ := M2.out
      go_wp2_with fail
      clear x2c0 x2c1 x2c2 x2c3 x2c4 x2c5 m2c0 m2c1 m2c2 m2c3 m2c4 m2c5
      refine (KC'.out _ B2.out).mono ?_
      rintro e w3 ⟨v3, rfl, ho3, hb3⟩
      have M3 := Lib.hid (M2.out.below hb3)
      have B3 := Lib.hid (B2.out.trans (hb3.mono B2.out.size))
      have O3 := Lib.hid ho3
      obtain ⟨qa, qc, pa, pc, e3⟩ := ho3.read.form
      subst e3
      have hz : w.heap.size + 1 < w3.heap.size := M3.out.lt
      have hz2 : w.heap.size + 1 < w2.heap.size := M2.out.lt
      clear ho3 hb3 M2
      obtain ⟨m3c0, m3c1, m3c2, m3c3, m3c4, m3c5⟩ := M3.out
      go_wp2
      clear m3c0 m3c1 m3c2 m3c3 m3c4 m3c5
      obtain ⟨o6, b6, m6⟩ := ans_put (m := ⟨m.facts, m.blocks, x⟩) M3.out (O3.out.act x) hz2 (by omega) (Nat.le_refl _) B3.out
      obtain ⟨o7, b7⟩ := ans_alloc (.cells #[Value.slice qa m.facts.length qc, Value.slice pa m.blocks.length pc, Value.int IntKind.i64 x] 27) o6 b6
      refine bodyPost_ret (results_mid2 Try.results16 _ _ (w.heap.size + 1) _ _ (.bool true) rfl rfl (m6.alloc _).range Try.underlying27 rfl Try.sizeMd) rfl ?_
      rw [HR'.out]
      exact ⟨_, rfl, o7, b7⟩

set_option maxRecDepth 100000 in
set_option maxHeartbeats 16000000 in
theorem implMove_any (lo hi : Nat) (v : Value) (m : Md) (x : Int) (w : World) (hr : Mv lo hi w v m) (hhi : hi ≤ w.heap.size) :
    Calls Try.prog 18 #[v, .int .i64 x] w (MdAns2 w (moveR m x)) := by
  have KG := Lib.hid (fun W (h : Below w.heap.size w W) => gridOf_any lo hi v m W (hr.keeps (Keeps.of_all h)) (Nat.le_trans hhi h.size))
  have HR : Hid (moveR m x = if mdOk m && inB x m.facts.length then some ⟨m.facts, m.blocks, x⟩ else none) := Lib.hid rfl
  generalize moveR m x = R at *
  obtain ⟨fv, bv, rfl, hf, hb⟩ := hr
  clear hf hb hhi
  cases hm : mdOk m with
  | false =>
    simp only [hm, Bool.false_eq_true, if_false] at KG
    have HR' : Hid (R = none) := Lib.hid (by rw [HR.out, hm]; rfl)
    clear HR hm
    unfold GdAns at KG
    simp only [Option.getD_none, Option.isSome_none] at KG
    have HLG : Hid ((ints (gL 0 0 [] [] 0)).length = 67) := Lib.hid rfl
    have HLO := Lib.hid (fun v (hv : v ∈ ints (gL 0 0 [] [] 0)) => ints_one hv)
    obtain ⟨G, hG⟩ : ∃ G, G = gL 0 0 [] [] 0 := ⟨_, rfl⟩
    rw [← hG] at KG HLG HLO
    clear hG
    go_enter Try.func18, Try.ntmps18
    go_wp2_with fail
    refine (KG.out _ (by go_grown)).mono ?_
    rintro e w1 ⟨rfl, hb1⟩
    have M1 := Lib.hid (Mcell.below (b := w.heap.size + 1) (Mcell.new (by simp)) hb1)
    have B1 : Hid (Below w.heap.size w w1) := Lib.hid (Below.trans (by go_grown) (hb1.mono (by simp; omega)))
    clear hb1
    go_wp2_with
      (first
        | (refine wpList_allocM rfl 75 rfl (ints (gL 0 0 [] [] 0)) Try.allocGrid ?_
           intro w2 hc2 hb2 hs2
           have CC := Lib.hid hc2
           have BB : Hid (Below w.heap.size w w2) := Lib.hid (B1.out.trans (hb2.mono B1.out.size))
           have MM := Lib.hid (M1.out.below hb2)
           have hgb : w.heap.size + 1 < w1.heap.size := M1.out.lt
           clear hc2 hb2 hs2 M1)
        | (refine wpList_storeM rfl 75 _ _ rfl w1.heap.size 0 rfl (ints G) rfl 75 (ints (gL 0 0 [] [] 0)) CC.out (by rw [HLG.out]; exact Nat.le_refl _) (by rw [HLG.out]; exact Try.sizeGrid) HLO.out ?_
           intro w3 hc3 ha3
           rw [lay'_all (by rw [HLG.out]; rfl)] at hc3
           have CC := Lib.hid hc3
           have BB : Hid (Below w.heap.size w w3) := Lib.hid (BB.out.trans (ha3.below B1.out.size))
           have MM := Lib.hid (MM.out.of_block (ha3.block _ (by omega)))
           obtain ⟨mc0, mc1, mc2, mc3, mc4, mc5⟩ := MM.out
           clear hc3 ha3))
    clear mc0 mc1 mc2 mc3 mc4 mc5
    have M6 := MM.out.write (.slice none 0 0) (.slice none 0 0) 0
    refine bodyPost_ret (results_mid2 Try.results18 _ _ (w.heap.size + 1) _ _ (.bool false) rfl rfl M6.range Try.underlying27 rfl Try.sizeMd) rfl ?_
    rw [HR'.out]
    exact ⟨_, rfl, Mo.none _ _ _, ((BB.out.setCell (by show _ ≤ w.heap.size + 1; omega) _).setCell (by show _ ≤ w.heap.size + 1; omega) _).setCell (by show _ ≤ w.heap.size + 1; omega) _⟩
  | true =>
    simp only [hm, if_true] at KG
    have hs := md_small hm
    have HFT := Lib.hid (md_fits hm)
    have HP := Lib.hid (mdOk_parts hm)
    rw [hm] at HR
    clear hm
    unfold GdAns at KG
    simp only [Option.getD_some, Option.isSome_some] at KG
    unfold gOf at KG
    have HLG : Hid ((ints (gL m.facts.length m.blocks.length m.facts m.blocks m.actual)).length = 67) := Lib.hid (by rw [ints_len]; exact gL_len hs)
    have HLO := Lib.hid (fun v (hv : v ∈ ints (gL m.facts.length m.blocks.length m.facts m.blocks m.actual)) => ints_one hv)
    have KW := Lib.hid (fun W => hasWorld_any m.facts.length m.blocks.length m.actual m.facts m.blocks x W)
    have HGC := Lib.hid (gL_setC (n := m.facts.length) (a := m.blocks.length) (c := m.actual) (x := x) hs)
    have KM := Lib.hid (fun W => gridModel_any ⟨m.facts, m.blocks, x⟩ (fits_move HFT.out x) W)
    have HLX : Hid ((ints (gL m.facts.length m.blocks.length m.facts m.blocks x)).length = 67) := Lib.hid (by rw [ints_len]; exact gL_len hs)
    have HC66 := Lib.hid (fun W b T (h : Cm W b T (ints (gL m.facts.length m.blocks.length m.facts m.blocks m.actual))) => h.g66 hs)
    simp only at KM
    generalize gL m.facts.length m.blocks.length m.facts m.blocks m.actual = G at *
    generalize gL m.facts.length m.blocks.length m.facts m.blocks x = GX at *
    clear hs HFT HP
    cases hi : inB x m.facts.length with
    | false =>
      rw [hi] at KW HR
      have HR' : Hid (R = none) := Lib.hid (by rw [HR.out]; rfl)
      clear HR hi KM HGC HLX HC66
      go_enter Try.func18, Try.ntmps18
      go_wp2_with fail
      refine (KG.out _ (by go_grown)).mono ?_
      rintro e w1 ⟨rfl, hb1⟩
      have M1 := Lib.hid (Mcell.below (b := w.heap.size + 1) (Mcell.new (by simp)) hb1)
      have B1 : Hid (Below w.heap.size w w1) := Lib.hid (Below.trans (by go_grown) (hb1.mono (by simp; omega)))
      clear hb1
      go_wp2_with
        (first
          | (refine wpList_allocM rfl 75 rfl (ints (gL 0 0 [] [] 0)) Try.allocGrid ?_
             intro w2 hc2 hb2 hs2
             have CC := Lib.hid hc2
             have BB : Hid (Below w.heap.size w w2) := Lib.hid (B1.out.trans (hb2.mono B1.out.size))
             have MM := Lib.hid (M1.out.below hb2)
             have hgb : w.heap.size + 1 < w1.heap.size := M1.out.lt
             clear hc2 hb2 hs2 M1)
          | (refine wpList_storeM rfl 75 _ _ rfl w1.heap.size 0 rfl (ints G) rfl 75 (ints (gL 0 0 [] [] 0)) CC.out (by rw [HLG.out]; exact Nat.le_refl _) (by rw [HLG.out]; exact Try.sizeGrid) HLO.out ?_
             intro w3 hc3 ha3
             rw [lay'_all (by rw [HLG.out]; rfl)] at hc3
             have CC := Lib.hid hc3
             have BB : Hid (Below w.heap.size w w3) := Lib.hid (BB.out.trans (ha3.below B1.out.size))
             have MM := Lib.hid (MM.out.of_block (ha3.block _ (by omega)))
             obtain ⟨mc0, mc1, mc2, mc3, mc4, mc5⟩ := MM.out
             clear hc3 ha3)
          | (refine wpList_loadMG rfl (by rfl) 75 _ rfl w1.heap.size 0 rfl 75 (ints G) (ints G) CC.out (fun j _ => by rw [Nat.zero_add]) _ Try.underlying75 rfl (by rw [HLG.out]; exact Try.sizeGrid) ?_)
          | (go_at_call 68; (with_reducible refine (KW.out _).mono ?_); rintro e w4 ⟨rfl, hb4⟩; clear mc0 mc1 mc2 mc3 mc4 mc5; have CC := Lib.hid (CC.out.all hb4); have MM := Lib.hid (MM.out.below hb4); have BB : Hid (Below w.heap.size w w4) := Lib.hid (BB.out.trans (hb4.mono BB.out.size)); obtain ⟨mc0, mc1, mc2, mc3, mc4, mc5⟩ := MM.out; clear hb4))
      clear mc0 mc1 mc2 mc3 mc4 mc5
      have M6 := MM.out.write (.slice none 0 0) (.slice none 0 0) 0
      refine bodyPost_ret (results_mid2 Try.results18 _ _ (w.heap.size + 1) _ _ (.bool false) rfl rfl M6.range Try.underlying27 rfl Try.sizeMd) rfl ?_
      rw [HR'.out]
      exact ⟨_, rfl, Mo.none _ _ _, ((BB.out.setCell (by show _ ≤ w.heap.size + 1; omega) _).setCell (by show _ ≤ w.heap.size + 1; omega) _).setCell (by show _ ≤ w.heap.size + 1; omega) _⟩
    | true =>
      rw [hi] at KW HR
      have HR' : Hid (R = some ⟨m.facts, m.blocks, x⟩) := Lib.hid (by rw [HR.out]; rfl)
      clear HR hi
      go_enter Try.func18, Try.ntmps18
      go_wp2_with fail
      refine (KG.out _ (by go_grown)).mono ?_
      rintro e w1 ⟨rfl, hb1⟩
      have M1 := Lib.hid (Mcell.below (b := w.heap.size + 1) (Mcell.new (by simp)) hb1)
      have B1 : Hid (Below w.heap.size w w1) := Lib.hid (Below.trans (by go_grown) (hb1.mono (by simp; omega)))
      clear hb1
      go_wp2_with
        (first
          | (refine wpList_allocM rfl 75 rfl (ints (gL 0 0 [] [] 0)) Try.allocGrid ?_
             intro w2 hc2 hb2 hs2
             have CC := Lib.hid hc2
             have BB : Hid (Below w.heap.size w w2) := Lib.hid (B1.out.trans (hb2.mono B1.out.size))
             have MM := Lib.hid (M1.out.below hb2)
             have hgb : w.heap.size + 1 < w1.heap.size := M1.out.lt
             clear hc2 hb2 hs2 M1)
          | (refine wpList_storeM rfl 75 _ _ rfl w1.heap.size 0 rfl (ints G) rfl 75 (ints (gL 0 0 [] [] 0)) CC.out (by rw [HLG.out]; exact Nat.le_refl _) (by rw [HLG.out]; exact Try.sizeGrid) HLO.out ?_
             intro w3 hc3 ha3
             rw [lay'_all (by rw [HLG.out]; rfl)] at hc3
             have CC := Lib.hid hc3
             have BB : Hid (Below w.heap.size w w3) := Lib.hid (BB.out.trans (ha3.below B1.out.size))
             have MM := Lib.hid (MM.out.of_block (ha3.block _ (by omega)))
             obtain ⟨mc0, mc1, mc2, mc3, mc4, mc5⟩ := MM.out
             clear hc3 ha3)
          | (refine wpList_loadMG rfl (by rfl) 75 _ rfl w1.heap.size 0 rfl 75 (ints G) (ints G) CC.out (fun j _ => by rw [Nat.zero_add]) _ Try.underlying75 rfl (by rw [HLG.out]; exact Try.sizeGrid) ?_)
          | (go_at_call 68; (with_reducible refine (KW.out _).mono ?_); rintro e w4 ⟨rfl, hb4⟩; clear mc0 mc1 mc2 mc3 mc4 mc5; have CC := Lib.hid (CC.out.all hb4); have MM := Lib.hid (MM.out.below hb4); have BB : Hid (Below w.heap.size w w4) := Lib.hid (BB.out.trans (hb4.mono BB.out.size)); have c66 := HC66.out _ _ _ CC.out; have f66 := CC.out.frozen 66; have CX : Hid (Cm (w4.setCell ⟨w1.heap.size, 66, none⟩ (.int .i64 x)) w1.heap.size 75 (ints GX)) := Lib.hid (by rw [← HGC.out]; exact CC.out.set 66 _); have MX := Lib.hid (MM.out.other (b' := w1.heap.size) (by omega) 66 (.int .i64 x)); have BX : Hid (Below w.heap.size w (w4.setCell ⟨w1.heap.size, 66, none⟩ (.int .i64 x))) := Lib.hid (BB.out.setCell (by show _ ≤ w1.heap.size; omega) _); clear hb4)
          | (refine wpList_loadM rfl 75 _ rfl w1.heap.size 0 rfl 75 (ints GX) (ints GX) CX.out (fun j _ => by rw [Nat.zero_add]) _ Try.underlying75 rfl (by rw [HLX.out]; exact Try.sizeGrid) ?_))
      refine (KM.out _).mono ?_
      rintro e w5 ⟨v5, rfl, ho5, hb5⟩
      clear c66 f66
      have MM := Lib.hid (MX.out.below hb5)
      have BB := Lib.hid (BX.out.trans (hb5.mono BX.out.size))
      have O5 := Lib.hid ho5
      have hz2 : w.heap.size + 1 < (w4.setCell ⟨w1.heap.size, 66, none⟩ (.int .i64 x)).heap.size := MX.out.lt
      obtain ⟨qa, qc, pa, pc, e3⟩ := ho5.read.form
      subst e3
      clear ho5 hb5
      simp only
      obtain ⟨mc0, mc1, mc2, mc3, mc4, mc5⟩ := MM.out
      go_wp2
      clear mc0 mc1 mc2 mc3 mc4 mc5
      obtain ⟨o6, b6, m6⟩ := ans_put (m := ⟨m.facts, m.blocks, x⟩) MM.out O5.out hz2 (by omega) (Nat.le_refl _) BB.out
      refine bodyPost_ret (results_mid2 Try.results18 _ _ (w.heap.size + 1) _ _ (.bool true) rfl rfl m6.range Try.underlying27 rfl Try.sizeMd) rfl ?_
      rw [HR'.out]
      exact ⟨_, rfl, o6, b6⟩

end Go.Proofs.Ytegmoojjffkacaa
