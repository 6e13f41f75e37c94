/-
  impl.doubtsIn: the levels around the worlds where a formula is false. No condition but the readings.
-/
import Derived.Test.YthjfanhhindjlaaGreatZSvb
import Derived.Test.YthjfanhhindjlaaGreatLvs
namespace Go.Proofs.YthjfanhhindjlaaGreat
open Go.RowKit Go.WideShapes
open Go Go.Deep
set_option linter.unusedSimpArgs false

section
variable {P : Program}
/-- three results, the first one a struct or an array in a block of the call's own -/
theorem results_mid1t {fn : Func} {p q r : Tmp} {ty : TypeId} (h : fn.results = #[.cell p ty, .tmp q, .tmp r]) (tmps : Array Value) (w : World) (b : Nat) (cs : List Value) (d : TypeDesc) (v u : Value)
    (hp : tmps.getD p undef = .pointer (some ⟨b, 0, none⟩)) (hq : tmps.getD q undef = v) (hr : tmps.getD r undef = u) (hc : w.rangeAt b 0 cs) (hu : P.underlying ty = some d) (hd : d.isRow = true) (hi : (P.info? ty).map (·.size) = some cs.length) :
    (results fn tmps).run P w = .ok (.tuple #[.agg cs.toArray, v, u]) w := by
  have hp' : tmps[p]?.getD undef = .pointer (some ⟨b, 0, none⟩) := by simpa using hp
  have hq' : tmps[q]?.getD undef = v := by simpa using hq
  have hr' : tmps[r]?.getD undef = u := by simpa using hr
  simp [results, h, hp', hq', hr', asAddr, run_loadVar_mid w b 0 ty cs d hc hu hd hi]
end
theorem grownBy_tr {w w1 w2 : World} {row : Option Nat} (h : w.grownBy w1 row) (h2 : w1.grownBy w2 row) : w.grownBy w2 row :=
  ⟨h2.os.trans h.os, h2.tape.trans h.tape, h2.output.trans h.output, Nat.le_trans h.size h2.size, fun k hk hne => (h2.block k (Nat.lt_of_lt_of_le hk h.size) hne).trans (h.block k hk hne)⟩
/-- the worlds at most k steps from one where it is false -/
def doubtP (m : Md) (xs : List Nd) : Nat → Nat → Bool := levP m.blocks m.facts.length m.blocks.length (cut m.facts.length fun i => !evP m xs i)

set_option maxRecDepth 100000 in
set_option maxHeartbeats 16000000 in
theorem doubts_no (lo hi : Nat) (v v2 : Value) (m : Md) (xs : List Nd) (w : World) (hr : Mv lo hi w v m) (hhi : hi ≤ w.heap.size) (hr2 : Ns w v2 xs) (hok : evOk m xs = false) :
    Calls Tryz.prog 37 #[v, v2] w fun e w' => e = .returned (.tuple #[.agg (ints (gL 0 0 [] [] 0)).toArray, .slice none 0 0, .bool false]) ∧ Below w.heap.size w w' := by
  obtain ⟨G, P, hl, hT, hF, hK⟩ := truthIn_gen lo hi v v2 m xs w hr hhi hr2
  have HLG := Lib.hid hl
  have KT := Lib.hid hK
  obtain ⟨fv, bv, rfl, hf, hb⟩ := hr
  obtain ⟨a2, c2, rfl, -⟩ := hr2.parts
  clear hf hb hr2 hl hK
  rw [hok] at KT
  clear hT hF hok
  · go_enter Tryz.func37, Tryz.ntmps37
    have tk1 : True := trivial
    go_wp2_with
      (first
        | (have _t := tk1; clear _t tk1; refine wpList_allocM (o := ⟨some 4, _, _, _, _, _⟩) rfl 69 rfl (ints (gL 0 0 [] [] 0)) Tryz.allocGrid ?_
           intro w1 hc1 hb1 hs1
           have R1 : Hid (Cm w1 (w.heap.size + 1) 69 (ints (gL 0 0 [] [] 0))) := Lib.hid (by simpa using hc1)
           have X1 := Lib.hid (Mcell.below (Mcell.new (w := w) (T := 31) (b := w.heap.size) (fv := fv) (bv := bv) (n := m.actual) rfl) hb1)
           have B1 : Hid (Below w.heap.size w w1) := Lib.hid (Below.trans (by go_grown) (hb1.mono (by simp)))
           have lt1 : w.heap.size + 1 < w1.heap.size := R1.out.lt
           obtain ⟨xc0, xc1, xc2, xc3, xc4, xc5⟩ := X1.out
           clear hc1 hb1 hs1))
    refine (KT.out _ B1.out).mono ?_
    rintro e w2 ⟨rfl, hb2⟩
    have R1 := Lib.hid (R1.out.all hb2)
    have B1 := Lib.hid (B1.out.trans (hb2.mono B1.out.size))
    have lt2 : w.heap.size + 1 < w2.heap.size := R1.out.lt
    clear hb2 xc0 xc1 xc2 xc3 xc4 xc5 X1
    have tk2 : True := trivial
    have tk3 : True := trivial
    have tk4 : True := trivial
    have tk5 : True := trivial
    have tk6 : True := trivial
    have tk7 : True := trivial
    go_wp2_with
      (first
        | (have _t := tk2; clear _t tk2; refine wpList_allocM rfl 69 rfl (ints (gL 0 0 [] [] 0)) Tryz.allocGrid ?_
           intro w3 hc1 hb1 hs1
           have G1 := Lib.hid hc1
           have R1 := Lib.hid (R1.out.all hb1)
           have B1 := Lib.hid (B1.out.trans (hb1.mono B1.out.size))
           have lt3 : w2.heap.size < w3.heap.size := G1.out.lt
           clear hc1 hb1 hs1)
        | (have _t := tk3; clear _t tk3; refine wpList_allocM rfl 77 rfl (bL (fun _ => false)) Tryz.allocSet ?_
           intro w4 hc1 hb1 hs1
           have Q1 := Lib.hid hc1
           have G1 := Lib.hid (G1.out.all hb1)
           have R1 := Lib.hid (R1.out.all hb1)
           have B1 := Lib.hid (B1.out.trans (hb1.mono B1.out.size))
           have lt4 : w3.heap.size < w4.heap.size := Q1.out.lt
           clear hc1 hb1 hs1)
        | (have _t := tk4; clear _t tk4; refine wpList_storeM rfl 69 (.tmp 7) (.tmp 14) rfl w2.heap.size 0 rfl (ints G) rfl 69 (ints (gL 0 0 [] [] 0)) G1.out (by rw [HLG.out]; exact Nat.le_refl _) (by rw [HLG.out]; exact Tryz.sizeGrid) (fun v hv => ints_one hv) ?_
           intro w5 hc3 ha3
           rw [lay'_all (by rw [HLG.out]; rfl)] at hc3
           have G1 := Lib.hid hc3
           have Q1 := Lib.hid (ha3.cm Q1.out (by omega))
           have R1 := Lib.hid (ha3.cm R1.out (by omega))
           have B1 : Hid (Below w.heap.size w w5) := Lib.hid (B1.out.trans (ha3.below (by omega)))
           have lt5 : w4.heap.size = w5.heap.size := ha3.size.symm
           clear hc3 ha3)
        | (have _t := tk5; clear _t tk5; refine wpList_storeM rfl 77 (.tmp 8) (.tmp 15) rfl w3.heap.size 0 rfl (bL P) rfl 77 _ Q1.out (by rw [bL_len, bL_len]; exact Nat.le_refl _) (by rw [bL_len]; exact Tryz.sizeSet) (fun v hv => bL_one hv) ?_
           intro w6 hc3 ha3
           rw [lay'_all (by rw [bL_len, bL_len])] at hc3
           have Q1 := Lib.hid hc3
           have G1 := Lib.hid (ha3.cm G1.out (by omega))
           have R1 := Lib.hid (ha3.cm R1.out (by omega))
           have B1 : Hid (Below w.heap.size w w6) := Lib.hid (B1.out.trans (ha3.below (by omega)))
           have lt6 : w5.heap.size = w6.heap.size := ha3.size.symm
           clear hc3 ha3)
        | (have _t := tk6; clear _t tk6; refine wpList_buildM rfl 69 _ rfl #[] (by simp) (ints (gL 0 0 [] [] 0)) (Tryz.buildGrid0 _) ?_)
        | (have _t := tk7; clear _t tk7; refine wpList_storeM rfl 69 (.tmp 4) (.tmp 19) rfl (w.heap.size + 1) 0 rfl (ints (gL 0 0 [] [] 0)) rfl 69 _ R1.out (Nat.le_refl _) Tryz.sizeGrid (fun v hv => ints_one hv) ?_
           intro w8 hc3 ha3
           rw [lay'_all rfl] at hc3
           have R1 := Lib.hid hc3
           have B1 : Hid (Below w.heap.size w w8) := Lib.hid (B1.out.trans (ha3.below (by omega)))
           clear hc3 ha3))
    refine bodyPost_ret (results_mid1t Tryz.results37 _ _ (w.heap.size + 1) (ints (gL 0 0 [] [] 0)) _ _ _ rfl rfl rfl R1.out.whole Tryz.underlying69 rfl Tryz.sizeGrid) rfl ?_
    exact ⟨rfl, B1.out⟩

set_option maxRecDepth 100000 in
set_option maxHeartbeats 16000000 in
theorem doubts_yes (lo hi : Nat) (v v2 : Value) (m : Md) (xs : List Nd) (w : World) (hr : Mv lo hi w v m) (hhi : hi ≤ w.heap.size) (hr2 : Ns w v2 xs) (hok : evOk m xs = true) :
    Calls Tryz.prog 37 #[v, v2] w fun e w' => ∃ u, e = .returned (.tuple #[.agg (ints (gM m)).toArray, u, .bool true]) ∧ w'.ownsRow w.heap.size 77 16 u m.facts.length (setsV (doubtP m xs) m.facts.length) ∧ Below w.heap.size w w' := by
  obtain ⟨G, P, hl, hT, hF, hK⟩ := truthIn_gen lo hi v v2 m xs w hr hhi hr2
  have HLG := Lib.hid hl
  have KT := Lib.hid hK
  obtain ⟨fv, bv, rfl, hf, hb⟩ := hr
  obtain ⟨a2, c2, rfl, -⟩ := hr2.parts
  clear hf hb hr2 hl hK
  rw [hok] at KT
  obtain ⟨-, -, hP, hG⟩ := hT hok
  have hm := (evOk_parts hok).1
  have hs := md_small hm
  obtain ⟨p1, p2, p3, p4, -, -, -, -⟩ := mdOk_parts hm
  have KO := Lib.hid (fun W => others_any m.facts.length m.blocks.length m.actual m.facts m.blocks hs p2 P W)
  have KL := Lib.hid (fun W => levels_any m.facts.length m.blocks.length m.actual m.facts m.blocks hs p1 p2 p4 (cut m.facts.length fun i => !P i) (fun i h => cut_in h) W)
  rw [show gL m.facts.length m.blocks.length m.facts m.blocks m.actual = G from hG.symm] at KO KL
  rw [show levP m.blocks m.facts.length m.blocks.length (cut m.facts.length fun i => !P i) = doubtP m xs by rw [hP]; rfl] at KL
  rw [← hG]
  generalize doubtP m xs = LP at *
  generalize (cut m.facts.length fun i => !P i) = PF at *
  clear hT hF hok hP hG hm hs p1 p2 p3 p4
  · go_enter Tryz.func37, Tryz.ntmps37
    have tk8 : True := trivial
    go_wp2_with
      (first
        | (have _t := tk8; clear _t tk8; refine wpList_allocM (o := ⟨some 4, _, _, _, _, _⟩) rfl 69 rfl (ints (gL 0 0 [] [] 0)) Tryz.allocGrid ?_
           intro w1 hc1 hb1 hs1
           have R1 : Hid (Cm w1 (w.heap.size + 1) 69 (ints (gL 0 0 [] [] 0))) := Lib.hid (by simpa using hc1)
           have X1 := Lib.hid (Mcell.below (Mcell.new (w := w) (T := 31) (b := w.heap.size) (fv := fv) (bv := bv) (n := m.actual) rfl) hb1)
           have B1 : Hid (Below w.heap.size w w1) := Lib.hid (Below.trans (by go_grown) (hb1.mono (by simp)))
           have lt1 : w.heap.size + 1 < w1.heap.size := R1.out.lt
           obtain ⟨xc0, xc1, xc2, xc3, xc4, xc5⟩ := X1.out
           clear hc1 hb1 hs1))
    refine (KT.out _ B1.out).mono ?_
    rintro e w2 ⟨rfl, hb2⟩
    have R1 := Lib.hid (R1.out.all hb2)
    have B1 := Lib.hid (B1.out.trans (hb2.mono B1.out.size))
    have lt2 : w.heap.size + 1 < w2.heap.size := R1.out.lt
    clear hb2 xc0 xc1 xc2 xc3 xc4 xc5 X1
    have tk9 : True := trivial
    have tk10 : True := trivial
    have tk11 : True := trivial
    have tk12 : True := trivial
    go_wp2_with
      (first
        | (have _t := tk9; clear _t tk9; refine wpList_allocM rfl 69 rfl (ints (gL 0 0 [] [] 0)) Tryz.allocGrid ?_
           intro w3 hc1 hb1 hs1
           have G1 := Lib.hid hc1
           have R1 := Lib.hid (R1.out.all hb1)
           have B1 := Lib.hid (B1.out.trans (hb1.mono B1.out.size))
           have lt3 : w2.heap.size < w3.heap.size := G1.out.lt
           clear hc1 hb1 hs1)
        | (have _t := tk10; clear _t tk10; refine wpList_allocM rfl 77 rfl (bL (fun _ => false)) Tryz.allocSet ?_
           intro w4 hc1 hb1 hs1
           have Q1 := Lib.hid hc1
           have G1 := Lib.hid (G1.out.all hb1)
           have R1 := Lib.hid (R1.out.all hb1)
           have B1 := Lib.hid (B1.out.trans (hb1.mono B1.out.size))
           have lt4 : w3.heap.size < w4.heap.size := Q1.out.lt
           clear hc1 hb1 hs1)
        | (have _t := tk11; clear _t tk11; refine wpList_storeM rfl 69 (.tmp 7) (.tmp 14) rfl w2.heap.size 0 rfl (ints G) rfl 69 (ints (gL 0 0 [] [] 0)) G1.out (by rw [HLG.out]; exact Nat.le_refl _) (by rw [HLG.out]; exact Tryz.sizeGrid) (fun v hv => ints_one hv) ?_
           intro w5 hc3 ha3
           rw [lay'_all (by rw [HLG.out]; rfl)] at hc3
           have G1 := Lib.hid hc3
           have Q1 := Lib.hid (ha3.cm Q1.out (by omega))
           have R1 := Lib.hid (ha3.cm R1.out (by omega))
           have B1 : Hid (Below w.heap.size w w5) := Lib.hid (B1.out.trans (ha3.below (by omega)))
           have lt5 : w4.heap.size = w5.heap.size := ha3.size.symm
           clear hc3 ha3)
        | (have _t := tk12; clear _t tk12; refine wpList_storeM rfl 77 (.tmp 8) (.tmp 15) rfl w3.heap.size 0 rfl (bL P) rfl 77 _ Q1.out (by rw [bL_len, bL_len]; exact Nat.le_refl _) (by rw [bL_len]; exact Tryz.sizeSet) (fun v hv => bL_one hv) ?_
           intro w6 hc3 ha3
           rw [lay'_all (by rw [bL_len, bL_len])] at hc3
           have Q1 := Lib.hid hc3
           have G1 := Lib.hid (ha3.cm G1.out (by omega))
           have R1 := Lib.hid (ha3.cm R1.out (by omega))
           have B1 : Hid (Below w.heap.size w w6) := Lib.hid (B1.out.trans (ha3.below (by omega)))
           have lt6 : w5.heap.size = w6.heap.size := ha3.size.symm
           clear hc3 ha3))
    have HRG : Hid (∀ W, w6.grownBy W (some (w.heap.size + 1)) → W.rangeAt w2.heap.size 0 (ints G)) := Lib.hid (fun W h => (G1.out.kept h (fun e => by have := Option.some.inj e; omega)).whole)
    have HRS : Hid (∀ W, w6.grownBy W (some (w.heap.size + 1)) → W.rangeAt w3.heap.size 0 (bL P)) := Lib.hid (fun W h => (Q1.out.kept h (fun e => by have := Option.some.inj e; omega)).whole)
    have HU : Tryz.prog.underlying 69 = some _ := Tryz.underlying69
    have HUS : Tryz.prog.underlying 77 = some _ := Tryz.underlying77
    refine regionL (fun W => w6.grownBy W (some (w.heap.size + 1))) [] (by kernel_rfl) (grown_of_below (Below.refl _ _).drew _) (fun hHeld => ?_)
    refine takeA (i := 0) (v := .agg (ints G).toArray) 20 rfl rfl (by kernel_rfl) (by kernel_rfl) (by kernel_rfl) (by kernel_rfl) (fun _ _ _ h => h) (yieldsIf_load_mid (by rfl) 69 _ rfl w2.heap.size 0 rfl (ints G) _ HRG.out HU rfl (by rw [HLG.out]; exact Tryz.sizeGrid)) hHeld ?_
    simp only [Act.put, List.setIfInBounds_toArray, List.set_cons_zero, List.set_cons_succ]
    refine takeA (i := 1) (v := .agg (ints G).toArray) 21 rfl rfl (by kernel_rfl) (by kernel_rfl) (by kernel_rfl) (by kernel_rfl) (fun _ _ _ h => h) (yieldsIf_load_mid (by rfl) 69 _ rfl w2.heap.size 0 rfl (ints G) _ HRG.out HU rfl (by rw [HLG.out]; exact Tryz.sizeGrid)) hHeld ?_
    simp only [Act.put, List.setIfInBounds_toArray, List.set_cons_zero, List.set_cons_succ]
    refine takeA (i := 2) (v := .agg (ints G).toArray) 22 rfl rfl (by kernel_rfl) (by kernel_rfl) (by kernel_rfl) (by kernel_rfl) (fun _ _ _ h => h) (yieldsIf_load_mid (by rfl) 69 _ rfl w2.heap.size 0 rfl (ints G) _ HRG.out HU rfl (by rw [HLG.out]; exact Tryz.sizeGrid)) hHeld ?_
    simp only [Act.put, List.setIfInBounds_toArray, List.set_cons_zero, List.set_cons_succ]
    refine takeA (i := 3) (v := .agg (bL P).toArray) 23 rfl rfl (by kernel_rfl) (by kernel_rfl) (by kernel_rfl) (by kernel_rfl) (fun _ _ _ h => h) (yieldsIf_load_mid (by rfl) 77 _ rfl w3.heap.size 0 rfl (bL P) _ HRS.out HUS rfl (by rw [bL_len]; exact Tryz.sizeSet)) hHeld ?_
    simp only [Act.put, List.setIfInBounds_toArray, List.set_cons_zero, List.set_cons_succ]
    clear hHeld
    refine onlyL (i := 4) (by kernel_rfl) rfl (by rfl) (fun K hK => ?_)
    go_simp
    refine (KO.out _).mono ?_
    rintro e w7 ⟨rfl, hb7⟩
    have t7 : Below w6.heap.size w6 w7 := ((Below.refl _ _).drew).trans (hb7.mono (Nat.le_refl _))
    clear hb7
    refine hK.out _ _ (fun _ => grown_of_below t7 _) (fun hHeld => ?_)
    clear hK K hHeld
    try simp only [Act.put, List.setIfInBounds_toArray, List.set_cons_zero, List.set_cons_succ]
    refine onlyL (i := 5) (by kernel_rfl) rfl (by rfl) (fun K hK => ?_)
    go_simp
    refine (KL.out _).mono ?_
    rintro e w8 ⟨u, rfl, ho8, hb8⟩
    have t8 : Below w6.heap.size w6 w8 := t7.trans (hb8.mono t7.size)
    have z7 : w6.heap.size ≤ w7.heap.size := t7.size
    have HSB : Hid (∀ q, u.ownBlock = some q → w7.heap.size ≤ q) := Lib.hid (fun q hq => (ho8.lt q hq).1)
    have O8 := Lib.hid ho8
    clear hb8 ho8
    refine hK.out _ _ (fun _ => grown_of_below t8 _) (fun hHeld => ?_)
    clear hK K hHeld
    try simp only [Act.put, List.setIfInBounds_toArray, List.set_cons_zero, List.set_cons_succ]
    refine onlyL (i := 6) (by kernel_rfl) rfl (by rfl) (fun K hK => ?_)
    refine wp_storeM 69 (.tmp 4) (.tmp 20) rfl rfl (w.heap.size + 1) 0 rfl (ints G) rfl 69 _ (R1.out.all t8) (by rw [HLG.out]; exact Nat.le_refl _) (by rw [HLG.out]; exact Tryz.sizeGrid) (fun v hv => ints_one hv) ?_
    intro w9 hc9 ha9
    rw [lay'_all (by rw [HLG.out]; rfl)] at hc9
    have C9 := Lib.hid hc9
    have O9 := Lib.hid (O8.out.kept (at_grown ha9) (.inr (fun e => by have := HSB.out _ e; omega)))
    have B9 : Hid (Below w.heap.size w w9) := Lib.hid ((B1.out.trans (t8.mono (by omega))).trans (ha9.below (by omega)))
    have t9 : w6.grownBy w9 (some (w.heap.size + 1)) := grownBy_tr (grown_of_below t8 _) (at_grown ha9)
    clear hc9 ha9
    refine hK.out _ _ (fun _ => t9) (fun hHeld => ?_)
    have hHeld := hHeld (by decide)
    clear hK K
    try simp only [Act.put, List.setIfInBounds_toArray, List.set_cons_zero, List.set_cons_succ]
    refine takeA (i := 7) (v := u) 5 rfl rfl (by kernel_rfl) (by kernel_rfl) (by kernel_rfl) (by kernel_rfl) (fun _ _ _ h => h) (Or.inl ⟨by rfl, by intro W hSw; go_simp⟩) hHeld ?_
    simp only [Act.put, List.setIfInBounds_toArray, List.set_cons_zero, List.set_cons_succ]
    refine takeA (i := 8) (v := .bool true) 6 rfl rfl (by kernel_rfl) (by kernel_rfl) (by kernel_rfl) (by kernel_rfl) (fun _ _ _ h => h) (Or.inl ⟨by rfl, by intro W hSw; go_simp⟩) hHeld ?_
    simp only [Act.put, List.setIfInBounds_toArray, List.set_cons_zero, List.set_cons_succ]
    refine doneL (by kernel_rfl) ?_ _
    go_wp2
    refine bodyPost_ret (results_mid1t Tryz.results37 _ _ (w.heap.size + 1) (ints G) _ _ _ rfl rfl rfl C9.out.whole Tryz.underlying69 rfl (by rw [HLG.out]; exact Tryz.sizeGrid)) rfl ?_
    exact ⟨_, rfl, own_mono O9.out (by omega), B9.out⟩
end Go.Proofs.YthjfanhhindjlaaGreat
