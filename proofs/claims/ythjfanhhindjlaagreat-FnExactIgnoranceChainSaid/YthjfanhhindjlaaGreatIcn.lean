/-
  impl.IgnoranceChain: the least of the shortest chains to a world where the formula is false. No condition but the readings.
-/
import Derived.Test.YthjfanhhindjlaaGreatDbt
import Derived.Test.YthjfanhhindjlaaGreatSdp
import Derived.Test.YthjfanhhindjlaaGreatNrn
import Derived.Test.YthjfanhhindjlaaGreatChm
import Derived.Test.YthjfanhhindjlaaGreatCha
namespace Go.Proofs.YthjfanhhindjlaaGreat
open Go.RowKit Go.WideShapes Go.Shelf
open Go Go.Deep
set_option linter.unusedSimpArgs false

def icK (m : Md) (xs : List Nd) : Option Nat := if evOk m xs then falseK m (evP m xs) m.actual.toNat else none
def icR (m : Md) (xs : List Nd) : List Int := match icK m xs with
  | some k => (List.range (k + 1)).map fun i => ((chainK m (evP m xs) k m.actual.toNat).getD i 0 : Int)
  | none => []
theorem icR_len (m : Md) (xs : List Nd) : (icR m xs).length ≤ 16 := by
  unfold icR icK
  split
  · rename_i k h
    split at h
    · rename_i hok
      rw [List.length_map, List.length_range]
      have hm := (evOk_parts hok).1
      obtain ⟨p1, p2, -, -, -, -, p7, p8⟩ := mdOk_parts hm
      have := (falseK_some hm (u := m.actual.toNat) (by omega) h).2.2.1
      omega
    · cases h
  · simp
theorem dbt_every {m : Md} (hm : mdOk m = true) {xs : List Nd} {k u : Nat} (hu : u < m.facts.length) : doubtP m xs k u = !(everyK m (evP m xs) k u) := lev_every hm k u hu
set_option maxRecDepth 100000 in
set_option maxHeartbeats 16000000 in
/-- the next world of the chain -/
theorem chain_fn (w : World) (bg bl bs : Nat) (m : Md) (hm : mdOk m = true) (xs : List Nd) (k act : Nat) (hact : act < m.facts.length) (hf : falseK m (evP m xs) act = some k) (u : Value)
    (hg : Cm w bg 69 (ints (gM m))) (hl : Cm w bl 70 [u]) (hS : SetsV w u (doubtP m xs) m.facts.length) (hs : Cm w bs 3 [.int .i64 k]) (i : Nat) (hi : i < k) (W : World) (hW : Below w.heap.size w W) :
    Calls Tryz.prog 40 #[.int .i64 ((chainK m (evP m xs) k act).getD i 0 : Int), .int .i64 ((i : Int) + 1), .pointer (some ⟨bg, 0, none⟩), .pointer (some ⟨bl, 0, none⟩), .pointer (some ⟨bs, 0, none⟩)] W
      fun e W' => e = .returned (.int .i64 ((chainK m (evP m xs) k act).getD (i + 1) 0 : Int)) ∧ Below W.heap.size W W' := by
  obtain ⟨p1, p2, p3, p4, -, -, -, -⟩ := mdOk_parts hm
  have hsm := md_small hm
  have hkn := (falseK_some hm hact hf).2.2.1
  obtain ⟨q1, q2, q3, q4, q5, q6⟩ := chain_step hm hact hf i hi
  obtain ⟨j, hj⟩ : ∃ j, k = j + i + 1 := ⟨k - i - 1, by omega⟩
  have hfirst := chain_first hm hact hf hi (q := cut m.facts.length fun x => doubtP m xs j x && near m.blocks m.blocks.length ((chainK m (evP m xs) k act).getD i 0) x) (fun x hx => by
    rw [cut_at hx, dbt_every hm hx, show k - i - 1 = j by omega]; rfl) (fun x hx => cut_in hx)
  have KN := Lib.hid (fun W => nearIn_any m.facts.length m.blocks.length m.actual m.facts m.blocks hsm p2 p4 (doubtP m xs j) ((chainK m (evP m xs) k act).getD i 0) (by omega) ⟨_, by omega, hfirst.2⟩ W)
  rw [hfirst.1, show gL m.facts.length m.blocks.length m.facts m.blocks m.actual = gM m from rfl] at KN
  have HL : Hid ((ints (gM m)).length = 67) := Lib.hid (by rw [ints_len]; exact gL_len hsm)
  obtain ⟨g, cap, cs, rfl, h1, h2, h3, h4, h5⟩ := hS
  unfold maxLen at h2
  have HRS : Hid (∀ V, Below W.heap.size W V → V.rangeAt g (j * 16) (bL (doubtP m xs j))) := Lib.hid (fun V h => Cm.range (h4.all (hW.trans (h.mono hW.size))) (j * 16) _ (fun x hx => h5 j (by omega) x (by rwa [bL_len] at hx)))
  have HRG : Hid (∀ V, Below W.heap.size W V → V.rangeAt bg 0 (ints (gM m))) := Lib.hid (fun V h => (hg.all (hW.trans (h.mono hW.size))).whole)
  have HRL : Hid (∀ V, Below W.heap.size W V → V.cell? ⟨bl, 0, none⟩ = some (.slice (some ⟨g, 0, none⟩) m.facts.length cap)) := Lib.hid (fun V h => (hl.all (hW.trans (h.mono hW.size))).one)
  have HRK : Hid (∀ V, Below W.heap.size W V → V.cell? ⟨bs, 0, none⟩ = some (.int .i64 k)) := Lib.hid (fun V h => (hs.all (hW.trans (h.mono hW.size))).one)
  generalize doubtP m xs j = PB at *
  generalize gM m = G at *
  generalize (chainK m (evP m xs) k act).getD i 0 = ci at *
  generalize (chainK m (evP m xs) k act).getD (i + 1) 0 = cn at *
  generalize m.facts.length = n at *
  have HU : Tryz.prog.underlying 69 = some _ := Tryz.underlying69
  have HUS : Tryz.prog.underlying 77 = some _ := Tryz.underlying77
  have e1 : (k : Int) - ((i : Int) + 1) = (j : Int) := by omega
  have e2 : IntKind.i64.wrap ((k : Int) - ((i : Int) + 1)) = (j : Int) := by rw [e1]; exact IntWalk.i64_in _ (by omega)
  have E2 := Lib.hid e2
  have j0 : (0 : Int) ≤ (j : Int) := Int.natCast_nonneg _
  have jn : (j : Int) < (n : Int) := by omega
  clear hfirst q1 q2 q3 q4 q5 q6 hg hl hs h4 h5 hW hf hsm hm e1 e2 hj
  go_enter Tryz.func40, Tryz.ntmps40
  go_wp2
  refine regionL (fun V => Below W.heap.size W V) [] (by kernel_rfl) (Below.refl _ _).drew (fun hHeld => ?_)
  refine takeA (i := 0) (v := .agg (ints G).toArray) 8 rfl rfl (by kernel_rfl) (by kernel_rfl) (by kernel_rfl) (by kernel_rfl) (fun _ _ _ h => h) (yieldsIf_load_mid (by rfl) 69 _ rfl bg 0 rfl (ints G) _ HRG.out HU rfl (by rw [HL.out]; exact Tryz.sizeGrid)) hHeld ?_
  simp only [Act.put, List.setIfInBounds_toArray, List.set_cons_zero, List.set_cons_succ]
  refine takeA (i := 1) (v := .slice (some ⟨g, 0, none⟩) n cap) 9 rfl rfl (by kernel_rfl) (by kernel_rfl) (by kernel_rfl) (by kernel_rfl) (fun _ _ _ h => h) (Or.inl ⟨by rfl, by intro W hSw; have c1 := HRL.out _ hSw; go_simp⟩) hHeld ?_
  simp only [Act.put, List.setIfInBounds_toArray, List.set_cons_zero, List.set_cons_succ]
  refine takeA (i := 2) (v := .int .i64 k) 10 rfl rfl (by kernel_rfl) (by kernel_rfl) (by kernel_rfl) (by kernel_rfl) (fun _ _ _ h => h) (Or.inl ⟨by rfl, by intro W hSw; have c1 := HRK.out _ hSw; go_simp⟩) hHeld ?_
  simp only [Act.put, List.setIfInBounds_toArray, List.set_cons_zero, List.set_cons_succ]
  refine takeA (i := 3) (v := .int .i64 ((i : Int) + 1)) 11 rfl rfl (by kernel_rfl) (by kernel_rfl) (by kernel_rfl) (by kernel_rfl) (fun _ _ _ h => h) (Or.inl ⟨by rfl, by intro W hSw; go_simp⟩) hHeld ?_
  simp only [Act.put, List.setIfInBounds_toArray, List.set_cons_zero, List.set_cons_succ]
  refine takeA (i := 7) (v := .int .i64 ci) 15 rfl rfl (by kernel_rfl) (by kernel_rfl) (by kernel_rfl) (by kernel_rfl) (fun _ _ _ h => h) (Or.inl ⟨by rfl, by intro W hSw; go_simp⟩) hHeld ?_
  simp only [Act.put, List.setIfInBounds_toArray, List.set_cons_zero, List.set_cons_succ]
  refine takeA (i := 4) (v := .int .i64 j) 12 rfl rfl (by kernel_rfl) (by kernel_rfl) (by kernel_rfl) (by kernel_rfl) (fun _ _ _ h => h) (Or.inl ⟨by rfl, by intro W hSw; have e2 := E2.out; go_simp⟩) hHeld ?_
  simp only [Act.put, List.setIfInBounds_toArray, List.set_cons_zero, List.set_cons_succ]
  refine takeA (i := 5) (v := .pointer (some ⟨g, j * 16, none⟩)) 13 rfl rfl (by kernel_rfl) (by kernel_rfl) (by kernel_rfl) (by kernel_rfl) (fun _ _ _ h => h) (Or.inl ⟨by rfl, by intro W hSw; go_simp⟩) hHeld ?_
  simp only [Act.put, List.setIfInBounds_toArray, List.set_cons_zero, List.set_cons_succ]
  refine takeA (i := 6) (v := .agg (bL PB).toArray) 14 rfl rfl (by kernel_rfl) (by kernel_rfl) (by kernel_rfl) (by kernel_rfl) (fun _ _ _ h => h) (yieldsIf_load_mid (by rfl) 77 _ rfl g (j * 16) rfl (bL PB) _ HRS.out HUS rfl (by rw [bL_len]; exact Tryz.sizeSet)) hHeld ?_
  simp only [Act.put, List.setIfInBounds_toArray, List.set_cons_zero, List.set_cons_succ]
  refine onlyL (i := 8) (by kernel_rfl) rfl (by rfl) (fun K hK => ?_)
  go_simp
  refine (KN.out _).mono ?_
  rintro e w8 ⟨rfl, hb8⟩
  have t8 : Below W.heap.size W w8 := hHeld.trans (hb8.mono (Nat.le_refl _))
  clear hb8 hHeld
  refine hK.out _ _ (fun _ => t8) (fun hHeld => ?_)
  have hHeld := hHeld (by decide)
  clear hK K
  try simp only [Act.put, List.setIfInBounds_toArray, List.set_cons_zero, List.set_cons_succ]
  refine takeA (i := 9) (v := .int .i64 cn) 7 rfl rfl (by kernel_rfl) (by kernel_rfl) (by kernel_rfl) (by kernel_rfl) (fun _ _ _ h => h) (Or.inl ⟨by rfl, by intro W hSw; go_simp⟩) hHeld ?_
  simp only [Act.put, List.setIfInBounds_toArray, List.set_cons_zero, List.set_cons_succ]
  refine doneL (by kernel_rfl) ?_ _
  go_wp2
  go_ret
  exact ⟨rfl, t8⟩

set_option maxRecDepth 100000 in
set_option maxHeartbeats 32000000 in
theorem implIgn_any (lo hi : Nat) (v v2 : Value) (m : Md) (xs : List Nd) (w : World) (hr : Mv lo hi w v m) (hhi : hi ≤ w.heap.size) (hr2 : Ns w v2 xs) :
    Calls Tryz.prog 10 #[v, v2] w (IntsAns2 w (icR m xs) (icK m xs).isSome) := by
  have KN := Lib.hid (fun (hok : evOk m xs = false) W (h : Below w.heap.size w W) => doubts_no lo hi v v2 m xs W (hr.keeps (Keeps.of_all h)) (Nat.le_trans hhi h.size) (hr2.below h (Nat.le_refl _)) hok)
  have KY := Lib.hid (fun (hok : evOk m xs = true) W (h : Below w.heap.size w W) => doubts_yes lo hi v v2 m xs W (hr.keeps (Keeps.of_all h)) (Nat.le_trans hhi h.size) (hr2.below h (Nat.le_refl _)) hok)
  obtain ⟨fv, bv, rfl, hf, hb⟩ := hr
  obtain ⟨a2, c2, rfl, -⟩ := hr2.parts
  clear hf hb hr2
  unfold IntsAns2
  cases hok : evOk m xs with
  | false =>
    have HK : Hid (icK m xs = none) := Lib.hid (by unfold icK; rw [hok]; rfl)
    have HR : Hid (icR m xs = []) := Lib.hid (by unfold icR; rw [HK.out])
    have KT := Lib.hid (KN.out hok)
    have HLG : Hid ((ints (gL 0 0 [] [] 0)).length = 67) := Lib.hid rfl
    obtain ⟨G, hG⟩ : ∃ G, G = gL 0 0 [] [] 0 := ⟨_, rfl⟩
    rw [← hG] at KT HLG
    clear hok hG KN KY
    go_enter Tryz.func10, Tryz.ntmps10
    go_wp2_with fail
    refine (KT.out _ (by go_grown)).mono ?_
    rintro e w1 ⟨rfl, hb1⟩
    have B1 : Hid (Below w.heap.size w w1) := Lib.hid (Below.trans (by go_grown) (hb1.mono (by simp)))
    have lt1 : w.heap.size ≤ w1.heap.size := B1.out.size
    clear hb1
    have tk1 : True := trivial
    have tk2 : True := trivial
    go_wp2_with
      (first
        | (have _t := tk1; clear _t tk1; refine wpList_allocM rfl 69 rfl (ints (gL 0 0 [] [] 0)) Tryz.allocGrid ?_
           intro w2 hc1 hb1 hs1
           have G1 := Lib.hid hc1
           have B1 := Lib.hid (B1.out.trans (hb1.mono B1.out.size))
           have lt2 : w1.heap.size < w2.heap.size := G1.out.lt
           clear hc1 hb1 hs1)
        | (have _t := tk2; clear _t tk2; refine wpList_storeM rfl 69 (.tmp 6) (.tmp 14) rfl w1.heap.size 0 rfl (ints G) rfl 69 (ints (gL 0 0 [] [] 0)) (G1.out.alloc _) (by rw [HLG.out]; exact Nat.le_refl _) (by rw [HLG.out]; exact Tryz.sizeGrid) (fun v hv => ints_one hv) ?_
           intro w3 hc3 ha3
           have L3 : Cm w3 w2.heap.size 70 [.slice none 0 0] := ha3.cm (Cm.new rfl) (by omega)
           have B1 : Hid (Below w.heap.size w w3) := Lib.hid ((B1.out.alloc (B1.out.size) _).trans (ha3.below (by omega)))
           have c7 := L3.one
           have f7 := L3.frozen 0
           have lt3 : w.heap.size ≤ w2.heap.size := by omega
           clear hc3 ha3))
    go_wp2
    go_returns
    exact ⟨.slice none 0 0, by rw [HK.out]; rfl, by rw [HR.out]; exact Ro.of_own (World.ownsRow_nil _ _ _ _), B1.out.setCell lt3 _⟩
  | true =>
    have hm := (evOk_parts hok).1
    have hs := md_small hm
    obtain ⟨p1, p2, p3, p4, -, -, p7, p8⟩ := mdOk_parts hm
    obtain ⟨act, hact⟩ := Int.eq_ofNat_of_zero_le p7
    have hactn : act < m.facts.length := by omega
    have KT := Lib.hid (KY.out hok)
    have HLG : Hid ((ints (gM m)).length = 67) := Lib.hid (by rw [ints_len]; exact gL_len hs)
    have G66 : Hid ((ints (gM m))[66]? = some (.int .i64 act)) := Lib.hid (by unfold gM; rw [ints_get, gL_66 hs, hact]; rfl)
    have KS := Lib.hid (fun u W h => stepsTo_any u (doubtP m xs) m.facts.length p2 act (by omega) W h)
    rw [idx_false hm hactn] at KS
    have HIK : Hid (icK m xs = falseK m (evP m xs) act) := Lib.hid (by unfold icK; rw [if_pos hok, hact, Int.toNat_natCast])
    have HIR : Hid (∀ k, falseK m (evP m xs) act = some k → icR m xs = (List.range (k + 1)).map fun i => ((chainK m (evP m xs) k act).getD i 0 : Int)) := Lib.hid (fun k h => by unfold icR; rw [HIK.out, h, hact, Int.toNat_natCast])
    have HIN : Hid (falseK m (evP m xs) act = none → icR m xs = []) := Lib.hid (fun h => by unfold icR; rw [HIK.out, h])
    have HKN : Hid (∀ k, falseK m (evP m xs) act = some k → k ≤ 15 ∧ (chainK m (evP m xs) k act).getD 0 0 = act) := Lib.hid (fun k h => ⟨by have := (falseK_some hm hactn h).2.2.1; omega, (chain_good hm hactn h).2.2.2⟩)
    have HOS := Lib.hid (fun (W : World) base v (h : W.ownsRow base 77 16 v m.facts.length (setsV (doubtP m xs) m.facts.length)) => SetsV.of_own p1 h)
    have HFN := Lib.hid (fun k W bg bl bs u h1 h2 h3 h4 h5 i hi W' hW' => chain_fn W bg bl bs m hm xs k act hactn h1 u h2 h3 h4 h5 i hi W' hW')
    have HSQ := Lib.hid (fun (L : Nat → Int) N x hx hN caps W h => seqI_any L N x hx hN 40 caps W (enters_of Tryz.func40 (by kernel_rfl) rfl) h)
    unfold IntsAns at HSQ
    rw [HIK.out]
    generalize chainK m (evP m xs) = ck at *
    generalize icR m xs = R at *
    generalize icK m xs = K0 at *
    generalize doubtP m xs = LP at *
    generalize gM m = G at *
    generalize m.facts.length = n at *
    generalize falseK m (evP m xs) act = fk at *
    clear hok hs p3 p4 p7 p8 KN KY HIK hact hm
    go_enter Tryz.func10, Tryz.ntmps10
    go_wp2_with fail
    refine (KT.out _ (by go_grown)).mono ?_
    rintro e w1 ⟨u, rfl, ho1, hb1⟩
    have B1 : Hid (Below w.heap.size w w1) := Lib.hid (Below.trans (by go_grown) (hb1.mono (by simp)))
    have lt1 : w.heap.size ≤ w1.heap.size := B1.out.size
    obtain ⟨g, cap, cs, rfl, h1, h2, h3, h4, h5⟩ := HOS.out _ _ _ ho1
    unfold maxLen at h2
    have C1 := Lib.hid h4
    have H5 := Lib.hid h5
    clear hb1 ho1 h4 h5 HOS
    have tk3 : True := trivial
    have tk4 : True := trivial
    go_wp2_with
      (first
        | (have _t := tk3; clear _t tk3; refine wpList_allocM rfl 69 rfl (ints (gL 0 0 [] [] 0)) Tryz.allocGrid ?_
           intro w2 hc1 hb1 hs1
           have G1 := Lib.hid hc1
           have C1 := Lib.hid (C1.out.all hb1)
           have B1 := Lib.hid (B1.out.trans (hb1.mono B1.out.size))
           have lt2 : w1.heap.size < w2.heap.size := G1.out.lt
           clear hc1 hb1 hs1)
        | (have _t := tk4; clear _t tk4; refine wpList_storeM rfl 69 (.tmp 6) (.tmp 14) rfl w1.heap.size 0 rfl (ints G) rfl 69 (ints (gL 0 0 [] [] 0)) (G1.out.alloc _) (by rw [HLG.out]; exact Nat.le_refl _) (by rw [HLG.out]; exact Tryz.sizeGrid) (fun v hv => ints_one hv) ?_
           intro w3 hc3 ha3
           rw [lay'_all (by rw [HLG.out]; rfl)] at hc3
           have G1 := Lib.hid hc3
           have L3 : Cm w3 w2.heap.size 70 [.slice none 0 0] := ha3.cm (Cm.new rfl) (by omega)
           have C1 := Lib.hid (ha3.cm (C1.out.alloc _) (by omega))
           have B1 : Hid (Below w.heap.size w w3) := Lib.hid ((B1.out.alloc (B1.out.size) _).trans (ha3.below (by omega)))
           have c7 := L3.one
           have f7 := L3.frozen 0
           have LL := Lib.hid L3
           have lt3 : w2.heap.size < w3.heap.size := L3.lt
           have c66 : w3.cell? ⟨w1.heap.size, 66, none⟩ = some (.int .i64 act) := (G1.out.cell 66).trans G66.out
           clear hc3 ha3 L3))
    clear c7 f7 c66
    have G4 := Lib.hid (G1.out.other (b' := w2.heap.size) (by omega) 0 (.slice (some ⟨g, 0, none⟩) n cap))
    have L4 := Lib.hid (LL.out.set 0 (.slice (some ⟨g, 0, none⟩) n cap))
    have C4 := Lib.hid (C1.out.other (b' := w2.heap.size) (by omega) 0 (.slice (some ⟨g, 0, none⟩) n cap))
    have B4 : Hid (Below w.heap.size w (w3.setCell ⟨w2.heap.size, 0, none⟩ (.slice (some ⟨g, 0, none⟩) n cap))) := Lib.hid (B1.out.setCell (by show _ ≤ w2.heap.size; omega) _)
    generalize w3.setCell ⟨w2.heap.size, 0, none⟩ (.slice (some ⟨g, 0, none⟩) n cap) = w4 at *
    have S4 : Hid (SetsV w4 (.slice (some ⟨g, 0, none⟩) n cap) LP n) := Lib.hid ⟨g, cap, cs, rfl, h1, h2, C4.out.lt, C4.out, H5.out⟩
    clear C1 B1 G1 LL
    refine (KS.out _ _ S4.out).mono ?_
    cases fk with
    | none =>
      rintro e w5 ⟨rfl, hb5⟩
      have HR := Lib.hid (HIN.out rfl)
      have B5 : Hid (Below w.heap.size w w5) := Lib.hid (B4.out.trans (hb5.mono B4.out.size))
      have z5 : w.heap.size ≤ w5.heap.size := B5.out.size
      clear hb5 HIR HKN HFN
      go_wp2
      go_returns
      exact ⟨.slice none 0 0, rfl, by rw [HR.out]; exact Ro.of_own (World.ownsRow_nil _ _ _ _), by have h := B5.out; go_grown⟩
    | some k =>
      obtain ⟨hk15, hk0⟩ := HKN.out k rfl
      have HR := Lib.hid (HIR.out k rfl)
      have k0 : (0 : Int) ≤ (k : Int) := Int.natCast_nonneg _
      have HFN := Lib.hid (fun W bg bl bs u h2 h3 h4 h5 => HFN.out k W bg bl bs u rfl h2 h3 h4 h5)
      rintro e w5 ⟨rfl, hb5⟩
      have B5 : Hid (Below w.heap.size w w5) := Lib.hid (B4.out.trans (hb5.mono B4.out.size))
      have z5 : w.heap.size ≤ w5.heap.size := B5.out.size
      have G5 := G4.out.all hb5
      have L5 := L4.out.all hb5
      have S5 := S4.out.below hb5
      have c66 : (w5.alloc (.cells #[.int .i64 k] 3)).cell? ⟨w1.heap.size, 66, none⟩ = some (.int .i64 act) := ((G5.alloc _).cell 66).trans G66.out
      have hseq := HSQ.out (fun i => ((ck k act).getD i 0 : Int)) k (k : Int) rfl hk15 #[.pointer (some ⟨w1.heap.size, 0, none⟩), .pointer (some ⟨w2.heap.size, 0, none⟩), .pointer (some ⟨w5.heap.size, 0, none⟩)] (w5.alloc (.cells #[.int .i64 k] 3))
        (fun i hi W hW => HFN.out _ w1.heap.size w2.heap.size w5.heap.size _ (G5.alloc _) (L5.alloc _) (S5.below (by go_grown)) (Cm.new rfl) i hi W hW)
      try dsimp only at hseq
      rw [hk0] at hseq
      have HSEQ := Lib.hid hseq
      have hmf : ∀ (fn : Fn) (first cap : Array Value) (w : World), (Instr.makeFunc fn first cap).run Tryz.prog w = .ok (.func fn first cap) w := fun _ _ _ _ => rfl
      have B6 : Hid (Below w.heap.size w (w5.alloc (.cells #[.int .i64 k] 3))) := Lib.hid (B5.out.alloc z5 _)
      clear hb5 HIR HKN HFN hseq G5 L5 S5 HSQ
      go_wp2_with fail
      refine HSEQ.out.mono ?_
      rintro e w7 ⟨v7, rfl, ho7, hb7⟩
      have O7 := Lib.hid ho7
      have z6 := B6.out.size
      have B7 : Hid (Below w.heap.size w w7) := Lib.hid (B6.out.trans (hb7.mono z6))
      clear ho7 hb7 c66
      go_wp2
      go_returns
      exact ⟨v7, rfl, by rw [HR.out]; exact O7.out.wide z6 (Nat.le_refl _), B7.out⟩
end Go.Proofs.YthjfanhhindjlaaGreat
