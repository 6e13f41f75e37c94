/-
  WhoKnows of both sides: the agents who know a formula in the actual world. No condition but the readings.
-/
import Derived.Test.YthjfanhhindjlaaGreatZSvb
namespace Go.Proofs.YthjfanhhindjlaaGreat
open Go.RowKit Go.WideShapes
open Go Go.Deep
set_option linter.unusedSimpArgs false

def whoP (m : Md) (xs : List Nd) (k : Nat) : Bool := subB (blkB m.blocks m.facts.length k m.actual.toNat) (evP m xs)
/-- the agents who know it in the actual world -/
def whoR (m : Md) (xs : List Nd) : List Int := if evOk m xs then nums (lst (whoP m xs) m.blocks.length) else []
theorem whoR_len (m : Md) (xs : List Nd) : (whoR m xs).length ≤ 16 := by
  unfold whoR
  split
  · rename_i h
    rw [nums_len]
    have := lst_len (whoP m xs) m.blocks.length
    have := (mdOk_parts (evOk_parts h).1).2.2.2.1
    omega
  · simp

set_option maxRecDepth 100000 in
set_option maxHeartbeats 16000000 in
theorem implWho_any (lo hi : Nat) (v v2 : Value) (m : Md) (xs : List Nd) (w : World) (hr : Mv lo hi w v m) (hhi : hi ≤ w.heap.size) (hr2 : Ns w v2 xs) :
    Calls Tryz.prog 26 #[v, v2] w (IntsAns w (whoR m xs)) := by
  obtain ⟨G, P, hl, hT, hF, hK⟩ := truthIn_gen lo hi v v2 m xs w hr hhi hr2
  have HLG := Lib.hid hl
  have KT := Lib.hid hK
  have HT := Lib.hid hT
  have HF := Lib.hid hF
  clear hl hK hT hF
  obtain ⟨fv, bv, rfl, hf, hb⟩ := hr
  obtain ⟨a2, c2, rfl, -⟩ := hr2.parts
  clear hf hb hr2
  cases hok : evOk m xs with
  | false =>
    rw [hok] at KT
    have HA : Hid (whoR m xs = []) := Lib.hid (by unfold whoR; rw [hok]; rfl)
    clear HT HF hok
    go_enter Tryz.func26, Tryz.ntmps26
    go_wp2_with fail
    refine (KT.out _ (by go_grown)).mono ?_
    rintro e w1 ⟨rfl, hb1⟩
    have B1 : Hid (Below w.heap.size w w1) := Lib.hid (Below.trans (by go_grown) (hb1.mono (by simp)))
    clear hb1
    have sb1 : w.heap.size ≤ w1.heap.size := B1.out.size
    have tk1 : True := trivial
    have tk2 : True := trivial
    have tk3 : True := trivial
    have tk4 : True := trivial
    go_wp2_with
      (first
        | (have _t := tk1; clear _t tk1; refine wpList_allocM rfl 69 rfl (ints (gL 0 0 [] [] 0)) Tryz.allocGrid ?_
           intro w2 hc1 hb1 hs1
           have G1 := Lib.hid hc1
           have B1 := Lib.hid (B1.out.trans (hb1.mono B1.out.size))
           have lt2 : w1.heap.size < w2.heap.size := G1.out.lt
           clear hc1 hb1 hs1)
        | (have _t := tk2; clear _t tk2; refine wpList_allocM rfl 77 rfl (bL (fun _ => false)) Tryz.allocSet ?_
           intro w3 hc1 hb1 hs1
           have Q1 := Lib.hid hc1
           have G1 := Lib.hid (G1.out.all hb1)
           have B1 := Lib.hid (B1.out.trans (hb1.mono B1.out.size))
           have lt3 : w2.heap.size < w3.heap.size := Q1.out.lt
           clear hc1 hb1 hs1)
        | (have _t := tk3; clear _t tk3; refine wpList_storeM rfl 69 (.tmp 5) (.tmp 14) rfl w1.heap.size 0 rfl (ints G) rfl 69 (ints (gL 0 0 [] [] 0)) G1.out (by rw [HLG.out]; exact Nat.le_refl _) (by rw [HLG.out]; exact Tryz.sizeGrid) (fun v hv => ints_one hv) ?_
           intro w4 hc3 ha3
           rw [lay'_all (by rw [HLG.out]; rfl)] at hc3
           have G1 := Lib.hid hc3
           have Q1 := Lib.hid (ha3.cm Q1.out (by omega))
           have B1 : Hid (Below w.heap.size w w4) := Lib.hid (B1.out.trans (ha3.below (by omega)))
           clear hc3 ha3)
        | (have _t := tk4; clear _t tk4; refine wpList_storeM rfl 77 (.tmp 6) (.tmp 15) rfl w2.heap.size 0 rfl (bL P) rfl 77 _ Q1.out (by rw [bL_len, bL_len]; exact Nat.le_refl _) (by rw [bL_len]; exact Tryz.sizeSet) (fun v hv => bL_one hv) ?_
           intro w5 hc3 ha3
           rw [lay'_all (by rw [bL_len, bL_len])] at hc3
           have Q1 := Lib.hid hc3
           have G1 := Lib.hid (ha3.cm G1.out (by omega))
           have B1 : Hid (Below w.heap.size w w5) := Lib.hid (B1.out.trans (ha3.below (by omega)))
           clear hc3 ha3))
    go_wp2
    go_ret
    exact ⟨.slice none 0 0, rfl, by rw [HA.out]; exact Ro.of_own (World.ownsRow_nil _ _ _ _), B1.out⟩
  | true =>
    have HP := ok_len hok
    have hs := md_small (evOk_parts hok).1
    obtain ⟨-, -, p3, p4, -, -, p7, p8⟩ := mdOk_parts (evOk_parts hok).1
    obtain ⟨act, hact⟩ := Int.eq_ofNat_of_zero_le p7
    have hact16 : act < 16 := by omega
    rw [hok] at KT
    obtain ⟨g0, g66, hP, hG⟩ := HT.out hok
    have hA : whoR m xs = nums (lst (whoP m xs) m.blocks.length) := by unfold whoR; rw [if_pos hok]
    have HWP : Hid (∀ k, subB (blkB m.blocks m.facts.length k act) P = whoP m xs k) := Lib.hid (fun k => by unfold whoP; rw [hact, Int.toNat_natCast, hP])
    have KB := Lib.hid (fun k (hk : k < m.blocks.length) W => block_any m.facts.length m.blocks.length m.actual m.facts m.blocks hs HP.2 k act (by omega) hact16 W)
    rw [show gL m.facts.length m.blocks.length m.facts m.blocks m.actual = G from hG.symm] at KB
    have G1' : Hid ((ints G)[1]? = some (.int .i64 m.blocks.length)) := Lib.hid (by rw [hG]; rfl)
    rw [hact] at g66
    have G66 := Lib.hid g66
    have HA := Lib.hid hA
    have HLL := Lib.hid (fun k => lst_len (whoP m xs) k)
    have HLS := Lib.hid (fun k => lst_succ (whoP m xs) k)
    obtain ⟨an, han⟩ : ∃ an, an = m.blocks.length := ⟨_, rfl⟩
    rw [← han] at KB G1' HA p4
    rw [HA.out]
    generalize whoP m xs = wp at *
    clear HA hA han HT HF g0 g66 hG hP hs hact p3 p7 p8 hok HP
    obtain ⟨i0, hi, _, hi1, _⟩ := info_parts Tryz.infoB
    go_enter Tryz.func26, Tryz.ntmps26
    go_wp2_with fail
    refine (KT.out _ (by go_grown)).mono ?_
    rintro e w1 ⟨rfl, hb1⟩
    have B1 : Hid (Below w.heap.size w w1) := Lib.hid (Below.trans (by go_grown) (hb1.mono (by simp)))
    clear hb1
    have sb1 : w.heap.size ≤ w1.heap.size := B1.out.size
    have tk5 : True := trivial
    have tk6 : True := trivial
    have tk7 : True := trivial
    have tk8 : True := trivial
    go_wp2_with
      (first
        | (have _t := tk5; clear _t tk5; refine wpList_allocM rfl 69 rfl (ints (gL 0 0 [] [] 0)) Tryz.allocGrid ?_
           intro w2 hc1 hb1 hs1
           have G1 := Lib.hid hc1
           have B1 := Lib.hid (B1.out.trans (hb1.mono B1.out.size))
           have lt2 : w1.heap.size < w2.heap.size := G1.out.lt
           clear hc1 hb1 hs1)
        | (have _t := tk6; clear _t tk6; refine wpList_allocM rfl 77 rfl (bL (fun _ => false)) Tryz.allocSet ?_
           intro w3 hc1 hb1 hs1
           have Q1 := Lib.hid hc1
           have G1 := Lib.hid (G1.out.all hb1)
           have B1 := Lib.hid (B1.out.trans (hb1.mono B1.out.size))
           have lt3 : w2.heap.size < w3.heap.size := Q1.out.lt
           clear hc1 hb1 hs1)
        | (have _t := tk7; clear _t tk7; refine wpList_storeM rfl 69 (.tmp 5) (.tmp 14) rfl w1.heap.size 0 rfl (ints G) rfl 69 (ints (gL 0 0 [] [] 0)) G1.out (by rw [HLG.out]; exact Nat.le_refl _) (by rw [HLG.out]; exact Tryz.sizeGrid) (fun v hv => ints_one hv) ?_
           intro w4 hc3 ha3
           rw [lay'_all (by rw [HLG.out]; rfl)] at hc3
           have G1 := Lib.hid hc3
           have Q1 := Lib.hid (ha3.cm Q1.out (by omega))
           have B1 : Hid (Below w.heap.size w w4) := Lib.hid (B1.out.trans (ha3.below (by omega)))
           clear hc3 ha3)
        | (have _t := tk8; clear _t tk8; refine wpList_storeM rfl 77 (.tmp 6) (.tmp 15) rfl w2.heap.size 0 rfl (bL P) rfl 77 _ Q1.out (by rw [bL_len, bL_len]; exact Nat.le_refl _) (by rw [bL_len]; exact Tryz.sizeSet) (fun v hv => bL_one hv) ?_
           intro w5 hc3 ha3
           rw [lay'_all (by rw [bL_len, bL_len])] at hc3
           have Q1 := Lib.hid hc3
           have G1 := Lib.hid (ha3.cm G1.out (by omega))
           have B1 : Hid (Below w.heap.size w w5) := Lib.hid (B1.out.trans (ha3.below (by omega)))
           clear hc3 ha3
           have c0 : w5.cell? ⟨w1.heap.size, 1, none⟩ = some (.int .i64 an) := (G1.out.cell 1).trans G1'.out
           have hsz5 : w.heap.size ≤ w5.heap.size := B1.out.size
           have hw15 : w1.heap.size < w5.heap.size := G1.out.lt
           have hw25 : w2.heap.size < w5.heap.size := Q1.out.lt))
    clear c0
    go_loopw [8, 21] (fun lv iv wr => ∃ (k : Nat) (lv' : Value), k ≤ an ∧ iv = .int .i64 k ∧ lv' = lv ∧ Hid (wr.ownsRow w5.heap.size 3 1 lv' (lst wp k).length (ints (nums (lst wp k)))) ∧ Hid (Cm wr w1.heap.size 69 (ints G)) ∧ Hid (Cm wr w2.heap.size 77 (bL P)) ∧ Hid (Below w.heap.size w wr) ∧ Hid (w5.heap.size ≤ wr.heap.size)) (fun _ iv _ => an - (intOf iv).toNat)
    case atStart => exact ⟨0, _, Nat.zero_le _, rfl, rfl, Lib.hid (World.ownsRow_nil _ _ _ _), G1, Q1, B1, Lib.hid (Nat.le_refl _)⟩
    case round =>
      clear G1 Q1 B1
      obtain ⟨k, lv, hk, rfl, rfl, LR, G1, Q1, BR, Z5⟩ := hrel
      by_cases hlt : k < an
      · have hlk := HLL.out k
        have HS := Lib.hid (HLS.out k)
        have HWK := Lib.hid (HWP.out k)
        have hw1 := G1.out.lt
        have hw2 := Q1.out.lt
        have hszr : w.heap.size ≤ wr.heap.size := BR.out.size
        have KBk := Lib.hid (KB.out k hlt)
        obtain ⟨wo, rfl⟩ : ∃ wo : World, wo = wr := ⟨_, rfl⟩
        obtain ⟨PB, hPB⟩ : ∃ PB, PB = blkB m.blocks m.facts.length k act := ⟨_, rfl⟩
        rw [← hPB] at KBk HWK
        clear hPB
        have HRG : Hid (∀ W, Below wo.heap.size wo W → W.rangeAt w1.heap.size 0 (ints G)) := Lib.hid (fun W h => (G1.out.all h).whole)
        have HRS : Hid (∀ W, Below wo.heap.size wo W → W.rangeAt w2.heap.size 0 (bL P)) := Lib.hid (fun W h => (Q1.out.all h).whole)
        have H66' : Hid (∀ W, Below wo.heap.size wo W → W.cell? ⟨w1.heap.size, 66, none⟩ = some (.int .i64 act)) := Lib.hid (fun W h => ((G1.out.all h).cell 66).trans G66.out)
        have HU : Tryz.prog.underlying 69 = some _ := Tryz.underlying69
        have HUS : Tryz.prog.underlying 77 = some _ := Tryz.underlying77
        go_wp2
        refine regionL (fun W => Below wo.heap.size wo W) [] (by kernel_rfl) (Below.refl _ _).drew (fun hHeld => ?_)
        refine takeA (i := 0) (v := .agg (ints G).toArray) 24 rfl rfl (by kernel_rfl) (by kernel_rfl) (by kernel_rfl) (by kernel_rfl) (fun _ _ _ h => h) (yieldsIf_load_mid (by rfl) 69 _ rfl w1.heap.size 0 rfl (ints G) _ HRG.out HU rfl (by rw [HLG.out]; exact Tryz.sizeGrid)) hHeld ?_
        simp only [Act.put, List.setIfInBounds_toArray, List.set_cons_zero, List.set_cons_succ]
        refine takeA (i := 1) (v := .int .i64 k) 25 rfl rfl (by kernel_rfl) (by kernel_rfl) (by kernel_rfl) (by kernel_rfl) (fun _ _ _ h => h) (Or.inl ⟨by rfl, by intro W hSw; go_simp⟩) hHeld ?_
        simp only [Act.put, List.setIfInBounds_toArray, List.set_cons_zero, List.set_cons_succ]
        refine takeA (i := 2) (v := .pointer (some ⟨w1.heap.size, 66, none⟩)) 26 rfl rfl (by kernel_rfl) (by kernel_rfl) (by kernel_rfl) (by kernel_rfl) (fun _ _ _ h => h) (Or.inl ⟨by rfl, by intro W hSw; go_simp⟩) hHeld ?_
        simp only [Act.put, List.setIfInBounds_toArray, List.set_cons_zero, List.set_cons_succ]
        refine takeA (i := 3) (v := .int .i64 act) 27 rfl rfl (by kernel_rfl) (by kernel_rfl) (by kernel_rfl) (by kernel_rfl) (fun _ _ _ h => h) (Or.inl ⟨by rfl, by intro W hSw; have c1 := H66'.out _ hSw; go_simp⟩) hHeld ?_
        simp only [Act.put, List.setIfInBounds_toArray, List.set_cons_zero, List.set_cons_succ]
        refine takeA (i := 5) (v := .agg (bL P).toArray) 29 rfl rfl (by kernel_rfl) (by kernel_rfl) (by kernel_rfl) (by kernel_rfl) (fun _ _ _ h => h) (yieldsIf_load_mid (by rfl) 77 _ rfl w2.heap.size 0 rfl (bL P) _ HRS.out HUS rfl (by rw [bL_len]; exact Tryz.sizeSet)) hHeld ?_
        simp only [Act.put, List.setIfInBounds_toArray, List.set_cons_zero, List.set_cons_succ]
        refine onlyL (i := 4) (by kernel_rfl) rfl (by rfl) (fun K hK => ?_)
        go_simp
        refine (KBk.out _).mono ?_
        rintro e w8 ⟨rfl, hb8⟩
        have t8 : Below wo.heap.size wo w8 := hHeld.trans (hb8.mono (Nat.le_refl _))
        clear hb8 hHeld
        refine hK.out _ _ (fun _ => t8) (fun hHeld => ?_)
        have hHeld := hHeld (by decide)
        clear hK K
        try simp only [Act.put, List.setIfInBounds_toArray, List.set_cons_zero, List.set_cons_succ]
        refine onlyL (i := 6) (by kernel_rfl) rfl (by rfl) (fun K hK => ?_)
        go_simp
        refine (isWithin_any PB P _).mono ?_
        rw [HWK.out]
        rintro e w9 ⟨rfl, hb9⟩
        have t9 : Below wo.heap.size wo w9 := t8.trans (hb9.mono t8.size)
        clear hb9 hHeld
        refine hK.out _ _ (fun _ => t9) (fun hHeld => ?_)
        clear hK K hHeld
        try simp only [Act.put, List.setIfInBounds_toArray, List.set_cons_zero, List.set_cons_succ]
        refine doneL (by kernel_rfl) ?_ _
        try simp only [List.getElem_toArray, List.getElem_cons_succ, List.getElem_cons_zero]
        have LR := Lib.hid (own_keeps LR.out fun q hq => t9.block q (LR.out.lt q hq).2)
        have G1 := Lib.hid (G1.out.all t9)
        have Q1 := Lib.hid (Q1.out.all t9)
        have BR : Hid (Below w.heap.size w w9) := Lib.hid (BR.out.trans (t9.mono hszr))
        have hsz9 : w.heap.size ≤ w9.heap.size := BR.out.size
        have hsz59 : w5.heap.size ≤ w9.heap.size := Nat.le_trans Z5.out t9.size
        have Z9 := Lib.hid hsz59
        clear t8 t9 HRG HRS H66' KBk HWK
        obtain ⟨b, hb⟩ : ∃ b, b = wp k := ⟨_, rfl⟩
        rw [← hb] at HS ⊢
        clear hb
        have HLB : Hid (∀ q, lv.ownBlock = some q → w5.heap.size ≤ q) := Lib.hid (fun q hq => (LR.out.lt q hq).1)
        cases b with
        | true =>
          go_wp2_with (at_builtin; refine wpList_pushL rfl (.tmp 31) (.tmp 33) 22 34 rfl rfl 3 (.int .i64 0) 8 Tryz.underlying22 Tryz.infoI rfl w5.heap.size (.int .i64 k) lv (lst wp k).length (ints (nums (lst wp k))) LR.out rfl w9.heap.size rfl rfl rfl (by unfold maxLen; omega) (by omega) hsz59 ?_; intro v6 w6 hown hg; have L6 := Lib.hid hown; have B6 : Hid (Below w.heap.size w w6) := Lib.hid (BR.out.trans (hg.below hsz9 (fun q hq => Nat.le_trans hsz5 (HLB.out q hq)))); have G6 := Lib.hid (G1.out.below (hg.below hsz59 HLB.out) hw15); have Q6 := Lib.hid (Q1.out.below (hg.below hsz59 HLB.out) hw25); have hg6 := hg.size; clear hown hg)
          go_roundw
          case rel =>
            refine ⟨k + 1, _, by omega, by go_num, rfl, Lib.hid ?_, G6, Q6, B6, Lib.hid (Nat.le_trans hsz59 hg6)⟩
            rw [HS.out, if_pos rfl, nums_app, ints_app, List.length_append]
            exact L6.out
          case measure => simp [intOf]; omega
        | false =>
          go_wp2
          go_roundw
          case rel =>
            refine ⟨k + 1, _, by omega, by go_num, rfl, Lib.hid ?_, G1, Q1, BR, Z9⟩
            rw [HS.out, if_neg (by decide), List.append_nil]
            exact LR.out
          case measure => simp [intOf]; omega
      · obtain rfl : k = an := by omega
        go_wp2
        go_ret
        exact ⟨_, rfl, (Ro.of_own LR.out).wide hsz5 (Nat.le_refl _), BR.out⟩
end Go.Proofs.YthjfanhhindjlaaGreat
