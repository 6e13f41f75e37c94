/-
  spec.l06Block and spec.l06Missing: the worlds of a block in their order; the first of them whose class is missing from another block. Condition: the model is valid, the classes are numbers of worlds.
-/
import Derived.Test.YtnpfnfenkklocaaGreatDoorZSpc
import Derived.Test.YtnpfnfenkklocaaGreatDoorDif
namespace Go.Proofs.YtnpfnfenkklocaaGreatDoor
open Go.RowKit Go.WideShapes
open Go Go.Deep
set_option linter.unusedSimpArgs false

theorem own_formD {w : World} {base : Nat} {e : TypeId} {v : Value} {n : Nat} {xs : List Value} (h : w.ownsRow base e 1 v n xs) : ∃ a c, v = .slice a n c := by
  rcases h.2 with ⟨rfl, rfl⟩ | ⟨g, cap, cur, rfl, _⟩
  · exact ⟨_, _, rfl⟩
  · exact ⟨_, _, rfl⟩
theorem blkD_pos {m : Md} {k x : Nat} (hx : x < m.facts.length) : 0 < (blkD m k x).length := by
  have h : x ∈ blkD m k x := mem_blkD.2 ⟨hx, by unfold sameW; simp⟩
  exact List.length_pos_of_mem h
theorem nums_at {l : List Nat} {j : Nat} (h : j < l.length) : (nums l).getD j 0 = ((l.getD j 0 : Nat) : Int) := by
  unfold nums; rw [List.getD_eq_getElem?_getD, List.getD_eq_getElem?_getD, List.getElem?_map, List.getElem?_eq_getElem h]; rfl
def missV : Option Nat → Int
  | some z => (z : Int)
  | none => -1
theorem find_drop {L : List Nat} {P : Nat → Bool} {q : Nat} (h : q < L.length) : (L.drop q).find? P = if P (L.getD q 0) then some (L.getD q 0) else (L.drop (q + 1)).find? P := by
  rw [List.drop_eq_getElem_cons h, List.find?_cons, List.getD_eq_getElem?_getD, List.getElem?_eq_getElem h]
  simp only [Option.getD_some]
  cases P L[q] <;> rfl

set_option maxRecDepth 100000 in
set_option maxHeartbeats 16000000 in
theorem specBlk_any (lo hi : Nat) (v : Value) (m : Md) (k x : Nat) (w : World) (hr : Mv lo hi w v m) (hm : mdOk m = true) (hk : k < m.blocks.length) (hx : x < m.facts.length) :
    Calls Tryz.prog 60 #[v, .int .i64 k, .int .i64 x] w (IntsAns w (nums (blkD m k x))) := by
  obtain ⟨p1, p2, p3, p4, p5, -⟩ := mdOk_parts hm
  obtain ⟨fb, fo, fc, bb, bo, bc, rfl, f1, f2, b1, b2, hfb, hbb, hF, hB⟩ := mv_open hr hm
  unfold maxLen at f2 b2
  obtain ⟨ub, uo, uc, u1, u2, u3, hu⟩ := hB k hk
  unfold maxLen at u2
  have HU := Lib.hid (fun W hW => (hu W hW).1)
  have HR := Lib.hid (fun W hW => (hu W hW).2)
  have HS := Lib.hid (fun j => lst_succ (fun v => (m.blocks.getD k []).getD v 0 == (m.blocks.getD k []).getD x 0) j)
  have HE : Hid (lst (fun v => (m.blocks.getD k []).getD v 0 == (m.blocks.getD k []).getD x 0) m.facts.length = blkD m k x) := Lib.hid rfl
  have H0 : Hid (nums (lst (fun v => (m.blocks.getD k []).getD v 0 == (m.blocks.getD k []).getD x 0) 0) = []) := Lib.hid rfl
  have HLE := Lib.hid (fun j => lst_len (fun v => (m.blocks.getD k []).getD v 0 == (m.blocks.getD k []).getD x 0) j)
  generalize hLL : lst (fun v => (m.blocks.getD k []).getD v 0 == (m.blocks.getD k []).getD x 0) = LL at HS HE H0 HLE
  clear hLL
  have hk0 : (0 : Int) ≤ (k : Int) := Int.natCast_nonneg _
  have hx0 : (0 : Int) ≤ (x : Int) := Int.natCast_nonneg _
  have hkA : (k : Int) < (m.blocks.length : Int) := by omega
  have hxn : (x : Int) < (m.facts.length : Int) := by omega
  clear hr hm p5 hF hB hu
  generalize blkD m k x = BL at *
  go_enter Tryz.func60, Tryz.ntmps60
  have x1 : Mcell ((w.alloc (.cells #[.slice (some ⟨fb, fo, none⟩) m.facts.length fc, .slice (some ⟨bb, bo, none⟩) m.blocks.length bc, .int .i64 m.actual] 30)).alloc (.cells #[] 3)) w.heap.size (.slice (some ⟨fb, fo, none⟩) m.facts.length fc) (.slice (some ⟨bb, bo, none⟩) m.blocks.length bc) m.actual := (Mcell.new rfl).alloc _
  have b0 : Below w.heap.size w ((w.alloc (.cells #[.slice (some ⟨fb, fo, none⟩) m.facts.length fc, .slice (some ⟨bb, bo, none⟩) m.blocks.length bc, .int .i64 m.actual] 30)).alloc (.cells #[] 3)) := by go_grown
  have l0 : ((w.alloc (.cells #[.slice (some ⟨fb, fo, none⟩) m.facts.length fc, .slice (some ⟨bb, bo, none⟩) m.blocks.length bc, .int .i64 m.actual] 30)).alloc (.cells #[] 3)).ownsRow (w.heap.size + 1) 3 1 (.slice (some ⟨w.heap.size + 1, 0, none⟩) 0 0) 0 [] := by
    have h := World.ownsRow_lit (base := w.heap.size + 1) (e := 3) (size := 1) (w.alloc (.cells #[.slice (some ⟨fb, fo, none⟩) m.facts.length fc, .slice (some ⟨bb, bo, none⟩) m.blocks.length bc, .int .i64 m.actual] 30)) #[] 0 (by simp) (by decide) rfl
    simpa using h
  have z0 : ((w.alloc (.cells #[.slice (some ⟨fb, fo, none⟩) m.facts.length fc, .slice (some ⟨bb, bo, none⟩) m.blocks.length bc, .int .i64 m.actual] 30)).alloc (.cells #[] 3)).heap.size = w.heap.size + 2 := by simp
  have X0 := Lib.hid x1
  have B0 := Lib.hid b0
  have L0 := Lib.hid l0
  have Z0 := Lib.hid z0
  clear x1 b0 l0 z0
  obtain ⟨xc0, xc1, xc2, xc3, xc4, xc5⟩ := X0.out
  have u4 := HU.out _ B0.out
  go_wp2
  clear xc0 xc1 xc2 xc3 xc4 xc5 u4
  generalize ((w.alloc (.cells #[.slice (some ⟨fb, fo, none⟩) m.facts.length fc, .slice (some ⟨bb, bo, none⟩) m.blocks.length bc, .int .i64 m.actual] 30)).alloc (.cells #[] 3)) = w1 at *
  have T0 := Lib.hid (Below.refl (w.heap.size + 1) w1)
  have hz1 := Z0.out
  go_loopw [7, 17] (fun lv iv wr => ∃ (j q : Nat) (va : Option Addr) (vc : Nat), j ≤ m.facts.length ∧ q ≤ j ∧ iv = .int .i64 j ∧ lv = .slice va q vc ∧ Hid (wr.ownsRow (w.heap.size + 1) 3 1 (.slice va q vc) q (ints (nums (LL j)))) ∧ Hid (q = (LL j).length) ∧ Hid (Below (w.heap.size + 1) w1 wr)) (fun _ iv _ => m.facts.length - (intOf iv).toNat)
  case atStart => exact ⟨0, 0, _, _, Nat.zero_le _, Nat.le_refl _, rfl, rfl, Lib.hid (by rw [H0.out]; exact L0.out), Lib.hid (by have h := H0.out; unfold nums at h; rw [List.map_eq_nil_iff] at h; rw [h]; rfl), T0⟩
  case round =>
    clear L0 T0
    obtain ⟨j, q, va, vc, hj, hq, rfl, rfl, LQ, QQ, TQ⟩ := hrel
    by_cases hlt : j < m.facts.length
    · have hj0 : (0 : Int) ≤ (j : Int) := Int.natCast_nonneg _
      have hjn : (j : Int) < (m.facts.length : Int) := by omega
      have hzr : w1.heap.size ≤ wr.heap.size := TQ.out.size
      have BR := Lib.hid (B0.out.trans (TQ.out.mono (by omega)))
      have XR := Lib.hid (X0.out.of_block (TQ.out.block w.heap.size (by omega)))
      obtain ⟨xc0, xc1, xc2, xc3, xc4, xc5⟩ := XR.out
      have u4 := HU.out _ BR.out
      have r1 := HR.out _ BR.out j hlt
      have r2 := HR.out _ BR.out x hx
      have HSj := Lib.hid (HS.out j)
      generalize (m.blocks.getD k []).getD j 0 = a1 at *
      generalize (m.blocks.getD k []).getD x 0 = a2 at *
      by_cases e : a1 = a2
      · have HSk : Hid (LL (j + 1) = LL j ++ [j]) := Lib.hid (by rw [HSj.out, e]; simp)
        clear HSj HS
        subst e
        go_wp2_with (at_builtin; refine wpList_pushL rfl (.tmp 32) (.tmp 34) 22 35 rfl rfl 3 (.int .i64 0) 8 Tryz.underlying22 Tryz.infoI rfl (w.heap.size + 1) (.int .i64 j) (.slice va q vc) q (ints (nums (LL j))) LQ.out rfl wr.heap.size rfl rfl rfl (by unfold maxLen; omega) (by omega) (by omega) ?_; intro v13 w13 hown hg; have L13 := Lib.hid hown; have T13 : Hid (Below (w.heap.size + 1) w1 w13) := Lib.hid (TQ.out.trans (hg.below (by omega) (fun q hq => (LQ.out.lt q hq).1))); obtain ⟨va13, vc13, e13⟩ := own_formD hown; subst e13; clear hown hg)
        clear xc0 xc1 xc2 xc3 xc4 xc5 u4 r1 r2
        go_roundw
        case rel =>
          refine ⟨j + 1, q + 1, _, _, by omega, by omega, by go_num, rfl, Lib.hid ?_, Lib.hid (by rw [HSk.out, List.length_append, ← QQ.out]; rfl), T13⟩
          rw [HSk.out, show nums (LL j ++ [j]) = nums (LL j) ++ [(j : Int)] by simp [nums], ints_app]
          exact L13.out
        case measure => simp [intOf]; omega
      · have HSk : Hid (LL (j + 1) = LL j) := Lib.hid (by rw [HSj.out]; simp [e])
        clear HSj HS
        have e1 : (a1 == a2) = false := by simpa using e
        go_wp2
        clear xc0 xc1 xc2 xc3 xc4 xc5 u4 r1 r2
        go_roundw
        case rel => exact ⟨j + 1, q, _, _, by omega, by omega, by go_num, rfl, Lib.hid (by rw [HSk.out]; exact LQ.out), Lib.hid (by rw [HSk.out]; exact QQ.out), TQ⟩
        case measure => simp [intOf]; omega
    · obtain rfl : j = m.facts.length := by omega
      have h := LQ.out
      have h2 := QQ.out
      rw [HE.out] at h h2
      have HB := Lib.hid (B0.out.trans (TQ.out.mono (by omega)))
      have HI : Hid (Io w.heap.size wr.heap.size wr (.slice va q vc) (nums BL)) := Lib.hid ⟨by rw [ints_len, nums_len, ← h2]; exact own_mono h (by omega), fun q hq => (h.lt q hq).2⟩
      clear h h2
      go_wp2
      go_ret
      exact ⟨_, rfl, HI.out, HB.out⟩

set_option maxRecDepth 100000 in
set_option maxHeartbeats 16000000 in
theorem specMiss_any (lo hi lo2 hi2 : Nat) (v v2 : Value) (m : Md) (c : List Int) (k x y : Nat) (w : World) (hr : Mv lo hi w v m) (hm : mdOk m = true) (hr2 : Iv lo2 hi2 w v2 c) (hc : inRow m c) (hk : k < m.blocks.length) (hx : x < m.facts.length) (hy : y < m.facts.length) :
    Calls Tryz.prog 57 #[v, .int .i64 k, v2, .int .i64 x, .int .i64 y] w fun e w' => e = .returned (.int .i64 (missV (missing m c k x y))) ∧ Below w.heap.size w w' := by
  have KS := Lib.hid (fun W (h : Below w.heap.size w W) => specSet_any lo hi lo2 hi2 v v2 m c k y W (hr.keeps (Keeps.of_all h)) hm (hr2.keeps (Keeps.of_all h)) hc hk hy)
  have KB := Lib.hid (fun W (h : Below w.heap.size w W) => specBlk_any lo hi v m k x W (hr.keeps (Keeps.of_all h)) hm hk hx)
  unfold BoolsAns at KS
  unfold IntsAns at KB
  obtain ⟨p1, p2, p3, p4, p5, -⟩ := mdOk_parts hm
  obtain ⟨fb, fo, fc, bb, bo, bc, rfl, f1, f2, b1, b2, hfb, hbb, hF, hB⟩ := mv_open hr hm
  obtain ⟨cb, co, cc, rfl, c1, c2, hcb, hC⟩ := iv_open hr2 (by rw [hc.1]; omega)
  rw [hc.1] at c1 hC KS ⊢
  unfold maxLen at f2 b2 c2
  have HC := Lib.hid hC
  have HCB := Lib.hid hc.2
  have hk0 : (0 : Int) ≤ (k : Int) := Int.natCast_nonneg _
  have hx0 : (0 : Int) ≤ (x : Int) := Int.natCast_nonneg _
  have hy0 : (0 : Int) ≤ (y : Int) := Int.natCast_nonneg _
  obtain ⟨R, hR⟩ : ∃ R, R = missing m c k x y := ⟨_, rfl⟩
  rw [← hR]
  have HD : Hid (∀ q z, q < (blkD m k x).length → (blkD m k x).getD q 0 = z → ((blkD m k x).drop q).find? (fun z => !setB m c k y (c.getD z 0).toNat) = if setB m c k y (c.getD z 0).toNat then ((blkD m k x).drop (q + 1)).find? (fun z => !setB m c k y (c.getD z 0).toNat) else some z) := Lib.hid (fun q z h hz => by
    rw [find_drop h, hz]; cases setB m c k y (c.getD z 0).toNat <;> rfl)
  have H0 : Hid ((blkD m k x).find? (fun z => !setB m c k y (c.getD z 0).toNat) = R) := Lib.hid hR.symm
  have HM : Hid (∀ q, q < (blkD m k x).length → (blkD m k x).getD q 0 < m.facts.length) := Lib.hid (fun q hq => (mem_blkD.1 (by rw [List.getD_eq_getElem?_getD, List.getElem?_eq_getElem hq]; exact List.getElem_mem hq)).1)
  have hpos := blkD_pos (m := m) (k := k) hx
  have hle : (blkD m k x).length ≤ m.facts.length := lst_len _ _
  obtain ⟨rv, hrv⟩ : ∃ rv : Int, rv = missV R := ⟨_, rfl⟩
  rw [← hrv]
  have HRV := Lib.hid hrv
  clear hrv hR hr hm hr2 hc p5 hF hB hC
  generalize blkD m k x = BL at *
  go_enter Tryz.func57, Tryz.ntmps57
  go_wp2_with fail
  refine (KS.out _ (by go_grown)).mono ?_
  rintro e w1 ⟨v1, rfl, ho1, hb1⟩
  have X1 := Lib.hid (Mcell.below (b := w.heap.size) (Mcell.new (w := w) (T := 30) (fv := .slice (some ⟨fb, fo, none⟩) m.facts.length fc) (bv := .slice (some ⟨bb, bo, none⟩) m.blocks.length bc) (n := m.actual) rfl) hb1)
  have B1 : Hid (Below w.heap.size w w1) := Lib.hid (Below.trans (by go_grown) (hb1.mono (by simp)))
  obtain ⟨sb, so, sc, rfl, s1, s2, -, -, s3, hS⟩ := ho1.read.cells (by rw [boolsF_len]; omega)
  rw [boolsF_len] at s1 hS
  rw [boolsF_len]
  unfold maxLen at s2
  have HS := Lib.hid (fun j (h : j < m.facts.length) => (hS j h).trans (by rw [boolsF_get h]))
  clear ho1 hb1 hS
  obtain ⟨xc0, xc1, xc2, xc3, xc4, xc5⟩ := X1.out
  go_wp2_with fail
  clear xc0 xc1 xc2 xc3 xc4 xc5
  refine (KB.out _ B1.out).mono ?_
  rintro e w2 ⟨v2, rfl, ho2, hb2⟩
  obtain ⟨ub, uo, uc, rfl, u1, u2, u3, hU⟩ := iv_open ho2.read (by rw [nums_len]; exact hpos)
  rw [nums_len] at u1 hU
  rw [nums_len]
  unfold maxLen at u2
  have HU := Lib.hid (fun q (h : q < BL.length) => (hU w2 (Below.refl _ _) q h).trans (by rw [nums_at h]))
  have HS2 := Lib.hid (fun j (h : j < m.facts.length) => ((bcell hb2).1 _ _ s3).trans (HS.out j h))
  have B2 := Lib.hid (B1.out.trans (hb2.mono B1.out.size))
  clear ho2 hb2 hU HS KS KB X1
  go_wp2
  go_loopw [24] (fun iv wr => ∃ q : Nat, q ≤ BL.length ∧ iv = .int .i64 q ∧ Hid ((BL.drop q).find? (fun z => !setB m c k y (c.getD z 0).toNat) = R) ∧ wr = w2) (fun iv _ => BL.length - (intOf iv).toNat)
  case atStart => exact ⟨0, Nat.zero_le _, rfl, H0, rfl⟩
  case round =>
    clear H0
    obtain ⟨q, hq, rfl, HF, rfl⟩ := hrel
    by_cases hlt : q < BL.length
    · have hq0 : (0 : Int) ≤ (q : Int) := Int.natCast_nonneg _
      have hqn : (q : Int) < (BL.length : Int) := by omega
      have hu := HU.out q hlt
      have hzn := HM.out q hlt
      have HDq := Lib.hid (HD.out q _ hlt rfl)
      generalize BL.getD q 0 = z at *
      have cz := HC.out _ B2.out z hzn
      obtain ⟨y0, y1⟩ := HCB.out z hzn
      obtain ⟨t, ht⟩ := Int.eq_ofNat_of_zero_le y0
      rw [ht] at cz y1
      have HDq := Lib.hid (HDq.out)
      have HT := Lib.hid ht
      have htn : t < m.facts.length := by omega
      have hs := HS2.out t htn
      have HB : Hid (setB m c k y (c.getD z 0).toNat = setB m c k y t) := Lib.hid (by rw [HT.out, Int.toNat_natCast])
      clear ht y0
      have hz0 : (0 : Int) ≤ (z : Int) := Int.natCast_nonneg _
      have hz1 : (z : Int) < (m.facts.length : Int) := by omega
      have ht0 : (0 : Int) ≤ (t : Int) := Int.natCast_nonneg _
      cases hb : setB m c k y t with
      | false =>
        have HRz : Hid (R = some z) := Lib.hid (by rw [← HF.out, HDq.out, HB.out, hb]; rfl)
        rw [hb] at hs
        clear hb HF HDq HB HT HD
        go_wp2
        go_ret
        exact ⟨by rw [HRV.out, HRz.out]; rfl, B2.out⟩
      | true =>
        have HRz : Hid ((BL.drop (q + 1)).find? (fun z => !setB m c k y (c.getD z 0).toNat) = R) := Lib.hid (by rw [← HF.out, HDq.out, HB.out, hb]; rfl)
        rw [hb] at hs
        clear hb HF HDq HB HT
        go_wp2
        go_roundw
        case rel => exact ⟨q + 1, by omega, by go_num, HRz, by first | exact trivial | rfl⟩
        case measure => simp [intOf]; omega
    · obtain rfl : q = BL.length := by omega
      have HRz : Hid (R = none) := Lib.hid (by rw [← HF.out, List.drop_length]; rfl)
      go_wp2
      go_ret
      exact ⟨by rw [HRV.out, HRz.out]; rfl, B2.out⟩
end Go.Proofs.YtnpfnfenkklocaaGreatDoor
