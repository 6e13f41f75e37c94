/- ZDfm -/
import Derived.Test.YtnpfnfenkklocaaGreatDoorZSpc
import Derived.Test.YtnpfnfenkklocaaGreatDoorZDif
import Derived.Test.YtnpfnfenkklocaaGreatDoorLtm
import Derived.Test.YtnpfnfenkklocaaGreatDoorZCmb
set_option maxRecDepth 100000
set_option maxHeartbeats 64000000
namespace Go.Proofs.YtnpfnfenkklocaaGreatDoor
open Go.RowKit Go.WideShapes
open Go Go.Deep
set_option linter.unusedSimpArgs false
theorem own_formD {w : World} {base : Nat} {e : TypeId} {v : Value} {n : Nat} {xs : List Value} (h : w.ownsRow base e 1 v n xs) : ∃ a c, v = .slice a n c := by
  rcases h.2 with ⟨rfl, rfl⟩ | ⟨g, cap, cur, rfl, _⟩
  · exact ⟨_, _, rfl⟩
  · exact ⟨_, _, rfl⟩
theorem blkD_pos {m : Md} {k x : Nat} (hx : x < m.facts.length) : 0 < (blkD m k x).length := by
  have h : x ∈ blkD m k x := mem_blkD.2 ⟨hx, by unfold sameW; simp⟩
  exact List.length_pos_of_mem h
theorem nums_at {l : List Nat} {j : Nat} (h : j < l.length) : (nums l).getD j 0 = ((l.getD j 0 : Nat) : Int) := by
  unfold nums; rw [List.getD_eq_getElem?_getD, List.getD_eq_getElem?_getD, List.getElem?_map, List.getElem?_eq_getElem h]; rfl
def missV : Option Nat → Int
  | some z => (z : Int)
  | none => -1
theorem find_drop {L : List Nat} {P : Nat → Bool} {q : Nat} (h : q < L.length) : (L.drop q).find? P = if P (L.getD q 0) then some (L.getD q 0) else (L.drop (q + 1)).find? P := by
  rw [List.drop_eq_getElem_cons h, List.find?_cons, List.getD_eq_getElem?_getD, List.getElem?_eq_getElem h]
  simp only [Option.getD_some]
  cases P L[q] <;> rfl
theorem specBlk_any (lo hi : Nat) (v : Value) (m : Md) (k x : Nat) (w : World) (hr : Mv lo hi w v m) (hm : mdOk m = true) (hk : k < m.blocks.length) (hx : x < m.facts.length) :
    Calls Tryz.prog 60 #[v, .int .i64 k, .int .i64 x] w (IntsAns w (nums (blkD m k x))) := by
  obtain ⟨p1, p2, p3, p4, p5, -⟩ := mdOk_parts hm
  obtain ⟨fb, fo, fc, bb, bo, bc, rfl, f1, f2, b1, b2, hfb, hbb, hF, hB⟩ := mv_open hr hm
  unfold maxLen at f2 b2
  obtain ⟨ub, uo, uc, u1, u2, u3, hu⟩ := hB k hk
  unfold maxLen at u2
  have HU := hid (fun W hW => (hu W hW).1)
  have HR := hid (fun W hW => (hu W hW).2)
  have HS := hid (fun j => lst_succ (fun v => (m.blocks.getD k []).getD v 0 == (m.blocks.getD k []).getD x 0) j)
  have HE : Hid (lst (fun v => (m.blocks.getD k []).getD v 0 == (m.blocks.getD k []).getD x 0) m.facts.length = blkD m k x) := hid rfl
  have H0 : Hid (nums (lst (fun v => (m.blocks.getD k []).getD v 0 == (m.blocks.getD k []).getD x 0) 0) = []) := hid rfl
  have HLE := hid (fun j => lst_len (fun v => (m.blocks.getD k []).getD v 0 == (m.blocks.getD k []).getD x 0) j)
  generalize hLL : lst (fun v => (m.blocks.getD k []).getD v 0 == (m.blocks.getD k []).getD x 0) = LL at HS HE H0 HLE
  clear hLL
  have hk0 : (0 : Int) ≤ (k : Int) := Int.natCast_nonneg _
  have hx0 : (0 : Int) ≤ (x : Int) := Int.natCast_nonneg _
  have hkA : (k : Int) < (m.blocks.length : Int) := by omega
  have hxn : (x : Int) < (m.facts.length : Int) := by omega
  clear hr hm p5 hF hB hu
  generalize blkD m k x = BL at *
  go_enter Tryz.func60, Tryz.ntmps60
  have x1 : Mcell ((w.alloc (.cells #[.slice (some ⟨fb, fo, none⟩) m.facts.length fc, .slice (some ⟨bb, bo, none⟩) m.blocks.length bc, .int .i64 m.actual] 30)).alloc (.cells #[] 3)) w.heap.size (.slice (some ⟨fb, fo, none⟩) m.facts.length fc) (.slice (some ⟨bb, bo, none⟩) m.blocks.length bc) m.actual := (Mcell.new rfl).alloc _
  have b0 : Below w.heap.size w ((w.alloc (.cells #[.slice (some ⟨fb, fo, none⟩) m.facts.length fc, .slice (some ⟨bb, bo, none⟩) m.blocks.length bc, .int .i64 m.actual] 30)).alloc (.cells #[] 3)) := by go_grown
  have l0 : ((w.alloc (.cells #[.slice (some ⟨fb, fo, none⟩) m.facts.length fc, .slice (some ⟨bb, bo, none⟩) m.blocks.length bc, .int .i64 m.actual] 30)).alloc (.cells #[] 3)).ownsRow (w.heap.size + 1) 3 1 (.slice (some ⟨w.heap.size + 1, 0, none⟩) 0 0) 0 [] := by
    have h := World.ownsRow_lit (base := w.heap.size + 1) (e := 3) (size := 1) (w.alloc (.cells #[.slice (some ⟨fb, fo, none⟩) m.facts.length fc, .slice (some ⟨bb, bo, none⟩) m.blocks.length bc, .int .i64 m.actual] 30)) #[] 0 (by simp) (by decide) rfl
    simpa using h
  have z0 : ((w.alloc (.cells #[.slice (some ⟨fb, fo, none⟩) m.facts.length fc, .slice (some ⟨bb, bo, none⟩) m.blocks.length bc, .int .i64 m.actual] 30)).alloc (.cells #[] 3)).heap.size = w.heap.size + 2 := by simp
  have X0 := hid x1
  have B0 := hid b0
  have L0 := hid l0
  have Z0 := hid z0
  clear x1 b0 l0 z0
  obtain ⟨xc0, xc1, xc2, xc3, xc4, xc5⟩ := X0.out
  have u4 := HU.out _ B0.out
  go_wp2
  clear xc0 xc1 xc2 xc3 xc4 xc5 u4
  generalize ((w.alloc (.cells #[.slice (some ⟨fb, fo, none⟩) m.facts.length fc, .slice (some ⟨bb, bo, none⟩) m.blocks.length bc, .int .i64 m.actual] 30)).alloc (.cells #[] 3)) = w1 at *
  have T0 := hid (Below.refl (w.heap.size + 1) w1)
  have hz1 := Z0.out
  go_loopw [7, 17] (fun lv iv wr => ∃ (j q : Nat) (va : Option Addr) (vc : Nat), j ≤ m.facts.length ∧ q ≤ j ∧ iv = .int .i64 j ∧ lv = .slice va q vc ∧ Hid (wr.ownsRow (w.heap.size + 1) 3 1 (.slice va q vc) q (ints (nums (LL j)))) ∧ Hid (q = (LL j).length) ∧ Hid (Below (w.heap.size + 1) w1 wr)) (fun _ iv _ => m.facts.length - (intOf iv).toNat)
  case atStart => exact ⟨0, 0, _, _, Nat.zero_le _, Nat.le_refl _, rfl, rfl, hid (by rw [H0.out]; exact L0.out), hid (by have h := H0.out; unfold nums at h; rw [List.map_eq_nil_iff] at h; rw [h]; rfl), T0⟩
  case round =>
    clear L0 T0
    obtain ⟨j, q, va, vc, hj, hq, rfl, rfl, LQ, QQ, TQ⟩ := hrel
    by_cases hlt : j < m.facts.length
    · have hj0 : (0 : Int) ≤ (j : Int) := Int.natCast_nonneg _
      have hjn : (j : Int) < (m.facts.length : Int) := by omega
      have hzr : w1.heap.size ≤ wr.heap.size := TQ.out.size
      have BR := hid (B0.out.trans (TQ.out.mono (by omega)))
      have XR := hid (X0.out.of_block (TQ.out.block w.heap.size (by omega)))
      obtain ⟨xc0, xc1, xc2, xc3, xc4, xc5⟩ := XR.out
      have u4 := HU.out _ BR.out
      have r1 := HR.out _ BR.out j hlt
      have r2 := HR.out _ BR.out x hx
      have HSj := hid (HS.out j)
      generalize (m.blocks.getD k []).getD j 0 = a1 at *
      generalize (m.blocks.getD k []).getD x 0 = a2 at *
      by_cases e : a1 = a2
      · have HSk : Hid (LL (j + 1) = LL j ++ [j]) := hid (by rw [HSj.out, e]; simp)
        clear HSj HS
        subst e
        go_wp2_with (at_builtin; refine wpList_pushL rfl (.tmp 32) (.tmp 34) 22 35 rfl rfl 3 (.int .i64 0) 8 Tryz.underlying22 Tryz.infoI rfl (w.heap.size + 1) (.int .i64 j) (.slice va q vc) q (ints (nums (LL j))) LQ.out rfl wr.heap.size rfl rfl rfl (by unfold maxLen; omega) (by omega) (by omega) ?_; intro v13 w13 hown hg; have L13 := hid hown; have T13 : Hid (Below (w.heap.size + 1) w1 w13) := hid (TQ.out.trans (hg.below (by omega) (fun q hq => (LQ.out.lt q hq).1))); obtain ⟨va13, vc13, e13⟩ := own_formD hown; subst e13; clear hown hg)
        clear xc0 xc1 xc2 xc3 xc4 xc5 u4 r1 r2
        go_roundw
        case rel =>
          refine ⟨j + 1, q + 1, _, _, by omega, by omega, by go_num, rfl, hid ?_, hid (by rw [HSk.out, List.length_append, ← QQ.out]; rfl), T13⟩
          rw [HSk.out, show nums (LL j ++ [j]) = nums (LL j) ++ [(j : Int)] by simp [nums], ints_app]
          exact L13.out
        case measure => simp [intOf]; omega
      · have HSk : Hid (LL (j + 1) = LL j) := hid (by rw [HSj.out]; simp [e])
        clear HSj HS
        have e1 : (a1 == a2) = false := by simpa using e
        go_wp2
        clear xc0 xc1 xc2 xc3 xc4 xc5 u4 r1 r2
        go_roundw
        case rel => exact ⟨j + 1, q, _, _, by omega, by omega, by go_num, rfl, hid (by rw [HSk.out]; exact LQ.out), hid (by rw [HSk.out]; exact QQ.out), TQ⟩
        case measure => simp [intOf]; omega
    · obtain rfl : j = m.facts.length := by omega
      have h := LQ.out
      have h2 := QQ.out
      rw [HE.out] at h h2
      have HB := hid (B0.out.trans (TQ.out.mono (by omega)))
      have HI : Hid (Io w.heap.size wr.heap.size wr (.slice va q vc) (nums BL)) := hid ⟨by rw [ints_len, nums_len, ← h2]; exact own_mono h (by omega), fun q hq => (h.lt q hq).2⟩
      clear h h2
      go_wp2
      go_ret
      exact ⟨_, rfl, HI.out, HB.out⟩
theorem specMiss_any (lo hi lo2 hi2 : Nat) (v v2 : Value) (m : Md) (c : List Int) (k x y : Nat) (w : World) (hr : Mv lo hi w v m) (hm : mdOk m = true) (hr2 : Iv lo2 hi2 w v2 c) (hc : inRow m c) (hk : k < m.blocks.length) (hx : x < m.facts.length) (hy : y < m.facts.length) :
    Calls Tryz.prog 57 #[v, .int .i64 k, v2, .int .i64 x, .int .i64 y] w fun e w' => e = .returned (.int .i64 (missV (missing m c k x y))) ∧ Below w.heap.size w w' := by
  have KS := hid (fun W (h : Below w.heap.size w W) => specSet_any lo hi lo2 hi2 v v2 m c k y W (hr.keeps (Keeps.of_all h)) hm (hr2.keeps (Keeps.of_all h)) hc hk hy)
  have KB := hid (fun W (h : Below w.heap.size w W) => specBlk_any lo hi v m k x W (hr.keeps (Keeps.of_all h)) hm hk hx)
  unfold BoolsAns at KS
  unfold IntsAns at KB
  obtain ⟨p1, p2, p3, p4, p5, -⟩ := mdOk_parts hm
  obtain ⟨fb, fo, fc, bb, bo, bc, rfl, f1, f2, b1, b2, hfb, hbb, hF, hB⟩ := mv_open hr hm
  obtain ⟨cb, co, cc, rfl, c1, c2, hcb, hC⟩ := iv_open hr2 (by rw [hc.1]; omega)
  rw [hc.1] at c1 hC KS ⊢
  unfold maxLen at f2 b2 c2
  have HC := hid hC
  have HCB := hid hc.2
  have hk0 : (0 : Int) ≤ (k : Int) := Int.natCast_nonneg _
  have hx0 : (0 : Int) ≤ (x : Int) := Int.natCast_nonneg _
  have hy0 : (0 : Int) ≤ (y : Int) := Int.natCast_nonneg _
  obtain ⟨R, hR⟩ : ∃ R, R = missing m c k x y := ⟨_, rfl⟩
  rw [← hR]
  have HD : Hid (∀ q z, q < (blkD m k x).length → (blkD m k x).getD q 0 = z → ((blkD m k x).drop q).find? (fun z => !setB m c k y (c.getD z 0).toNat) = if setB m c k y (c.getD z 0).toNat then ((blkD m k x).drop (q + 1)).find? (fun z => !setB m c k y (c.getD z 0).toNat) else some z) := hid (fun q z h hz => by
    rw [find_drop h, hz]; cases setB m c k y (c.getD z 0).toNat <;> rfl)
  have H0 : Hid ((blkD m k x).find? (fun z => !setB m c k y (c.getD z 0).toNat) = R) := hid hR.symm
  have HM : Hid (∀ q, q < (blkD m k x).length → (blkD m k x).getD q 0 < m.facts.length) := hid (fun q hq => (mem_blkD.1 (by rw [List.getD_eq_getElem?_getD, List.getElem?_eq_getElem hq]; exact List.getElem_mem hq)).1)
  have hpos := blkD_pos (m := m) (k := k) hx
  have hle : (blkD m k x).length ≤ m.facts.length := lst_len _ _
  obtain ⟨rv, hrv⟩ : ∃ rv : Int, rv = missV R := ⟨_, rfl⟩
  rw [← hrv]
  have HRV := hid hrv
  clear hrv hR hr hm hr2 hc p5 hF hB hC
  generalize blkD m k x = BL at *
  go_enter Tryz.func57, Tryz.ntmps57
  go_wp2_with fail
  refine (KS.out _ (by go_grown)).mono ?_
  rintro e w1 ⟨v1, rfl, ho1, hb1⟩
  have X1 := hid (Mcell.below (b := w.heap.size) (Mcell.new (w := w) (T := 30) (fv := .slice (some ⟨fb, fo, none⟩) m.facts.length fc) (bv := .slice (some ⟨bb, bo, none⟩) m.blocks.length bc) (n := m.actual) rfl) hb1)
  have B1 : Hid (Below w.heap.size w w1) := hid (Below.trans (by go_grown) (hb1.mono (by simp)))
  obtain ⟨sb, so, sc, rfl, s1, s2, -, -, s3, hS⟩ := ho1.read.cells (by rw [boolsF_len]; omega)
  rw [boolsF_len] at s1 hS
  rw [boolsF_len]
  unfold maxLen at s2
  have HS := hid (fun j (h : j < m.facts.length) => (hS j h).trans (by rw [boolsF_get h]))
  clear ho1 hb1 hS
  obtain ⟨xc0, xc1, xc2, xc3, xc4, xc5⟩ := X1.out
  go_wp2_with fail
  clear xc0 xc1 xc2 xc3 xc4 xc5
  refine (KB.out _ B1.out).mono ?_
  rintro e w2 ⟨v2, rfl, ho2, hb2⟩
  obtain ⟨ub, uo, uc, rfl, u1, u2, u3, hU⟩ := iv_open ho2.read (by rw [nums_len]; exact hpos)
  rw [nums_len] at u1 hU
  rw [nums_len]
  unfold maxLen at u2
  have HU := hid (fun q (h : q < BL.length) => (hU w2 (Below.refl _ _) q h).trans (by rw [nums_at h]))
  have HS2 := hid (fun j (h : j < m.facts.length) => ((bcell hb2).1 _ _ s3).trans (HS.out j h))
  have B2 := hid (B1.out.trans (hb2.mono B1.out.size))
  clear ho2 hb2 hU HS KS KB X1
  go_wp2
  go_loopw [24] (fun iv wr => ∃ q : Nat, q ≤ BL.length ∧ iv = .int .i64 q ∧ Hid ((BL.drop q).find? (fun z => !setB m c k y (c.getD z 0).toNat) = R) ∧ wr = w2) (fun iv _ => BL.length - (intOf iv).toNat)
  case atStart => exact ⟨0, Nat.zero_le _, rfl, H0, rfl⟩
  case round =>
    clear H0
    obtain ⟨q, hq, rfl, HF, rfl⟩ := hrel
    by_cases hlt : q < BL.length
    · have hq0 : (0 : Int) ≤ (q : Int) := Int.natCast_nonneg _
      have hqn : (q : Int) < (BL.length : Int) := by omega
      have hu := HU.out q hlt
      have hzn := HM.out q hlt
      have HDq := hid (HD.out q _ hlt rfl)
      generalize BL.getD q 0 = z at *
      have cz := HC.out _ B2.out z hzn
      obtain ⟨y0, y1⟩ := HCB.out z hzn
      obtain ⟨t, ht⟩ := Int.eq_ofNat_of_zero_le y0
      rw [ht] at cz y1
      have HDq := hid (HDq.out)
      have HT := hid ht
      have htn : t < m.facts.length := by omega
      have hs := HS2.out t htn
      have HB : Hid (setB m c k y (c.getD z 0).toNat = setB m c k y t) := hid (by rw [HT.out, Int.toNat_natCast])
      clear ht y0
      have hz0 : (0 : Int) ≤ (z : Int) := Int.natCast_nonneg _
      have hz1 : (z : Int) < (m.facts.length : Int) := by omega
      have ht0 : (0 : Int) ≤ (t : Int) := Int.natCast_nonneg _
      cases hb : setB m c k y t with
      | false =>
        have HRz : Hid (R = some z) := hid (by rw [← HF.out, HDq.out, HB.out, hb]; rfl)
        rw [hb] at hs
        clear hb HF HDq HB HT HD
        go_wp2
        go_ret
        exact ⟨by rw [HRV.out, HRz.out]; rfl, B2.out⟩
      | true =>
        have HRz : Hid ((BL.drop (q + 1)).find? (fun z => !setB m c k y (c.getD z 0).toNat) = R) := hid (by rw [← HF.out, HDq.out, HB.out, hb]; rfl)
        rw [hb] at hs
        clear hb HF HDq HB HT
        go_wp2
        go_roundw
        case rel => exact ⟨q + 1, by omega, by go_num, HRz, by first | exact trivial | rfl⟩
        case measure => simp [intOf]; omega
    · obtain rfl : q = BL.length := by omega
      have HRz : Hid (R = none) := hid (by rw [← HF.out, List.drop_length]; rfl)
      go_wp2
      go_ret
      exact ⟨by rw [HRV.out, HRz.out]; rfl, B2.out⟩
theorem any_at {L : List Nat} {q : Nat → Bool} {j : Nat} (hj : j < L.length) (h : q (L.getD j 0) = true) : L.any q = true := by
  rw [List.any_eq_true]
  refine ⟨_, ?_, h⟩
  rw [List.getD_eq_getElem?_getD, List.getElem?_eq_getElem hj]
  exact List.getElem_mem hj
theorem any_no {L : List Nat} {q : Nat → Bool} (h : ∀ i, i < L.length → q (L.getD i 0) = false) : L.any q = false := by
  rw [Bool.eq_false_iff]
  intro h2
  obtain ⟨z, hz, hq⟩ := List.any_eq_true.1 h2
  obtain ⟨i, hi, rfl⟩ := List.mem_iff_getElem.1 hz
  have := h i hi
  rw [List.getD_eq_getElem?_getD, List.getElem?_eq_getElem hi] at this
  simp only [Option.getD_some] at this
  rw [this] at hq; cases hq
theorem indexF_any (lo hi : Nat) (v : Value) (L : List Nat) (k : FuncId) (caps : Array Value) (n : Nat) (q : Nat → Bool) (w : World) (hv : Iv lo hi w v (nums L)) (h0 : 0 < L.length) (hn : ∀ z ∈ L, z < n) (ht : Test w k caps n q) :
    Calls Tryz.prog 110 #[v, .func (.func k) #[] caps] w fun e w' => ∃ r : Int, e = .returned (.int .i64 r) ∧ decide (0 ≤ r) = L.any q ∧ Below w.heap.size w w' := by
  obtain ⟨ub, uo, uc, rfl, u1, u2, u3, hU⟩ := iv_open hv (by rw [nums_len]; exact h0)
  rw [nums_len] at u1 hU ⊢
  unfold maxLen at u2
  have HU := hid (fun W (h : Below w.heap.size w W) j (hj : j < L.length) => (hU W h j hj).trans (by rw [nums_at hj]))
  have HM := hid (fun j (hj : j < L.length) => hn (L.getD j 0) (by rw [List.getD_eq_getElem?_getD, List.getElem?_eq_getElem hj]; exact List.getElem_mem hj))
  have HE := hid ht.1
  have HT := hid ht.2
  have HY := hid (fun j hj h => any_at (L := L) (q := q) (j := j) hj h)
  have HN := hid (fun h => any_no (L := L) (q := q) h)
  generalize L.any q = R at *
  clear hv hn ht hU
  go_enter Tryz.func110, Tryz.ntmps110
  go_wp2
  go_loopw [8] (fun iv wr => ∃ j : Nat, j ≤ L.length ∧ iv = .int .i64 j ∧ Hid (∀ i, i < j → q (L.getD i 0) = false) ∧ Hid (Below w.heap.size w wr)) (fun iv _ => L.length - (intOf iv).toNat)
  case atStart => exact ⟨0, Nat.zero_le _, rfl, hid (fun i h => absurd h (Nat.not_lt_zero _)), hid (Below.refl _ _)⟩
  case round =>
    obtain ⟨j, hj, rfl, HF, BR⟩ := hrel
    by_cases hlt : j < L.length
    · have hj0 : (0 : Int) ≤ (j : Int) := Int.natCast_nonneg _
      have hjn : (j : Int) < (L.length : Int) := by omega
      have hu := HU.out _ BR.out j hlt
      have hzn := HM.out j hlt
      have HYj := hid (HY.out j hlt)
      have KT := hid (HT.out _ hzn)
      have HF2 : Hid (q (L.getD j 0) = false → ∀ i, i < j + 1 → q (L.getD i 0) = false) := hid (fun h i hi => by
        rcases Nat.lt_or_eq_of_le (Nat.le_of_lt_succ hi) with h1 | rfl
        · exact HF.out i h1
        · exact h)
      obtain ⟨z, hz⟩ : ∃ z, z = L.getD j 0 := ⟨_, rfl⟩
      rw [← hz] at hu hzn HYj KT HF2
      clear hz
      obtain ⟨b, hb⟩ : ∃ b, b = q z := ⟨_, rfl⟩
      rw [← hb] at HYj KT HF2
      clear hb
      have hent : ∀ args w, (callFunc k args).run Tryz.prog w = .ok (.enter k args) w := HE.out
      have tk3 : True := trivial
      cases b with
      | true =>
        have HRt := hid (HYj.out rfl)
        clear HYj HF2
        go_wp2_with
          (first
            | (have _t := tk3; clear _t tk3; with_reducible refine (KT.out _ BR.out).mono ?_
               rintro e w5 ⟨rfl, hb5⟩
               have BR : Hid (Below w.heap.size w w5) := hid (BR.out.trans (hb5.mono BR.out.size))
               clear hb5))
        go_ret
        exact ⟨_, rfl, by rw [HRt.out, decide_eq_true hj0], BR.out⟩
      | false =>
        have HF3 := hid (HF2.out rfl)
        clear HYj HF2
        go_wp2_with
          (first
            | (have _t := tk3; clear _t tk3; with_reducible refine (KT.out _ BR.out).mono ?_
               rintro e w5 ⟨rfl, hb5⟩
               have BR : Hid (Below w.heap.size w w5) := hid (BR.out.trans (hb5.mono BR.out.size))
               clear hb5))
        go_roundw
        case rel => exact ⟨j + 1, by omega, by go_num, HF3, BR⟩
        case measure => simp [intOf]; omega
    · obtain rfl : j = L.length := by omega
      have HRf := hid (HN.out HF.out)
      go_wp2
      go_ret
      exact ⟨_, rfl, by rw [HRf.out]; rfl, BR.out⟩
theorem containsF_any (lo hi : Nat) (v : Value) (L : List Nat) (k : FuncId) (caps : Array Value) (n : Nat) (q : Nat → Bool) (w : World) (hv : Iv lo hi w v (nums L)) (h0 : 0 < L.length) (hn : ∀ z ∈ L, z < n) (ht : Test w k caps n q) :
    Calls Tryz.prog 98 #[v, .func (.func k) #[] caps] w fun e w' => e = .returned (.bool (L.any q)) ∧ Below w.heap.size w w' := by
  have K := hid (indexF_any lo hi v L k caps n q w hv h0 hn ht)
  obtain ⟨ub, uo, uc, rfl, -⟩ := iv_open hv (by rw [nums_len]; exact h0)
  generalize L.any q = R at *
  clear hv hn ht h0
  go_enter Tryz.func98, Tryz.ntmps98
  go_wp2_with fail
  refine K.out.mono ?_
  rintro e w1 ⟨r, rfl, hr, hb⟩
  have HR := hid hr
  have HB := hid hb
  clear hr hb
  go_wp2
  go_ret
  exact ⟨ret_bool HR.out, HB.out⟩
theorem same_test (w : World) (b5 b8 : Nat) (c : Nat → Int) (x : Nat) (hx : x < 16) (h5 : Cm w b5 56 (ints (rowF c))) (h8 : Cm w b8 3 [.int .i64 x]) :
    Test w 97 #[.pointer (some ⟨b5, 0, none⟩), .pointer (some ⟨b8, 0, none⟩)] 16 (fun i => c i == c x) := by
  refine ⟨enters_of Tryz.func97 (by kernel_rfl) rfl, fun i hi W hW => ?_⟩
  show Calls Tryz.prog 97 #[.int .i64 i, .pointer (some ⟨b5, 0, none⟩), .pointer (some ⟨b8, 0, none⟩)] W fun e W' => e = .returned (.bool (c i == c x)) ∧ Below W.heap.size W W'
  have c1 : W.cell? ⟨b5, i, none⟩ = some (.int .i64 (c i)) := by rw [(h5.all hW).cell, ints_at (by rw [rowF_len]; exact hi), rowF_get c hi]
  have c2 : W.cell? ⟨b5, x, none⟩ = some (.int .i64 (c x)) := by rw [(h5.all hW).cell, ints_at (by rw [rowF_len]; exact hx), rowF_get c hx]
  have c3 : W.cell? ⟨b8, 0, none⟩ = some (.int .i64 x) := (h8.all hW).cell 0
  have hi0 : (0 : Int) ≤ (i : Int) := Int.natCast_nonneg _
  have hi16 : (i : Int) < 16 := by omega
  have hx0 : (0 : Int) ≤ (x : Int) := Int.natCast_nonneg _
  have hx16 : (x : Int) < 16 := by omega
  generalize c i = a1 at *
  generalize c x = a2 at *
  clear h5 h8 hW
  go_enter Tryz.func97, Tryz.ntmps97
  go_wp2
  go_quiet (fail)
  go_wp2
  go_ret
  exact ⟨rfl, below_drewN' (Below.refl _ _) _⟩
open Go.RowKit Go.WideShapes Go.Shelf
attribute [local go_sem] Oper.semAt_some
def missP (q : Nat → Bool) (c : Nat → Int) : Nat → Bool := fun z => !(lst q 16).any fun i => c i == c z
def lastF (pre : List (Fin 16)) : Nat := (pre.getLast?.map Fin.val).getD 0
theorem lastF_app (pre : List (Fin 16)) (x : Fin 16) : lastF (pre ++ [x]) = x.val := by unfold lastF; simp
theorem keepsFrom_below {B : Nat} {W W' : World} (h : Below W.heap.size W W') : KeepsFrom B W W' := ⟨h.size, fun i _ _ hi _ => (h.block i (Array.getElem?_eq_some_iff.1 hi).1).trans hi⟩
theorem find_none16 {L : List Nat} {P : Nat → Bool} {ys : List (Fin 16)} (h : ys.map Fin.val = L) (hp : ∀ y ∈ ys, P y.val = false) : L.find? P = none := by
  rw [← h, List.find?_eq_none]
  intro i hi
  obtain ⟨y, hy, rfl⟩ := List.mem_map.1 hi
  rw [hp y hy]; decide
theorem find_some16 {p : Nat → Bool} {P : Nat → Bool} {k : Nat} (hk : k ≤ 16) {pre : List (Fin 16)} {y : Fin 16} (h : (pre ++ [y]).map Fin.val = lst p k) (hp : ∀ z ∈ pre, P z.val = false) (hy : P y.val = true) : (lst p 16).find? P = some y.val := by
  obtain ⟨r, hr⟩ := lst_pre p k (16 - k)
  rw [show k + (16 - k) = 16 by omega] at hr
  rw [hr, ← h, List.map_append, List.append_assoc, List.find?_append, find_none16 rfl hp]
  simp [hy]
theorem firstMissing_any (p q : Nat → Bool) (c : Nat → Int) (hq : ∃ i, i < 16 ∧ q i = true) (w : World) :
    Calls Tryz.prog 69 #[.agg (bL p).toArray, .agg (bL q).toArray, .agg (ints (rowF c)).toArray] w
      fun e w' => e = .returned (.tuple #[.int .i64 ((((lst p 16).find? (missP q c)).getD 0 : Nat) : Int), .bool ((lst p 16).find? (missP q c)).isSome]) ∧ Below w.heap.size w w' := by
  have hpos : 0 < (lst q 16).length := by
    obtain ⟨i, hi, h⟩ := hq
    exact List.length_pos_of_mem (mem_lst.2 ⟨hi, h⟩)
  have KL := hid (fun W => setList_any q W)
  have KC := hid (fun W v lo hi b5 b8 x (hx : x < 16) (hv : Iv lo hi W v (nums (lst q 16))) (h5 : Cm W b5 56 (ints (rowF c))) (h8 : Cm W b8 3 [.int .i64 ((x : Nat) : Int)]) => containsF_any lo hi v (lst q 16) 97 _ 16 _ W hv hpos (fun z hz => (mem_lst.1 hz).1) (same_test W b5 b8 c x hx h5 h8))
  have HP : Hid (∀ x, missP q c x = !(lst q 16).any fun i => c i == c x) := hid (fun x => rfl)
  have HN := hid (fun ys h hp => find_none16 (L := lst p 16) (P := missP q c) (ys := ys) h hp)
  have HS := hid (fun k hk pre y h hp hy => find_some16 (p := p) (P := missP q c) (k := k) hk (pre := pre) (y := y) h hp hy)
  unfold IntsAns at KL
  generalize (lst p 16).find? (missP q c) = R at *
  generalize missP q c = P at *
  have HLV : Hid ((ints (rowF c)).length = 16) := hid (by rw [ints_len, rowF_len])
  generalize ints (rowF c) = V at *
  generalize lst q 16 = LQ at *
  clear hpos hq
  refine (callsIn_wide (n := 3)).1 ?_
  refine callsIn_of_wp_marks Tryz.func69 rfl trivial ?_ rfl
  simp only [Tryz.ntmps69, List.size_toArray, List.length_cons, List.length_nil, Nat.reduceAdd, Nat.reduceSub, Array.replicate_succ, Array.replicate_zero, List.push_toArray, List.append_toArray, List.nil_append, List.cons_append]
  refine wpIn_wide.2 ?_
  have s0 : Cm (((((w.alloc (.cells (bL p).toArray 79)).alloc (.cells (bL q).toArray 79)).alloc (.cells V.toArray 56)).alloc (.cells #[.int .i64 0] 3)).alloc (.cells #[.bool false] 4)) w.heap.size 79 (bL p) := ((((Cm.new rfl).alloc _).alloc _).alloc _).alloc _
  have q0 : Cm (((((w.alloc (.cells (bL p).toArray 79)).alloc (.cells (bL q).toArray 79)).alloc (.cells V.toArray 56)).alloc (.cells #[.int .i64 0] 3)).alloc (.cells #[.bool false] 4)) (w.heap.size + 1) 79 (bL q) := (((Cm.new (by simp)).alloc _).alloc _).alloc _
  have v0 : Cm (((((w.alloc (.cells (bL p).toArray 79)).alloc (.cells (bL q).toArray 79)).alloc (.cells V.toArray 56)).alloc (.cells #[.int .i64 0] 3)).alloc (.cells #[.bool false] 4)) (w.heap.size + 1 + 1) 56 V := ((Cm.new (by simp)).alloc _).alloc _
  have i0 : Cm (((((w.alloc (.cells (bL p).toArray 79)).alloc (.cells (bL q).toArray 79)).alloc (.cells V.toArray 56)).alloc (.cells #[.int .i64 0] 3)).alloc (.cells #[.bool false] 4)) (w.heap.size + 1 + 1 + 1) 3 [.int .i64 0] := (Cm.new (by simp)).alloc _
  have o0 : Cm (((((w.alloc (.cells (bL p).toArray 79)).alloc (.cells (bL q).toArray 79)).alloc (.cells V.toArray 56)).alloc (.cells #[.int .i64 0] 3)).alloc (.cells #[.bool false] 4)) (w.heap.size + 1 + 1 + 1 + 1) 4 [.bool false] := Cm.new (by simp)
  have b0 : Below w.heap.size w (((((w.alloc (.cells (bL p).toArray 79)).alloc (.cells (bL q).toArray 79)).alloc (.cells V.toArray 56)).alloc (.cells #[.int .i64 0] 3)).alloc (.cells #[.bool false] 4)) := by go_grown
  have S0 := hid s0
  have Q0 := hid q0
  have V0 := hid v0
  have I0 := hid i0
  have O0 := hid o0
  have B0 := hid b0
  clear s0 q0 v0 i0 o0 b0
  have tk1 : True := trivial
  have tk2 : True := trivial
  go_wp2_with
    (first
      | (have _t := tk1; clear _t tk1; refine wpList_loadM rfl 79 _ rfl w.heap.size 0 rfl 79 (bL p) (bL p) S0.out (fun j _ => by rw [Nat.zero_add]) _ Tryz.underlying79 rfl (by rw [bL_len]; exact Tryz.sizeSet) ?_
         generalize (((((w.alloc (.cells (bL p).toArray 79)).alloc (.cells (bL q).toArray 79)).alloc (.cells V.toArray 56)).alloc (.cells #[.int .i64 0] 3)).alloc (.cells #[.bool false] 4)) = w5 at *)
      | (have _t := tk2; clear _t tk2; go_at_call 96; (with_reducible refine (each_any p _).mono ?_); rintro e w4 ⟨rfl, rfl⟩))
  have X6 := hid (Cm.new (w := w5) (T := 79) (cs := bL p) rfl)
  have Q6 := hid (Q0.out.alloc (.cells (bL p).toArray 79))
  have V6 := hid (V0.out.alloc (.cells (bL p).toArray 79))
  have I6 := hid (I0.out.alloc (.cells (bL p).toArray 79))
  have O6 := hid (O0.out.alloc (.cells (bL p).toArray 79))
  have B6 := hid (B0.out.alloc B0.out.size (.cells (bL p).toArray 79))
  have lt5 : w.heap.size + 1 + 1 + 1 + 1 < w5.heap.size := O0.out.lt
  have lt6 : w5.heap.size < (w5.alloc (.cells (bL p).toArray 79)).heap.size := X6.out.lt
  generalize w5.alloc (.cells (bL p).toArray 79) = w6 at *
  clear S0 Q0 V0 I0 O0 B0
  refine (wpIn_wide (n := 3)).1 ?_
  refine wpIn_rangeFunc_ownH rfl (by omega) (gf := 109) (lb := #[.pointer (some ⟨w5.heap.size, 0, none⟩)]) rfl trivial (enters_of Tryz.func109 (by kernel_rfl) rfl)
    (each_stops 2 (by omega) w5.heap.size p (fun _ _ => True) w6 X6.out) (fun _ _ => trivial) (fun _ _ _ _ _ _ _ _ => trivial) (Below.refl _ _) (fun _ => rfl)
    (fun pre W => (∀ y ∈ pre, P y.val = false) ∧ Cm W (w.heap.size + 1) 79 (bL q) ∧ Cm W (w.heap.size + 1 + 1) 56 V ∧ Cm W (w.heap.size + 1 + 1 + 1) 3 [.int .i64 0] ∧ Cm W (w.heap.size + 1 + 1 + 1 + 1) 4 [.bool false] ∧ Below w.heap.size w W ∧ w6.heap.size ≤ W.heap.size)
    (fun cd pre W => (cd = .ret ∧ ∃ pre' y, pre = pre' ++ [y] ∧ (∀ z ∈ pre', P z.val = false) ∧ P y.val = true) ∧ Cm W (w.heap.size + 1 + 1 + 1) 3 [.int .i64 ((lastF pre : Nat) : Int)] ∧ Cm W (w.heap.size + 1 + 1 + 1 + 1) 4 [.bool true] ∧ Below w.heap.size w W)
    (OwnFrom.and (ownFrom_pure _ _) (OwnFrom.and (Own.from (cm_ownG _ _ (fun _ => bL q)) _) (OwnFrom.and (Own.from (cm_ownG _ _ (fun _ => V)) _) (OwnFrom.and (Own.from (cm_ownG _ _ (fun _ => [.int .i64 0])) _) (OwnFrom.and (Own.from (cm_ownG _ _ (fun _ => [.bool false])) _) (OwnFrom.and (ownFrom_below (Nat.le_refl _) (by omega)) (fun _ _ _ _ hs hg _ => Nat.le_trans hs hg.size)))))))
    (fun _ => OwnFrom.and (ownFrom_pure _ _) (OwnFrom.and (Own.from (cm_ownG _ _ (fun pre => [.int .i64 ((lastF pre : Nat) : Int)])) _) (OwnFrom.and (Own.from (cm_ownG _ _ (fun _ => [.bool true])) _) (ownFrom_below (Nat.le_refl _) (by omega)))))
    ⟨(fun y hy => by cases hy), Q6.out, V6.out, I6.out, O6.out, B6.out, Nat.le_refl _⟩
    (fun x a' W => ∃ Bx, w6.heap.size ≤ Bx ∧ Cm W Bx 3 [.int .i64 ((x.val : Nat) : Int)] ∧ a' = { tmps := #[.agg (bL p).toArray, .agg (bL q).toArray, .agg V.toArray, .pointer (some ⟨w.heap.size, 0, none⟩), .pointer (some ⟨w.heap.size + 1, 0, none⟩), .pointer (some ⟨w.heap.size + 1 + 1, 0, none⟩), .pointer (some ⟨w.heap.size + 1 + 1 + 1, 0, none⟩), .pointer (some ⟨w.heap.size + 1 + 1 + 1 + 1, 0, none⟩), .pointer (some ⟨Bx, 0, none⟩), undef, .agg (bL p).toArray, .func (.func 109) #[] #[.pointer (some ⟨w5.heap.size, 0, none⟩)], .int .i64 ((x.val : Nat) : Int), undef, undef, undef, undef, undef, undef, undef], defers := [] })
    (fun x a' _ X Y row hs hg hr => by obtain ⟨Bx, e1, e2, e3⟩ := hs; exact ⟨Bx, e1, cm_ownG Bx 3 (fun (_ : Unit) => [Value.int .i64 ((x.val : Nat) : Int)]) () X Y row e2 hg (fun r e => (hr r e).2), e3⟩)
    ?assign ?body ?done ?stop
  case assign =>
    rintro l pre x W K ⟨hp, hq, hv, hi, ho, hB, hs⟩ hK
    gi_wp2
    exact hK _ _ ((KeepsOthers.alloc _ _).from _) trivial ⟨hp, hq.alloc _, hv.alloc _, hi.alloc _, ho.alloc _, hB.alloc hB.size _, by simp; omega⟩ ⟨W.heap.size, hs, Cm.new rfl, rfl⟩
  case body =>
    rintro l pre x a' W hl ⟨r, hr⟩ ⟨hp, hq, hv, hi, ho, hB, hs⟩ ⟨Bx, hBx, bX, rfl⟩ hlt
    have KCx := hid (fun W v lo hi hv h5 h8 => KC.out W v lo hi (w.heap.size + 1 + 1) Bx x.val x.isLt hv h5 h8)
    have HPx := hid (HP.out x.val)
    generalize (LQ.any fun i => c i == c x.val) = b at KCx HPx
    have HQ := hid hq
    have HV := hid hv
    have HI := hid hi
    have HO := hid ho
    have HB := hid hB
    have HX := hid bX
    have HPR := hid hp
    have hmf : ∀ (fn : Fn) (first cap : Array Value) (w : World), (Instr.makeFunc fn first cap).run Tryz.prog w = .ok (.func fn first cap) w := fun _ _ _ _ => rfl
    clear hq hv hi ho hB bX hp KC HP
    cases b with
    | true =>
      gi_wp2_with
        (first
          | (refine wpListIn_loadM (fun _ => trivial) rfl rfl 79 (.tmp 4) rfl (w.heap.size + 1) 0 rfl 79 (bL q) (bL q) HQ.out (fun j _ => by rw [Nat.zero_add]) _ Tryz.underlying79 rfl (by rw [bL_len]; exact Tryz.sizeSet) ?_)
          | (refine ⟨trivial, ?_⟩; gi_at_call 46; refine (CallsIn.inRound l (callsIn_wide.2 (KL.out W))).mono ?_; rintro e w7 ⟨v7, rfl, ho7, hb7⟩; have L7 := hid ho7.read; have V7 := hid (HV.out.all hb7); have I7 := hid (HI.out.all hb7); have O7 := hid (HO.out.all hb7); have Q7 := hid (HQ.out.all hb7); have X7 := hid (HX.out.all hb7); have T7 := hid hb7; obtain ⟨va7, vc7, e7⟩ := ho7.form; subst e7; clear ho7 hb7)
          | (refine ⟨trivial, ?_⟩; gi_at_call 98; refine (CallsIn.inRound l (callsIn_wide.2 (KCx.out w7 _ _ _ L7.out V7.out X7.out))).mono ?_; rintro e w8 ⟨rfl, hb8⟩; have V8 := hid (V7.out.all hb8); have I8 := hid (I7.out.all hb8); have O8 := hid (O7.out.all hb8); have Q8 := hid (Q7.out.all hb8); have T8 := hid (T7.out.trans (hb8.mono T7.out.size)); have X8 := hid (X7.out.all hb8); have x8 := X8.out.cell 0; have i8 := I8.out.cell 0; have o8 := O8.out.cell 0; have j8 := I8.out.frozen 0; have k8 := O8.out.frozen 0; clear hb8))
      clear x8 i8 o8 j8 k8
      exact ⟨keepsFrom_below T8.out, trivial, (fun y hy => (List.mem_append.1 hy).elim (HPR.out y) (fun e => by rw [List.mem_singleton] at e; subst e; rw [HPx.out]; rfl)), Q8.out, V8.out, I8.out, O8.out, HB.out.trans (T8.out.mono HB.out.size), Nat.le_trans hs T8.out.size⟩
    | false =>
      gi_wp2_with
        (first
          | (refine wpListIn_loadM (fun _ => trivial) rfl rfl 79 (.tmp 4) rfl (w.heap.size + 1) 0 rfl 79 (bL q) (bL q) HQ.out (fun j _ => by rw [Nat.zero_add]) _ Tryz.underlying79 rfl (by rw [bL_len]; exact Tryz.sizeSet) ?_)
          | (refine ⟨trivial, ?_⟩; gi_at_call 46; refine (CallsIn.inRound l (callsIn_wide.2 (KL.out W))).mono ?_; rintro e w7 ⟨v7, rfl, ho7, hb7⟩; have L7 := hid ho7.read; have V7 := hid (HV.out.all hb7); have I7 := hid (HI.out.all hb7); have O7 := hid (HO.out.all hb7); have Q7 := hid (HQ.out.all hb7); have X7 := hid (HX.out.all hb7); have T7 := hid hb7; obtain ⟨va7, vc7, e7⟩ := ho7.form; subst e7; clear ho7 hb7)
          | (refine ⟨trivial, ?_⟩; gi_at_call 98; refine (CallsIn.inRound l (callsIn_wide.2 (KCx.out w7 _ _ _ L7.out V7.out X7.out))).mono ?_; rintro e w8 ⟨rfl, hb8⟩; have V8 := hid (V7.out.all hb8); have I8 := hid (I7.out.all hb8); have O8 := hid (O7.out.all hb8); have Q8 := hid (Q7.out.all hb8); have T8 := hid (T7.out.trans (hb8.mono T7.out.size)); have X8 := hid (X7.out.all hb8); have x8 := X8.out.cell 0; have i8 := I8.out.cell 0; have o8 := O8.out.cell 0; have j8 := I8.out.frozen 0; have k8 := O8.out.frozen 0; clear hb8))
      clear x8 i8 o8 j8 k8
      have I9 := (I8.out.set 0 (.int .i64 ((x.val : Nat) : Int))).other (b' := w.heap.size + 1 + 1 + 1 + 1) (by omega) 0 (.bool true)
      have O9 := (O8.out.other (b' := w.heap.size + 1 + 1 + 1) (by omega) 0 (.int .i64 ((x.val : Nat) : Int))).set 0 (.bool true)
      refine ⟨(keepsFrom_below T8.out).trans (((KeepsOthers.setCell _ _ _).trans (KeepsOthers.setCell _ _ _)).from _), ⟨rfl, pre, x, rfl, HPR.out, by rw [HPx.out]; rfl⟩, ?_, O9, ((HB.out.trans (T8.out.mono HB.out.size)).setCell (p := ⟨w.heap.size + 1 + 1 + 1, 0, none⟩) (by show _ ≤ w.heap.size + 1 + 1 + 1; omega) _).setCell (p := ⟨w.heap.size + 1 + 1 + 1 + 1, 0, none⟩) (by show _ ≤ w.heap.size + 1 + 1 + 1 + 1; omega) _⟩
      rw [lastF_app]
      exact I9
  case done =>
    rintro D ys W hD hys ⟨hp, hq, hv, hi, ho, hB, hs⟩ hK
    have HR := hid (HN.out ys hys hp)
    have i8 := hi.cell 0
    have j8 := hi.frozen 0
    have o8 := ho.cell 0
    have k8 := ho.frozen 0
    have HK' : Hid (((W.setCell ⟨w.heap.size + 1 + 1 + 1, 0, none⟩ (.int .i64 0)).setCell ⟨w.heap.size + 1 + 1 + 1 + 1, 0, none⟩ (.bool false)).heap[D]? = some (.deferred (some []))) := hid (((KeepsOthers.setCell W ⟨w.heap.size + 1 + 1 + 1, 0, none⟩ (.int .i64 0)).trans (KeepsOthers.setCell _ ⟨w.heap.size + 1 + 1 + 1 + 1, 0, none⟩ (.bool false))).same D _ hK rfl)
    have I9 := hid ((hi.set 0 (.int .i64 0)).other (b' := w.heap.size + 1 + 1 + 1 + 1) (by omega) 0 (.bool false))
    have O9 := hid ((ho.other (b' := w.heap.size + 1 + 1 + 1) (by omega) 0 (.int .i64 0)).set 0 (.bool false))
    have B9 : Hid (Below w.heap.size w ((W.setCell ⟨w.heap.size + 1 + 1 + 1, 0, none⟩ (.int .i64 0)).setCell ⟨w.heap.size + 1 + 1 + 1 + 1, 0, none⟩ (.bool false))) := hid ((hB.setCell (p := ⟨w.heap.size + 1 + 1 + 1, 0, none⟩) (by show _ ≤ w.heap.size + 1 + 1 + 1; omega) _).setCell (p := ⟨w.heap.size + 1 + 1 + 1 + 1, 0, none⟩) (by show _ ≤ w.heap.size + 1 + 1 + 1 + 1; omega) _)
    clear hys hp hq hv hi ho hB hK KL KC HP HN HS
    go_wp2
    have hK' := HK'.out
    refine ⟨by simp, .inl ⟨_, _, rfl, run_takeDeferred hK', ?_⟩⟩
    have c1 : (((W.setCell ⟨w.heap.size + 1 + 1 + 1, 0, none⟩ (.int .i64 0)).setCell ⟨w.heap.size + 1 + 1 + 1 + 1, 0, none⟩ (.bool false)).putObj D (.deferred none)).cell? ⟨w.heap.size + 1 + 1 + 1, 0, none⟩ = some (.int .i64 0) := cell_kept (I9.out.cell 0) (grownBy_putObj' _ D (.deferred none)) (fun r e => by cases e; exact ⟨_, hK', rfl⟩)
    have c2 : (((W.setCell ⟨w.heap.size + 1 + 1 + 1, 0, none⟩ (.int .i64 0)).setCell ⟨w.heap.size + 1 + 1 + 1 + 1, 0, none⟩ (.bool false)).putObj D (.deferred none)).cell? ⟨w.heap.size + 1 + 1 + 1 + 1, 0, none⟩ = some (.bool false) := cell_kept (O9.out.cell 0) (grownBy_putObj' _ D (.deferred none)) (fun r e => by cases e; exact ⟨_, hK', rfl⟩)
    refine ⟨.tuple #[.int .i64 0, .bool false], ?_, by rw [HR.out]; rfl, B9.out.trans (belowK_b (w := w6) (by omega) _ D _ _ hD hK' rfl rfl)⟩
    simp [results, Tryz.f69, go_sem, c1, c2]
  case stop =>
    rintro D cd pre W hD ⟨k, hk, hpre⟩ ⟨⟨rfl, pre', y, rfl, hp', hy⟩, hi, ho, hB⟩ hK
    have HR := hid (HS.out k hk pre' y hpre hp' hy)
    rw [lastF_app] at hi
    have HK' := hid hK
    have I9 := hid hi
    have O9 := hid ho
    have B9 := hid hB
    clear hpre hp' hy hi ho hB hK KL KC HP HN HS
    gi_wp2
    have hK' := HK'.out
    refine ⟨by simp, .inl ⟨_, _, rfl, run_takeDeferred hK', ?_⟩⟩
    have c1 : (W.putObj D (.deferred none)).cell? ⟨w.heap.size + 1 + 1 + 1, 0, none⟩ = some (.int .i64 ((y.val : Nat) : Int)) := cell_kept (I9.out.cell 0) (grownBy_putObj' _ D (.deferred none)) (fun r e => by cases e; exact ⟨_, hK', rfl⟩)
    have c2 : (W.putObj D (.deferred none)).cell? ⟨w.heap.size + 1 + 1 + 1 + 1, 0, none⟩ = some (.bool true) := cell_kept (O9.out.cell 0) (grownBy_putObj' _ D (.deferred none)) (fun r e => by cases e; exact ⟨_, hK', rfl⟩)
    refine ⟨.tuple #[.int .i64 ((y.val : Nat) : Int), .bool true], ?_, by rw [HR.out]; rfl, B9.out.trans (belowK_b (w := w6) (by omega) _ D _ _ hD hK' rfl rfl)⟩
    simp [results, Tryz.f69, go_sem, c1, c2]
theorem metG_setD {m : Md} {c : List Int} (hn : m.facts.length ≤ 16) (k i y : Nat) : metG m.blocks m.facts.length k i (fun v => c.getD v 0) y = setB m c k i y := by
  show (List.range 16).any (fun v => blkB m.blocks m.facts.length k i v && (c.getD v 0 == (y : Int))) = _
  rw [Bool.eq_iff_iff, setB_in, List.any_eq_true]
  constructor
  · rintro ⟨v, _, h⟩
    rw [Bool.and_eq_true, beq_iff_eq] at h
    have h1 := h.1
    unfold blkB cut at h1
    rw [Bool.and_eq_true, decide_eq_true_eq, beq_iff_eq] at h1
    exact ⟨v, h1.1, by unfold sameW; rw [beq_iff_eq]; exact h1.2.symm, h.2⟩
  · rintro ⟨v, hv, h1, h2⟩
    refine ⟨v, List.mem_range.2 (by omega), ?_⟩
    unfold sameW at h1
    rw [beq_iff_eq] at h1
    rw [Bool.and_eq_true, beq_iff_eq]
    refine ⟨?_, h2⟩
    unfold blkB cut
    rw [Bool.and_eq_true, decide_eq_true_eq, beq_iff_eq]
    exact ⟨hv, h1.symm⟩
theorem find_congrD {p q : Nat → Bool} : ∀ {l : List Nat}, (∀ x ∈ l, p x = q x) → l.find? p = l.find? q
  | [], _ => rfl
  | a :: l, h => by rw [List.find?_cons, List.find?_cons, h a (List.mem_cons_self ..), find_congrD fun x hx => h x (List.mem_cons_of_mem _ hx)]
theorem lst_blk {m : Md} (hn : m.facts.length ≤ 16) (k v : Nat) : lst (blkB m.blocks m.facts.length k v) 16 = blkD m k v := by
  rw [lst_16 (n := m.facts.length) (fun i h => by unfold blkB cut at h; rw [Bool.and_eq_true, decide_eq_true_eq] at h; exact h.1) hn]
  unfold blkD
  refine lst_congr fun i hi => ?_
  unfold blkB cut
  rw [decide_eq_true hi, Bool.true_and, Bool.eq_iff_iff, beq_iff_eq, beq_iff_eq]
  exact eq_comm
theorem miss_eq {m : Md} (hn : m.facts.length ≤ 16) {s : Nat} (k v w : Nat) : missing m (clsAt m s) k v w = (lst (blkB m.blocks m.facts.length k v) 16).find? (missP (blkB m.blocks m.facts.length k w) (cF m s)) := by
  rw [lst_blk hn]
  unfold missing
  refine find_congrD fun x hx => ?_
  have hxn := (mem_blkD.1 hx).1
  have h0 := (clsAt_bd (m := m) (j := s) hxn).1
  unfold missP
  rw [lst_blk hn]
  congr 1
  rw [Bool.eq_iff_iff, setB_iff, List.any_eq_true]
  constructor
  · rintro ⟨y, hy, h⟩
    refine ⟨y, hy, ?_⟩
    rw [beq_iff_eq]
    show (clsAt m s).getD y 0 = (clsAt m s).getD x 0
    rw [h, Int.toNat_of_nonneg h0]
  · rintro ⟨y, hy, h⟩
    rw [beq_iff_eq] at h
    exact ⟨y, hy, by rw [Int.toNat_of_nonneg h0]; exact h⟩
theorem miss_none {m : Md} (hn : m.facts.length ≤ 16) {s k v w : Nat} (h1 : missing m (clsAt m s) k v w = none) (h2 : missing m (clsAt m s) k w v = none) : eqB (metG m.blocks m.facts.length k v (cF m s)) (metG m.blocks m.facts.length k w (cF m s)) = true := by
  unfold eqB
  rw [List.all_eq_true]
  intro i _
  rw [beq_iff_eq]
  show metG m.blocks m.facts.length k v (fun v => (clsAt m s).getD v 0) i = metG m.blocks m.facts.length k w (fun v => (clsAt m s).getD v 0) i
  rw [metG_setD hn, metG_setD hn, Bool.eq_iff_iff]
  exact ⟨missing_none h1, missing_none h2⟩
theorem miss_some {m : Md} (hn : m.facts.length ≤ 16) {s k v w x : Nat} (h : missing m (clsAt m s) k v w = some x) : eqB (metG m.blocks m.facts.length k v (cF m s)) (metG m.blocks m.facts.length k w (cF m s)) = false := by
  have hcl : ∀ x, x < m.facts.length → 0 ≤ (clsAt m s).getD x 0 := fun x hx => (clsAt_bd hx).1
  obtain ⟨hx, hy⟩ := missing_some hcl h
  have hxn := (mem_blkD.1 hx).1
  have hb := clsAt_bd (m := m) (j := s) hxn
  rw [Bool.eq_false_iff]
  intro he
  unfold eqB at he
  rw [List.all_eq_true] at he
  have h2 := he ((clsAt m s).getD x 0).toNat (List.mem_range.2 (by omega))
  rw [beq_iff_eq] at h2
  change metG m.blocks m.facts.length k v (fun v => (clsAt m s).getD v 0) _ = metG m.blocks m.facts.length k w (fun v => (clsAt m s).getD v 0) _ at h2
  rw [metG_setD hn, metG_setD hn, setB_iff.2 ⟨x, hx, (Int.toNat_of_nonneg (hcl x hxn)).symm⟩] at h2
  obtain ⟨y, hy1, hy2⟩ := setB_iff.1 h2.symm
  rw [Int.toNat_of_nonneg (hcl x hxn)] at hy2
  exact hy y hy1 hy2.symm
theorem eqB_symm {p q : Nat → Bool} : eqB p q = eqB q p := by
  rw [Bool.eq_iff_iff, eqB_iff, eqB_iff]; exact eq_comm
theorem pick_first {m : Md} (hn : m.facts.length ≤ 16) {s v w k x : Nat} {b : Bool} (h : pickA m (clsAt m s) v w = some (k, b, x)) :
    eqB (metG m.blocks m.facts.length k v (cF m s)) (metG m.blocks m.facts.length k w (cF m s)) = false ∧ (∀ j, j < k → eqB (metG m.blocks m.facts.length j v (cF m s)) (metG m.blocks m.facts.length j w (cF m s)) = true) ∧
    ((b = true ∧ missing m (clsAt m s) k v w = some x) ∨ (b = false ∧ missing m (clsAt m s) k v w = none ∧ missing m (clsAt m s) k w v = some x)) := by
  unfold pickA at h
  obtain ⟨l1, a, l2, hl, ha, hno⟩ := List.findSome?_eq_some_iff.1 h
  have hak : a = k := by
    cases h2 : missing m (clsAt m s) a v w with
    | some y => rw [h2] at ha; simp only [Option.some.injEq, Prod.mk.injEq] at ha; exact ha.1
    | none =>
      rw [h2] at ha
      cases h3 : missing m (clsAt m s) a w v with
      | some y => rw [h3] at ha; simp only [Option.some.injEq, Prod.mk.injEq] at ha; exact ha.1
      | none => rw [h3] at ha; cases ha
  subst hak
  have hlen : l1.length = a := by
    have h1 : (List.range m.blocks.length)[l1.length]? = some a := by rw [hl]; simp
    obtain ⟨h3, h4⟩ := List.getElem?_eq_some_iff.1 h1
    simpa using h4
  have hpre : ∀ j, j < a → j ∈ l1 := fun j hj => by
    have h1 : (List.range m.blocks.length)[j]? = l1[j]? := by rw [hl, List.getElem?_append_left (by omega)]
    have h2 : (List.range m.blocks.length)[j]? = some j := by
      have hab : a < m.blocks.length := by
        have h5 : a ∈ List.range m.blocks.length := by rw [hl]; simp
        exact List.mem_range.1 h5
      rw [List.getElem?_range (by omega)]
    rw [h2] at h1
    exact List.mem_of_getElem? h1.symm
  refine ⟨?_, fun j hj => ?_, ?_⟩
  · cases h2 : missing m (clsAt m s) a v w with
    | some y => exact miss_some hn h2
    | none =>
      rw [h2] at ha
      cases h3 : missing m (clsAt m s) a w v with
      | some y => rw [eqB_symm]; exact miss_some hn h3
      | none => rw [h3] at ha; cases ha
  · have h1 := hno j (hpre j hj)
    cases h2 : missing m (clsAt m s) j v w with
    | some y => rw [h2] at h1; cases h1
    | none =>
      rw [h2] at h1
      cases h3 : missing m (clsAt m s) j w v with
      | some y => rw [h3] at h1; cases h1
      | none => exact miss_none hn h2 h3
  · cases h2 : missing m (clsAt m s) a v w with
    | some y =>
      rw [h2] at ha
      simp only [Option.some.injEq, Prod.mk.injEq] at ha
      obtain ⟨_, rfl, rfl⟩ := ha
      exact .inl ⟨rfl, rfl⟩
    | none =>
      rw [h2] at ha
      cases h3 : missing m (clsAt m s) a w v with
      | none => rw [h3] at ha; cases ha
      | some y =>
        rw [h3] at ha
        simp only [Option.some.injEq, Prod.mk.injEq] at ha
        obtain ⟨_, rfl, rfl⟩ := ha
        exact .inr ⟨rfl, rfl, rfl⟩
theorem step_iff {m : Md} {v w : Nat} (hv : v < m.facts.length) (hw : w < m.facts.length) (hl : sameAt m (stab m) v w = false) (h0 : sameAt m 0 v w = true) : ∀ k, k ≤ stab m → (cF m k v = cF m k w ↔ k ≤ stepOf m v w) := fun k _ => by
  obtain ⟨t1, t2, t3⟩ := stepOf_at hl h0
  constructor
  · intro h
    rcases Nat.lt_or_ge (stepOf m v w) k with h1 | h1
    · have h2 : sameAt m k v w = true := by unfold sameAt; rw [beq_iff_eq]; exact h
      have := sameAt_down hv hw (show stepOf m v w + 1 ≤ k by omega) h2
      rw [t3] at this; cases this
    · exact h1
  · intro h
    have := sameAt_down hv hw h t1
    unfold sameAt at this
    exact beq_iff_eq.1 this
theorem comb_cases {t : Tm} (hw : t.wf) : (combL t = some (lay 0 t) ∧ formOk (lay 0 t) = true ∧ termOfL (lay 0 t) = t ∧ t.size ≤ 40) ∨ (combL t = none ∧ 40 < t.size) := by
  by_cases hs : t.size ≤ 40
  · exact .inl ⟨by unfold combL; rw [if_pos (lay_formOk hw hs)], lay_formOk hw hs, lay_tm hw hs, hs⟩
  · exact .inr ⟨by unfold combL; rw [if_neg (by rw [lay_formNot (by omega)]; decide)], by omega⟩
theorem comb_long {t : Tm} (hs : 40 < t.size) : combL t = none := by unfold combL; rw [if_neg (by rw [lay_formNot hs]; decide)]
end Go.Proofs.YtnpfnfenkklocaaGreatDoor
