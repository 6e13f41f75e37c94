/-
  spec.l09Every, spec.SharedDepth. Condition of the first: the model is valid.
-/
import Derived.Test.YthjfanhhindjlaaSdp
import Derived.Test.YthjfanhhindjlaaWks
import Derived.Test.YthjfanhhindjlaaTho
namespace Go.Proofs.Ythjfanhhindjlaa
open Go.RowKit Go.WideShapes
open Go Go.Deep
set_option linter.unusedSimpArgs false

/-- the first k agents know p in world i -/
def allK (m : Md) (p : Nat → Bool) (i k : Nat) : Bool := (List.range k).all fun j => subB (blkB m.blocks m.facts.length j i) p
theorem allK_succ (m : Md) (p : Nat → Bool) (i k : Nat) : allK m p i (k + 1) = (allK m p i k && subB (blkB m.blocks m.facts.length k i) p) := by
  unfold allK; rw [List.range_succ, List.all_append]; simp
theorem allK_every {m : Md} (hn : m.facts.length ≤ 16) {p : Nat → Bool} {i : Nat} (_hi : i < m.facts.length) : allK m p i m.blocks.length = everyB m p i := by
  rw [Bool.eq_iff_iff, everyB_iff]
  unfold allK
  rw [List.all_eq_true]
  constructor
  · intro h v hv hnv
    obtain ⟨k, hk, e⟩ := nearM_iff.1 hnv
    have := h k (List.mem_range.2 hk)
    unfold subB at this
    rw [List.all_eq_true] at this
    have h2 := this v (List.mem_range.2 (by omega))
    have h3 : blkB m.blocks m.facts.length k i v = true := by unfold blkB; rw [cut_at hv]; exact e
    rw [h3] at h2
    simpa using h2
  · intro h k hk
    unfold subB
    rw [List.all_eq_true]
    intro v hv
    cases e : blkB m.blocks m.facts.length k i v with
    | false => rfl
    | true =>
      have hvn : v < m.facts.length := by unfold blkB at e; exact cut_in e
      have hs : sameW m k i v = true := by unfold blkB at e; rw [cut_at hvn] at e; exact e
      rw [h v hvn (nearM_iff.2 ⟨k, List.mem_range.1 hk, hs⟩)]; rfl
theorem rangeMap_succ (p : Nat → Bool) (k : Nat) : (List.range (k + 1)).map p = (List.range k).map p ++ [p k] := by rw [List.range_succ, List.map_append]; rfl

set_option maxRecDepth 100000 in
set_option maxHeartbeats 16000000 in
theorem specEvery_any (lo hi lo2 hi2 : Nat) (v v2 : Value) (m : Md) (p : Nat → Bool) (w : World) (hr : Mv lo hi w v m) (hm : mdOk m = true) (h2 : Bv lo2 hi2 w v2 ((List.range m.facts.length).map p)) :
    Calls Try.prog 34 #[v, v2] w (BoolsAns w ((List.range m.facts.length).map (everyB m p))) := by
  obtain ⟨hn1, hn2, p3, p4, p5, -, -, -⟩ := mdOk_parts hm
  have KA := Lib.hid (fun W => specAll_any m.facts.length W hn2)
  have HRL : Hid ((List.replicate m.facts.length true).length = m.facts.length) := Lib.hid (by simp)
  have KB := Lib.hid (fun k (hk : k < m.blocks.length) lo hi lo2 hi2 lo3 hi3 u v2 v3 x (hx : x < m.facts.length) W (h1 : Iv lo hi W u (m.blocks.getD k [])) (h2 : Bv lo2 hi2 W v2 (List.replicate m.facts.length true)) (h3 : Bv lo3 hi3 W v3 ((List.range m.facts.length).map p)) => specBlock_any m.facts.length lo hi lo2 hi2 lo3 hi3 u v2 v3 (m.blocks.getD k []) (List.replicate m.facts.length true) ((List.range m.facts.length).map p) x true W h1 h2 h3 (p5 k hk).1 (by simp) (by simp) hx)
  have HWP : Hid (∀ k i, blkL m.facts.length (m.blocks.getD k []) (List.replicate m.facts.length true) ((List.range m.facts.length).map p) i true = subB (blkB m.blocks m.facts.length k i) p) := Lib.hid (fun k i => blkL_sub rfl hn2)
  have HE := Lib.hid (fun i hi => allK_every (m := m) (p := p) (i := i) hn2 hi)
  have HAS := Lib.hid (fun i k => allK_succ m p i k)
  obtain ⟨fv, bv, rfl, hf, hb⟩ := hr
  obtain ⟨b, o, bc, rfl, q1, r1, hrow⟩ := hb.kept p3
  have HRW := Lib.hid hrow
  have HT := Lib.hid h2
  obtain ⟨ta, tc, ht⟩ := h2.form
  rw [List.length_map, List.length_range] at ht
  subst ht
  unfold maxLen at r1
  unfold BoolsAns
  generalize everyB m p = ev at *
  have HB : Hid (∀ i, subB (blkB m.blocks m.facts.length i 0) p = subB (blkB m.blocks m.facts.length i 0) p) := Lib.hid (fun _ => rfl)
  generalize m.facts.length = n at *
  generalize hactn : m.actual = act at *
  generalize han : m.blocks.length = an at *
  clear hf hb hm p5 h2 hrow HB hactn han
  go_enter Try.func34, Try.ntmps34
  go_wp2
  have X1 := Lib.hid (Mcell.new (w := w) (T := 30) (b := w.heap.size) (fv := fv) (bv := .slice (some ⟨b, o, none⟩) an bc) (n := act) rfl)
  have B1 : Hid (Below w.heap.size w (w.alloc (.cells #[fv, .slice (some ⟨b, o, none⟩) an bc, .int .i64 act] 30))) := Lib.hid (by go_grown)
  have hz1 : (w.alloc (.cells #[fv, .slice (some ⟨b, o, none⟩) an bc, .int .i64 act] 30)).heap.size = w.heap.size + 1 := by simp
  generalize w.alloc (.cells #[fv, .slice (some ⟨b, o, none⟩) an bc, .int .i64 act] 30) = w1 at *
  have hlt1 := X1.out.lt
  have sb1 : w.heap.size ≤ w1.heap.size := B1.out.size
  rw [← hz1]
  clear hz1
  go_loopw [5, 13] (fun lv iv wr => ∃ (i : Nat) (lv' : Value), i ≤ n ∧ iv = .int .i64 i ∧ lv' = lv ∧ Hid (wr.ownsRow w1.heap.size 4 1 lv' i (bools ((List.range i).map ev))) ∧ Hid (Below w1.heap.size w1 wr)) (fun _ iv _ => n - (intOf iv).toNat)
  case atStart => exact ⟨0, _, Nat.zero_le _, rfl, rfl, Lib.hid (World.ownsRow_lit w1 #[] 0 (Nat.le_refl _) (Nat.zero_le _) rfl), Lib.hid (by go_grown)⟩
  case round =>
    obtain ⟨i, lv, hi, rfl, rfl, LR, BR⟩ := hrel
    by_cases hlt : i < n
    · obtain ⟨wo, rfl⟩ : ∃ wo : World, wo = wr := ⟨_, rfl⟩
      have hszo : w1.heap.size ≤ wo.heap.size := BR.out.size
      have B2 : Hid (Below w.heap.size w wo) := Lib.hid (B1.out.trans (BR.out.mono sb1))
      have X2 : Hid (Mcell wo w.heap.size fv (.slice (some ⟨b, o, none⟩) an bc) act) := Lib.hid (X1.out.of_block (BR.out.block _ hlt1))
      have HEi := Lib.hid (HE.out i hlt)
      have HASi := Lib.hid (HAS.out i)
      obtain ⟨A, hA⟩ : ∃ A, A = allK m p i := ⟨_, rfl⟩
      rw [← hA] at HEi HASi
      have HA0 : Hid (A 0 = true) := Lib.hid (by rw [hA]; rfl)
      clear hA
      obtain ⟨c0, c1, c2, -, -, -⟩ := X2.out
      go_wp2
      clear c0 c1 c2
      go_loopw [7, 19] (fun av iv ws => ∃ k : Nat, k ≤ an ∧ iv = .int .i64 k ∧ av = .bool (A k) ∧ Hid (Below wo.heap.size wo ws)) (fun _ iv _ => an - (intOf iv).toNat)
      case atStart => exact ⟨0, Nat.zero_le _, rfl, by rw [HA0.out], Lib.hid (Below.refl _ _)⟩
      case round =>
        obtain ⟨k, hk, rfl, rfl, BS⟩ := hrel
        by_cases hlk : k < an
        · have B3 : Hid (Below w.heap.size w wr) := Lib.hid (B2.out.trans (BS.out.mono B2.out.size))
          obtain ⟨u, cu, hu⟩ := HRW.out _ B3.out k hlk
          have HU := Lib.hid hu
          have HT3 := Lib.hid (HT.out.keeps (Keeps.of_all B3.out))
          have HSk := Lib.hid (HASi.out k)
          have HWk := Lib.hid (HWP.out k i)
          have KBk := Lib.hid (KB.out k hlk)
          have k0 : (0 : Int) ≤ (k : Int) := Int.natCast_nonneg _
          have kn : (k : Int) < (an : Int) := by omega
          clear hu
          obtain ⟨a0, ha0⟩ : ∃ a0, a0 = A k := ⟨_, rfl⟩
          rw [← ha0] at HSk ⊢
          clear ha0
          cases a0 with
          | false =>
            rw [Bool.false_and] at HSk
            go_wp2
            go_roundw
            case rel => exact ⟨k + 1, by omega, by go_num, by rw [HSk.out], BS⟩
            case measure => simp [intOf]; omega
          | true =>
            rw [Bool.true_and] at HSk
            go_wp2_with fail
            refine (KA.out _).mono ?_
            rintro e w8 ⟨va, rfl, hoa, hb8⟩
            obtain ⟨aa, ac, ha⟩ := hoa.read.form
            rw [HRL.out] at ha
            subst ha
            have HOA := Lib.hid hoa.read
            have HU := Lib.hid (HU.out.keeps (Keeps.of_all hb8))
            have HT3 := Lib.hid (HT3.out.keeps (Keeps.of_all hb8))
            have BS := Lib.hid (BS.out.trans (hb8.mono BS.out.size))
            clear hb8 hoa cu B3
            go_wp2_with fail
            refine (KBk.out _ _ _ _ _ _ _ _ _ i hlt _ HU.out HOA.out HT3.out).mono ?_
            rw [HWk.out, ← HSk.out]
            rintro e w9 ⟨rfl, rfl⟩
            go_wp2
            go_roundw
            case rel => exact ⟨k + 1, by omega, by go_num, rfl, BS⟩
            case measure => simp [intOf]; omega
        · obtain ⟨an', han'⟩ : ∃ y, y = an := ⟨_, rfl⟩
          have HAN : Hid (A k = ev i) := Lib.hid (by rw [show k = an by omega]; exact HEi.out)
          rw [HAN.out]
          have LR := Lib.hid (own_keeps LR.out fun q hq => BS.out.block q (LR.out.lt q hq).2)
          have BR := Lib.hid (BR.out.trans (BS.out.mono hszo))
          have hszr : w1.heap.size ≤ wr.heap.size := BR.out.size
          have HLB : Hid (∀ q, lv.ownBlock = some q → w1.heap.size ≤ q) := Lib.hid (fun q hq => (LR.out.lt q hq).1)
          clear han' an'
          obtain ⟨x, hx⟩ : ∃ x, x = ev i := ⟨_, rfl⟩
          rw [← hx]
          have HX := Lib.hid hx
          clear hx BS
          go_wp2_with (at_builtin; refine wpList_pushL rfl (.tmp 34) (.tmp 36) 50 37 rfl rfl 4 (.bool false) 1 Try.underlying50 Try.infoB rfl w1.heap.size (.bool x) lv i (bools ((List.range i).map ev)) LR.out rfl wr.heap.size rfl rfl rfl (by unfold maxLen; omega) (by omega) hszr ?_; intro v6 w6 hown hg; have L6 := Lib.hid hown; have B6 : Hid (Below w1.heap.size w1 w6) := Lib.hid (BR.out.trans (hg.below hszr HLB.out)); clear hown hg)
          go_roundw
          case rel =>
            refine ⟨i + 1, _, by omega, by go_num, rfl, Lib.hid ?_, B6⟩
            rw [rangeMap_succ, bools_app, ← HX.out]
            exact L6.out
          case measure => simp [intOf]; omega
    · obtain rfl : i = n := by omega
      go_wp2
      go_ret
      refine ⟨_, rfl, (Ro.of_own LR.out).wide sb1 (Nat.le_refl _), B1.out.trans (BR.out.mono sb1)⟩

set_option maxRecDepth 100000 in
set_option maxHeartbeats 16000000 in
theorem specDepth_any (lo hi : Nat) (v v2 : Value) (m : Md) (xs : List Nd) (w : World) (hr : Mv lo hi w v m) (hhi : hi ≤ w.heap.size) (hr2 : Ns w v2 xs) :
    Calls Try.prog 10 #[v, v2] w fun e w' => e = .returned (.int .i64 (sdR m xs)) ∧ Below w.heap.size w w' := by
  have KH := Lib.hid (fun W (h : Below w.heap.size w W) => specHolds_any lo hi v v2 m xs W (hr.keeps (Keeps.of_all h)) (Nat.le_trans hhi h.size) (hr2.below h (Nat.le_refl _)))
  have KT := Lib.hid (fun (hok : evOk m xs = true) W (h : Below w.heap.size w W) => specTruth_any lo hi v v2 m xs W (hr.keeps (Keeps.of_all h)) (hr2.below h (Nat.le_refl _)) hok)
  have KE := Lib.hid (fun (hm : mdOk m = true) lo2 hi2 v2 p W (h : Below w.heap.size w W) h2 => specEvery_any lo hi lo2 hi2 v v2 m p W (hr.keeps (Keeps.of_all h)) hm h2)
  obtain ⟨fv, bv, rfl, hf, hb⟩ := hr
  obtain ⟨a2, c2, rfl, -⟩ := hr2.parts
  clear hf hb hr2
  cases hh : holdsR m xs with
  | false =>
    rw [hh] at KH
    have HR : Hid (sdR m xs = -1) := Lib.hid (by
      unfold sdR
      split
      · rename_i hok
        have hm := (evOk_parts hok).1
        obtain ⟨p1, p2, -, -, -, -, p7, p8⟩ := mdOk_parts hm
        unfold holdsR at hh
        rw [hok, Bool.true_and] at hh
        unfold depthK
        rw [falseK_of hm (p := evP m xs) (u := m.actual.toNat) (k := 0) (by omega) hh (fun j hj => absurd hj (Nat.not_lt_zero _))]
        rfl
      · rfl)
    clear hh KT KE
    go_enter Try.func10, Try.ntmps10
    go_wp2_with fail
    refine (KH.out _ (by go_grown)).mono ?_
    rintro e w1 ⟨rfl, hb1⟩
    have B1 : Hid (Below w.heap.size w w1) := Lib.hid (Below.trans (by go_grown) (hb1.mono (by simp)))
    clear hb1
    go_wp2
    go_ret
    exact ⟨by rw [HR.out]; rfl, B1.out⟩
  | true =>
    rw [hh] at KH
    have hok : evOk m xs = true := by unfold holdsR at hh; rw [Bool.and_eq_true] at hh; exact hh.1
    have hm := (evOk_parts hok).1
    obtain ⟨p1, p2, p3, p4, -, -, p7, p8⟩ := mdOk_parts hm
    obtain ⟨act, hact⟩ := Int.eq_ofNat_of_zero_le p7
    have hactn : act < m.facts.length := by omega
    have HP0 : Hid (evP m xs act = true) := Lib.hid (by unfold holdsR at hh; rw [hact, Int.toNat_natCast, Bool.and_eq_true] at hh; exact hh.2)
    have KT := Lib.hid (KT.out hok)
    rw [show truthR m xs = (List.range m.facts.length).map (everyK m (evP m xs) 0) from rfl] at KT
    have KE : Hid (∀ k lo2 hi2 v2 W, Below w.heap.size w W → Bv lo2 hi2 W v2 ((List.range m.facts.length).map (everyK m (evP m xs) k)) → Calls Try.prog 34 #[.agg #[fv, bv, .int .i64 m.actual], v2] W (BoolsAns W ((List.range m.facts.length).map (everyK m (evP m xs) (k + 1))))) := Lib.hid (fun k lo2 hi2 v2 W h h2 => KE.out hm lo2 hi2 v2 _ W h h2)
    have HR1 : Hid (∀ k, (∀ j, j ≤ k → everyK m (evP m xs) j act = true) → everyK m (evP m xs) (k + 1) act = false → sdR m xs = (k : Int)) := Lib.hid (fun k h1 h2 => by
      unfold sdR depthK
      rw [if_pos hok, hact, Int.toNat_natCast, falseK_of hm hactn h2 (fun j hj => h1 j (by omega))]
      show ((k + 1 : Nat) : Int) - 1 = (k : Int)
      omega)
    have HR2 : Hid ((∀ j, j ≤ 16 → everyK m (evP m xs) j act = true) → sdR m xs = 16) := Lib.hid (fun h => by
      unfold sdR depthK
      rw [if_pos hok, hact, Int.toNat_natCast, show falseK m (evP m xs) act = none from leastK_none.2 fun j hj => by rw [h j (by omega)]; rfl])
    have HG := Lib.hid (fun k => getD_rangeMap' (p := everyK m (evP m xs) k) hactn)
    unfold BoolsAns at KT KE
    rw [hact] at KH KT KE ⊢
    rw [show evP m xs act = everyK m (evP m xs) 0 act from rfl] at HP0
    generalize sdR m xs = R at *
    generalize everyK m (evP m xs) = ek at *
    generalize m.facts.length = n at *
    have HLN : Hid (∀ k, ((List.range n).map (ek k)).length = n) := Lib.hid (fun k => by simp)
    have a0 : (0 : Int) ≤ (act : Int) := Int.natCast_nonneg _
    have an : (act : Int) < (n : Int) := by omega
    clear hh hok hm p3 p4 p7 p8 hact
    go_enter Try.func10, Try.ntmps10
    go_wp2_with fail
    refine (KH.out _ (by go_grown)).mono ?_
    rintro e w1 ⟨rfl, hb1⟩
    have X1 := Lib.hid (Mcell.below (b := w.heap.size) (Mcell.new (fv := fv) (bv := bv) (n := (act : Int)) rfl) hb1)
    have B1 : Hid (Below w.heap.size w w1) := Lib.hid (Below.trans (by go_grown) (hb1.mono (by simp)))
    clear hb1
    obtain ⟨c0, c1, c2, c3, c4, c5⟩ := X1.out
    go_wp2_with fail
    clear c0 c1 c2 c3 c4 c5
    refine (KT.out _ B1.out).mono ?_
    rintro e w2 ⟨v3, rfl, ho, hb⟩
    have X2 := Lib.hid (X1.out.below hb)
    have B2 := Lib.hid (B1.out.trans (hb.mono B1.out.size))
    have HO : Hid (Bv 0 w2.heap.size w2 v3 ((List.range n).map (ek 0))) := Lib.hid (ho.read.wide (Nat.zero_le _) (Nat.le_refl _))
    clear ho hb X1 B1
    go_wp2
    go_loopw [5, 6] (fun tv kv wr => ∃ (k : Nat) (tv' : Value), k ≤ 16 ∧ kv = .int .i64 k ∧ tv' = tv ∧ Hid (Bv 0 wr.heap.size wr tv' ((List.range n).map (ek k))) ∧ Hid (∀ j, j ≤ k → ek j act = true) ∧ Hid (Mcell wr w.heap.size fv bv (act : Int)) ∧ Hid (Below w.heap.size w wr)) (fun _ kv _ => 16 - (intOf kv).toNat)
    case atStart => exact ⟨0, _, Nat.zero_le _, rfl, rfl, HO, Lib.hid (fun j hj => by rw [Nat.le_zero.1 hj]; exact HP0.out), X2, B2⟩
    case round =>
      clear HO X2 B2
      obtain ⟨k, tv, hk, rfl, rfl, HO, HJ, X2, B2⟩ := hrel
      by_cases hlt : k < 16
      · have k0 : (0 : Int) ≤ (k : Int) := Int.natCast_nonneg _
        have k16 : (k : Int) < 16 := by omega
        obtain ⟨c0, c1, c2, c3, c4, c5⟩ := X2.out
        go_wp2_with fail
        clear c0 c1 c2 c3 c4 c5
        refine (KE.out k _ _ _ _ B2.out HO.out).mono ?_
        rintro e w4 ⟨v4, rfl, ho4, hb4⟩
        have X4 := Lib.hid (X2.out.below hb4)
        have B4 := Lib.hid (B2.out.trans (hb4.mono B2.out.size))
        have HO4 : Hid (Bv 0 w4.heap.size w4 v4 ((List.range n).map (ek (k + 1)))) := Lib.hid (ho4.read.wide (Nat.zero_le _) (Nat.le_refl _))
        obtain ⟨tb, t0, tc, rfl, q4, r4, k4⟩ := HO4.out.kept (by rw [HLN.out]; omega)
        have ct := k4 w4 (Below.refl _ _) act (by rw [HLN.out]; omega)
        rw [HG.out] at ct
        rw [HLN.out] at q4 HO4 ⊢
        unfold maxLen at r4
        have HRk := Lib.hid (HR1.out k HJ.out)
        have HJ2 : Hid (ek (k + 1) act = true → ∀ j, j ≤ k + 1 → ek j act = true) := Lib.hid (fun h j hj => by
          rcases Nat.lt_or_eq_of_le hj with h1 | rfl
          · exact HJ.out j (by omega)
          · exact h)
        obtain ⟨b, hb⟩ : ∃ b, b = ek (k + 1) act := ⟨_, rfl⟩
        rw [← hb] at ct HRk HJ2
        clear hb ho4 hb4 k4 HO HJ X2 B2
        obtain ⟨c0, c1, c2, -, -, -⟩ := X4.out
        cases b with
        | false =>
          have HQ : Hid (R = (k : Int)) := Lib.hid (HRk.out rfl)
          clear HRk HJ2
          go_wp2
          go_ret
          exact ⟨by rw [HQ.out]; rfl, B4.out⟩
        | true =>
          have HQ : Hid (∀ j, j ≤ k + 1 → ek j act = true) := Lib.hid (HJ2.out rfl)
          clear HRk HJ2
          go_wp2
          clear ct c0 c1 c2
          go_roundw
          case rel => exact ⟨k + 1, _, by omega, by go_num, rfl, HO4, HQ, X4, B4⟩
          case measure => simp [intOf]; omega
      · obtain rfl : k = 16 := by omega
        have HRk := Lib.hid (HR2.out HJ.out)
        go_wp2
        go_ret
        exact ⟨by rw [HRk.out]; rfl, B2.out⟩
end Go.Proofs.Ythjfanhhindjlaa
