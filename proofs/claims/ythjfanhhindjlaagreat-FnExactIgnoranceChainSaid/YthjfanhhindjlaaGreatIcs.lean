/-
  spec.l09Near, spec.l09Back, spec.IgnoranceChain. Conditions of the first two: the model is valid, the worlds are its own, there is a world where it is false.
-/
import Derived.Test.YthjfanhhindjlaaGreatSpr
import Derived.Test.YthjfanhhindjlaaGreatIcn
import Derived.Test.YthjfanhhindjlaaGreatIcm
import Derived.Test.YthjfanhhindjlaaGreatChs
namespace Go.Proofs.YthjfanhhindjlaaGreat
open Go.RowKit Go.WideShapes
open Go Go.Deep
set_option linter.unusedSimpArgs false

theorem spread_len (m : Md) (u : Nat) : (spreadR m u).length = m.facts.length := by unfold spreadR; rw [List.length_map, List.length_range]

set_option maxRecDepth 100000 in
set_option maxHeartbeats 16000000 in
theorem specNear_any (lo hi lo2 hi2 : Nat) (v v2 : Value) (m : Md) (p : Nat → Bool) (u : Nat) (w : World) (hr : Mv lo hi w v m) (hm : mdOk m = true) (h2 : Bv lo2 hi2 w v2 ((List.range m.facts.length).map p)) (hu : u < m.facts.length) :
    Calls Tryz.prog 63 #[v, v2, .int .i64 u] w fun e w' => e = .returned (.int .i64 (falseI m p u)) ∧ Below w.heap.size w w' := by
  have KR := Lib.hid (fun W (h : Below w.heap.size w W) => specSpread_any lo hi v m u W (hr.keeps (Keeps.of_all h)) hm hu)
  unfold IntsAns at KR
  obtain ⟨p1, p2, -⟩ := mdOk_parts hm
  have HBF := Lib.hid (best_false hm (p := p) hu)
  have HBS : Hid (∀ j, bestJ m p u (j + 1) = if 0 ≤ (spreadR m u).getD j 0 ∧ p j = false ∧ (bestJ m p u j < 0 ∨ (spreadR m u).getD j 0 < bestJ m p u j) then (spreadR m u).getD j 0 else bestJ m p u j) := Lib.hid (fun _ => rfl)
  have HB0 : Hid (bestJ m p u 0 = -1) := Lib.hid rfl
  generalize bestJ m p u = bj at *
  generalize falseI m p u = R at *
  obtain ⟨tb, t0, tc, rfl, tq, tr, tk⟩ := h2.kept (by rw [List.length_map, List.length_range]; omega)
  rw [List.length_map, List.length_range] at tq tk ⊢
  have HTK : Hid (∀ W, Below w.heap.size w W → ∀ j, j < m.facts.length → W.cell? ⟨tb, t0 + j, none⟩ = some (.bool (p j))) := Lib.hid (fun W h j hj => by rw [tk W h j hj, getD_rangeMap' hj])
  unfold maxLen at tr
  have HSL := Lib.hid (spread_len m u)
  obtain ⟨fv, bv, rfl, hf, hb⟩ := hr
  clear hf hb tk h2
  generalize m.facts.length = n at *
  generalize m.actual = act at *
  go_enter Tryz.func63, Tryz.ntmps63
  go_wp2_with fail
  refine (KR.out _ (by go_grown)).mono ?_
  rintro e w1 ⟨v1, rfl, ho1, hb1⟩
  have B1 : Hid (Below w.heap.size w w1) := Lib.hid (Below.trans (by go_grown) (hb1.mono (by simp)))
  obtain ⟨sb, so, sc, rfl, sq, sr, sk⟩ := ho1.read.kept (by rw [HSL.out]; omega)
  rw [HSL.out] at sq sk ⊢
  unfold maxLen at sr
  have HSP := Lib.hid sk
  have sz1 : w.heap.size ≤ w1.heap.size := B1.out.size
  have HTR : Hid (∀ W, Below w1.heap.size w1 W → ∀ j, j < n → W.cell? ⟨tb, t0 + j, none⟩ = some (.bool (p j))) := Lib.hid (fun W h j hj => HTK.out W (B1.out.trans (h.mono sz1)) j hj)
  clear hb1 ho1 sk HTK KR
  go_wp2
  go_loopw [7, 14] (fun bv iv wr => ∃ j : Nat, j ≤ n ∧ iv = .int .i64 j ∧ bv = .int .i64 (bj j) ∧ Hid (Below w1.heap.size w1 wr)) (fun _ iv _ => n - (intOf iv).toNat)
  case atStart => exact ⟨0, Nat.zero_le _, rfl, by rw [HB0.out], Lib.hid (Below.refl _ _)⟩
  case round =>
    obtain ⟨j, hj, rfl, rfl, BR⟩ := hrel
    by_cases hlt : j < n
    · have j0 : (0 : Int) ≤ (j : Int) := Int.natCast_nonneg _
      have jn : (j : Int) < (n : Int) := by omega
      have cs := HSP.out _ BR.out j hlt
      have ct := HTR.out _ BR.out j hlt
      have HBj := Lib.hid (HBS.out j)
      obtain ⟨s, hs⟩ : ∃ s, s = (spreadR m u).getD j 0 := ⟨_, rfl⟩
      rw [← hs] at cs HBj
      clear hs
      obtain ⟨b, hb⟩ : ∃ b, b = bj j := ⟨_, rfl⟩
      rw [← hb] at HBj ⊢
      clear hb
      obtain ⟨t, ht⟩ : ∃ t, t = p j := ⟨_, rfl⟩
      rw [← ht] at ct HBj
      clear ht
      rcases Int.lt_or_le s 0 with hs0 | hs0
      · have HQ : Hid (bj (j + 1) = b) := Lib.hid (by rw [HBj.out, if_neg (fun h => by omega)])
        have g1 : decide (0 ≤ s) = false := decide_eq_false (by omega)
        clear HBj
        go_wp2
        clear cs ct g1
        go_roundw
        case rel => exact ⟨j + 1, by omega, by go_num, by rw [HQ.out], BR⟩
        case measure => simp [intOf]; omega
      · have g1 : decide (0 ≤ s) = true := decide_eq_true hs0
        cases t with
        | true =>
          have HQ : Hid (bj (j + 1) = b) := Lib.hid (by rw [HBj.out, if_neg (fun h => by cases h.2.1)])
          clear HBj
          go_wp2
          clear cs ct g1
          go_roundw
          case rel => exact ⟨j + 1, by omega, by go_num, by rw [HQ.out], BR⟩
          case measure => simp [intOf]; omega
        | false =>
          rcases Int.lt_or_le b 0 with hb0 | hb0
          · have HQ : Hid (bj (j + 1) = s) := Lib.hid (by rw [HBj.out, if_pos ⟨hs0, rfl, .inl hb0⟩])
            have g2 : decide (b < 0) = true := decide_eq_true hb0
            clear HBj
            go_wp2
            clear cs ct g1 g2
            go_roundw
            case rel => exact ⟨j + 1, by omega, by go_num, by rw [HQ.out], BR⟩
            case measure => simp [intOf]; omega
          · have g2 : decide (b < 0) = false := decide_eq_false (by omega)
            rcases Int.lt_or_le s b with hsb | hsb
            · have HQ : Hid (bj (j + 1) = s) := Lib.hid (by rw [HBj.out, if_pos ⟨hs0, rfl, .inr hsb⟩])
              have g3 : decide (s < b) = true := decide_eq_true hsb
              clear HBj
              go_wp2
              clear cs ct g1 g2 g3
              go_roundw
              case rel => exact ⟨j + 1, by omega, by go_num, by rw [HQ.out], BR⟩
              case measure => simp [intOf]; omega
            · have HQ : Hid (bj (j + 1) = b) := Lib.hid (by rw [HBj.out, if_neg (fun h => by rcases h.2.2 with h | h <;> omega)])
              have g3 : decide (s < b) = false := decide_eq_false (by omega)
              clear HBj
              go_wp2
              clear cs ct g1 g2 g3
              go_roundw
              case rel => exact ⟨j + 1, by omega, by go_num, by rw [HQ.out], BR⟩
              case measure => simp [intOf]; omega
    · obtain rfl : j = n := by omega
      have HQ : Hid (R = bj j) := Lib.hid HBF.out.symm
      go_wp2
      go_ret
      exact ⟨by rw [HQ.out]; rfl, B1.out.trans (BR.out.mono sz1)⟩

set_option maxRecDepth 100000 in
set_option maxHeartbeats 32000000 in
theorem specBack_any (lo hi lo2 hi2 : Nat) (v v2 : Value) (m : Md) (p : Nat → Bool) (k act : Nat) (w : World) (hr : Mv lo hi w v m) (hm : mdOk m = true) (h2 : Bv lo2 hi2 w v2 ((List.range m.facts.length).map p)) (hact : m.actual = (act : Int)) (hf : falseK m p act = some k) :
    Calls Tryz.prog 33 #[v, v2, .int .i64 k] w (IntsAns2 w ((List.range (k + 1)).map fun i => ((chainK m p k act).getD i 0 : Int)) true) := by
  obtain ⟨p1, p2, p3, p4, -, -, p7, p8⟩ := mdOk_parts hm
  have hactn : act < m.facts.length := by omega
  have hkn := (falseK_some hm hactn hf).2.2.1
  have KA := Lib.hid (fun i j (hi' : i < m.facts.length) (hj : j < m.facts.length) W (h : Below w.heap.size w W) => specAgent_any lo hi v m i j W (hr.keeps (Keeps.of_all h)) hm hi' hj)
  have KN := Lib.hid (fun j (hj : j < m.facts.length) W (h : Below w.heap.size w W) => specNear_any lo hi lo2 hi2 v v2 m p j W (hr.keeps (Keeps.of_all h)) hm (h2.keeps (Keeps.of_all h)) hj)
  have HC := Lib.hid (chain_step hm hactn hf)
  have HC0 : Hid ((chainK m p k act).getD 0 0 = act) := Lib.hid (chain_good hm hactn hf).2.2.2
  have HAG : Hid (∀ i j, agI m i j = if nearM m i j then (fstA m.blocks m.blocks.length i j : Int) else -1) := Lib.hid (fun _ _ => rfl)
  have HFI : Hid (∀ j d : Nat, falseI m p j = (d : Int) ↔ falseK m p j = some d) := Lib.hid (fun j d => by
    unfold falseI
    cases h : falseK m p j with
    | none => exact ⟨fun h => by have h : (-1 : Int) = d := h; omega, fun h => by cases h⟩
    | some e => exact ⟨fun h => by have h : (e : Int) = d := h; congr 1; omega, fun h => by cases h; rfl⟩)
  have HFB : Hid (∀ j, -1 ≤ falseI m p j ∧ falseI m p j < 1000000) := Lib.hid (fun j => by
    unfold falseI
    cases h : falseK m p j with
    | none => show (-1 : Int) ≤ -1 ∧ (-1 : Int) < 1000000; omega
    | some e =>
      have := (leastK_some.1 (show leastK _ _ = some e from h)).1
      show (-1 : Int) ≤ (e : Int) ∧ (e : Int) < 1000000
      omega)
  obtain ⟨L, hL⟩ : ∃ L : Nat → Nat, L = fun i => (chainK m p k act).getD i 0 := ⟨_, rfl⟩
  have HLL : Hid (∀ i, (chainK m p k act).getD i 0 = L i) := Lib.hid (fun i => by rw [hL])
  have HMS : Hid (∀ n, (List.range (n + 1)).map (fun i => (L i : Int)) = (List.range n).map (fun i => (L i : Int)) ++ [(L n : Int)]) := Lib.hid (fun n => by rw [List.range_succ, List.map_append]; rfl)
  have HML : Hid (∀ n, ((List.range n).map (fun i => (L i : Int))).length = n) := Lib.hid (fun n => by simp)
  have HMA : Hid (∀ n i, i < n → ((List.range n).map (fun i => (L i : Int))).getD i 0 = (L i : Int)) := Lib.hid (fun n i h => by
    rw [List.getD_eq_getElem?_getD, List.getElem?_map, List.getElem?_range h]; rfl)
  rw [show (fun i => ((chainK m p k act).getD i 0 : Int)) = fun i => (L i : Int) by rw [hL]]
  have hC := HC.out
  simp only [HLL.out] at hC
  have HC := Lib.hid hC
  have hC0 := HC0.out
  rw [HLL.out] at hC0
  have HC0 := Lib.hid hC0
  obtain ⟨ta, tc, ht⟩ := h2.form
  rw [List.length_map, List.length_range] at ht
  subst ht
  obtain ⟨fv, bv, rfl, hfv, hb⟩ := hr
  clear hfv hb h2 hC hC0 hL HLL hf p3 p7 p8 hm
  unfold IntsAns2
  rw [hact] at KA KN ⊢
  generalize m.facts.length = n at *
  have k0 : (0 : Int) ≤ (k : Int) := Int.natCast_nonneg _
  clear hact
  go_enter Tryz.func33, Tryz.ntmps33
  go_wp2
  have X1 := Lib.hid (Mcell.new (w := w) (T := 31) (b := w.heap.size) (fv := fv) (bv := bv) (n := (act : Int)) rfl)
  have B1 : Hid (Below w.heap.size w (w.alloc (.cells #[fv, bv, .int .i64 act] 31))) := Lib.hid (by go_grown)
  have hz1 : (w.alloc (.cells #[fv, bv, .int .i64 act] 31)).heap.size = w.heap.size + 1 := by simp
  generalize w.alloc (.cells #[fv, bv, .int .i64 act] 31) = w1 at *
  have hlt1 := X1.out.lt
  have sb1 : w.heap.size ≤ w1.heap.size := B1.out.size
  rw [← hz1]
  clear hz1
  go_loopw [8, 9] (fun sv kv wr => ∃ (i : Nat) (sv' : Value), i ≤ k ∧ kv = .int .i64 ((k - i : Nat) : Int) ∧ sv' = sv ∧ Hid (wr.ownsRow w1.heap.size 3 1 sv' (i + 1) (ints ((List.range (i + 1)).map fun i => (L i : Int)))) ∧ Hid (Below w1.heap.size w1 wr)) (fun _ kv _ => (intOf kv).toNat)
  case atStart => exact ⟨0, _, Nat.zero_le _, rfl, rfl, Lib.hid (by rw [show (List.range (0 + 1)).map (fun i => (L i : Int)) = [(act : Int)] by show [(L 0 : Int)] = _; rw [HC0.out]]; exact World.ownsRow_lit w1 #[.int .i64 act] 1 (Nat.le_refl _) (by unfold maxLen; omega) rfl), Lib.hid (by go_grown)⟩
  case round =>
    obtain ⟨i, sv, hik, rfl, rfl, SR, BR⟩ := hrel
    obtain ⟨d, hd⟩ : ∃ d, k - i = d := ⟨_, rfl⟩
    rw [hd]
    rcases Nat.eq_zero_or_pos d with hd0 | hdp
    · subst hd0
      obtain rfl : i = k := by omega
      go_wp2
      go_returns
      exact ⟨_, rfl, (Ro.of_own SR.out).wide sb1 (Nat.le_refl _), B1.out.trans (BR.out.mono sb1)⟩
    · obtain ⟨q1, q2, q3, q4, q5, q6⟩ := HC.out i (by omega)
      obtain ⟨d', hd'⟩ : ∃ d', d = d' + 1 := ⟨d - 1, by omega⟩
      rw [hd] at q5 q6 q2
      rw [show d - 1 = d' by omega] at q5 q6
      have HDD := Lib.hid hd'
      have hki : k - (i + 1) = d' := by omega
      have HKI := Lib.hid hki
      clear hki
      have HCI := Lib.hid q6
      have HNX : Hid (nearM m (L i) (L (i + 1)) = true ∧ falseK m p (L (i + 1)) = some d') := Lib.hid ⟨q4, q5⟩
      have HLI : Hid (L (i + 1) < n) := Lib.hid q3
      have d0 : (0 : Int) < (d : Int) := by omega
      have e2 : IntKind.i64.wrap ((d : Int) - 1) = (d' : Int) := by rw [hd', show ((d' + 1 : Nat) : Int) - 1 = (d' : Int) by omega]; exact IntWalk.i64_in _ (by omega)
      have E2 := Lib.hid e2
      clear e2 hd'
      have HMi := Lib.hid (HMS.out (i + 1))
      obtain ⟨wo, rfl⟩ : ∃ wo : World, wo = wr := ⟨_, rfl⟩
      clear q2 q3 q4 q5 q6
      go_wp2
      go_loopw [8, 21] (fun sv iv ws => ∃ (j : Nat) (sv' : Value), j ≤ L (i + 1) ∧ iv = .int .i64 j ∧ sv' = sv ∧ Hid (ws.ownsRow w1.heap.size 3 1 sv' (i + 1) (ints ((List.range (i + 1)).map fun i => (L i : Int)))) ∧ Hid (Below wo.heap.size wo ws)) (fun _ iv _ => n - (intOf iv).toNat)
      case atStart => exact ⟨0, _, Nat.zero_le _, rfl, rfl, SR, Lib.hid (Below.refl _ _)⟩
      case round =>
        clear SR
        obtain ⟨j, sv, hj, rfl, rfl, SR, BS⟩ := hrel
        have hLn := HLI.out
        have hjn : j < n := by omega
        have j0 : (0 : Int) ≤ (j : Int) := Int.natCast_nonneg _
        have jn : (j : Int) < (n : Int) := by omega
        have hszo : w1.heap.size ≤ wo.heap.size := BR.out.size
        have BW : Hid (Below w1.heap.size w1 wr) := Lib.hid (BR.out.trans (BS.out.mono hszo))
        have BB : Hid (Below w.heap.size w wr) := Lib.hid (B1.out.trans (BW.out.mono sb1))
        have XR : Hid (Mcell wr w.heap.size fv bv (act : Int)) := Lib.hid (X1.out.of_block (BW.out.block _ hlt1))
        have hszr : w.heap.size ≤ wr.heap.size := BB.out.size
        have hszr1 : w1.heap.size ≤ wr.heap.size := BW.out.size
        obtain ⟨ob, oc, rfl, o1, o2, o3, o4⟩ := own_open SR.out (Nat.succ_pos i)
        unfold maxLen at o2
        have HOB : Hid (∀ W, Below wr.heap.size wr W → W.cell? ⟨ob, i, none⟩ = some (.int .i64 (L i : Int))) := Lib.hid (fun W h => by
          rw [h.cell (p := ⟨ob, i, none⟩) o4, SR.out.cellAt i (by omega), ints_at (by rw [HML.out]; omega), HMA.out _ _ (Nat.lt_succ_self i)])
        have KAj := Lib.hid (KA.out (L i) j q1 hjn)
        rw [HAG.out] at KAj
        have KNj := Lib.hid (KN.out j hjn)
        have i0 : (0 : Int) ≤ (i : Int) := Int.natCast_nonneg _
        have e1 : IntKind.i64.wrap (i : Int) = (i : Int) := IntWalk.i64_in _ (by omega)
        have e1' : IntKind.i64.wrap ((i : Int) + 1 - 1) = (i : Int) := by rw [show (i : Int) + 1 - 1 = (i : Int) by omega]; exact e1
        have E1 := Lib.hid e1
        have i1 : (i : Int) < (((i + 1 : Nat)) : Int) := by omega
        have HRG : Hid (∀ W, Below wr.heap.size wr W → W.rangeAt w.heap.size 0 [fv, bv, .int .i64 act]) := Lib.hid (fun W h => (XR.out.below h).range)
        have HU : Tryz.prog.underlying 31 = some _ := Tryz.underlying31
        have HHIT : Hid (j = L (i + 1) → nearM m (L i) j = true ∧ falseI m p j = (d' : Int)) := Lib.hid (fun h => by rw [h]; exact ⟨HNX.out.1, (HFI.out _ _).2 HNX.out.2⟩)
        have HMISS : Hid (nearM m (L i) j = true → falseI m p j = (d' : Int) → j = L (i + 1)) := Lib.hid (fun h1 h2 => by
          rcases Nat.lt_or_eq_of_le hj with h | h
          · have := HCI.out j h
            rw [h1, Bool.true_and, decide_eq_false_iff_not] at this
            exact absurd ((HFI.out _ _).1 h2) this
          · exact h)
        have hfb := HFB.out j
        have hfa : fstA m.blocks m.blocks.length (L i) j < 1000000 := by
          unfold fstA
          cases h : (List.range m.blocks.length).find? (fun k => (m.blocks.getD k []).getD (L i) 0 == (m.blocks.getD k []).getD j 0) with
          | none => show 0 < 1000000; omega
          | some q => have := List.mem_range.1 (List.mem_of_find?_eq_some h); show q < 1000000; omega
        generalize fstA m.blocks m.blocks.length (L i) j = fa at *
        generalize nearM m (L i) j = nr at *
        generalize falseI m p j = fi at *
        obtain ⟨fb1, fb2⟩ := hfb
        have k9 : ¬ ((i : Int) + 1 ≤ (i : Int)) := by omega
        clear e1 e1'
        cases nr with
        | false =>
          have HNE : Hid (j ≠ L (i + 1)) := Lib.hid (fun h => by have := (HHIT.out h).1; cases this)
          have KAj : Hid (∀ W, Below w.heap.size w W → Calls Tryz.prog 62 #[.agg #[fv, bv, .int .i64 (act : Int)], .int .i64 (L i : Int), .int .i64 (j : Int)] W fun e W' => e = .returned (.int .i64 (-1)) ∧ Below W.heap.size W W') := Lib.hid (fun W h => KAj.out W h)
          go_wp2
          obtain ⟨wq, rfl⟩ : ∃ wq : World, wq = wr := ⟨_, rfl⟩
          refine regionL (fun W => Below wq.heap.size wq W) [] (by kernel_rfl) (Below.refl _ _).drew (fun hHeld => ?_)
          refine takeA (i := 0) (v := .agg #[fv, bv, .int .i64 act]) 24 rfl rfl (by kernel_rfl) (by kernel_rfl) (by kernel_rfl) (by kernel_rfl) (fun _ _ _ h => h) (yieldsIf_load_mid (by rfl) 31 _ rfl w.heap.size 0 rfl [fv, bv, .int .i64 act] _ HRG.out HU rfl Tryz.sizeMd) hHeld ?_
          simp only [Act.put, List.setIfInBounds_toArray, List.set_cons_zero, List.set_cons_succ]
          refine takeA (i := 1) (v := .slice (some ⟨ob, 0, none⟩) (i + 1) oc) 25 rfl rfl (by kernel_rfl) (by kernel_rfl) (by kernel_rfl) (by kernel_rfl) (fun _ _ _ h => h) (Or.inl ⟨by rfl, by intro W hSw; go_simp⟩) hHeld ?_
          simp only [Act.put, List.setIfInBounds_toArray, List.set_cons_zero, List.set_cons_succ]
          refine takeA (i := 2) (v := .slice (some ⟨ob, 0, none⟩) (i + 1) oc) 26 rfl rfl (by kernel_rfl) (by kernel_rfl) (by kernel_rfl) (by kernel_rfl) (fun _ _ _ h => h) (Or.inl ⟨by rfl, by intro W hSw; go_simp⟩) hHeld ?_
          simp only [Act.put, List.setIfInBounds_toArray, List.set_cons_zero, List.set_cons_succ]
          refine takeA (i := 7) (v := .int .i64 j) 31 rfl rfl (by kernel_rfl) (by kernel_rfl) (by kernel_rfl) (by kernel_rfl) (fun _ _ _ h => h) (Or.inl ⟨by rfl, by intro W hSw; go_simp⟩) hHeld ?_
          simp only [Act.put, List.setIfInBounds_toArray, List.set_cons_zero, List.set_cons_succ]
          refine takeA (i := 3) (v := .int .i64 ((i + 1 : Nat) : Int)) 27 rfl rfl (by kernel_rfl) (by kernel_rfl) (by kernel_rfl) (by kernel_rfl) (fun _ _ _ h => h) (Or.inl ⟨by rfl, by intro W hSw; go_simp⟩) hHeld ?_
          simp only [Act.put, List.setIfInBounds_toArray, List.set_cons_zero, List.set_cons_succ]
          refine takeA (i := 4) (v := .int .i64 i) 28 rfl rfl (by kernel_rfl) (by kernel_rfl) (by kernel_rfl) (by kernel_rfl) (fun _ _ _ h => h) (Or.inl ⟨by rfl, by intro W hSw; have e1 := E1.out; go_simp⟩) hHeld ?_
          simp only [Act.put, List.setIfInBounds_toArray, List.set_cons_zero, List.set_cons_succ]
          refine takeA (i := 5) (v := .pointer (some ⟨ob, i, none⟩)) 29 rfl rfl (by kernel_rfl) (by kernel_rfl) (by kernel_rfl) (by kernel_rfl) (fun _ _ _ h => h) (Or.inl ⟨by rfl, by intro W hSw; go_simp⟩) hHeld ?_
          simp only [Act.put, List.setIfInBounds_toArray, List.set_cons_zero, List.set_cons_succ]
          refine takeA (i := 6) (v := .int .i64 (L i : Int)) 30 rfl rfl (by kernel_rfl) (by kernel_rfl) (by kernel_rfl) (by kernel_rfl) (fun _ _ _ h => h) (Or.inl ⟨by rfl, by intro W hSw; have c1 := HOB.out _ hSw; go_simp⟩) hHeld ?_
          simp only [Act.put, List.setIfInBounds_toArray, List.set_cons_zero, List.set_cons_succ]
          refine onlyL (i := 8) (by kernel_rfl) rfl (by rfl) (fun K hK => ?_)
          go_simp
          refine (KAj.out _ (BB.out.trans (hHeld.mono hszr))).mono ?_
          rintro e w8 ⟨rfl, hb8⟩
          have t8 : Below wq.heap.size wq w8 := hHeld.trans (hb8.mono hHeld.size)
          clear hb8 hHeld
          refine hK.out _ _ (fun _ => t8) (fun hHeld => ?_)
          have hHeld := hHeld (by decide)
          clear hK K
          try simp only [Act.put, List.setIfInBounds_toArray, List.set_cons_zero, List.set_cons_succ]
          refine takeA (i := 9) (v := .bool false) 33 rfl rfl (by kernel_rfl) (by kernel_rfl) (by kernel_rfl) (by kernel_rfl) (fun _ _ _ h => h) (Or.inl ⟨by rfl, by intro W hSw; go_simp⟩) hHeld ?_
          simp only [Act.put, List.setIfInBounds_toArray, List.set_cons_zero, List.set_cons_succ]
          refine takeA (i := 10) (v := .bool false) 34 rfl rfl (by kernel_rfl) (by kernel_rfl) (by kernel_rfl) (by kernel_rfl) (fun _ _ _ h => h) (Or.inl ⟨by rfl, by intro W hSw; go_simp⟩) hHeld ?_
          simp only [Act.put, List.setIfInBounds_toArray, List.set_cons_zero, List.set_cons_succ]
          refine takeA (i := 11) (v := undef) 35 rfl rfl (by kernel_rfl) (by kernel_rfl) (by kernel_rfl) (by kernel_rfl) (fun _ _ _ h => h) (Or.inr ⟨by rfl, rfl⟩) hHeld ?_
          simp only [Act.put, List.setIfInBounds_toArray, List.set_cons_zero, List.set_cons_succ]
          refine takeA (i := 12) (v := undef) 36 rfl rfl (by kernel_rfl) (by kernel_rfl) (by kernel_rfl) (by kernel_rfl) (fun _ _ _ h => h) (Or.inr ⟨by rfl, rfl⟩) hHeld ?_
          simp only [Act.put, List.setIfInBounds_toArray, List.set_cons_zero, List.set_cons_succ]
          refine takeA (i := 13) (v := undef) 37 rfl rfl (by kernel_rfl) (by kernel_rfl) (by kernel_rfl) (by kernel_rfl) (fun _ _ _ h => h) (Or.inr ⟨by rfl, rfl⟩) hHeld ?_
          simp only [Act.put, List.setIfInBounds_toArray, List.set_cons_zero, List.set_cons_succ]
          refine takeA (i := 15) (v := undef) 39 rfl rfl (by kernel_rfl) (by kernel_rfl) (by kernel_rfl) (by kernel_rfl) (fun _ _ _ h => h) (Or.inr ⟨by rfl, rfl⟩) hHeld ?_
          simp only [Act.put, List.setIfInBounds_toArray, List.set_cons_zero, List.set_cons_succ]
          refine takeA (i := 16) (v := undef) 40 rfl rfl (by kernel_rfl) (by kernel_rfl) (by kernel_rfl) (by kernel_rfl) (fun _ _ _ h => h) (Or.inr ⟨by rfl, rfl⟩) hHeld ?_
          simp only [Act.put, List.setIfInBounds_toArray, List.set_cons_zero, List.set_cons_succ]
          refine takeA (i := 14) (v := undef) 38 rfl rfl (by kernel_rfl) (by kernel_rfl) (by kernel_rfl) (by kernel_rfl) (fun _ _ _ h => h) (Or.inr ⟨by rfl, rfl⟩) hHeld ?_
          simp only [Act.put, List.setIfInBounds_toArray, List.set_cons_zero, List.set_cons_succ]
          refine takeA (i := 17) (v := undef) 41 rfl rfl (by kernel_rfl) (by kernel_rfl) (by kernel_rfl) (by kernel_rfl) (fun _ _ _ h => h) (Or.inr ⟨by rfl, rfl⟩) hHeld ?_
          simp only [Act.put, List.setIfInBounds_toArray, List.set_cons_zero, List.set_cons_succ]
          refine takeA (i := 18) (v := .bool false) 42 rfl rfl (by kernel_rfl) (by kernel_rfl) (by kernel_rfl) (by kernel_rfl) (fun _ _ _ h => h) (Or.inl ⟨by rfl, by intro W hSw; go_simp⟩) hHeld ?_
          simp only [Act.put, List.setIfInBounds_toArray, List.set_cons_zero, List.set_cons_succ]
          refine doneL (by kernel_rfl) ?_ _
          try simp only [List.getElem_toArray, List.getElem_cons_succ, List.getElem_cons_zero]
          have BS : Hid (Below wo.heap.size wo w8) := Lib.hid (BS.out.trans (t8.mono BS.out.size))
          have SR := Lib.hid (own_below' SR.out t8)
          clear t8 hHeld HRG HOB
          go_wp2
          go_roundw
          case rel => exact ⟨j + 1, _, by have := HNE.out; omega, by go_num, rfl, SR, BS⟩
          case measure => simp [intOf]; omega
        | true =>
          have fa0 : (0 : Int) ≤ (fa : Int) := Int.natCast_nonneg _
          have g0 : decide ((0 : Int) ≤ (fa : Int)) = true := decide_eq_true fa0
          have KAj : Hid (∀ W, Below w.heap.size w W → Calls Tryz.prog 62 #[.agg #[fv, bv, .int .i64 (act : Int)], .int .i64 (L i : Int), .int .i64 (j : Int)] W fun e W' => e = .returned (.int .i64 (fa : Int)) ∧ Below W.heap.size W W') := Lib.hid (fun W h => KAj.out W h)
          obtain ⟨t, ht⟩ : ∃ t, t = (fi == (d' : Int)) := ⟨_, rfl⟩
          have ht' : (fi == (d' : Int)) = t := ht.symm
          have HT := Lib.hid ht'
          have HEQ : Hid (t = true ↔ j = L (i + 1)) := Lib.hid (by rw [ht, beq_iff_eq]; exact ⟨fun h => HMISS.out rfl h, fun h => (HHIT.out h).2⟩)
          clear ht ht' HMISS HHIT
          go_wp2
          obtain ⟨wq, rfl⟩ : ∃ wq : World, wq = wr := ⟨_, rfl⟩
          refine regionL (fun W => Below wq.heap.size wq W) [] (by kernel_rfl) (Below.refl _ _).drew (fun hHeld => ?_)
          refine takeA (i := 0) (v := .agg #[fv, bv, .int .i64 act]) 24 rfl rfl (by kernel_rfl) (by kernel_rfl) (by kernel_rfl) (by kernel_rfl) (fun _ _ _ h => h) (yieldsIf_load_mid (by rfl) 31 _ rfl w.heap.size 0 rfl [fv, bv, .int .i64 act] _ HRG.out HU rfl Tryz.sizeMd) hHeld ?_
          simp only [Act.put, List.setIfInBounds_toArray, List.set_cons_zero, List.set_cons_succ]
          refine takeA (i := 1) (v := .slice (some ⟨ob, 0, none⟩) (i + 1) oc) 25 rfl rfl (by kernel_rfl) (by kernel_rfl) (by kernel_rfl) (by kernel_rfl) (fun _ _ _ h => h) (Or.inl ⟨by rfl, by intro W hSw; go_simp⟩) hHeld ?_
          simp only [Act.put, List.setIfInBounds_toArray, List.set_cons_zero, List.set_cons_succ]
          refine takeA (i := 2) (v := .slice (some ⟨ob, 0, none⟩) (i + 1) oc) 26 rfl rfl (by kernel_rfl) (by kernel_rfl) (by kernel_rfl) (by kernel_rfl) (fun _ _ _ h => h) (Or.inl ⟨by rfl, by intro W hSw; go_simp⟩) hHeld ?_
          simp only [Act.put, List.setIfInBounds_toArray, List.set_cons_zero, List.set_cons_succ]
          refine takeA (i := 7) (v := .int .i64 j) 31 rfl rfl (by kernel_rfl) (by kernel_rfl) (by kernel_rfl) (by kernel_rfl) (fun _ _ _ h => h) (Or.inl ⟨by rfl, by intro W hSw; go_simp⟩) hHeld ?_
          simp only [Act.put, List.setIfInBounds_toArray, List.set_cons_zero, List.set_cons_succ]
          refine takeA (i := 3) (v := .int .i64 ((i + 1 : Nat) : Int)) 27 rfl rfl (by kernel_rfl) (by kernel_rfl) (by kernel_rfl) (by kernel_rfl) (fun _ _ _ h => h) (Or.inl ⟨by rfl, by intro W hSw; go_simp⟩) hHeld ?_
          simp only [Act.put, List.setIfInBounds_toArray, List.set_cons_zero, List.set_cons_succ]
          refine takeA (i := 4) (v := .int .i64 i) 28 rfl rfl (by kernel_rfl) (by kernel_rfl) (by kernel_rfl) (by kernel_rfl) (fun _ _ _ h => h) (Or.inl ⟨by rfl, by intro W hSw; have e1 := E1.out; go_simp⟩) hHeld ?_
          simp only [Act.put, List.setIfInBounds_toArray, List.set_cons_zero, List.set_cons_succ]
          refine takeA (i := 5) (v := .pointer (some ⟨ob, i, none⟩)) 29 rfl rfl (by kernel_rfl) (by kernel_rfl) (by kernel_rfl) (by kernel_rfl) (fun _ _ _ h => h) (Or.inl ⟨by rfl, by intro W hSw; go_simp⟩) hHeld ?_
          simp only [Act.put, List.setIfInBounds_toArray, List.set_cons_zero, List.set_cons_succ]
          refine takeA (i := 6) (v := .int .i64 (L i : Int)) 30 rfl rfl (by kernel_rfl) (by kernel_rfl) (by kernel_rfl) (by kernel_rfl) (fun _ _ _ h => h) (Or.inl ⟨by rfl, by intro W hSw; have c1 := HOB.out _ hSw; go_simp⟩) hHeld ?_
          simp only [Act.put, List.setIfInBounds_toArray, List.set_cons_zero, List.set_cons_succ]
          refine onlyL (i := 8) (by kernel_rfl) rfl (by rfl) (fun K hK => ?_)
          go_simp
          refine (KAj.out _ (BB.out.trans (hHeld.mono hszr))).mono ?_
          rintro e w8 ⟨rfl, hb8⟩
          have t8 : Below wq.heap.size wq w8 := hHeld.trans (hb8.mono hHeld.size)
          clear hb8 hHeld
          refine hK.out _ _ (fun _ => t8) (fun hHeld => ?_)
          have hHeld := hHeld (by decide)
          clear hK K
          try simp only [Act.put, List.setIfInBounds_toArray, List.set_cons_zero, List.set_cons_succ]
          refine takeA (i := 9) (v := .bool true) 33 rfl rfl (by kernel_rfl) (by kernel_rfl) (by kernel_rfl) (by kernel_rfl) (fun _ _ _ h => h) (Or.inl ⟨by rfl, by intro W hSw; go_simp⟩) hHeld ?_
          simp only [Act.put, List.setIfInBounds_toArray, List.set_cons_zero, List.set_cons_succ]
          refine takeA (i := 10) (v := .bool true) 34 rfl rfl (by kernel_rfl) (by kernel_rfl) (by kernel_rfl) (by kernel_rfl) (fun _ _ _ h => h) (Or.inl ⟨by rfl, by intro W hSw; go_simp⟩) hHeld ?_
          simp only [Act.put, List.setIfInBounds_toArray, List.set_cons_zero, List.set_cons_succ]
          refine takeA (i := 11) (v := .agg #[fv, bv, .int .i64 act]) 35 rfl rfl (by kernel_rfl) (by kernel_rfl) (by kernel_rfl) (by kernel_rfl) (fun _ _ _ h => h) (yieldsIf_load_mid (by rfl) 31 _ rfl w.heap.size 0 rfl [fv, bv, .int .i64 act] _ HRG.out HU rfl Tryz.sizeMd) hHeld ?_
          simp only [Act.put, List.setIfInBounds_toArray, List.set_cons_zero, List.set_cons_succ]
          refine takeA (i := 12) (v := .slice ta n tc) 36 rfl rfl (by kernel_rfl) (by kernel_rfl) (by kernel_rfl) (by kernel_rfl) (fun _ _ _ h => h) (Or.inl ⟨by rfl, by intro W hSw; go_simp⟩) hHeld ?_
          simp only [Act.put, List.setIfInBounds_toArray, List.set_cons_zero, List.set_cons_succ]
          refine takeA (i := 13) (v := .int .i64 j) 37 rfl rfl (by kernel_rfl) (by kernel_rfl) (by kernel_rfl) (by kernel_rfl) (fun _ _ _ h => h) (Or.inl ⟨by rfl, by intro W hSw; go_simp⟩) hHeld ?_
          simp only [Act.put, List.setIfInBounds_toArray, List.set_cons_zero, List.set_cons_succ]
          refine takeA (i := 15) (v := .int .i64 d) 39 rfl rfl (by kernel_rfl) (by kernel_rfl) (by kernel_rfl) (by kernel_rfl) (fun _ _ _ h => h) (Or.inl ⟨by rfl, by intro W hSw; go_simp⟩) hHeld ?_
          simp only [Act.put, List.setIfInBounds_toArray, List.set_cons_zero, List.set_cons_succ]
          refine takeA (i := 16) (v := .int .i64 d') 40 rfl rfl (by kernel_rfl) (by kernel_rfl) (by kernel_rfl) (by kernel_rfl) (fun _ _ _ h => h) (Or.inl ⟨by rfl, by intro W hSw; have e2 := E2.out; go_simp⟩) hHeld ?_
          simp only [Act.put, List.setIfInBounds_toArray, List.set_cons_zero, List.set_cons_succ]
          refine onlyL (i := 14) (by kernel_rfl) rfl (by rfl) (fun K hK => ?_)
          go_simp
          refine (KNj.out _ (BB.out.trans (t8.mono hszr))).mono ?_
          rintro e w9 ⟨rfl, hb9⟩
          have t9 : Below wq.heap.size wq w9 := t8.trans (hb9.mono t8.size)
          clear hb9 hHeld
          refine hK.out _ _ (fun _ => t9) (fun hHeld => ?_)
          have hHeld := hHeld (by decide)
          clear hK K
          try simp only [Act.put, List.setIfInBounds_toArray, List.set_cons_zero, List.set_cons_succ]
          refine takeA (i := 17) (v := .bool t) 41 rfl rfl (by kernel_rfl) (by kernel_rfl) (by kernel_rfl) (by kernel_rfl) (fun _ _ _ h => h) (Or.inl ⟨by rfl, by intro W hSw; have ht := HT.out; go_simp⟩) hHeld ?_
          simp only [Act.put, List.setIfInBounds_toArray, List.set_cons_zero, List.set_cons_succ]
          refine takeA (i := 18) (v := .bool t) 42 rfl rfl (by kernel_rfl) (by kernel_rfl) (by kernel_rfl) (by kernel_rfl) (fun _ _ _ h => h) (Or.inl ⟨by rfl, by intro W hSw; go_simp⟩) hHeld ?_
          simp only [Act.put, List.setIfInBounds_toArray, List.set_cons_zero, List.set_cons_succ]
          refine doneL (by kernel_rfl) ?_ _
          try simp only [List.getElem_toArray, List.getElem_cons_succ, List.getElem_cons_zero]
          have BS : Hid (Below wo.heap.size wo w9) := Lib.hid (BS.out.trans (t9.mono BS.out.size))
          have SR := Lib.hid (own_below' SR.out t9)
          have BW := Lib.hid (BW.out.trans (t9.mono hszr1))
          have hsz9 : w1.heap.size ≤ w9.heap.size := BW.out.size
          have HLB : Hid (∀ q, (Value.slice (some ⟨ob, 0, none⟩) (i + 1) oc).ownBlock = some q → w1.heap.size ≤ q) := Lib.hid (fun q hq => (SR.out.lt q hq).1)
          clear t8 t9 hHeld HRG HOB g0 HT
          cases t with
          | false =>
            have HNE : Hid (j ≠ L (i + 1)) := Lib.hid (fun h => by have := HEQ.out.2 h; cases this)
            clear HEQ
            go_wp2
            go_roundw
            case rel => exact ⟨j + 1, _, by have := HNE.out; omega, by go_num, rfl, SR, BS⟩
            case measure => simp [intOf]; omega
          | true =>
            have HJE : Hid (j = L (i + 1)) := Lib.hid (HEQ.out.1 rfl)
            clear HEQ
            go_wp2_with (at_builtin; refine wpList_pushL rfl (.tmp 43) (.tmp 45) 22 46 rfl rfl 3 (.int .i64 0) 8 Tryz.underlying22 Tryz.infoI rfl w1.heap.size (.int .i64 j) (.slice (some ⟨ob, 0, none⟩) (i + 1) oc) (i + 1) (ints ((List.range (i + 1)).map fun i => (L i : Int))) SR.out rfl w9.heap.size rfl rfl rfl (by unfold maxLen; omega) (by omega) hsz9 ?_; intro v6 w6 hown hg; have L6 := Lib.hid hown; have B6 : Hid (Below w1.heap.size w1 w6) := Lib.hid (BW.out.trans (hg.below hsz9 HLB.out)); clear hown hg)
            have e2 := E2.out
            go_wp2
            go_roundw
            case rel =>
              refine ⟨i + 1, _, by omega, ?_, rfl, Lib.hid ?_, B6⟩
              · rw [HKI.out]; have := HDD.out; rw [show (d : Int) - 1 = (d' : Int) by omega]
              · rw [HMi.out, ints_app, ← HJE.out]
                exact L6.out
            case measure => have := HDD.out; simp [intOf]; omega
end Go.Proofs.YthjfanhhindjlaaGreat
