/-
  spec.IgnoranceChain. No condition but the readings.
-/
import Derived.Test.YthjfanhhindjlaaGreatIcs
namespace Go.Proofs.YthjfanhhindjlaaGreat
open Go.RowKit Go.WideShapes
open Go Go.Deep
set_option linter.unusedSimpArgs false

theorem silent_false {m : Md} {xs : List Nd} (hok : evOk m xs = true) : silentR m xs = !(falseK m (evP m xs) m.actual.toNat).isSome := by
  have hm := (evOk_parts hok).1
  obtain ⟨p1, p2, -, -, -, -, p7, p8⟩ := mdOk_parts hm
  have hu : m.actual.toNat < m.facts.length := by omega
  have h : silentR m xs = true ↔ falseK m (evP m xs) m.actual.toNat = none := by
    rw [falseK_common hm hu]
    unfold silentR
    rw [hok, Bool.true_and, List.all_eq_true]
    constructor
    · intro h v hv
      exact h v (mem_lst.2 ⟨by have := wsh_in (fun _ _ => stepP_in) hu hv; omega, hv⟩)
    · intro h v hv
      exact h v (mem_lst.1 hv).2
  cases hf : falseK m (evP m xs) m.actual.toNat with
  | none => rw [h.2 hf]; rfl
  | some k =>
    cases hs : silentR m xs with
    | false => rfl
    | true => rw [h.1 hs] at hf; cases hf

set_option maxRecDepth 100000 in
set_option maxHeartbeats 32000000 in
theorem specIgn_any (lo hi : Nat) (v v2 : Value) (m : Md) (xs : List Nd) (w : World) (hr : Mv lo hi w v m) (hhi : hi ≤ w.heap.size) (hr2 : Ns w v2 xs) :
    Calls Tryz.prog 7 #[v, v2] w (IntsAns2 w (icR m xs) (icK m xs).isSome) := by
  have KO := Lib.hid (fun W (h : Below w.heap.size w W) => specEvOk_any lo hi v v2 m xs W (hr.keeps (Keeps.of_all h)) (hr2.below h (Nat.le_refl _)))
  have KC := Lib.hid (fun W (h : Below w.heap.size w W) => specCommon_any lo hi v v2 m xs W (hr.keeps (Keeps.of_all h)) (Nat.le_trans hhi h.size) (hr2.below h (Nat.le_refl _)))
  have KT := Lib.hid (fun (hok : evOk m xs = true) W (h : Below w.heap.size w W) => specTruth_any lo hi v v2 m xs W (hr.keeps (Keeps.of_all h)) (hr2.below h (Nat.le_refl _)) hok)
  have KR := Lib.hid (fun i (hm : mdOk m = true) (hi' : i < m.facts.length) W (h : Below w.heap.size w W) => specSpread_any lo hi v m i W (hr.keeps (Keeps.of_all h)) hm hi')
  have KB := Lib.hid (fun lo2 hi2 v2 p k act (hm : mdOk m = true) (hact : m.actual = ((act : Nat) : Int)) (hf : falseK m p act = some k) W (h : Below w.heap.size w W) h2 => specBack_any lo hi lo2 hi2 v v2 m p k act W (hr.keeps (Keeps.of_all h)) hm h2 hact hf)
  unfold IntsAns2
  obtain ⟨fv, bv, rfl, hf, hb⟩ := hr
  obtain ⟨a2, c2, rfl, -⟩ := hr2.parts
  clear hf hb hr2 hhi
  cases hok : evOk m xs with
  | false =>
    rw [hok] at KO
    have HK : Hid (icK m xs = none) := Lib.hid (by unfold icK; rw [hok]; rfl)
    have HR : Hid (icR m xs = []) := Lib.hid (by unfold icR; rw [HK.out])
    clear KT KC KR KB hok
    go_enter Tryz.func7, Tryz.ntmps7
    go_wp2_with fail
    refine (KO.out _ (by go_grown)).mono ?_
    rintro e w1 ⟨rfl, hb1⟩
    have B1 : Hid (Below w.heap.size w w1) := Lib.hid (Below.trans (by go_grown) (hb1.mono (by simp)))
    clear hb1
    go_wp2
    go_returns
    exact ⟨.slice none 0 0, by rw [HK.out]; rfl, by rw [HR.out]; exact Ro.of_own (World.ownsRow_nil _ _ _ _), B1.out⟩
  | true =>
    rw [hok] at KO
    have hm := (evOk_parts hok).1
    obtain ⟨p1, p2, -, -, -, -, p7, p8⟩ := mdOk_parts hm
    obtain ⟨u, hact⟩ := Int.eq_ofNat_of_zero_le p7
    have hu : u < m.facts.length := by omega
    have hsil := silent_false hok
    have HIK : Hid (icK m xs = falseK m (evP m xs) u) := Lib.hid (by unfold icK; rw [if_pos hok, hact, Int.toNat_natCast])
    rw [hact, Int.toNat_natCast] at hsil
    rw [hsil] at KC
    cases hfk : falseK m (evP m xs) u with
    | none =>
      rw [hfk] at KC HIK
      have HR : Hid (icR m xs = []) := Lib.hid (by unfold icR; rw [HIK.out])
      clear KT KR KB hok hfk hsil hm hact p7 p8
      go_enter Tryz.func7, Tryz.ntmps7
      go_wp2_with fail
      refine (KO.out _ (by go_grown)).mono ?_
      rintro e w1 ⟨rfl, hb1⟩
      have X1 := Lib.hid (Mcell.below (b := w.heap.size) (Mcell.new (fv := fv) (bv := bv) (n := m.actual) rfl) hb1)
      have B1 : Hid (Below w.heap.size w w1) := Lib.hid (Below.trans (by go_grown) (hb1.mono (by simp)))
      clear hb1
      obtain ⟨c0, c1, c2, c3, c4, c5⟩ := X1.out
      go_wp2_with fail
      clear c0 c1 c2 c3 c4 c5
      refine (KC.out _ B1.out).mono ?_
      rintro e w2 ⟨rfl, hb2⟩
      have B2 := Lib.hid (B1.out.trans (hb2.mono B1.out.size))
      clear hb2
      go_wp2
      go_returns
      exact ⟨.slice none 0 0, by rw [HIK.out]; rfl, by rw [HR.out]; exact Ro.of_own (World.ownsRow_nil _ _ _ _), B2.out⟩
    | some k =>
      rw [hfk] at KC HIK
      have HR : Hid (icR m xs = (List.range (k + 1)).map fun i => ((chainK m (evP m xs) k u).getD i 0 : Int)) := Lib.hid (by unfold icR; rw [HIK.out, hact, Int.toNat_natCast])
      have KT2 := Lib.hid (KT.out hok)
      have KR2 := Lib.hid (KR.out u hm hu)
      have KB2 := Lib.hid (fun lo2 hi2 v2 => KB.out lo2 hi2 v2 (evP m xs) k u hm hact hfk)
      clear KT KR KB
      rw [show truthR m xs = (List.range m.facts.length).map (evP m xs) from rfl] at KT2
      have HBF : Hid (bestJ m (evP m xs) u m.facts.length = (k : Int)) := Lib.hid (by rw [best_false hm hu]; unfold falseI; rw [hfk])
      have HBS : Hid (∀ j, bestJ m (evP m xs) u (j + 1) = if 0 ≤ (spreadR m u).getD j 0 ∧ evP m xs j = false ∧ (bestJ m (evP m xs) u j < 0 ∨ (spreadR m u).getD j 0 < bestJ m (evP m xs) u j) then (spreadR m u).getD j 0 else bestJ m (evP m xs) u j) := Lib.hid (fun _ => rfl)
      have HB0 : Hid (bestJ m (evP m xs) u 0 = -1) := Lib.hid rfl
      have HSL := Lib.hid (spread_len m u)
      rw [HR.out, HIK.out]
      unfold BoolsAns at KT2
      unfold IntsAns at KR2
      unfold IntsAns2 at KB2
      rw [hact] at KO KC KT2 KR2 KB2 ⊢
      generalize (List.range (k + 1)).map (fun i => ((chainK m (evP m xs) k u).getD i 0 : Int)) = CL at *
      generalize bestJ m (evP m xs) u = bj at *
      generalize evP m xs = p at *
      generalize hn : m.facts.length = n at *
      clear HR HIK hok hfk hsil hm hact p7 p8 hn
      go_enter Tryz.func7, Tryz.ntmps7
      go_wp2_with fail
      refine (KO.out _ (by go_grown)).mono ?_
      rintro e w1 ⟨rfl, hb1⟩
      have X1 := Lib.hid (Mcell.below (b := w.heap.size) (Mcell.new (fv := fv) (bv := bv) (n := (u : Int)) rfl) hb1)
      have B1 : Hid (Below w.heap.size w w1) := Lib.hid (Below.trans (by go_grown) (hb1.mono (by simp)))
      clear hb1
      obtain ⟨c0, c1, c2, c3, c4, c5⟩ := X1.out
      go_wp2_with fail
      clear c0 c1 c2 c3 c4 c5
      refine (KC.out _ B1.out).mono ?_
      rintro e w2 ⟨rfl, hb2⟩
      have X2 := Lib.hid (X1.out.below hb2)
      have B2 := Lib.hid (B1.out.trans (hb2.mono B1.out.size))
      clear hb2 X1 B1
      obtain ⟨c0, c1, c2, c3, c4, c5⟩ := X2.out
      go_wp2_with fail
      clear c0 c1 c2 c3 c4 c5
      refine (KT2.out _ B2.out).mono ?_
      rintro e w3 ⟨v3, rfl, ho3, hb3⟩
      have X3 := Lib.hid (X2.out.below hb3)
      have B3 := Lib.hid (B2.out.trans (hb3.mono B2.out.size))
      have O3 := Lib.hid ho3.read
      obtain ⟨tb, t0, tc, rfl, tq, tr, tk⟩ := ho3.read.kept (by rw [List.length_map, List.length_range]; omega)
      rw [List.length_map, List.length_range] at tq tk O3 ⊢
      have HTK : Hid (∀ W, Below w3.heap.size w3 W → ∀ j, j < n → W.cell? ⟨tb, t0 + j, none⟩ = some (.bool (p j))) := Lib.hid (fun W h j hj => by rw [tk W h j hj, getD_rangeMap' hj])
      unfold maxLen at tr
      clear hb3 ho3 X2 B2 tk
      obtain ⟨c0, c1, c2, c3, c4, c5⟩ := X3.out
      go_wp2_with fail
      clear c0 c1 c2 c3 c4 c5
      refine (KR2.out _ B3.out).mono ?_
      rintro e w4 ⟨v4, rfl, ho4, hb4⟩
      have X4 := Lib.hid (X3.out.below hb4)
      have B4 := Lib.hid (B3.out.trans (hb4.mono B3.out.size))
      obtain ⟨sb, so, sc, rfl, sq, sr, sk⟩ := ho4.read.kept (by rw [HSL.out]; omega)
      rw [HSL.out] at sq sk ⊢
      unfold maxLen at sr
      have HSP := Lib.hid sk
      have sz4 : w.heap.size ≤ w4.heap.size := B4.out.size
      have sz34 : w3.heap.size ≤ w4.heap.size := hb4.size
      have HTR : Hid (∀ W, Below w4.heap.size w4 W → ∀ j, j < n → W.cell? ⟨tb, t0 + j, none⟩ = some (.bool (p j))) := Lib.hid (fun W h j hj => HTK.out W (hb4.trans (h.mono hb4.size)) j hj)
      have O4 := Lib.hid (O3.out.keeps (Keeps.of_all hb4))
      clear hb4 ho4 sk HTK X3 B3 O3
      go_wp2
      go_loopw [7, 27] (fun bv iv wr => ∃ j : Nat, j ≤ n ∧ iv = .int .i64 j ∧ bv = .int .i64 (bj j) ∧ Hid (Below w4.heap.size w4 wr)) (fun _ iv _ => n - (intOf iv).toNat)
      case atStart => exact ⟨0, Nat.zero_le _, rfl, by rw [HB0.out], Lib.hid (Below.refl _ _)⟩
      case round =>
        obtain ⟨j, hj, rfl, rfl, BR⟩ := hrel
        by_cases hlt : j < n
        · have j0 : (0 : Int) ≤ (j : Int) := Int.natCast_nonneg _
          have jn : (j : Int) < (n : Int) := by omega
          have cs := HSP.out _ BR.out j hlt
          have ct := HTR.out _ BR.out j hlt
          have HBj := Lib.hid (HBS.out j)
          obtain ⟨s, hs⟩ : ∃ s, s = (spreadR m u).getD j 0 := ⟨_, rfl⟩
          rw [← hs] at cs HBj
          clear hs
          obtain ⟨b, hb⟩ : ∃ b, b = bj j := ⟨_, rfl⟩
          rw [← hb] at HBj ⊢
          clear hb
          obtain ⟨t, ht⟩ : ∃ t, t = p j := ⟨_, rfl⟩
          rw [← ht] at ct HBj
          clear ht
          rcases Int.lt_or_le s 0 with hs0 | hs0
          · have HQ : Hid (bj (j + 1) = b) := Lib.hid (by rw [HBj.out, if_neg (fun h => by omega)])
            have g1 : decide (0 ≤ s) = false := decide_eq_false (by omega)
            clear HBj
            go_wp2
            clear cs ct g1
            go_roundw
            case rel => exact ⟨j + 1, by omega, by go_num, by rw [HQ.out], BR⟩
            case measure => simp [intOf]; omega
          · have g1 : decide (0 ≤ s) = true := decide_eq_true hs0
            cases t with
            | true =>
              have HQ : Hid (bj (j + 1) = b) := Lib.hid (by rw [HBj.out, if_neg (fun h => by cases h.2.1)])
              clear HBj
              go_wp2
              clear cs ct g1
              go_roundw
              case rel => exact ⟨j + 1, by omega, by go_num, by rw [HQ.out], BR⟩
              case measure => simp [intOf]; omega
            | false =>
              rcases Int.lt_or_le b 0 with hb0 | hb0
              · have HQ : Hid (bj (j + 1) = s) := Lib.hid (by rw [HBj.out, if_pos ⟨hs0, rfl, .inl hb0⟩])
                have g2 : decide (b < 0) = true := decide_eq_true hb0
                clear HBj
                go_wp2
                clear cs ct g1 g2
                go_roundw
                case rel => exact ⟨j + 1, by omega, by go_num, by rw [HQ.out], BR⟩
                case measure => simp [intOf]; omega
              · have g2 : decide (b < 0) = false := decide_eq_false (by omega)
                rcases Int.lt_or_le s b with hsb | hsb
                · have HQ : Hid (bj (j + 1) = s) := Lib.hid (by rw [HBj.out, if_pos ⟨hs0, rfl, .inr hsb⟩])
                  have g3 : decide (s < b) = true := decide_eq_true hsb
                  clear HBj
                  go_wp2
                  clear cs ct g1 g2 g3
                  go_roundw
                  case rel => exact ⟨j + 1, by omega, by go_num, by rw [HQ.out], BR⟩
                  case measure => simp [intOf]; omega
                · have HQ : Hid (bj (j + 1) = b) := Lib.hid (by rw [HBj.out, if_neg (fun h => by rcases h.2.2 with h | h <;> omega)])
                  have g3 : decide (s < b) = false := decide_eq_false (by omega)
                  clear HBj
                  go_wp2
                  clear cs ct g1 g2 g3
                  go_roundw
                  case rel => exact ⟨j + 1, by omega, by go_num, by rw [HQ.out], BR⟩
                  case measure => simp [intOf]; omega
        · obtain rfl : j = n := by omega
          have HQ : Hid (bj j = (k : Int)) := HBF
          rw [HQ.out]
          have X5 : Hid (Mcell wr w.heap.size fv bv (u : Int)) := Lib.hid (X4.out.below BR.out)
          have B5 := Lib.hid (B4.out.trans (BR.out.mono sz4))
          have O5 := Lib.hid (O4.out.keeps (Keeps.of_all BR.out))
          have sz5 : w.heap.size ≤ wr.heap.size := B5.out.size
          obtain ⟨c0, c1, c2, c3, c4, c5⟩ := X5.out
          go_wp2_with fail
          clear c0 c1 c2 c3 c4 c5
          refine (KB2.out _ _ _ _ B5.out O5.out).mono ?_
          rintro e w6 ⟨v6, rfl, ho6, hb6⟩
          have O6 := Lib.hid ho6
          have B6 := Lib.hid (B5.out.trans (hb6.mono sz5))
          clear ho6 hb6
          go_wp2
          go_returns
          exact ⟨v6, rfl, O6.out.wide sz5 (Nat.le_refl _), B6.out⟩
end Go.Proofs.YthjfanhhindjlaaGreat
