/-
  Contracts of impl.DealOk, Deal.allCards, countCards, Deal.handsOf, HandsOf. Conditions of all but the first and the last: a valid deal (for countCards a number from 0 to 127).
-/
import Derived.Test.YteahjnobnbafiaaDoorCdl
import Derived.Test.YteahjnobnbafiaaDoorCpm
namespace Go.Proofs.YteahjnobnbafiaaDoor
open Go.RowKit Go.WideShapes
open Go Go.Deep
set_option linter.unusedSimpArgs false

set_option maxRecDepth 100000 in
set_option maxHeartbeats 4000000 in
theorem implDeal_any (d : Dl) (w : World) : Calls Tryd.prog 15 #[d.v] w fun e w' => e = .returned (.bool (dealR d)) ∧ Below w.heap.size w w' := by
  obtain ⟨a, b, c⟩ := d
  have HK : Hid (dealR ⟨a, b, c⟩ = (decide (1 ≤ a ∧ a ≤ 7) && (decide (1 ≤ b ∧ b ≤ 7) && (decide (0 ≤ c ∧ c ≤ 7) && decide (a + b + c ≤ 7))))) := Lib.hid rfl
  generalize dealR ⟨a, b, c⟩ = R at *
  unfold Dl.v
  by_cases h0 : 1 ≤ a
  · by_cases h1 : a ≤ 7
    · by_cases h2 : 1 ≤ b
      · by_cases h3 : b ≤ 7
        · by_cases h4 : 0 ≤ c
          · by_cases h5 : c ≤ 7
            · have w1 : IntKind.i64.wrap (a + b) = a + b := IntWalk.i64_in _ (by omega)
              have w2 : IntKind.i64.wrap (a + b + c) = a + b + c := IntWalk.i64_in _ (by omega)
              by_cases h6 : a + b + c ≤ 7
              · have HR : Hid (R = true) := Lib.hid (by rw [HK.out]; simp; try omega)
                clear HK
                go_enter Tryd.func15, Tryd.ntmps15
                go_wp2
                go_ret
                exact ⟨by rw [HR.out]; rfl, by go_grown⟩
              · have HR : Hid (R = false) := Lib.hid (by rw [HK.out]; simp; try omega)
                clear HK
                go_enter Tryd.func15, Tryd.ntmps15
                go_wp2
                go_ret
                exact ⟨by rw [HR.out]; rfl, by go_grown⟩
            · have HR : Hid (R = false) := Lib.hid (by rw [HK.out]; simp; try omega)
              clear HK
              go_enter Tryd.func15, Tryd.ntmps15
              go_wp2
              go_ret
              exact ⟨by rw [HR.out]; rfl, by go_grown⟩
          · have HR : Hid (R = false) := Lib.hid (by rw [HK.out]; simp; try omega)
            clear HK
            go_enter Tryd.func15, Tryd.ntmps15
            go_wp2
            go_ret
            exact ⟨by rw [HR.out]; rfl, by go_grown⟩
        · have HR : Hid (R = false) := Lib.hid (by rw [HK.out]; simp; try omega)
          clear HK
          go_enter Tryd.func15, Tryd.ntmps15
          go_wp2
          go_ret
          exact ⟨by rw [HR.out]; rfl, by go_grown⟩
      · have HR : Hid (R = false) := Lib.hid (by rw [HK.out]; simp; try omega)
        clear HK
        go_enter Tryd.func15, Tryd.ntmps15
        go_wp2
        go_ret
        exact ⟨by rw [HR.out]; rfl, by go_grown⟩
    · have HR : Hid (R = false) := Lib.hid (by rw [HK.out]; simp; try omega)
      clear HK
      go_enter Tryd.func15, Tryd.ntmps15
      go_wp2
      go_ret
      exact ⟨by rw [HR.out]; rfl, by go_grown⟩
  · have HR : Hid (R = false) := Lib.hid (by rw [HK.out]; simp; try omega)
    clear HK
    go_enter Tryd.func15, Tryd.ntmps15
    go_wp2
    go_ret
    exact ⟨by rw [HR.out]; rfl, by go_grown⟩

set_option maxRecDepth 100000 in
set_option maxHeartbeats 2000000 in
theorem allCards_any (d : Dl) (hd : dealR d = true) (w : World) : Calls Tryd.prog 42 #[d.v] w fun e w' => e = .returned (.int .i64 ((2 ^ d.n - 1 : Nat) : Int)) ∧ Below w.heap.size w w' := by
  obtain ⟨a1, a7, b1, b7, c1, c7, hs, hn, hsn⟩ := deal_facts hd
  have hT := pow_le hn
  have hT0 : 0 < 2 ^ d.n := Nat.two_pow_pos _
  have hsh : (2 : Int) ^ d.n = ((2 ^ d.n : Nat) : Int) := by simp
  clear hd
  unfold Dl.v
  generalize 2 ^ d.n = T at *
  generalize d.n = n at *
  have HR : Hid (((T - 1 : Nat) : Int) = (T : Int) - 1) := Lib.hid (by omega)
  rw [HR.out]
  have w1 : IntKind.i64.wrap (d.a + d.b) = d.a + d.b := IntWalk.i64_in _ (by omega)
  have w2 : IntKind.i64.wrap (d.a + d.b + d.c) = (n : Int) := by rw [hsn]; exact IntWalk.i64_in _ (by omega)
  have hni0 : (0 : Int) ≤ (n : Int) := by omega
  have hni7 : (n : Int) ≤ 7 := by omega
  have hTi : (T : Int) ≤ 128 := by omega
  have hTj : (0 : Int) < (T : Int) := by omega
  generalize d.a = a at *
  generalize d.b = b at *
  generalize d.c = c at *
  clear hsn hs hT0 hT HR
  go_enter Tryd.func42, Tryd.ntmps42
  go_wp2
  go_ret
  exact ⟨rfl, by go_grown⟩
set_option maxRecDepth 100000 in
set_option maxHeartbeats 2000000 in
theorem bits64_any (h : Nat) (hh : h < 128) (w : World) : Calls Tryd.prog 53 #[.int .u64 h] w fun e w' => e = .returned (.int .i64 (pop h)) ∧ w = w' := by
  have h0 : (0 : Int) ≤ (h : Int) := Int.natCast_nonneg _
  have h7 : (h : Int) < 128 := by omega
  go_enter Tryd.func53, Tryd.ntmps53
  go_wp2
  go_ret
  refine ⟨congrArg (fun z => Ending.returned (Value.int IntKind.i64 z)) ?_, rfl⟩
  clear h0 h7
  revert h
  decide +kernel
set_option maxRecDepth 100000 in
set_option maxHeartbeats 2000000 in
theorem bitsI_any (h : Nat) (hh : h < 128) (w : World) : Calls Tryd.prog 50 #[.int .u64 h] w fun e w' => e = .returned (.int .i64 (pop h)) ∧ w = w' := by
  have KO := Lib.hid (fun W => bits64_any h hh W)
  have h7 : (h : Int) < 128 := by omega
  generalize pop h = R at *
  go_enter Tryd.func50, Tryd.ntmps50
  go_wp2_with fail
  refine (KO.out _).mono ?_
  rintro e w' ⟨rfl, rfl⟩
  go_wp2
  go_ret
  exact ⟨rfl, rfl⟩
set_option maxRecDepth 100000 in
set_option maxHeartbeats 2000000 in
theorem cards_any (h : Nat) (hh : h < 128) (w : World) : Calls Tryd.prog 43 #[.int .i64 h] w fun e w' => e = .returned (.int .i64 (pop h)) ∧ w = w' := by
  have KO := Lib.hid (fun W => bitsI_any h hh W)
  have h7 : (h : Int) < 128 := by omega
  have h0 : (0 : Int) ≤ (h : Int) := by omega
  generalize pop h = R at *
  go_enter Tryd.func43, Tryd.ntmps43
  go_wp2_with fail
  refine (KO.out _).mono ?_
  rintro e w' ⟨rfl, rfl⟩
  go_wp2
  go_ret
  exact ⟨rfl, rfl⟩
set_option maxRecDepth 100000 in
set_option maxHeartbeats 4000000 in
theorem handsI_any (d : Dl) (hd : dealR d = true) (k : Nat) (w : World) : Calls Tryd.prog 30 #[d.v, .int .i64 k] w (IntsAns w (handsN d.n k)) := by
  obtain ⟨a1, a7, b1, b7, c1, c7, hs, hn, hsn⟩ := deal_facts hd
  have HR : Hid (handsN d.n k = handsTo k (2 ^ d.n)) := Lib.hid rfl
  have hT := pow_le hn
  have hT0 : 0 < 2 ^ d.n := Nat.two_pow_pos _
  have HLN := Lib.hid (handsTo_len k)
  have KC := Lib.hid (fun h hh W => cards_any h hh W)
  have KA := Lib.hid (fun W => allCards_any d hd W)
  unfold Dl.v at *
  generalize handsN d.n k = R at *
  generalize 2 ^ d.n = T at *
  clear hsn hs hn hd a1 a7 b1 b7 c1 c7
  generalize d.a = a at *
  generalize d.b = b at *
  generalize d.c = c at *
  obtain ⟨M, rfl⟩ : ∃ M, T = M + 1 := ⟨T - 1, by omega⟩
  have hM : (M : Int) < 128 := by omega
  have hM0 : (0 : Int) ≤ (M : Int) := by omega
  rw [Nat.add_sub_cancel] at KA
  clear hT0
  have hX : Cm (w.alloc (.cells #[.int .i64 a, .int .i64 b, .int .i64 c] 26)) w.heap.size 26 [.int .i64 a, .int .i64 b, .int .i64 c] := Cm.new (cs := [.int .i64 a, .int .i64 b, .int .i64 c]) rfl
  have hb1 : Below w.heap.size w (w.alloc (.cells #[.int .i64 a, .int .i64 b, .int .i64 c] 26)) := (Below.refl _ _).alloc (Nat.le_refl _) _
  go_enter Tryd.func30, Tryd.ntmps30
  go_wp2_with fail
  generalize w.alloc (.cells #[.int .i64 a, .int .i64 b, .int .i64 c] 26) = w1 at *
  refine (KA.out _).mono ?_
  rintro e w2 ⟨rfl, hb2⟩
  have B0 := Lib.hid (hb1.trans (hb2.mono hb1.size))
  clear hb2 hX hb1
  go_wp2
  go_loopw [5, 10] (fun lv iv wr => ∃ (ix : Nat) (lv' : Value), ix ≤ M + 1 ∧ iv = .int .i64 ix ∧ lv' = lv ∧ Hid (wr.ownsRow w.heap.size 3 1 lv' (handsTo k ix).length (ints (handsTo k ix))) ∧ Hid (Below w.heap.size w wr)) (fun _ iv _ => M + 1 - (intOf iv).toNat)
  case atStart => exact ⟨0, _, Nat.zero_le _, rfl, rfl, Lib.hid (World.ownsRow_nil _ _ _ _), B0⟩
  case round =>
    clear B0
    obtain ⟨ix, lv, hix, rfl, rfl, HO, HB⟩ := hrel
    have hhi : (0 : Int) ≤ (ix : Int) := Int.natCast_nonneg _
    by_cases hlt : ix < M + 1
    · have hlti : (ix : Int) < (M : Int) + 1 := by omega
      have HS : Hid (handsTo k (ix + 1) = handsTo k ix ++ (if pop ix = k then [(ix : Int)] else [])) := Lib.hid rfl
      have HLb : Hid (∀ q, lv.ownBlock = some q → w.heap.size ≤ q) := Lib.hid (fun q hq => (HO.out.lt q hq).1)
      have HLe := Lib.hid (HLN.out ix)
      have hsz := HB.out.size
      go_wp2_with fail
      refine (KC.out ix (by omega) _).mono ?_
      rintro e w2 ⟨rfl, rfl⟩
      by_cases hp : pop ix = k
      · have HJ : Hid (handsTo k (ix + 1) = handsTo k ix ++ [(ix : Int)]) := Lib.hid (by rw [HS.out, if_pos hp])
        rw [hp]
        clear HS hp
        have hll : (handsTo k ix).length ≤ 128 := by have := HLe.out; omega
        go_wp2_with (at_builtin; refine wpList_pushL rfl (.tmp 17) (.tmp 19) 28 20 rfl rfl 3 (.int .i64 0) 8 Tryd.underlying28 Tryd.infoI rfl w.heap.size (.int .i64 ix) lv (handsTo k ix).length (ints (handsTo k ix)) HO.out rfl wr.heap.size rfl rfl rfl (by unfold maxLen; omega) (by omega) hsz ?_; intro v6 w6 hown hg; have L6 := Lib.hid hown; have B6 : Hid (Below w.heap.size w w6) := Lib.hid (HB.out.trans (hg.below hsz HLb.out)); clear hown hg)
        go_roundw
        case rel => exact ⟨ix + 1, _, by omega, by go_num, rfl, Lib.hid (by rw [HJ.out, ints_snoc, List.length_append]; exact L6.out), B6⟩
        case measure => simp [intOf] <;> omega
      · have HJ : Hid (handsTo k (ix + 1) = handsTo k ix) := Lib.hid (by rw [HS.out, if_neg hp, List.append_nil])
        have hpb : ((pop ix : Int) == (k : Int)) = false := beq_eq_false_iff_ne.2 (by omega)
        clear HS
        generalize pop ix = ph at *
        go_wp2
        go_roundw
        case rel => exact ⟨ix + 1, _, by omega, by go_num, rfl, Lib.hid (by rw [HJ.out]; exact HO.out), HB⟩
        case measure => simp [intOf] <;> omega
    · obtain ⟨ix', hix'⟩ : ∃ y, y = ix := ⟨_, rfl⟩
      subst hix'
      have HN : Hid (R = handsTo k ix') := Lib.hid (by rw [HR.out, show M + 1 = ix' by omega])
      have hnl : ¬ (ix' : Int) < (M : Int) + 1 := by omega
      go_wp2
      go_ret
      exact ⟨_, rfl, by rw [HN.out]; exact Ro.of_own HO.out, HB.out⟩
set_option maxHeartbeats 2000000 in
theorem implHands_any (d : Dl) (w : World) : Calls Tryd.prog 14 #[d.v] w (IntsAns w (handsR d)) := by
  have KD := Lib.hid (fun W => implDeal_any d W)
  have HR : Hid (handsR d = if dealR d then handsN d.n d.a.toNat else []) := Lib.hid rfl
  have HB : Hid (dealR d = true → 1 ≤ d.a ∧ d.a ≤ 7 ∧ 1 ≤ d.b ∧ d.b ≤ 7 ∧ 0 ≤ d.c ∧ d.c ≤ 7 ∧ d.a + d.b + d.c ≤ 7 ∧ d.n ≤ 7 ∧ d.a + d.b + d.c = (d.n : Int)) := Lib.hid (fun h => by
    unfold dealR at h
    simp only [Bool.and_eq_true, decide_eq_true_eq] at h
    unfold Dl.n
    omega)
  have KH := Lib.hid (fun hd k W => handsI_any d hd k W)
  unfold Dl.v at *
  generalize handsR d = R at *
  generalize dealR d = ok at *
  generalize d.n = n at *
  obtain ⟨a, b, c⟩ := d
  simp only at *
  have hX : Cm (w.alloc (.cells #[.int .i64 a, .int .i64 b, .int .i64 c] 26)) w.heap.size 26 [.int .i64 a, .int .i64 b, .int .i64 c] := Cm.new (cs := [.int .i64 a, .int .i64 b, .int .i64 c]) rfl
  have hb1 : Below w.heap.size w (w.alloc (.cells #[.int .i64 a, .int .i64 b, .int .i64 c] 26)) := (Below.refl _ _).alloc (Nat.le_refl _) _
  go_enter Tryd.func14, Tryd.ntmps14
  go_wp2_with fail
  generalize w.alloc (.cells #[.int .i64 a, .int .i64 b, .int .i64 c] 26) = w1 at *
  have B1 := Lib.hid hb1
  have X1 := Lib.hid hX
  clear hb1 hX
  refine (KD.out _).mono ?_
  rintro e w2 ⟨rfl, hb2⟩
  have B2 := Lib.hid (B1.out.trans (hb2.mono B1.out.size))
  have hX2 := X1.out.all hb2
  have c0 := hX2.cell 0
  have c1 := hX2.cell 1
  have c2 := hX2.cell 2
  simp only [List.getElem?_cons_zero, List.getElem?_cons_succ] at c0 c1 c2
  clear hb2 hX2 X1
  cases ok with
  | false =>
    have HN : Hid (R = []) := Lib.hid HR.out
    clear HR
    go_wp2
    go_ret
    rw [HN.out]
    exact ints_none _ _ B2.out
  | true =>
    obtain ⟨a1, a7, b1, b7, c1', c7, hs, hn, hsn⟩ := HB.out rfl
    obtain ⟨k, rfl⟩ := Int.eq_ofNat_of_zero_le (show 0 ≤ a by omega)
    have HN : Hid (R = handsN n k) := Lib.hid (by rw [HR.out, if_pos rfl, Int.toNat_natCast])
    clear HR HB
    go_wp2_with fail
    refine (KH.out trivial k _).mono ?_
    rintro e w3 h3
    rw [← HN.out] at h3
    obtain ⟨v3, rfl, ho3, hb3⟩ := h3.from B2.out
    have O3 := Lib.hid ho3
    have B3 := Lib.hid hb3
    clear ho3 hb3
    go_wp2
    go_ret
    exact ⟨_, rfl, O3.out, B3.out⟩

end Go.Proofs.YteahjnobnbafiaaDoor
