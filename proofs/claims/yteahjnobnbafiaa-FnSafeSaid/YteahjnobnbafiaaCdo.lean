/-
  Contracts of spec.l13Hidden, HidesAll, IsSafe. Condition of the first: hands below 128.
-/
import Derived.Test.YteahjnobnbafiaaCdl
namespace Go.Proofs.Yteahjnobnbafiaa
open Go.RowKit Go.WideShapes
open Go Go.Deep
set_option linter.unusedSimpArgs false

theorem fit_step {third : Int} {l : List Int} {k : Nat} (hk : k < l.length) : fitL third (l.take (k + 1)) = fitL third (l.take k) ++ (if andI (l.getD k 0) third = 0 then [l.getD k 0] else []) := by
  have e : l.take (k + 1) = l.take k ++ [l.getD k 0] := by
    rw [List.take_add_one, List.getElem?_eq_getElem hk, List.getD_eq_getElem?_getD, List.getElem?_eq_getElem hk]; rfl
  unfold fitL
  rw [e, List.filter_append]
  clear e
  generalize l.getD k 0 = y
  by_cases h : andI y third = 0
  · rw [if_pos h]; simp [h]
  · rw [if_neg h]; simp [h]
/-- what the loop has: the cards in common, those in some hand, whether there was one -/
def hidAt (third : Int) (l : List Int) (all k : Nat) (c s : Nat) (m : Bool) : Prop := c = commonL third (l.take k) all ∧ s = someL third (l.take k) ∧ m = !(fitL third (l.take k)).isEmpty
theorem hid_0 (third : Int) (l : List Int) (all : Nat) : hidAt third l all 0 all 0 false := ⟨rfl, rfl, rfl⟩
theorem hid_yes {third : Int} {l : List Int} {all k c s : Nat} {m : Bool} {X : Nat} (hk : k < l.length) (hX : l.getD k 0 = (X : Int)) (h0 : andI (X : Int) third = 0) (h : hidAt third l all k c s m) : hidAt third l all (k + 1) (c &&& X) (s ||| X) true := by
  obtain ⟨rfl, rfl, rfl⟩ := h
  have e := fit_step (third := third) hk
  rw [hX, if_pos h0] at e
  unfold hidAt commonL someL
  rw [e, List.foldl_append, List.foldl_append]
  refine ⟨?_, ?_, ?_⟩
  · simp
  · simp
  · cases fitL third (l.take k) <;> rfl
theorem hid_no {third : Int} {l : List Int} {all k c s : Nat} {m : Bool} {X : Nat} (hk : k < l.length) (hX : l.getD k 0 = (X : Int)) (h0 : andI (X : Int) third ≠ 0) (h : hidAt third l all k c s m) : hidAt third l all (k + 1) c s m := by
  obtain ⟨rfl, rfl, rfl⟩ := h
  have e := fit_step (third := third) hk
  rw [hX, if_neg h0, List.append_nil] at e
  unfold hidAt commonL someL
  rw [e]
  exact ⟨rfl, rfl, rfl⟩
theorem hid_end {third : Int} {l : List Int} {all k c s : Nat} {m : Bool} {T : Nat} (hT : third = (T : Int)) (hk : ¬ k < l.length) (h : hidAt third l all k c s m) : hiddenR l all third = (!m || (c == 0 && (s ||| T) == all)) := by
  obtain ⟨rfl, rfl, rfl⟩ := h
  rw [List.take_of_length_le (by omega)]
  unfold hiddenR
  rw [hT, Int.toNat_natCast]
  simp

set_option maxRecDepth 100000 in
set_option maxHeartbeats 8000000 in
theorem specHidden_any (lo hi : Nat) (v : Value) (l : List Int) (all T : Nat) (w : World) (hr : Iv lo hi w v l) (hN : ∀ k, k < l.length → ∃ X : Nat, l.getD k 0 = (X : Int) ∧ X < 128) (ha : all < 128) (hT : T < 128) :
    Calls Try.prog 40 #[v, .int .i64 all, .int .i64 T] w fun e w' => e = .returned (.bool (hiddenR l all (T : Int))) ∧ w = w' := by
  obtain ⟨a, cap, rfl, h1, h2, h3⟩ := hr.parts
  have KEY := Lib.hid h3
  unfold maxLen at h2
  have HN := Lib.hid hN
  have HY := Lib.hid (fun k c s m X hk hX h0 h => hid_yes (third := (T : Int)) (l := l) (all := all) (k := k) (c := c) (s := s) (m := m) (X := X) hk hX h0 h)
  have HNo := Lib.hid (fun k c s m X hk hX h0 h => hid_no (third := (T : Int)) (l := l) (all := all) (k := k) (c := c) (s := s) (m := m) (X := X) hk hX h0 h)
  have HE := Lib.hid (fun k c s m hk h => hid_end (third := (T : Int)) (l := l) (all := all) (k := k) (c := c) (s := s) (m := m) rfl hk h)
  have H0 := Lib.hid (hid_0 (T : Int) l all)
  clear hr h3 hN
  generalize hiddenR l all (T : Int) = R at *
  go_enter Try.func40, Try.ntmps40
  go_wp2
  go_loop [7, 8, 9, 15] (fun cv sv mv iv => ∃ (k c s : Nat) (m : Bool), k ≤ l.length ∧ iv = .int .i64 k ∧ cv = .int .i64 c ∧ sv = .int .i64 s ∧ mv = .bool m ∧ c < 128 ∧ s < 128 ∧ Hid (hidAt (T : Int) l all k c s m)) (fun _ _ _ iv => l.length - (intOf iv).toNat)
  case atStart => exact ⟨0, all, 0, false, Nat.zero_le _, rfl, rfl, rfl, rfl, ha, by decide, H0⟩
  case round =>
    clear H0
    obtain ⟨k, c, s, m, hk, rfl, rfl, rfl, rfl, hc, hs, HH⟩ := hrel
    have hki0 : (0 : Int) ≤ (k : Int) := Int.natCast_nonneg _
    by_cases hlt : k < l.length
    · have hki1 : (k : Int) < (l.length : Int) := by omega
      obtain ⟨b, o, rfl, -, -, hb, q0⟩ := KEY.out k hlt
      obtain ⟨X, hX, hX7⟩ := HN.out k hlt
      have HYk := Lib.hid (fun h0 => HY.out k c s m X hlt hX h0 HH.out)
      have HNk := Lib.hid (fun h0 => HNo.out k c s m X hlt hX h0 HH.out)
      rw [hX] at q0
      have e : andI (X : Int) (T : Int) = X &&& T := by unfold andI; rw [Int.toNat_natCast, Int.toNat_natCast]
      rw [e] at HYk HNk
      have hand : bits .and .i64 (X : Int) (T : Int) = ((X &&& T : Nat) : Int) := bits_and_nat X T (by omega) (by omega)
      have hcand : bits .and .i64 (c : Int) (X : Int) = ((c &&& X : Nat) : Int) := bits_and_nat c X (by omega) (by omega)
      have hsor : bits .or .i64 (s : Int) (X : Int) = ((s ||| X : Nat) : Int) := bits_or_nat s X (by omega) (by omega)
      have hc2 : c &&& X < 128 := Nat.lt_of_le_of_lt Nat.and_le_left hc
      have hs2 : s ||| X < 128 := Nat.or_lt_two_pow (n := 7) hs hX7
      clear hX e HH
      generalize X &&& T = Z at *
      generalize c &&& X = c' at *
      generalize s ||| X = s' at *
      by_cases hz : Z = 0
      · have HR := Lib.hid (HYk.out hz)
        rw [hz] at hand
        clear HYk HNk hz
        go_wp2
        go_round
        case rel => exact ⟨k + 1, c', s', true, by omega, by go_num, rfl, rfl, rfl, hc2, hs2, HR⟩
        case measure => simp [intOf] <;> omega
      · have HR := Lib.hid (HNk.out hz)
        have hzb : ((Z : Int) == 0) = false := beq_eq_false_iff_ne.2 (by omega)
        clear HYk HNk hz
        go_wp2
        go_round
        case rel => exact ⟨k + 1, c, s, m, by omega, by go_num, rfl, rfl, rfl, hc, hs, HR⟩
        case measure => simp [intOf] <;> omega
    · have HF := Lib.hid (HE.out k c s m hlt HH.out)
      have hnl : ¬ (k : Int) < (l.length : Int) := by omega
      have hsor : bits .or .i64 (s : Int) (T : Int) = ((s ||| T : Nat) : Int) := bits_or_nat s T (by omega) (by omega)
      clear HH
      generalize s ||| T = u at *
      cases m with
      | false =>
        have HF2 : Hid (R = true) := Lib.hid (by rw [HF.out]; rfl)
        clear HF
        go_wp2
        go_ret
        exact ⟨by rw [HF2.out]; rfl, rfl⟩
      | true =>
        by_cases hc0 : c = 0
        · by_cases hu : u = all
          · have HF2 : Hid (R = true) := Lib.hid (by rw [HF.out, hc0, hu]; simp)
            subst hc0 hu
            clear HF
            go_wp2
            go_ret
            exact ⟨by rw [HF2.out]; rfl, rfl⟩
          · have HF2 : Hid (R = false) := Lib.hid (by rw [HF.out, beq_eq_false_iff_ne.2 hu]; simp)
            have hub : ((u : Int) == (all : Int)) = false := beq_eq_false_iff_ne.2 (by omega)
            subst hc0
            clear HF hu
            go_wp2
            go_ret
            exact ⟨by rw [HF2.out]; rfl, rfl⟩
        · have HF2 : Hid (R = false) := Lib.hid (by rw [HF.out, beq_eq_false_iff_ne.2 hc0]; simp)
          have hcb : ((c : Int) == 0) = false := beq_eq_false_iff_ne.2 (by omega)
          clear HF hc0
          go_wp2
          go_ret
          exact ⟨by rw [HF2.out]; rfl, rfl⟩
end Go.Proofs.Yteahjnobnbafiaa
