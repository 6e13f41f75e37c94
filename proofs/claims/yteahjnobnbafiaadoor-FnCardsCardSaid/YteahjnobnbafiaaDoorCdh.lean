/-
  Contracts of spec.l01In, DealOk, l13Count, l13Hands, HandsOf, l13Has. Conditions: a hand below 128; at most 7 cards.
-/
import Derived.Test.YteahjnobnbafiaaDoorCdm
import Derived.Test.YteahjnobnbafiaaDoorZLib
import Derived.Test.YteahjnobnbafiaaDoorZReg
namespace Go.Proofs.YteahjnobnbafiaaDoor
open Go.RowKit Go.WideShapes
open Go Go.Deep
set_option linter.unusedSimpArgs false

theorem lnI_yes (x lo hi : Int) (w : World) (h1 : lo ≤ x) (h2 : x ≤ hi) : Calls Tryd.prog 16 #[.int .i64 x, .int .i64 lo, .int .i64 hi] w fun e w' => e = .returned (.bool true) ∧ w = w' := by
  go_enter Tryd.func16, Tryd.ntmps16
  go_wp2
  go_ret
  exact ⟨ret_bool (by simp <;> omega), rfl⟩
theorem lnI_no (x lo hi : Int) (w : World) (h : x < lo ∨ hi < x) : Calls Tryd.prog 16 #[.int .i64 x, .int .i64 lo, .int .i64 hi] w fun e w' => e = .returned (.bool false) ∧ w = w' := by
  by_cases h1 : x < lo
  · clear h
    go_enter Tryd.func16, Tryd.ntmps16
    go_wp2
    go_ret
    exact ⟨ret_bool (by simp <;> omega), rfl⟩
  · have h2 : hi < x := by omega
    have h3 : lo ≤ x := by omega
    clear h h1
    go_enter Tryd.func16, Tryd.ntmps16
    go_wp2
    go_ret
    exact ⟨ret_bool (by simp <;> omega), rfl⟩
theorem lnI_any (x lo hi : Int) (w : World) : Calls Tryd.prog 16 #[.int .i64 x, .int .i64 lo, .int .i64 hi] w fun e w' => e = .returned (.bool (decide (lo ≤ x ∧ x ≤ hi))) ∧ w = w' := by
  by_cases h : lo ≤ x ∧ x ≤ hi
  · rw [decide_eq_true h]; exact lnI_yes x lo hi w h.1 h.2
  · rw [decide_eq_false h]; exact lnI_no x lo hi w (by omega)

set_option maxHeartbeats 4000000 in
theorem specDeal_any (d : Dl) (w : World) : Calls Tryd.prog 35 #[d.v] w fun e w' => e = .returned (.bool (dealR d)) ∧ Below w.heap.size w w' := by
  obtain ⟨a, b, c⟩ := d
  have HK : Hid (dealR ⟨a, b, c⟩ = (decide (1 ≤ a ∧ a ≤ 7) && (decide (1 ≤ b ∧ b ≤ 7) && (decide (0 ≤ c ∧ c ≤ 7) && decide (a + b + c ≤ 7))))) := Lib.hid rfl
  generalize dealR ⟨a, b, c⟩ = R at *
  unfold Dl.v
  have KA := Lib.hid (fun W => lnI_any a 1 7 W)
  have KB := Lib.hid (fun W => lnI_any b 1 7 W)
  have KC := Lib.hid (fun W => lnI_any c 0 7 W)
  by_cases ha : 1 ≤ a ∧ a ≤ 7
  · rw [decide_eq_true ha] at HK KA
    by_cases hb : 1 ≤ b ∧ b ≤ 7
    · rw [decide_eq_true hb] at HK KB
      by_cases hc : 0 ≤ c ∧ c ≤ 7
      · rw [decide_eq_true hc] at HK KC
        obtain ⟨a0, a1⟩ := ha
        obtain ⟨b0, b1⟩ := hb
        obtain ⟨c0, c1⟩ := hc
        have HR : Hid (R = decide (a + b + c ≤ 7)) := Lib.hid (by rw [HK.out]; rfl)
        clear HK
        go_enter Tryd.func35, Tryd.ntmps35
        go_wp2_with (go_at_call 16; (first | with_reducible refine (KA.out _).mono ?_ | with_reducible refine (KB.out _).mono ?_ | with_reducible refine (KC.out _).mono ?_); rintro e w' ⟨rfl, rfl⟩)
        go_ret
        exact ⟨by rw [HR.out]; rfl, by go_grown⟩
      · rw [decide_eq_false hc] at HK KC
        have HR : Hid (R = false) := Lib.hid HK.out
        clear ha hb hc
        go_enter Tryd.func35, Tryd.ntmps35
        go_wp2_with (go_at_call 16; (first | with_reducible refine (KA.out _).mono ?_ | with_reducible refine (KB.out _).mono ?_ | with_reducible refine (KC.out _).mono ?_); rintro e w' ⟨rfl, rfl⟩)
        go_ret
        exact ⟨by rw [HR.out]; rfl, by go_grown⟩
    · rw [decide_eq_false hb] at HK KB
      have HR : Hid (R = false) := Lib.hid HK.out
      clear ha hb
      go_enter Tryd.func35, Tryd.ntmps35
      go_wp2_with (go_at_call 16; (first | with_reducible refine (KA.out _).mono ?_ | with_reducible refine (KB.out _).mono ?_); rintro e w' ⟨rfl, rfl⟩)
      go_ret
      exact ⟨by rw [HR.out]; rfl, by go_grown⟩
  · rw [decide_eq_false ha] at HK KA
    have HR : Hid (R = false) := Lib.hid HK.out
    clear ha
    go_enter Tryd.func35, Tryd.ntmps35
    go_wp2_with (go_at_call 16; with_reducible refine (KA.out _).mono ?_; rintro e w' ⟨rfl, rfl⟩)
    go_ret
    exact ⟨by rw [HR.out]; rfl, by go_grown⟩

set_option maxHeartbeats 2000000 in
theorem count_any (h : Nat) (hh : h < 128) (w : World) : Calls Tryd.prog 46 #[.int .i64 h] w fun e w' => e = .returned (.int .i64 (pop h)) ∧ w = w' := by
  have HP : Hid (pop h = popF 7 h) := Lib.hid rfl
  generalize pop h = R at *
  go_enter Tryd.func46, Tryd.ntmps46
  go_wp2
  go_loop [0, 3] (fun hv nv => ∃ f m n : Nat, f ≤ 7 ∧ hv = .int .i64 m ∧ nv = .int .i64 n ∧ m < 128 ∧ n ≤ 7 - f ∧ m < 2 ^ f ∧ Hid (R = n + popF f m)) (fun hv _ => (intOf hv).toNat)
  case atStart => exact ⟨7, h, 0, Nat.le_refl _, rfl, rfl, hh, Nat.zero_le _, hh, Lib.hid (by rw [HP.out, Nat.zero_add])⟩
  case round =>
    obtain ⟨f, m, n, hf, rfl, rfl, hm, hn, hmf, HR⟩ := hrel
    by_cases h0 : 0 < m
    · have h0i : (0 : Int) < (m : Int) := by omega
      obtain ⟨g, rfl⟩ : ∃ g, f = g + 1 := ⟨f - 1, by
        rcases Nat.eq_zero_or_pos f with e | e
        · subst e; simp at hmf; omega
        · omega⟩
      have HR2 : Hid (R = (n + m % 2) + popF g (m / 2)) := Lib.hid (by rw [HR.out]; show n + (m % 2 + popF g (m / 2)) = _; omega)
      have hdg : m / 2 < 2 ^ g := by rw [Nat.pow_succ] at hmf; omega
      have hqm : m / 2 < m := by omega
      have hrm : m % 2 < 2 := by omega
      have ht0 : (m : Int).tdiv 2 = ((m / 2 : Nat) : Int) := by rw [Int.tdiv_eq_ediv_of_nonneg (by omega)]; omega
      have e0 : (m : Int) % 2 = ((m % 2 : Nat) : Int) := by omega
      generalize m % 2 = r at *
      generalize m / 2 = q at *
      have hni : (n : Int) ≤ 7 := by omega
      have hmi : (m : Int) < 128 := by omega
      clear HR
      go_wp2
      go_round
      case rel => exact ⟨g, q, n + r, by omega, by go_num, by go_num, by omega, by omega, hdg, HR2⟩
      case measure => simp [intOf]; omega
    · obtain rfl : m = 0 := by omega
      have HR2 : Hid (R = n) := Lib.hid (by
        rw [HR.out]
        have : ∀ f, popF f 0 = 0 := by intro f; induction f with | zero => rfl | succ f ih => show 0 % 2 + popF f (0 / 2) = 0; simpa using ih
        rw [this]; rfl)
      clear HR
      go_wp2
      go_ret
      exact ⟨by rw [HR2.out]; rfl, rfl⟩
end Go.Proofs.YteahjnobnbafiaaDoor
