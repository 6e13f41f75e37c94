/-
  Contracts of spec.l03Bit on hands and of spec.HandText; the walk of its law. Conditions: of the bit, a number from 0 to 127 and a card below 7.
-/
import Derived.Test.YteahjnobnbafiaaDoorCdh
import Derived.Test.YteahjnobnbafiaaDoorZCmb
import Derived.IntWalk
namespace Go.Proofs.YteahjnobnbafiaaDoor
open Go.RowKit Go.WideShapes
open Go Go.Deep
set_option linter.unusedSimpArgs false

/-- a card of a hand -/
def hbit (x : Int) (f : Nat) : Int := x / 2 ^ f % 2
theorem hbit_bd (x : Int) (f : Nat) : hbit x f = 0 ∨ hbit x f = 1 := by unfold hbit; omega
theorem hbit_cases {f : Nat} (h : f < 7) : f = 0 ∨ f = 1 ∨ f = 2 ∨ f = 3 ∨ f = 4 ∨ f = 5 ∨ f = 6 := by omega
/-- the cards below k of a hand, as text -/
def handTo (h : Int) : Nat → List UInt8
  | 0 => []
  | k + 1 => handTo h k ++ (if hbit h k = 1 then [48 + UInt8.ofNat k] else [])
def handB (h : Int) : List UInt8 := if 0 ≤ h ∧ h ≤ 127 then handTo h 7 else []
theorem handTo_len (h : Int) (k : Nat) : (handTo h k).length ≤ k := by
  induction k with
  | zero => exact Nat.le_refl _
  | succ k ih =>
    unfold handTo
    rw [List.length_append]
    split
    · simp; omega
    · simp; omega
theorem handTo_one {h : Int} {k : Nat} (e : hbit h k = 1) : handTo h (k + 1) = handTo h k ++ [48 + UInt8.ofNat k] := by
  show handTo h k ++ (if hbit h k = 1 then [48 + UInt8.ofNat k] else []) = _
  rw [if_pos e]
theorem handTo_no {h : Int} {k : Nat} (e : hbit h k = 0) : handTo h (k + 1) = handTo h k := by
  show handTo h k ++ (if hbit h k = 1 then [48 + UInt8.ofNat k] else []) = _
  rw [if_neg (by omega), List.append_nil]

set_option maxRecDepth 100000 in
set_option maxHeartbeats 4000000 in
theorem hbit_any (x : Int) (f : Nat) (w : World) (h0 : 0 ≤ x) (h1 : x ≤ 127) (hf : f < 7) :
    Calls Tryd.prog 17 #[.int .i64 x, .int .i64 f] w fun e w' => e = .returned (.int .i64 (hbit x f)) ∧ w = w' := by
  rcases hbit_cases hf with rfl | rfl | rfl | rfl | rfl | rfl | rfl
  all_goals
    go_enter Tryd.func17, Tryd.ntmps17
    go_wp2
    refine wp_loop_rounds 7 ?_
    repeat (rw [rounds_succ]; go_wp2)
    go_ret
    exact ⟨ret_int (by unfold hbit; omega), rfl⟩

theorem digit_any (k : Nat) (w : World) (h : k ≤ 9) : Calls Tryd.prog 18 #[.int .i64 k] w fun e w' => e = .returned (.string ⟨[48 + UInt8.ofNat k].toArray⟩) ∧ Below w.heap.size w w' := by
  have e := dec_last (k := k) h []
  have := specFormat_pos k w (by omega)
  rw [List.append_nil] at e
  rw [e] at this
  exact this

set_option maxRecDepth 100000 in
set_option maxHeartbeats 4000000 in
theorem specHandText_any (h : Int) (w : World) : Calls Tryd.prog 5 #[.int .i64 h] w fun e w' => e = .returned (.string ⟨(handB h).toArray⟩) ∧ Below w.heap.size w w' := by
  have KI := Lib.hid (fun W => lnI_any h 0 127 W)
  by_cases hh : 0 ≤ h ∧ h ≤ 127
  · rw [show handB h = handTo h 7 from if_pos hh]
    rw [decide_eq_true hh] at KI
    have KB := Lib.hid (fun k W (hk : k < 7) => hbit_any h k W hh.1 hh.2 hk)
    have KF := Lib.hid (fun k W (hk : k ≤ 9) => digit_any k W hk)
    have HBD := Lib.hid (fun k => hbit_bd h k)
    have HL := Lib.hid (fun k => handTo_len h k)
    have H1 := Lib.hid (fun k (e : hbit h k = 1) => handTo_one e)
    have H0 := Lib.hid (fun k (e : hbit h k = 0) => handTo_no e)
    have HZ : Hid (handTo h 0 = []) := Lib.hid rfl
    clear hh
    go_enter Tryd.func5, Tryd.ntmps5
    go_wp2_with (go_at_call 16; refine (KI.out _).mono ?_; rintro e w' ⟨rfl, rfl⟩)
    go_loopw [3, 4] (fun sv kv wr => ∃ k : Nat, k ≤ 7 ∧ kv = .int .i64 k ∧ sv = .string ⟨(handTo h k).toArray⟩ ∧ Hid (Below w.heap.size w wr)) (fun _ kv _ => 7 - (intOf kv).toNat)
    case atStart => exact ⟨0, by omega, rfl, by rw [HZ.out], Lib.hid (Below.refl _ _)⟩
    case round =>
      obtain ⟨k, hk, rfl, rfl, BB⟩ := hrel
      by_cases hlt : k < 7
      · have hl := HL.out k
        have K1 := Lib.hid (fun W => KB.out k W hlt)
        have K2 := Lib.hid (fun W => KF.out k W (by omega))
        have T1 := Lib.hid (H1.out k)
        have T0 := Lib.hid (H0.out k)
        rcases HBD.out k with hz | hz
        · have HT := Lib.hid (T0.out hz)
          rw [hz] at K1
          clear hz T0 T1
          go_wp2_with (go_at_call 17; refine (K1.out _).mono ?_; rintro e w' ⟨rfl, rfl⟩)
          go_roundw
          case rel => exact ⟨k + 1, by omega, by simp, by rw [HT.out], BB⟩
          case measure => simp [intOf]; omega
        · have HT := Lib.hid (T1.out hz)
          rw [hz] at K1
          clear hz T0 T1
          generalize handTo h k = s at *
          go_wp2_with (go_at_call 17; refine (K1.out _).mono ?_; rintro e w' ⟨rfl, rfl⟩)
          refine (K2.out _).mono ?_
          rintro e w1 ⟨rfl, hb1⟩
          have B1 := Lib.hid (BB.out.trans (hb1.mono BB.out.size))
          clear hb1
          go_wp2
          go_roundw
          case rel => exact ⟨k + 1, by omega, by simp, by rw [HT.out]; exact congrArg Value.string (ByteArray.mk_append_mk s [48 + UInt8.ofNat k]), B1⟩
          case measure => simp [intOf]; omega
      · obtain rfl : k = 7 := by omega
        go_wp2
        go_ret
        exact ⟨rfl, BB.out⟩
  · rw [show handB h = [] from if_neg hh]
    rw [decide_eq_false hh] at KI
    clear hh
    go_enter Tryd.func5, Tryd.ntmps5
    go_wp2_with (go_at_call 16; refine (KI.out _).mono ?_; rintro e w' ⟨rfl, rfl⟩)
    go_ret
    exact ⟨rfl, Below.refl _ _⟩
end Go.Proofs.YteahjnobnbafiaaDoor
