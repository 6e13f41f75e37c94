/-
  Contracts of spec.PadZeros and impl.PadZeros and the walk of the law FnExactPadZeros. No condition on the law's arguments.
-/
import Derived.Test.YtmniigplfhmbjaaJoinA
namespace Go.Proofs.Ytmniigplfhmbjaa
open Go.RowKit Go.WideShapes
open Go Go.Deep

theorem size48 : (ByteArray.mk #[48]).size = 1 := rfl
def strLen : Value → Int | .string B => (B.size : Int) | _ => 0
def padL (l : List UInt8) (n : Int) : List UInt8 := if 2000 < n then l else List.replicate (n.toNat - l.length) 48 ++ l

theorem mk_cons_list (l : List UInt8) (B : ByteArray) (h : B.data.toList = l) : (ByteArray.mk #[48] ++ B).data.toList = 48 :: l := by
  subst h; simp [ByteArray.data_append]

set_option maxHeartbeats 1000000 in
theorem specPad_any (s : ByteArray) (n : Int) (w : World) (hs : s.size ≤ 1048576) :
    Calls Try.prog 24 #[.string s, .int .i64 n] w fun e w' => e = .returned (.string ⟨(padL s.data.toList n).toArray⟩) ∧ w = w' := by
  have hl : s.data.toList.length = s.size := by simp
  by_cases h : 2000 < n
  · rw [show padL s.data.toList n = s.data.toList from if_pos h]
    go_enter Try.func24, Try.ntmps24
    go_wp2
    go_ret
    exact ⟨rfl, rfl⟩
  rw [show padL s.data.toList n = List.replicate (n.toNat - s.size) 48 ++ s.data.toList from by rw [← hl]; exact if_neg h]
  go_enter Try.func24, Try.ntmps24
  go_wp2
  go_loop [0] (fun sv => ∃ (k : Nat) (B : ByteArray), sv = .string B ∧ B.size = s.size + k ∧ (k = 0 ∨ s.size + k ≤ n) ∧ Hid (B.data.toList = List.replicate k 48 ++ s.data.toList)) (fun sv => (n - strLen sv).toNat)
  case atStart => exact ⟨0, s, rfl, rfl, .inl rfl, Lib.hid rfl⟩
  case round =>
    obtain ⟨k, B, rfl, hB, hk, HB⟩ := hrel
    have HS := Lib.hid hB
    have hB1 : B.size ≤ s.size + k := by omega
    have hB2 : s.size + k ≤ B.size := by omega
    clear hB
    have hk2 : k ≤ 2000 := by omega
    by_cases hlt : (s.size : Int) + k < n
    · go_wp2
      go_round
      case rel => exact ⟨k + 1, _, rfl, by rw [ByteArray.size_append, HS.out, size48]; omega, .inr (by omega), Lib.hid (by rw [mk_cons_list _ _ HB.out, List.replicate_succ]; rfl)⟩
      case measure => simp only [strLen, ByteArray.size_append, size48]; omega
    · go_wp2
      go_ret
      refine ⟨ret_str (ba_ext ?_), rfl⟩
      rw [HB.out]
      congr 2
      omega

theorem repeat_zero (k : Nat) : Lib.repeatL [48] k = List.replicate k 48 := by
  induction k with
  | zero => rfl
  | succ k ih => rw [Lib.repeatL, ih, List.replicate_succ]; rfl
theorem rs_two (w : World) (x y : ByteArray) : Rs (w.alloc (.cells #[.string x, .string y] 9)) (.slice (some ⟨w.heap.size, 0, none⟩) 2 2) ([x, y].map Value.string) := by
  refine ⟨_, 2, rfl, Nat.le_refl _, by decide, .inr ⟨w.heap.size, 0, rfl, by simp, fun j z hz => ?_⟩⟩
  have h := cell_two_new w (.string x) (.string y) 9 j z hz
  rw [addr_add0] at h
  exact h

set_option maxHeartbeats 1000000 in
theorem implPad_any (s : ByteArray) (n : Int) (w : World) (hs : s.size ≤ 1048576) :
    Calls Try.prog 25 #[.string s, .int .i64 n] w fun e w' => e = .returned (.string ⟨(padL s.data.toList n).toArray⟩) ∧ Below w.heap.size w w' := by
  have hl : s.data.toList.length = s.size := by simp
  by_cases h1 : n ≤ s.size
  · have HR := Lib.hid (show padL s.data.toList n = s.data.toList from by
      unfold padL; rw [hl]; split
      · rfl
      · rw [show n.toNat - s.size = 0 by omega]; rfl)
    go_enter Try.func25, Try.ntmps25
    go_wp2
    go_ret
    exact ⟨ret_str (ba_ext HR.out.symm), Below.refl _ _⟩
  by_cases h2 : 2000 < n
  · have HR := Lib.hid (show padL s.data.toList n = s.data.toList from if_pos h2)
    go_enter Try.func25, Try.ntmps25
    go_wp2
    go_ret
    exact ⟨ret_str (ba_ext HR.out.symm), Below.refl _ _⟩
  obtain ⟨c, hc⟩ : ∃ c : Nat, n = s.size + c := ⟨(n - s.size).toNat, by omega⟩
  subst hc
  have HR := Lib.hid (show padL s.data.toList ((s.size : Int) + c) = List.replicate c 48 ++ s.data.toList from by
    unfold padL; rw [hl, if_neg h2, show ((s.size : Int) + c).toNat - s.size = c by omega])
  have hrep : ∀ W, Calls Try.prog 31 #[.string ⟨#[48]⟩, .int .i64 c] W fun e w' => e = .returned (.string ⟨(List.replicate c 48).toArray⟩) ∧ Below W.heap.size W w' := fun W => by
    have h := Try.strings_Repeat ⟨#[48]⟩ c W (by omega) (by rw [size48]; omega)
    rw [show (ByteArray.mk #[48]).data.toList = [48] from rfl, repeat_zero] at h
    exact h
  have hjp : ∀ W, Calls Try.prog 30 #[.string ⟨#[]⟩, .slice (some ⟨W.heap.size, 0, none⟩) 2 2] (W.alloc (.cells #[.string ⟨(List.replicate c 48).toArray⟩, .string s] 9)) fun e w' =>
      e = .returned (.string ⟨(List.replicate c 48 ++ s.data.toList).toArray⟩) ∧ Below W.heap.size W w' := fun W => by
    have e : Lib.join ([ByteArray.mk (List.replicate c 48).toArray, s].map (·.data.toList)) (ByteArray.mk #[]).data.toList = List.replicate c 48 ++ s.data.toList := by
      simp [Lib.join, List.intercalate]
    have h := joinParts_any _ _ ⟨#[]⟩ _ (rs_two W ⟨(List.replicate c 48).toArray⟩ s) (by simp) (by rw [e]; simp; omega)
    rw [e] at h
    exact h.mono fun _ _ ⟨h1, h2⟩ => ⟨h1, ((Below.refl _ _).alloc (Nat.le_refl _) _).trans (h2.mono (by simp))⟩
  have JP := Lib.hid hjp
  have RP := Lib.hid hrep
  clear hjp hrep
  obtain ⟨z, hz⟩ : ∃ z, z = ByteArray.mk (List.replicate c 48).toArray := ⟨_, rfl⟩
  rw [← hz] at JP RP
  clear hz
  go_enter Try.func25, Try.ntmps25
  go_wp2_with fail
  rw [show ((s.size : Int) + c - s.size) = c by omega]
  refine (RP.out _).mono ?_
  rintro e x1 ⟨rfl, hb1⟩
  have B1 := Lib.hid hb1; clear hb1
  go_wp2_with fail
  refine (JP.out _).mono ?_
  rintro e x2 ⟨rfl, hb2⟩
  have B2 := Lib.hid hb2; clear hb2
  have hsz : w.heap.size ≤ x1.heap.size := B1.out.size
  go_wp2
  go_ret
  exact ⟨by rw [HR.out]; simp, B1.out.trans (B2.out.mono hsz)⟩

set_option maxHeartbeats 1000000 in
theorem walk_FnExactPadZeros (a0 : ByteArray) (a1 : Int) (w : World) (_w0 : a0.size ≤ maxLen) (_w1 : (Lit.int .i64 a1).wf = true) :
    Calls Try.prog 8 #[.string a0, .int .i64 a1] w fun e w' => e = .returned (.bool true) ∧ Below w.heap.size w w' := by
  by_cases h : 1048576 < a0.size
  · go_enter Try.func8, Try.ntmps8
    go_wp2
    go_ret
    exact ⟨rfl, Below.refl _ _⟩
  have S := Lib.hid (fun W => specPad_any a0 a1 W (by omega))
  have I := Lib.hid (fun W => implPad_any a0 a1 W (by omega))
  generalize padL a0.data.toList a1 = l at S I
  go_enter Try.func8, Try.ntmps8
  go_wp2_with fail
  refine (S.out _).mono ?_
  rintro e x ⟨rfl, rfl⟩
  go_wp2_with fail
  refine (I.out _).mono ?_
  rintro e x ⟨rfl, hb⟩
  have B := Lib.hid hb; clear hb
  go_wp2
  go_ret
  exact ⟨rfl, B.out⟩
end Go.Proofs.Ytmniigplfhmbjaa
