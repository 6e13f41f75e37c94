/-
  Contracts of the text utilities that look at bytes: spec.IsDigits, impl.IsDigits, spec.IsName, impl.IsName and what they call. No conditions but that a string has at most maxLen bytes.
-/
import Derived.Test.YtmniigplfhmbjaaDoorRows
import Derived.Test.YtmniigplfhmbjaaDoorLib
import Derived.Laws.RangeAny
namespace Go.Proofs.YtmniigplfhmbjaaDoor
open Go.RowKit
open Go

def isDig (c : UInt8) : Bool := decide (48 ≤ c.toNat) && decide (c.toNat ≤ 57)
def isLow (c : UInt8) : Bool := decide (97 ≤ c.toNat) && decide (c.toNat ≤ 122)
def allDig (l : List UInt8) : Bool := l.all isDig
def digB (l : List UInt8) : Bool := allDig l && decide (0 < l.length)

theorem allDig_take_succ (s : ByteArray) (k : Nat) (h : k < s.size) : allDig (s.data.toList.take (k + 1)) = (allDig (s.data.toList.take k) && isDig s[k]) := by
  have e : s.data.toList.take (k + 1) = s.data.toList.take k ++ [s[k]] := by
    rw [List.take_succ_eq_append_getElem (by simpa using h)]; rfl
  rw [e]; simp [allDig]
theorem digB_no (s : ByteArray) (k : Nat) (h : k < s.size) (hc : isDig s[k] = false) : digB s.data.toList = false := by
  have : allDig s.data.toList = false := by
    unfold allDig
    rw [List.all_eq_false]
    refine ⟨s[k], ?_, by simp [hc]⟩
    have := List.getElem_mem (l := s.data.toList) (n := k) (by simpa using h)
    exact this
  simp [digB, this]
theorem digB_end (s : ByteArray) (h : allDig (s.data.toList.take s.size) = true) : digB s.data.toList = decide (0 < s.size) := by
  rw [List.take_of_length_le (by simp)] at h
  have e : s.data.toList.length = s.size := by simp
  simp [digB, h]

theorem ne_list (l : List UInt8) : (!l.isEmpty) = decide (0 < l.length) := by cases l <;> simp
theorem notEmpty_eq (s : ByteArray) : (!s.toList.isEmpty) = decide (0 < s.size) := by
  rw [ByteArray.toList_eq, ne_list]; simp

def digNat (n : Int) : Bool := decide (48 ≤ n) && decide (n ≤ 57)
def lowNat (n : Int) : Bool := decide (97 ≤ n) && decide (n ≤ 122)

set_option maxHeartbeats 400000 in
theorem isDigit_any (n : Int) (w : World) : Calls Tryd.prog 25 #[.int .i32 n] w fun e w' => e = .returned (.bool (digNat n)) ∧ w = w' := by
  by_cases h1 : 48 ≤ n
  · by_cases h2 : n ≤ 57
    all_goals
      go_enter Tryd.func25, Tryd.ntmps25
      go_wp2
      go_ret
      exact ⟨ret_bool (by simp [digNat, h1, h2]), rfl⟩
  · go_enter Tryd.func25, Tryd.ntmps25
    go_wp2
    go_ret
    exact ⟨ret_bool (by simp [digNat]; omega), rfl⟩

set_option maxHeartbeats 400000 in
theorem isSmall_any (n : Int) (w : World) : Calls Tryd.prog 24 #[.int .i32 n] w fun e w' => e = .returned (.bool (lowNat n)) ∧ w = w' := by
  by_cases h1 : 97 ≤ n
  · by_cases h2 : n ≤ 122
    all_goals
      go_enter Tryd.func24, Tryd.ntmps24
      go_wp2
      go_ret
      exact ⟨ret_bool (by simp [lowNat, h1, h2]), rfl⟩
  · go_enter Tryd.func24, Tryd.ntmps24
    go_wp2
    go_ret
    exact ⟨ret_bool (by simp [lowNat]; omega), rfl⟩

set_option maxHeartbeats 400000 in
theorem specDigits_any (s : ByteArray) (w : World) (hs : s.size ≤ maxLen) :
    Calls Tryd.prog 26 #[.string s] w fun e w' => e = .returned (.bool (digB s.data.toList)) ∧ w = w' := by
  unfold maxLen at hs
  go_enter Tryd.func26, Tryd.ntmps26
  go_wp2
  go_loop [3] (fun i => ∃ k : Nat, k ≤ s.size ∧ i = .int .i64 k ∧ Hid (allDig (s.data.toList.take k) = true)) (fun i => s.size - (intOf i).toNat)
  case atStart => exact ⟨0, Nat.zero_le _, rfl, Lib.hid rfl⟩
  case round =>
    obtain ⟨k, hk, rfl, H⟩ := hrel
    by_cases hlt : k < s.size
    · by_cases h1 : s[k].toNat < 48
      · have H2 := Lib.hid (digB_no s k hlt (by simp [isDig]; omega))
        go_wp2
        go_ret
        exact ⟨ret_bool H2.out.symm, rfl⟩
      · by_cases h2 : 57 < s[k].toNat
        · have H2 := Lib.hid (digB_no s k hlt (by simp [isDig]; omega))
          go_wp2
          go_ret
          exact ⟨ret_bool H2.out.symm, rfl⟩
        · have H2 : Hid (allDig (s.data.toList.take (k + 1)) = true) := Lib.hid (by rw [allDig_take_succ s k hlt, H.out]; simp [isDig]; omega)
          go_wp2
          go_round
          case rel => exact ⟨k + 1, by omega, by go_num, H2⟩
          case measure => simp [intOf]; omega
    · obtain rfl : k = s.size := by omega
      have H2 := Lib.hid (digB_end s H.out)
      go_wp2
      go_ret
      exact ⟨ret_bool (by rw [H2.out]), rfl⟩

theorem width_pos (s : ByteArray) (pos : Nat) (h : pos < s.size) : 1 ≤ (Utf8.decode s pos).2 := by
  by_cases ha : (s[pos]'h).toNat < 128
  · rw [decode_ascii s pos h ha]
    exact Nat.le_refl _
  · exact (decode_high s pos h (by omega)).2

/-- the rune at pos is a digit exactly if the byte is one, and then it is one byte wide -/
theorem dec_dig (s : ByteArray) (pos : Nat) (h : pos < s.size) : digNat ((Utf8.decode s pos).1 : Nat) = isDig s[pos] ∧ (isDig s[pos] = true → (Utf8.decode s pos).2 = 1) := by
  by_cases ha : (s[pos]'h).toNat < 128
  · rw [decode_ascii s pos h ha]
    refine ⟨?_, fun _ => rfl⟩
    simp only [digNat, isDig]
    congr 1 <;> (rw [decide_eq_decide]; omega)
  · have h2 := (decode_high s pos h (by omega)).1
    have e : isDig s[pos] = false := by simp [isDig]; omega
    refine ⟨?_, fun hh => by rw [e] at hh; cases hh⟩
    rw [e]; simp [digNat]; omega
theorem dec_low (s : ByteArray) (pos : Nat) (h : pos < s.size) : lowNat ((Utf8.decode s pos).1 : Nat) = isLow s[pos] ∧ (isLow s[pos] = true → (Utf8.decode s pos).2 = 1) := by
  by_cases ha : (s[pos]'h).toNat < 128
  · rw [decode_ascii s pos h ha]
    refine ⟨?_, fun _ => rfl⟩
    simp only [lowNat, isLow]
    congr 1 <;> (rw [decide_eq_decide]; omega)
  · have h2 := (decode_high s pos h (by omega)).1
    have e : isLow s[pos] = false := by simp [isLow]; omega
    refine ⟨?_, fun hh => by rw [e] at hh; cases hh⟩
    rw [e]; simp [lowNat]; omega

def nmAt (k : Nat) (c : UInt8) : Bool := isLow c || (!decide (k = 0) && isDig c)
def nmTake (l : List UInt8) (k : Nat) : Bool := (List.range k).all fun j => nmAt j (l.getD j 0)
def nameB (l : List UInt8) : Bool := nmTake l l.length && (decide (1 ≤ l.length) && decide (l.length ≤ 8))
theorem getD_at (s : ByteArray) (k : Nat) (h : k < s.size) : s.data.toList.getD k 0 = s[k] := by
  rw [List.getD_eq_getElem?_getD, List.getElem?_eq_getElem (by simpa using h)]; rfl
theorem nmTake_succ (s : ByteArray) (k : Nat) (h : k < s.size) : nmTake s.data.toList (k + 1) = (nmTake s.data.toList k && nmAt k s[k]) := by
  unfold nmTake
  rw [List.range_succ, List.all_append]
  simp only [List.all_cons, List.all_nil, Bool.and_true]
  rw [getD_at s k h]
theorem nameB_no (s : ByteArray) (k : Nat) (h : k < s.size) (hc : nmAt k s[k] = false) : nameB s.data.toList = false := by
  have : nmTake s.data.toList s.data.toList.length = false := by
    unfold nmTake
    rw [List.all_eq_false]
    exact ⟨k, by simpa using h, by rw [getD_at s k h, hc]; simp⟩
  simp only [nameB, this, Bool.false_and]
theorem nameB_end (s : ByteArray) (h : nmTake s.data.toList s.size = true) : nameB s.data.toList = (decide (1 ≤ s.size) && decide (s.size ≤ 8)) := by
  have e : s.data.toList.length = s.size := by simp
  simp only [nameB, e, h, Bool.true_and]
theorem nameB_len (s : ByteArray) (h : s.size < 1 ∨ 8 < s.size) : nameB s.data.toList = false := by
  have e : s.data.toList.length = s.size := by simp
  simp only [nameB, e]
  rcases h with h | h
  · rw [decide_eq_false (by omega : ¬ 1 ≤ s.size)]; simp
  · rw [decide_eq_false (by omega : ¬ s.size ≤ 8)]; simp
theorem nmAt_true {k : Nat} {c : UInt8} (h : nmAt k c = true) : (97 ≤ c.toNat ∧ c.toNat ≤ 122) ∨ (k ≠ 0 ∧ 48 ≤ c.toNat ∧ c.toNat ≤ 57) := by
  simpa [nmAt, isLow, isDig] using h
theorem nmAt_false {k : Nat} {c : UInt8} (h : nmAt k c = false) : ((c.toNat < 97) ∨ (122 < c.toNat)) ∧ (k = 0 ∨ c.toNat < 48 ∨ 57 < c.toNat) := by
  simp [nmAt, isLow, isDig] at h
  omega

set_option maxHeartbeats 1000000 in
theorem implName_any (s : ByteArray) (w : World) (hs : s.size ≤ maxLen) :
    Calls Tryd.prog 12 #[.string s] w fun e w' => e = .returned (.bool (nameB s.data.toList)) ∧ (w' = w ∨ ∃ pos, w' = w.iter s pos) := by
  unfold maxLen at hs
  by_cases hl : s.size < 1
  · have H2 := Lib.hid (nameB_len s (.inl hl))
    go_enter Tryd.func12, Tryd.ntmps12
    go_wp2
    go_ret
    exact ⟨ret_bool H2.out.symm, .inl rfl⟩
  by_cases hl2 : 8 < s.size
  · have H2 := Lib.hid (nameB_len s (.inr hl2))
    go_enter Tryd.func12, Tryd.ntmps12
    go_wp2
    go_ret
    exact ⟨ret_bool H2.out.symm, .inl rfl⟩
  go_enter Tryd.func12, Tryd.ntmps12
  go_wp2
  go_loopw [3, 4] (fun _ _ w' => ∃ k : Nat, k ≤ s.size ∧ w' = w.iter s k ∧ Hid (nmTake s.data.toList k = true)) (fun _ _ w' => s.size - w'.iterPos w.heap.size)
  case atStart => exact ⟨0, Nat.zero_le _, rfl, Lib.hid rfl⟩
  case round =>
    obtain ⟨k, hk, rfl, H⟩ := hrel
    by_cases hlt : k < s.size
    · have hnx : ∀ ty, (Instr.next (.pointer (some ⟨w.heap.size, 0, none⟩)) true ty).run Tryd.prog (w.iter s k) = _ := fun ty => run_next_any w s k ty hlt
      obtain ⟨hd1, hd2⟩ := dec_dig s k hlt
      obtain ⟨hl1, hl2⟩ := dec_low s k hlt
      have HD1 := Lib.hid hd1
      have HD2 := Lib.hid hd2
      have HL1 := Lib.hid hl1
      have HL2 := Lib.hid hl2
      clear hd1 hd2 hl1 hl2
      by_cases hc : nmAt k s[k] = true
      · have HW : Hid ((Utf8.decode s k).2 = 1) := Lib.hid (by
          simp only [nmAt, Bool.or_eq_true, Bool.and_eq_true] at hc
          rcases hc with hc | hc
          · exact HL2.out hc
          · exact HD2.out hc.2)
        have H2 : Hid (nmTake s.data.toList (k + 1) = true) := Lib.hid (by rw [nmTake_succ s k hlt, H.out, hc]; rfl)
        by_cases hlow : isLow s[k] = true
        · have hdt : lowNat ((Utf8.decode s k).1 : Nat) = true := by rw [HL1.out, hlow]
          clear hc hlow
          go_wp2_with (first | (go_at_call 24; refine (isSmall_any _ _).mono ?_; rintro e w' ⟨rfl, rfl⟩) | (go_at_call 25; refine (isDigit_any _ _).mono ?_; rintro e w' ⟨rfl, rfl⟩))
          go_roundw
          case rel => exact ⟨k + 1, by omega, by rw [HW.out], H2⟩
          case measure => simp [HW.out]; omega
        · have hdt : lowNat ((Utf8.decode s k).1 : Nat) = false := by rw [HL1.out]; simpa using hlow
          have hdd : digNat ((Utf8.decode s k).1 : Nat) = true := by
            rw [HD1.out]
            simp only [nmAt, Bool.or_eq_true, Bool.and_eq_true] at hc
            rcases hc with hc | hc
            · exact absurd hc hlow
            · exact hc.2
          have hk0 : ((k : Int) == 0) = false := by
            simp [nmAt, hlow] at hc
            simp [hc.1]
          clear hc hlow
          go_wp2_with (first | (go_at_call 24; refine (isSmall_any _ _).mono ?_; rintro e w' ⟨rfl, rfl⟩) | (go_at_call 25; refine (isDigit_any _ _).mono ?_; rintro e w' ⟨rfl, rfl⟩))
          go_roundw
          case rel => exact ⟨k + 1, by omega, by rw [HW.out], H2⟩
          case measure => simp [HW.out]; omega
      · have hc' : nmAt k s[k] = false := by simpa using hc
        have H2 := Lib.hid (nameB_no s k hlt hc')
        clear hc
        have hlow : isLow s[k] = false := by
          simp only [nmAt, Bool.or_eq_false_iff] at hc'
          exact hc'.1
        have hdt : lowNat ((Utf8.decode s k).1 : Nat) = false := by rw [HL1.out, hlow]
        by_cases h0 : k = 0
        · have hk0 : ((k : Int) == 0) = true := by simp [h0]
          clear hc' hlow h0
          go_wp2_with (first | (go_at_call 24; refine (isSmall_any _ _).mono ?_; rintro e w' ⟨rfl, rfl⟩) | (go_at_call 25; refine (isDigit_any _ _).mono ?_; rintro e w' ⟨rfl, rfl⟩))
          go_ret
          exact ⟨ret_bool H2.out.symm, .inr ⟨_, rfl⟩⟩
        · have hk0 : ((k : Int) == 0) = false := by simp [h0]
          have hdd : digNat ((Utf8.decode s k).1 : Nat) = false := by
            rw [HD1.out]
            simpa [nmAt, h0, hlow] using hc'
          clear hc' hlow h0
          go_wp2_with (first | (go_at_call 24; refine (isSmall_any _ _).mono ?_; rintro e w' ⟨rfl, rfl⟩) | (go_at_call 25; refine (isDigit_any _ _).mono ?_; rintro e w' ⟨rfl, rfl⟩))
          go_ret
          exact ⟨ret_bool H2.out.symm, .inr ⟨_, rfl⟩⟩
    · have hnx : ∀ ty, (Instr.next (.pointer (some ⟨w.heap.size, 0, none⟩)) true ty).run Tryd.prog (w.iter s k) = _ := fun ty => run_next_end w s k ty hlt
      obtain rfl : k = s.size := by omega
      have H2 := Lib.hid (nameB_end s H.out)
      go_wp2
      go_ret
      exact ⟨ret_bool (by rw [H2.out]; simp; omega), .inr ⟨_, rfl⟩⟩
end Go.Proofs.YtmniigplfhmbjaaDoor
