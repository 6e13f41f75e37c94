/-
  Plain facts on decimal numerals: their digits, their value, that strconv.Atoi reads them back. No program in it.
-/
import Derived.Test.YtmniigplfhmbjaaDoorTextA
import Derived.Lib.ItoaNum
import Derived.Lib.ItoaMem
import Derived.Lib.AtoiAll
namespace Go.Proofs.YtmniigplfhmbjaaDoor
open Go

def valA (acc : Nat) (l : List UInt8) : Nat := l.foldl (fun a c => 10 * a + (c.toNat - 48)) acc
theorem valA_snoc (acc : Nat) (l : List UInt8) (c : UInt8) : valA acc (l ++ [c]) = 10 * valA acc l + (c.toNat - 48) := by simp [valA]
theorem valA_cons (acc : Nat) (l : List UInt8) (c : UInt8) : valA acc (c :: l) = valA (10 * acc + (c.toNat - 48)) l := by simp [valA]
theorem valA_ge (l : List UInt8) : ∀ acc, acc ≤ valA acc l := by
  induction l with
  | nil => intro acc; exact Nat.le_refl _
  | cons c l ih => intro acc; rw [valA_cons]; have := ih (10 * acc + (c.toNat - 48)); omega
theorem valA_append (l r : List UInt8) (acc : Nat) : valA acc (l ++ r) = valA (valA acc l) r := by simp [valA]
theorem valA_take (l : List UInt8) (k : Nat) : valA 0 (l.take k) ≤ valA 0 l := by
  conv => rhs; rw [← List.take_append_drop k l, valA_append]
  exact valA_ge _ _

theorem ofNat_digit {d : Nat} (h : d < 10) : (UInt8.ofNat (48 + d)).toNat = 48 + d := by
  simp; omega
theorem dec_val (u : Nat) : valA 0 (Lib.decDigits u) = u := by
  induction u using Nat.strongRecOn with
  | ind u ih =>
    rw [Lib.decDigits]
    split
    · rename_i h
      show 10 * 0 + ((UInt8.ofNat (48 + u)).toNat - 48) = u
      rw [ofNat_digit h]; omega
    · rename_i h
      rw [valA_snoc, ih (u / 10) (by omega), ofNat_digit (by omega)]; omega
theorem dec_dig_all (u : Nat) : allDig (Lib.decDigits u) = true := by
  induction u using Nat.strongRecOn with
  | ind u ih =>
    rw [Lib.decDigits]
    split
    · rename_i h
      simp [allDig, isDig]; omega
    · rename_i h
      have := ih (u / 10) (by omega)
      unfold allDig at this ⊢
      rw [List.all_append, this]
      simp [isDig]; omega
theorem dec_ne (u : Nat) : Lib.decDigits u ≠ [] := by
  rw [Lib.decDigits]; split <;> simp
theorem dec_len_le (u : Nat) : ∀ f, u < 10 ^ (f + 1) → (Lib.decDigits u).length ≤ f + 1 := by
  intro f
  induction f generalizing u with
  | zero => intro h; rw [Lib.decDigits, dif_pos (by omega)]; simp
  | succ f ih =>
    intro h
    rw [Lib.decDigits]
    split
    · simp
    · have := ih (u / 10) (by rw [Nat.pow_succ] at h; omega)
      simp; omega

theorem parseU (l : List UInt8) : ∀ acc, allDig l = true → valA acc l < 18446744073709551616 → Lib.parseUint10 acc l = .ok (valA acc l) := by
  induction l with
  | nil => intro acc _ _; rfl
  | cons c r ih =>
    intro acc hd hv
    have hc : isDig c = true ∧ allDig r = true := by simpa [allDig] using hd
    have h48 : 48 ≤ c.toNat ∧ c.toNat ≤ 57 := by simpa [isDig] using hc.1
    rw [valA_cons] at hv ⊢
    have hge := valA_ge r (10 * acc + (c.toNat - 48))
    rw [Lib.parseUint10, if_pos h48, if_neg (by omega), if_neg (by omega)]
    have := ih (10 * acc + (c.toNat - 48)) hc.2 hv
    rw [show acc * 10 + (c.toNat - 48) = 10 * acc + (c.toNat - 48) by omega]
    exact this
def InR (m : Int) : Prop := -9223372036854775808 ≤ m ∧ m ≤ 9223372036854775807
theorem dec_head (u : Nat) : ∃ c r, Lib.decDigits u = c :: r ∧ 48 ≤ c.toNat ∧ c.toNat ≤ 57 := by
  have hd := dec_dig_all u
  cases h : Lib.decDigits u with
  | nil => exact absurd h (dec_ne u)
  | cons c r =>
    rw [h] at hd
    have : isDig c = true := by simp [allDig] at hd; exact hd.1
    exact ⟨c, r, rfl, by simpa [isDig] using this⟩
theorem parseMag_dec (u : Nat) (h : u < 18446744073709551616) : Lib.parseMag (Lib.decDigits u) = .ok u := by
  unfold Lib.parseMag
  rw [if_neg (dec_ne u), parseU _ 0 (dec_dig_all u) (by rw [dec_val]; exact h), dec_val]
theorem atoi_itoa (m : Int) (h : InR m) : Lib.atoiAll (Lib.itoa m) = .ok m := by
  obtain ⟨h1, h2⟩ := h
  by_cases hm : m < 0
  · rw [show Lib.itoa m = 45 :: Lib.decDigits m.natAbs from if_pos hm]
    simp only [Lib.atoiAll]
    rw [if_pos (by right; rfl), parseMag_dec _ (by omega)]
    simp only [show (45 : UInt8).toNat = 45 from rfl, not_true_eq_false, false_and, if_false, true_and, if_true]
    rw [if_neg (by omega)]
    congr 1; omega
  · obtain ⟨k, rfl⟩ : ∃ k : Nat, m = k := ⟨m.toNat, by omega⟩
    obtain ⟨c, r, hcr, hc1, hc2⟩ := dec_head k
    have hp := parseMag_dec k (by omega)
    rw [Lib.itoa_nonneg]
    rw [hcr] at hp ⊢
    simp only [Lib.atoiAll]
    rw [if_neg (by omega), hp]
    have hn : ¬ c.toNat = 45 := by omega
    simp only [hn, not_false_eq_true, true_and, false_and, if_false]
    rw [if_neg (by omega)]
theorem itoa_inj {a b : Int} (ha : InR a) (hb : InR b) (h : Lib.itoa a = Lib.itoa b) : a = b := by
  have h1 := atoi_itoa a ha
  rw [h, atoi_itoa b hb] at h1
  injection h1 with h1
  exact h1.symm

/-- what ParseInt returns -/
def PR (l : List UInt8) (v : Int) (ok : Bool) : Prop := (ok = true ∧ InR v ∧ Lib.itoa v = l) ∨ (ok = false ∧ v = 0 ∧ ∀ m, InR m → Lib.itoa m ≠ l)
theorem PR_unique {l : List UInt8} {v v' : Int} {ok ok' : Bool} (h : PR l v ok) (h' : PR l v' ok') : v = v' ∧ ok = ok' := by
  rcases h with ⟨rfl, h1, h2⟩ | ⟨rfl, rfl, h2⟩ <;> rcases h' with ⟨rfl, h1', h2'⟩ | ⟨rfl, rfl, h2'⟩
  · exact ⟨itoa_inj h1 h1' (h2.trans h2'.symm), rfl⟩
  · exact absurd h2 (h2' v h1)
  · exact absurd h2' (h2 v' h1')
  · exact ⟨rfl, rfl⟩
end Go.Proofs.YtmniigplfhmbjaaDoor
