/-
  Contracts of spec.FormatInt and impl.FormatInt: both return the decimal numeral. The second reads a table of the library's, which is a premise.
-/
import Derived.Test.YtilpicahlgieiaaRows
import Derived.Test.YtilpicahlgieiaaZLib
import Derived.Lib.ItoaNum
import Derived.Lib.ItoaMem
import Derived.Deep.RegionHeld3
import Derived.WalkSpells
import Derived.Deep.RegionWith
import Derived.IntWalk
namespace Go.Proofs.Ytilpicahlgieiaa
open Go.RowKit
open Go

theorem dec_len (u : Nat) : ∀ f, u < 10 ^ f → (Lib.decDigits u).length ≤ f + 1 := by
  intro f
  induction f generalizing u with
  | zero => intro h; rw [Lib.decDigits, dif_pos (by omega)]; simp
  | succ f ih =>
    intro h
    rw [Lib.decDigits]
    split
    · simp
    · have := ih (u / 10) (by omega)
      simp; omega
theorem ofNat48 (k : Nat) : UInt8.ofNat (48 + k) = 48 + UInt8.ofNat k := by
  rw [UInt8.ofNat_add]; rfl
theorem dec_step {k : Nat} (h : 9 < k) (l : List UInt8) : Lib.decDigits k ++ l = Lib.decDigits (k / 10) ++ ((48 + UInt8.ofNat (k % 10)) :: l) := by
  conv => lhs; rw [Lib.decDigits, dif_neg (by omega)]
  rw [ofNat48]; simp
theorem dec_last {k : Nat} (h : k ≤ 9) (l : List UInt8) : Lib.decDigits k ++ l = (48 + UInt8.ofNat k) :: l := by
  rw [Lib.decDigits, dif_pos (by omega), ofNat48]; rfl

theorem tq_facts (n : Int) (h : n < 0) : n.tdiv 10 = -((-n) / 10) ∧ n.tmod 10 = -((-n) % 10) := by
  obtain ⟨m, rfl⟩ : ∃ m : Nat, n = -(m : Int) := ⟨(-n).toNat, by omega⟩
  rw [Int.neg_tdiv, Int.neg_tmod, Int.neg_neg, Int.tdiv_eq_ediv_of_nonneg (by omega), Int.tmod_eq_emod_of_nonneg (by omega)]
  exact ⟨rfl, rfl⟩
theorem natAbs_div (n : Int) (h : n < 0) : (-((-n) / 10)).natAbs = n.natAbs / 10 ∧ (48 - -((-n) % 10)).toNat = 48 + n.natAbs % 10 := by omega

end Go.Proofs.Ytilpicahlgieiaa
