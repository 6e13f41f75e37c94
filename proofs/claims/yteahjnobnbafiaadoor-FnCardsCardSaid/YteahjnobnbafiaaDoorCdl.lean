/-
  Contract of spec.TellsSecond. No condition.
-/
import Derived.Test.YteahjnobnbafiaaDoorCdk
import Derived.Test.YteahjnobnbafiaaDoorZReg
import Derived.Laws.BitsLemmas
namespace Go.Proofs.YteahjnobnbafiaaDoor
open Go.RowKit Go.WideShapes
open Go Go.Deep
set_option linter.unusedSimpArgs false

theorem bits_and_nat (a b : Nat) (ha : a < 2 ^ 63) (hb : b < 2 ^ 63) : bits .and .i64 (a : Int) (b : Int) = ((a &&& b : Nat) : Int) := by
  have e1 : (BitVec.ofInt 64 (a : Int)).toNat = a := by rw [BitVec.toNat_ofInt]; omega
  have e2 : (BitVec.ofInt 64 (b : Int)).toNat = b := by rw [BitVec.toNat_ofInt]; omega
  have key : (BitVec.ofInt 64 (a : Int) &&& BitVec.ofInt 64 (b : Int)).toNat = a &&& b := by rw [BitVec.toNat_and, e1, e2]
  show IntKind.i64.wrap ((BitVec.ofInt 64 (a : Int) &&& BitVec.ofInt 64 (b : Int)).toNat : Nat) = _
  rw [key, IntKind.wrap_i64]
  have : a &&& b ≤ a := Nat.and_le_left
  omega
theorem bits_or_nat (a b : Nat) (ha : a < 2 ^ 63) (hb : b < 2 ^ 63) : bits .or .i64 (a : Int) (b : Int) = ((a ||| b : Nat) : Int) := by
  have e1 : (BitVec.ofInt 64 (a : Int)).toNat = a := by rw [BitVec.toNat_ofInt]; omega
  have e2 : (BitVec.ofInt 64 (b : Int)).toNat = b := by rw [BitVec.toNat_ofInt]; omega
  have key : (BitVec.ofInt 64 (a : Int) ||| BitVec.ofInt 64 (b : Int)).toNat = a ||| b := by rw [BitVec.toNat_or, e1, e2]
  show IntKind.i64.wrap ((BitVec.ofInt 64 (a : Int) ||| BitVec.ofInt 64 (b : Int)).toNat : Nat) = _
  rw [key, IntKind.wrap_i64]
  have : a ||| b < 2 ^ 63 := Nat.or_lt_two_pow ha hb
  omega
theorem deal_facts {d : Dl} (h : dealR d = true) : 1 ≤ d.a ∧ d.a ≤ 7 ∧ 1 ≤ d.b ∧ d.b ≤ 7 ∧ 0 ≤ d.c ∧ d.c ≤ 7 ∧ d.a + d.b + d.c ≤ 7 ∧ d.n ≤ 7 ∧ d.a + d.b + d.c = (d.n : Int) := by
  unfold dealR at h
  simp only [Bool.and_eq_true, decide_eq_true_eq] at h
  unfold Dl.n
  omega
theorem hands_in {d : Dl} {x : Int} (h : x ∈ handsR d) : 0 ≤ x ∧ x < 2 ^ d.n ∧ x < 128 := by
  unfold handsR at h
  split at h
  · rename_i hd
    have := deal_facts hd
    have h1 := handsTo_in (show x ∈ handsTo d.a.toNat (2 ^ d.n) from h)
    have h2 := pow_le this.2.2.2.2.2.2.2.1
    have e : ((2 ^ d.n : Nat) : Int) = 2 ^ d.n := by simp
    omega
  · cases h
theorem hasI_iff {l : List Int} {x : Int} : hasI l x = true ↔ x ∈ l := by
  unfold hasI; rw [List.any_eq_true]
  constructor
  · rintro ⟨y, hy, e⟩; rw [beq_iff_eq] at e; exact e ▸ hy
  · exact fun h => ⟨x, h, beq_self_eq_true x⟩
theorem annL_mem {all : List Int} : ∀ {l : List Int} {p : Option Int}, annL all p l = true → ∀ x ∈ l, x ∈ all
  | [], _, _, _, hx => by cases hx
  | h :: r, p, ha, x, hx => by
    unfold annL at ha
    simp only [Bool.and_eq_true] at ha
    rcases List.mem_cons.1 hx with rfl | hx
    · exact hasI_iff.1 ha.1.1
    · exact annL_mem ha.2 x hx
theorem ann_mem {d : Dl} {l : List Int} (h : annR d l = true) : dealR d = true ∧ ∀ x ∈ l, x ∈ handsR d := by
  unfold annR at h
  simp only [Bool.and_eq_true] at h
  exact ⟨h.1, annL_mem h.2.2⟩
theorem ann_nat {d : Dl} {l : List Int} (h : annR d l = true) {k : Nat} (hk : k < l.length) : ∃ X : Nat, l.getD k 0 = (X : Int) ∧ X < 128 := by
  have hm : l.getD k 0 ∈ l := by rw [List.getD_eq_getElem?_getD, List.getElem?_eq_getElem hk]; exact List.getElem_mem hk
  have := hands_in ((ann_mem h).2 _ hm)
  exact ⟨(l.getD k 0).toNat, by omega, by omega⟩
/-- the pairs of the k-th hand with the hands from the j-th on before it, and what comes behind -/
def tellAt (t : Int) (l : List Int) (k j : Nat) : Bool := ((l.take k).drop j).all (fun x => decide ((pop (andI (l.getD k 0) x) : Int) < t)) && tellL t (l.take (k + 1)) (l.drop (k + 1))
theorem tell_out {t : Int} {l : List Int} {k : Nat} (hk : k < l.length) : tellL t (l.take k) (l.drop k) = tellAt t l k 0 := by
  rw [List.drop_eq_getElem_cons hk]
  have e : l[k] = l.getD k 0 := by rw [List.getD_eq_getElem?_getD, List.getElem?_eq_getElem hk]; rfl
  unfold tellAt
  rw [List.drop_zero, List.take_add_one, List.getElem?_eq_getElem hk, e]
  rfl
theorem tell_in {t : Int} {l : List Int} {k j : Nat} (hk : k < l.length) (hj : j < k) : tellAt t l k j = (decide ((pop (andI (l.getD k 0) (l.getD j 0)) : Int) < t) && tellAt t l k (j + 1)) := by
  unfold tellAt
  have hl : j < (l.take k).length := by rw [List.length_take]; omega
  rw [List.drop_eq_getElem_cons hl]
  have e : (l.take k)[j] = l.getD j 0 := by rw [List.getElem_take, List.getD_eq_getElem?_getD, List.getElem?_eq_getElem (by omega)]; rfl
  rw [e, List.all_cons, Bool.and_assoc]
theorem tell_last {t : Int} {l : List Int} {k : Nat} : tellAt t l k k = tellL t (l.take (k + 1)) (l.drop (k + 1)) := by
  unfold tellAt
  rw [List.drop_of_length_le (by rw [List.length_take]; omega)]; rfl

end Go.Proofs.YteahjnobnbafiaaDoor
