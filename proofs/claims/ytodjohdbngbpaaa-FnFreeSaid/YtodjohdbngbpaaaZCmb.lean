/-
  Several texts in one: NumA TermZ Texts Comb. Conditions: as each theorem says.
-/
import Derived.Test.YtodjohdbngbpaaaRows
import Derived.Test.YtodjohdbngbpaaaZLib
import Derived.Lib.ItoaNum
import Derived.Lib.ItoaMem
import Derived.Deep.RegionHeld3
import Derived.WalkSpells
import Derived.Deep.RegionWith
import Derived.IntWalk
import Derived.Test.YtodjohdbngbpaaaZTmx
import Derived.Test.YtodjohdbngbpaaaLayA
/-
  Contracts of spec.FormatInt and impl.FormatInt: both return the decimal numeral. The second reads a table of the library's, which is a premise.
-/
namespace Go.Proofs.Ytodjohdbngbpaaa
open Go.RowKit
open Go

theorem dec_len (u : Nat) : ∀ f, u < 10 ^ f → (Lib.decDigits u).length ≤ f + 1 := by
  intro f
  induction f generalizing u with
  | zero => intro h; rw [Lib.decDigits, dif_pos (by omega)]; simp
  | succ f ih =>
    intro h
    rw [Lib.decDigits]
    split
    · simp
    · have := ih (u / 10) (by omega)
      simp; omega
theorem ofNat48 (k : Nat) : UInt8.ofNat (48 + k) = 48 + UInt8.ofNat k := by
  rw [UInt8.ofNat_add]; rfl
theorem dec_step {k : Nat} (h : 9 < k) (l : List UInt8) : Lib.decDigits k ++ l = Lib.decDigits (k / 10) ++ ((48 + UInt8.ofNat (k % 10)) :: l) := by
  conv => lhs; rw [Lib.decDigits, dif_neg (by omega)]
  rw [ofNat48]; simp
theorem dec_last {k : Nat} (h : k ≤ 9) (l : List UInt8) : Lib.decDigits k ++ l = (48 + UInt8.ofNat k) :: l := by
  rw [Lib.decDigits, dif_pos (by omega), ofNat48]; rfl

theorem tq_facts (n : Int) (h : n < 0) : n.tdiv 10 = -((-n) / 10) ∧ n.tmod 10 = -((-n) % 10) := by
  obtain ⟨m, rfl⟩ : ∃ m : Nat, n = -(m : Int) := ⟨(-n).toNat, by omega⟩
  rw [Int.neg_tdiv, Int.neg_tmod, Int.neg_neg, Int.tdiv_eq_ediv_of_nonneg (by omega), Int.tmod_eq_emod_of_nonneg (by omega)]
  exact ⟨rfl, rfl⟩
theorem natAbs_div (n : Int) (h : n < 0) : (-((-n) / 10)).natAbs = n.natAbs / 10 ∧ (48 - -((-n) % 10)).toNat = 48 + n.natAbs % 10 := by omega

end Go.Proofs.Ytodjohdbngbpaaa

/-
  Contract of spec.l02Text (by the node).
-/
namespace Go.Proofs.Ytodjohdbngbpaaa
open Go.RowKit
open Go Go.Deep

theorem node_keptZ {w w2 : World} {c : Array Value} {T : TypeId} (hb : Below (w.alloc (.cells c T)).heap.size (w.alloc (.cells c T)) w2) (k : Nat) : w2.cell? ⟨w.heap.size, k, none⟩ = c[k]? := by
  rw [hb.cell (p := ⟨w.heap.size, k, none⟩) (by simp), World.cell?_alloc_at _ _ _ _ rfl]

end Go.Proofs.Ytodjohdbngbpaaa

/-
  Contracts of termOf and of FormatFormula and DepthOf of both sides.
-/
namespace Go.Proofs.Ytodjohdbngbpaaa
open Go.RowKit
open Go Go.Deep

/-- the term of a formula -/
def termOfL (xs : List Nd) : Tm := tmAt xs (xs.length - 1)
theorem termOfL_wf {xs : List Nd} (h : formOk xs = true) : (termOfL xs).wf := form_wf h
theorem termOfL_size {xs : List Nd} (h : formOk xs = true) : (termOfL xs).size ≤ 40 := by
  have := form_size h
  have := (formOk_parts h).2.1
  unfold termOfL; omega
/-- the text of a formula -/
def textL (xs : List Nd) : ByteArray := if formOk xs then str (txt (termOfL xs)) else ByteArray.mk #[]
/-- the depth of a formula -/
def depthL (xs : List Nd) : Int := if formOk xs then ((termOfL xs).deep : Int) else -1

theorem lastIx {xs : List Nd} (h : 1 ≤ xs.length) : ((xs.length - 1 : Nat) : Int) = (xs.length : Int) - 1 := by omega

end Go.Proofs.Ytodjohdbngbpaaa

/-
  Contracts of formulaOf, combine, and impl.Negate, Conjoin, Known, After.
-/
namespace Go.Proofs.Ytodjohdbngbpaaa
open Go.RowKit
open Go Go.Deep

/-- an answer that is a list of nodes and a bool -/
def Ans (w : World) (r : Option (List Nd)) (e : Ending) (w' : World) : Prop :=
  ∃ v, e = .returned (.tuple #[v, .bool r.isSome]) ∧ w'.ownsRow w.heap.size 91 4 v (r.getD []).length (ndCells (r.getD [])) ∧ Below w.heap.size w w'
theorem Ans.none_of {w w' : World} (h : Below w.heap.size w w') : Ans w none (.returned (.tuple #[.slice none 0 0, .bool false])) w' := ⟨_, rfl, World.ownsRow_nil _ _ _ _, h⟩
/-- an answer given in a later world -/
theorem Ans.later {w w1 w' : World} {r : Option (List Nd)} {e : Ending} (hb : Below w.heap.size w w1) (h : Ans w1 r e w') : Ans w r e w' := by
  obtain ⟨v, he, ho, hb'⟩ := h
  exact ⟨v, he, own_mono ho hb.size, hb.trans (hb'.mono hb.size)⟩

/-- the formula of a term, if it is one -/
def combL (t : Tm) : Option (List Nd) := if formOk (lay 0 t) then some (lay 0 t) else none
theorem combL_wf {t : Tm} (h : t.wf) : combL t = parsed (txt t) := by
  unfold combL
  by_cases hs : t.size ≤ 40
  · rw [if_pos (lay_formOk h hs), parsed_txt h hs]
  · rw [parsed_big h (by omega), if_neg (by rw [lay_formNot (by omega)]; decide)]

set_option maxRecDepth 100000 in
set_option maxHeartbeats 4000000 in
theorem formulaOf_any (t : Tm) (w : World) (hs : t.size ≤ 199) :
    Calls Try.prog 35 #[tv t] w (Ans w (combL t)) := by
  have KL := Lib.hid (fun W => layOut_any t W (.slice none 0 0) 0 [] W.heap.size (by omega) (World.ownsRow_nil _ _ _ _) (Nat.le_refl _))
  have KO := Lib.hid (fun v W h => implForm_any v (lay 0 t) W h)
  have hl := lay_len 0 t
  cases hf : formOk (lay 0 t) with
  | false =>
    rw [show combL t = none by unfold combL; rw [hf]; rfl]
    rw [hf] at KO
    clear hf hs hl
    go_enter Try.func35, Try.ntmps35
    go_wp2_with fail
    refine (KL.out _).mono ?_
    rintro e w1 ⟨v1, rfl, ho, hb1, _⟩
    rw [List.nil_append] at ho
    have N1 := Lib.hid (Ns.of_own ho)
    have B1 := Lib.hid hb1
    clear ho hb1
    go_wp2_with fail
    refine (KO.out _ _ N1.out).mono ?_
    rintro e w2 ⟨rfl, hb2⟩
    have B2 := Lib.hid (B1.out.trans (hb2.mono B1.out.size)); clear hb2
    go_wp2
    go_returns
    exact Ans.none_of B2.out
  | true =>
    rw [show combL t = some (lay 0 t) by unfold combL; rw [hf]; rfl]
    rw [hf] at KO
    clear hf hs
    have HL := Lib.hid hl
    clear hl
    go_enter Try.func35, Try.ntmps35
    go_wp2_with fail
    refine (KL.out _).mono ?_
    rintro e w1 ⟨v1, rfl, ho, hb1, _⟩
    rw [List.nil_append] at ho
    have O1 := Lib.hid ho
    have N1 := Lib.hid (Ns.of_own ho)
    have B1 := Lib.hid hb1
    clear ho hb1
    go_wp2_with fail
    refine (KO.out _ _ N1.out).mono ?_
    rintro e w2 ⟨rfl, hb2⟩
    have O2 := Lib.hid (own_below O1.out hb2 (Nat.le_refl _))
    have B2 := Lib.hid (B1.out.trans (hb2.mono B1.out.size)); clear hb2
    go_wp2
    go_returns
    refine ⟨_, rfl, ?_, B2.out⟩
    have := O2.out
    rw [Nat.zero_add, ← HL.out] at this
    exact this

end Go.Proofs.Ytodjohdbngbpaaa
