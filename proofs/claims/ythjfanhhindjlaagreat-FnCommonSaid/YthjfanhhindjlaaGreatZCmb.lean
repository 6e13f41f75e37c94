/-
  Several texts in one: NumA TermZ Texts Comb. Conditions: as each theorem says.
-/
import Derived.Test.YthjfanhhindjlaaGreatRows
import Derived.Test.YthjfanhhindjlaaGreatZLib
import Derived.Lib.ItoaNum
import Derived.Lib.ItoaMem
import Derived.Deep.RegionHeld3
import Derived.WalkSpells
import Derived.Deep.RegionWith
import Derived.IntWalk
import Derived.Test.YthjfanhhindjlaaGreatZTmx
import Derived.Test.YthjfanhhindjlaaGreatLayA
/-
  Contracts of spec.FormatInt and impl.FormatInt: both return the decimal numeral. The second reads a table of the library's, which is a premise.
-/
namespace Go.Proofs.YthjfanhhindjlaaGreat
open Go.RowKit
open Go

theorem dec_len (u : Nat) : ∀ f, u < 10 ^ f → (Lib.decDigits u).length ≤ f + 1 := by
  intro f
  induction f generalizing u with
  | zero => intro h; rw [Lib.decDigits, dif_pos (by omega)]; simp
  | succ f ih =>
    intro h
    rw [Lib.decDigits]
    split
    · simp
    · have := ih (u / 10) (by omega)
      simp; omega
theorem ofNat48 (k : Nat) : UInt8.ofNat (48 + k) = 48 + UInt8.ofNat k := by
  rw [UInt8.ofNat_add]; rfl
theorem dec_step {k : Nat} (h : 9 < k) (l : List UInt8) : Lib.decDigits k ++ l = Lib.decDigits (k / 10) ++ ((48 + UInt8.ofNat (k % 10)) :: l) := by
  conv => lhs; rw [Lib.decDigits, dif_neg (by omega)]
  rw [ofNat48]; simp
theorem dec_last {k : Nat} (h : k ≤ 9) (l : List UInt8) : Lib.decDigits k ++ l = (48 + UInt8.ofNat k) :: l := by
  rw [Lib.decDigits, dif_pos (by omega), ofNat48]; rfl

set_option maxRecDepth 100000 in
set_option maxHeartbeats 1000000 in
theorem specFormat_pos (k0 : Nat) (w : World) (hk : k0 ≤ 9223372036854775807) :
    Calls Tryz.prog 107 #[.int .i64 k0] w fun e w' => e = .returned (.string ⟨(Lib.decDigits k0).toArray⟩) ∧ Below w.heap.size w w' := by
  go_enter Tryz.func107, Tryz.ntmps107
  go_wp2
  go_loopw [0, 3] (fun kv out wr => ∃ (k : Nat) (l : List UInt8), kv = .int .i64 k ∧ k ≤ 9223372036854775807 ∧ out = .string ⟨l.toArray⟩ ∧ (l.length = 0 ∨ k + l.length + 8 ≤ 9223372036854775807) ∧ Hid (Lib.decDigits k ++ l = Lib.decDigits k0) ∧ Hid (Below w.heap.size w wr) ∧ w.heap.size ≤ wr.heap.size) (fun kv _ _ => (intOf kv).toNat)
  case atStart => exact ⟨k0, [], rfl, hk, rfl, .inl rfl, Lib.hid (by simp), Lib.hid (Below.refl _ _), Nat.le_refl _⟩
  case round =>
    obtain ⟨k, l, rfl, hkm, rfl, hkl, HD, HB, hsz⟩ := hrel
    have hl1 : l.length + 1 ≤ 9223372036854775807 := by omega
    by_cases hlt : 9 < k
    · have hmod : (k : Int) % 10 < 10 := by omega
      have hmod0 : 0 ≤ (k : Int) % 10 := by omega
      have hcv := run_bytes_one (P := Tryz.prog) Tryz.underlying42 Tryz.underlying5 Tryz.underlying9 wr (48 + (k : Int) % 10)
      go_wp2
      go_roundw
      case rel =>
        refine ⟨k / 10, (48 + UInt8.ofNat (k % 10)) :: l, by simp, by omega, ?_, .inr (by simp; omega), Lib.hid ?_, Lib.hid (HB.out.alloc hsz _), by simp; omega⟩
        · rw [ByteArray.mk_append_lists]
        · rw [← HD.out, dec_step hlt]
      case measure => simp [intOf]; omega
    · have hcv := run_bytes_one (P := Tryz.prog) Tryz.underlying42 Tryz.underlying5 Tryz.underlying9 wr (48 + (k : Int))
      go_wp2
      go_ret
      exact ⟨ret_str (by rw [← HD.out, dec_last (by omega)]; rw [ByteArray.mk_append_lists]), HB.out.alloc hsz _⟩

theorem tq_facts (n : Int) (h : n < 0) : n.tdiv 10 = -((-n) / 10) ∧ n.tmod 10 = -((-n) % 10) := by
  obtain ⟨m, rfl⟩ : ∃ m : Nat, n = -(m : Int) := ⟨(-n).toNat, by omega⟩
  rw [Int.neg_tdiv, Int.neg_tmod, Int.neg_neg, Int.tdiv_eq_ediv_of_nonneg (by omega), Int.tmod_eq_emod_of_nonneg (by omega)]
  exact ⟨rfl, rfl⟩
theorem natAbs_div (n : Int) (h : n < 0) : (-((-n) / 10)).natAbs = n.natAbs / 10 ∧ (48 - -((-n) % 10)).toNat = 48 + n.natAbs % 10 := by omega

set_option maxHeartbeats 2000000 in
theorem specFormat_neg (f : Nat) : ∀ (n : Int) (w : World), -(f : Int) ≤ n → n < 0 → -9223372036854775808 ≤ n →
    Calls Tryz.prog 107 #[.int .i64 n] w fun e w' => e = .returned (.string ⟨(45 :: Lib.decDigits n.natAbs).toArray⟩) ∧ Below w.heap.size w w' := by
  induction f with
  | zero => intro n w h1 h2; omega
  | succ f ih =>
    intro n w h1 h2 h3
    obtain ⟨t1, t2⟩ := tq_facts n h2
    have b1 : -9 ≤ n.tmod 10 := by omega
    have b2 : n.tmod 10 ≤ 0 := by omega
    by_cases h9 : -9 ≤ n
    · have hz : (n.tdiv 10 == 0) = true := by rw [beq_iff_eq]; omega
      have HD := Lib.hid (show (45 :: Lib.decDigits n.natAbs) = [45, UInt8.ofNat (48 - n).toNat] from by
        rw [Lib.decDigits, dif_pos (by omega), show (48 - n).toNat = 48 + n.natAbs by omega])
      have hcv := run_bytes_one (P := Tryz.prog) Tryz.underlying42 Tryz.underlying5 Tryz.underlying9 w (48 - n)
      clear t1 t2 ih
      go_enter Tryz.func107, Tryz.ntmps107
      go_wp2
      go_ret
      exact ⟨ret_str (by rw [HD.out]; rfl), (Below.refl _ _).alloc (Nat.le_refl _) _⟩
    · have hz : (n.tdiv 10 == 0) = false := by rw [beq_eq_false_iff_ne]; omega
      have IH := Lib.hid (fun W => ih (n.tdiv 10) W (by omega) (by rw [t1]; omega) (by omega))
      have HD := Lib.hid (show (45 :: Lib.decDigits n.natAbs) = (45 :: Lib.decDigits (n.tdiv 10).natAbs) ++ [UInt8.ofNat (48 - n.tmod 10).toNat] from by
        conv => lhs; rw [Lib.decDigits, dif_neg (by omega)]
        rw [t1, t2, (natAbs_div n h2).1, (natAbs_div n h2).2]; rfl)
      have hlen : (Lib.decDigits (n.tdiv 10).natAbs).length ≤ 21 := dec_len _ 20 (by rw [t1, (natAbs_div n h2).1]; omega)
      generalize 45 :: Lib.decDigits n.natAbs = R at HD
      have q1 : -9223372036854775808 ≤ n.tdiv 10 := by omega
      have q2 : n.tdiv 10 ≤ 0 := by omega
      obtain ⟨D, hD⟩ : ∃ D, D = 45 :: Lib.decDigits (n.tdiv 10).natAbs := ⟨_, rfl⟩
      have hDl : D.length ≤ 22 := by rw [hD, List.length_cons]; omega
      rw [← hD] at HD IH
      have hcv := fun (W : World) (b : Nat) (hc : W.cell? ⟨b, 0, none⟩ = some (.int .u8 (48 - n.tmod 10))) => run_bytes_cell (P := Tryz.prog) Tryz.underlying42 Tryz.underlying5 Tryz.underlying9 W b (48 - n.tmod 10) hc
      clear t1 t2 ih hD hlen
      go_enter Tryz.func107, Tryz.ntmps107
      go_wp2_with fail
      have e1 : IntKind.i64.wrap (n.tdiv 10) = n.tdiv 10 := IntWalk.i64_in _ (by omega)
      have e2 : IntKind.i64.wrap (48 - n.tmod 10) = 48 - n.tmod 10 := IntWalk.i64_in _ (by omega)
      have e3 : IntKind.u8.wrap (48 - n.tmod 10) = 48 - n.tmod 10 := IntWalk.u8_in _ (by omega)
      go_region_with
        ((go_at_call 107; refine (IH.out _).mono ?_; rintro e w1 ⟨rfl, hb1⟩; try (have hk : w1.cell? ⟨w.heap.size, 0, none⟩ = some (.int .u8 (48 - n.tmod 10)) := (hb1.cell (p := ⟨w.heap.size, 0, none⟩) (by simp)).trans ((World.cell?_alloc_at _ _ _ _ rfl).trans rfl))))
      all_goals clear e1 e2 e3
      all_goals go_wp2
      all_goals go_ret
      all_goals refine ⟨ret_str (by rw [HD.out, ← ByteArray.mk_append_mk]), ?_⟩
      · have := hb1.size
        exact (((Below.refl _ _).drew).trans hb1).alloc (by simpa using this) _
      all_goals exact (((Below.refl _ _).drew).alloc (Nat.le_refl _) _).trans (hb1.mono (by simp))

theorem specFormat_any (n : Int) (w : World) (h0 : -9223372036854775808 ≤ n) (h1 : n ≤ 9223372036854775807) :
    Calls Tryz.prog 107 #[.int .i64 n] w fun e w' => e = .returned (.string ⟨(Lib.itoa n).toArray⟩) ∧ Below w.heap.size w w' := by
  by_cases h : n < 0
  · rw [show Lib.itoa n = 45 :: Lib.decDigits n.natAbs from if_pos h]
    exact specFormat_neg n.natAbs n w (by omega) h h0
  · obtain ⟨k, rfl⟩ : ∃ k : Nat, n = k := ⟨n.toNat, by omega⟩
    rw [Lib.itoa_nonneg]
    exact specFormat_pos k w (by omega)
end Go.Proofs.YthjfanhhindjlaaGreat

/-
  Contract of spec.l02Text (by the node).
-/
namespace Go.Proofs.YthjfanhhindjlaaGreat
open Go.RowKit
open Go Go.Deep

theorem node_keptZ {w w2 : World} {c : Array Value} {T : TypeId} (hb : Below (w.alloc (.cells c T)).heap.size (w.alloc (.cells c T)) w2) (k : Nat) : w2.cell? ⟨w.heap.size, k, none⟩ = c[k]? := by
  rw [hb.cell (p := ⟨w.heap.size, k, none⟩) (by simp), World.cell?_alloc_at _ _ _ _ rfl]

theorem specSmall_any (n : Int) (w : World) (h : n = 0 ∨ n = 1 ∨ n = 2) : Calls Tryz.prog 107 #[.int .i64 n] w fun e w' => e = .returned (.string (str [UInt8.ofNat (48 + n.toNat)])) ∧ Below w.heap.size w w' := by
  rcases h with rfl | rfl | rfl
  · have e := dec_last (k := 0) (by decide) []
    have := specFormat_pos 0 w (by decide)
    rw [List.append_nil] at e
    rw [e] at this
    exact this
  · have e := dec_last (k := 1) (by decide) []
    have := specFormat_pos 1 w (by decide)
    rw [List.append_nil] at e
    rw [e] at this
    exact this
  · have e := dec_last (k := 2) (by decide) []
    have := specFormat_pos 2 w (by decide)
    rw [List.append_nil] at e
    rw [e] at this
    exact this

end Go.Proofs.YthjfanhhindjlaaGreat

/-
  Contracts of termOf and of FormatFormula and DepthOf of both sides.
-/
namespace Go.Proofs.YthjfanhhindjlaaGreat
open Go.RowKit
open Go Go.Deep

/-- the term of a formula -/
def termOfL (xs : List Nd) : Tm := tmAt xs (xs.length - 1)
theorem termOfL_wf {xs : List Nd} (h : formOk xs = true) : (termOfL xs).wf := form_wf h
theorem termOfL_size {xs : List Nd} (h : formOk xs = true) : (termOfL xs).size ≤ 40 := by
  have := form_size h
  have := (formOk_parts h).2.1
  unfold termOfL; omega
/-- the text of a formula -/
def textL (xs : List Nd) : ByteArray := if formOk xs then str (txt (termOfL xs)) else ByteArray.mk #[]
/-- the depth of a formula -/
def depthL (xs : List Nd) : Int := if formOk xs then ((termOfL xs).deep : Int) else -1

theorem lastIx {xs : List Nd} (h : 1 ≤ xs.length) : ((xs.length - 1 : Nat) : Int) = (xs.length : Int) - 1 := by omega

set_option maxRecDepth 100000 in
set_option maxHeartbeats 4000000 in
theorem termOf_yes (xs : List Nd) (v : Value) (w : World) (hf : formOk xs = true) (hr : Ns w v xs) :
    Calls Tryz.prog 48 #[v] w fun e w' => e = .returned (.tuple #[tv (termOfL xs), .bool true]) ∧ Below w.heap.size w w' := by
  have K := Lib.hid (fun W h => implForm_any v xs W h)
  rw [hf] at K
  have hp := formOk_parts hf
  have KT := Lib.hid (fun W (h : Below w.heap.size w W) => termAt_any xs v hp.2.2.1 _ (xs.length - 1) W (Nat.lt_succ_self _) (by omega) (hr.below h (Nat.le_refl _)))
  rw [lastIx hp.1] at KT
  have HR := Lib.hid hr
  obtain ⟨a, cap, rfl, h1, h2, h3⟩ := hr
  unfold maxLen at h2
  have hl := hp.1
  clear h3 hp hf
  unfold termOfL
  generalize tv (tmAt xs (xs.length - 1)) = R at *
  go_enter Tryz.func48, Tryz.ntmps48
  go_wp2_with fail
  refine (K.out _ HR.out).mono ?_
  rintro e w1 ⟨rfl, hb1⟩
  have B1 := Lib.hid hb1; clear hb1
  go_wp2_with fail
  refine (KT.out _ B1.out).mono ?_
  rintro e w2 ⟨rfl, hb2⟩
  have B2 := Lib.hid (B1.out.trans (hb2.mono B1.out.size)); clear hb2
  go_wp2
  go_returns
  exact ⟨rfl, B2.out⟩
set_option maxHeartbeats 4000000 in
theorem termOf_no (xs : List Nd) (v : Value) (w : World) (hf : formOk xs = false) (hr : Ns w v xs) :
    Calls Tryz.prog 48 #[v] w fun e w' => e = .returned (.tuple #[.nilIface, .bool false]) ∧ Below w.heap.size w w' := by
  have K := Lib.hid (fun W h => implForm_any v xs W h)
  rw [hf] at K
  have HR := Lib.hid hr
  clear hf hr
  go_enter Tryz.func48, Tryz.ntmps48
  go_wp2_with fail
  refine (K.out _ HR.out).mono ?_
  rintro e w1 ⟨rfl, hb1⟩
  have B1 := Lib.hid hb1; clear hb1
  go_wp2
  go_returns
  exact ⟨rfl, B1.out⟩

set_option maxHeartbeats 4000000 in
theorem implFormat_any (xs : List Nd) (v : Value) (w : World) (hr : Ns w v xs) :
    Calls Tryz.prog 20 #[v] w fun e w' => e = .returned (.string (textL xs)) ∧ Below w.heap.size w w' := by
  cases hf : formOk xs with
  | false =>
    rw [show textL xs = ByteArray.mk #[] by unfold textL; rw [hf]; rfl]
    have K := Lib.hid (fun W h => termOf_no xs v W hf h)
    have HR := Lib.hid hr
    clear hf hr
    go_enter Tryz.func20, Tryz.ntmps20
    go_wp2_with fail
    refine (K.out _ HR.out).mono ?_
    rintro e w1 ⟨rfl, hb1⟩
    have B1 := Lib.hid hb1; clear hb1
    go_wp2
    go_ret
    exact ⟨rfl, B1.out⟩
  | true =>
    rw [show textL xs = str (txt (termOfL xs)) by unfold textL; rw [hf]; rfl]
    have K := Lib.hid (fun W h => termOf_yes xs v W hf h)
    have KT := Lib.hid (fun W => textOf_any (termOfL xs) W (termOfL_wf hf) (by have := termOfL_size hf; omega))
    have HR := Lib.hid hr
    clear hf hr
    generalize str (txt (termOfL xs)) = R at *
    go_enter Tryz.func20, Tryz.ntmps20
    go_wp2_with fail
    refine (K.out _ HR.out).mono ?_
    rintro e w1 ⟨rfl, hb1⟩
    have B1 := Lib.hid hb1; clear hb1
    go_wp2_with fail
    refine (KT.out _).mono ?_
    rintro e w2 ⟨rfl, hb2⟩
    have B2 := Lib.hid (B1.out.trans (hb2.mono B1.out.size)); clear hb2
    go_wp2
    go_ret
    exact ⟨rfl, B2.out⟩

end Go.Proofs.YthjfanhhindjlaaGreat

/-
  Contracts of formulaOf, combine, and impl.Negate, Conjoin, Known, After.
-/
namespace Go.Proofs.YthjfanhhindjlaaGreat
open Go.RowKit
open Go Go.Deep

/-- an answer that is a list of nodes and a bool -/
def Ans (w : World) (r : Option (List Nd)) (e : Ending) (w' : World) : Prop :=
  ∃ v, e = .returned (.tuple #[v, .bool r.isSome]) ∧ w'.ownsRow w.heap.size 62 4 v (r.getD []).length (ndCells (r.getD [])) ∧ Below w.heap.size w w'
theorem Ans.none_of {w w' : World} (h : Below w.heap.size w w') : Ans w none (.returned (.tuple #[.slice none 0 0, .bool false])) w' := ⟨_, rfl, World.ownsRow_nil _ _ _ _, h⟩
/-- an answer given in a later world -/
theorem Ans.later {w w1 w' : World} {r : Option (List Nd)} {e : Ending} (hb : Below w.heap.size w w1) (h : Ans w1 r e w') : Ans w r e w' := by
  obtain ⟨v, he, ho, hb'⟩ := h
  exact ⟨v, he, own_mono ho hb.size, hb.trans (hb'.mono hb.size)⟩

/-- the formula of a term, if it is one -/
def combL (t : Tm) : Option (List Nd) := if formOk (lay 0 t) then some (lay 0 t) else none
theorem combL_wf {t : Tm} (h : t.wf) : combL t = parsed (txt t) := by
  unfold combL
  by_cases hs : t.size ≤ 40
  · rw [if_pos (lay_formOk h hs), parsed_txt h hs]
  · rw [parsed_big h (by omega), if_neg (by rw [lay_formNot (by omega)]; decide)]

set_option maxRecDepth 100000 in
set_option maxHeartbeats 4000000 in
theorem formulaOf_any (t : Tm) (w : World) (hs : t.size ≤ 199) :
    Calls Tryz.prog 51 #[tv t] w (Ans w (combL t)) := by
  have KL := Lib.hid (fun W => layOut_any t W (.slice none 0 0) 0 [] W.heap.size (by omega) (World.ownsRow_nil _ _ _ _) (Nat.le_refl _))
  have KO := Lib.hid (fun v W h => implForm_any v (lay 0 t) W h)
  have hl := lay_len 0 t
  cases hf : formOk (lay 0 t) with
  | false =>
    rw [show combL t = none by unfold combL; rw [hf]; rfl]
    rw [hf] at KO
    clear hf hs hl
    go_enter Tryz.func51, Tryz.ntmps51
    go_wp2_with fail
    refine (KL.out _).mono ?_
    rintro e w1 ⟨v1, rfl, ho, hb1, _⟩
    rw [List.nil_append] at ho
    have N1 := Lib.hid (Ns.of_own ho)
    have B1 := Lib.hid hb1
    clear ho hb1
    go_wp2_with fail
    refine (KO.out _ _ N1.out).mono ?_
    rintro e w2 ⟨rfl, hb2⟩
    have B2 := Lib.hid (B1.out.trans (hb2.mono B1.out.size)); clear hb2
    go_wp2
    go_returns
    exact Ans.none_of B2.out
  | true =>
    rw [show combL t = some (lay 0 t) by unfold combL; rw [hf]; rfl]
    rw [hf] at KO
    clear hf hs
    have HL := Lib.hid hl
    clear hl
    go_enter Tryz.func51, Tryz.ntmps51
    go_wp2_with fail
    refine (KL.out _).mono ?_
    rintro e w1 ⟨v1, rfl, ho, hb1, _⟩
    rw [List.nil_append] at ho
    have O1 := Lib.hid ho
    have N1 := Lib.hid (Ns.of_own ho)
    have B1 := Lib.hid hb1
    clear ho hb1
    go_wp2_with fail
    refine (KO.out _ _ N1.out).mono ?_
    rintro e w2 ⟨rfl, hb2⟩
    have O2 := Lib.hid (own_below O1.out hb2 (Nat.le_refl _))
    have B2 := Lib.hid (B1.out.trans (hb2.mono B1.out.size)); clear hb2
    go_wp2
    go_returns
    refine ⟨_, rfl, ?_, B2.out⟩
    have := O2.out
    rw [Nat.zero_add, ← HL.out] at this
    exact this

end Go.Proofs.YthjfanhhindjlaaGreat
