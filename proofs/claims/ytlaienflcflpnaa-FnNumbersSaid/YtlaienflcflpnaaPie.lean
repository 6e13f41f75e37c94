/-
  The map of a person: choices.only; person.isSure: the pair is the only one of its group. Condition: the numbers are such as a machine has.
-/
import Derived.Test.YtlaienflcflpnaaPid
import Derived.Test.YtlaienflcflpnaaZReg
import Derived.Deep.DeepCutAuto
namespace Go.Proofs.Ytlaienflcflpnaa
open Go.RowKit Go.WideShapes
open Go Go.Deep
set_option linter.unusedSimpArgs false

def onlyV (l : List Pr) : Pr := if l.length = 1 then l.getD 0 default else default
set_option maxRecDepth 100000 in
set_option maxHeartbeats 4000000 in
theorem only_any (B b c : Nat) (D : DataW Value) (V : Int → Value) (g : Int → List Pr) (k : Int) (W : World) (h : Grp Try.prog 3 25 W B b c D V g) (hk : (Lit.int .i64 k).wf = true) :
    Calls Try.prog 53 #[.map (some b), .int .i64 k] W fun e W' => e = .returned (.tuple #[(onlyV (g k)).v, .bool (decide ((g k).length = 1))]) ∧ Below W.heap.size W W' := by
  have HKK := Lib.hid (keyI hk)
  have HE := Lib.hid (h.elt k)
  have hlt := h.own.lt
  obtain ⟨va, vc, hv, hvc, hvm, hcell⟩ := (Ps.of_own (h.row k)).parts
  rw [hv] at HE
  have HOWN := Lib.hid h.own
  have HC := Lib.hid hcell
  unfold maxLen at hvm
  clear hv h hcell
  unfold onlyV
  generalize g k = gk at *
  by_cases hl : gk.length = 1
  · obtain ⟨r, o, rfl, hr, c0, c1⟩ := HC.out 0 (by omega)
    rw [Nat.zero_mul, Nat.add_zero] at c0 c1
    have HR : Hid ((if gk.length = 1 then gk.getD 0 default else default) = gk.getD 0 default) := Lib.hid (if_pos hl)
    have HD : Hid (decide (gk.length = 1) = true) := Lib.hid (decide_eq_true hl)
    rw [HR.out, HD.out]
    generalize gk.getD 0 default = x at *
    obtain ⟨xa, xb⟩ := x
    simp only at c0 c1
    rw [hl] at HE hvc
    clear hl HC HR HD
    unfold Pr.v
    go_enter Try.func53, Try.ntmps53
    go_wp2_with
      (at_lookup; refine wpList_lookup_heldP _ rfl _ _ 58 28 rfl lawI Try.underlying58 (zeroPs _) rfl (HOWN.out.alloc _) _ _ rfl HKK.out HE.out ?_)
    go_returns
    exact ⟨rfl, by go_grown⟩
  · have HR : Hid ((if gk.length = 1 then gk.getD 0 default else default) = default) := Lib.hid (if_neg hl)
    have HD : Hid (decide (gk.length = 1) = false) := Lib.hid (decide_eq_false hl)
    have hli : ((gk.length : Int) == 1) = false := beq_eq_false_iff_ne.2 (by omega)
    rw [HR.out, HD.out]
    show Calls _ _ _ _ fun e W' => e = .returned (.tuple #[.agg #[.int .i64 0, .int .i64 0], .bool false]) ∧ _
    clear HR HD HC
    go_enter Try.func53, Try.ntmps53
    go_wp2_with
      (at_lookup; refine wpList_lookup_heldP _ rfl _ _ 58 28 rfl lawI Try.underlying58 (zeroPs _) rfl (HOWN.out.alloc _) _ _ rfl HKK.out HE.out ?_)
    go_returns
    exact ⟨rfl, by go_grown⟩
end Go.Proofs.Ytlaienflcflpnaa
