/-
  Single operations inside a fence that lets every function in: the plain walk's laws for values with letters in them. No condition.
-/
import Derived.RangeFuncBox
import Derived.RangeFuncNested
import Derived.RangeFuncBound
import Derived.RangeFuncCalls
import Derived.RangeFuncLeaves
import Derived.Shelf.Abstract
import Derived.Shelf.RegionOpen
import Derived.WalkKit
import Derived.OwnWalkIn
import Derived.TacticsInMore
import Derived.LoopNIn
import Derived.LoopIn
import Derived.Maps.AppendAt
import Derived.Test.YtgmpenchojnihaaGreatZSet
namespace Go.Proofs.YtgmpenchojnihaaGreat
open Go.RowKit Go.WideShapes Go.Shelf
open Go Go.Deep
set_option linter.unusedSimpArgs false

section
variable {F : Fence} {m : Nat} {P : Program}
theorem wpListIn_op {ops : Array Oper} {rest : List Oper} {o : Oper} {a : Act} {w w' : World} {Q : Exit → Act → World → Prop} (hf : ∀ f, F.fn f) (hs : o.semAt F.round a.eval = execOp a.eval o) (hgd : o.guard = none) (v : Value)
    (hr : (execOp a.eval o).run P w = .ok (.value v) w') (h : wpListIn F m P ops Q rest (a.put o.dst v) w') : wpListIn F m P ops Q (o :: rest) a w :=
  wpListIn_plain hgd fun _ hK => ⟨fun f _ => hf f, by rw [hs, hr]; exact hK _ _ h⟩
/-- a plain operation of the lone walk, inside the widest fence -/
theorem wpListIn_of {ops : Array Oper} {rest : List Oper} {o : Oper} {a : Act} {w : World} {Q : Exit → Act → World → Prop} (hs : o.semAt F.round a.eval = execOp a.eval o) (hf : ∀ f, F.fn f) (hgd : o.guard = none)
    (h : ∃ v w', (execOp a.eval o).run P w = .ok (.value v) w' ∧ wpListIn F m P ops Q rest (a.put o.dst v) w') : wpListIn F m P ops Q (o :: rest) a w := by
  obtain ⟨v, w', h1, h2⟩ := h
  exact wpListIn_op hf hs hgd v h1 h2
theorem wpListIn_loadM {ops : Array Oper} {rest : List Oper} {o : Oper} {a : Act} {w : World} {Q : Exit → Act → World → Prop} (hf : ∀ f, F.fn f) (hs : o.semAt F.round a.eval = execOp a.eval o) (hgd : o.guard = none) (ty : TypeId) (x : Operand) (ho : o.op = .load ty x)
    (b off : Nat) (hx : a.eval x = .pointer (some ⟨b, off, none⟩)) (B : TypeId) (cs ds : List Value) (hc : Cm w b B cs) (hd : ∀ j, j < ds.length → cs[off + j]? = ds[j]?)
    (d : TypeDesc) (hu : P.underlying ty = some d) (hr : d.isRow = true) (hi : (P.info? ty).map (·.size) = some ds.length)
    (h : wpListIn F m P ops Q rest (a.put o.dst (.agg ds.toArray)) w) : wpListIn F m P ops Q (o :: rest) a w := by
  refine wpListIn_op hf hs hgd (.agg ds.toArray) ?_ h
  unfold execOp
  simp only [ho, hx, Instr.loadAt, Instr.sureAddr, Sem.run_bind, Sem.run_pure, Result.andThen_ok, run_loadVar_mid w b off ty ds d (hc.range off ds hd) hu hr hi]
theorem wpListIn_indexM {ops : Array Oper} {rest : List Oper} {o : Oper} {a : Act} {w : World} {Q : Exit → Act → World → Prop} (hf : ∀ f, F.fn f) (hs : o.semAt F.round a.eval = execOp a.eval o) (hgd : o.guard = none) (ty : TypeId) (x ix : Operand) (ho : o.op = .index ty x ix)
    (cs : List Value) (hx : a.eval x = .agg cs.toArray) (k : IntKind) (i : Nat) (hix : a.eval ix = .int k i) (n : Nat) (e : TypeId) (hu : P.underlying ty = some (.array n e)) (hp : P.plainKey e = true)
    (ti : TypeInfo) (hi : P.info? e = some ti) (hsz : ti.size = 1) (hn : i < n) (v : Value) (hv : cs[i]? = some v)
    (h : wpListIn F m P ops Q rest (a.put o.dst v) w) : wpListIn F m P ops Q (o :: rest) a w := by
  have hpart := run_part_plain (P := P) w hp (xs := cs.toArray) (off := i) (v := v) (by simpa using hv)
  refine wpListIn_op hf hs hgd v ?_ h
  have hsz : P.cellsOf e = 1 := by simp [Program.cellsOf, hi, hsz]
  unfold execOp
  simp [ho, hx, hix, Instr.index, asIntOf, run_underlying hu, run_sizeOf w hi, hsz, hn, hpart]
end
end Go.Proofs.YtgmpenchojnihaaGreat
