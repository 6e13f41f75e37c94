/-
  Several texts in one: Fen Eac. Conditions: as each theorem says.
-/
import Derived.RangeFuncBox
import Derived.RangeFuncNested
import Derived.RangeFuncBound
import Derived.RangeFuncCalls
import Derived.RangeFuncLeaves
import Derived.Shelf.Abstract
import Derived.Shelf.RegionOpen
import Derived.WalkKit
import Derived.OwnWalkIn
import Derived.TacticsInMore
import Derived.LoopNIn
import Derived.LoopIn
import Derived.Maps.AppendAt
import Derived.Test.YtodjohdbngbpaaaGreatZSet
/-
  Single operations inside a fence that lets every function in: the plain walk's laws for values with letters in them. No condition.
-/
namespace Go.Proofs.YtodjohdbngbpaaaGreat
open Go.RowKit Go.WideShapes Go.Shelf
open Go Go.Deep
set_option linter.unusedSimpArgs false

section
variable {F : Fence} {m : Nat} {P : Program}
theorem wpListIn_op {ops : Array Oper} {rest : List Oper} {o : Oper} {a : Act} {w w' : World} {Q : Exit → Act → World → Prop} (hf : ∀ f, F.fn f) (hs : o.semAt F.round a.eval = execOp a.eval o) (hgd : o.guard = none) (v : Value)
    (hr : (execOp a.eval o).run P w = .ok (.value v) w') (h : wpListIn F m P ops Q rest (a.put o.dst v) w') : wpListIn F m P ops Q (o :: rest) a w :=
  wpListIn_plain hgd fun _ hK => ⟨fun f _ => hf f, by rw [hs, hr]; exact hK _ _ h⟩
theorem wpListIn_loadM {ops : Array Oper} {rest : List Oper} {o : Oper} {a : Act} {w : World} {Q : Exit → Act → World → Prop} (hf : ∀ f, F.fn f) (hs : o.semAt F.round a.eval = execOp a.eval o) (hgd : o.guard = none) (ty : TypeId) (x : Operand) (ho : o.op = .load ty x)
    (b off : Nat) (hx : a.eval x = .pointer (some ⟨b, off, none⟩)) (B : TypeId) (cs ds : List Value) (hc : Cm w b B cs) (hd : ∀ j, j < ds.length → cs[off + j]? = ds[j]?)
    (d : TypeDesc) (hu : P.underlying ty = some d) (hr : d.isRow = true) (hi : (P.info? ty).map (·.size) = some ds.length)
    (h : wpListIn F m P ops Q rest (a.put o.dst (.agg ds.toArray)) w) : wpListIn F m P ops Q (o :: rest) a w := by
  refine wpListIn_op hf hs hgd (.agg ds.toArray) ?_ h
  unfold execOp
  simp only [ho, hx, Instr.loadAt, Instr.sureAddr, Sem.run_bind, Sem.run_pure, Result.andThen_ok, run_loadVar_mid w b off ty ds d (hc.range off ds hd) hu hr hi]
theorem wpListIn_indexM {ops : Array Oper} {rest : List Oper} {o : Oper} {a : Act} {w : World} {Q : Exit → Act → World → Prop} (hf : ∀ f, F.fn f) (hs : o.semAt F.round a.eval = execOp a.eval o) (hgd : o.guard = none) (ty : TypeId) (x ix : Operand) (ho : o.op = .index ty x ix)
    (cs : List Value) (hx : a.eval x = .agg cs.toArray) (k : IntKind) (i : Nat) (hix : a.eval ix = .int k i) (n : Nat) (e : TypeId) (hu : P.underlying ty = some (.array n e)) (hp : P.plainKey e = true)
    (ti : TypeInfo) (hi : P.info? e = some ti) (hsz : ti.size = 1) (hn : i < n) (v : Value) (hv : cs[i]? = some v)
    (h : wpListIn F m P ops Q rest (a.put o.dst v) w) : wpListIn F m P ops Q (o :: rest) a w := by
  have hpart := run_part_plain (P := P) w hp (xs := cs.toArray) (off := i) (v := v) (by simpa using hv)
  refine wpListIn_op hf hs hgd v ?_ h
  have hsz : P.cellsOf e = 1 := by simp [Program.cellsOf, hi, hsz]
  unfold execOp
  simp [ho, hx, hix, Instr.index, asIntOf, run_underlying hu, run_sizeOf w hi, hsz, hn, hpart]
end
end Go.Proofs.YtodjohdbngbpaaaGreat

/-
  worldSet.each: the iterator over the worlds of a set in ascending order. No condition but that its box holds the set.
-/
namespace Go.Proofs.YtodjohdbngbpaaaGreat
open Go.RowKit Go.WideShapes Go.Shelf
open Go Go.Deep
set_option linter.unusedSimpArgs false
attribute [local go_sem] Oper.semAt_some

set_option maxRecDepth 100000 in
set_option maxHeartbeats 8000000 in
theorem each1_in (n : Nat) (hn : 1 ≤ n) (l Bn : Nat) (p : Nat → Bool) (Kp : World → World → Prop) (J Jx : List (Fin 16) → World → Prop)
    (hY : ∀ pre (x : Fin 16) W, J pre W → pre.length < 16 → YieldAt Fence.wide (n - 1) Tryz.prog l #[.int .i64 ((x.val : Nat) : Int)] W fun e W' =>
      (e = .returned (.bool true) ∧ J (pre ++ [x]) W' ∧ Kp W W') ∨ (e = .returned (.bool false) ∧ Jx (pre ++ [x]) W'))
    (W : World) (hc : Cm W Bn 89 (bL p)) (h0 : J [] W) :
    CallsIn Fence.wide n Tryz.prog 147 #[.func (.yield l) #[] #[], .pointer (some ⟨Bn, 0, none⟩)] W fun e W' => (∃ v, e = .returned v) ∧
      ((∃ ys, ys.map Fin.val = lst p 16 ∧ J ys W') ∨ (∃ pre, (∃ k, k ≤ 16 ∧ pre.map Fin.val = lst p k) ∧ Jx pre W')) := by
  obtain ⟨i0, hi, _, hi1, _⟩ := info_parts Tryz.infoB
  have HX := Lib.hid (fun k (h : k < 16) => bL_get p h)
  have HL := Lib.hid (bL_len p)
  have HLS := Lib.hid (fun k => lst_succ p k)
  have HLL := Lib.hid (fun k => lst_len p k)
  have HC := Lib.hid hc
  clear hc
  generalize bL p = V at *
  refine callsIn_of_wp Tryz.func147 rfl trivial ?_ rfl
  simp only [Tryz.ntmps147, List.size_toArray, List.length_cons, List.length_nil, Nat.reduceAdd, Nat.reduceSub, Array.replicate_succ, Array.replicate_zero, List.push_toArray, List.append_toArray, List.nil_append, List.cons_append]
  gi_wp2_with (refine wpListIn_loadM (fun _ => trivial) rfl rfl 89 _ rfl Bn 0 rfl 89 V V HC.out (fun j _ => by rw [Nat.zero_add]) _ Tryz.underlying89 rfl (by rw [HL.out]; exact Tryz.sizeSet) ?_)
  gi_loopw [6] (fun iv wr => ∃ (k : Nat) (pre : List (Fin 16)), k ≤ 16 ∧ iv = .int .i64 k ∧ Hid (pre.map Fin.val = lst p k) ∧ Hid (J pre wr)) (fun iv _ => 16 - (intOf iv).toNat)
  case atStart => exact ⟨0, [], Nat.zero_le _, rfl, Lib.hid rfl, Lib.hid h0⟩
  case round =>
    clear h0
    obtain ⟨k, pre, hk, rfl, HP, HJ⟩ := hrel
    by_cases hlt : k < 16
    · have HK := Lib.hid (HX.out k hlt)
      have HS := Lib.hid (HLS.out k)
      obtain ⟨b, hb⟩ : ∃ b, b = p k := ⟨_, rfl⟩
      rw [← hb] at HK HS
      clear hb
      cases b with
      | true =>
        have HT : Hid (lst p (k + 1) = lst p k ++ [k]) := Lib.hid (by have := HS.out; simpa using this)
        clear HS
        have hpl : pre.length < 16 := by have h1 := HLL.out k; have h2 := HP.out; rw [← h2, List.length_map] at h1; omega
        obtain ⟨fn, tmps, assign, body, hy, hR⟩ := hY pre ⟨k, hlt⟩ wr HJ.out hpl
        dsimp only at hy
        gi_wp2_with (refine wpListIn_indexM (fun _ => trivial) rfl rfl 89 (.tmp 5) (.tmp 6) rfl V rfl .i64 k rfl 16 4 Tryz.underlying89 (by kernel_rfl) i0 hi hi1 hlt _ HK.out ?_)
        refine hR.mono ?_
        rintro e W3 (⟨rfl, hJ3, hk3⟩ | ⟨rfl, hJx3⟩)
        · have HJ3 := Lib.hid hJ3
          clear hJ3 hk3 hy hR
          gi_wp2
          go_roundw
          case rel => exact ⟨k + 1, pre ++ [⟨k, hlt⟩], by omega, by go_num, Lib.hid (by rw [HT.out, List.map_append, HP.out]; rfl), HJ3⟩
          case measure => simp [intOf]; omega
        · have HJx := Lib.hid hJx3
          clear hJx3 hy hR
          gi_wp2
          refine bodyPost_ret (results_none rfl _ _ _) rfl ?_
          exact ⟨⟨_, rfl⟩, .inr ⟨_, ⟨k + 1, by omega, by rw [HT.out, List.map_append, HP.out]; rfl⟩, HJx.out⟩⟩
      | false =>
        have HT : Hid (lst p (k + 1) = lst p k) := Lib.hid (by have := HS.out; simpa using this)
        clear HS
        gi_wp2_with (refine wpListIn_indexM (fun _ => trivial) rfl rfl 89 (.tmp 5) (.tmp 6) rfl V rfl .i64 k rfl 16 4 Tryz.underlying89 (by kernel_rfl) i0 hi hi1 hlt _ HK.out ?_)
        refine ⟨fun _ _ => trivial, ?_⟩
        gi_wp2
        go_roundw
        case rel => exact ⟨k + 1, pre, by omega, by go_num, Lib.hid (by rw [HT.out, HP.out]), HJ⟩
        case measure => simp [intOf]; omega
    · obtain rfl : k = 16 := by omega
      gi_wp2
      go_end0
      exact ⟨⟨_, rfl⟩, .inl ⟨pre, HP.out, HJ.out⟩⟩

/-- worldSet.each: the set is boxed; the function value captures the box -/
theorem each_any (p : Nat → Bool) (w : World) :
    Calls Tryz.prog 116 #[.agg (bL p).toArray] w fun e w' => e = .returned (.func (.func 147) #[] #[.pointer (some ⟨w.heap.size, 0, none⟩)]) ∧ w' = w.alloc (.cells (bL p).toArray 89) := by
  generalize bL p = V
  go_enter Tryz.func116, Tryz.ntmps116
  go_wp2
  go_ret
  exact ⟨rfl, rfl⟩

/-- the set p's worlds, in order; or a beginning of them -/
theorem each_stops (n : Nat) (hn : 1 ≤ n) (Bn : Nat) (p : Nat → Bool) (Kp : World → World → Prop) (w : World) (hc : Cm w Bn 89 (bL p)) :
    SeqStopsK Fence.wide n Tryz.prog 147 #[.pointer (some ⟨Bn, 0, none⟩)] (fun x : Fin 16 => #[Value.int .i64 ((x.val : Nat) : Int)]) Kp
      (fun ys => ys.map Fin.val = lst p 16) (fun pre => ∃ k, k ≤ 16 ∧ pre.map Fin.val = lst p k) 16 w := fun l J Jx W hW _ _ hY h0 =>
  each1_in n hn l Bn p Kp J Jx hY W (hc.all hW) h0
end Go.Proofs.YtodjohdbngbpaaaGreat
