/-
  Contracts of nodeOf, newTerm, textOf, depthOfTerm.
-/
import Derived.Test.YtgmpenchojnihaaGreatTermV
import Derived.Test.YtgmpenchojnihaaGreatStrs
namespace Go.Proofs.YtgmpenchojnihaaGreat
open Go.RowKit
open Go Go.Deep

theorem ta_leaf_leaf (v : Value) (w : World) : (Instr.typeAssert (.iface 154 v) 99 154 true).run Tryz.prog w = .ok (.tuple #[v, .bool true]) w := by kernel_rfl
theorem ta_deny_leaf (v : Value) (w : World) : (Instr.typeAssert (.iface 156 v) 99 154 true).run Tryz.prog w = .ok (.tuple #[.agg #[.int .i64 0, .int .i64 0], .bool false]) w := by kernel_rfl
theorem ta_know_leaf (v : Value) (w : World) : (Instr.typeAssert (.iface 160 v) 99 154 true).run Tryz.prog w = .ok (.tuple #[.agg #[.int .i64 0, .int .i64 0], .bool false]) w := by kernel_rfl
theorem ta_joint_leaf (v : Value) (w : World) : (Instr.typeAssert (.iface 158 v) 99 154 true).run Tryz.prog w = .ok (.tuple #[.agg #[.int .i64 0, .int .i64 0], .bool false]) w := by kernel_rfl
theorem ta_leaf_know (v : Value) (w : World) : (Instr.typeAssert (.iface 154 v) 99 160 true).run Tryz.prog w = .ok (.tuple #[.agg #[.int .i64 0, .int .i64 0, .nilIface], .bool false]) w := by kernel_rfl
theorem ta_deny_know (v : Value) (w : World) : (Instr.typeAssert (.iface 156 v) 99 160 true).run Tryz.prog w = .ok (.tuple #[.agg #[.int .i64 0, .int .i64 0, .nilIface], .bool false]) w := by kernel_rfl
theorem ta_know_know (v : Value) (w : World) : (Instr.typeAssert (.iface 160 v) 99 160 true).run Tryz.prog w = .ok (.tuple #[v, .bool true]) w := by kernel_rfl
theorem ta_joint_know (v : Value) (w : World) : (Instr.typeAssert (.iface 158 v) 99 160 true).run Tryz.prog w = .ok (.tuple #[.agg #[.int .i64 0, .int .i64 0, .nilIface], .bool false]) w := by kernel_rfl
theorem ta_leaf_joint (v : Value) (w : World) : (Instr.typeAssert (.iface 154 v) 99 158 true).run Tryz.prog w = .ok (.tuple #[.agg #[.int .i64 0, .nilIface, .nilIface], .bool false]) w := by kernel_rfl
theorem ta_deny_joint (v : Value) (w : World) : (Instr.typeAssert (.iface 156 v) 99 158 true).run Tryz.prog w = .ok (.tuple #[.agg #[.int .i64 0, .nilIface, .nilIface], .bool false]) w := by kernel_rfl
theorem ta_know_joint (v : Value) (w : World) : (Instr.typeAssert (.iface 160 v) 99 158 true).run Tryz.prog w = .ok (.tuple #[.agg #[.int .i64 0, .nilIface, .nilIface], .bool false]) w := by kernel_rfl
theorem ta_joint_joint (v : Value) (w : World) : (Instr.typeAssert (.iface 158 v) 99 158 true).run Tryz.prog w = .ok (.tuple #[v, .bool true]) w := by kernel_rfl
set_option maxRecDepth 100000 in
set_option maxHeartbeats 1000000 in
theorem nodeOf_any (t : Tm) (w : World) : Calls Tryz.prog 123 #[tv t] w fun e w' => e = .returned (Nd.v ⟨t.op, t.num, 0, 0⟩) ∧ Below w.heap.size w w' := by
  cases t with
  | leaf op n =>
    unfold Nd.v tv
    have t1 := ta_leaf_leaf
    have t2 := ta_leaf_know
    have t3 := ta_leaf_joint
    go_enter Tryz.func123, Tryz.ntmps123
    go_wp2
    go_returns
    refine ⟨rfl, ?_⟩
    go_grown
  | deny a =>
    unfold Nd.v tv
    have t1 := ta_deny_leaf
    have t2 := ta_deny_know
    have t3 := ta_deny_joint
    go_enter Tryz.func123, Tryz.ntmps123
    go_wp2
    go_returns
    refine ⟨rfl, ?_⟩
    go_grown
  | know op n a =>
    unfold Nd.v tv
    obtain ⟨ty, pv, hx⟩ := tv_form a
    rw [hx]
    clear hx
    have t1 := ta_know_leaf
    have t2 := ta_know_know
    have t3 := ta_know_joint
    go_enter Tryz.func123, Tryz.ntmps123
    go_wp2
    go_returns
    refine ⟨rfl, ?_⟩
    go_grown
  | joint op a b =>
    unfold Nd.v tv
    obtain ⟨ty, pv, hx⟩ := tv_form a
    rw [hx]
    clear hx
    obtain ⟨ty', pv', hx⟩ := tv_form b
    rw [hx]
    clear hx
    have t1 := ta_joint_leaf
    have t2 := ta_joint_know
    have t3 := ta_joint_joint
    go_enter Tryz.func123, Tryz.ntmps123
    go_wp2
    go_returns
    refine ⟨rfl, ?_⟩
    go_grown

theorem Rs.one {w : World} {v x : Value} (h : Rs w v [x]) : ∃ b o cap, v = .slice (some ⟨b, o, none⟩) 1 cap ∧ w.cell? ⟨b, o, none⟩ = some x := by
  obtain ⟨a, cap, rfl, h1, h2, h3⟩ := h
  rcases h3 with h3 | ⟨b, o, rfl, hlt, hc⟩
  · cases h3
  · exact ⟨b, o, cap, rfl, hc 0 x rfl⟩
theorem Rs.two {w : World} {v x y : Value} (h : Rs w v [x, y]) : ∃ b o cap, v = .slice (some ⟨b, o, none⟩) 2 cap ∧ w.cell? ⟨b, o, none⟩ = some x ∧ w.cell? ⟨b, o + 1, none⟩ = some y := by
  obtain ⟨a, cap, rfl, h1, h2, h3⟩ := h
  rcases h3 with h3 | ⟨b, o, rfl, hlt, hc⟩
  · cases h3
  · exact ⟨b, o, cap, rfl, hc 0 x rfl, hc 1 y rfl⟩

set_option maxHeartbeats 1000000 in
theorem newTerm_0 (op n : Int) (v : Value) (w : World) (h : op = 1 ∨ op = 2) : Calls Tryz.prog 100 #[.int .i64 op, .int .i64 n, v] w fun e w' => e = .returned (tv (.leaf op n)) ∧ w = w' := by
  unfold tv
  rcases h with rfl | rfl
  all_goals
    go_enter Tryz.func100, Tryz.ntmps100
    go_wp2
    go_ret
    exact ⟨rfl, rfl⟩
set_option maxHeartbeats 1000000 in
theorem newTerm_3 (n : Int) (v : Value) (a : Tm) (w : World) (h : Rs w v [tv a]) : Calls Tryz.prog 100 #[.int .i64 3, .int .i64 n, v] w fun e w' => e = .returned (tv (.deny a)) ∧ w = w' := by
  obtain ⟨b, o, cap, rfl, hc⟩ := h.one
  have HH := Lib.hid h
  clear h
  unfold tv
  obtain ⟨ty, pv, hx⟩ := tv_form a
  rw [hx] at hc ⊢
  clear hx
  go_enter Tryz.func100, Tryz.ntmps100
  go_wp2
  go_ret
  exact ⟨rfl, rfl⟩
set_option maxHeartbeats 1000000 in
theorem newTerm_1 (op n : Int) (v : Value) (a : Tm) (w : World) (ho : op ≠ 1 ∧ op ≠ 2 ∧ op ≠ 3 ∧ op ≠ 4 ∧ op ≠ 9) (h : Rs w v [tv a]) : Calls Tryz.prog 100 #[.int .i64 op, .int .i64 n, v] w fun e w' => e = .returned (tv (.know op n a)) ∧ w = w' := by
  obtain ⟨b, o, cap, rfl, hc⟩ := h.one
  have HH := Lib.hid h
  clear h
  have e1 : (op == 1) = false := by simp; omega
  have e2 : (op == 2) = false := by simp; omega
  have e3 : (op == 3) = false := by simp; omega
  have e4 : (op == 4) = false := by simp; omega
  have e9 : (op == 9) = false := by simp; omega
  clear ho
  unfold tv
  obtain ⟨ty, pv, hx⟩ := tv_form a
  rw [hx] at hc ⊢
  clear hx
  go_enter Tryz.func100, Tryz.ntmps100
  go_wp2
  go_ret
  exact ⟨rfl, rfl⟩
set_option maxHeartbeats 1000000 in
theorem newTerm_2 (op n : Int) (v : Value) (a b : Tm) (w : World) (ho : op = 4 ∨ op = 9) (h : Rs w v [tv a, tv b]) : Calls Tryz.prog 100 #[.int .i64 op, .int .i64 n, v] w fun e w' => e = .returned (tv (.joint op a b)) ∧ Below w.heap.size w w' := by
  obtain ⟨bl, o, cap, rfl, hc, hc'⟩ := h.two
  have HH := Lib.hid h
  clear h
  unfold tv
  obtain ⟨ty, pv, hx⟩ := tv_form a
  rw [hx] at hc ⊢
  clear hx
  obtain ⟨ty', pv', hx⟩ := tv_form b
  rw [hx] at hc' ⊢
  clear hx
  rcases ho with rfl | rfl
  all_goals
    go_enter Tryz.func100, Tryz.ntmps100
    go_wp2
    go_quiet (fail)
    go_wp2
    go_ret
    exact ⟨rfl, below_drewN' (Below.refl _ _) _⟩
end Go.Proofs.YtgmpenchojnihaaGreat
