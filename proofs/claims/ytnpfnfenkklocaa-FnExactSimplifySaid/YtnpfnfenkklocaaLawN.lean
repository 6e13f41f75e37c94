/-
  markNodeS once more, with what it leaves alone; the walks of the laws FnExactNegate, FnExactKnown, FnExactConjoin, FnExactAfter. No condition.
-/
import Derived.Test.YtnpfnfenkklocaaSpecR
namespace Go.Proofs.Ytnpfnfenkklocaa
open Go.RowKit
open Go Go.Deep

theorem grown_set {w0 w : World} {g : Nat} (h : w0.grownBy w (some g)) (j : Nat) (u : Value) : w0.grownBy (w.setCell ⟨g, j, none⟩ u) (some g) :=
  ⟨h.os, h.tape, h.output, by simpa [World.setCell] using h.size, fun k hk hne => by rw [Below.heap_setCell _ _ _ _ (fun e => hne (by rw [e]))]; exact h.block k hk hne⟩

set_option maxRecDepth 100000 in
set_option maxHeartbeats 2000000 in
theorem markNodeS_row (base : Nat) (v : Value) (n : Nat) (xs : List Nd) (k : Nat) (w : World) (hn : n ≤ 1048576) (h0 : 0 < k) (hk : k ≤ 4194400) (ho : w.ownsRow base 42 4 v n (ndCells xs)) :
    Calls Try.prog 13 #[v, .int .i64 k] w fun e w' => e = .returned (.int .i64 (k + n * 4 : Nat)) ∧ w'.ownsRow base 42 4 v n (ndCells (marksNd k n)) ∧ w.grownBy w' v.ownBlock := by
  have hl : xs.length = n := by have := ho.1; rw [ndCells_len] at this; omega
  rcases Nat.eq_zero_or_pos n with h00 | hpos
  · subst h00
    obtain ⟨a, cap, rfl⟩ : ∃ a cap, v = .slice a 0 cap := by
      rcases ho.2 with ⟨rfl, _⟩ | ⟨g, cap, cur, rfl, _⟩
      · exact ⟨_, _, rfl⟩
      · exact ⟨_, _, rfl⟩
    go_enter Try.func13, Try.ntmps13
    go_wp2
    refine wp_loop_rounds 1 ?_
    rw [rounds_succ]
    go_wp2
    go_ret
    have e : xs = [] := List.length_eq_zero_iff.1 hl
    subst e
    exact ⟨ret_int (by simp), ho, World.grownBy.refl _ _⟩
  obtain ⟨g, cap, rfl, hbg⟩ : ∃ g cap, v = .slice (some ⟨g, 0, none⟩) n cap ∧ base ≤ g := by
    rcases ho.2 with ⟨rfl, h⟩ | ⟨g, cap, cur, rfl, hb, _⟩
    · omega
    · exact ⟨_, _, rfl, hb⟩
  have HL := Lib.hid hl; clear hl
  have hgo : (Value.slice (some ⟨g, 0, none⟩) n cap).ownBlock = some g := rfl
  have HGO := Lib.hid hgo
  clear hgo
  go_enter Try.func13, Try.ntmps13
  go_wp2
  go_loopw [1, 5] (fun kv iv wr => ∃ i : Nat, i ≤ n ∧ iv = .int .i64 i ∧ kv = .int .i64 (k + i * 4 : Nat) ∧ Hid (wr.ownsRow base 42 4 (.slice (some ⟨g, 0, none⟩) n cap) n (ndCells (marksNd k i ++ xs.drop i))) ∧ Hid (w.grownBy wr (some g))) (fun _ iv _ => n - (intOf iv).toNat)
  case atStart => exact ⟨0, Nat.zero_le _, rfl, by go_num, Lib.hid (by simpa [marksNd] using ho), Lib.hid (World.grownBy.refl _ _)⟩
  case round =>
    obtain ⟨i, hi, rfl, rfl, HO, HB⟩ := hrel
    by_cases hlt : i < n
    · obtain ⟨f0, f1, f2, f3, ⟨z0, g0⟩, ⟨z1, g1⟩, ⟨z2, g2⟩, ⟨z3, g3⟩⟩ := own_node HO.out hlt
      go_wp2
      go_roundw
      case rel =>
        refine ⟨i + 1, by omega, by go_num, by go_num, Lib.hid ?_, Lib.hid (grown_set (grown_set (grown_set (grown_set HB.out _ _) _ _) _ _) _ _)⟩
        rw [← marksNd_set (by rw [HL.out]; exact hlt)]
        exact own_node_set HO.out hlt (markNd k i)
      case measure => simp [intOf]; omega
    · obtain rfl : i = n := by omega
      go_wp2
      go_ret
      exact ⟨rfl, by have := HO.out; rw [List.drop_of_length_le (by rw [HL.out]; exact Nat.le_refl _), List.append_nil] at this; exact this, HB.out⟩

theorem combL_len (t : Tm) : ((combL t).getD []).length ≤ 40 := by
  unfold combL
  cases hf : formOk (lay 0 t) with
  | false => simp
  | true => exact (formOk_parts hf).2.1
theorem ite_len {b : Bool} {t : Tm} : ((if b then combL t else none).getD []).length ≤ 40 := by
  cases b with
  | false => simp
  | true => exact combL_len t
/-- the row of a later answer is another than an earlier row -/
theorem own_apart {w w' : World} {b b' : Nat} {e : TypeId} {size : Nat} {v v' : Value} {n n' : Nat} {xs xs' : List Value} (h : w.ownsRow b e size v n xs) (h' : w'.ownsRow b' e size v' n' xs') (hb : w.heap.size ≤ b') : v'.ownBlock = none ∨ v'.ownBlock ≠ v.ownBlock := by
  cases hv : v'.ownBlock with
  | none => exact .inl rfl
  | some k' =>
    refine .inr fun e => ?_
    have h1 := (h'.lt k' hv).1
    have h2 := (h.lt k' e.symm).2
    omega

end Go.Proofs.Ytnpfnfenkklocaa
