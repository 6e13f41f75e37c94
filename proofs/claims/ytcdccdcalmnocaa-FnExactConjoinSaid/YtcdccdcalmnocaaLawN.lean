/-
  markNodeS once more, with what it leaves alone; the walks of the laws FnExactNegate, FnExactKnown, FnExactConjoin, FnExactAfter. No condition.
-/
import Derived.Test.YtcdccdcalmnocaaSpecR
namespace Go.Proofs.Ytcdccdcalmnocaa
open Go.RowKit
open Go Go.Deep

theorem grown_set {w0 w : World} {g : Nat} (h : w0.grownBy w (some g)) (j : Nat) (u : Value) : w0.grownBy (w.setCell ⟨g, j, none⟩ u) (some g) :=
  ⟨h.os, h.tape, h.output, by simpa [World.setCell] using h.size, fun k hk hne => by rw [Below.heap_setCell _ _ _ _ (fun e => hne (by rw [e]))]; exact h.block k hk hne⟩

set_option maxRecDepth 100000 in
set_option maxHeartbeats 2000000 in
theorem markNodeS_row (base : Nat) (v : Value) (n : Nat) (xs : List Nd) (k : Nat) (w : World) (hn : n ≤ 1048576) (h0 : 0 < k) (hk : k ≤ 4194400) (ho : w.ownsRow base 44 4 v n (ndCells xs)) :
    Calls Try.prog 22 #[v, .int .i64 k] w fun e w' => e = .returned (.int .i64 (k + n * 4 : Nat)) ∧ w'.ownsRow base 44 4 v n (ndCells (marksNd k n)) ∧ w.grownBy w' v.ownBlock := by
  have hl : xs.length = n := by have := ho.1; rw [ndCells_len] at this; omega
  rcases Nat.eq_zero_or_pos n with h00 | hpos
  · subst h00
    obtain ⟨a, cap, rfl⟩ : ∃ a cap, v = .slice a 0 cap := by
      rcases ho.2 with ⟨rfl, _⟩ | ⟨g, cap, cur, rfl, _⟩
      · exact ⟨_, _, rfl⟩
      · exact ⟨_, _, rfl⟩
    go_enter Try.func22, Try.ntmps22
    go_wp2
    refine wp_loop_rounds 1 ?_
    rw [rounds_succ]
    go_wp2
    go_ret
    have e : xs = [] := List.length_eq_zero_iff.1 hl
    subst e
    exact ⟨ret_int (by simp), ho, World.grownBy.refl _ _⟩
  obtain ⟨g, cap, rfl, hbg⟩ : ∃ g cap, v = .slice (some ⟨g, 0, none⟩) n cap ∧ base ≤ g := by
    rcases ho.2 with ⟨rfl, h⟩ | ⟨g, cap, cur, rfl, hb, _⟩
    · omega
    · exact ⟨_, _, rfl, hb⟩
  have HL := Lib.hid hl; clear hl
  have hgo : (Value.slice (some ⟨g, 0, none⟩) n cap).ownBlock = some g := rfl
  have HGO := Lib.hid hgo
  clear hgo
  go_enter Try.func22, Try.ntmps22
  go_wp2
  go_loopw [1, 5] (fun kv iv wr => ∃ i : Nat, i ≤ n ∧ iv = .int .i64 i ∧ kv = .int .i64 (k + i * 4 : Nat) ∧ Hid (wr.ownsRow base 44 4 (.slice (some ⟨g, 0, none⟩) n cap) n (ndCells (marksNd k i ++ xs.drop i))) ∧ Hid (w.grownBy wr (some g))) (fun _ iv _ => n - (intOf iv).toNat)
  case atStart => exact ⟨0, Nat.zero_le _, rfl, by go_num, Lib.hid (by simpa [marksNd] using ho), Lib.hid (World.grownBy.refl _ _)⟩
  case round =>
    obtain ⟨i, hi, rfl, rfl, HO, HB⟩ := hrel
    by_cases hlt : i < n
    · obtain ⟨f0, f1, f2, f3, ⟨z0, g0⟩, ⟨z1, g1⟩, ⟨z2, g2⟩, ⟨z3, g3⟩⟩ := own_node HO.out hlt
      go_wp2
      go_roundw
      case rel =>
        refine ⟨i + 1, by omega, by go_num, by go_num, Lib.hid ?_, Lib.hid (grown_set (grown_set (grown_set (grown_set HB.out _ _) _ _) _ _) _ _)⟩
        rw [← marksNd_set (by rw [HL.out]; exact hlt)]
        exact own_node_set HO.out hlt (markNd k i)
      case measure => simp [intOf]; omega
    · obtain rfl : i = n := by omega
      go_wp2
      go_ret
      exact ⟨rfl, by have := HO.out; rw [List.drop_of_length_le (by rw [HL.out]; exact Nat.le_refl _), List.append_nil] at this; exact this, HB.out⟩

theorem combL_len (t : Tm) : ((combL t).getD []).length ≤ 40 := by
  unfold combL
  cases hf : formOk (lay 0 t) with
  | false => simp
  | true => exact (formOk_parts hf).2.1
theorem ite_len {b : Bool} {t : Tm} : ((if b then combL t else none).getD []).length ≤ 40 := by
  cases b with
  | false => simp
  | true => exact combL_len t
/-- the row of a later answer is another than an earlier row -/
theorem own_apart {w w' : World} {b b' : Nat} {e : TypeId} {size : Nat} {v v' : Value} {n n' : Nat} {xs xs' : List Value} (h : w.ownsRow b e size v n xs) (h' : w'.ownsRow b' e size v' n' xs') (hb : w.heap.size ≤ b') : v'.ownBlock = none ∨ v'.ownBlock ≠ v.ownBlock := by
  cases hv : v'.ownBlock with
  | none => exact .inl rfl
  | some k' =>
    refine .inr fun e => ?_
    have h1 := (h'.lt k' hv).1
    have h2 := (h.lt k' e.symm).2
    omega

set_option maxRecDepth 100000 in
set_option maxHeartbeats 8000000 in
theorem walk_FnExactNegate (v0 : Value) (xs : List Nd) (w : World) (h0 : Ns w v0 xs) :
    Calls Try.prog 9 #[v0] w fun e w' => e = .returned (.bool true) ∧ Below w.heap.size w w' := by
  have S0 := fun W (h : Ns W v0 xs) => szNodeS_any v0 xs 1048576 W h (by omega) (by omega)
  by_cases hlen : 1048576 < xs.length
  · rw [if_pos (by omega)] at S0
    have K0 := Lib.hid (S0 w h0)
    clear S0
    go_enter Try.func9, Try.ntmps9
    go_wp2_with fail
    refine K0.out.mono ?_
    rintro e w' ⟨rfl, rfl⟩
    go_wp2
    go_ret
    exact ⟨rfl, Below.refl _ _⟩
  rw [if_neg (by omega)] at S0
  have K0 := Lib.hid (S0 w h0)
  have H0 := Lib.hid h0
  clear S0 h0
  have hn : xs.length ≤ 1048576 := by omega
  have KS := fun u W h => specNegate_any u xs W h
  have KI := fun u W h => implNegate_any u xs W h
  have hr : ((if formOk xs then combL (Tm.deny (termOfL xs)) else none).getD []).length ≤ 40 := ite_len
  generalize (if formOk xs then combL (Tm.deny (termOfL xs)) else none) = r at *
  have KS := Lib.hid KS
  have KI := Lib.hid KI
  go_enter Try.func9, Try.ntmps9
  go_wp2_with fail
  refine K0.out.mono ?_
  rintro e w' ⟨rfl, rfl⟩
  go_wp2_with fail
  refine (toNodeS_any _ xs _ H0.out hn).mono ?_
  rintro e w1 ⟨g1, rfl, ho1, hb1⟩
  have O1 := Lib.hid ho1; have B1 := Lib.hid hb1; clear ho1 hb1
  go_wp2_with fail
  refine (KS.out _ _ (Ns.of_own O1.out)).mono ?_
  rintro e w2 ⟨v2, rfl, ho2, hb2⟩
  have N2 := Lib.hid (Ns.of_own ho2)
  have B2 := Lib.hid (B1.out.trans (hb2.mono B1.out.size)); clear hb2 ho2
  go_wp2_with fail
  refine (toNodeS_any _ xs _ (H0.out.below B2.out (Nat.le_refl _)) hn).mono ?_
  rintro e w3 ⟨g3, rfl, ho3, hb3⟩
  have O3 := Lib.hid ho3; have C3 := Lib.hid hb3; have B3 := Lib.hid (B2.out.trans (hb3.mono B2.out.size)); clear ho3 hb3
  go_wp2_with fail
  refine (KI.out _ _ (Ns.of_own O3.out)).mono ?_
  rintro e w4 ⟨v4, rfl, ho4, hb4⟩
  have O4 := Lib.hid ho4
  have X4 := Lib.hid (own_below O3.out hb4 (Nat.le_refl _))
  have C4 := Lib.hid (C3.out.trans (hb4.mono C3.out.size)); have B4 := Lib.hid (B3.out.trans (hb4.mono B3.out.size)); clear ho4 hb4
  have AP := Lib.hid (own_apart O3.out O4.out (Nat.le_refl _))
  go_wp2_with fail
  refine (eqNodeS_same _ _ _ _ (Ns.of_own O4.out) (N2.out.below C4.out (Nat.le_refl _))).mono ?_
  rintro e w5 ⟨rfl, hb5⟩
  have O5 := Lib.hid (own_below O4.out hb5 (Nat.le_refl _))
  have X5 := Lib.hid (own_below X4.out hb5 (Nat.le_refl _))
  have C5 := Lib.hid (C4.out.trans (hb5.mono C4.out.size)); have B5 := Lib.hid (B4.out.trans (hb5.mono B4.out.size)); clear hb5
  go_wp2_with fail
  refine (toNodeS_any _ xs _ (H0.out.below B5.out (Nat.le_refl _)) hn).mono ?_
  rintro e w6 ⟨g6, rfl, ho6, hb6⟩
  have N6 := Lib.hid (Ns.of_own ho6)
  have O6 := Lib.hid (own_below O5.out hb6 (Nat.le_refl _))
  have X6 := Lib.hid (own_below X5.out hb6 (Nat.le_refl _))
  have C6 := Lib.hid (C5.out.trans (hb6.mono C5.out.size)); have B6 := Lib.hid (B5.out.trans (hb6.mono B5.out.size)); clear ho6 hb6
  go_wp2_with fail
  refine (eqNodeS_same _ _ xs _ (Ns.of_own X6.out) N6.out).mono ?_
  rintro e w7 ⟨rfl, hb7⟩
  have O7 := Lib.hid (own_below O6.out hb7 (Nat.le_refl _))
  have X7 := Lib.hid (own_below X6.out hb7 (Nat.le_refl _))
  have C7 := Lib.hid (C6.out.trans (hb7.mono C6.out.size)); have B7 := Lib.hid (B6.out.trans (hb7.mono B6.out.size)); clear hb7
  go_wp2_with fail
  refine (markNodeS_row w2.heap.size _ xs.length xs 1 _ hn (by omega) (by omega) X7.out).mono ?_
  rintro e w8 ⟨rfl, _, hg8⟩
  have O8 := Lib.hid (O7.out.kept hg8 AP.out)
  have D8 := Lib.hid ((Below.refl w2.heap.size w7).grown hg8 C7.out.size (fun k hk => (X7.out.lt k hk).1))
  have C8 := Lib.hid (C7.out.trans D8.out); have B8 := Lib.hid (B7.out.trans (D8.out.mono B2.out.size)); clear hg8 D8
  go_wp2_with fail
  refine (eqNodeS_same _ _ _ _ (Ns.of_own O8.out) (N2.out.below C8.out (Nat.le_refl _))).mono ?_
  rintro e w9 ⟨rfl, hb9⟩
  have O9 := Lib.hid (own_below O8.out hb9 (Nat.le_refl _))
  have C9 := Lib.hid (C8.out.trans (hb9.mono C8.out.size)); have B9 := Lib.hid (B8.out.trans (hb9.mono B8.out.size)); clear hb9
  go_wp2_with fail
  refine (markNodeS_own w3.heap.size _ _ _ 1 _ (by omega) (by omega) (by omega) O9.out).mono ?_
  rintro e w10 ⟨rfl, ho10, hb10⟩
  have N10 := Lib.hid (Ns.of_own ho10)
  have C10 := Lib.hid (C9.out.trans (hb10.mono C3.out.size)); have B10 := Lib.hid (B9.out.trans (hb10.mono B3.out.size)); clear ho10 hb10
  go_wp2_with fail
  refine (heldNodeS_any _ _ 1 _ (by omega) (by omega) (by omega) N10.out).mono ?_
  rintro e w' ⟨rfl, rfl⟩
  go_wp2_with fail
  refine (toNodeS_any _ xs _ (H0.out.below B10.out (Nat.le_refl _)) hn).mono ?_
  rintro e w11 ⟨g11, rfl, ho11, hb11⟩
  have O11 := Lib.hid ho11
  have N11 := Lib.hid (N10.out.below hb11 (Nat.le_refl _))
  have C11 := Lib.hid (C10.out.trans (hb11.mono C10.out.size)); have B11 := Lib.hid (B10.out.trans (hb11.mono B10.out.size)); clear ho11 hb11
  go_wp2_with fail
  refine (KI.out _ _ (Ns.of_own O11.out)).mono ?_
  rintro e w12 ⟨v12, rfl, ho12, hb12⟩
  have O12 := Lib.hid ho12
  have N12 := Lib.hid (N11.out.below hb12 (Nat.le_refl _))
  have C12 := Lib.hid (C11.out.trans (hb12.mono C11.out.size)); have B12 := Lib.hid (B11.out.trans (hb12.mono B11.out.size)); clear ho12 hb12
  go_wp2_with fail
  refine (eqNodeS_same _ _ _ _ (Ns.of_own O12.out) (N2.out.below C12.out (Nat.le_refl _))).mono ?_
  rintro e w13 ⟨rfl, hb13⟩
  have N13 := Lib.hid (N12.out.below hb13 (Nat.le_refl _))
  have B13 := Lib.hid (B12.out.trans (hb13.mono B12.out.size)); clear hb13
  go_wp2_with fail
  refine (heldNodeS_any _ _ 1 _ (by omega) (by omega) (by omega) N13.out).mono ?_
  rintro e w' ⟨rfl, rfl⟩
  go_wp2
  go_ret
  exact ⟨rfl, B13.out⟩

set_option maxRecDepth 100000 in
set_option maxHeartbeats 8000000 in
theorem walk_FnExactKnown (a0 : Int) (v0 : Value) (xs : List Nd) (w : World) (_w0 : (Lit.int .i64 a0).wf = true) (h0 : Ns w v0 xs) :
    Calls Try.prog 11 #[.int .i64 a0, v0] w fun e w' => e = .returned (.bool true) ∧ Below w.heap.size w w' := by
  clear _w0
  have S0 := fun W (h : Ns W v0 xs) => szNodeS_any v0 xs 1048576 W h (by omega) (by omega)
  by_cases hlen : 1048576 < xs.length
  · rw [if_pos (by omega)] at S0
    have K0 := Lib.hid (S0 w h0)
    clear S0
    go_enter Try.func11, Try.ntmps11
    go_wp2_with fail
    refine K0.out.mono ?_
    rintro e w' ⟨rfl, rfl⟩
    go_wp2
    go_ret
    exact ⟨rfl, Below.refl _ _⟩
  rw [if_neg (by omega)] at S0
  have K0 := Lib.hid (S0 w h0)
  have H0 := Lib.hid h0
  clear S0 h0
  have hn : xs.length ≤ 1048576 := by omega
  have KS := fun u W h => specKnown_any a0 u xs W h
  have KI := fun u W h => implKnown_any a0 u xs W h
  have hr : ((if formOk xs then combL (Tm.know 5 a0 (termOfL xs)) else none).getD []).length ≤ 40 := ite_len
  generalize (if formOk xs then combL (Tm.know 5 a0 (termOfL xs)) else none) = r at *
  have KS := Lib.hid KS
  have KI := Lib.hid KI
  go_enter Try.func11, Try.ntmps11
  go_wp2_with fail
  refine K0.out.mono ?_
  rintro e w' ⟨rfl, rfl⟩
  go_wp2_with fail
  refine (toNodeS_any _ xs _ H0.out hn).mono ?_
  rintro e w1 ⟨g1, rfl, ho1, hb1⟩
  have O1 := Lib.hid ho1; have B1 := Lib.hid hb1; clear ho1 hb1
  go_wp2_with fail
  refine (KS.out _ _ (Ns.of_own O1.out)).mono ?_
  rintro e w2 ⟨v2, rfl, ho2, hb2⟩
  have N2 := Lib.hid (Ns.of_own ho2)
  have B2 := Lib.hid (B1.out.trans (hb2.mono B1.out.size)); clear hb2 ho2
  go_wp2_with fail
  refine (toNodeS_any _ xs _ (H0.out.below B2.out (Nat.le_refl _)) hn).mono ?_
  rintro e w3 ⟨g3, rfl, ho3, hb3⟩
  have O3 := Lib.hid ho3; have C3 := Lib.hid hb3; have B3 := Lib.hid (B2.out.trans (hb3.mono B2.out.size)); clear ho3 hb3
  go_wp2_with fail
  refine (KI.out _ _ (Ns.of_own O3.out)).mono ?_
  rintro e w4 ⟨v4, rfl, ho4, hb4⟩
  have O4 := Lib.hid ho4
  have X4 := Lib.hid (own_below O3.out hb4 (Nat.le_refl _))
  have C4 := Lib.hid (C3.out.trans (hb4.mono C3.out.size)); have B4 := Lib.hid (B3.out.trans (hb4.mono B3.out.size)); clear ho4 hb4
  have AP := Lib.hid (own_apart O3.out O4.out (Nat.le_refl _))
  go_wp2_with fail
  refine (eqNodeS_same _ _ _ _ (Ns.of_own O4.out) (N2.out.below C4.out (Nat.le_refl _))).mono ?_
  rintro e w5 ⟨rfl, hb5⟩
  have O5 := Lib.hid (own_below O4.out hb5 (Nat.le_refl _))
  have X5 := Lib.hid (own_below X4.out hb5 (Nat.le_refl _))
  have C5 := Lib.hid (C4.out.trans (hb5.mono C4.out.size)); have B5 := Lib.hid (B4.out.trans (hb5.mono B4.out.size)); clear hb5
  go_wp2_with fail
  refine (toNodeS_any _ xs _ (H0.out.below B5.out (Nat.le_refl _)) hn).mono ?_
  rintro e w6 ⟨g6, rfl, ho6, hb6⟩
  have N6 := Lib.hid (Ns.of_own ho6)
  have O6 := Lib.hid (own_below O5.out hb6 (Nat.le_refl _))
  have X6 := Lib.hid (own_below X5.out hb6 (Nat.le_refl _))
  have C6 := Lib.hid (C5.out.trans (hb6.mono C5.out.size)); have B6 := Lib.hid (B5.out.trans (hb6.mono B5.out.size)); clear ho6 hb6
  go_wp2_with fail
  refine (eqNodeS_same _ _ xs _ (Ns.of_own X6.out) N6.out).mono ?_
  rintro e w7 ⟨rfl, hb7⟩
  have O7 := Lib.hid (own_below O6.out hb7 (Nat.le_refl _))
  have X7 := Lib.hid (own_below X6.out hb7 (Nat.le_refl _))
  have C7 := Lib.hid (C6.out.trans (hb7.mono C6.out.size)); have B7 := Lib.hid (B6.out.trans (hb7.mono B6.out.size)); clear hb7
  go_wp2_with fail
  refine (markNodeS_row w2.heap.size _ xs.length xs 1 _ hn (by omega) (by omega) X7.out).mono ?_
  rintro e w8 ⟨rfl, _, hg8⟩
  have O8 := Lib.hid (O7.out.kept hg8 AP.out)
  have D8 := Lib.hid ((Below.refl w2.heap.size w7).grown hg8 C7.out.size (fun k hk => (X7.out.lt k hk).1))
  have C8 := Lib.hid (C7.out.trans D8.out); have B8 := Lib.hid (B7.out.trans (D8.out.mono B2.out.size)); clear hg8 D8
  go_wp2_with fail
  refine (eqNodeS_same _ _ _ _ (Ns.of_own O8.out) (N2.out.below C8.out (Nat.le_refl _))).mono ?_
  rintro e w9 ⟨rfl, hb9⟩
  have O9 := Lib.hid (own_below O8.out hb9 (Nat.le_refl _))
  have C9 := Lib.hid (C8.out.trans (hb9.mono C8.out.size)); have B9 := Lib.hid (B8.out.trans (hb9.mono B8.out.size)); clear hb9
  go_wp2_with fail
  refine (markNodeS_own w3.heap.size _ _ _ 1 _ (by omega) (by omega) (by omega) O9.out).mono ?_
  rintro e w10 ⟨rfl, ho10, hb10⟩
  have N10 := Lib.hid (Ns.of_own ho10)
  have C10 := Lib.hid (C9.out.trans (hb10.mono C3.out.size)); have B10 := Lib.hid (B9.out.trans (hb10.mono B3.out.size)); clear ho10 hb10
  go_wp2_with fail
  refine (heldNodeS_any _ _ 1 _ (by omega) (by omega) (by omega) N10.out).mono ?_
  rintro e w' ⟨rfl, rfl⟩
  go_wp2_with fail
  refine (toNodeS_any _ xs _ (H0.out.below B10.out (Nat.le_refl _)) hn).mono ?_
  rintro e w11 ⟨g11, rfl, ho11, hb11⟩
  have O11 := Lib.hid ho11
  have N11 := Lib.hid (N10.out.below hb11 (Nat.le_refl _))
  have C11 := Lib.hid (C10.out.trans (hb11.mono C10.out.size)); have B11 := Lib.hid (B10.out.trans (hb11.mono B10.out.size)); clear ho11 hb11
  go_wp2_with fail
  refine (KI.out _ _ (Ns.of_own O11.out)).mono ?_
  rintro e w12 ⟨v12, rfl, ho12, hb12⟩
  have O12 := Lib.hid ho12
  have N12 := Lib.hid (N11.out.below hb12 (Nat.le_refl _))
  have C12 := Lib.hid (C11.out.trans (hb12.mono C11.out.size)); have B12 := Lib.hid (B11.out.trans (hb12.mono B11.out.size)); clear ho12 hb12
  go_wp2_with fail
  refine (eqNodeS_same _ _ _ _ (Ns.of_own O12.out) (N2.out.below C12.out (Nat.le_refl _))).mono ?_
  rintro e w13 ⟨rfl, hb13⟩
  have N13 := Lib.hid (N12.out.below hb13 (Nat.le_refl _))
  have B13 := Lib.hid (B12.out.trans (hb13.mono B12.out.size)); clear hb13
  go_wp2_with fail
  refine (heldNodeS_any _ _ 1 _ (by omega) (by omega) (by omega) N13.out).mono ?_
  rintro e w' ⟨rfl, rfl⟩
  go_wp2
  go_ret
  exact ⟨rfl, B13.out⟩
end Go.Proofs.Ytcdccdcalmnocaa
