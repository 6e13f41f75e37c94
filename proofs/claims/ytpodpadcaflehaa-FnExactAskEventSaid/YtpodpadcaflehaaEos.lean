/-
  spec.EventOk. No condition but the reading.
-/
import Derived.Test.YtpodpadcaflehaaEom
import Derived.Test.YtpodpadcaflehaaZMok
import Derived.Test.YtpodpadcaflehaaZForm
namespace Go.Proofs.Ytpodpadcaflehaa
open Go.RowKit Go.WideShapes
open Go Go.Deep
set_option linter.unusedSimpArgs false

set_option maxRecDepth 100000 in
set_option maxHeartbeats 8000000 in
theorem specEdOk_any (lo hi : Nat) (v : Value) (x : Ed) (w : World) (hr : Vv lo hi w v x) :
    Calls Try.prog 14 #[v] w fun e w' => e = .returned (.bool (edOk x)) ∧ Below w.heap.size w w' := by
  obtain ⟨fv, bv, rfl, hf, hb⟩ := hr
  obtain ⟨fa, fc, e1, hfl, hfc, hxx⟩ := hf.parts
  obtain ⟨ba, bc, e2, hbl, hbc, hyy⟩ := hb.parts
  clear hxx hyy
  subst e1
  subst e2
  unfold maxLen at hbc hfc
  have HF := Lib.hid hf
  have HBV := Lib.hid hb
  clear hf hb
  have HOK : Hid (edOk x = (decide (1 ≤ x.conds.length ∧ x.conds.length ≤ 4) && decide (1 ≤ x.blocks.length ∧ x.blocks.length ≤ 3) && inB x.actual x.conds.length &&
    (List.range x.conds.length).all (fun j => formOk (x.conds.getD j [])) && (List.range x.blocks.length).all (fun k => (x.blocks.getD k []).length == x.conds.length && ordOk (x.blocks.getD k [])))) := Lib.hid (edOk_spec x).symm
  generalize edOk x = R at *
  by_cases c1 : ¬ (1 ≤ x.conds.length ∧ x.conds.length ≤ 4)
  · have HR : Hid (R = false) := Lib.hid (by rw [HOK.out, decide_eq_false c1]; rfl)
    have K1 := Lib.hid (fun W => inI_no x.conds.length 1 4 W (by omega))
    clear c1
    go_enter Try.func14, Try.ntmps14
    go_wp2_with (go_at_call 43; first | ((with_reducible refine (K1.out _).mono ?_); rintro e w' ⟨rfl, rfl⟩))
    go_ret
    exact ⟨ret_bool HR.out.symm, by go_grown⟩
  by_cases c2 : ¬ (1 ≤ x.blocks.length ∧ x.blocks.length ≤ 3)
  · have HR : Hid (R = false) := Lib.hid (by rw [HOK.out, decide_eq_false c2]; simp)
    have K1 := Lib.hid (fun W => inI_yes x.conds.length 1 4 W (by omega) (by omega))
    have K2 := Lib.hid (fun W => inI_no x.blocks.length 1 3 W (by omega))
    clear c1 c2
    go_enter Try.func14, Try.ntmps14
    go_wp2_with (go_at_call 43; first | ((with_reducible refine (K1.out _).mono ?_); rintro e w' ⟨rfl, rfl⟩) | ((with_reducible refine (K2.out _).mono ?_); rintro e w' ⟨rfl, rfl⟩))
    go_ret
    exact ⟨ret_bool HR.out.symm, by go_grown⟩
  have z1 : 1 ≤ x.conds.length ∧ x.conds.length ≤ 4 := Classical.byContradiction c1
  have z2 : 1 ≤ x.blocks.length ∧ x.blocks.length ≤ 3 := Classical.byContradiction c2
  clear c1 c2
  obtain ⟨z1, z1'⟩ := z1
  obtain ⟨z2, z2'⟩ := z2
  have K1 := Lib.hid (fun W => inI_yes x.conds.length 1 4 W (by omega) (by omega))
  have K2 := Lib.hid (fun W => inI_yes x.blocks.length 1 3 W (by omega) (by omega))
  have HOK2 : Hid (R = (inB x.actual x.conds.length &&
    (List.range x.conds.length).all (fun j => formOk (x.conds.getD j [])) && (List.range x.blocks.length).all (fun k => (x.blocks.getD k []).length == x.conds.length && ordOk (x.blocks.getD k [])))) := Lib.hid (by rw [HOK.out, decide_eq_true ⟨z1, z1'⟩, decide_eq_true ⟨z2, z2'⟩]; simp)
  clear HOK
  by_cases c3 : ¬ (0 ≤ x.actual ∧ x.actual < x.conds.length)
  · have HR : Hid (R = false) := Lib.hid (by rw [HOK2.out, show inB x.actual x.conds.length = false from decide_eq_false c3]; rfl)
    have K3 := Lib.hid (fun W => inI_no x.actual 0 (x.conds.length - 1) W (by omega))
    clear c3
    go_enter Try.func14, Try.ntmps14
    go_wp2_with (go_at_call 43; first | ((with_reducible refine (K1.out _).mono ?_); rintro e w' ⟨rfl, rfl⟩) | ((with_reducible refine (K2.out _).mono ?_); rintro e w' ⟨rfl, rfl⟩) | ((with_reducible refine (K3.out _).mono ?_); rintro e w' ⟨rfl, rfl⟩))
    go_ret
    exact ⟨ret_bool HR.out.symm, by go_grown⟩
  have z3 : 0 ≤ x.actual ∧ x.actual < x.conds.length := Classical.byContradiction c3
  have HOK3 : Hid (R = ((List.range x.conds.length).all (fun j => formOk (x.conds.getD j [])) && (List.range x.blocks.length).all (fun k => (x.blocks.getD k []).length == x.conds.length && ordOk (x.blocks.getD k [])))) := Lib.hid (by rw [HOK2.out, show inB x.actual x.conds.length = true from decide_eq_true z3]; simp)
  have K3 := Lib.hid (fun W => inI_yes x.actual 0 (x.conds.length - 1) W (by omega) (by omega))
  clear c3 HOK2
  obtain ⟨z3, z3'⟩ := z3
  go_enter Try.func14, Try.ntmps14
  go_wp2_with (go_at_call 43; first | ((with_reducible refine (K1.out _).mono ?_); rintro e w' ⟨rfl, rfl⟩) | ((with_reducible refine (K2.out _).mono ?_); rintro e w' ⟨rfl, rfl⟩) | ((with_reducible refine (K3.out _).mono ?_); rintro e w' ⟨rfl, rfl⟩))
  have X1 := Lib.hid (Mcell.new (w := w) (T := 38) (b := w.heap.size) (fv := .slice fa x.conds.length fc) (bv := .slice ba x.blocks.length bc) (n := x.actual) rfl)
  have B1 : Hid (Below w.heap.size w (w.alloc (.cells #[.slice fa x.conds.length fc, .slice ba x.blocks.length bc, .int .i64 x.actual] 38))) := Lib.hid (by go_grown)
  generalize w.alloc (.cells #[.slice fa x.conds.length fc, .slice ba x.blocks.length bc, .int .i64 x.actual] 38) = w1 at *
  go_loopw [32] (fun iv wr => ∃ k : Nat, k ≤ x.conds.length ∧ iv = .int .i64 k ∧ Hid ((List.range k).all (fun j => formOk (x.conds.getD j [])) = true) ∧ Hid (Mcell wr w.heap.size (.slice fa x.conds.length fc) (.slice ba x.blocks.length bc) x.actual) ∧ Hid (Below w.heap.size w wr)) (fun iv _ => x.conds.length - (intOf iv).toNat)
  case atStart => exact ⟨0, Nat.zero_le _, rfl, Lib.hid rfl, X1, B1⟩
  case round =>
    clear X1 B1
    obtain ⟨k, hk, rfl, HK, X1, B1⟩ := hrel
    by_cases hlt : k < x.conds.length
    · obtain ⟨_, _, e1, _, _, h1⟩ := (HF.out.later B1.out).parts
      cases e1
      obtain ⟨b, o, u, rfl, _, _, hb, c0, hu⟩ := h1 k hlt
      clear h1
      have HBAD : Hid (formOk (x.conds.getD k []) = false → R = false) := Lib.hid (fun h => by rw [HOK3.out, all_false (p := fun j => formOk (x.conds.getD j [])) h hlt]; rfl)
      have HGOOD : Hid (formOk (x.conds.getD k []) = true → (List.range (k + 1)).all (fun j => formOk (x.conds.getD j [])) = true) := Lib.hid (fun h => all_succ HK.out h)
      obtain ⟨ua, uc, uf, _⟩ := id hu
      subst uf
      have KF := Lib.hid (specForm_any _ _ wr hu)
      clear hu
      generalize x.conds.getD k [] = l at *
      cases ho : formOk l with
      | true =>
        rw [ho] at KF HGOOD
        have HG := Lib.hid (HGOOD.out rfl)
        clear ho
        go_wp2_with fail
        refine KF.out.mono ?_
        rintro e w5 ⟨rfl, hb5⟩
        have X5 := Lib.hid (X1.out.below hb5)
        have B5 := Lib.hid (B1.out.trans (hb5.mono B1.out.size))
        clear hb5 c0
        go_wp2
        go_roundw
        case rel => exact ⟨k + 1, by omega, by go_num, HG, X5, B5⟩
        case measure => simp [intOf]; omega
      | false =>
        rw [ho] at KF HBAD
        have HR := Lib.hid (HBAD.out rfl)
        clear ho
        go_wp2_with fail
        refine KF.out.mono ?_
        rintro e w5 ⟨rfl, hb5⟩
        have B5 := Lib.hid (B1.out.trans (hb5.mono B1.out.size))
        clear hb5 c0
        go_wp2
        go_ret
        exact ⟨ret_bool HR.out.symm, B5.out⟩
    · obtain rfl : k = x.conds.length := by omega
      have HOK4 : Hid (R = (List.range x.blocks.length).all (fun k => (x.blocks.getD k []).length == x.conds.length && ordOk (x.blocks.getD k []))) := Lib.hid (by rw [HOK3.out, HK.out]; rfl)
      obtain ⟨x0, x1, x2, _⟩ := X1.out
      clear HK
      go_wp2
      clear x0 x1 x2
      go_loop [43] (fun iv => ∃ k : Nat, k ≤ x.blocks.length ∧ iv = .int .i64 k ∧ Hid ((List.range k).all (fun k => (x.blocks.getD k []).length == x.conds.length && ordOk (x.blocks.getD k [])) = true)) (fun iv => x.blocks.length - (intOf iv).toNat)
      case atStart => exact ⟨0, Nat.zero_le _, rfl, Lib.hid rfl⟩
      case round =>
        obtain ⟨k, hk, rfl, HK⟩ := hrel
        by_cases hlt : k < x.blocks.length
        · obtain ⟨b, o, u, rfl, _, _, hbl, c0, hu⟩ := (HBV.out.keeps (Keeps.of_all B1.out)).row rfl k hlt
          obtain ⟨a1, q1, e1⟩ := hu.form
          subst e1
          have HBAD : Hid (((x.blocks.getD k []).length == x.conds.length && ordOk (x.blocks.getD k [])) = false → R = false) := Lib.hid (fun h => by rw [HOK4.out]; exact all_false (p := fun k => (x.blocks.getD k []).length == x.conds.length && ordOk (x.blocks.getD k [])) h hlt)
          have HGOOD : Hid (((x.blocks.getD k []).length == x.conds.length && ordOk (x.blocks.getD k [])) = true → (List.range (k + 1)).all (fun k => (x.blocks.getD k []).length == x.conds.length && ordOk (x.blocks.getD k [])) = true) := Lib.hid (fun h => all_succ HK.out h)
          have KN := Lib.hid (specNumbered_any lo hi _ _ _ hu)
          clear hu
          generalize x.blocks.getD k [] = l at *
          by_cases hl : l.length = x.conds.length
          · rw [hl] at HBAD HGOOD KN c0
            clear hl
            cases ho : ordOk l with
            | true =>
              rw [ho] at KN HGOOD
              have HG := Lib.hid (HGOOD.out (by simp))
              clear ho
              go_wp2_with (go_at_call 45; refine KN.out.mono ?_; rintro e w' ⟨rfl, rfl⟩)
              go_round
              case rel => exact ⟨k + 1, by omega, by go_num, HG⟩
              case measure => simp [intOf]; omega
            | false =>
              rw [ho] at KN HBAD
              have HR := Lib.hid (HBAD.out (by simp))
              clear ho
              go_wp2_with (go_at_call 45; refine KN.out.mono ?_; rintro e w' ⟨rfl, rfl⟩)
              go_ret
              exact ⟨ret_bool HR.out.symm, B1.out⟩
          · have HR := Lib.hid (HBAD.out (by rw [show (l.length == x.conds.length) = false by rw [beq_eq_false_iff_ne]; exact hl]; rfl))
            have hne2 : ((l.length : Int) == (x.conds.length : Int)) = false := by rw [beq_eq_false_iff_ne]; omega
            have hne3 : ((l.length : Int) != (x.conds.length : Int)) = true := by rw [bne_iff_ne]; omega
            go_wp2_with fail
            go_ret
            exact ⟨ret_bool HR.out.symm, B1.out⟩
        · obtain rfl : k = x.blocks.length := by omega
          go_wp2
          go_ret
          exact ⟨ret_bool (by rw [HOK4.out, HK.out]), B1.out⟩
end Go.Proofs.Ytpodpadcaflehaa
