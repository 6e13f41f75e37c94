/-
  Contracts of spec.l01In, spec.l03Numbered, spec.ModelOk, spec.CountWorlds, impl.ModelOk, impl.CountWorlds; the walks of the laws FnExactModelOk, FnExactCountWorlds. Conditions of the contracts: bounds on the lengths, which the laws check.
-/
import Derived.Test.YtegmoojjffkacaaMok
namespace Go.Proofs.Ytegmoojjffkacaa
open Go.RowKit Go.WideShapes
open Go Go.Deep

set_option maxHeartbeats 400000 in
theorem inI_yes (x lo hi : Int) (w : World) (h1 : lo ≤ x) (h2 : x ≤ hi) : Calls Try.prog 81 #[.int .i64 x, .int .i64 lo, .int .i64 hi] w fun e w' => e = .returned (.bool true) ∧ w = w' := by
  go_enter Try.func81, Try.ntmps81
  go_wp2
  go_ret
  exact ⟨ret_bool (by simp <;> omega), rfl⟩
set_option maxHeartbeats 400000 in
theorem inI_no (x lo hi : Int) (w : World) (h : x < lo ∨ hi < x) : Calls Try.prog 81 #[.int .i64 x, .int .i64 lo, .int .i64 hi] w fun e w' => e = .returned (.bool false) ∧ w = w' := by
  by_cases h1 : x < lo
  · clear h
    go_enter Try.func81, Try.ntmps81
    go_wp2
    go_ret
    exact ⟨rfl, rfl⟩
  · have h2 : lo ≤ x := by omega
    have h3 : hi < x := by omega
    clear h h1
    go_enter Try.func81, Try.ntmps81
    go_wp2
    go_ret
    exact ⟨ret_bool (by simp <;> omega), rfl⟩
theorem inI_any (x lo hi : Int) (w : World) (b : Bool) (hb : b = decide (lo ≤ x ∧ x ≤ hi)) : Calls Try.prog 81 #[.int .i64 x, .int .i64 lo, .int .i64 hi] w fun e w' => e = .returned (.bool b) ∧ w = w' := by
  by_cases h : lo ≤ x ∧ x ≤ hi
  · rw [decide_eq_true h] at hb; subst hb; exact inI_yes x lo hi w h.1 h.2
  · rw [decide_eq_false h] at hb; subst hb; exact inI_no x lo hi w (by omega)

theorem Iv.at' {lo hi : Nat} {w : World} {a : Option Addr} {n cap : Nat} {l : List Int} (h : Iv lo hi w (.slice a n cap) l) {W : World} (hb : Below w.heap.size w W) (j : Nat) (hj : j < l.length) :
    ∃ b o, a = some ⟨b, o, none⟩ ∧ W.cell? ⟨b, o + j, none⟩ = some (.int .i64 (l.getD j 0)) := by
  obtain ⟨a', cap', e, _, _, h4⟩ := h.parts
  cases e
  obtain ⟨b, o, e1, _, _, hlt, hc⟩ := h4 j hj
  exact ⟨b, o, e1, by rw [hb.cell (p := ⟨b, o + j, none⟩) hlt]; exact hc⟩
theorem most_le {l : List Int} : ∀ k, ordTo l k → mostOf l k < k
  | 0, _ => by simp [mostOf]
  | k + 1, h => by
    obtain ⟨h1, _, h3⟩ := ordTo_succ.1 h
    have := most_le k h1
    rw [mostOf]; omega
set_option maxRecDepth 100000 in
set_option maxHeartbeats 4000000 in
theorem specNumbered_any (lo hi : Nat) (v : Value) (l : List Int) (w : World) (hr : Iv lo hi w v l) :
    Calls Try.prog 106 #[v] w fun e w' => e = .returned (.bool (ordOk l)) ∧ w = w' := by
  obtain ⟨a, cap, rfl, h1, h2, h3⟩ := hr.parts
  unfold maxLen at h2
  have KEY := Lib.hid h3
  have HOK : Hid (ordOk l = decide (ordTo l l.length)) := Lib.hid rfl
  clear h3 hr
  generalize ordOk l = R at *
  go_enter Try.func106, Try.ntmps106
  go_wp2
  go_loop [3, 8] (fun mv iv => ∃ (k : Nat) (q : Int), k ≤ l.length ∧ iv = .int .i64 k ∧ mv = .int .i64 q ∧ -1 ≤ q ∧ q < k ∧ Hid (q = mostOf l k) ∧ Hid (ordTo l k)) (fun _ iv => l.length - (intOf iv).toNat)
  case atStart => exact ⟨0, -1, Nat.zero_le _, rfl, rfl, by omega, by omega, Lib.hid rfl, Lib.hid (fun i hi => by omega)⟩
  case round =>
    obtain ⟨k, q, hk, rfl, rfl, hq0, hqk, HQ, HO⟩ := hrel
    by_cases hlt : k < l.length
    · obtain ⟨b, o, rfl, _, _, hb, c0⟩ := KEY.out k hlt
      have HS := Lib.hid (ordTo_succ (l := l) (k := k))
      have HM : Hid (mostOf l (k + 1) = max (mostOf l k) (l.getD k 0)) := Lib.hid rfl
      have HB2 : Hid (¬ (0 ≤ l.getD k 0 ∧ l.getD k 0 ≤ mostOf l k + 1) → R = false) := Lib.hid (fun h => by
        rw [HOK.out]
        exact decide_eq_false (fun h2 => h ⟨(h2 k hlt).1, (h2 k hlt).2⟩))
      rw [← HQ.out] at HS HM HB2
      generalize l.getD k 0 = x at *
      by_cases hx : 0 ≤ x ∧ x ≤ q + 1
      · have KI := Lib.hid (fun W => inI_yes x 0 (q + 1) W hx.1 hx.2)
        have hx0 := hx.1
        have hx1 := hx.2
        clear hx
        by_cases hm : q ≤ x
        · go_wp2_with (go_at_call 81; refine (KI.out _).mono ?_; rintro e w' ⟨rfl, rfl⟩)
          go_round
          case rel => exact ⟨k + 1, x, by omega, by go_num, by go_num, by omega, by omega, Lib.hid (by rw [HM.out]; omega), Lib.hid (HS.out.2 ⟨HO.out, hx0, hx1⟩)⟩
          case measure => simp [intOf]; omega
        · go_wp2_with (go_at_call 81; refine (KI.out _).mono ?_; rintro e w' ⟨rfl, rfl⟩)
          go_round
          case rel => exact ⟨k + 1, q, by omega, by go_num, by go_num, by omega, by omega, Lib.hid (by rw [HM.out]; omega), Lib.hid (HS.out.2 ⟨HO.out, hx0, hx1⟩)⟩
          case measure => simp [intOf]; omega
      · have KI := Lib.hid (fun W => inI_no x 0 (q + 1) W (by omega))
        have HR := Lib.hid (HB2.out hx)
        clear hx
        go_wp2_with (go_at_call 81; refine (KI.out _).mono ?_; rintro e w' ⟨rfl, rfl⟩)
        go_ret
        exact ⟨ret_bool HR.out.symm, rfl⟩
    · obtain rfl : k = l.length := by omega
      go_wp2
      go_ret
      exact ⟨ret_bool (by rw [HOK.out, decide_eq_true HO.out]), rfl⟩

set_option maxRecDepth 100000 in
set_option maxHeartbeats 8000000 in
theorem specOk_any (lo hi : Nat) (v : Value) (m : Md) (w : World) (hr : Mv lo hi w v m) :
    Calls Try.prog 63 #[v] w fun e w' => e = .returned (.bool (specOk m)) ∧ Below w.heap.size w w' := by
  obtain ⟨fv, bv, rfl, hf, hb⟩ := hr
  obtain ⟨fa, fc, e1⟩ := hf.form
  obtain ⟨ba, bc, e2, hbl, hbc, hxx⟩ := hb.parts
  obtain ⟨fa', fc', e3, hfl, hfc, hyy⟩ := hf.parts
  rw [e1] at e3
  simp only [Value.slice.injEq, true_and] at e3
  obtain ⟨rfl, rfl⟩ := e3
  clear hxx hyy
  subst e1
  subst e2
  unfold maxLen at hbc hfc
  have HF := Lib.hid hf
  have HBV := Lib.hid hb
  clear hf hb
  have HOK : Hid (specOk m = (decide (1 ≤ m.facts.length ∧ m.facts.length ≤ 16) && decide (1 ≤ m.blocks.length ∧ m.blocks.length ≤ 3) && inB m.actual m.facts.length &&
    (List.range m.facts.length).all (fun j => inB (m.facts.getD j 0) 16) && (List.range m.blocks.length).all (fun k => (m.blocks.getD k []).length == m.facts.length && ordOk (m.blocks.getD k [])))) := Lib.hid rfl
  generalize specOk m = R at *
  by_cases c1 : ¬ (1 ≤ m.facts.length ∧ m.facts.length ≤ 16)
  · have HR : Hid (R = false) := Lib.hid (by rw [HOK.out, decide_eq_false c1]; rfl)
    have K1 := Lib.hid (fun W => inI_no m.facts.length 1 16 W (by omega))
    clear c1
    go_enter Try.func63, Try.ntmps63
    go_wp2_with (go_at_call 81; first | ((with_reducible refine (K1.out _).mono ?_); rintro e w' ⟨rfl, rfl⟩))
    go_ret
    exact ⟨ret_bool HR.out.symm, by go_grown⟩
  by_cases c2 : ¬ (1 ≤ m.blocks.length ∧ m.blocks.length ≤ 3)
  · have HR : Hid (R = false) := Lib.hid (by rw [HOK.out, decide_eq_false c2]; simp)
    have K1 := Lib.hid (fun W => inI_yes m.facts.length 1 16 W (by omega) (by omega))
    have K2 := Lib.hid (fun W => inI_no m.blocks.length 1 3 W (by omega))
    clear c1 c2
    go_enter Try.func63, Try.ntmps63
    go_wp2_with (go_at_call 81; first | ((with_reducible refine (K1.out _).mono ?_); rintro e w' ⟨rfl, rfl⟩) | ((with_reducible refine (K2.out _).mono ?_); rintro e w' ⟨rfl, rfl⟩))
    go_ret
    exact ⟨ret_bool HR.out.symm, by go_grown⟩
  have z1 : 1 ≤ m.facts.length ∧ m.facts.length ≤ 16 := Classical.byContradiction c1
  have z2 : 1 ≤ m.blocks.length ∧ m.blocks.length ≤ 3 := Classical.byContradiction c2
  clear c1 c2
  obtain ⟨z1, z1'⟩ := z1
  obtain ⟨z2, z2'⟩ := z2
  have K1 := Lib.hid (fun W => inI_yes m.facts.length 1 16 W (by omega) (by omega))
  have K2 := Lib.hid (fun W => inI_yes m.blocks.length 1 3 W (by omega) (by omega))
  have HOK2 : Hid (R = (inB m.actual m.facts.length &&
    (List.range m.facts.length).all (fun j => inB (m.facts.getD j 0) 16) && (List.range m.blocks.length).all (fun k => (m.blocks.getD k []).length == m.facts.length && ordOk (m.blocks.getD k [])))) := Lib.hid (by rw [HOK.out, decide_eq_true ⟨z1, z1'⟩, decide_eq_true ⟨z2, z2'⟩]; simp)
  clear HOK
  by_cases c3 : ¬ (0 ≤ m.actual ∧ m.actual < m.facts.length)
  · have HR : Hid (R = false) := Lib.hid (by rw [HOK2.out, show inB m.actual m.facts.length = false from decide_eq_false c3]; rfl)
    have K3 := Lib.hid (fun W => inI_no m.actual 0 (m.facts.length - 1) W (by omega))
    clear c3
    go_enter Try.func63, Try.ntmps63
    go_wp2_with (go_at_call 81; first | ((with_reducible refine (K1.out _).mono ?_); rintro e w' ⟨rfl, rfl⟩) | ((with_reducible refine (K2.out _).mono ?_); rintro e w' ⟨rfl, rfl⟩) | ((with_reducible refine (K3.out _).mono ?_); rintro e w' ⟨rfl, rfl⟩))
    go_ret
    exact ⟨ret_bool HR.out.symm, by go_grown⟩
  have z3 : 0 ≤ m.actual ∧ m.actual < m.facts.length := Classical.byContradiction c3
  have HOK3 : Hid (R = ((List.range m.facts.length).all (fun j => inB (m.facts.getD j 0) 16) && (List.range m.blocks.length).all (fun k => (m.blocks.getD k []).length == m.facts.length && ordOk (m.blocks.getD k [])))) := Lib.hid (by rw [HOK2.out, show inB m.actual m.facts.length = true from decide_eq_true z3]; simp)
  have K3 := Lib.hid (fun W => inI_yes m.actual 0 (m.facts.length - 1) W (by omega) (by omega))
  clear c3 HOK2
  obtain ⟨z3, z3'⟩ := z3
  go_enter Try.func63, Try.ntmps63
  go_wp2_with (go_at_call 81; first | ((with_reducible refine (K1.out _).mono ?_); rintro e w' ⟨rfl, rfl⟩) | ((with_reducible refine (K2.out _).mono ?_); rintro e w' ⟨rfl, rfl⟩) | ((with_reducible refine (K3.out _).mono ?_); rintro e w' ⟨rfl, rfl⟩))
  have X1 := Lib.hid (Mcell.new (w := w) (T := 27) (b := w.heap.size) (fv := .slice fa m.facts.length fc) (bv := .slice ba m.blocks.length bc) (n := m.actual) rfl)
  have B1 : Hid (Below w.heap.size w (w.alloc (.cells #[.slice fa m.facts.length fc, .slice ba m.blocks.length bc, .int .i64 m.actual] 27))) := Lib.hid (by go_grown)
  generalize w.alloc (.cells #[.slice fa m.facts.length fc, .slice ba m.blocks.length bc, .int .i64 m.actual] 27) = w1 at *
  go_loop [32] (fun iv => ∃ k : Nat, k ≤ m.facts.length ∧ iv = .int .i64 k ∧ Hid ((List.range k).all (fun j => inB (m.facts.getD j 0) 16) = true)) (fun iv => m.facts.length - (intOf iv).toNat)
  case atStart => exact ⟨0, Nat.zero_le _, rfl, Lib.hid rfl⟩
  case round =>
    obtain ⟨k, hk, rfl, HK⟩ := hrel
    by_cases hlt : k < m.facts.length
    · obtain ⟨b, o, rfl, c0⟩ := HF.out.at' B1.out k hlt
      have HBAD : Hid (inB (m.facts.getD k 0) 16 = false → R = false) := Lib.hid (fun h => by rw [HOK3.out, all_false (p := fun j => inB (m.facts.getD j 0) 16) h hlt]; rfl)
      have HGOOD : Hid (inB (m.facts.getD k 0) 16 = true → (List.range (k + 1)).all (fun j => inB (m.facts.getD j 0) 16) = true) := Lib.hid (fun h => all_succ HK.out h)
      generalize m.facts.getD k 0 = x at *
      by_cases hx : 0 ≤ x ∧ x < 16
      · have KI := Lib.hid (fun W => inI_yes x 0 15 W (by omega) (by omega))
        have HG := Lib.hid (HGOOD.out (inB_yes hx.1 hx.2))
        clear hx
        go_wp2_with (go_at_call 81; refine (KI.out _).mono ?_; rintro e w' ⟨rfl, rfl⟩)
        go_round
        case rel => exact ⟨k + 1, by omega, by go_num, HG⟩
        case measure => simp [intOf]; omega
      · have KI := Lib.hid (fun W => inI_no x 0 15 W (by omega))
        have HR := Lib.hid (HBAD.out (decide_eq_false hx))
        clear hx
        go_wp2_with (go_at_call 81; refine (KI.out _).mono ?_; rintro e w' ⟨rfl, rfl⟩)
        go_ret
        exact ⟨ret_bool HR.out.symm, B1.out⟩
    · obtain rfl : k = m.facts.length := by omega
      have HOK4 : Hid (R = (List.range m.blocks.length).all (fun k => (m.blocks.getD k []).length == m.facts.length && ordOk (m.blocks.getD k []))) := Lib.hid (by rw [HOK3.out, HK.out]; rfl)
      obtain ⟨x0, x1, x2, _⟩ := X1.out
      clear HK
      go_wp2
      clear x0 x1 x2
      go_loop [43] (fun iv => ∃ k : Nat, k ≤ m.blocks.length ∧ iv = .int .i64 k ∧ Hid ((List.range k).all (fun k => (m.blocks.getD k []).length == m.facts.length && ordOk (m.blocks.getD k [])) = true)) (fun iv => m.blocks.length - (intOf iv).toNat)
      case atStart => exact ⟨0, Nat.zero_le _, rfl, Lib.hid rfl⟩
      case round =>
        obtain ⟨k, hk, rfl, HK⟩ := hrel
        by_cases hlt : k < m.blocks.length
        · obtain ⟨b, o, u, rfl, _, _, hbl, c0, hu⟩ := (HBV.out.keeps (Keeps.of_all B1.out)).row rfl k hlt
          obtain ⟨a1, q1, e1⟩ := hu.form
          subst e1
          have HBAD : Hid (((m.blocks.getD k []).length == m.facts.length && ordOk (m.blocks.getD k [])) = false → R = false) := Lib.hid (fun h => by rw [HOK4.out]; exact all_false (p := fun k => (m.blocks.getD k []).length == m.facts.length && ordOk (m.blocks.getD k [])) h hlt)
          have HGOOD : Hid (((m.blocks.getD k []).length == m.facts.length && ordOk (m.blocks.getD k [])) = true → (List.range (k + 1)).all (fun k => (m.blocks.getD k []).length == m.facts.length && ordOk (m.blocks.getD k [])) = true) := Lib.hid (fun h => all_succ HK.out h)
          have KN := Lib.hid (specNumbered_any lo hi _ _ w1 hu)
          clear hu
          generalize m.blocks.getD k [] = l at *
          by_cases hl : l.length = m.facts.length
          · rw [hl] at HBAD HGOOD KN c0
            clear hl
            cases ho : ordOk l with
            | true =>
              rw [ho] at KN HGOOD
              have HG := Lib.hid (HGOOD.out (by simp))
              clear ho
              go_wp2_with (go_at_call 106; refine KN.out.mono ?_; rintro e w' ⟨rfl, rfl⟩)
              go_round
              case rel => exact ⟨k + 1, by omega, by go_num, HG⟩
              case measure => simp [intOf]; omega
            | false =>
              rw [ho] at KN HBAD
              have HR := Lib.hid (HBAD.out (by simp))
              clear ho
              go_wp2_with (go_at_call 106; refine KN.out.mono ?_; rintro e w' ⟨rfl, rfl⟩)
              go_ret
              exact ⟨ret_bool HR.out.symm, B1.out⟩
          · have HR := Lib.hid (HBAD.out (by rw [show (l.length == m.facts.length) = false by rw [beq_eq_false_iff_ne]; exact hl]; rfl))
            have hne2 : ((l.length : Int) == (m.facts.length : Int)) = false := by rw [beq_eq_false_iff_ne]; omega
            have hne3 : ((l.length : Int) != (m.facts.length : Int)) = true := by rw [bne_iff_ne]; omega
            go_wp2_with fail
            go_ret
            exact ⟨ret_bool HR.out.symm, B1.out⟩
        · obtain rfl : k = m.blocks.length := by omega
          go_wp2
          go_ret
          exact ⟨ret_bool (by rw [HOK4.out, HK.out]), B1.out⟩

set_option maxRecDepth 100000 in
set_option maxHeartbeats 4000000 in
theorem implOk_m (lo hi : Nat) (v : Value) (m : Md) (w : World) (hr : Mv lo hi w v m) (hhi : hi ≤ w.heap.size) :
    Calls Try.prog 36 #[v] w fun e w' => e = .returned (.bool (mdOk m)) ∧ Below w.heap.size w w' := by
  have KG := Lib.hid (fun W (h : Below w.heap.size w W) => gridOf_any lo hi v m W (hr.keeps (Keeps.of_all h)) (Nat.le_trans hhi h.size))
  obtain ⟨fv, bv, rfl, hf, hb⟩ := hr
  clear hf hb
  obtain ⟨r, HR⟩ : ∃ r, Hid (r = if mdOk m then some (gOf m) else none) := ⟨_, Lib.hid rfl⟩
  rw [show (if mdOk m then some (gOf m) else none) = r from HR.out.symm] at KG
  have HRB : Hid (mdOk m = r.isSome) := Lib.hid (by rw [HR.out]; cases mdOk m <;> rfl)
  have HLG : Hid ((ints (r.getD (gL 0 0 [] [] 0))).length = 67) := Lib.hid (by
    rw [ints_len, HR.out]
    cases h : mdOk m with
    | false => rfl
    | true => exact gL_len (md_small h))
  have HLO := Lib.hid (fun v (hv : v ∈ ints (r.getD (gL 0 0 [] [] 0))) => ints_one hv)
  rw [HRB.out]
  unfold GdAns at KG
  generalize r.getD (gL 0 0 [] [] 0) = G at *
  generalize r.isSome = ok at *
  go_enter Try.func36, Try.ntmps36
  go_wp2_with fail
  refine (KG.out _ (by go_grown)).mono ?_
  rintro e w1 ⟨rfl, hb1⟩
  have B1 : Hid (Below w.heap.size w w1) := Lib.hid (Below.trans (by go_grown) (hb1.mono (by simp)))
  clear hb1
  go_wp2_with
    (refine wpList_allocM rfl 75 rfl (ints (gL 0 0 [] [] 0)) Try.allocGrid ?_
     intro w2 hc2 hb2 hs2
     have C2 := Lib.hid hc2
     have B2 := Lib.hid (B1.out.trans (hb2.mono B1.out.size))
     clear hc2 hb2 hs2
     go_wp2_with
       (refine wpList_storeM rfl 75 _ _ rfl w1.heap.size 0 rfl (ints G) rfl 75 _ C2.out (by rw [HLG.out]; exact Nat.le_refl _) (by rw [HLG.out]; exact Try.sizeGrid) HLO.out ?_
        intro w3 hc3 ha3
        have B3 : Hid (Below w.heap.size w w3) := Lib.hid (B2.out.trans (ha3.below B1.out.size))
        clear hc3 ha3
        go_wp2_with fail
        go_ret
        exact ⟨rfl, B3.out⟩))

set_option maxRecDepth 100000 in
set_option maxHeartbeats 4000000 in
theorem implCount_any (lo hi : Nat) (v : Value) (m : Md) (w : World) (hr : Mv lo hi w v m) (hhi : hi ≤ w.heap.size) :
    Calls Try.prog 37 #[v] w fun e w' => e = .returned (.int .i64 (if specOk m then m.facts.length else 0 : Nat)) ∧ Below w.heap.size w w' := by
  have KG := Lib.hid (fun W (h : Below w.heap.size w W) => gridOf_any lo hi v m W (hr.keeps (Keeps.of_all h)) (Nat.le_trans hhi h.size))
  obtain ⟨fv, bv, rfl, hf, hb⟩ := hr
  clear hf hb
  obtain ⟨r, HR⟩ : ∃ r, Hid (r = if mdOk m then some (gOf m) else none) := ⟨_, Lib.hid rfl⟩
  rw [show (if mdOk m then some (gOf m) else none) = r from HR.out.symm] at KG
  have HLG : Hid ((ints (r.getD (gL 0 0 [] [] 0))).length = 67) := Lib.hid (by
    rw [ints_len, HR.out]
    cases h : mdOk m with
    | false => rfl
    | true => exact gL_len (md_small h))
  have HLO := Lib.hid (fun v (hv : v ∈ ints (r.getD (gL 0 0 [] [] 0))) => ints_one hv)
  obtain ⟨q, HQ⟩ : ∃ q : Nat, Hid (q = if specOk m then m.facts.length else 0) := ⟨_, Lib.hid rfl⟩
  rw [show (if specOk m then m.facts.length else 0) = q from HQ.out.symm]
  have HG0 : Hid (∀ W b T, Cm W b T (ints (r.getD (gL 0 0 [] [] 0))) → W.cell? ⟨b, 0, none⟩ = some (.int .i64 q)) := Lib.hid (fun W b T h => by
    rw [HR.out] at h
    rw [HQ.out, specOk_mdOk]
    cases hm : mdOk m with
    | false => rw [hm] at h; exact Cm.g0 h
    | true => rw [hm] at h; exact Cm.g0 h)
  unfold GdAns at KG
  generalize r.getD (gL 0 0 [] [] 0) = G at *
  generalize r.isSome = ok at *
  go_enter Try.func37, Try.ntmps37
  go_wp2_with fail
  refine (KG.out _ (by go_grown)).mono ?_
  rintro e w1 ⟨rfl, hb1⟩
  have B1 : Hid (Below w.heap.size w w1) := Lib.hid (Below.trans (by go_grown) (hb1.mono (by simp)))
  clear hb1
  go_wp2_with
    (refine wpList_allocM rfl 75 rfl (ints (gL 0 0 [] [] 0)) Try.allocGrid ?_
     intro w2 hc2 hb2 hs2
     have C2 := Lib.hid hc2
     have B2 := Lib.hid (B1.out.trans (hb2.mono B1.out.size))
     clear hc2 hb2 hs2
     go_wp2_with
       (refine wpList_storeM rfl 75 _ _ rfl w1.heap.size 0 rfl (ints G) rfl 75 _ C2.out (by rw [HLG.out]; exact Nat.le_refl _) (by rw [HLG.out]; exact Try.sizeGrid) HLO.out ?_
        intro w3 hc3 ha3
        rw [lay'_all (by rw [HLG.out]; rfl)] at hc3
        have g0 := HG0.out _ _ _ hc3
        have B3 : Hid (Below w.heap.size w w3) := Lib.hid (B2.out.trans (ha3.below B1.out.size))
        clear hc3 ha3
        go_wp2_with fail
        go_ret
        exact ⟨rfl, B3.out⟩))
end Go.Proofs.Ytegmoojjffkacaa
