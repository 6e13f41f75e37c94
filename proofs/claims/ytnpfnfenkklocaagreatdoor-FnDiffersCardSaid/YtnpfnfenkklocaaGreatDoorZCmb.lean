/- ZCmb -/
import Derived.Lib.ItoaNum
import Derived.Lib.ItoaMem
import Derived.Deep.RegionWith
import Derived.Test.YtnpfnfenkklocaaGreatDoorLayA
set_option maxRecDepth 100000
set_option maxHeartbeats 64000000
namespace Go.Proofs.YtnpfnfenkklocaaGreatDoor
open Go.RowKit
open Go
theorem ofNat48 (k : Nat) : UInt8.ofNat (48 + k) = 48 + UInt8.ofNat k := by
  rw [UInt8.ofNat_add]; rfl
theorem dec_step {k : Nat} (h : 9 < k) (l : List UInt8) : Lib.decDigits k ++ l = Lib.decDigits (k / 10) ++ ((48 + UInt8.ofNat (k % 10)) :: l) := by
  conv => lhs; rw [Lib.decDigits, dif_neg (by omega)]
  rw [ofNat48]; simp
theorem dec_last {k : Nat} (h : k ≤ 9) (l : List UInt8) : Lib.decDigits k ++ l = (48 + UInt8.ofNat k) :: l := by
  rw [Lib.decDigits, dif_pos (by omega), ofNat48]; rfl
theorem specFormat_pos (k0 : Nat) (w : World) (hk : k0 ≤ 9223372036854775807) :
    Calls Tryz.prog 58 #[.int .i64 k0] w fun e w' => e = .returned (.string ⟨(Lib.decDigits k0).toArray⟩) ∧ Below w.heap.size w w' := by
  go_enter Tryz.func58, Tryz.ntmps58
  go_wp2
  go_loopw [0, 3] (fun kv out wr => ∃ (k : Nat) (l : List UInt8), kv = .int .i64 k ∧ k ≤ 9223372036854775807 ∧ out = .string ⟨l.toArray⟩ ∧ (l.length = 0 ∨ k + l.length + 8 ≤ 9223372036854775807) ∧ Hid (Lib.decDigits k ++ l = Lib.decDigits k0) ∧ Hid (Below w.heap.size w wr) ∧ w.heap.size ≤ wr.heap.size) (fun kv _ _ => (intOf kv).toNat)
  case atStart => exact ⟨k0, [], rfl, hk, rfl, .inl rfl, hid (by simp), hid (Below.refl _ _), Nat.le_refl _⟩
  case round =>
    obtain ⟨k, l, rfl, hkm, rfl, hkl, HD, HB, hsz⟩ := hrel
    have hl1 : l.length + 1 ≤ 9223372036854775807 := by omega
    by_cases hlt : 9 < k
    · have hmod : (k : Int) % 10 < 10 := by omega
      have hmod0 : 0 ≤ (k : Int) % 10 := by omega
      have hcv := run_bytes_one (P := Tryz.prog) Tryz.underlying37 Tryz.underlying5 Tryz.underlying9 wr (48 + (k : Int) % 10)
      go_wp2
      go_roundw
      case rel =>
        refine ⟨k / 10, (48 + UInt8.ofNat (k % 10)) :: l, by simp, by omega, ?_, .inr (by simp; omega), hid ?_, hid (HB.out.alloc hsz _), by simp; omega⟩
        · rw [ByteArray.mk_append_lists]
        · rw [← HD.out, dec_step hlt]
      case measure => simp [intOf]; omega
    · have hcv := run_bytes_one (P := Tryz.prog) Tryz.underlying37 Tryz.underlying5 Tryz.underlying9 wr (48 + (k : Int))
      go_wp2
      go_ret
      exact ⟨ret_str (by rw [← HD.out, dec_last (by omega)]; rw [ByteArray.mk_append_lists]), HB.out.alloc hsz _⟩
open Go Go.Deep
theorem specSmall_any (n : Int) (w : World) (h : n = 0 ∨ n = 1 ∨ n = 2) : Calls Tryz.prog 58 #[.int .i64 n] w fun e w' => e = .returned (.string (str [UInt8.ofNat (48 + n.toNat)])) ∧ Below w.heap.size w w' := by
  rcases h with rfl | rfl | rfl
  · have e := dec_last (k := 0) (by decide) []
    have := specFormat_pos 0 w (by decide)
    rw [List.append_nil] at e
    rw [e] at this
    exact this
  · have e := dec_last (k := 1) (by decide) []
    have := specFormat_pos 1 w (by decide)
    rw [List.append_nil] at e
    rw [e] at this
    exact this
  · have e := dec_last (k := 2) (by decide) []
    have := specFormat_pos 2 w (by decide)
    rw [List.append_nil] at e
    rw [e] at this
    exact this
def termOfL (xs : List Nd) : Tm := tmAt xs (xs.length - 1)
theorem termOfL_size {xs : List Nd} (h : formOk xs = true) : (termOfL xs).size ≤ 40 := by
  have := form_size h
  have := (formOk_parts h).2.1
  unfold termOfL; omega
theorem lastIx {xs : List Nd} (h : 1 ≤ xs.length) : ((xs.length - 1 : Nat) : Int) = (xs.length : Int) - 1 := by omega
theorem termOf_yes (xs : List Nd) (v : Value) (w : World) (hf : formOk xs = true) (hr : Ns w v xs) :
    Calls Tryz.prog 112 #[v] w fun e w' => e = .returned (.tuple #[tv (termOfL xs), .bool true]) ∧ Below w.heap.size w w' := by
  have K := hid (fun W h => implForm_any v xs W h)
  rw [hf] at K
  have hp := formOk_parts hf
  have KT := hid (fun W (h : Below w.heap.size w W) => termAt_any xs v hp.2.2.1 _ (xs.length - 1) W (Nat.lt_succ_self _) (by omega) (hr.below h (Nat.le_refl _)))
  rw [lastIx hp.1] at KT
  have HR := hid hr
  obtain ⟨a, cap, rfl, h1, h2, h3⟩ := hr
  unfold maxLen at h2
  have hl := hp.1
  clear h3 hp hf
  unfold termOfL
  generalize tv (tmAt xs (xs.length - 1)) = R at *
  go_enter Tryz.func112, Tryz.ntmps112
  go_wp2_with fail
  refine (K.out _ HR.out).mono ?_
  rintro e w1 ⟨rfl, hb1⟩
  have B1 := hid hb1; clear hb1
  go_wp2_with fail
  refine (KT.out _ B1.out).mono ?_
  rintro e w2 ⟨rfl, hb2⟩
  have B2 := hid (B1.out.trans (hb2.mono B1.out.size)); clear hb2
  go_wp2
  go_returns
  exact ⟨rfl, B2.out⟩
theorem termOf_no (xs : List Nd) (v : Value) (w : World) (hf : formOk xs = false) (hr : Ns w v xs) :
    Calls Tryz.prog 112 #[v] w fun e w' => e = .returned (.tuple #[.nilIface, .bool false]) ∧ Below w.heap.size w w' := by
  have K := hid (fun W h => implForm_any v xs W h)
  rw [hf] at K
  have HR := hid hr
  clear hf hr
  go_enter Tryz.func112, Tryz.ntmps112
  go_wp2_with fail
  refine (K.out _ HR.out).mono ?_
  rintro e w1 ⟨rfl, hb1⟩
  have B1 := hid hb1; clear hb1
  go_wp2
  go_returns
  exact ⟨rfl, B1.out⟩
def Ans (w : World) (r : Option (List Nd)) (e : Ending) (w' : World) : Prop :=
  ∃ v, e = .returned (.tuple #[v, .bool r.isSome]) ∧ w'.ownsRow w.heap.size 68 4 v (r.getD []).length (ndCells (r.getD [])) ∧ Below w.heap.size w w'
theorem Ans.none_of {w w' : World} (h : Below w.heap.size w w') : Ans w none (.returned (.tuple #[.slice none 0 0, .bool false])) w' := ⟨_, rfl, World.ownsRow_nil _ _ _ _, h⟩
theorem Ans.later {w w1 w' : World} {r : Option (List Nd)} {e : Ending} (hb : Below w.heap.size w w1) (h : Ans w1 r e w') : Ans w r e w' := by
  obtain ⟨v, he, ho, hb'⟩ := h
  exact ⟨v, he, own_mono ho hb.size, hb.trans (hb'.mono hb.size)⟩
def combL (t : Tm) : Option (List Nd) := if formOk (lay 0 t) then some (lay 0 t) else none
theorem combL_wf {t : Tm} (h : t.wf) : combL t = parsed (txt t) := by
  unfold combL
  by_cases hs : t.size ≤ 40
  · rw [if_pos (lay_formOk h hs), parsed_txt h hs]
  · rw [parsed_big h (by omega), if_neg (by rw [lay_formNot (by omega)]; decide)]
theorem formulaOf_any (t : Tm) (w : World) (hs : t.size ≤ 199) :
    Calls Tryz.prog 113 #[tv t] w (Ans w (combL t)) := by
  have KL := hid (fun W => layOut_any t W (.slice none 0 0) 0 [] W.heap.size (by omega) (World.ownsRow_nil _ _ _ _) (Nat.le_refl _))
  have KO := hid (fun v W h => implForm_any v (lay 0 t) W h)
  have hl := lay_len 0 t
  cases hf : formOk (lay 0 t) with
  | false =>
    rw [show combL t = none by unfold combL; rw [hf]; rfl]
    rw [hf] at KO
    clear hf hs hl
    go_enter Tryz.func113, Tryz.ntmps113
    go_wp2_with fail
    refine (KL.out _).mono ?_
    rintro e w1 ⟨v1, rfl, ho, hb1, _⟩
    rw [List.nil_append] at ho
    have N1 := hid (Ns.of_own ho)
    have B1 := hid hb1
    clear ho hb1
    go_wp2_with fail
    refine (KO.out _ _ N1.out).mono ?_
    rintro e w2 ⟨rfl, hb2⟩
    have B2 := hid (B1.out.trans (hb2.mono B1.out.size)); clear hb2
    go_wp2
    go_returns
    exact Ans.none_of B2.out
  | true =>
    rw [show combL t = some (lay 0 t) by unfold combL; rw [hf]; rfl]
    rw [hf] at KO
    clear hf hs
    have HL := hid hl
    clear hl
    go_enter Tryz.func113, Tryz.ntmps113
    go_wp2_with fail
    refine (KL.out _).mono ?_
    rintro e w1 ⟨v1, rfl, ho, hb1, _⟩
    rw [List.nil_append] at ho
    have O1 := hid ho
    have N1 := hid (Ns.of_own ho)
    have B1 := hid hb1
    clear ho hb1
    go_wp2_with fail
    refine (KO.out _ _ N1.out).mono ?_
    rintro e w2 ⟨rfl, hb2⟩
    have O2 := hid (own_below O1.out hb2 (Nat.le_refl _))
    have B2 := hid (B1.out.trans (hb2.mono B1.out.size)); clear hb2
    go_wp2
    go_returns
    refine ⟨_, rfl, ?_, B2.out⟩
    have := O2.out
    rw [Nat.zero_add, ← HL.out] at this
    exact this
theorem combine_one (op n : Int) (T : Tm → Tm) (hT : ∀ a, (T a).size = a.size + 1) (hN : ∀ a v W, Rs W v [tv a] → Calls Tryz.prog 114 #[.int .i64 op, .int .i64 n, v] W fun e w' => e = .returned (tv (T a)) ∧ W = w')
    (xs : List Nd) (u : Value) (g : Nat) (w : World) (hg : w.cell? ⟨g, 0, none⟩ = some u) (hu : Ns w u xs) :
    Calls Tryz.prog 101 #[.int .i64 op, .int .i64 n, .slice (some ⟨g, 0, none⟩) 1 1] w (Ans w (if formOk xs then combL (T (termOfL xs)) else none)) := by
  obtain ⟨ua, uc, hue, _⟩ : ∃ ua uc, u = .slice ua xs.length uc ∧ True := by
    obtain ⟨a, c, h, _⟩ := hu
    exact ⟨a, c, h, trivial⟩
  have hz0 : (0 : Nat) + 1 ≤ maxLen := by decide
  have hz1 : (0 + 1) * 16 ≤ 140737488355328 := by decide
  have HU := hid hu
  clear hu
  subst hue
  cases hf : formOk xs with
  | false =>
    rw [if_neg (by decide)]
    have KT := hid (fun W h => termOf_no xs (.slice ua xs.length uc) W hf h)
    clear hf hN hT
    go_enter Tryz.func101, Tryz.ntmps101
    go_wp2
    refine wp_loop_rounds 2 ?_
    rw [rounds_succ]
    go_wp2_with fail
    refine (KT.out _ HU.out).mono ?_
    rintro e w1 ⟨rfl, hb1⟩
    have B1 := hid hb1; clear hb1
    go_wp2
    go_returns
    exact Ans.none_of B1.out
  | true =>
    rw [if_pos rfl]
    have KT := hid (fun W h => termOf_yes xs (.slice ua xs.length uc) W hf h)
    have hsz := termOfL_size hf
    clear hf
    generalize termOfL xs = A at *
    have KN := hid (hN A)
    have KF := hid (fun W => formulaOf_any (T A) W (by rw [hT]; omega))
    clear hN hT hsz
    generalize tv (T A) = R at *
    obtain ⟨ty, pv, hx⟩ := tv_form A
    rw [hx] at KT KN
    clear hx
    go_enter Tryz.func101, Tryz.ntmps101
    go_wp2
    refine wp_loop_rounds 2 ?_
    rw [rounds_succ]
    go_wp2_with fail
    refine (KT.out _ HU.out).mono ?_
    rintro e w1 ⟨rfl, hb1⟩
    have B1 := hid hb1; clear hb1 hg
    go_wp2_with (at_builtin; refine wpList_push rfl _ _ 153 rfl 155 .nilIface 16 Tryz.underlying153 Tryz.infoTm rfl w1.heap.size w1 (.iface ty pv) (.slice none 0 0) 0 [] (World.ownsRow_nil _ _ _ _) rfl rfl rfl hz0 hz1 (Nat.le_refl _) ?_; intro v' w4 hown hbp _; have HO := hid hown; have BP := hid hbp; clear hown hbp)
    have B4 := hid (B1.out.trans (BP.out.mono B1.out.size))
    rw [rounds_succ]
    go_wp2_with fail
    refine (KN.out _ _ (Rs.of_own HO.out)).mono ?_
    rintro e w' ⟨rfl, rfl⟩
    go_wp2_with fail
    refine (KF.out _).mono ?_
    rintro e w5 ⟨v5, rfl, ho5, hb5⟩
    have O5 := hid ho5; have B5 := hid hb5; clear ho5 hb5
    go_wp2
    go_returns
    exact Ans.later B4.out ⟨_, rfl, O5.out, B5.out⟩
theorem combine_two (op n : Int) (ho : op = 4 ∨ op = 9) (xs ys : List Nd) (u v : Value) (g : Nat) (w : World) (hgl : g < w.heap.size) (hg : w.cell? ⟨g, 0, none⟩ = some u) (hg' : w.cell? ⟨g, 1, none⟩ = some v) (hu : Ns w u xs) (hv : Ns w v ys) :
    Calls Tryz.prog 101 #[.int .i64 op, .int .i64 n, .slice (some ⟨g, 0, none⟩) 2 2] w (Ans w (if formOk xs && formOk ys then combL (.joint op (termOfL xs) (termOfL ys)) else none)) := by
  obtain ⟨ua, uc, hue, _⟩ : ∃ ua uc, u = .slice ua xs.length uc ∧ True := by
    obtain ⟨a, c, h, _⟩ := hu
    exact ⟨a, c, h, trivial⟩
  obtain ⟨va, vc, hve, _⟩ : ∃ va vc, v = .slice va ys.length vc ∧ True := by
    obtain ⟨a, c, h, _⟩ := hv
    exact ⟨a, c, h, trivial⟩
  have hz0 : (0 : Nat) + 1 ≤ maxLen := by decide
  have hz1 : (0 + 1) * 16 ≤ 140737488355328 := by decide
  have hy0 : (1 : Nat) + 1 ≤ maxLen := by decide
  have hy1 : (1 + 1) * 16 ≤ 140737488355328 := by decide
  have HU := hid hu
  have HV := hid hv
  clear hu hv
  subst hue hve
  cases hf : formOk xs with
  | false =>
    rw [Bool.false_and, if_neg (by decide)]
    have KT := hid (fun W h => termOf_no xs (.slice ua xs.length uc) W hf h)
    clear hf
    go_enter Tryz.func101, Tryz.ntmps101
    go_wp2
    refine wp_loop_rounds 3 ?_
    rw [rounds_succ]
    go_wp2_with fail
    refine (KT.out _ HU.out).mono ?_
    rintro e w1 ⟨rfl, hb1⟩
    have B1 := hid hb1; clear hb1
    go_wp2
    go_returns
    exact Ans.none_of B1.out
  | true =>
    rw [Bool.true_and]
    have KT := hid (fun W h => termOf_yes xs (.slice ua xs.length uc) W hf h)
    have hsz := termOfL_size hf
    clear hf
    generalize termOfL xs = A at *
    cases hf : formOk ys with
    | false =>
      rw [if_neg (by decide)]
      have KS := hid (fun W h => termOf_no ys (.slice va ys.length vc) W hf h)
      clear hf hsz ho
      obtain ⟨ty, pv, hx⟩ := tv_form A
      rw [hx] at KT
      clear hx
      go_enter Tryz.func101, Tryz.ntmps101
      go_wp2
      refine wp_loop_rounds 3 ?_
      rw [rounds_succ]
      go_wp2_with fail
      refine (KT.out _ HU.out).mono ?_
      rintro e w1 ⟨rfl, hb1⟩
      have B1 := hid hb1; clear hb1 hg
      go_wp2_with (at_builtin; refine wpList_push rfl _ _ 153 rfl 155 .nilIface 16 Tryz.underlying153 Tryz.infoTm rfl w1.heap.size w1 (.iface ty pv) (.slice none 0 0) 0 [] (World.ownsRow_nil _ _ _ _) rfl rfl rfl hz0 hz1 (Nat.le_refl _) ?_; intro v' w4 hown hbp _; have HO := hid hown; have BP := hid hbp; clear hown hbp)
      have B4 := hid (B1.out.trans (BP.out.mono B1.out.size))
      rw [← B4.out.cell (p := ⟨g, 1, none⟩) hgl] at hg'
      rw [rounds_succ]
      go_wp2_with fail
      refine (KS.out _ (HV.out.below B4.out (Nat.le_refl _))).mono ?_
      rintro e w5 ⟨rfl, hb5⟩
      have B5 := hid (B4.out.trans (hb5.mono B4.out.size)); clear hb5
      go_wp2
      go_returns
      exact Ans.none_of B5.out
    | true =>
      rw [if_pos rfl]
      have KS := hid (fun W h => termOf_yes ys (.slice va ys.length vc) W hf h)
      have hsz' := termOfL_size hf
      clear hf
      generalize termOfL ys = D at *
      have KN := hid (fun v W h => newTerm_2 op n v A D W ho h)
      have KF := hid (fun W => formulaOf_any (.joint op A D) W (by simp only [Tm.size]; omega))
      clear hsz hsz' ho
      generalize tv (Tm.joint op A D) = R at *
      obtain ⟨ty, pv, hx⟩ := tv_form A
      rw [hx] at KT KN
      clear hx
      obtain ⟨ty', pv', hx⟩ := tv_form D
      rw [hx] at KS KN
      clear hx
      go_enter Tryz.func101, Tryz.ntmps101
      go_wp2
      refine wp_loop_rounds 3 ?_
      rw [rounds_succ]
      go_wp2_with fail
      refine (KT.out _ HU.out).mono ?_
      rintro e w1 ⟨rfl, hb1⟩
      have B1 := hid hb1; clear hb1 hg
      go_wp2_with (at_builtin; refine wpList_push rfl _ _ 153 rfl 155 .nilIface 16 Tryz.underlying153 Tryz.infoTm rfl w1.heap.size w1 (.iface ty pv) (.slice none 0 0) 0 [] (World.ownsRow_nil _ _ _ _) rfl rfl rfl hz0 hz1 (Nat.le_refl _) ?_; intro v' w4 hown hbp _; have HO := hid hown; have BP := hid hbp; clear hown hbp)
      have B4 := hid (B1.out.trans (BP.out.mono B1.out.size))
      have hz14 := BP.out.size
      rw [← B4.out.cell (p := ⟨g, 1, none⟩) hgl] at hg'
      rw [rounds_succ]
      go_wp2_with fail
      refine (KS.out _ (HV.out.below B4.out (Nat.le_refl _))).mono ?_
      rintro e w5 ⟨rfl, hb5⟩
      have HO5 := hid (own_below HO.out hb5 (Nat.le_refl _))
      have B5 := hid (B4.out.trans (hb5.mono B4.out.size))
      have hz15 : w1.heap.size ≤ w5.heap.size := Nat.le_trans hz14 hb5.size
      clear hb5 hg'
      go_wp2_with (at_builtin; refine wpList_push rfl _ _ 153 rfl 155 .nilIface 16 Tryz.underlying153 Tryz.infoTm rfl w1.heap.size w5 (.iface ty' pv') (v') 1 [.iface ty pv] (HO5.out) rfl rfl rfl hy0 hy1 hz15 ?_; intro v'' w6 hown hbp _; have HO6 := hid hown; have BP6 := hid hbp; clear hown hbp)
      have B6 := hid (B5.out.trans (BP6.out.mono B1.out.size))
      rw [rounds_succ]
      go_wp2_with fail
      refine (KN.out _ _ (Rs.of_own HO6.out)).mono ?_
      rintro e w7 ⟨rfl, hb7⟩
      have B7 := hid (B6.out.trans (hb7.mono B6.out.size)); clear hb7
      go_wp2_with fail
      refine (KF.out _).mono ?_
      rintro e w8 ⟨v8, rfl, ho8, hb8⟩
      have O8 := hid ho8; have B8 := hid hb8; clear ho8 hb8
      go_wp2
      go_returns
      exact Ans.later B7.out ⟨_, rfl, O8.out, B8.out⟩
theorem implNegate_any (u : Value) (xs : List Nd) (w : World) (hu : Ns w u xs) :
    Calls Tryz.prog 71 #[u] w (Ans w (if formOk xs then combL (Tm.deny (termOfL xs)) else none)) := by
  obtain ⟨ua, uc, hue, _⟩ : ∃ ua uc, u = .slice ua xs.length uc ∧ True := by
    obtain ⟨a, c, h, _⟩ := hu
    exact ⟨a, c, h, trivial⟩
  have KC := hid (fun W hg (h : Below w.heap.size w W) => combine_one 3 0 (Tm.deny) (fun _ => rfl) (fun a v W h => newTerm_3 0 v a W h) xs u w.heap.size W hg (hu.below h (Nat.le_refl _)))
  clear hu
  subst hue
  generalize (if formOk xs then combL (Tm.deny (termOfL xs)) else none) = r at *
  go_enter Tryz.func71, Tryz.ntmps71
  go_wp2_with fail
  refine (KC.out _ (by rw [World.cell?_alloc_at _ _ _ _ rfl]; rfl) ((Below.refl _ _).alloc (Nat.le_refl _) _)).mono ?_
  rintro e w1 ⟨v1, rfl, ho1, hb1⟩
  have O1 := hid ho1; have B1 := hid hb1; clear ho1 hb1
  go_wp2
  go_returns
  exact Ans.later ((Below.refl _ _).alloc (Nat.le_refl _) _) ⟨_, rfl, O1.out, B1.out⟩
theorem implKnown_any (k : Int) (u : Value) (xs : List Nd) (w : World) (hu : Ns w u xs) :
    Calls Tryz.prog 100 #[.int .i64 k, u] w (Ans w (if formOk xs then combL (Tm.know 5 k (termOfL xs)) else none)) := by
  obtain ⟨ua, uc, hue, _⟩ : ∃ ua uc, u = .slice ua xs.length uc ∧ True := by
    obtain ⟨a, c, h, _⟩ := hu
    exact ⟨a, c, h, trivial⟩
  have KC := hid (fun W hg (h : Below w.heap.size w W) => combine_one 5 k (Tm.know 5 k) (fun _ => rfl) (fun a v W h => newTerm_1 5 k v a W (by decide) h) xs u w.heap.size W hg (hu.below h (Nat.le_refl _)))
  clear hu
  subst hue
  generalize (if formOk xs then combL (Tm.know 5 k (termOfL xs)) else none) = r at *
  go_enter Tryz.func100, Tryz.ntmps100
  go_wp2_with fail
  refine (KC.out _ (by rw [World.cell?_alloc_at _ _ _ _ rfl]; rfl) ((Below.refl _ _).alloc (Nat.le_refl _) _)).mono ?_
  rintro e w1 ⟨v1, rfl, ho1, hb1⟩
  have O1 := hid ho1; have B1 := hid hb1; clear ho1 hb1
  go_wp2
  go_returns
  exact Ans.later ((Below.refl _ _).alloc (Nat.le_refl _) _) ⟨_, rfl, O1.out, B1.out⟩
theorem implConjoin_any (u v : Value) (xs ys : List Nd) (w : World) (hu : Ns w u xs) (hv : Ns w v ys) :
    Calls Tryz.prog 111 #[u, v] w (Ans w (if formOk xs && formOk ys then combL (.joint 4 (termOfL xs) (termOfL ys)) else none)) := by
  obtain ⟨ua, uc, hue, _⟩ : ∃ ua uc, u = .slice ua xs.length uc ∧ True := by
    obtain ⟨a, c, h, _⟩ := hu
    exact ⟨a, c, h, trivial⟩
  obtain ⟨va, vc, hve, _⟩ : ∃ va vc, v = .slice va ys.length vc ∧ True := by
    obtain ⟨a, c, h, _⟩ := hv
    exact ⟨a, c, h, trivial⟩
  have KC := hid (fun W hl hg hg' (h : Below w.heap.size w W) => combine_two 4 0 (by decide) xs ys u v w.heap.size W hl hg hg' (hu.below h (Nat.le_refl _)) (hv.below h (Nat.le_refl _)))
  clear hu hv
  subst hue hve
  generalize (if formOk xs && formOk ys then combL (.joint 4 (termOfL xs) (termOfL ys)) else none) = r at *
  go_enter Tryz.func111, Tryz.ntmps111
  go_wp2_with fail
  refine (KC.out _ (by simp) (by rw [World.cell?_alloc_at _ _ _ _ rfl]; rfl) (by rw [World.cell?_alloc_at _ _ _ _ rfl]; rfl) ((Below.refl _ _).alloc (Nat.le_refl _) _)).mono ?_
  rintro e w1 ⟨v1, rfl, ho1, hb1⟩
  have O1 := hid ho1; have B1 := hid hb1; clear ho1 hb1
  go_wp2
  go_returns
  exact Ans.later ((Below.refl _ _).alloc (Nat.le_refl _) _) ⟨_, rfl, O1.out, B1.out⟩
end Go.Proofs.YtnpfnfenkklocaaGreatDoor
