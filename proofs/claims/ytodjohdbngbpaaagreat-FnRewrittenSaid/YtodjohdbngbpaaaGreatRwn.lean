/-
  Contracts of spec.l08After, l08Whole, l08Node, spec.Rewrite and spec.GrowthOf. Condition: the nodes are a formula's.
-/
import Derived.Test.YtodjohdbngbpaaaGreatRws
namespace Go.Proofs.YtodjohdbngbpaaaGreat
open Go.RowKit Go.WideShapes
open Go Go.Deep
set_option linter.unusedSimpArgs false

/-- the text of a rewritten node, empty if there is none -/
def nodeS (xs : List Nd) (i : Nat) : List UInt8 := match rewT (tmAt xs i) with
  | some t => txt t
  | none => []
def WholeP (w : World) (r : Option Tm) (e : Ending) (w' : World) : Prop := ∃ s : List UInt8, e = .returned (.string (str s)) ∧ s.length ≤ 1000 ∧ (parsed s = r.map (lay 0) ∧ ∀ t, r = some t → s = txt t) ∧ Below w.heap.size w w'
theorem WholeP.none_of {w w' : World} (hb : Below w.heap.size w w') : WholeP w none (.returned (.string ⟨#[]⟩)) w' := ⟨[], rfl, by simp, ⟨rfl, fun t h => by cases h⟩, hb⟩

set_option maxHeartbeats 4000000 in
theorem specAfter2_any (A B : Tm) (hA : A.wf) (hAs : A.size ≤ 40) (hB : B.wf) (hBs : B.size ≤ 40) (hq : quietT B) (w : World) :
    Calls Tryz.prog 157 #[.string (str (txt A)), .string (str (txt B))] w (PushP w (pushT A B)) := by
  have KP := Lib.hid (fun W => parse_str (txt B) W)
  rw [parsed_txt hB hBs] at KP
  have hl := lay_len 0 B
  have hpos := B.size_pos
  have KQ := Lib.hid (fun v W (h : Ns W v (lay 0 B)) => specPush_any A hA hAs (lay 0 B) v (lay_formOk hB hBs) _ ((lay 0 B).length - 1) W (Nat.lt_succ_self _) (by omega) h (by rw [lay_tm hB hBs]; exact hq))
  rw [lay_tm hB hBs, show (((lay 0 B).length - 1 : Nat) : Int) = ((lay 0 B).length : Int) - 1 by omega] at KQ
  unfold Ans at KP
  unfold PushP at KQ
  have hl1 : (1 : Int) ≤ ((lay 0 B).length : Int) := by omega
  have hl2 : ((lay 0 B).length : Int) ≤ 40 := by omega
  clear hl hpos hA hAs hB hBs hq
  generalize lay 0 B = ys at *
  generalize str (txt A) = sa at *
  generalize str (txt B) = sb at *
  generalize pushT A B = T at *
  go_enter Tryz.func157, Tryz.ntmps157
  go_wp2_with fail
  refine (KP.out _).mono ?_
  rintro e w1 ⟨v1, rfl, ho1, hb1⟩
  have B1 := Lib.hid hb1
  have N1 := Lib.hid (Ns.of_own ho1)
  clear hb1 ho1
  obtain ⟨va, vc, hv, -⟩ := N1.out.parts
  subst hv
  have N1 := Lib.hid N1.out
  go_wp2_with fail
  refine (KQ.out _ _ N1.out).mono ?_
  rintro e w2 ⟨s, rfl, hs1, hs2, hb2⟩
  have B2 := Lib.hid (B1.out.trans (hb2.mono B1.out.size))
  have HS := Lib.hid hs2
  clear hb2 hs2
  go_wp2
  go_ret
  exact ⟨_, rfl, hs1, HS.out, B2.out⟩

set_option maxRecDepth 100000 in
set_option maxHeartbeats 32000000 in
theorem specWhole_any (xs : List Nd) (v : Value) (hf : formOk xs = true) (i : Nat) (w : World) (hl : i < xs.length) (hr : Ns w v xs)
    (ih : ∀ k, k < i → ∀ W, Below w.heap.size w W → Calls Tryz.prog 76 #[v, .int .i64 k] W fun e w' => e = .returned (.string (str (nodeS xs k))) ∧ Below W.heap.size W w') :
    Calls Tryz.prog 125 #[v, .int .i64 i] w (WholeP w (rewT (tmAt xs i))) := by
  obtain ⟨f1, f2, hn, _⟩ := formOk_parts hf
  have hok := nodesOk_at hn hl
  have hp := okAt_parts hok
  have KX := Lib.hid (fun W (h : Below w.heap.size w W) => specText_any xs v hn _ i W (Nat.lt_succ_self _) hl (hr.below h (Nat.le_refl _)) (by have := sub_small hf hl; omega))
  have HRQ := Lib.hid (fun k t (hk : k < xs.length) (h : rewT (tmAt xs k) = some t) => rew_quiet (tmAt xs k) t (tmAt_wf hn _ k (Nat.le_refl _) hk) h)
  rw [tmAt_eq hn hl] at KX ⊢
  obtain ⟨ra, cap, rfl, h1, h2, h3⟩ := hr.parts
  obtain ⟨b, o, rfl, hb, c0, c1, c2, c3⟩ := h3 i hl
  clear h3
  have HR := Lib.hid hr
  clear hr hn hf f1 f2
  generalize hx : xs.getD i default = x at *
  obtain ⟨op, n, xa, xb⟩ := x
  simp only [] at c0 c1 c2 c3 hp KX ⊢
  have HOK := Lib.hid hok
  clear hx hok
  unfold maxLen at h2
  have IH := Lib.hid ih
  clear ih
  have KU := Lib.hid (fun W => l02Uses_in op W hp.1.1 hp.1.2.1)
  rcases op_kinds hp.1.1 hp.1.2.1 with ⟨ho, hu⟩ | ⟨ho, hu⟩ | ⟨ho, hu⟩ | ⟨ho, hu⟩
  · rw [mkTm_leaf ho] at KX ⊢
    rw [show rewT (.leaf op n) = some (.leaf op n) from rfl]
    have hw : (Tm.leaf op n).wf := ⟨ho, hp.1.2.2⟩
    have HT : Hid (parsed (txt (Tm.leaf op n)) = (some (Tm.leaf op n)).map (lay 0) ∧ ∀ t, some (Tm.leaf op n) = some t → txt (Tm.leaf op n) = txt t) := Lib.hid ⟨parsed_txt hw (by simp [Tm.size]), fun t h => by cases h; rfl⟩
    have HL : Hid ((txt (Tm.leaf op n)).length ≤ 1000) := Lib.hid (by have := (txt_len (Tm.leaf op n)).2; simp only [Tm.size] at this; omega)
    rw [hu] at KU
    clear hu hp hw HRQ IH HOK
    generalize txt (Tm.leaf op n) = tx at *
    rcases ho with rfl | rfl
    · go_enter Tryz.func125, Tryz.ntmps125
      go_wp2_with fail
      refine (KU.out _).mono ?_
      rintro e w' ⟨rfl, rfl⟩
      go_wp2_with fail
      refine (KU.out _).mono ?_
      rintro e w' ⟨rfl, rfl⟩
      go_wp2_with fail
      refine (KX.out _ ((Below.refl _ _).alloc (Nat.le_refl _) _)).mono ?_
      rintro e w2 ⟨rfl, hb2⟩
      have B2 := Lib.hid (((Below.refl w.heap.size w).alloc (Nat.le_refl _) _).trans (hb2.mono (by simp)))
      clear hb2 c0 c1 c2 c3
      go_wp2
      go_ret
      exact ⟨_, rfl, HL.out, HT.out, B2.out⟩
    · go_enter Tryz.func125, Tryz.ntmps125
      go_wp2_with fail
      refine (KU.out _).mono ?_
      rintro e w' ⟨rfl, rfl⟩
      go_wp2_with fail
      refine (KU.out _).mono ?_
      rintro e w' ⟨rfl, rfl⟩
      go_wp2_with fail
      refine (KX.out _ ((Below.refl _ _).alloc (Nat.le_refl _) _)).mono ?_
      rintro e w2 ⟨rfl, hb2⟩
      have B2 := Lib.hid (((Below.refl w.heap.size w).alloc (Nat.le_refl _) _).trans (hb2.mono (by simp)))
      clear hb2 c0 c1 c2 c3
      go_wp2
      go_ret
      exact ⟨_, rfl, HL.out, HT.out, B2.out⟩
  · subst ho
    rw [mkTm_deny]
    have ha' := hp.2.1 (by omega)
    obtain ⟨k, rfl⟩ : ∃ k : Nat, xa = k := ⟨xa.toNat, by omega⟩
    rw [Int.toNat_natCast] at *
    have hki : k < i := by omega
    have hkl : k < xs.length := by omega
    have KD := Lib.hid (IH.out k hki)
    rw [hu] at KU
    cases hra : rewT (tmAt xs k) with
    | none =>
      rw [show rewT ((Tm.deny (tmAt xs k))) = none from (by have := rew_failA (op := 3) (n := n) (b := .leaf 2 0) (by decide) (by decide) (by decide) hra; rwa [mkTm_deny] at this)]
      rw [show nodeS xs k = [] by unfold nodeS; rw [hra]] at KD
      obtain ⟨hx1, hx2⟩ := str_nil
      clear hra hu hp ha' hki hkl HRQ HOK KX
      go_enter Tryz.func125, Tryz.ntmps125
      go_wp2_with fail
      refine (KU.out _).mono ?_
      rintro e w' ⟨rfl, rfl⟩
      go_wp2_with fail
      refine (KD.out _ ((Below.refl _ _).alloc (Nat.le_refl _) _)).mono ?_
      rintro e w2 ⟨rfl, hb2⟩
      have B2 := Lib.hid (((Below.refl w.heap.size w).alloc (Nat.le_refl _) _).trans (hb2.mono (by simp)))
      have hz2 : w.heap.size < w2.heap.size := by have := hb2.size; simp at this; omega
      have n0 := node_keptZ hb2 0
      have n1 := node_keptZ hb2 1
      have n3 := node_keptZ hb2 3
      simp at n0 n1 n3
      clear hb2 c0 c1 c2 c3
      go_wp2
      go_ret
      exact WholeP.none_of B2.out
    | some s =>
      obtain ⟨q1, q2, q3⟩ := HRQ.out k s hkl hra
      have HST : Hid (rewT ((Tm.deny (tmAt xs k))) = limT (.deny s)) := Lib.hid (by have := rew_step (op := 3) (n := n) (sb := .leaf 2 0) (b := .leaf 2 0) (by decide) (by decide) (by decide) (fun _ => hra) (fun h => absurd h (by decide)); unfold stepT at this; rw [mkTm_deny, if_neg (by decide), mkTm_deny] at this; exact this)
      have HW : Hid (((.deny s) : Tm).wf) := Lib.hid (by first | exact q2 | exact ⟨by decide, hp.1.2.2.1, hp.1.2.2.2, q2⟩)
      rw [HST.out]
      rw [show nodeS xs k = txt s by unfold nodeS; rw [hra]] at KD
      obtain ⟨he', hf'⟩ := str_ne (txt_ne s)
      have zs : (str (txt s)).size ≤ 80 := by have := (txt_len s).2; rw [str_size]; omega
      have HT : Hid (⟨#[45]⟩ ++ str (txt s) = str (txt (.deny s))) := Lib.hid (by
        rw [show (⟨#[45]⟩ : ByteArray) = str [45] from rfl, str_app]
        first | rfl | (congr 1; simp [txt, headT, headB, Tm.op, Tm.num, letterI, letters]))
      have HL : Hid ((txt (.deny s)).length ≤ 1000) := Lib.hid (by have h1 := txt_len (.deny s); simp only [Tm.size] at h1; omega)
      have zl0 : (⟨#[45]⟩ : ByteArray).size = 1 := rfl
      have hadd0 := fun W => run_string_add_sum (P := Tryz.prog) W (⟨#[45]⟩) (str (txt s)) (by first | omega | (simp only [ByteArray.size_append]; omega))
      clear hra hu hp ha' hki hkl HRQ HOK KX HST q1 q2 q3
      generalize str (txt s) = ss at *
      clear zs zl0
      go_enter Tryz.func125, Tryz.ntmps125
      go_wp2_with fail
      refine (KU.out _).mono ?_
      rintro e w' ⟨rfl, rfl⟩
      go_wp2_with fail
      refine (KD.out _ ((Below.refl _ _).alloc (Nat.le_refl _) _)).mono ?_
      rintro e w2 ⟨rfl, hb2⟩
      have B2 := Lib.hid (((Below.refl w.heap.size w).alloc (Nat.le_refl _) _).trans (hb2.mono (by simp)))
      have hz2 : w.heap.size < w2.heap.size := by have := hb2.size; simp at this; omega
      have n0 := node_keptZ hb2 0
      have n1 := node_keptZ hb2 1
      have n3 := node_keptZ hb2 3
      simp at n0 n1 n3
      clear hb2 c0 c1 c2 c3
      go_wp2_with fail
      refine (KU.out _).mono ?_
      rintro e w' ⟨rfl, rfl⟩
      go_wp2
      go_ret
      exact ⟨_, ret_str HT.out, HL.out, (TextOr.parsed (.inl rfl) HW.out), B2.out⟩
  · rw [mkTm_know ho]
    rcases ho with rfl | rfl | rfl | rfl
    · have ha' := hp.2.1 (by omega)
      obtain ⟨k, rfl⟩ : ∃ k : Nat, xa = k := ⟨xa.toNat, by omega⟩
      rw [Int.toNat_natCast] at *
      have hki : k < i := by omega
      have hkl : k < xs.length := by omega
      have KD := Lib.hid (IH.out k hki)
      rw [hu] at KU
      cases hra : rewT (tmAt xs k) with
      | none =>
        rw [show rewT ((Tm.know 5 n (tmAt xs k))) = none from (by have := rew_failA (op := 5) (n := n) (b := .leaf 2 0) (by decide) (by decide) (by decide) hra; rwa [mkTm_know (by decide)] at this)]
        rw [show nodeS xs k = [] by unfold nodeS; rw [hra]] at KD
        obtain ⟨hx1, hx2⟩ := str_nil
        clear hra hu hp ha' hki hkl HRQ HOK KX
        go_enter Tryz.func125, Tryz.ntmps125
        go_wp2_with fail
        refine (KU.out _).mono ?_
        rintro e w' ⟨rfl, rfl⟩
        go_wp2_with fail
        refine (KD.out _ ((Below.refl _ _).alloc (Nat.le_refl _) _)).mono ?_
        rintro e w2 ⟨rfl, hb2⟩
        have B2 := Lib.hid (((Below.refl w.heap.size w).alloc (Nat.le_refl _) _).trans (hb2.mono (by simp)))
        have hz2 : w.heap.size < w2.heap.size := by have := hb2.size; simp at this; omega
        have n0 := node_keptZ hb2 0
        have n1 := node_keptZ hb2 1
        have n3 := node_keptZ hb2 3
        simp at n0 n1 n3
        clear hb2 c0 c1 c2 c3
        go_wp2
        go_ret
        exact WholeP.none_of B2.out
      | some s =>
        obtain ⟨q1, q2, q3⟩ := HRQ.out k s hkl hra
        have HST : Hid (rewT ((Tm.know 5 n (tmAt xs k))) = limT (.know 5 n s)) := Lib.hid (by have := rew_step (op := 5) (n := n) (sb := .leaf 2 0) (b := .leaf 2 0) (by decide) (by decide) (by decide) (fun _ => hra) (fun h => absurd h (by decide)); unfold stepT at this; rw [mkTm_know (by decide), if_neg (by decide), mkTm_know (by decide)] at this; exact this)
        have HW : Hid (((.know 5 n s) : Tm).wf) := Lib.hid (by first | exact q2 | exact ⟨by decide, hp.1.2.2.1, hp.1.2.2.2, q2⟩)
        rw [HST.out]
        rw [show nodeS xs k = txt s by unfold nodeS; rw [hra]] at KD
        obtain ⟨he', hf'⟩ := str_ne (txt_ne s)
        have zs : (str (txt s)).size ≤ 80 := by have := (txt_len s).2; rw [str_size]; omega
        have KF := Lib.hid (fun W => specSmall_any n W (by have := hp.1.2.2; have : limN 5 = 3 := rfl; omega))
        have zn : (str [UInt8.ofNat (48 + n.toNat)]).size ≤ 1 := Nat.le_refl _
        have HT : Hid (⟨#[75]⟩ ++ str [UInt8.ofNat (48 + n.toNat)] ++ str (txt s) = str (txt (.know 5 n s))) := Lib.hid (by
          rw [show (⟨#[75]⟩ : ByteArray) = str [75] from rfl, str_app, str_app]
          first | rfl | (congr 1; simp [txt, headT, headB, Tm.op, Tm.num, letterI, letters]))
        have HL : Hid ((txt (.know 5 n s)).length ≤ 1000) := Lib.hid (by have h1 := txt_len (.know 5 n s); simp only [Tm.size] at h1; omega)
        have zl0 : (⟨#[75]⟩ : ByteArray).size = 1 := rfl
        have hadd0 := fun W => run_string_add_sum (P := Tryz.prog) W (⟨#[75]⟩) (str [UInt8.ofNat (48 + n.toNat)]) (by first | omega | (simp only [ByteArray.size_append]; omega))
        have hadd1 := fun W => run_string_add_sum (P := Tryz.prog) W (⟨#[75]⟩ ++ str [UInt8.ofNat (48 + n.toNat)]) (str (txt s)) (by first | omega | (simp only [ByteArray.size_append]; omega))
        clear hra hu hp ha' hki hkl HRQ HOK KX HST q1 q2 q3
        generalize str (txt s) = ss at *
        generalize str [UInt8.ofNat (48 + n.toNat)] = sn at *
        clear zs zl0 zn
        go_enter Tryz.func125, Tryz.ntmps125
        go_wp2_with fail
        refine (KU.out _).mono ?_
        rintro e w' ⟨rfl, rfl⟩
        go_wp2_with fail
        refine (KD.out _ ((Below.refl _ _).alloc (Nat.le_refl _) _)).mono ?_
        rintro e w2 ⟨rfl, hb2⟩
        have B2 := Lib.hid (((Below.refl w.heap.size w).alloc (Nat.le_refl _) _).trans (hb2.mono (by simp)))
        have hz2 : w.heap.size < w2.heap.size := by have := hb2.size; simp at this; omega
        have n0 := node_keptZ hb2 0
        have n1 := node_keptZ hb2 1
        have n3 := node_keptZ hb2 3
        simp at n0 n1 n3
        clear hb2 c0 c1 c2 c3
        go_wp2_with fail
        refine (KU.out _).mono ?_
        rintro e w' ⟨rfl, rfl⟩
        go_wp2_with fail
        refine (KF.out _).mono ?_
        rintro e w3 ⟨rfl, hb3⟩
        have B3 := Lib.hid (B2.out.trans (hb3.mono B2.out.size))
        clear hb3 n0 n1 n3
        go_wp2
        go_ret
        exact ⟨_, ret_str HT.out, HL.out, (TextOr.parsed (.inl rfl) HW.out), B3.out⟩
    · have ha' := hp.2.1 (by omega)
      obtain ⟨k, rfl⟩ : ∃ k : Nat, xa = k := ⟨xa.toNat, by omega⟩
      rw [Int.toNat_natCast] at *
      have hki : k < i := by omega
      have hkl : k < xs.length := by omega
      have KD := Lib.hid (IH.out k hki)
      rw [hu] at KU
      cases hra : rewT (tmAt xs k) with
      | none =>
        rw [show rewT ((Tm.know 6 n (tmAt xs k))) = none from (by have := rew_failA (op := 6) (n := n) (b := .leaf 2 0) (by decide) (by decide) (by decide) hra; rwa [mkTm_know (by decide)] at this)]
        rw [show nodeS xs k = [] by unfold nodeS; rw [hra]] at KD
        obtain ⟨hx1, hx2⟩ := str_nil
        clear hra hu hp ha' hki hkl HRQ HOK KX
        go_enter Tryz.func125, Tryz.ntmps125
        go_wp2_with fail
        refine (KU.out _).mono ?_
        rintro e w' ⟨rfl, rfl⟩
        go_wp2_with fail
        refine (KD.out _ ((Below.refl _ _).alloc (Nat.le_refl _) _)).mono ?_
        rintro e w2 ⟨rfl, hb2⟩
        have B2 := Lib.hid (((Below.refl w.heap.size w).alloc (Nat.le_refl _) _).trans (hb2.mono (by simp)))
        have hz2 : w.heap.size < w2.heap.size := by have := hb2.size; simp at this; omega
        have n0 := node_keptZ hb2 0
        have n1 := node_keptZ hb2 1
        have n3 := node_keptZ hb2 3
        simp at n0 n1 n3
        clear hb2 c0 c1 c2 c3
        go_wp2
        go_ret
        exact WholeP.none_of B2.out
      | some s =>
        obtain ⟨q1, q2, q3⟩ := HRQ.out k s hkl hra
        have HST : Hid (rewT ((Tm.know 6 n (tmAt xs k))) = limT (.know 6 n s)) := Lib.hid (by have := rew_step (op := 6) (n := n) (sb := .leaf 2 0) (b := .leaf 2 0) (by decide) (by decide) (by decide) (fun _ => hra) (fun h => absurd h (by decide)); unfold stepT at this; rw [mkTm_know (by decide), if_neg (by decide), mkTm_know (by decide)] at this; exact this)
        have HW : Hid (((.know 6 n s) : Tm).wf) := Lib.hid (by first | exact q2 | exact ⟨by decide, hp.1.2.2.1, hp.1.2.2.2, q2⟩)
        rw [HST.out]
        rw [show nodeS xs k = txt s by unfold nodeS; rw [hra]] at KD
        obtain ⟨he', hf'⟩ := str_ne (txt_ne s)
        have zs : (str (txt s)).size ≤ 80 := by have := (txt_len s).2; rw [str_size]; omega
        have KF := Lib.hid (fun W => specSmall_any n W (by have := hp.1.2.2; have : limN 6 = 3 := rfl; omega))
        have zn : (str [UInt8.ofNat (48 + n.toNat)]).size ≤ 1 := Nat.le_refl _
        have HT : Hid (⟨#[87]⟩ ++ str [UInt8.ofNat (48 + n.toNat)] ++ str (txt s) = str (txt (.know 6 n s))) := Lib.hid (by
          rw [show (⟨#[87]⟩ : ByteArray) = str [87] from rfl, str_app, str_app]
          first | rfl | (congr 1; simp [txt, headT, headB, Tm.op, Tm.num, letterI, letters]))
        have HL : Hid ((txt (.know 6 n s)).length ≤ 1000) := Lib.hid (by have h1 := txt_len (.know 6 n s); simp only [Tm.size] at h1; omega)
        have zl0 : (⟨#[87]⟩ : ByteArray).size = 1 := rfl
        have hadd0 := fun W => run_string_add_sum (P := Tryz.prog) W (⟨#[87]⟩) (str [UInt8.ofNat (48 + n.toNat)]) (by first | omega | (simp only [ByteArray.size_append]; omega))
        have hadd1 := fun W => run_string_add_sum (P := Tryz.prog) W (⟨#[87]⟩ ++ str [UInt8.ofNat (48 + n.toNat)]) (str (txt s)) (by first | omega | (simp only [ByteArray.size_append]; omega))
        clear hra hu hp ha' hki hkl HRQ HOK KX HST q1 q2 q3
        generalize str (txt s) = ss at *
        generalize str [UInt8.ofNat (48 + n.toNat)] = sn at *
        clear zs zl0 zn
        go_enter Tryz.func125, Tryz.ntmps125
        go_wp2_with fail
        refine (KU.out _).mono ?_
        rintro e w' ⟨rfl, rfl⟩
        go_wp2_with fail
        refine (KD.out _ ((Below.refl _ _).alloc (Nat.le_refl _) _)).mono ?_
        rintro e w2 ⟨rfl, hb2⟩
        have B2 := Lib.hid (((Below.refl w.heap.size w).alloc (Nat.le_refl _) _).trans (hb2.mono (by simp)))
        have hz2 : w.heap.size < w2.heap.size := by have := hb2.size; simp at this; omega
        have n0 := node_keptZ hb2 0
        have n1 := node_keptZ hb2 1
        have n3 := node_keptZ hb2 3
        simp at n0 n1 n3
        clear hb2 c0 c1 c2 c3
        go_wp2_with fail
        refine (KU.out _).mono ?_
        rintro e w' ⟨rfl, rfl⟩
        go_wp2_with fail
        refine (KF.out _).mono ?_
        rintro e w3 ⟨rfl, hb3⟩
        have B3 := Lib.hid (B2.out.trans (hb3.mono B2.out.size))
        clear hb3 n0 n1 n3
        go_wp2
        go_ret
        exact ⟨_, ret_str HT.out, HL.out, (TextOr.parsed (.inl rfl) HW.out), B3.out⟩
    · have ha' := hp.2.1 (by omega)
      obtain ⟨k, rfl⟩ : ∃ k : Nat, xa = k := ⟨xa.toNat, by omega⟩
      rw [Int.toNat_natCast] at *
      have hki : k < i := by omega
      have hkl : k < xs.length := by omega
      have KD := Lib.hid (IH.out k hki)
      rw [hu] at KU
      cases hra : rewT (tmAt xs k) with
      | none =>
        rw [show rewT ((Tm.know 7 n (tmAt xs k))) = none from (by have := rew_failA (op := 7) (n := n) (b := .leaf 2 0) (by decide) (by decide) (by decide) hra; rwa [mkTm_know (by decide)] at this)]
        rw [show nodeS xs k = [] by unfold nodeS; rw [hra]] at KD
        obtain ⟨hx1, hx2⟩ := str_nil
        clear hra hu hp ha' hki hkl HRQ HOK KX
        go_enter Tryz.func125, Tryz.ntmps125
        go_wp2_with fail
        refine (KU.out _).mono ?_
        rintro e w' ⟨rfl, rfl⟩
        go_wp2_with fail
        refine (KD.out _ ((Below.refl _ _).alloc (Nat.le_refl _) _)).mono ?_
        rintro e w2 ⟨rfl, hb2⟩
        have B2 := Lib.hid (((Below.refl w.heap.size w).alloc (Nat.le_refl _) _).trans (hb2.mono (by simp)))
        have hz2 : w.heap.size < w2.heap.size := by have := hb2.size; simp at this; omega
        have n0 := node_keptZ hb2 0
        have n1 := node_keptZ hb2 1
        have n3 := node_keptZ hb2 3
        simp at n0 n1 n3
        clear hb2 c0 c1 c2 c3
        go_wp2
        go_ret
        exact WholeP.none_of B2.out
      | some s =>
        obtain ⟨q1, q2, q3⟩ := HRQ.out k s hkl hra
        have HST : Hid (rewT ((Tm.know 7 n (tmAt xs k))) = limT (.know 7 n s)) := Lib.hid (by have := rew_step (op := 7) (n := n) (sb := .leaf 2 0) (b := .leaf 2 0) (by decide) (by decide) (by decide) (fun _ => hra) (fun h => absurd h (by decide)); unfold stepT at this; rw [mkTm_know (by decide), if_neg (by decide), mkTm_know (by decide)] at this; exact this)
        have HW : Hid (((.know 7 n s) : Tm).wf) := Lib.hid (by first | exact q2 | exact ⟨by decide, hp.1.2.2.1, hp.1.2.2.2, q2⟩)
        rw [HST.out]
        rw [show nodeS xs k = txt s by unfold nodeS; rw [hra]] at KD
        obtain ⟨he', hf'⟩ := str_ne (txt_ne s)
        have zs : (str (txt s)).size ≤ 80 := by have := (txt_len s).2; rw [str_size]; omega
        have HT : Hid (⟨#[69]⟩ ++ str (txt s) = str (txt (.know 7 n s))) := Lib.hid (by
          rw [show (⟨#[69]⟩ : ByteArray) = str [69] from rfl, str_app]
          first | rfl | (congr 1; simp [txt, headT, headB, Tm.op, Tm.num, letterI, letters]))
        have HL : Hid ((txt (.know 7 n s)).length ≤ 1000) := Lib.hid (by have h1 := txt_len (.know 7 n s); simp only [Tm.size] at h1; omega)
        have zl0 : (⟨#[69]⟩ : ByteArray).size = 1 := rfl
        have hadd0 := fun W => run_string_add_sum (P := Tryz.prog) W (⟨#[69]⟩) (str (txt s)) (by first | omega | (simp only [ByteArray.size_append]; omega))
        clear hra hu hp ha' hki hkl HRQ HOK KX HST q1 q2 q3
        generalize str (txt s) = ss at *
        clear zs zl0
        go_enter Tryz.func125, Tryz.ntmps125
        go_wp2_with fail
        refine (KU.out _).mono ?_
        rintro e w' ⟨rfl, rfl⟩
        go_wp2_with fail
        refine (KD.out _ ((Below.refl _ _).alloc (Nat.le_refl _) _)).mono ?_
        rintro e w2 ⟨rfl, hb2⟩
        have B2 := Lib.hid (((Below.refl w.heap.size w).alloc (Nat.le_refl _) _).trans (hb2.mono (by simp)))
        have hz2 : w.heap.size < w2.heap.size := by have := hb2.size; simp at this; omega
        have n0 := node_keptZ hb2 0
        have n1 := node_keptZ hb2 1
        have n3 := node_keptZ hb2 3
        simp at n0 n1 n3
        clear hb2 c0 c1 c2 c3
        go_wp2_with fail
        refine (KU.out _).mono ?_
        rintro e w' ⟨rfl, rfl⟩
        go_wp2
        go_ret
        exact ⟨_, ret_str HT.out, HL.out, (TextOr.parsed (.inl rfl) HW.out), B2.out⟩
    · have ha' := hp.2.1 (by omega)
      obtain ⟨k, rfl⟩ : ∃ k : Nat, xa = k := ⟨xa.toNat, by omega⟩
      rw [Int.toNat_natCast] at *
      have hki : k < i := by omega
      have KD := Lib.hid (IH.out k hki)
      rw [hu] at KU
      rw [show rewT (Tm.know 8 n (tmAt xs k)) = none from if_pos rfl]
      by_cases he : nodeS xs k = []
      · rw [he] at KD
        obtain ⟨hx1, hx2⟩ := str_nil
        clear he hu hp ha' hki HRQ HOK KX
        go_enter Tryz.func125, Tryz.ntmps125
        go_wp2_with fail
        refine (KU.out _).mono ?_
        rintro e w' ⟨rfl, rfl⟩
        go_wp2_with fail
        refine (KD.out _ ((Below.refl _ _).alloc (Nat.le_refl _) _)).mono ?_
        rintro e w2 ⟨rfl, hb2⟩
        have B2 := Lib.hid (((Below.refl w.heap.size w).alloc (Nat.le_refl _) _).trans (hb2.mono (by simp)))
        have hz2 : w.heap.size < w2.heap.size := by have := hb2.size; simp at this; omega
        have n0 := node_keptZ hb2 0
        have n1 := node_keptZ hb2 1
        have n3 := node_keptZ hb2 3
        simp at n0 n1 n3
        clear hb2 c0 c1 c2 c3
        go_wp2
        go_ret
        exact WholeP.none_of B2.out
      · obtain ⟨he', hf'⟩ := str_ne he
        generalize str (nodeS xs k) = ss at *
        clear he hu hp ha' hki HRQ HOK KX
        go_enter Tryz.func125, Tryz.ntmps125
        go_wp2_with fail
        refine (KU.out _).mono ?_
        rintro e w' ⟨rfl, rfl⟩
        go_wp2_with fail
        refine (KD.out _ ((Below.refl _ _).alloc (Nat.le_refl _) _)).mono ?_
        rintro e w2 ⟨rfl, hb2⟩
        have B2 := Lib.hid (((Below.refl w.heap.size w).alloc (Nat.le_refl _) _).trans (hb2.mono (by simp)))
        have hz2 : w.heap.size < w2.heap.size := by have := hb2.size; simp at this; omega
        have n0 := node_keptZ hb2 0
        have n1 := node_keptZ hb2 1
        have n3 := node_keptZ hb2 3
        simp at n0 n1 n3
        clear hb2 c0 c1 c2 c3
        go_wp2_with fail
        refine (KU.out _).mono ?_
        rintro e w' ⟨rfl, rfl⟩
        go_wp2
        go_ret
        exact WholeP.none_of B2.out
  · rw [mkTm_joint ho]
    have ha' := hp.2.1 (by omega)
    have hb' := hp.2.2.1 hu
    obtain ⟨k, rfl⟩ : ∃ k : Nat, xa = k := ⟨xa.toNat, by omega⟩
    obtain ⟨k', rfl⟩ : ∃ k : Nat, xb = k := ⟨xb.toNat, by omega⟩
    rw [Int.toNat_natCast, Int.toNat_natCast] at *
    have hki : k < i := by omega
    have hkl : k < xs.length := by omega
    have hki' : k' < i := by omega
    have hkl' : k' < xs.length := by omega
    have KD := Lib.hid (IH.out k hki)
    have KE := Lib.hid (IH.out k' hki')
    rw [hu] at KU
    cases hra : rewT (tmAt xs k) with
    | none =>
      rw [show rewT (Tm.joint op (tmAt xs k) (tmAt xs k')) = none from by unfold rewT; rw [hra]; rfl]
      rw [show nodeS xs k = [] by unfold nodeS; rw [hra]] at KD
      obtain ⟨hx1, hx2⟩ := str_nil
      clear hra hu hp ha' hb' hki hkl hki' hkl' HRQ HOK KX KE
      go_enter Tryz.func125, Tryz.ntmps125
      go_wp2_with fail
      refine (KU.out _).mono ?_
      rintro e w' ⟨rfl, rfl⟩
      go_wp2_with fail
      refine (KD.out _ ((Below.refl _ _).alloc (Nat.le_refl _) _)).mono ?_
      rintro e w2 ⟨rfl, hb2⟩
      have B2 := Lib.hid (((Below.refl w.heap.size w).alloc (Nat.le_refl _) _).trans (hb2.mono (by simp)))
      have hz2 : w.heap.size < w2.heap.size := by have := hb2.size; simp at this; omega
      have n0 := node_keptZ hb2 0
      have n1 := node_keptZ hb2 1
      have n3 := node_keptZ hb2 3
      simp at n0 n1 n3
      clear hb2 c0 c1 c2 c3
      go_wp2
      go_ret
      exact WholeP.none_of B2.out
    | some s =>
      obtain ⟨q1, q2, q3⟩ := HRQ.out k s hkl hra
      rw [show nodeS xs k = txt s by unfold nodeS; rw [hra]] at KD
      obtain ⟨he', hf'⟩ := str_ne (txt_ne s)
      cases hrb : rewT (tmAt xs k') with
      | none =>
        rw [show rewT (Tm.joint op (tmAt xs k) (tmAt xs k')) = none from by unfold rewT; rw [hra, hrb]; rfl]
        rw [show nodeS xs k' = [] by unfold nodeS; rw [hrb]] at KE
        obtain ⟨hx1, hx2⟩ := str_nil
        clear hra hrb hu hp ha' hb' hki hkl hki' hkl' HRQ HOK KX q1 q2 q3
        generalize str (txt s) = ss at *
        go_enter Tryz.func125, Tryz.ntmps125
        go_wp2_with fail
        refine (KU.out _).mono ?_
        rintro e w' ⟨rfl, rfl⟩
        go_wp2_with fail
        refine (KD.out _ ((Below.refl _ _).alloc (Nat.le_refl _) _)).mono ?_
        rintro e w2 ⟨rfl, hb2⟩
        have B2 := Lib.hid (((Below.refl w.heap.size w).alloc (Nat.le_refl _) _).trans (hb2.mono (by simp)))
        have hz2 : w.heap.size < w2.heap.size := by have := hb2.size; simp at this; omega
        have n0 := node_keptZ hb2 0
        have n1 := node_keptZ hb2 1
        have n3 := node_keptZ hb2 3
        simp at n0 n1 n3
        clear hb2 c0 c1 c2 c3
        go_wp2_with fail
        refine (KU.out _).mono ?_
        rintro e w' ⟨rfl, rfl⟩
        go_wp2_with fail
        refine (KE.out _ B2.out).mono ?_
        rintro e w3 ⟨rfl, hb3⟩
        have B3 := Lib.hid (B2.out.trans (hb3.mono B2.out.size))
        clear hb3 n0 n1 n3
        go_wp2
        go_ret
        exact WholeP.none_of B3.out
      | some s' =>
        obtain ⟨q1', q2', q3'⟩ := HRQ.out k' s' hkl' hrb
        rw [show nodeS xs k' = txt s' by unfold nodeS; rw [hrb]] at KE
        obtain ⟨he2, hf2⟩ := str_ne (txt_ne s')
        have HST : Hid (rewT (Tm.joint op (tmAt xs k) (tmAt xs k')) = limT (if op = 4 then .joint 4 s s' else pushT s s')) := Lib.hid (by unfold rewT; rw [hra, hrb]; rfl)
        rw [HST.out]
        rcases ho with rfl | rfl
        · rw [if_pos rfl]
          have HW : Hid ((Tm.joint 4 s s').wf) := Lib.hid ⟨.inl rfl, q2, q2'⟩
          have zs : (str (txt s)).size ≤ 80 := by have := (txt_len s).2; rw [str_size]; omega
          have zs' : (str (txt s')).size ≤ 80 := by have := (txt_len s').2; rw [str_size]; omega
          have HT : Hid (⟨#[38]⟩ ++ str (txt s) ++ str (txt s') = str (txt (.joint 4 s s'))) := Lib.hid (by
            rw [show (⟨#[38]⟩ : ByteArray) = str [38] from rfl, str_app, str_app]
            first | rfl | (congr 1; simp [txt, headT, headB, Tm.op, Tm.num, letterI, letters]))
          have HL : Hid ((txt (.joint 4 s s')).length ≤ 1000) := Lib.hid (by have h1 := txt_len (.joint 4 s s'); simp only [Tm.size] at h1; omega)
          have zl0 : (⟨#[38]⟩ : ByteArray).size = 1 := rfl
          have hadd0 := fun W => run_string_add_sum (P := Tryz.prog) W (⟨#[38]⟩) (str (txt s)) (by first | omega | (simp only [ByteArray.size_append]; omega))
          have hadd1 := fun W => run_string_add_sum (P := Tryz.prog) W (⟨#[38]⟩ ++ str (txt s)) (str (txt s')) (by first | omega | (simp only [ByteArray.size_append]; omega))
          clear hra hrb hu hp ha' hb' hki hkl hki' hkl' HRQ HOK KX q1 q2 q3 q1' q2' q3' HST
          generalize str (txt s) = ss at *
          generalize str (txt s') = ss' at *
          clear zs zs' zl0
          go_enter Tryz.func125, Tryz.ntmps125
          go_wp2_with fail
          refine (KU.out _).mono ?_
          rintro e w' ⟨rfl, rfl⟩
          go_wp2_with fail
          refine (KD.out _ ((Below.refl _ _).alloc (Nat.le_refl _) _)).mono ?_
          rintro e w2 ⟨rfl, hb2⟩
          have B2 := Lib.hid (((Below.refl w.heap.size w).alloc (Nat.le_refl _) _).trans (hb2.mono (by simp)))
          have hz2 : w.heap.size < w2.heap.size := by have := hb2.size; simp at this; omega
          have n0 := node_keptZ hb2 0
          have n1 := node_keptZ hb2 1
          have n3 := node_keptZ hb2 3
          simp at n0 n1 n3
          clear hb2 c0 c1 c2 c3
          go_wp2_with fail
          refine (KU.out _).mono ?_
          rintro e w' ⟨rfl, rfl⟩
          go_wp2_with fail
          refine (KE.out _ B2.out).mono ?_
          rintro e w3 ⟨rfl, hb3⟩
          have B3 := Lib.hid (B2.out.trans (hb3.mono B2.out.size))
          rw [← hb3.cell (p := ⟨w.heap.size, 0, none⟩) hz2] at n0
          clear hb3 n1 n3
          go_wp2
          go_ret
          exact ⟨_, ret_str HT.out, HL.out, (TextOr.parsed (.inl rfl) HW.out), B3.out⟩
        · rw [if_neg (by decide)]
          have HW : Hid ((pushT s s').wf) := Lib.hid (push_wf q2 s' q1' q2')
          have KP := Lib.hid (fun W => specAfter2_any s s' q2 q3 q2' q3' q1' W)
          unfold PushP at KP
          clear hra hrb hu hp ha' hb' hki hkl hki' hkl' HRQ HOK KX q1 q2 q3 q1' q2' q3' HST
          generalize str (txt s) = ss at *
          generalize str (txt s') = ss' at *
          generalize pushT s s' = T at *
          go_enter Tryz.func125, Tryz.ntmps125
          go_wp2_with fail
          refine (KU.out _).mono ?_
          rintro e w' ⟨rfl, rfl⟩
          go_wp2_with fail
          refine (KD.out _ ((Below.refl _ _).alloc (Nat.le_refl _) _)).mono ?_
          rintro e w2 ⟨rfl, hb2⟩
          have B2 := Lib.hid (((Below.refl w.heap.size w).alloc (Nat.le_refl _) _).trans (hb2.mono (by simp)))
          have hz2 : w.heap.size < w2.heap.size := by have := hb2.size; simp at this; omega
          have n0 := node_keptZ hb2 0
          have n1 := node_keptZ hb2 1
          have n3 := node_keptZ hb2 3
          simp at n0 n1 n3
          clear hb2 c0 c1 c2 c3
          go_wp2_with fail
          refine (KU.out _).mono ?_
          rintro e w' ⟨rfl, rfl⟩
          go_wp2_with fail
          refine (KE.out _ B2.out).mono ?_
          rintro e w3 ⟨rfl, hb3⟩
          have B3 := Lib.hid (B2.out.trans (hb3.mono B2.out.size))
          rw [← hb3.cell (p := ⟨w.heap.size, 0, none⟩) hz2] at n0
          clear hb3 n1 n3
          go_wp2_with fail
          refine (KP.out _).mono ?_
          rintro e w4 ⟨s4, rfl, hs1, hs2, hb4⟩
          have B4 := Lib.hid (B3.out.trans (hb4.mono B3.out.size))
          have HS := Lib.hid hs2
          clear hb4 hs2 n0
          go_wp2
          go_ret
          exact ⟨_, rfl, hs1, HS.out.parsed HW.out, B4.out⟩

set_option maxHeartbeats 4000000 in
theorem specNode_any (xs : List Nd) (v : Value) (hf : formOk xs = true) : ∀ (m i : Nat) (w : World), i < m → i < xs.length → Ns w v xs →
    Calls Tryz.prog 76 #[v, .int .i64 i] w fun e w' => e = .returned (.string (str (nodeS xs i))) ∧ Below w.heap.size w w' := by
  intro m
  induction m with
  | zero => intro i w hi; omega
  | succ m ih =>
    intro i w hi hl hr
    have KW := Lib.hid (specWhole_any xs v hf i w hl hr (fun k hk W hW => ih k W (by omega) (by omega) (hr.below hW (Nat.le_refl _))))
    unfold WholeP at KW
    have KP := Lib.hid (fun s W => parse_str s W)
    unfold Ans at KP
    obtain ⟨va, vc, rfl, -⟩ := hr.parts
    have HN : Hid (∀ t, rewT (tmAt xs i) = some t → nodeS xs i = txt t) := Lib.hid (fun t h => by unfold nodeS; rw [h])
    have HN' : Hid (rewT (tmAt xs i) = none → nodeS xs i = []) := Lib.hid (fun h => by unfold nodeS; rw [h])
    clear ih hi hl hr hf
    generalize rewT (tmAt xs i) = r at *
    generalize nodeS xs i = ns at *
    go_enter Tryz.func76, Tryz.ntmps76
    go_wp2_with fail
    refine KW.out.mono ?_
    rintro e w1 ⟨s, rfl, hs1, ⟨hs2, hs3⟩, hb1⟩
    have B1 := Lib.hid hb1
    have HP2 := Lib.hid hs2
    have HP3 := Lib.hid hs3
    clear hb1 hs2 hs3 KW
    cases r with
    | none =>
      have KP := Lib.hid (KP.out s)
      rw [HP2.out, Option.map_none] at KP
      have HE := Lib.hid (HN'.out rfl)
      clear HN HN' HP2 HP3
      go_wp2_with fail
      refine (KP.out _).mono ?_
      rintro e w2 ⟨v2, rfl, ho2, hb2⟩
      have B2 := Lib.hid (B1.out.trans (hb2.mono B1.out.size))
      clear ho2 hb2
      go_wp2
      go_ret
      exact ⟨by rw [HE.out]; rfl, B2.out⟩
    | some t =>
      have KP := Lib.hid (KP.out s)
      rw [HP2.out, Option.map_some] at KP
      have HE := Lib.hid ((HN.out t rfl).trans (HP3.out t rfl).symm)
      clear HN HN' HP2 HP3
      go_wp2_with fail
      refine (KP.out _).mono ?_
      rintro e w2 ⟨v2, rfl, ho2, hb2⟩
      have B2 := Lib.hid (B1.out.trans (hb2.mono B1.out.size))
      clear ho2 hb2
      go_wp2
      go_ret
      exact ⟨by rw [HE.out]; rfl, B2.out⟩

set_option maxHeartbeats 8000000 in
theorem specRewrite_any (u : Value) (xs : List Nd) (w : World) (hr : Ns w u xs) (hn : xs.length ≤ 1048576) :
    Calls Tryz.prog 27 #[u] w (Ans w (rewL xs)) := by
  have HR := Lib.hid hr
  have KO := Lib.hid (fun W h => specForm_any u xs W h)
  have KC := Lib.hid (fun W h => specCountOp_any u xs 8 W h hn)
  obtain ⟨ua, uc, rfl, -⟩ := hr
  cases hf : formOk xs with
  | false =>
    have HA : Hid (rewL xs = none) := Lib.hid (by unfold rewL; rw [hf]; rfl)
    rw [hf] at KO
    clear hf KC
    go_enter Tryz.func27, Tryz.ntmps27
    go_wp2_with fail
    refine (KO.out _ HR.out).mono ?_
    rintro e w1 ⟨rfl, hb1⟩
    have B1 := Lib.hid hb1; clear hb1
    go_wp2
    go_returns
    rw [HA.out]
    exact Ans.none_of B1.out
  | true =>
    rw [hf] at KO
    obtain ⟨c, hc⟩ : ∃ c, c = cntOp xs 8 := ⟨_, rfl⟩
    rw [← hc] at KC
    have hc0 : (0 : Int) ≤ (c : Int) := Int.natCast_nonneg _
    rcases Nat.eq_zero_or_pos c with h0 | h0
    · subst h0
      obtain ⟨q1, q2, -⟩ := formOk_parts hf
      have KN := Lib.hid (fun W h => specNode_any xs (.slice ua xs.length uc) hf _ (xs.length - 1) W (Nat.lt_succ_self _) (by omega) h)
      rw [lastIx q1] at KN
      have KP := Lib.hid (fun W => parse_str (nodeS xs (xs.length - 1)) W)
      have HA : Hid (parsed (nodeS xs (xs.length - 1)) = rewL xs) := Lib.hid (by
        unfold nodeS rewL
        rw [hf, if_pos rfl]
        change _ = (rewT (tmAt xs (xs.length - 1))).map (lay 0)
        cases hrw : rewT (tmAt xs (xs.length - 1)) with
        | none => rfl
        | some t =>
          obtain ⟨_, hw, hs⟩ := rew_quiet _ t (termOfL_wf hf) hrw
          exact parsed_txt hw hs)
      rw [HA.out] at KP
      unfold Ans at KP
      have hl1 : (1 : Int) ≤ (xs.length : Int) := by omega
      have hl2 : (xs.length : Int) ≤ 40 := by omega
      clear hf hc hc0 q1 q2 HA
      generalize str (nodeS xs (xs.length - 1)) = sn at *
      go_enter Tryz.func27, Tryz.ntmps27
      go_wp2_with fail
      refine (KO.out _ HR.out).mono ?_
      rintro e w1 ⟨rfl, hb1⟩
      have B1 := Lib.hid hb1; clear hb1
      go_wp2_with fail
      refine (KC.out _ (HR.out.below B1.out (Nat.le_refl _))).mono ?_
      rintro e w2 ⟨rfl, hb2⟩
      have B2 := Lib.hid (B1.out.trans (hb2.mono B1.out.size)); clear hb2
      go_wp2_with fail
      refine (KN.out _ (HR.out.below B2.out (Nat.le_refl _))).mono ?_
      rintro e w3 ⟨rfl, hb3⟩
      have B3 := Lib.hid (B2.out.trans (hb3.mono B2.out.size)); clear hb3
      go_wp2_with fail
      refine (KP.out _).mono ?_
      rintro e w4 ⟨v4, rfl, ho4, hb4⟩
      have O4 := Lib.hid ho4; have B4 := Lib.hid hb4; clear ho4 hb4
      go_wp2
      go_returns
      exact Ans.later B3.out ⟨_, rfl, O4.out, B4.out⟩
    · have HA : Hid (rewL xs = none) := Lib.hid (by unfold rewL; rw [hf, if_pos rfl, rew_common hf (by omega)]; rfl)
      have h0' : (0 : Int) < (c : Int) := by omega
      clear hf hc h0
      go_enter Tryz.func27, Tryz.ntmps27
      go_wp2_with fail
      refine (KO.out _ HR.out).mono ?_
      rintro e w1 ⟨rfl, hb1⟩
      have B1 := Lib.hid hb1; clear hb1
      go_wp2_with fail
      refine (KC.out _ (HR.out.below B1.out (Nat.le_refl _))).mono ?_
      rintro e w2 ⟨rfl, hb2⟩
      have B2 := Lib.hid (B1.out.trans (hb2.mono B1.out.size)); clear hb2
      go_wp2
      go_returns
      rw [HA.out]
      exact Ans.none_of B2.out

end Go.Proofs.YtodjohdbngbpaaaGreat
