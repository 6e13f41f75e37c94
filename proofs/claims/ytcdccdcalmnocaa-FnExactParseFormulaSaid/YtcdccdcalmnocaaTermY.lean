/-
  Contracts of depthOfTerm (by the term), spec.l02Text and spec.l02Depth (by the node).
-/
import Derived.Test.YtcdccdcalmnocaaTermX
namespace Go.Proofs.Ytcdccdcalmnocaa
open Go.RowKit
open Go Go.Deep

set_option maxRecDepth 100000 in
set_option maxHeartbeats 4000000 in
theorem depthOf_any : ∀ (t : Tm) (w : World), t.size ≤ 100 → Calls Try.prog 52 #[tv t] w fun e w' => e = .returned (.int .i64 (t.deep : Nat)) ∧ Below w.heap.size w w' := by
  intro t
  induction t with
  | leaf op n =>
    intro w hs
    have P := Lib.hid (fun W => leafParts_any op n W)
    clear hs
    have tk := ta_leaf_know
    unfold tv Tm.deep
    go_enter Try.func52, Try.ntmps52
    go_wp2_with fail
    refine (P.out _).mono ?_
    rintro e w2 ⟨rfl, hb2⟩
    have B2 := Lib.hid hb2; clear hb2
    go_wp2
    refine wp_loop_rounds 1 ?_
    rw [rounds_succ]
    go_wp2
    go_ret
    exact ⟨rfl, B2.out.alloc B2.out.size _⟩
  | deny a ih =>
    intro w hs
    have hsa : a.size ≤ 100 := by simp only [Tm.size] at hs; omega
    have hd := a.deep_lt
    have P := Lib.hid (fun W => denyParts_any a W)
    have IH := Lib.hid (fun W => ih W hsa)
    clear ih
    have hd1 : a.deep ≤ 100 := by omega
    clear hs hsa hd
    have tk := ta_deny_know
    unfold tv
    rw [show (Tm.deny a).deep = a.deep from rfl]
    generalize a.deep = d at *
    have hd0 : (0 : Int) ≤ (d : Int) := Int.natCast_nonneg _
    go_enter Try.func52, Try.ntmps52
    go_wp2_with fail
    refine (P.out _).mono ?_
    rintro e w2 ⟨v, rfl, hp, hb2⟩
    obtain ⟨g, rfl, hg1, hg2, hc⟩ := hp.at0
    have B2 := Lib.hid hb2; clear hb2 hp
    go_wp2
    refine wp_loop_rounds 2 ?_
    rw [rounds_succ]
    go_wp2_with fail
    refine (IH.out _).mono ?_
    rintro e w3 ⟨rfl, hb3⟩
    have B3 := Lib.hid (B2.out.trans (hb3.mono B2.out.size)); clear hb3
    go_wp2
    all_goals
      rw [rounds_succ]
      go_wp2
      go_ret
      exact ⟨ret_int (by omega), B3.out.alloc B3.out.size _⟩
  | know op n a ih =>
    intro w hs
    have hsa : a.size ≤ 100 := by simp only [Tm.size] at hs; omega
    have hd := a.deep_lt
    have P := Lib.hid (fun W => knowParts_any op n a W)
    have IH := Lib.hid (fun W => ih W hsa)
    clear ih
    have hd1 : a.deep ≤ 100 := by omega
    clear hs hsa hd
    have tk := ta_know_know
    unfold tv
    obtain ⟨ty, pv, hx⟩ := tv_form a
    rw [hx] at P IH ⊢
    clear hx
    rw [show (Tm.know op n a).deep = a.deep + 1 from rfl]
    generalize a.deep = d at *
    have hd0 : (0 : Int) ≤ (d : Int) := Int.natCast_nonneg _
    go_enter Try.func52, Try.ntmps52
    go_wp2_with fail
    refine (P.out _).mono ?_
    rintro e w2 ⟨v, rfl, hp, hb2⟩
    obtain ⟨g, rfl, hg1, hg2, hc⟩ := hp.at0
    have B2 := Lib.hid hb2; clear hb2 hp
    go_wp2
    refine wp_loop_rounds 2 ?_
    rw [rounds_succ]
    go_wp2_with fail
    refine (IH.out _).mono ?_
    rintro e w3 ⟨rfl, hb3⟩
    have B3 := Lib.hid (B2.out.trans (hb3.mono B2.out.size)); clear hb3
    go_wp2
    all_goals
      rw [rounds_succ]
      go_wp2
      go_ret
      exact ⟨ret_int (by omega), B3.out.alloc B3.out.size _⟩
  | joint op a b iha ihb =>
    intro w hs
    have hsa : a.size ≤ 100 := by simp only [Tm.size] at hs; omega
    have hsb : b.size ≤ 100 := by simp only [Tm.size] at hs; omega
    have hd := a.deep_lt
    have hd' := b.deep_lt
    have P := Lib.hid (fun W => jointParts_any op a b W)
    have IA := Lib.hid (fun W => iha W hsa)
    have IB := Lib.hid (fun W => ihb W hsb)
    have hd1 : a.deep ≤ 100 := by omega
    have hd2 : b.deep ≤ 100 := by omega
    clear iha ihb hs hsa hsb hd hd'
    have tk := ta_joint_know
    unfold tv
    rw [show (Tm.joint op a b).deep = max a.deep b.deep from rfl]
    generalize a.deep = d at *
    generalize b.deep = d' at *
    have hd0 : (0 : Int) ≤ (d : Int) := Int.natCast_nonneg _
    have hd0' : (0 : Int) ≤ (d' : Int) := Int.natCast_nonneg _
    go_enter Try.func52, Try.ntmps52
    go_wp2_with fail
    refine (P.out _).mono ?_
    rintro e w2 ⟨v, rfl, hp, hb2⟩
    obtain ⟨g, rfl, hg1, hg2, hc⟩ := hp.at0
    obtain ⟨g', he, _, _, hcc⟩ := hp
    simp only [Value.slice.injEq, Option.some.injEq, Addr.mk.injEq, and_true] at he
    obtain ⟨rfl, _⟩ := he
    have hc' : w2.cell? ⟨g, 1, none⟩ = some (tv b) := hcc 1 (by simp)
    have B2 := Lib.hid hb2; clear hb2 hcc
    go_wp2
    refine wp_loop_rounds 3 ?_
    rw [rounds_succ]
    go_wp2_with fail
    refine (IA.out _).mono ?_
    rintro e w3 ⟨rfl, hb3⟩
    rw [← hb3.cell (p := ⟨g, 1, none⟩) hg2] at hc'
    have B3 := Lib.hid (B2.out.trans (hb3.mono B2.out.size)); clear hb3 hc
    go_wp2
    all_goals
      rw [rounds_succ]
      go_wp2_with fail
      refine (IB.out _).mono ?_
      rintro e w4 ⟨rfl, hb4⟩
      have B4 := Lib.hid (B3.out.trans (hb4.mono B3.out.size)); clear hb4 hc'
      go_wp2
      all_goals
        rw [rounds_succ]
        go_wp2
        go_ret
        exact ⟨ret_int (by omega), B4.out.alloc B4.out.size _⟩

/-- a world that has kept all up to a local node -/
theorem node_kept {w w2 : World} {c : Array Value} {T : TypeId} (hb : Below (w.alloc (.cells c T)).heap.size (w.alloc (.cells c T)) w2) (k : Nat) : w2.cell? ⟨w.heap.size, k, none⟩ = c[k]? := by
  rw [hb.cell (p := ⟨w.heap.size, k, none⟩) (by simp), World.cell?_alloc_at _ _ _ _ rfl]

set_option maxRecDepth 100000 in
set_option maxHeartbeats 8000000 in
theorem specDepth_any (xs : List Nd) (v : Value) (hn : nodesOk xs = true) : ∀ (m i : Nat) (w : World), i < m → i < xs.length → Ns w v xs → (tmAt xs i).size ≤ 100 →
    Calls Try.prog 51 #[v, .int .i64 i] w fun e w' => e = .returned (.int .i64 ((tmAt xs i).deep : Nat)) ∧ Below w.heap.size w w' := by
  have HN := Lib.hid hn
  clear hn
  intro m
  induction m with
  | zero => intro i w hi; omega
  | succ m ih =>
    intro i w hi hl hr hs
    have hok := nodesOk_at HN.out hl
    have hp := okAt_parts hok
    rw [tmAt_eq HN.out hl] at hs ⊢
    obtain ⟨a, cap, rfl, h1, h2, h3⟩ := hr.parts
    obtain ⟨b, o, rfl, hb, c0, c1, c2, c3⟩ := h3 i hl
    clear h3 hok
    have HR := Lib.hid hr
    clear hr
    generalize hx : xs.getD i default = x at *
    obtain ⟨op, n, xa, xb⟩ := x
    simp only [] at c0 c1 c2 c3 hp hs ⊢
    clear hx
    unfold maxLen at h2
    have KU := Lib.hid (fun W => l02Uses_in op W hp.1.1 hp.1.2.1)
    have IH := Lib.hid ih
    clear ih
    rcases op_kinds hp.1.1 hp.1.2.1 with ⟨ho, hu⟩ | ⟨ho, hu⟩ | ⟨ho, hu⟩ | ⟨ho, hu⟩
    · rw [mkTm_leaf ho, show (Tm.leaf op n).deep = 0 from rfl]
      have KI := Lib.hid (fun W => l01In_no op 5 8 W (by omega))
      rw [hu] at KU
      clear ho hu hp hs
      go_enter Try.func51, Try.ntmps51
      go_wp2_with fail
      refine (KU.out _).mono ?_
      rintro e w' ⟨rfl, rfl⟩
      go_wp2_with fail
      refine (KU.out _).mono ?_
      rintro e w' ⟨rfl, rfl⟩
      go_wp2_with fail
      refine (KI.out _).mono ?_
      rintro e w' ⟨rfl, rfl⟩
      go_wp2
      go_ret
      exact ⟨rfl, (Below.refl _ _).alloc (Nat.le_refl _) _⟩
    · subst ho
      rw [mkTm_deny] at hs ⊢
      rw [show ∀ t : Tm, (Tm.deny t).deep = t.deep from fun _ => rfl]
      have KI := Lib.hid (fun W => l01In_no 3 5 8 W (by omega))
      rw [hu] at KU
      have ha := hp.2.1 (by decide)
      obtain ⟨k, rfl⟩ : ∃ k : Nat, xa = k := ⟨xa.toNat, by omega⟩
      rw [Int.toNat_natCast] at hs ⊢
      have hka : k < m := by omega
      have hkl : k < xs.length := by omega
      have hks : (tmAt xs k).size ≤ 100 := by simp only [Tm.size] at hs; omega
      have hdl := (tmAt xs k).deep_lt
      have KD := Lib.hid (fun W h => IH.out k W hka hkl h hks)
      clear hu hp hs ha hks hka hkl
      generalize (tmAt xs k).deep = d at *
      go_enter Try.func51, Try.ntmps51
      go_wp2_with fail
      refine (KU.out _).mono ?_
      rintro e w' ⟨rfl, rfl⟩
      go_wp2_with fail
      refine (KD.out _ (HR.out.below ((Below.refl _ _).alloc (Nat.le_refl _) _) (Nat.le_refl _))).mono ?_
      rintro e w2 ⟨rfl, hb2⟩
      have n0 := node_kept hb2 0
      have B2 := Lib.hid (((Below.refl w.heap.size w).alloc (Nat.le_refl _) _).trans (hb2.mono (by simp)))
      clear hb2 c0 c1 c2 c3
      simp at n0
      go_wp2_with fail
      refine (KU.out _).mono ?_
      rintro e w' ⟨rfl, rfl⟩
      go_wp2_with fail
      refine (KI.out _).mono ?_
      rintro e w' ⟨rfl, rfl⟩
      go_wp2
      go_ret
      exact ⟨rfl, B2.out⟩
    · rw [mkTm_know ho] at hs ⊢
      rw [show ∀ t : Tm, (Tm.know op n t).deep = t.deep + 1 from fun _ => rfl]
      have KI := Lib.hid (fun W => l01In_yes op 5 8 W (by omega) (by omega))
      rw [hu] at KU
      have ha := hp.2.1 (by omega)
      obtain ⟨k, rfl⟩ : ∃ k : Nat, xa = k := ⟨xa.toNat, by omega⟩
      rw [Int.toNat_natCast] at hs ⊢
      have hka : k < m := by omega
      have hkl : k < xs.length := by omega
      have hks : (tmAt xs k).size ≤ 100 := by simp only [Tm.size] at hs; omega
      have hdl : (tmAt xs k).deep ≤ 100 := by have := (tmAt xs k).deep_lt; omega
      have KD := Lib.hid (fun W h => IH.out k W hka hkl h hks)
      clear hu hp hs ha hks hka hkl ho
      generalize (tmAt xs k).deep = d at *
      have hd0 : (0 : Int) ≤ (d : Int) := Int.natCast_nonneg _
      go_enter Try.func51, Try.ntmps51
      go_wp2_with fail
      refine (KU.out _).mono ?_
      rintro e w' ⟨rfl, rfl⟩
      go_wp2_with fail
      refine (KD.out _ (HR.out.below ((Below.refl _ _).alloc (Nat.le_refl _) _) (Nat.le_refl _))).mono ?_
      rintro e w2 ⟨rfl, hb2⟩
      have n0 := node_kept hb2 0
      have B2 := Lib.hid (((Below.refl w.heap.size w).alloc (Nat.le_refl _) _).trans (hb2.mono (by simp)))
      clear hb2 c0 c1 c2 c3
      simp at n0
      go_wp2_with fail
      refine (KU.out _).mono ?_
      rintro e w' ⟨rfl, rfl⟩
      go_wp2_with fail
      refine (KI.out _).mono ?_
      rintro e w' ⟨rfl, rfl⟩
      go_wp2
      go_ret
      exact ⟨ret_int (by omega), B2.out⟩
    · rw [mkTm_joint ho] at hs ⊢
      rw [show ∀ t t' : Tm, (Tm.joint op t t').deep = max t.deep t'.deep from fun _ _ => rfl]
      have KI := Lib.hid (fun W => l01In_no op 5 8 W (by omega))
      rw [hu] at KU
      have ha := hp.2.1 (by omega)
      have hb' := hp.2.2.1 hu
      obtain ⟨k, rfl⟩ : ∃ k : Nat, xa = k := ⟨xa.toNat, by omega⟩
      obtain ⟨k', rfl⟩ : ∃ k : Nat, xb = k := ⟨xb.toNat, by omega⟩
      rw [Int.toNat_natCast, Int.toNat_natCast] at hs ⊢
      have hka : k < m := by omega
      have hkl : k < xs.length := by omega
      have hkb : k' < m := by omega
      have hkl' : k' < xs.length := by omega
      have hks : (tmAt xs k).size ≤ 100 := by simp only [Tm.size] at hs; omega
      have hks' : (tmAt xs k').size ≤ 100 := by simp only [Tm.size] at hs; omega
      have hdl : (tmAt xs k).deep ≤ 100 := by have := (tmAt xs k).deep_lt; omega
      have hdl' : (tmAt xs k').deep ≤ 100 := by have := (tmAt xs k').deep_lt; omega
      have KD := Lib.hid (fun W h => IH.out k W hka hkl h hks)
      have KD' := Lib.hid (fun W h => IH.out k' W hkb hkl' h hks')
      clear hu hp hs ha hb' hks hka hkl hks' hkb hkl' ho
      generalize (tmAt xs k).deep = d at *
      generalize (tmAt xs k').deep = d' at *
      have hd0 : (0 : Int) ≤ (d : Int) := Int.natCast_nonneg _
      have hd0' : (0 : Int) ≤ (d' : Int) := Int.natCast_nonneg _
      by_cases hdd : d < d'
      all_goals
        go_enter Try.func51, Try.ntmps51
        go_wp2_with fail
        refine (KU.out _).mono ?_
        rintro e w' ⟨rfl, rfl⟩
        go_wp2_with fail
        refine (KD.out _ (HR.out.below ((Below.refl _ _).alloc (Nat.le_refl _) _) (Nat.le_refl _))).mono ?_
        rintro e w2 ⟨rfl, hb2⟩
        have n0 := node_kept hb2 0
        have n3 := node_kept hb2 3
        have B2 := Lib.hid (((Below.refl w.heap.size w).alloc (Nat.le_refl _) _).trans (hb2.mono (by simp)))
        have hsz2 : w.heap.size < w2.heap.size := by have := hb2.size; simp at this; omega
        clear hb2 c0 c1 c2 c3
        simp at n0 n3
        go_wp2_with fail
        refine (KU.out _).mono ?_
        rintro e w' ⟨rfl, rfl⟩
        go_wp2_with fail
        refine (KD'.out _ (HR.out.below B2.out (Nat.le_refl _))).mono ?_
        rintro e w3 ⟨rfl, hb3⟩
        rw [← hb3.cell (p := ⟨w.heap.size, 0, none⟩) hsz2] at n0
        have B3 := Lib.hid (B2.out.trans (hb3.mono B2.out.size))
        clear hb3 n3
        go_wp2_with fail
        refine (KI.out _).mono ?_
        rintro e w' ⟨rfl, rfl⟩
        go_wp2
        go_ret
        exact ⟨ret_int (by omega), B3.out⟩
end Go.Proofs.Ytcdccdcalmnocaa
