/-
  Contracts of termAt and termOf; the walks of the laws FnExactFormatFormula, FnExactSameFormula, FnExactDepthOf.
-/
import Derived.Test.YtgmpenchojnihaaGreatTermY
namespace Go.Proofs.YtgmpenchojnihaaGreat
open Go.RowKit
open Go Go.Deep

theorem Tryz.infoTm : (Tryz.prog.info? 99).map (fun i => (i.zero, i.size, i.bytes)) = some (some .nilIface, 1, 16) := by kernel_rfl

theorem node_kept' {w w2 : World} {c : Array Value} {T : TypeId} (hb : Below (w.alloc (.cells c T)).heap.size (w.alloc (.cells c T)) w2) (k : Nat) : w2.cell? ⟨w.heap.size, k, none⟩ = c[k]? := by
  rw [hb.cell (p := ⟨w.heap.size, k, none⟩) (by simp), World.cell?_alloc_at _ _ _ _ rfl]

set_option maxRecDepth 100000 in
set_option maxHeartbeats 16000000 in
theorem termAt_any (xs : List Nd) (v : Value) (hn : nodesOk xs = true) : ∀ (m i : Nat) (w : World), i < m → i < xs.length → Ns w v xs →
    Calls Tryz.prog 105 #[v, .int .i64 i] w fun e w' => e = .returned (tv (tmAt xs i)) ∧ Below w.heap.size w w' := by
  have HN := Lib.hid hn
  clear hn
  intro m
  induction m with
  | zero => intro i w hi; omega
  | succ m ih =>
    intro i w hi hl hr
    have hok := nodesOk_at HN.out hl
    have hp := okAt_parts hok
    rw [tmAt_eq HN.out hl]
    obtain ⟨a, cap, rfl, h1, h2, h3⟩ := hr.parts
    obtain ⟨b, o, rfl, hb, c0, c1, c2, c3⟩ := h3 i hl
    clear h3 hok
    have HR := Lib.hid hr
    clear hr
    generalize hx : xs.getD i default = x at *
    obtain ⟨op, n, xa, xb⟩ := x
    simp only [] at c0 c1 c2 c3 hp ⊢
    clear hx
    unfold maxLen at h2
    have IH := Lib.hid ih
    clear ih
    have KB := Lib.hid (fun W => usedBy_any ⟨op, n, xa, xb⟩ W (fun h => (hp.2.1 h).1) (fun h => (hp.2.2.1 h).1))
    have e0 : usesI op = 0 → usedOf ⟨op, n, xa, xb⟩ = [] := fun h => by unfold usedOf; rw [h]; rfl
    have e1 : usesI op = 1 → usedOf ⟨op, n, xa, xb⟩ = [xa.toNat] := fun h => by unfold usedOf; rw [h]; rfl
    have e2 : usesI op = 2 → usedOf ⟨op, n, xa, xb⟩ = [xa.toNat, xb.toNat] := fun h => by unfold usedOf; rw [h]; rfl
    have hz0 : (0 : Nat) + 1 ≤ maxLen := by decide
    have hz1 : (0 + 1) * 16 ≤ 140737488355328 := by decide
    have hy1 : (1 : Nat) + 1 ≤ maxLen := by decide
    have hy2 : (1 + 1) * 16 ≤ 140737488355328 := by decide
    by_cases hu : usesI op = 0
    · have ho : op = 1 ∨ op = 2 := by have := op_kinds hp.1.1 hp.1.2.1; omega
      rw [mkTm_leaf ho]
      rw [e0 hu] at KB
      have KT := Lib.hid (fun v W => newTerm_0 op n v W ho)
      clear e0 e1 e2 hp ho hu
      go_enter Tryz.func105, Tryz.ntmps105
      go_wp2_with fail
      refine (KB.out _).mono ?_
      rintro e w1 ⟨g, rfl, hg1, hg2, _, hb1⟩
      have n0 := node_kept' hb1 0
      have n1 := node_kept' hb1 1
      have B1 := Lib.hid (((Below.refl w.heap.size w).alloc (Nat.le_refl _) _).trans (hb1.mono (by simp)))
      clear hb1 c0 c1 c2 c3
      simp at n0 n1
      go_wp2
      refine wp_loop_rounds 1 ?_
      rw [rounds_succ]
      go_wp2_with fail
      refine (KT.out _ _).mono ?_
      rintro e w' ⟨rfl, rfl⟩
      go_wp2
      go_ret
      exact ⟨rfl, B1.out⟩
    by_cases hu1 : usesI op = 1
    · have ha := hp.2.1 (by omega)
      have hop : op = 3 ∨ (op ≠ 1 ∧ op ≠ 2 ∧ op ≠ 3 ∧ op ≠ 4 ∧ op ≠ 9) := by have := op_kinds hp.1.1 hp.1.2.1; omega
      have e3 : mkTm op n (tmAt xs xa.toNat) (tmAt xs xb.toNat) = if op = 3 then .deny (tmAt xs xa.toNat) else .know op n (tmAt xs xa.toNat) := by
        rcases hop with rfl | h
        · rw [mkTm_deny]; rfl
        · rw [if_neg h.2.2.1]; unfold mkTm; rw [if_neg (by omega), if_neg (by omega), if_neg (by omega)]
      rw [e3]
      rw [e1 hu1] at KB
      obtain ⟨k, rfl⟩ : ∃ k : Nat, xa = k := ⟨xa.toNat, by omega⟩
      rw [Int.toNat_natCast] at *
      have hka : k < m := by omega
      have hkl : k < xs.length := by omega
      have KD := Lib.hid (fun W (h : Below w.heap.size w W) => IH.out k W hka hkl (HR.out.below h (Nat.le_refl _)))
      clear e0 e1 e2 e3 hp hu hu1 hka hkl ha
      generalize tmAt xs k = T at *
      have KT : Hid (∀ v W, Rs W v [tv T] → Calls Tryz.prog 100 #[.int .i64 op, .int .i64 n, v] W fun e w' => e = .returned (tv (if op = 3 then .deny T else .know op n T)) ∧ W = w') := Lib.hid (fun v W h => by
        rcases hop with rfl | h'
        · rw [if_pos rfl]; exact newTerm_3 n v T W h
        · rw [if_neg h'.2.2.1]; exact newTerm_1 op n v T W h' h)
      generalize tv (if op = 3 then Tm.deny T else .know op n T) = R at *
      obtain ⟨ty, pv, hx⟩ := tv_form T
      rw [hx] at KD KT
      clear hx hop
      go_enter Tryz.func105, Tryz.ntmps105
      go_wp2_with fail
      refine (KB.out _).mono ?_
      rintro e w1 ⟨g, rfl, hg1, hg2, hgc, hb1⟩
      have B1 := Lib.hid (((Below.refl w.heap.size w).alloc (Nat.le_refl _) _).trans (hb1.mono (by simp)))
      have n0 := node_kept' hb1 0
      have n1 := node_kept' hb1 1
      have q0 : w1.cell? ⟨g, 0, none⟩ = some (.int .i64 k) := hgc 0 (by simp)
      have hN : w.heap.size < w1.heap.size := by have := hb1.size; simp at this; omega
      clear hb1 hgc c0 c1 c2 c3
      simp at n0 n1
      go_wp2
      refine wp_loop_rounds 2 ?_
      rw [rounds_succ]
      go_wp2_with fail
      refine (KD.out _ B1.out).mono ?_
      rintro e w2 ⟨rfl, hb2⟩
      have B2 := Lib.hid hb2
      have hs12 := hb2.size
      clear hb2
      go_wp2_with (at_builtin; refine wpList_push rfl _ _ 129 rfl 99 .nilIface 16 Tryz.underlying129 Tryz.infoTm rfl w1.heap.size w2 (.iface ty pv) (.slice none 0 0) 0 [] (World.ownsRow_nil _ _ _ _) rfl rfl rfl hz0 hz1 hs12 ?_; intro v' w4 hown hbp _; have HO := Lib.hid hown; have BP := Lib.hid hbp; clear hown hbp)
      have B4 := Lib.hid (B2.out.trans BP.out)
      rw [← B4.out.cell (p := ⟨w.heap.size, 0, none⟩) hN] at n0
      rw [← B4.out.cell (p := ⟨w.heap.size, 1, none⟩) hN] at n1
      rw [rounds_succ]
      go_wp2_with fail
      refine (KT.out _ _ (Rs.of_own HO.out)).mono ?_
      rintro e w' ⟨rfl, rfl⟩
      go_wp2
      go_ret
      exact ⟨rfl, B1.out.trans (B4.out.mono (by omega))⟩
    · have hu2 : usesI op = 2 := by have := usesI_le op; omega
      have ho : op = 4 ∨ op = 9 := by have := op_kinds hp.1.1 hp.1.2.1; omega
      have ha := hp.2.1 (by omega)
      have hb' := hp.2.2.1 hu2
      rw [mkTm_joint ho]
      rw [e2 hu2] at KB
      obtain ⟨k, rfl⟩ : ∃ k : Nat, xa = k := ⟨xa.toNat, by omega⟩
      obtain ⟨k', rfl⟩ : ∃ k : Nat, xb = k := ⟨xb.toNat, by omega⟩
      rw [Int.toNat_natCast, Int.toNat_natCast] at *
      have hka : k < m := by omega
      have hkl : k < xs.length := by omega
      have hkb : k' < m := by omega
      have hkl' : k' < xs.length := by omega
      have KD := Lib.hid (fun W (h : Below w.heap.size w W) => IH.out k W hka hkl (HR.out.below h (Nat.le_refl _)))
      have KE := Lib.hid (fun W (h : Below w.heap.size w W) => IH.out k' W hkb hkl' (HR.out.below h (Nat.le_refl _)))
      clear e0 e1 e2 hp hu hu1 hu2 hka hkl hkb hkl' ha hb'
      generalize tmAt xs k = T at *
      generalize tmAt xs k' = U at *
      have KT := Lib.hid (fun v W h => newTerm_2 op n v T U W ho h)
      generalize tv (Tm.joint op T U) = R at *
      obtain ⟨ty, pv, hx⟩ := tv_form T
      rw [hx] at KD KT
      clear hx ho
      obtain ⟨ty', pv', hx⟩ := tv_form U
      rw [hx] at KE KT
      clear hx
      go_enter Tryz.func105, Tryz.ntmps105
      go_wp2_with fail
      refine (KB.out _).mono ?_
      rintro e w1 ⟨g, rfl, hg1, hg2, hgc, hb1⟩
      have B1 := Lib.hid (((Below.refl w.heap.size w).alloc (Nat.le_refl _) _).trans (hb1.mono (by simp)))
      have n0 := node_kept' hb1 0
      have n1 := node_kept' hb1 1
      have q0 : w1.cell? ⟨g, 0, none⟩ = some (.int .i64 k) := hgc 0 (by simp)
      have q1 : w1.cell? ⟨g, 1, none⟩ = some (.int .i64 k') := hgc 1 (by simp)
      have hN : w.heap.size < w1.heap.size := by have := hb1.size; simp at this; omega
      clear hb1 hgc c0 c1 c2 c3
      simp at n0 n1
      go_wp2
      refine wp_loop_rounds 3 ?_
      rw [rounds_succ]
      go_wp2_with fail
      refine (KD.out _ B1.out).mono ?_
      rintro e w2 ⟨rfl, hb2⟩
      have B2 := Lib.hid hb2
      have hs12 := hb2.size
      clear hb2
      go_wp2_with (at_builtin; refine wpList_push rfl _ _ 129 rfl 99 .nilIface 16 Tryz.underlying129 Tryz.infoTm rfl w1.heap.size w2 (.iface ty pv) (.slice none 0 0) 0 [] (World.ownsRow_nil _ _ _ _) rfl rfl rfl hz0 hz1 hs12 ?_; intro v' w4 hown hbp _; have HO := Lib.hid hown; have BP := Lib.hid hbp; clear hown hbp)
      have B4 := Lib.hid (B2.out.trans BP.out)
      have hs14 := B4.out.size
      rw [← B4.out.cell (p := ⟨w.heap.size, 0, none⟩) hN] at n0
      rw [← B4.out.cell (p := ⟨w.heap.size, 1, none⟩) hN] at n1
      rw [← B4.out.cell (p := ⟨g, 1, none⟩) hg1] at q1
      have C4 := Lib.hid (B1.out.trans (B4.out.mono (Nat.le_of_lt hN)))
      clear q0
      rw [rounds_succ]
      go_wp2_with fail
      refine (KE.out _ C4.out).mono ?_
      rintro e w5 ⟨rfl, hb5⟩
      have B5 := Lib.hid (B4.out.trans (hb5.mono hs14))
      have HO5 := Lib.hid (own_below HO.out hb5 (Nat.le_refl _))
      have hs15 := B5.out.size
      rw [← hb5.cell (p := ⟨w.heap.size, 0, none⟩) (by show w.heap.size < _; omega)] at n0
      rw [← hb5.cell (p := ⟨w.heap.size, 1, none⟩) (by show w.heap.size < _; omega)] at n1
      clear hb5 q1
      go_wp2_with (at_builtin; refine wpList_push rfl _ _ 129 rfl 99 .nilIface 16 Tryz.underlying129 Tryz.infoTm rfl w1.heap.size w5 (.iface ty' pv') v' 1 [.iface ty pv] HO5.out rfl rfl rfl hy1 hy2 hs15 ?_; intro v'' w6 hown hbp _; have HO6 := Lib.hid hown; have BP6 := Lib.hid hbp; clear hown hbp)
      have B6 := Lib.hid (B5.out.trans BP6.out)
      rw [← BP6.out.cell (p := ⟨w.heap.size, 0, none⟩) hN] at n0
      rw [← BP6.out.cell (p := ⟨w.heap.size, 1, none⟩) hN] at n1
      rw [rounds_succ]
      go_wp2_with fail
      refine (KT.out _ _ (Rs.of_own HO6.out)).mono ?_
      rintro e w7 ⟨rfl, hb7⟩
      have B7 := Lib.hid (B6.out.trans (hb7.mono B6.out.size))
      clear hb7
      go_wp2
      go_ret
      exact ⟨rfl, B1.out.trans (B7.out.mono (by omega))⟩
end Go.Proofs.YtgmpenchojnihaaGreat
