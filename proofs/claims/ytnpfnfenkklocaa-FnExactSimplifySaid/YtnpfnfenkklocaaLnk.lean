/-
  Contract of impl.linkNode: the linked formula of a node out of those of the nodes that it uses. Condition: the node is right where it stands, and its parts have at most 40 nodes.
-/
import Derived.Test.YtnpfnfenkklocaaLtr
namespace Go.Proofs.Ytnpfnfenkklocaa
open Go.RowKit Go.WideShapes
open Go Go.Deep
set_option linter.unusedSimpArgs false

theorem Try.infoLk : (Try.prog.info? 45).map (fun i => (i.zero, i.size, i.bytes)) = some (some (.pointer none), 1, 8) := by kernel_rfl
theorem Rv.of_row {lo base : Nat} {w : World} {e : TypeId} {v : Value} {n : Nat} {xs : List Value} (h : w.ownsRow base e 1 v n xs) (hl : lo ≤ base) : Rv lo w.heap.size w v xs := (Rv.of_own h (fun k hk => (h.lt k hk).2)).wide hl (Nat.le_refl _)
/-- what stands at the places of a list of linked formulas -/
def MadeAt (lo : Nat) (w : World) (mb i : Nat) (T : Nat → Tm) : Prop := mb < w.heap.size ∧ ∀ j, j < i → ∃ p, w.cell? ⟨mb, j, none⟩ = some p ∧ Lk lo w (T j) p
theorem MadeAt.below {lo : Nat} {w w' : World} {mb i : Nat} {T : Nat → Tm} (h : MadeAt lo w mb i T) (hb : Below w.heap.size w w') : MadeAt lo w' mb i T :=
  ⟨Nat.lt_of_lt_of_le h.1 hb.size, fun j hj => by
    obtain ⟨p, h1, h2⟩ := h.2 j hj
    exact ⟨p, (hb.cell (p := ⟨mb, j, none⟩) h.1).trans h1, h2.below hb⟩⟩

set_option maxRecDepth 100000 in
set_option maxHeartbeats 16000000 in
theorem linkNode_any (lo : Nat) (op n xa xb : Int) (i : Nat) (hx : okAt ⟨op, n, xa, xb⟩ i = true) (mb ml : Nat) (hml : i < ml) (_hmx : ml ≤ 40) (T : Nat → Tm) (hT : ∀ j, j < i → (T j).size ≤ 40) (w : World) (hlo : lo ≤ w.heap.size) (hM : MadeAt lo w mb i T) :
    Calls Try.prog 55 #[.agg #[.int .i64 op, .int .i64 n, .int .i64 xa, .int .i64 xb], .slice (some ⟨mb, 0, none⟩) ml ml] w (LkAns lo w (mkTm op n (T xa.toNat) (T xb.toNat))) := by
  have hp := okAt_parts hx
  simp only [] at hp
  have hz0 : (0 : Nat) + 1 ≤ maxLen := by decide
  have hz1 : (0 + 1) * 8 ≤ 140737488355328 := by decide
  have hy1 : (1 : Nat) + 1 ≤ maxLen := by decide
  have hy2 : (1 + 1) * 8 ≤ 140737488355328 := by decide
  have hml0 : (0 : Int) ≤ (ml : Int) := Int.natCast_nonneg _
  have KB := Lib.hid (fun W => usedBy_any ⟨op, n, xa, xb⟩ W (fun h => (hp.2.1 h).1) (fun h => (hp.2.2.1 h).1))
  have e0 : usesI op = 0 → usedOf ⟨op, n, xa, xb⟩ = [] := fun h => by unfold usedOf; rw [h]; rfl
  have e1 : usesI op = 1 → usedOf ⟨op, n, xa, xb⟩ = [xa.toNat] := fun h => by unfold usedOf; rw [h]; rfl
  have e2 : usesI op = 2 → usedOf ⟨op, n, xa, xb⟩ = [xa.toNat, xb.toNat] := fun h => by unfold usedOf; rw [h]; rfl
  have HLO := Lib.hid hlo
  by_cases hu : usesI op = 0
  · have ho : op = 1 ∨ op = 2 := by have := op_kinds hp.1.1 hp.1.2.1; omega
    rw [mkTm_leaf ho]
    rw [e0 hu] at KB
    have KT := Lib.hid (fun sl W h hr => newLk_0 lo op n sl W h hr)
    unfold LkAns at KT
    clear e0 e1 e2 hp ho hu hx hT hM hz0 hz1 hy1 hy2
    go_enter Try.func55, Try.ntmps55
    go_wp2_with fail
    refine (KB.out _).mono ?_
    rintro e w1 ⟨g, rfl, hg1, hg2, _, hb1⟩
    have n0 := node_kept' hb1 0
    have n1 := node_kept' hb1 1
    have B1 := Lib.hid (((Below.refl w.heap.size w).alloc (Nat.le_refl _) _).trans (hb1.mono (by simp)))
    clear hb1
    simp at n0 n1
    go_wp2
    refine wp_loop_rounds 1 ?_
    rw [rounds_succ]
    go_wp2_with fail
    refine (KT.out _ _ (Nat.le_trans HLO.out B1.out.size) (Rv.nil _ _ _)).mono ?_
    rintro e w2 ⟨b2, rfl, hl2, hb2⟩
    have H2 := Lib.hid hl2
    have B2 := Lib.hid (B1.out.trans (hb2.mono B1.out.size))
    clear hl2 hb2 n0 n1
    go_wp2
    go_ret
    exact ⟨_, rfl, H2.out, B2.out⟩
  by_cases hu1 : usesI op = 1
  · have ha := hp.2.1 (by omega)
    have hop : op = 3 ∨ (op = 5 ∨ op = 6 ∨ op = 7 ∨ op = 8) := by have := op_kinds hp.1.1 hp.1.2.1; omega
    have hn0 : op = 3 → n = 0 := fun h => by subst h; have h1 := hp.1.2.2; have : limN 3 = 1 := rfl; omega
    rw [e1 hu1] at KB
    obtain ⟨k, rfl⟩ : ∃ k : Nat, xa = k := ⟨xa.toNat, by omega⟩
    rw [Int.toNat_natCast] at *
    have hki : k < i := by omega
    have hk0 : (0 : Int) ≤ (k : Int) := Int.natCast_nonneg _
    have hkm : (k : Int) < (ml : Int) := by omega
    have hTs := hT k hki
    have hMk := Lib.hid (fun W (h : Below w.heap.size w W) => (hM.below h).2 k hki)
    have e3 : mkTm op n (T k) (T xb.toNat) = if op = 3 then .deny (T k) else .know op n (T k) := by
      rcases hop with rfl | h
      · rw [mkTm_deny]; rfl
      · rw [if_neg (by omega), mkTm_know h]
    rw [e3]
    have KT : Hid (∀ sl u W, lo ≤ W.heap.size → Rv lo W.heap.size W sl [u] → Lk lo W (T k) u → Calls Try.prog 78 #[.int .i64 op, .int .i64 n, sl] W (LkAns lo W (if op = 3 then .deny (T k) else .know op n (T k)))) := Lib.hid (fun sl u W h1 h2 h3 => by
      refine (newLk_1 lo op n sl u (T k) W h1 h2 h3 (by omega)).mono fun e w' ⟨b, he, ⟨h4, h5⟩, hb⟩ => ⟨b, he, ?_, hb⟩
      rcases hop with rfl | h'
      · rw [if_pos rfl]; rw [hn0 rfl] at h4; exact ⟨u, h4, h5⟩
      · rw [if_neg (by omega)]; exact ⟨u, h4, h5⟩)
    unfold LkAns at KT
    clear e0 e1 e2 e3 hp hu hu1 hki ha hop hn0 hx hT hM hy1 hy2 hTs
    generalize (if op = 3 then Tm.deny (T k) else .know op n (T k)) = R at *
    generalize T k = Tk at *
    go_enter Try.func55, Try.ntmps55
    go_wp2_with fail
    refine (KB.out _).mono ?_
    rintro e w1 ⟨g, rfl, hg1, hg2, hgc, hb1⟩
    have n0 := node_kept' hb1 0
    have n1 := node_kept' hb1 1
    have B1 := Lib.hid (((Below.refl w.heap.size w).alloc (Nat.le_refl _) _).trans (hb1.mono (by simp)))
    have q0 : w1.cell? ⟨g, 0, none⟩ = some (.int .i64 k) := hgc 0 (by simp)
    have hN : w.heap.size < w1.heap.size := by have := hb1.size; simp at this; omega
    clear hb1 hgc
    simp at n0 n1
    obtain ⟨u, m0, hu⟩ := hMk.out _ B1.out
    obtain ⟨bu, rfl, -⟩ := hu.ptr
    have HU := Lib.hid hu
    clear hu
    go_wp2
    refine wp_loop_rounds 2 ?_
    rw [rounds_succ]
    go_wp2_with (at_builtin; refine wpList_push rfl _ _ 68 rfl 45 (.pointer none) 8 Try.underlying68 Try.infoLk rfl w1.heap.size w1 (.pointer (some ⟨bu, 0, none⟩)) (.slice none 0 0) 0 [] (World.ownsRow_nil _ _ _ _) rfl rfl rfl hz0 hz1 (Nat.le_refl _) ?_; intro v' w4 hown hbp _; have HO := Lib.hid hown; have BP := Lib.hid hbp; clear hown hbp)
    clear q0 m0
    have B4 := Lib.hid (B1.out.trans (BP.out.mono B1.out.size))
    have hs4 := B4.out.size
    rw [← BP.out.cell (p := ⟨w.heap.size, 0, none⟩) hN] at n0
    rw [← BP.out.cell (p := ⟨w.heap.size, 1, none⟩) hN] at n1
    rw [rounds_succ]
    go_wp2_with fail
    refine (KT.out _ _ _ (Nat.le_trans HLO.out hs4) (Rv.of_row HO.out (Nat.le_trans HLO.out B1.out.size)) (HU.out.below BP.out)).mono ?_
    rintro e w5 ⟨b5, rfl, hl5, hb5⟩
    have H5 := Lib.hid hl5
    have B5 := Lib.hid (B4.out.trans (hb5.mono B4.out.size))
    clear hl5 hb5 n0 n1
    go_wp2
    go_ret
    exact ⟨_, rfl, H5.out, B5.out⟩
  · have hu2 : usesI op = 2 := by have := usesI_le op; omega
    have ho : op = 4 ∨ op = 9 := by have := op_kinds hp.1.1 hp.1.2.1; omega
    have hn0 : n = 0 := by have h1 := hp.1.2.2; have := limN_48 ho; omega
    subst hn0
    have ha := hp.2.1 (by omega)
    have hb' := hp.2.2.1 hu2
    rw [mkTm_joint ho]
    rw [e2 hu2] at KB
    obtain ⟨k, rfl⟩ : ∃ k : Nat, xa = k := ⟨xa.toNat, by omega⟩
    obtain ⟨k', rfl⟩ : ∃ k : Nat, xb = k := ⟨xb.toNat, by omega⟩
    rw [Int.toNat_natCast, Int.toNat_natCast] at *
    have hki : k < i := by omega
    have hki' : k' < i := by omega
    have hk0 : (0 : Int) ≤ (k : Int) := Int.natCast_nonneg _
    have hkm : (k : Int) < (ml : Int) := by omega
    have hk0' : (0 : Int) ≤ (k' : Int) := Int.natCast_nonneg _
    have hkm' : (k' : Int) < (ml : Int) := by omega
    have hTs := hT k hki
    have hTs' := hT k' hki'
    have hMk := Lib.hid (fun W (h : Below w.heap.size w W) => (hM.below h).2 k hki)
    have hMk' := Lib.hid (fun W (h : Below w.heap.size w W) => (hM.below h).2 k' hki')
    have hM1 := Lib.hid (fun W (h : Below w.heap.size w W) => hM.below h)
    have KT : Hid (∀ sl u u' W, lo ≤ W.heap.size → Rv lo W.heap.size W sl [u, u'] → Lk lo W (T k) u → Lk lo W (T k') u' → Calls Try.prog 78 #[.int .i64 op, .int .i64 0, sl] W (LkAns lo W (.joint op (T k) (T k')))) := Lib.hid (fun sl u u' W h1 h2 h3 h3' =>
      (newLk_2 lo op 0 sl u u' (T k) (T k') W h1 h2 h3 h3' (by omega) (by omega)).mono fun e w' ⟨b, he, ⟨h4, h5, h6⟩, hb⟩ => ⟨b, he, ⟨u, u', h4, h5, h6⟩, hb⟩)
    unfold LkAns at KT
    clear e0 e1 e2 hp hu hu1 hu2 hki hki' ha hb' ho hx hT hM hTs hTs'
    generalize Tm.joint op (T k) (T k') = R at *
    generalize T k = Tk at *
    generalize T k' = Tk' at *
    go_enter Try.func55, Try.ntmps55
    go_wp2_with fail
    refine (KB.out _).mono ?_
    rintro e w1 ⟨g, rfl, hg1, hg2, hgc, hb1⟩
    have n0 := node_kept' hb1 0
    have n1 := node_kept' hb1 1
    have B1 := Lib.hid (((Below.refl w.heap.size w).alloc (Nat.le_refl _) _).trans (hb1.mono (by simp)))
    have q0 : w1.cell? ⟨g, 0, none⟩ = some (.int .i64 k) := hgc 0 (by simp)
    have q1 : w1.cell? ⟨g, 1, none⟩ = some (.int .i64 k') := hgc 1 (by simp)
    have hN : w.heap.size < w1.heap.size := by have := hb1.size; simp at this; omega
    clear hb1 hgc
    simp at n0 n1
    obtain ⟨u, m0, hu⟩ := hMk.out _ B1.out
    obtain ⟨bu, rfl, -⟩ := hu.ptr
    have HU := Lib.hid hu
    clear hu
    have hmbl := (hM1.out _ B1.out).1
    obtain ⟨u', m1', hu'⟩ := hMk'.out _ B1.out
    obtain ⟨bu', rfl, -⟩ := hu'.ptr
    have HU' := Lib.hid hu'
    clear hu'
    go_wp2
    refine wp_loop_rounds 3 ?_
    rw [rounds_succ]
    go_wp2_with (at_builtin; refine wpList_push rfl _ _ 68 rfl 45 (.pointer none) 8 Try.underlying68 Try.infoLk rfl w1.heap.size w1 (.pointer (some ⟨bu, 0, none⟩)) (.slice none 0 0) 0 [] (World.ownsRow_nil _ _ _ _) rfl rfl rfl hz0 hz1 (Nat.le_refl _) ?_; intro v' w4 hown hbp _; have HO := Lib.hid hown; have BP := Lib.hid hbp; clear hown hbp)
    clear q0 m0
    have B4 := Lib.hid (B1.out.trans (BP.out.mono B1.out.size))
    have hs14 := BP.out.size
    rw [← BP.out.cell (p := ⟨w.heap.size, 0, none⟩) hN] at n0
    rw [← BP.out.cell (p := ⟨w.heap.size, 1, none⟩) hN] at n1
    rw [← BP.out.cell (p := ⟨g, 1, none⟩) hg1] at q1
    have m1 := (BP.out.cell (p := ⟨mb, k', none⟩) hmbl).trans m1'
    rw [rounds_succ]
    go_wp2_with (at_builtin; refine wpList_push rfl _ _ 68 rfl 45 (.pointer none) 8 Try.underlying68 Try.infoLk rfl w1.heap.size w4 (.pointer (some ⟨bu', 0, none⟩)) v' 1 [.pointer (some ⟨bu, 0, none⟩)] HO.out rfl rfl rfl hy1 hy2 hs14 ?_; intro v'' w6 hown hbp hgr; have HO6 := Lib.hid hown; have BP6 := Lib.hid hbp; have HG := Lib.hid hgr; clear hown hbp hgr)
    clear q1 m1 m1'
    have B6 := Lib.hid (B4.out.trans (BP6.out.mono B1.out.size))
    have hs6 := B6.out.size
    rw [← BP6.out.cell (p := ⟨w.heap.size, 0, none⟩) hN] at n0
    rw [← BP6.out.cell (p := ⟨w.heap.size, 1, none⟩) hN] at n1
    rw [rounds_succ]
    have B16 := Lib.hid (BP.out.trans BP6.out)
    go_wp2_with fail
    refine (KT.out _ _ _ _ (Nat.le_trans HLO.out hs6) (Rv.of_row HO6.out (Nat.le_trans HLO.out B1.out.size)) (HU.out.below B16.out) (HU'.out.below B16.out)).mono ?_
    rintro e w7 ⟨b7, rfl, hl7, hb7⟩
    have H7 := Lib.hid hl7
    have B7 := Lib.hid (B6.out.trans (hb7.mono B6.out.size))
    clear hl7 hb7 n0 n1
    go_wp2
    go_ret
    exact ⟨_, rfl, H7.out, B7.out⟩
end Go.Proofs.Ytnpfnfenkklocaa
