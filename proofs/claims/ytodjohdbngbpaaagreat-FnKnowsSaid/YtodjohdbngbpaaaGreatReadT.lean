/-
  Contract of readTerm, and of impl.ParseFormula.
-/
import Derived.Test.YtodjohdbngbpaaaGreatRead
namespace Go.Proofs.YtodjohdbngbpaaaGreat
open Go.RowKit
open Go Go.Deep

/-- what follows the head of a term -/
def iTail (f k : Nat) (op n : Int) (r : List UInt8) : Option (Tm × List UInt8 × Nat) :=
  if usesI op = 0 then some (mkTm op n (.leaf 2 0) (.leaf 2 0), r, k + 1)
  else match iP f (k + 1) r with
  | none => none
  | some (a, r1, k1) =>
    if usesI op = 1 then some (mkTm op n a (.leaf 2 0), r1, k1)
    else match iP f k1 r1 with
    | none => none
    | some (b, r2, k2) => some (mkTm op n a b, r2, k2)
theorem iP_none {f k : Nat} {l : List UInt8} (h : headOf l = none) : iP (f + 1) k l = none := by
  simp only [iP, h]; split <;> rfl
theorem iP_head {f k : Nat} {l r : List UInt8} {op n : Int} (hk : ¬ k = 40) (h : headOf l = some (op, n, r)) : iP (f + 1) k l = iTail f k op n r := by
  simp only [iP, h]; rw [if_neg hk]; rfl
theorem iTail_0 {f k : Nat} {op n : Int} {r : List UInt8} (h : usesI op = 0) : iTail f k op n r = some (mkTm op n (.leaf 2 0) (.leaf 2 0), r, k + 1) := if_pos h
theorem iTail_n {f k : Nat} {op n : Int} {r : List UInt8} (h : ¬ usesI op = 0) (h1 : iP f (k + 1) r = none) : iTail f k op n r = none := by
  unfold iTail; rw [if_neg h, h1]
theorem iTail_1 {f k k1 : Nat} {op n : Int} {a : Tm} {r r1 : List UInt8} (h : usesI op = 1) (h1 : iP f (k + 1) r = some (a, r1, k1)) : iTail f k op n r = some (mkTm op n a (.leaf 2 0), r1, k1) := by
  unfold iTail; rw [if_neg (by omega), h1]; simp only []; rw [if_pos h]
theorem iTail_2n {f k k1 : Nat} {op n : Int} {a : Tm} {r r1 : List UInt8} (h : usesI op = 2) (h1 : iP f (k + 1) r = some (a, r1, k1)) (h2 : iP f k1 r1 = none) : iTail f k op n r = none := by
  unfold iTail; rw [if_neg (by omega), h1]; simp only []; rw [if_neg (by omega), h2]
theorem iTail_2 {f k k1 k2 : Nat} {op n : Int} {a b : Tm} {r r1 r2 : List UInt8} (h : usesI op = 2) (h1 : iP f (k + 1) r = some (a, r1, k1)) (h2 : iP f k1 r1 = some (b, r2, k2)) : iTail f k op n r = some (mkTm op n a b, r2, k2) := by
  unfold iTail; rw [if_neg (by omega), h1]; simp only []; rw [if_neg (by omega), h2]

theorem grown_late {w w1 w2 : World} {row : Option Nat} {B : Nat} (h : w.grownBy w1 row) (hb : Below B w1 w2) (hB : w.heap.size ≤ B) : w.grownBy w2 row :=
  ⟨hb.os.trans h.os, hb.tape.trans h.tape, hb.output.trans h.output, Nat.le_trans h.size hb.size, fun k hk hne => (hb.block k (by omega)).trans (h.block k hk hne)⟩

/-- what readTerm answers -/
def TermPost (b : Nat) (w : World) (o : Option (Tm × List UInt8 × Nat)) (e : Ending) (w' : World) : Prop :=
  ∃ l' k', Rd w' b l' k' ∧ w.grownBy w' (some b) ∧ match o with
    | some (t, r, k1) => l' = r ∧ k' = k1 ∧ e = .returned (.tuple #[tv t, .bool true])
    | none => e = .returned (.tuple #[.nilIface, .bool false])

set_option maxRecDepth 100000 in
set_option maxHeartbeats 16000000 in
theorem readTerm_any : ∀ (f b k : Nat) (l : List UInt8) (w : World), Rd w b l k → l.length ≤ maxLen → k ≤ 40 → 41 ≤ f + k → Calls Tryz.prog 55 #[.pointer (some ⟨b, 0, none⟩)] w (TermPost b w (iP f k l)) := by
  intro f
  induction f with
  | zero => intro b k l w h hl hk hf; omega
  | succ f ih =>
    intro b k l w h hl hk hf
    have hbl : b < w.heap.size := World.rowIs.lt h
    obtain ⟨c0, c1, f0, f1⟩ := h.cells
    have HR := Lib.hid h
    clear h
    have hz0 : (0 : Nat) + 1 ≤ maxLen := by decide
    have hz1 : (0 + 1) * 16 ≤ 140737488355328 := by decide
    have hy0 : (1 : Nat) + 1 ≤ maxLen := by decide
    have hy1 : (1 + 1) * 16 ≤ 140737488355328 := by decide
    by_cases h40 : k = 40
    · subst h40
      rw [show iP (f + 1) 40 l = none by simp [iP]]
      clear ih hf hl
      go_enter Tryz.func55, Tryz.ntmps55
      go_wp2
      go_returns
      exact ⟨l, 40, HR.out, World.grownBy.refl _ _, rfl⟩
    have hne : ((k : Int) == 40) = false := by simp; omega
    have hk0 : (0 : Int) ≤ (k : Int) := Int.natCast_nonneg _
    have R1 := Lib.hid (HR.out.setNodes (k + 1))
    have G1 := Lib.hid (grown_set1 w b 1 (.int .i64 ((k + 1 : Nat) : Int)))
    rw [show ((k + 1 : Nat) : Int) = (k : Int) + 1 by omega] at R1 G1
    have KH := Lib.hid (fun W h => readHead_any b l (k + 1) W h hl)
    have hs1 : (w.setCell ⟨b, 1, none⟩ (.int .i64 ((k : Int) + 1))).heap.size = w.heap.size := by simp [World.setCell]
    have HS1 := Lib.hid hs1
    clear hs1
    cases hh : headOf l with
    | none =>
      rw [iP_none hh]
      rw [hh] at KH
      clear ih hf hl hh
      go_enter Tryz.func55, Tryz.ntmps55
      go_wp2_with fail
      refine (KH.out _ R1.out).mono ?_
      rintro e w1 ⟨l1, hr1, hg1, rfl⟩
      have R2 := Lib.hid hr1; have G2 := Lib.hid (grown_trans G1.out hg1); clear hr1 hg1
      go_wp2
      go_returns
      exact ⟨l1, k + 1, R2.out, G2.out, rfl⟩
    | some p =>
      obtain ⟨op, n, r⟩ := p
      rw [iP_head h40 hh]
      rw [hh] at KH
      obtain ⟨ho1, ho9, _, _, hle⟩ := headOf_some hh
      have hrl : r.length ≤ maxLen := by
        have := congrArg List.length hle
        rw [List.length_append] at this
        omega
      clear hh hle
      have KC := Lib.hid (fun W => countParts_any op W)
      by_cases hu0 : usesI op = 0
      · have hop : op = 1 ∨ op = 2 := by have := op_kinds ho1 ho9; omega
        rw [iTail_0 hu0, mkTm_leaf hop]
        rw [hu0] at KC
        have KT := Lib.hid (fun v W => newTerm_0 op n v W hop)
        clear ih hf hl hu0 hop ho1 ho9 hrl
        go_enter Tryz.func55, Tryz.ntmps55
        go_wp2_with fail
        refine (KH.out _ R1.out).mono ?_
        rintro e w1 ⟨l1, hr1, hg1, rfl, rfl⟩
        have R2 := Lib.hid hr1; have G2 := Lib.hid (grown_trans G1.out hg1); clear hr1 hg1
        go_wp2_with fail
        refine (KC.out _).mono ?_
        rintro e w' ⟨rfl, rfl⟩
        go_wp2
        refine wp_loop_rounds 1 ?_
        rw [rounds_succ]
        go_wp2_with fail
        refine (KT.out _ _).mono ?_
        rintro e w' ⟨rfl, rfl⟩
        go_wp2
        go_returns
        exact ⟨_, _, R2.out, G2.out, rfl, rfl, rfl⟩
      have KR := fun W h => ih b (k + 1) r W h hrl (by omega) (by omega)
      cases hr : iP f (k + 1) r with
      | none =>
        rw [iTail_n hu0 hr]
        rw [hr] at KR
        have KR := Lib.hid KR
        by_cases hu1 : usesI op = 1
        · rw [hu1] at KC
          clear ih hf hl hu0 ho1 ho9 hrl hr hu1
          go_enter Tryz.func55, Tryz.ntmps55
          go_wp2_with fail
          refine (KH.out _ R1.out).mono ?_
          rintro e w1 ⟨l1, hr1, hg1, rfl, rfl⟩
          have R2 := Lib.hid hr1; have G2 := Lib.hid (grown_trans G1.out hg1); clear hr1 hg1
          go_wp2_with fail
          refine (KC.out _).mono ?_
          rintro e w' ⟨rfl, rfl⟩
          go_wp2
          refine wp_loop_rounds 2 ?_
          rw [rounds_succ]
          go_wp2_with fail
          refine (KR.out _ R2.out).mono ?_
          rintro e w2 ⟨l2, k2, hr2, hg2, rfl⟩
          have R3 := Lib.hid hr2; have G3 := Lib.hid (grown_trans G2.out hg2); clear hr2 hg2
          go_wp2
          go_returns
          exact ⟨l2, k2, R3.out, G3.out, rfl⟩
        · rw [show usesI op = 2 by have := usesI_le op; omega] at KC
          clear ih hf hl hu0 ho1 ho9 hrl hr hu1
          go_enter Tryz.func55, Tryz.ntmps55
          go_wp2_with fail
          refine (KH.out _ R1.out).mono ?_
          rintro e w1 ⟨l1, hr1, hg1, rfl, rfl⟩
          have R2 := Lib.hid hr1; have G2 := Lib.hid (grown_trans G1.out hg1); clear hr1 hg1
          go_wp2_with fail
          refine (KC.out _).mono ?_
          rintro e w' ⟨rfl, rfl⟩
          go_wp2
          refine wp_loop_rounds 3 ?_
          rw [rounds_succ]
          go_wp2_with fail
          refine (KR.out _ R2.out).mono ?_
          rintro e w2 ⟨l2, k2, hr2, hg2, rfl⟩
          have R3 := Lib.hid hr2; have G3 := Lib.hid (grown_trans G2.out hg2); clear hr2 hg2
          go_wp2
          go_returns
          exact ⟨l2, k2, R3.out, G3.out, rfl⟩
      | some p =>
        obtain ⟨A, r1, k1⟩ := p
        rw [hr] at KR
        by_cases hu1 : usesI op = 1
        · rw [iTail_1 hu1 hr]
          rw [hu1] at KC
          have KT : Hid (∀ v W, Rs W v [tv A] → Calls Tryz.prog 103 #[.int .i64 op, .int .i64 n, v] W fun e w' => e = .returned (tv (mkTm op n A (.leaf 2 0))) ∧ W = w') := Lib.hid (fun v W hv => by
            by_cases h3 : op = 3
            · subst h3; rw [mkTm_deny]; exact newTerm_3 n v A W hv
            · have hk5 : op = 5 ∨ op = 6 ∨ op = 7 ∨ op = 8 := by have := op_kinds ho1 ho9; omega
              rw [mkTm_know hk5]; exact newTerm_1 op n v A W (by omega) hv)
          obtain ⟨ty, pv, hx⟩ := tv_form A
          have KR := Lib.hid KR
          rw [hx] at KT
          have HX := Lib.hid hx
          clear ih hf hl hu0 ho1 ho9 hrl hr hu1
          clear hx
          go_enter Tryz.func55, Tryz.ntmps55
          go_wp2_with fail
          refine (KH.out _ R1.out).mono ?_
          rintro e w1 ⟨l1, hr1, hg1, rfl, rfl⟩
          have R2 := Lib.hid hr1; have G2 := Lib.hid (grown_trans G1.out hg1); clear hr1 hg1
          go_wp2_with fail
          refine (KC.out _).mono ?_
          rintro e w' ⟨rfl, rfl⟩
          go_wp2
          refine wp_loop_rounds 2 ?_
          rw [rounds_succ]
          go_wp2_with fail
          refine (KR.out _ R2.out).mono ?_
          rintro e w2 ⟨l2, k2, hr2, hg2, rfl, rfl, he⟩
          rw [HX.out] at he
          subst he
          have R3 := Lib.hid hr2; have G3 := Lib.hid (grown_trans G2.out hg2); clear hr2 hg2
          have hb2 : b < w2.heap.size := World.rowIs.lt R3.out
          go_wp2_with (at_builtin; refine wpList_push rfl _ _ 123 rfl 75 .nilIface 16 Tryz.underlying123 Tryz.infoTm rfl w2.heap.size w2 (.iface ty pv) (.slice none 0 0) 0 [] (World.ownsRow_nil _ _ _ _) rfl rfl rfl hz0 hz1 (Nat.le_refl _) ?_; intro v' w4 hown hbp _; have HO := Lib.hid hown; have BP := Lib.hid hbp; clear hown hbp)
          have R4 := Lib.hid (World.rowIs.of_block R3.out (BP.out.block b hb2))
          have G4 := Lib.hid (grown_trans G3.out (grown_below BP.out (some b)))
          rw [rounds_succ]
          go_wp2_with fail
          refine (KT.out _ _ (Rs.of_own HO.out)).mono ?_
          rintro e w' ⟨rfl, rfl⟩
          go_wp2
          go_returns
          exact ⟨_, _, R4.out, G4.out, rfl, rfl, rfl⟩
        · have hu2 : usesI op = 2 := by have := usesI_le op; omega
          rw [hu2] at KC
          have hop : op = 4 ∨ op = 9 := by have := op_kinds ho1 ho9; omega
          obtain ⟨wa, hra, hka, hk1⟩ := iP_some _ _ _ _ _ _ (by omega) hr
          have hr1l : r1.length ≤ maxLen := by
            have := congrArg List.length hra
            rw [List.length_append] at this
            omega
          have hsz := A.size_pos
          have KS := fun W h => ih b k1 r1 W h hr1l hk1 (by omega)
          cases hr2 : iP f k1 r1 with
          | none =>
            rw [iTail_2n hu2 hr hr2]
            rw [hr2] at KS
            have KS := Lib.hid KS
            obtain ⟨ty, pv, hx⟩ := tv_form A
            have KR := Lib.hid KR
            have HX := Lib.hid hx
            clear ih hf hl hu0 ho1 ho9 hrl hr hu1 hu2 hop wa hra hka hk1 hr1l hsz hr2 hx
            go_enter Tryz.func55, Tryz.ntmps55
            go_wp2_with fail
            refine (KH.out _ R1.out).mono ?_
            rintro e w1 ⟨l1, hr1, hg1, rfl, rfl⟩
            have R2 := Lib.hid hr1; have G2 := Lib.hid (grown_trans G1.out hg1); clear hr1 hg1
            go_wp2_with fail
            refine (KC.out _).mono ?_
            rintro e w' ⟨rfl, rfl⟩
            go_wp2
            refine wp_loop_rounds 3 ?_
            rw [rounds_succ]
            go_wp2_with fail
            refine (KR.out _ R2.out).mono ?_
            rintro e w2 ⟨l2, k2, hr2, hg2, rfl, rfl, he⟩
            rw [HX.out] at he
            subst he
            have R3 := Lib.hid hr2; have G3 := Lib.hid (grown_trans G2.out hg2); clear hr2 hg2
            have hb2 : b < w2.heap.size := World.rowIs.lt R3.out
            go_wp2_with (at_builtin; refine wpList_push rfl _ _ 123 rfl 75 .nilIface 16 Tryz.underlying123 Tryz.infoTm rfl w2.heap.size w2 (.iface ty pv) (.slice none 0 0) 0 [] (World.ownsRow_nil _ _ _ _) rfl rfl rfl hz0 hz1 (Nat.le_refl _) ?_; intro v' w4 hown hbp _; have HO := Lib.hid hown; have BP := Lib.hid hbp; clear hown hbp)
            have R4 := Lib.hid (World.rowIs.of_block R3.out (BP.out.block b hb2))
            have G4 := Lib.hid (grown_trans G3.out (grown_below BP.out (some b)))
            rw [rounds_succ]
            go_wp2_with fail
            refine (KS.out _ R4.out).mono ?_
            rintro e w5 ⟨l5, k5, hr5, hg5, rfl⟩
            have R5 := Lib.hid hr5; have G5 := Lib.hid (grown_trans G4.out hg5); clear hr5 hg5
            go_wp2
            go_returns
            exact ⟨l5, k5, R5.out, G5.out, rfl⟩
          | some p =>
            obtain ⟨D, r2, k2⟩ := p
            rw [iTail_2 hu2 hr hr2]
            rw [hr2] at KS
            have KT := Lib.hid (fun v W hv => newTerm_2 op n v A D W hop hv)
            rw [mkTm_joint hop]
            obtain ⟨ty, pv, hx⟩ := tv_form A
            have KR := Lib.hid KR
            obtain ⟨ty', pv', hx'⟩ := tv_form D
            have KS := Lib.hid KS
            rw [hx, hx'] at KT
            have HX := Lib.hid hx
            have HX' := Lib.hid hx'
            clear ih hf hl hu0 ho1 ho9 hrl hr hu1 hu2 hop wa hra hka hk1 hr1l hsz hr2
            clear hx hx'
            go_enter Tryz.func55, Tryz.ntmps55
            go_wp2_with fail
            refine (KH.out _ R1.out).mono ?_
            rintro e w1 ⟨l1, hr1, hg1, rfl, rfl⟩
            have R2 := Lib.hid hr1; have G2 := Lib.hid (grown_trans G1.out hg1); clear hr1 hg1
            go_wp2_with fail
            refine (KC.out _).mono ?_
            rintro e w' ⟨rfl, rfl⟩
            go_wp2
            refine wp_loop_rounds 3 ?_
            rw [rounds_succ]
            go_wp2_with fail
            refine (KR.out _ R2.out).mono ?_
            rintro e w2 ⟨l2, k2, hr2, hg2, rfl, rfl, he⟩
            rw [HX.out] at he
            subst he
            have R3 := Lib.hid hr2; have G3 := Lib.hid (grown_trans G2.out hg2); clear hr2 hg2
            have hb2 : b < w2.heap.size := World.rowIs.lt R3.out
            go_wp2_with (at_builtin; refine wpList_push rfl _ _ 123 rfl 75 .nilIface 16 Tryz.underlying123 Tryz.infoTm rfl w2.heap.size w2 (.iface ty pv) (.slice none 0 0) 0 [] (World.ownsRow_nil _ _ _ _) rfl rfl rfl hz0 hz1 (Nat.le_refl _) ?_; intro v' w4 hown hbp _; have HO := Lib.hid hown; have BP := Lib.hid hbp; clear hown hbp)
            have R4 := Lib.hid (World.rowIs.of_block R3.out (BP.out.block b hb2))
            have G4 := Lib.hid (grown_trans G3.out (grown_below BP.out (some b)))
            rw [rounds_succ]
            go_wp2_with fail
            refine (KS.out _ R4.out).mono ?_
            rintro e w5 ⟨l5, k5, hr5, hg5, rfl, rfl, he⟩
            rw [HX'.out] at he
            subst he
            have R5 := Lib.hid hr5; have G5 := Lib.hid (grown_trans G4.out hg5)
            have hz24 := BP.out.size
            have hz02 := G3.out.size
            have hz25 : w2.heap.size ≤ w5.heap.size := Nat.le_trans hz24 hg5.size
            have HO5 := Lib.hid (HO.out.kept hg5 (.inr (fun e => by have := (HO.out.lt b e).1; omega)))
            clear hr5 hg5
            go_wp2_with (at_builtin; refine wpList_push rfl _ _ 123 rfl 75 .nilIface 16 Tryz.underlying123 Tryz.infoTm rfl w2.heap.size w5 (.iface ty' pv') (v') 1 [.iface ty pv] (HO5.out) rfl rfl rfl hy0 hy1 hz25 ?_; intro v'' w6 hown hbp _; have HO6 := Lib.hid hown; have BP6 := Lib.hid hbp; clear hown hbp)
            have R6 := Lib.hid (World.rowIs.of_block R5.out (BP6.out.block b hb2))
            have G6 := Lib.hid (grown_late G5.out BP6.out hz02)
            rw [rounds_succ]
            go_wp2_with fail
            refine (KT.out _ _ (Rs.of_own HO6.out)).mono ?_
            rintro e w7 ⟨rfl, hb7⟩
            have R7 := Lib.hid (World.rowIs.of_block R6.out (hb7.block b (World.rowIs.lt R6.out)))
            have G7 := Lib.hid (grown_trans G6.out (grown_below hb7 (some b))); clear hb7
            go_wp2
            go_returns
            exact ⟨_, _, R7.out, G7.out, rfl, rfl, rfl⟩
end Go.Proofs.YtodjohdbngbpaaaGreat
