/-
  Contract of layOut, the walk.
-/
import Derived.Test.YtodjohdbngbpaaaGreatZTmx
namespace Go.Proofs.YtodjohdbngbpaaaGreat
open Go.RowKit
open Go Go.Deep

theorem last_row (w : World) : (w.alloc (.cells #[.int .i64 0, .int .i64 0] 180)).rowIs w.heap.size 180 2 (fun _ => .int .i64 0) :=
  World.rowIs_alloc w #[.int .i64 0, .int .i64 0] 180 _ (fun i hi => by
    have hi : i < 2 := hi
    have : i = 0 ∨ i = 1 := by omega
    rcases this with rfl | rfl <;> rfl)
/-- what layOut answers -/
def LayPost (base : Nat) (w : World) (n : Nat) (ys : List Nd) (e : Ending) (w' : World) : Prop :=
  ∃ v', e = .returned v' ∧ w'.ownsRow base 112 4 v' n (ndCells ys) ∧ Below base w w' ∧ Keep w w'

theorem lay_end {w w2 w3 w9 : World} {base n : Nat} {v v' : Value} {ys : List Nd} {x : Nd} (hB : Below base w w2) (hK : Keep w w2) (h23 : Below w2.heap.size w2 w3) (O2 : w2.ownsRow base 112 4 v n (ndCells ys))
    (HO : w9.ownsRow base 112 4 v' (n + 1) (ndCells ys ++ [.int .i64 x.op, .int .i64 x.n, .int .i64 x.a, .int .i64 x.b])) (BP : Below base w3 w9) (GR : w3.grownBy w9 v.ownBlock) (hb : base ≤ w2.heap.size) :
    w9.ownsRow base 112 4 v' (n + 1) (ndCells (ys ++ [x])) ∧ Below base w w9 ∧ Keep w w9 :=
  ⟨by rw [ndCells_app]; exact HO, (hB.trans (h23.mono hb)).trans BP, (hK.trans (Keep.of_below h23)).trans (Keep.of_grown (own_below O2 h23 (Nat.le_refl _)) GR)⟩

set_option maxRecDepth 100000 in
set_option maxHeartbeats 16000000 in
theorem layOut_any : ∀ (t : Tm) (w : World) (v : Value) (n : Nat) (xs : List Nd) (base : Nat), n + t.size ≤ 200 → w.ownsRow base 112 4 v n (ndCells xs) → base ≤ w.heap.size →
    Calls Tryz.prog 106 #[v, tv t] w (LayPost base w (n + t.size) (xs ++ lay n t)) := by
  intro t
  induction t with
  | leaf op k =>
    intro w v n xs base hs hown hbase
    obtain ⟨va, vc, rfl, _, _⟩ := own_shape' hown
    have HO := Lib.hid hown
    have P := Lib.hid (fun W => leafParts_any op k W)
    have NO := Lib.hid (fun W => nodeOf_any (.leaf op k) W)
    have hs' : n ≤ 199 := by simp only [Tm.size] at hs; omega
    clear hown hs
    unfold tv
    go_enter Tryz.func106, Tryz.ntmps106
    go_wp2_with fail
    refine (P.out _).mono ?_
    rintro e w1 ⟨rfl, hb1⟩
    have R1 := Lib.hid ((last_row w).of_block (hb1.block w.heap.size (by simp)))
    have B1 := Lib.hid (((Below.refl w.heap.size w).alloc (Nat.le_refl _) _).trans (hb1.mono (by simp))); clear hb1
    go_wp2
    refine wp_loop_rounds 1 ?_
    rw [rounds_succ]
    go_wp2_with fail
    refine (NO.out _).mono ?_
    rintro e w2 ⟨rfl, hb2⟩
    have R2 := Lib.hid (R1.out.of_block (hb2.block w.heap.size R1.out.lt))
    have B2 := Lib.hid (B1.out.trans (hb2.mono B1.out.size)); clear hb2
    have O2 := Lib.hid (own_below HO.out B2.out (Nat.le_refl _))
    have q0 := R2.out.cell (i := 0) (by decide)
    have q1 := R2.out.cell (i := 1) (by decide)
    have hlt := R2.out.lt
    have hsz := B2.out.size
    unfold Nd.v
    simp only [Tm.op, Tm.num]
    go_wp2_with (at_builtin; refine wpList_push4 rfl _ _ 28 rfl 112 (.agg #[.int .i64 0, .int .i64 0, .int .i64 0, .int .i64 0]) 32 Tryz.underlying28 Tryz.infoNd rfl base _ _ _ _ _ (.slice va n vc) _ _ (by exact own_below O2.out (by go_grown) (Nat.le_refl _)) rfl _ rfl (by simp) rfl rfl rfl rfl (by unfold maxLen; omega) (by omega) (by simp; omega) ?_; intro v' w9 hown hbp hgr; have HO9 := Lib.hid hown; have BP9 := Lib.hid hbp; have GR9 := Lib.hid hgr; clear hown hbp hgr)
    go_ret
    exact ⟨v', rfl, lay_end (x := ⟨op, k, 0, 0⟩) (B2.out.mono hbase) (Keep.of_below B2.out) (by go_grown) O2.out HO9.out BP9.out GR9.out (by omega)⟩
  | deny a ih =>
    intro w v n xs base hs hown hbase
    obtain ⟨va, vc, rfl, _, _⟩ := own_shape' hown
    have HO := Lib.hid hown
    have P := Lib.hid (fun W => denyParts_any a W)
    have NO := Lib.hid (fun W => nodeOf_any (Tm.deny a) W)
    have hsz : n + a.size ≤ 199 := by simp only [Tm.size] at hs; omega
    have hsp := a.size_pos
    have IH := fun W (ho : W.ownsRow base 112 4 (.slice va n vc) n (ndCells xs)) hb => ih W (.slice va n vc) n xs base (by omega) ho hb
    have e1 : n + (Tm.deny a).size = n + a.size + 1 := rfl
    have e2 : xs ++ lay n (Tm.deny a) = xs ++ lay n a ++ [⟨3, 0, ((n + a.size : Nat) : Int) - 1, 0⟩] := by simp [lay]
    rw [e1, e2]
    clear e1 e2 ih hown hs
    have hs1 : 1 ≤ n + a.size := by omega
    generalize n + a.size = s at *
    generalize xs ++ lay n a = ys at *
    have KI := Lib.hid IH
    clear IH hsp
    have hsi : (1 : Int) ≤ (s : Int) := by omega
    unfold tv
    go_enter Tryz.func106, Tryz.ntmps106
    go_wp2_with fail
    refine (P.out _).mono ?_
    rintro e w1 ⟨vp, rfl, hp, hb1⟩
    obtain ⟨g, rfl, hg1, hg2, hc⟩ := hp.at0
    have R1 := Lib.hid ((last_row w).of_block (hb1.block w.heap.size (by simp)))
    have B1 := Lib.hid (((Below.refl w.heap.size w).alloc (Nat.le_refl _) _).trans (hb1.mono (by simp))); clear hb1 hp
    have O1 := Lib.hid (own_below HO.out B1.out (Nat.le_refl _))
    have hz1 := B1.out.size
    go_wp2
    refine wp_loop_rounds 2 ?_
    rw [rounds_succ]
    go_wp2_with fail
    refine (KI.out _ O1.out (by omega)).mono ?_
    rintro e w3 ⟨v3, rfl, ho3, hb3, hk3⟩
    have R3 := Lib.hid (hk3.row R1.out (by decide))
    have B3 := Lib.hid ((B1.out.mono hbase).trans hb3)
    have K3 := Lib.hid ((Keep.of_below B1.out).trans hk3)
    obtain ⟨va3, vc3, rfl, _, _⟩ := own_shape' ho3
    have O3 := Lib.hid ho3
    clear hb3 hk3 ho3 hc
    have q0 := R3.out.cell (i := 0) (by decide)
    have q1 := R3.out.cell (i := 1) (by decide)
    have f0 := R3.out.frozen 0
    have O4 := Lib.hid (own_setOther O3.out R3.out (by decide) 0 (.int .i64 ((s : Int) - 1)))
    have R4 := Lib.hid (R3.out.set 0 (.int .i64 ((s : Int) - 1)))
    have B4 := Lib.hid (B3.out.setCell (p := ⟨w.heap.size, 0, none⟩) hbase (.int .i64 ((s : Int) - 1)))
    have K4 := Lib.hid (keep_setCell K3.out (Nat.le_refl _) 0 (.int .i64 ((s : Int) - 1)))
    go_wp2
    clear q0 q1 f0
    generalize w3.setCell ⟨w.heap.size, 0, none⟩ (.int .i64 ((s : Int) - 1)) = w4 at *
    rw [rounds_succ]
    go_wp2_with fail
    refine (NO.out _).mono ?_
    rintro e w5 ⟨rfl, hb5⟩
    have R5 := Lib.hid (R4.out.of_block (hb5.block w.heap.size R4.out.lt))
    have hz4 := B4.out.size
    have B5 := Lib.hid (B4.out.trans (hb5.mono (by omega)))
    have K5 := Lib.hid (K4.out.trans (Keep.of_below hb5))
    have O5 := Lib.hid (own_below O4.out hb5 (Nat.le_refl _))
    clear hb5
    have q0 : w5.cell? ⟨w.heap.size, 0, none⟩ = some (.int .i64 ((s : Int) - 1)) := R5.out.cell (i := 0) (by decide)
    have q1 : w5.cell? ⟨w.heap.size, 1, none⟩ = some (.int .i64 0) := R5.out.cell (i := 1) (by decide)
    have hlt := R5.out.lt
    have hz5 := B5.out.size
    unfold Nd.v
    simp only [Tm.op, Tm.num]
    go_wp2_with (at_builtin; refine wpList_push4 rfl _ _ 28 rfl 112 (.agg #[.int .i64 0, .int .i64 0, .int .i64 0, .int .i64 0]) 32 Tryz.underlying28 Tryz.infoNd rfl base _ _ _ _ _ (.slice va3 s vc3) _ _ (by exact own_below O5.out (by go_grown) (Nat.le_refl _)) rfl _ rfl (by simp) rfl rfl rfl rfl (by unfold maxLen; omega) (by omega) (by simp; omega) ?_; intro v' w9 hown hbp hgr; have HO9 := Lib.hid hown; have BP9 := Lib.hid hbp; have GR9 := Lib.hid hgr; clear hown hbp hgr)
    go_ret
    exact ⟨v', rfl, lay_end (x := ⟨3, 0, (s : Int) - 1, 0⟩) B5.out K5.out (by go_grown) O5.out HO9.out BP9.out GR9.out (by omega)⟩
  | know op k a ih =>
    intro w v n xs base hs hown hbase
    obtain ⟨va, vc, rfl, _, _⟩ := own_shape' hown
    have HO := Lib.hid hown
    have P := Lib.hid (fun W => knowParts_any op k a W)
    have NO := Lib.hid (fun W => nodeOf_any (Tm.know op k a) W)
    have hsz : n + a.size ≤ 199 := by simp only [Tm.size] at hs; omega
    have hsp := a.size_pos
    have IH := fun W (ho : W.ownsRow base 112 4 (.slice va n vc) n (ndCells xs)) hb => ih W (.slice va n vc) n xs base (by omega) ho hb
    have e1 : n + (Tm.know op k a).size = n + a.size + 1 := rfl
    have e2 : xs ++ lay n (Tm.know op k a) = xs ++ lay n a ++ [⟨op, k, ((n + a.size : Nat) : Int) - 1, 0⟩] := by simp [lay]
    rw [e1, e2]
    clear e1 e2 ih hown hs
    have hs1 : 1 ≤ n + a.size := by omega
    generalize n + a.size = s at *
    generalize xs ++ lay n a = ys at *
    have KI := Lib.hid IH
    clear IH hsp
    have hsi : (1 : Int) ≤ (s : Int) := by omega
    unfold tv
    go_enter Tryz.func106, Tryz.ntmps106
    go_wp2_with fail
    refine (P.out _).mono ?_
    rintro e w1 ⟨vp, rfl, hp, hb1⟩
    obtain ⟨g, rfl, hg1, hg2, hc⟩ := hp.at0
    have R1 := Lib.hid ((last_row w).of_block (hb1.block w.heap.size (by simp)))
    have B1 := Lib.hid (((Below.refl w.heap.size w).alloc (Nat.le_refl _) _).trans (hb1.mono (by simp))); clear hb1 hp
    have O1 := Lib.hid (own_below HO.out B1.out (Nat.le_refl _))
    have hz1 := B1.out.size
    go_wp2
    refine wp_loop_rounds 2 ?_
    rw [rounds_succ]
    go_wp2_with fail
    refine (KI.out _ O1.out (by omega)).mono ?_
    rintro e w3 ⟨v3, rfl, ho3, hb3, hk3⟩
    have R3 := Lib.hid (hk3.row R1.out (by decide))
    have B3 := Lib.hid ((B1.out.mono hbase).trans hb3)
    have K3 := Lib.hid ((Keep.of_below B1.out).trans hk3)
    obtain ⟨va3, vc3, rfl, _, _⟩ := own_shape' ho3
    have O3 := Lib.hid ho3
    clear hb3 hk3 ho3 hc
    have q0 := R3.out.cell (i := 0) (by decide)
    have q1 := R3.out.cell (i := 1) (by decide)
    have f0 := R3.out.frozen 0
    have O4 := Lib.hid (own_setOther O3.out R3.out (by decide) 0 (.int .i64 ((s : Int) - 1)))
    have R4 := Lib.hid (R3.out.set 0 (.int .i64 ((s : Int) - 1)))
    have B4 := Lib.hid (B3.out.setCell (p := ⟨w.heap.size, 0, none⟩) hbase (.int .i64 ((s : Int) - 1)))
    have K4 := Lib.hid (keep_setCell K3.out (Nat.le_refl _) 0 (.int .i64 ((s : Int) - 1)))
    go_wp2
    clear q0 q1 f0
    generalize w3.setCell ⟨w.heap.size, 0, none⟩ (.int .i64 ((s : Int) - 1)) = w4 at *
    rw [rounds_succ]
    go_wp2_with fail
    refine (NO.out _).mono ?_
    rintro e w5 ⟨rfl, hb5⟩
    have R5 := Lib.hid (R4.out.of_block (hb5.block w.heap.size R4.out.lt))
    have hz4 := B4.out.size
    have B5 := Lib.hid (B4.out.trans (hb5.mono (by omega)))
    have K5 := Lib.hid (K4.out.trans (Keep.of_below hb5))
    have O5 := Lib.hid (own_below O4.out hb5 (Nat.le_refl _))
    clear hb5
    have q0 : w5.cell? ⟨w.heap.size, 0, none⟩ = some (.int .i64 ((s : Int) - 1)) := R5.out.cell (i := 0) (by decide)
    have q1 : w5.cell? ⟨w.heap.size, 1, none⟩ = some (.int .i64 0) := R5.out.cell (i := 1) (by decide)
    have hlt := R5.out.lt
    have hz5 := B5.out.size
    unfold Nd.v
    simp only [Tm.op, Tm.num]
    go_wp2_with (at_builtin; refine wpList_push4 rfl _ _ 28 rfl 112 (.agg #[.int .i64 0, .int .i64 0, .int .i64 0, .int .i64 0]) 32 Tryz.underlying28 Tryz.infoNd rfl base _ _ _ _ _ (.slice va3 s vc3) _ _ (by exact own_below O5.out (by go_grown) (Nat.le_refl _)) rfl _ rfl (by simp) rfl rfl rfl rfl (by unfold maxLen; omega) (by omega) (by simp; omega) ?_; intro v' w9 hown hbp hgr; have HO9 := Lib.hid hown; have BP9 := Lib.hid hbp; have GR9 := Lib.hid hgr; clear hown hbp hgr)
    go_ret
    exact ⟨v', rfl, lay_end (x := ⟨op, k, (s : Int) - 1, 0⟩) B5.out K5.out (by go_grown) O5.out HO9.out BP9.out GR9.out (by omega)⟩
  | joint op a b iha ihb =>
    intro w v n xs base hs hown hbase
    obtain ⟨va, vc, rfl, _, _⟩ := own_shape' hown
    have HO := Lib.hid hown
    have P := Lib.hid (fun W => jointParts_row op a b W)
    have NO := Lib.hid (fun W => nodeOf_any (Tm.joint op a b) W)
    have hsz : n + a.size + b.size ≤ 199 := by simp only [Tm.size] at hs; omega
    have hsp := a.size_pos
    have hsq := b.size_pos
    have IA := fun W (ho : W.ownsRow base 112 4 (.slice va n vc) n (ndCells xs)) hb => iha W (.slice va n vc) n xs base (by omega) ho hb
    have IB := fun W v2 (ho : W.ownsRow base 112 4 v2 (n + a.size) (ndCells (xs ++ lay n a))) hb => ihb W v2 (n + a.size) (xs ++ lay n a) base (by omega) ho hb
    have e1 : n + (Tm.joint op a b).size = n + a.size + b.size + 1 := by simp only [Tm.size]; omega
    have e2 : xs ++ lay n (Tm.joint op a b) = xs ++ lay n a ++ lay (n + a.size) b ++ [⟨op, 0, ((n + a.size : Nat) : Int) - 1, ((n + a.size + b.size : Nat) : Int) - 1⟩] := by simp [lay]
    rw [e1, e2]
    clear e1 e2 iha ihb hown hs
    have hs1 : 1 ≤ n + a.size := by omega
    have hs2 : 1 ≤ n + a.size + b.size := by omega
    have hs3 : n + a.size ≤ 199 := by omega
    generalize xs ++ lay n a ++ lay (n + a.size) b = zs at *
    generalize n + a.size + b.size = u at *
    generalize n + a.size = s at *
    generalize xs ++ lay n a = ys at *
    have KA := Lib.hid IA
    have KB := Lib.hid IB
    clear IA IB hsp hsq
    have hsi : (1 : Int) ≤ (s : Int) := by omega
    have hui : (1 : Int) ≤ (u : Int) := by omega
    unfold tv
    go_enter Tryz.func106, Tryz.ntmps106
    go_wp2_with fail
    refine (P.out _).mono ?_
    rintro e w1 ⟨g, rfl, hrg, hb1⟩
    have R1 := Lib.hid ((last_row w).of_block (hb1.block w.heap.size (by simp)))
    have G1 := Lib.hid hrg
    have B1 := Lib.hid (((Below.refl w.heap.size w).alloc (Nat.le_refl _) _).trans (hb1.mono (by simp))); clear hb1 hrg
    have O1 := Lib.hid (own_below HO.out B1.out (Nat.le_refl _))
    have hz1 := B1.out.size
    have p0 : w1.cell? ⟨g, 0, none⟩ = some (tv a) := G1.out.cell (i := 0) (by decide)
    go_wp2
    refine wp_loop_rounds 3 ?_
    rw [rounds_succ]
    go_wp2_with fail
    refine (KA.out _ O1.out (by omega)).mono ?_
    rintro e w3 ⟨v3, rfl, ho3, hb3, hk3⟩
    have R3 := Lib.hid (hk3.row R1.out (by decide))
    have G3 := Lib.hid (hk3.row G1.out (by decide))
    have B3 := Lib.hid ((B1.out.mono hbase).trans hb3)
    have K3 := Lib.hid ((Keep.of_below B1.out).trans hk3)
    obtain ⟨va3, vc3, rfl, _, _⟩ := own_shape' ho3
    have O3 := Lib.hid ho3
    clear hb3 hk3 ho3 p0
    have q0 := R3.out.cell (i := 0) (by decide)
    have f0 := R3.out.frozen 0
    have O4 := Lib.hid (own_setOther O3.out R3.out (by decide) 0 (.int .i64 ((s : Int) - 1)))
    have R4 := Lib.hid (R3.out.set 0 (.int .i64 ((s : Int) - 1)))
    have B4 := Lib.hid (B3.out.setCell (p := ⟨w.heap.size, 0, none⟩) hbase (.int .i64 ((s : Int) - 1)))
    have K4 := Lib.hid (keep_setCell K3.out (Nat.le_refl _) 0 (.int .i64 ((s : Int) - 1)))
    have hgl : w.heap.size ≠ g := by
      intro e
      obtain ⟨c, hc, _⟩ := R3.out
      obtain ⟨c', hc', _⟩ := G3.out
      rw [e, hc'] at hc
      simp only [Option.some.injEq, Obj.cells.injEq] at hc
      exact absurd hc.2.1 (by decide)
    have G4 := Lib.hid (G3.out.setOther (a := ⟨w.heap.size, 0, none⟩) (Ne.symm hgl) (.int .i64 ((s : Int) - 1)))
    have HG := Lib.hid hgl
    clear hgl
    go_wp2
    clear q0 f0
    generalize w3.setCell ⟨w.heap.size, 0, none⟩ (.int .i64 ((s : Int) - 1)) = w4 at *
    have hz4 := B4.out.size
    have p1 : w4.cell? ⟨g, 1, none⟩ = some (tv b) := G4.out.cell (i := 1) (by decide)
    rw [rounds_succ]
    go_wp2_with fail
    refine (KB.out _ _ O4.out (by omega)).mono ?_
    rintro e w6 ⟨v6, rfl, ho6, hb6, hk6⟩
    have R6 := Lib.hid (hk6.row R4.out (by decide))
    have B6 := Lib.hid (B4.out.trans hb6)
    have K6 := Lib.hid (K4.out.trans hk6)
    obtain ⟨va6, vc6, rfl, _, _⟩ := own_shape' ho6
    have O6 := Lib.hid ho6
    clear hb6 hk6 ho6 p1
    have q1 := R6.out.cell (i := 1) (by decide)
    have f1 := R6.out.frozen 1
    have O7 := Lib.hid (own_setOther O6.out R6.out (by decide) 1 (.int .i64 ((u : Int) - 1)))
    have R7 := Lib.hid (R6.out.set 1 (.int .i64 ((u : Int) - 1)))
    have B7 := Lib.hid (B6.out.setCell (p := ⟨w.heap.size, 1, none⟩) hbase (.int .i64 ((u : Int) - 1)))
    have K7 := Lib.hid (keep_setCell K6.out (Nat.le_refl _) 1 (.int .i64 ((u : Int) - 1)))
    go_wp2
    clear q1 f1
    generalize w6.setCell ⟨w.heap.size, 1, none⟩ (.int .i64 ((u : Int) - 1)) = w7 at *
    have hz7 := B7.out.size
    rw [rounds_succ]
    go_wp2_with fail
    refine (NO.out _).mono ?_
    rintro e w5 ⟨rfl, hb5⟩
    have R5 := Lib.hid (R7.out.of_block (hb5.block w.heap.size R7.out.lt))
    have B5 := Lib.hid (B7.out.trans (hb5.mono (by omega)))
    have K5 := Lib.hid (K7.out.trans (Keep.of_below hb5))
    have O5 := Lib.hid (own_below O7.out hb5 (Nat.le_refl _))
    clear hb5
    have q0 : w5.cell? ⟨w.heap.size, 0, none⟩ = some (.int .i64 ((s : Int) - 1)) := R5.out.cell (i := 0) (by decide)
    have q1 : w5.cell? ⟨w.heap.size, 1, none⟩ = some (.int .i64 ((u : Int) - 1)) := R5.out.cell (i := 1) (by decide)
    have hlt := R5.out.lt
    have hz5 := B5.out.size
    unfold Nd.v
    simp only [Tm.op, Tm.num]
    go_wp2_with (at_builtin; refine wpList_push4 rfl _ _ 28 rfl 112 (.agg #[.int .i64 0, .int .i64 0, .int .i64 0, .int .i64 0]) 32 Tryz.underlying28 Tryz.infoNd rfl base _ _ _ _ _ (.slice va6 u vc6) _ _ (by exact own_below O5.out (by go_grown) (Nat.le_refl _)) rfl _ rfl (by simp) rfl rfl rfl rfl (by unfold maxLen; omega) (by omega) (by simp; omega) ?_; intro v' w9 hown hbp hgr; have HO9 := Lib.hid hown; have BP9 := Lib.hid hbp; have GR9 := Lib.hid hgr; clear hown hbp hgr)
    go_ret
    exact ⟨v', rfl, lay_end (x := ⟨op, 0, (s : Int) - 1, (u : Int) - 1⟩) B5.out K5.out (by go_grown) O5.out HO9.out BP9.out GR9.out (by omega)⟩
end Go.Proofs.YtodjohdbngbpaaaGreat
