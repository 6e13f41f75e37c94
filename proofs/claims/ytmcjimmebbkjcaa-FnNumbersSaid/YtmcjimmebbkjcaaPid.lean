/-
  The map of a person: choices.add, choices.only. Condition: the number is such as a machine has.
-/
import Derived.Test.YtmcjimmebbkjcaaPic
namespace Go.Proofs.Ytmcjimmebbkjcaa
open Go.RowKit Go.WideShapes
open Go Go.Deep
set_option linter.unusedSimpArgs false

/-- all blocks below T but b are as they were -/
structure But (T b : Nat) (w w' : World) : Prop where
  os : w'.os = w.os
  tape : w'.tape = w.tape
  output : w'.output = w.output
  size : w.heap.size ≤ w'.heap.size
  block : ∀ k, k < T → k ≠ b → w'.heap[k]? = w.heap[k]?
theorem gr_below {W W' : World} (h : Below W.heap.size W W') (row : Option Nat) : W.grownBy W' row := ⟨h.os, h.tape, h.output, h.size, fun i hi _ => h.block i hi⟩
theorem But.refl (T b : Nat) (w : World) : But T b w w := ⟨rfl, rfl, rfl, Nat.le_refl _, fun _ _ _ => rfl⟩
theorem But.trans {T b : Nat} {x y z : World} (h : But T b x y) (k : But T b y z) : But T b x z :=
  ⟨k.os.trans h.os, k.tape.trans h.tape, k.output.trans h.output, Nat.le_trans h.size k.size, fun i hi hb => (k.block i hi hb).trans (h.block i hi hb)⟩
theorem But.of_below {T b : Nat} {x y : World} {U : Nat} (h : Below U x y) (hT : T ≤ U) : But T b x y := ⟨h.os, h.tape, h.output, h.size, fun k hk _ => h.block k (by omega)⟩
theorem But.of_grown {T b : Nat} {x y : World} {row : Option Nat} (h : x.grownBy y row) (hT : T ≤ x.heap.size) (hr : ∀ k, row = some k → k = b ∨ T ≤ k) : But T b x y :=
  ⟨h.os, h.tape, h.output, h.size, fun k hk hb => h.block k (by omega) (fun e => by rcases hr k e.symm with h1 | h1; exact hb h1; omega)⟩
theorem But.grown {b : Nat} {x y : World} (h : But x.heap.size b x y) : x.grownBy y (some b) := ⟨h.os, h.tape, h.output, h.size, fun k hk hb => h.block k hk (fun e => hb (by rw [e]))⟩
theorem But.below {T b : Nat} {x y : World} (h : But T b x y) (hT : T ≤ b) : Below T x y := ⟨h.os, h.tape, h.output, h.size, fun k hk => h.block k hk (by omega)⟩

theorem lawI : Maps.Keyed Try.prog 3 := Maps.int_keyed Try.underlying3
theorem zeroPs (w : World) : (zeroValue 22).run Try.prog w = .ok (.slice none 0 0) w := by kernel_rfl
theorem keyI {k : Int} (h : (Lit.int .i64 k).wf = true) : keyOf Try.prog 3 (.int .i64 k) = some (.int .i64 k) := Maps.keyOf_int_mk Try.underlying3 h
/-- what stands in the map behind one pair more -/
def AddP (W : World) (B b c : Nat) (g' : Int → List Pr) (e : Ending) (W' : World) : Prop :=
  e = .returned (.tuple #[]) ∧ ∃ c' D V, c' ≤ c + 1 ∧ Grp Try.prog 3 33 W' B b c' D V g' ∧ But B b W W'
theorem grpStep_no {g : List Pr} {p : Pr} (h : (decide (g.length < 2) && !hasP g p) = false) : grpStep g p = g := by unfold grpStep; rw [if_neg (by rw [h]; decide)]
theorem grpStep_yes {g : List Pr} {p : Pr} (h : g.length < 2) (h2 : hasP g p = false) : grpStep g p = g ++ [p] := by unfold grpStep; rw [if_pos (by rw [decide_eq_true h, h2]; rfl)]
theorem upd_same {g : Int → List Pr} {k : Int} : (fun y => if y = k then g k else g y) = g := by
  funext y; split
  · rename_i h; rw [h]
  · rfl

set_option maxRecDepth 100000 in
set_option maxHeartbeats 8000000 in
theorem add_any (B b c : Nat) (D : DataW Value) (V : Int → Value) (g : Int → List Pr) (k : Int) (p : Pr) (W : World) (h : Grp Try.prog 3 33 W B b c D V g) (hk : (Lit.int .i64 k).wf = true) (hle : (g k).length ≤ 2) (hc : c ≤ 1048576) (hB : B ≤ W.heap.size) :
    Calls Try.prog 65 #[.map (some b), .int .i64 k, p.v] W (AddP W B b c (fun y => if y = k then grpStep (g k) p else g y)) := by
  have HG := Lib.hid h
  have HKK := Lib.hid (keyI hk)
  have HE := Lib.hid (h.elt k)
  have hbl := h.own.lt
  obtain ⟨va, vc, hv⟩ := (Ps.of_own (h.row k)).form
  rw [hv] at HE
  have KC := Lib.hid (fun W' (hb : Below W.heap.size W W') => containsP_any _ (g k) p W' ((Ps.of_own (h.row k)).below hb (Nat.le_refl _)))
  rw [hv] at KC
  have HNO := Lib.hid (grpStep_no (g := g k) (p := p))
  have HYS := Lib.hid (grpStep_yes (g := g k) (p := p))
  have HROW : Hid (W.ownsRow B 33 2 (.slice va (g k).length vc) (g k).length (prCells (g k))) := Lib.hid (hv ▸ h.row k)
  have HPU : Hid (∀ (v' : Value) (W1 W2 : World) (c' : Nat), W1.ownsRow B 33 2 v' ((g k).length + 1) (prCells (g k ++ [p])) → W.grownBy W1 (Value.slice va (g k).length vc).ownBlock → (v'.ownBlock = (Value.slice va (g k).length vc).ownBlock ∨ ∃ x, v'.ownBlock = some x ∧ W.heap.size ≤ x) →
      W2.ownsMap Try.prog 3 HeldP b c' (D.put (.int .i64 k) (.held v')) → W1.grownBy W2 (some b) → Grp Try.prog 3 33 W2 B b c' (D.put (.int .i64 k) (.held v')) (fun y => if y = k then v' else V y) (fun y => if y = k then g k ++ [p] else g y)) :=
    Lib.hid (fun v' W1 W2 c' h1 h2 h3 h4 h5 => h.push lawI HKK.out (by simp) h1 (by rw [hv]; exact h2) (by rw [hv]; exact h3) h4 h5)
  have HVB : Hid (∀ x, (Value.slice va (g k).length vc).ownBlock = some x → x ≠ b ∧ B ≤ x) := Lib.hid (fun x e => ⟨fun e2 => h.map_ne k (by rw [hv, e, e2]), ((h.row k).lt x (by rw [hv, e])).1⟩)
  have HOWN := Lib.hid h.own
  have HUS : Hid ((fun y => if y = k then g k else g y) = g) := Lib.hid upd_same
  have HB := Lib.hid hB
  clear hv h hB
  generalize grpStep (g k) p = gs at *
  have HR : Hid (AddP W B b c (fun y => if y = k then gs else g y) = AddP W B b c (fun y => if y = k then gs else g y)) := Lib.hid rfl
  by_cases hlen : (g k).length < 2
  · have hli : ((g k).length : Int) < 2 := by omega
    by_cases hhas : hasP (g k) p = true
    · have HGS : Hid (gs = g k) := Lib.hid (HNO.out (by rw [hhas]; simp))
      rw [hhas] at KC
      clear HNO HYS hhas
      generalize g k = gk at *
      unfold Pr.v at *
      go_enter Try.func65, Try.ntmps65
      have tk1 : True := trivial
      have tk2 : True := trivial
      have tk3 : True := trivial
      go_wp2_with
        (first
          | (have _t := tk1; clear _t tk1; at_lookup; refine wpList_lookup_heldP _ rfl _ _ 61 22 rfl lawI Try.underlying61 (zeroPs _) rfl (HOWN.out.alloc _) _ _ rfl HKK.out HE.out ?_)
          | (have _t := tk2; clear _t tk2; at_lookup; refine wpList_lookup_heldPG _ rfl (by rfl) _ _ 61 22 rfl lawI Try.underlying61 (zeroPs _) rfl (HOWN.out.alloc _) _ _ rfl HKK.out HE.out ?_)
          | (have _t := tk3; clear _t tk3; go_at_call 58; refine (KC.out _ (by go_grown)).mono ?_; rintro e W2 ⟨rfl, hb2⟩; have B2 : Hid (Below W.heap.size W W2) := Lib.hid (Below.trans (by go_grown) (hb2.mono (by simp))); clear hb2))
      go_returns
      refine ⟨rfl, c, D, V, Nat.le_succ _, ?_, But.of_below B2.out HB.out⟩
      rw [HGS.out, HUS.out]
      exact HG.out.below B2.out (Nat.le_refl _)
    · rw [Bool.not_eq_true] at hhas
      have HGS : Hid (gs = g k ++ [p]) := Lib.hid (HYS.out hlen hhas)
      rw [hhas] at KC
      clear HNO HYS hhas
      have HPC : Hid (prCells (g k ++ [p]) = prCells (g k) ++ [.int .i64 p.a, .int .i64 p.b]) := Lib.hid (by rw [prCells_app]; rfl)
      rw [HPC.out] at HPU
      clear HPC
      generalize g k = gk at *
      generalize prCells gk = cs at *
      unfold Pr.v at *
      have hcm : c < maxLen := by unfold maxLen; omega
      go_enter Try.func65, Try.ntmps65
      have tk4 : True := trivial
      have tk5 : True := trivial
      have tk6 : True := trivial
      have tk7 : True := trivial
      have tk8 : True := trivial
      have tk9 : True := trivial
      go_wp2_with
        (first
          | (have _t := tk4; clear _t tk4; at_lookup; refine wpList_lookup_heldP _ rfl _ _ 61 22 rfl lawI Try.underlying61 (zeroPs _) rfl (HOWN.out.alloc _) _ _ rfl HKK.out HE.out ?_)
          | (have _t := tk5; clear _t tk5; at_lookup; refine wpList_lookup_heldPG _ rfl (by rfl) _ _ 61 22 rfl lawI Try.underlying61 (zeroPs _) rfl (HOWN.out.alloc _) _ _ rfl HKK.out HE.out ?_)
          | (have _t := tk6; clear _t tk6; go_at_call 58; refine (KC.out _ (by go_grown)).mono ?_; rintro e W2 ⟨rfl, hb2⟩; have B2 : Hid (Below W.heap.size W W2) := Lib.hid (Below.trans (by go_grown) (hb2.mono (by simp))); have A1 : Hid (Below (W.alloc (.cells #[.int .i64 p.a, .int .i64 p.b] 33)).heap.size (W.alloc (.cells #[.int .i64 p.a, .int .i64 p.b] 33)) W2) := Lib.hid hb2; have p0 : W2.cell? ⟨W.heap.size, 0, none⟩ = some (.int .i64 p.a) := (hb2.cell (p := ⟨W.heap.size, 0, none⟩) (by simp)).trans ((World.cell?_alloc_at _ _ _ _ rfl).trans rfl); have p1 : W2.cell? ⟨W.heap.size, 1, none⟩ = some (.int .i64 p.b) := (hb2.cell (p := ⟨W.heap.size, 1, none⟩) (by simp)).trans ((World.cell?_alloc_at _ _ _ _ rfl).trans rfl); have O2 := Lib.hid (own_below HROW.out B2.out (Nat.le_refl _)); clear hb2)
          | (have _t := tk7; clear _t tk7; at_lookup; refine wpList_lookup_heldP _ rfl _ _ 61 22 rfl lawI Try.underlying61 (zeroPs _) rfl (HOWN.out.kept (gr_below B2.out none) (by simp)) _ _ rfl HKK.out HE.out ?_)
          | (have _t := tk8; clear _t tk8; at_builtin; refine wpList_push2A rfl (.tmp 23) (.tmp 25) 22 rfl 33 (.agg #[.int .i64 0, .int .i64 0]) 16 Try.underlying22 Try.infoPr rfl B W2 (.int .i64 p.a) (.int .i64 p.b) _ gk.length cs O2.out rfl W2.heap.size rfl rfl rfl rfl (by unfold maxLen; omega) (by omega) (by have := B2.out.size; have := HB.out; omega) ?_; intro v6 w6 hown hg6 hat; have L6 := Lib.hid hown; have G6 := Lib.hid hg6; have T6 := Lib.hid hat; clear hown hg6 hat)
          | (have _t := tk9; clear _t tk9; at_mapUpdate; refine wpList_mapUpdate_own _ rfl _ _ _ 61 rfl 3 22 lawI Try.underlying61 HeldP b c _ rfl ((HOWN.out.kept (gr_below B2.out none) (by simp)).kept G6.out (fun e => (HVB.out _ e.symm).1 rfl)) hcm _ _ (.int .i64 k) rfl rfl HKK.out _ [] rfl ?_; intro w7 hown7 hgrow7; have M7 : Hid (w7.ownsMap Try.prog 3 HeldP b (c + 1) (D.put (.int .i64 k) (.held v6))) := Lib.hid hown7; have G7 := Lib.hid hgrow7; clear hown7 hgrow7))
      go_returns
      have G61 : W.grownBy w6 (Value.slice va gk.length vc).ownBlock := World.grownBy.trans (gr_below B2.out _) G6.out
      have G9 := HPU.out v6 w6 w7 _ L6.out G61 (by
        rcases T6.out with e | ⟨x, e, hx⟩
        · exact .inl e
        · exact .inr ⟨x, e, by have := B2.out.size; omega⟩) M7.out G7.out
      rw [← HGS.out] at G9
      exact ⟨rfl, c + 1, _, _, Nat.le_refl _, G9, (But.of_grown G61 HB.out (fun x e => .inr (HVB.out x e).2)).trans (But.of_grown G7.out (by have := G61.size; have := HB.out; omega) (fun x e => .inl (by injection e with e; exact e.symm)))⟩
  · have hli : ¬ ((g k).length : Int) < 2 := by omega
    have HGS : Hid (gs = g k) := Lib.hid (HNO.out (by rw [decide_eq_false hlen]; rfl))
    clear HNO HYS KC
    generalize g k = gk at *
    unfold Pr.v at *
    go_enter Try.func65, Try.ntmps65
    go_wp2_with
      (at_lookup; refine wpList_lookup_heldP _ rfl _ _ 61 22 rfl lawI Try.underlying61 (zeroPs _) rfl (HOWN.out.alloc _) _ _ rfl HKK.out HE.out ?_)
    go_returns
    refine ⟨rfl, c, D, V, Nat.le_succ _, ?_, But.of_below (U := W.heap.size) (by go_grown) HB.out⟩
    rw [HGS.out, HUS.out]
    exact HG.out.below (T := W.heap.size) (by go_grown) (Nat.le_refl _)
end Go.Proofs.Ytmcjimmebbkjcaa
