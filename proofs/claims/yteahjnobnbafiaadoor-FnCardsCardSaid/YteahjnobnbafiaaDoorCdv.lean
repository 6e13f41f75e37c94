/-
  Contracts of spec.l13Deal and MakeDeal: one of five deals. Condition: a code of at most 1048576 bytes.
-/
import Derived.Test.YteahjnobnbafiaaDoorCdm
import Derived.Test.YteahjnobnbafiaaDoorDrc
import Derived.Test.YteahjnobnbafiaaDoorZReg
import Derived.Test.YteahjnobnbafiaaDoorZArr
namespace Go.Proofs.YteahjnobnbafiaaDoor
open Go.RowKit Go.WideShapes
open Go Go.Deep
set_option linter.unusedSimpArgs false

def dealsL : List Dl := [⟨2, 2, 1⟩, ⟨3, 2, 1⟩, ⟨2, 3, 1⟩, ⟨2, 2, 0⟩, ⟨1, 2, 1⟩]
/-- what the drawing of a deal answers -/
def DrawD (W w : World) (b : Nat) (cv : Value) (e : Ending) (w' : World) : Prop := ∃ d, d ∈ dealsL ∧ e = .returned d.v ∧ Cur W w' b cv ∧ w.grownBy w' (some b)
theorem gr_trans0 {a b c : World} {row : Option Nat} (h : a.grownBy b row) (k : b.grownBy c none) : a.grownBy c row :=
  ⟨k.os.trans h.os, k.tape.trans h.tape, k.output.trans h.output, Nat.le_trans h.size k.size, fun i hi hr => (k.block i (Nat.lt_of_lt_of_le hi h.size) (by simp)).trans (h.block i hi hr)⟩
theorem gr_new {a b c : World} {row : Option Nat} {n : Nat} (h : a.grownBy b row) (hn : a.heap.size ≤ n) (k : b.grownBy c (some n)) : a.grownBy c row :=
  ⟨k.os.trans h.os, k.tape.trans h.tape, k.output.trans h.output, Nat.le_trans h.size k.size, fun i hi hr => (k.block i (Nat.lt_of_lt_of_le hi h.size) (by simp; omega)).trans (h.block i hi hr)⟩
theorem gr_set (w : World) (n j : Nat) (v : Value) : w.grownBy (w.setCell ⟨n, j, none⟩ v) (some n) := grown_set w n j v

set_option maxRecDepth 100000 in
set_option maxHeartbeats 8000000 in
theorem l13Deal_any (W w : World) (b : Nat) (cv : Value) (hk : CodeOk W cv) (hc : Cur W w b cv) :
    Calls Tryd.prog 22 #[.pointer (some ⟨b, 0, none⟩)] w (DrawD W w b cv) := by
  have HK := Lib.hid hk
  have hbl : b < w.heap.size := hc.lt
  have HWW : Hid (W.heap.size ≤ w.heap.size) := Lib.hid hc.1.size
  have C0 := Lib.hid (hc.alloc (.cells #[.int .i64 0, .int .i64 0, .int .i64 0] 26))
  have R0 : Hid (Cm (w.alloc (.cells #[.int .i64 0, .int .i64 0, .int .i64 0] 26)) w.heap.size 26 [.int .i64 0, .int .i64 0, .int .i64 0]) := Lib.hid (Cm.new rfl)
  have G0 : Hid (w.grownBy (w.alloc (.cells #[.int .i64 0, .int .i64 0, .int .i64 0] 26)) (some b)) := Lib.hid (World.grownBy_alloc w _ _)
  clear hk hc
  go_enter Tryd.func22, Tryd.ntmps22
  go_wp2_with fail
  generalize w.alloc (.cells #[.int .i64 0, .int .i64 0, .int .i64 0] 26) = w0 at *
  refine (below_small W w0 b cv 5 (by decide) (by decide) HK.out C0.out).mono ?_
  rintro e w1 ⟨x, rfl, x0, x5, hc1, hg1⟩
  have lt0 : w.heap.size < w0.heap.size := R0.out.lt
  have C1 := Lib.hid hc1
  have hR1 := R0.out.of_block (hg1.block _ R0.out.lt (by simp; omega))
  have G1 := Lib.hid (grown_trans G0.out hg1)
  have lt1 : w.heap.size < w1.heap.size := hR1.lt
  have c0 := hR1.cell 0
  have c1 := hR1.cell 1
  have c2 := hR1.cell 2
  have f0 := hR1.frozen 0
  have f1 := hR1.frozen 1
  have f2 := hR1.frozen 2
  simp only [List.getElem?_cons_zero, List.getElem?_cons_succ] at c0 c1 c2
  have R1 := Lib.hid hR1
  clear hc1 hg1 C0 R0 G0 hR1
  have HFIN : Hid (∀ (d : Dl), d ∈ dealsL → ∀ Z, Z = (((w1.setCell ⟨w.heap.size, 0, none⟩ (.int .i64 d.a)).setCell ⟨w.heap.size, 1, none⟩ (.int .i64 d.b)).setCell ⟨w.heap.size, 2, none⟩ (.int .i64 d.c)).alloc (.cells #[.int .i64 2, .int .i64 2, .int .i64 1, .int .i64 3, .int .i64 2, .int .i64 1, .int .i64 2, .int .i64 3, .int .i64 1, .int .i64 2, .int .i64 2, .int .i64 0, .int .i64 1, .int .i64 2, .int .i64 1] 26) →
      Cm Z w.heap.size 26 [.int .i64 d.a, .int .i64 d.b, .int .i64 d.c] ∧ DrawD W w b cv (.returned d.v) Z) := Lib.hid (fun d hd Z hZ => by
    subst hZ
    have r := ((R1.out.set 0 (.int .i64 d.a)).set 1 (.int .i64 d.b)).set 2 (.int .i64 d.c)
    have g : w1.grownBy ((((w1.setCell ⟨w.heap.size, 0, none⟩ (.int .i64 d.a)).setCell ⟨w.heap.size, 1, none⟩ (.int .i64 d.b)).setCell ⟨w.heap.size, 2, none⟩ (.int .i64 d.c)).alloc (.cells #[.int .i64 2, .int .i64 2, .int .i64 1, .int .i64 3, .int .i64 2, .int .i64 1, .int .i64 2, .int .i64 3, .int .i64 1, .int .i64 2, .int .i64 2, .int .i64 0, .int .i64 1, .int .i64 2, .int .i64 1] 26)) (some w.heap.size) :=
      gr_trans0 (grown_trans (grown_trans (gr_set _ _ _ _) (gr_set _ _ _ _)) (gr_set _ _ _ _)) (World.grownBy_alloc _ _ _)
    refine ⟨Cm.alloc (by simpa using r) _, d, hd, rfl, C1.out.kept g (by simp; omega) (fun k hk => by cases hk; exact HWW.out), gr_new G1.out (Nat.le_refl _) g⟩)
  have hx : x = 0 ∨ x = 1 ∨ x = 2 ∨ x = 3 ∨ x = 4 := by omega
  rcases hx with rfl | rfl | rfl | rfl | rfl
  · obtain ⟨hf, hd⟩ := HFIN.out ⟨2, 2, 1⟩ (by decide) _ rfl
    have HF := Lib.hid hf
    have HD := Lib.hid hd
    clear hf hd HFIN
    simp only at HF HD
    go_wp2
    refine bodyPost_ret (results_mid1 Tryd.results22 _ _ w.heap.size [.int .i64 2, .int .i64 2, .int .i64 1] _ rfl HF.out.whole Tryd.underlying26 rfl (by kernel_rfl)) rfl ?_
    exact HD.out
  · obtain ⟨hf, hd⟩ := HFIN.out ⟨3, 2, 1⟩ (by decide) _ rfl
    have HF := Lib.hid hf
    have HD := Lib.hid hd
    clear hf hd HFIN
    simp only at HF HD
    go_wp2
    refine bodyPost_ret (results_mid1 Tryd.results22 _ _ w.heap.size [.int .i64 3, .int .i64 2, .int .i64 1] _ rfl HF.out.whole Tryd.underlying26 rfl (by kernel_rfl)) rfl ?_
    exact HD.out
  · obtain ⟨hf, hd⟩ := HFIN.out ⟨2, 3, 1⟩ (by decide) _ rfl
    have HF := Lib.hid hf
    have HD := Lib.hid hd
    clear hf hd HFIN
    simp only at HF HD
    go_wp2
    refine bodyPost_ret (results_mid1 Tryd.results22 _ _ w.heap.size [.int .i64 2, .int .i64 3, .int .i64 1] _ rfl HF.out.whole Tryd.underlying26 rfl (by kernel_rfl)) rfl ?_
    exact HD.out
  · obtain ⟨hf, hd⟩ := HFIN.out ⟨2, 2, 0⟩ (by decide) _ rfl
    have HF := Lib.hid hf
    have HD := Lib.hid hd
    clear hf hd HFIN
    simp only at HF HD
    go_wp2
    refine bodyPost_ret (results_mid1 Tryd.results22 _ _ w.heap.size [.int .i64 2, .int .i64 2, .int .i64 0] _ rfl HF.out.whole Tryd.underlying26 rfl (by kernel_rfl)) rfl ?_
    exact HD.out
  · obtain ⟨hf, hd⟩ := HFIN.out ⟨1, 2, 1⟩ (by decide) _ rfl
    have HF := Lib.hid hf
    have HD := Lib.hid hd
    clear hf hd HFIN
    simp only at HF HD
    go_wp2
    refine bodyPost_ret (results_mid1 Tryd.results22 _ _ w.heap.size [.int .i64 1, .int .i64 2, .int .i64 1] _ rfl HF.out.whole Tryd.underlying26 rfl (by kernel_rfl)) rfl ?_
    exact HD.out

set_option maxRecDepth 100000 in
set_option maxHeartbeats 4000000 in
theorem makeDeal_any (W : World) (cv : Value) (hk : CodeOk W cv) :
    Calls Tryd.prog 7 #[cv] W fun e w' => ∃ d, d ∈ dealsL ∧ e = .returned d.v ∧ Below W.heap.size W w' := by
  have hb0 : Below W.heap.size W (W.alloc (.cells #[.int .i64 0, .int .i64 0, .int .i64 0] 26)) := by go_grown
  have HK := Lib.hid (hk.below hb0 (Nat.le_refl _))
  have B0 := Lib.hid hb0
  have R0 : Hid (Cm (W.alloc (.cells #[.int .i64 0, .int .i64 0, .int .i64 0] 26)) W.heap.size 26 [.int .i64 0, .int .i64 0, .int .i64 0]) := Lib.hid (Cm.new rfl)
  clear hb0 hk
  go_enter Tryd.func7, Tryd.ntmps7
  go_wp2_with fail
  generalize W.alloc (.cells #[.int .i64 0, .int .i64 0, .int .i64 0] 26) = w0 at *
  refine (new_any w0 cv HK.out).mono ?_
  rintro e w1 ⟨b, rfl, hc⟩
  have C1 := Lib.hid hc
  have R1 := Lib.hid (R0.out.all hc.1)
  have hbb : w0.heap.size ≤ b := hc.2.1
  have lt0 : W.heap.size < w0.heap.size := R0.out.lt
  have B1 := Lib.hid (B0.out.trans (hc.1.mono B0.out.size))
  clear hc
  go_wp2_with fail
  refine (l13Deal_any w0 w1 b cv HK.out C1.out).mono ?_
  rintro e w2 ⟨d, hd, rfl, hc2, hg2⟩
  have R2 := Lib.hid (R1.out.of_block (hg2.block _ R1.out.lt (by simp; omega)))
  have B2 : Hid (Below W.heap.size W w2) := Lib.hid (B1.out.trans ⟨hg2.os, hg2.tape, hg2.output, hg2.size, fun k hk => hg2.block k (by have := R1.out.lt; omega) (by simp; omega)⟩)
  have HD := Lib.hid hd
  clear hd hc2 hg2
  obtain ⟨da, db, dc⟩ := d
  unfold Dl.v
  simp only
  have c0 := R2.out.cell 0
  have c1 := R2.out.cell 1
  have c2 := R2.out.cell 2
  have f0 := R2.out.frozen 0
  have f1 := R2.out.frozen 1
  have f2 := R2.out.frozen 2
  simp only [List.getElem?_cons_zero, List.getElem?_cons_succ] at c0 c1 c2
  have lt2 : W.heap.size < w2.heap.size := R2.out.lt
  go_wp2
  have R3 : Cm (((w2.setCell ⟨W.heap.size, 0, none⟩ (.int .i64 da)).setCell ⟨W.heap.size, 1, none⟩ (.int .i64 db)).setCell ⟨W.heap.size, 2, none⟩ (.int .i64 dc)) W.heap.size 26 [.int .i64 da, .int .i64 db, .int .i64 dc] := by
    have h := ((R2.out.set 0 (.int .i64 da)).set 1 (.int .i64 db)).set 2 (.int .i64 dc)
    simpa using h
  refine bodyPost_ret (results_mid1 Tryd.results7 _ _ W.heap.size [.int .i64 da, .int .i64 db, .int .i64 dc] _ rfl R3.whole Tryd.underlying26 rfl (by kernel_rfl)) rfl ?_
  exact ⟨⟨da, db, dc⟩, HD.out, rfl, ((B2.out.setCell (p := ⟨W.heap.size, 0, none⟩) (Nat.le_refl _) _).setCell (p := ⟨W.heap.size, 1, none⟩) (Nat.le_refl _) _).setCell (p := ⟨W.heap.size, 2, none⟩) (Nat.le_refl _) _⟩
end Go.Proofs.YteahjnobnbafiaaDoor
