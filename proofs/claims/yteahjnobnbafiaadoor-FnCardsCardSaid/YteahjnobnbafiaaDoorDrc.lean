/-
  Small laws over the drawing cursor; contract of spec.l01Once. Condition: a code of at most 1048576 bytes.
-/
import Derived.Test.YteahjnobnbafiaaDoorZCur
import Derived.Test.YteahjnobnbafiaaDoorZReg
namespace Go.Proofs.YteahjnobnbafiaaDoor
open Go.RowKit Go.WideShapes
open Go Go.Deep
set_option linter.unusedSimpArgs false

theorem gb_set {w wr : World} {b c o : Nat} (h : w.grownBy wr (some b)) (hc : w.heap.size ≤ c) (u : Value) : w.grownBy (wr.setCell ⟨c, o, none⟩ u) (some b) :=
  ⟨h.os, h.tape, h.output, by simpa [World.setCell] using h.size, fun k hk hne => by rw [Below.heap_setCell _ _ _ _ (by show k ≠ c; omega)]; exact h.block k hk hne⟩
theorem gb_alloc {w wr : World} {b : Nat} (h : w.grownBy wr (some b)) (o : Obj) : w.grownBy (wr.alloc o) (some b) := grown_trans h (World.grownBy_alloc wr o _)
theorem gb_push {w wr w' : World} {b : Nat} {v v' : Value} (h : w.grownBy wr (some b)) (hg : Grewn wr v w' v') (hv : ∀ k, v.ownBlock = some k → w.heap.size ≤ k) : w.grownBy w' (some b) :=
  ⟨hg.1.os.trans h.os, hg.1.tape.trans h.tape, hg.1.output.trans h.output, Nat.le_trans h.size hg.1.size, fun k hk hne => (hg.1.block k (Nat.lt_of_lt_of_le hk h.size) (fun e => by have := hv k e.symm; omega)).trans (h.block k hk hne)⟩
theorem below_gb {w w' : World} (h : Below w.heap.size w w') (row : Option Nat) : w.grownBy w' row := ⟨h.os, h.tape, h.output, h.size, fun k hk _ => h.block k hk⟩
theorem gb_below {w wr w' : World} {b : Nat} (h : w.grownBy wr (some b)) (hb : Below wr.heap.size wr w') : w.grownBy w' (some b) := grown_trans h (below_gb hb _)
theorem keeps_gb {lo hi b : Nat} {w w' : World} (h : w.grownBy w' (some b)) (hb : b < lo) : Keeps lo hi w w' := ⟨h.size, fun k h1 _ h3 => h.block k h3 (fun e => by cases e; omega)⟩
theorem Cur.set {W w : World} {b c : Nat} {cv : Value} (h : Cur W w b cv) (hne : b ≠ c) (hc : W.heap.size ≤ c) (o : Nat) (u : Value) : Cur W (w.setCell ⟨c, o, none⟩ u) b cv :=
  h.kept (grown_set w c o u) (by simpa using hne) (fun k hk => by cases hk; exact hc)
theorem Cur.belowC {W w w' : World} {b : Nat} {cv : Value} (h : Cur W w b cv) (hb : Below w.heap.size w w') : Cur W w' b cv := h.kept (below_gb hb none) (by simp) (fun k hk => by cases hk)
theorem Cur.push {W w w' : World} {b : Nat} {cv v v' : Value} (h : Cur W w b cv) (hg : Grewn w v w' v') (hv : ∀ k, v.ownBlock = some k → b < k) : Cur W w' b cv :=
  h.kept hg.1 (fun e => by have := hv b e.symm; omega) (fun k hk => by have := hv k hk; have := h.2.1; omega)
theorem Cur.lt {W w : World} {b : Nat} {cv : Value} (h : Cur W w b cv) : b < w.heap.size := by
  obtain ⟨_, _, i, hh, h3, _⟩ := h
  exact (Array.getElem?_eq_some_iff.1 h3).1
set_option maxHeartbeats 1000000 in
theorem once_any (W w : World) (b : Nat) (cv : Value) (n : Int) (hn : 0 < n) (hn2 : n ≤ 256) (hk : CodeOk W cv) (hc : Cur W w b cv) :
    Calls Tryd.prog 26 #[.pointer (some ⟨b, 0, none⟩), .int .i64 n] w fun e w' => ∃ x : Bool, e = .returned (.bool x) ∧ Cur W w' b cv ∧ w.grownBy w' (some b) := by
  have H := Lib.hid (below_small W w b cv n hn hn2 hk hc)
  clear hk hc
  go_enter Tryd.func26, Tryd.ntmps26
  go_wp2_with fail
  refine H.out.mono ?_
  rintro e w1 ⟨x, rfl, hx0, hx1, hc, hg⟩
  have HC := Lib.hid hc; have HG := Lib.hid hg; clear hc hg
  go_wp2
  go_ret
  exact ⟨_, rfl, HC.out, HG.out⟩
end Go.Proofs.YteahjnobnbafiaaDoor
