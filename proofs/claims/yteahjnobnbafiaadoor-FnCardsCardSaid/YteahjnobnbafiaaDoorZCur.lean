/-
  Several texts in one: Cur Cod. Conditions: as each theorem says.
-/
import Derived.Test.YteahjnobnbafiaaDoorRows
import Derived.Test.YteahjnobnbafiaaDoorZLib
import Derived.IntWalk
import Derived.Laws.Shifts
import Derived.Laws.Bits
import Derived.Laws.BitsAll
import Derived.OpenShut
/-
  Contracts of the laws' drawing of inputs: spec.l01New, l01Byte, l01Below, l01Str, l19New: the cursor stays a cursor, what is drawn lies in its range. Condition: the code has at most 1048576 bytes, each of its cells read as a byte.
-/
namespace Go.Proofs.YteahjnobnbafiaaDoor
open Go.RowKit
open Go

/-- the code that came in: a slice of bytes that lie below the heap's end -/
def CodeOk (W : World) (cv : Value) : Prop := ∃ (a : Option Addr) (len cap : Nat), cv = .slice a len cap ∧ len ≤ 1048576 ∧ len ≤ cap ∧
  ∀ j, j < len → ∃ cb co z, a = some ⟨cb, co, none⟩ ∧ cb < W.heap.size ∧ W.cell? ⟨cb, co + j, none⟩ = some (.int .u8 z) ∧ 0 ≤ z ∧ z ≤ 255
/-- block b holds a cursor over the code; nothing that was there has turned -/
def Cur (W w : World) (b : Nat) (cv : Value) : Prop := Below W.heap.size W w ∧ W.heap.size ≤ b ∧
  ∃ i h : Int, w.heap[b]? = some (.cells #[cv, .int .i64 i, .int .i64 h] 58 (0, 0)) ∧ 0 ≤ i ∧ i ≤ 1048576
theorem Cur.kept {W w w' : World} {b : Nat} {cv : Value} (h : Cur W w b cv) {row : Option Nat} (hg : w.grownBy w' row) (hne : some b ≠ row) (hr : ∀ k, row = some k → W.heap.size ≤ k) : Cur W w' b cv := by
  obtain ⟨h1, h2, i, hh, h3, h4⟩ := h
  exact ⟨h1.grown hg h1.size hr, h2, i, hh, by rw [hg.block b (Array.getElem?_eq_some_iff.1 h3).1 hne]; exact h3, h4⟩

theorem and_mask (e m : Int) (k : Nat) (hm : m = (k : Int)) (hk : k < 9223372036854775808) : 0 ≤ bits .and .i64 e m ∧ bits .and .i64 e m ≤ m := by
  subst hm
  show 0 ≤ IntKind.i64.wrap ((BitVec.ofInt 64 e &&& BitVec.ofInt 64 (k : Int)).toNat : Int) ∧ IntKind.i64.wrap ((BitVec.ofInt 64 e &&& BitVec.ofInt 64 (k : Int)).toNat : Int) ≤ k
  have h1 : (BitVec.ofInt 64 e &&& BitVec.ofInt 64 (k : Int)).toNat ≤ k := by
    rw [BitVec.toNat_and]
    refine Nat.le_trans Nat.and_le_right ?_
    rw [BitVec.ofInt_natCast, BitVec.toNat_ofNat]
    exact Nat.mod_le _ _
  rw [IntWalk.i64_in _ ⟨by omega, by omega⟩]
  omega
theorem block_set {w : World} {b j : Nat} {cs : Array Value} {T : TypeId} (h : w.heap[b]? = some (.cells cs T (0, 0))) (v : Value) : (w.setCell ⟨b, j, none⟩ v).heap[b]? = some (.cells (cs.setIfInBounds j v) T (0, 0)) := by
  simp [World.setCell, Array.getElem?_modify, h]
theorem grown_set (w : World) (b j : Nat) (v : Value) : w.grownBy (w.setCell ⟨b, j, none⟩ v) (some b) :=
  ⟨rfl, rfl, rfl, by simp [World.setCell], fun k _ hk => Below.heap_setCell _ _ _ _ (fun e => hk (by rw [e]))⟩
theorem grown_drewN (w : World) (n : Nat) (row : Option Nat) : w.grownBy (w.drewN n) row := ⟨rfl, rfl, rfl, Nat.le_refl _, fun _ _ _ => rfl⟩
theorem grown_trans {a b c : World} {row : Option Nat} (h : a.grownBy b row) (k : b.grownBy c row) : a.grownBy c row :=
  ⟨k.os.trans h.os, k.tape.trans h.tape, k.output.trans h.output, Nat.le_trans h.size k.size, fun i hi hn => (k.block i (Nat.lt_of_lt_of_le hi h.size) hn).trans (h.block i hi hn)⟩

set_option maxHeartbeats 1000000 in
theorem byte_any (W w : World) (b : Nat) (cv : Value) (hk : CodeOk W cv) (hc : Cur W w b cv) :
    Calls Tryd.prog 34 #[.pointer (some ⟨b, 0, none⟩)] w fun e w' => ∃ x : Int, e = .returned (.int .i64 x) ∧ 0 ≤ x ∧ x ≤ 255 ∧ Cur W w' b cv ∧ w.grownBy w' (some b) := by
  obtain ⟨hb1, hb2, i, h, hb, hi0, hi1⟩ := hc
  obtain ⟨a, len, cap, rfl, hl, hlc, hcode⟩ := hk
  have c0 : w.cell? ⟨b, 0, none⟩ = some (.slice a len cap) := by simp [World.cell?, hb]
  have c1 : w.cell? ⟨b, 1, none⟩ = some (.int .i64 i) := by simp [World.cell?, hb]
  have c2 : w.cell? ⟨b, 2, none⟩ = some (.int .i64 h) := by simp [World.cell?, hb]
  have f0 : ∀ j, w.frozen? ⟨b, j, none⟩ = false := fun j => by simp [World.frozen?, hb]
  have hf2 := f0 2
  have HB := Lib.hid hb
  have HB1 := Lib.hid hb1
  have HC := Lib.hid hcode
  have HF := Lib.hid f0
  clear hb hb1 hcode f0
  go_enter Tryd.func34, Tryd.ntmps34
  go_wp2
  go_quiet (fail)
  go_wp2
  obtain ⟨x0, x1⟩ := and_mask (bits .xor .i64 (wrap64 (wrap64 (h * 6364136223846793005) + 1442695040888963407) / 8589934592) (wrap64 (wrap64 (h * 6364136223846793005) + 1442695040888963407) / 35184372088832)) 255 255 rfl (by decide)
  generalize bits .and .i64 (bits .xor .i64 (wrap64 (wrap64 (h * 6364136223846793005) + 1442695040888963407) / 8589934592) (wrap64 (wrap64 (h * 6364136223846793005) + 1442695040888963407) / 35184372088832)) 255 = x at x0 x1 ⊢
  generalize wrap64 (wrap64 (h * 6364136223846793005) + 1442695040888963407) = h'
  by_cases hil : i < (len : Int)
  · obtain ⟨k, rfl⟩ : ∃ k : Nat, i = k := ⟨i.toNat, by omega⟩
    obtain ⟨cb, co, z, rfl, hcb, hcz, hz0, hz1⟩ := HC.out k (by omega)
    have hcw : w.cell? ⟨cb, co + k, none⟩ = some (.int .u8 z) := by rw [HB1.out.cell (p := ⟨cb, co + k, none⟩) hcb]; exact hcz
    have hne : cb ≠ b := by omega
    have hne' : b ≠ cb := by omega
    have hf1 := HF.out 1
    clear hcz
    go_quiet (fail)
    go_wp2
    go_quiet (fail)
    go_wp2
    obtain ⟨y0, y1⟩ := and_mask (x + z) 255 255 rfl (by decide)
    go_ret
    have g1 : ∀ n, w.grownBy ((w.setCell ⟨b, 2, none⟩ (.int .i64 h')).drewN n) (some b) := fun n => grown_trans (grown_set w b 2 _) (grown_drewN _ _ _)
    have g2 : ∀ n, w.grownBy (((w.setCell ⟨b, 2, none⟩ (.int .i64 h')).drewN n).setCell ⟨b, 1, none⟩ (.int .i64 ((k : Int) + 1))) (some b) := fun n => grown_trans (g1 n) (grown_set _ b 1 _)
    exact ⟨_, rfl, y0, y1, ⟨HB1.out.grown (g2 _) HB1.out.size (fun j hj => by cases hj; exact hb2), hb2, (k : Int) + 1, h', block_set (w := (w.setCell ⟨b, 2, none⟩ (.int .i64 h')).drewN _) (cs := #[.slice (some ⟨cb, co, none⟩) len cap, .int .i64 k, .int .i64 h']) (block_set HB.out _) _, by omega, by omega⟩, g2 _⟩
  · have hil' : decide (i < (len : Int)) = false := by simpa using hil
    go_quiet (fail)
    go_wp2
    go_ret
    have g1 : ∀ n, w.grownBy ((w.setCell ⟨b, 2, none⟩ (.int .i64 h')).drewN n) (some b) := fun n => grown_trans (grown_set w b 2 _) (grown_drewN _ _ _)
    exact ⟨x, rfl, x0, x1, ⟨HB1.out.grown (g1 _) HB1.out.size (fun j hj => by cases hj; exact hb2), hb2, i, h', block_set HB.out _, by omega, by omega⟩, g1 _⟩

set_option maxHeartbeats 1000000 in
set_option maxRecDepth 100000 in
theorem new_any (W : World) (cv : Value) (hk : CodeOk W cv) :
    Calls Tryd.prog 23 #[cv] W fun e w' => ∃ b, e = .returned (.pointer (some ⟨b, 0, none⟩)) ∧ Cur W w' b cv := by
  have HK := Lib.hid hk
  obtain ⟨a, len, cap, rfl, hl, hlc, hcode⟩ := hk
  have HC := Lib.hid hcode
  clear hcode
  go_enter Tryd.func23, Tryd.ntmps23
  go_wp2
  go_loop [3, 4] (fun h i => ∃ (q : Int) (k : Nat), k ≤ len ∧ h = .int .i64 q ∧ 0 ≤ q ∧ q ≤ 1073741823 ∧ i = .int .i64 k) (fun _ i => len - (intOf i).toNat)
  case atStart => exact ⟨_, 0, Nat.zero_le _, rfl, by omega, by omega, rfl⟩
  case round =>
    obtain ⟨q, k, hk, rfl, hq0, hq1, rfl⟩ := hrel
    by_cases hlt : k < len ∧ k < 4000
    · obtain ⟨hlt, h4⟩ := hlt
      obtain ⟨cb, co, z, rfl, hcb, hcz, hz0, hz1⟩ := HC.out k hlt
      obtain ⟨y0, y1⟩ := and_mask (q * 113 + z + 7) 1073741823 1073741823 (by omega) (by omega)
      go_wp2
      go_round
      case rel => exact ⟨_, k + 1, by omega, rfl, y0, y1, by go_num⟩
      case measure => simp [intOf]; omega
    · by_cases hl2 : k < len
      · have h4 : ¬ k < 4000 := fun h => hlt ⟨hl2, h⟩
        go_wp2
        go_ret
        exact ⟨W.heap.size, rfl, (Below.refl _ _).alloc (Nat.le_refl _) _, Nat.le_refl _, 0, q, heap_alloc_new W _, by omega, by omega⟩
      · go_wp2
        go_ret
        exact ⟨W.heap.size, rfl, (Below.refl _ _).alloc (Nat.le_refl _) _, Nat.le_refl _, 0, q, heap_alloc_new W _, by omega, by omega⟩

theorem Cur.step {W w w' w'' : World} {b : Nat} {cv : Value} (_h : Cur W w b cv) (hg : w.grownBy w' (some b)) (hg' : w'.grownBy w'' (some b)) : w.grownBy w'' (some b) := grown_trans hg hg'
theorem grown_refl (w : World) (row : Option Nat) : w.grownBy w row := ⟨rfl, rfl, rfl, Nat.le_refl _, fun _ _ _ => rfl⟩
theorem grown_alloc' (w : World) (o : Obj) (row : Option Nat) : w.grownBy (w.alloc o) row := World.grownBy_alloc w o row
theorem Cur.alloc {W w : World} {b : Nat} {cv : Value} (h : Cur W w b cv) (o : Obj) : Cur W (w.alloc o) b cv :=
  h.kept (row := none) (World.grownBy_alloc w o none) (by simp) (fun k hk => by cases hk)

set_option maxHeartbeats 1000000 in
theorem below_small (W w : World) (b : Nat) (cv : Value) (n : Int) (hn : 0 < n) (hn2 : n ≤ 256) (hk : CodeOk W cv) (hc : Cur W w b cv) :
    Calls Tryd.prog 33 #[.pointer (some ⟨b, 0, none⟩), .int .i64 n] w fun e w' => ∃ x : Int, e = .returned (.int .i64 x) ∧ 0 ≤ x ∧ x < n ∧ Cur W w' b cv ∧ w.grownBy w' (some b) := by
  have H := Lib.hid (byte_any W w b cv hk hc)
  clear hk hc
  go_enter Tryd.func33, Tryd.ntmps33
  go_wp2_with fail
  refine H.out.mono ?_
  rintro e w1 ⟨x, rfl, hx0, hx1, hc, hg⟩
  have HC := Lib.hid hc; have HG := Lib.hid hg; clear hc hg
  have hm0 : 0 ≤ x % n := Int.emod_nonneg _ (by omega)
  have hm1 : x % n < n := Int.emod_lt_of_pos _ hn
  go_wp2
  go_ret
  exact ⟨_, rfl, hm0, hm1, HC.out, HG.out⟩
end Go.Proofs.YteahjnobnbafiaaDoor

/-
  The code that came in, and what is drawn of it: spec.l19New, MakeNum; the opening of a []byte. Condition: the code has at most 1048576 bytes.
-/
namespace Go.Proofs.YteahjnobnbafiaaDoor
open Go.RowKit Go.WideShapes Go.ChangeShapes
open Go

/-- the bytes that came in -/
def InBytes (W : World) (v : Value) (len : Nat) : Prop := ∃ (a : Option Addr) (cap : Nat), v = .slice a len cap ∧ len ≤ cap ∧ cap ≤ maxLen ∧
  ∀ j, j < len → ∃ cb co z, a = some ⟨cb, co, none⟩ ∧ cb < W.heap.size ∧ W.cell? ⟨cb, co + j, none⟩ = some (.int .u8 z) ∧ 0 ≤ z ∧ z ≤ 255
theorem InBytes.code {W : World} {v : Value} {len : Nat} (h : InBytes W v len) (hl : len ≤ 1048576) : CodeOk W v := by
  obtain ⟨a, cap, rfl, h1, h2, h3⟩ := h
  exact ⟨a, len, cap, rfl, hl, h1, h3⟩
theorem CodeOk.below {w w' : World} {cv : Value} {B : Nat} (h : CodeOk w cv) (hb : Below B w w') (hB : w.heap.size ≤ B) : CodeOk w' cv := by
  obtain ⟨a, len, cap, rfl, h1, h2, h3⟩ := h
  refine ⟨a, len, cap, rfl, h1, h2, fun j hj => ?_⟩
  obtain ⟨cb, co, z, e, hlt, hc, hz⟩ := h3 j hj
  exact ⟨cb, co, z, e, Nat.lt_of_lt_of_le hlt hb.size, by rw [hb.cell (p := ⟨cb, co + j, none⟩) (Nat.lt_of_lt_of_le hlt hB)]; exact hc, hz⟩
set_option maxRecDepth 100000 in
theorem open_Slbyte {H : Type} {enc : TypeId × Value → H} (W : World) (base : Nat) (v : Value) (d : DataW H) (p : List MemPlace) (hv : Value.okWide Tryd.prog W .any base 24 v)
    (h : DataW.Trod enc Tryd.prog W 0 (fun _ => true) true 24 v d p) : ∃ len, InBytes W v len := by
  obtain ⟨a0, len0, cap0, rfl⟩ := okWide_slice Tryd.underlying24 hv
  obtain ⟨fuel, hf⟩ := h
  rcases Go.ChangeShapes.open_ints Tryd.underlying24 Tryd.underlying5 (by kernel_rfl) hf with ⟨hcs, _⟩ | ⟨x, l, c, zs, hcs, _, hl, hm, hz, _, hcell, hwz⟩
  · simp [Value.cells] at hcs
    obtain ⟨rfl, rfl, rfl⟩ := hcs
    exact ⟨0, none, 0, rfl, Nat.le_refl _, by decide, fun j hj => by omega⟩
  · simp [Value.cells] at hcs
    obtain ⟨rfl, rfl, rfl⟩ := hcs
    simp only [if_true] at hz
    refine ⟨len0, some x, cap0, rfl, hl, hm, fun j hj => ?_⟩
    obtain ⟨cb, co, rfl, hcc⟩ := _root_.Go.ints_at hcell (by omega)
    have hj' := hcc j (by omega)
    refine ⟨cb, co, zs.getD j 0, rfl, World.block_lt_of_cell? W _ hj', hj', ?_⟩
    have hb := range_u8 hwz j
    rw [List.getD_eq_getElem?_getD]
    exact hb

set_option maxHeartbeats 1000000 in
theorem newAt_any (W : World) (cv : Value) (n : Nat) (hn : n ≤ 1000) (hk : CodeOk W cv) :
    Calls Tryd.prog 24 #[cv, .int .i64 n] W fun e w' => ∃ b, e = .returned (.pointer (some ⟨b, 0, none⟩)) ∧ Cur W w' b cv := by
  have HK := Lib.hid hk
  clear hk
  go_enter Tryd.func24, Tryd.ntmps24
  go_wp2_with fail
  refine (new_any W cv HK.out).mono ?_
  rintro e w1 ⟨b, rfl, hc⟩
  have HC := Lib.hid hc; clear hc
  go_wp2_with fail
  go_loopw [6] (fun i wr => ∃ k : Nat, k ≤ n ∧ i = .int .i64 k ∧ Hid (Cur W wr b cv)) (fun i _ => n - (intOf i).toNat)
  case atStart => exact ⟨0, Nat.zero_le _, rfl, HC⟩
  case round =>
    obtain ⟨k, hk, rfl, H⟩ := hrel
    by_cases hlt : k < n
    · go_wp2_with (go_at_call 34; refine (byte_any W _ b cv HK.out H.out).mono ?_; rintro e w2 ⟨x, rfl, hx0, hx1, hc2, _⟩; have HC2 := Lib.hid hc2; clear hc2)
      go_roundw
      case rel => exact ⟨k + 1, by omega, by go_num, HC2⟩
      case measure => simp [intOf]; omega
    · go_wp2
      go_ret
      exact ⟨b, rfl, H.out⟩

end Go.Proofs.YteahjnobnbafiaaDoor
