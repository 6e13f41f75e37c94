/-
  Calls of function values; contracts of grid.where, worldSet.isWithin, grid.others, grid.block, grid.near. Condition: the grid's lists are small.
-/
import Derived.Test.YtegmoojjffkacaaRea
import Derived.Shelf.Abstract
namespace Go.Proofs.Ytegmoojjffkacaa
open Go.RowKit Go.WideShapes
open Go Go.Deep
set_option linter.unusedSimpArgs false

/-- in every world that keeps what w has, the function k with what it has captured tells of each world below n whether it is in q -/
def Test (w : World) (k : FuncId) (caps : Array Value) (n : Nat) (q : Nat → Bool) : Prop :=
  Enters Try.prog k ∧ ∀ i, i < n → ∀ W, Below w.heap.size w W → Calls Try.prog k (#[.int .i64 i] ++ caps) W fun e W' => e = .returned (.bool (q i)) ∧ Below W.heap.size W W'
/-- the worlds below n of a set -/
def cut (n : Nat) (q : Nat → Bool) : Nat → Bool := fun i => decide (i < n) && q i
def cutK (n k : Nat) (q : Nat → Bool) : Nat → Bool := fun i => decide (i < n) && (decide (i < k) && q i)
theorem cutK_upd {n k : Nat} {q : Nat → Bool} (h : k < n) : upd (cutK n k q) k (q k) = cutK n (k + 1) q := by
  funext j
  unfold upd cutK
  by_cases e : j = k
  · subst e; simp [h]
  · rw [if_neg e]
    have : decide (j < k + 1) = decide (j < k) := by rw [decide_eq_decide]; omega
    rw [this]
theorem cutK_end {n : Nat} {q : Nat → Bool} : cutK n n q = cut n q := by
  funext j; unfold cutK cut; by_cases h : j < n <;> simp [h]

set_option maxRecDepth 100000 in
set_option maxHeartbeats 16000000 in
theorem where_any (n : Nat) (a c : Int) (f : List Int) (rows : List (List Int)) (hs : small f rows) (hn : n ≤ 16) (k : FuncId) (caps : Array Value) (q : Nat → Bool) (w : World) (ht : Test w k caps n q) :
    Calls Try.prog 102 #[.agg (ints (gL n a f rows c)).toArray, .func (.func k) #[] caps] w fun e w' => e = .returned (.agg (bL (cut n q)).toArray) ∧ Below w.heap.size w w' := by
  have HL : Hid ((ints (gL n a f rows c)).length = 67) := Lib.hid (by rw [ints_len]; exact gL_len hs)
  have HC : Hid (∀ (W : World) b T, Cm W b T (ints (gL n a f rows c)) → W.cell? ⟨b, 0, none⟩ = some (.int .i64 n)) := Lib.hid (fun W b T h => h.g0)
  have HZ : Hid (bL (fun _ => false) = bL (cutK n 0 q)) := Lib.hid (bL_congr fun i _ => by simp [cutK])
  have HE := Lib.hid ht.1
  have HT := Lib.hid ht.2
  generalize gL n a f rows c = G at *
  clear hs ht
  have hz := cutK_end (n := n) (q := q)
  rw [← hz]
  clear hz
  go_enter Try.func102, Try.ntmps102
  have tk1 : True := trivial
  have tk2 : True := trivial
  go_wp2_with
    (first
      | (have _t := tk1; clear _t tk1; refine wpList_allocM rfl 83 rfl (bL (fun _ => false)) Try.allocSet ?_
         intro w1 hc1 hb1 hs1
         have C0 : Hid (Cm w1 w.heap.size 75 (ints G)) := Lib.hid (Cm.all (Cm.new rfl) hb1)
         have R0 : Hid (Cm w1 (w.heap.size + 1) 83 (bL (fun _ => false))) := Lib.hid (by simpa using hc1)
         have B0 : Hid (Below w.heap.size w w1) := Lib.hid (Below.trans (by go_grown) (hb1.mono (by simp)))
         have hq1 : w.heap.size + 1 < w1.heap.size := R0.out.lt
         clear hc1 hb1 hs1)
      | (have _t := tk2; clear _t tk2; refine wpList_allocM rfl 83 rfl (bL (fun _ => false)) Try.allocSet ?_
         intro w3 hc2 hb2 hs2
         rw [HZ.out] at hc2
         have Z0 := Lib.hid hc2
         have C0 := Lib.hid (C0.out.all hb2)
         have R0 := Lib.hid (R0.out.all hb2)
         have B0 : Hid (Below w.heap.size w w3) := Lib.hid (B0.out.trans (hb2.mono B0.out.size))
         have g0 := HC.out _ _ _ C0.out
         clear hc2 hb2 hs2 HZ))
  clear g0
  go_loopw [9] (fun iv wr => ∃ j : Nat, j ≤ n ∧ iv = .int .i64 j ∧ Hid (Cm wr w1.heap.size 83 (bL (cutK n j q))) ∧ Hid (Cm wr (w.heap.size + 1) 83 (bL (fun _ => false))) ∧ Hid (Below w.heap.size w wr)) (fun iv _ => n - (intOf iv).toNat)
  case atStart => exact ⟨0, Nat.zero_le _, rfl, Z0, R0, B0⟩
  case round =>
    clear Z0 C0 R0 B0
    obtain ⟨j, hj, rfl, ZR, RR, BR⟩ := hrel
    by_cases hlt : j < n
    · have hj16 : j < 16 := by omega
      have hj0 : (0 : Int) ≤ (j : Int) := Int.natCast_nonneg _
      have hj16' : (j : Int) < 16 := by omega
      have HUP := Lib.hid (cutK_upd (q := q) hlt)
      have KT := Lib.hid (HT.out j hlt)
      have hent : ∀ args w, (callFunc k args).run Try.prog w = .ok (.enter k args) w := HE.out
      have tk3 : True := trivial
      go_wp2_with
        (first
          | (have _t := tk3; clear _t tk3; with_reducible refine (KT.out _ BR.out).mono ?_
             rintro e w5 ⟨rfl, hb5⟩
             have ZR := Lib.hid (ZR.out.all hb5)
             have RR := Lib.hid (RR.out.all hb5)
             have BR : Hid (Below w.heap.size w w5) := Lib.hid (BR.out.trans (hb5.mono BR.out.size))
             have ck := set_store _ hj16 ZR.out
             have fk := ZR.out.frozen j
             clear hb5))
      clear ck fk
      go_roundw
      case rel => exact ⟨j + 1, by omega, by go_num, Lib.hid (by rw [← HUP.out, ← bL_set]; exact ZR.out.set j _), Lib.hid (RR.out.other (by omega) _ _), Lib.hid (BR.out.setCell (by show _ ≤ w1.heap.size; omega) _)⟩
      case measure => simp [intOf]; omega
    · obtain rfl : j = n := by omega
      obtain ⟨PF, hPF⟩ : ∃ PF, PF = cutK j j q := ⟨_, rfl⟩
      rw [← hPF] at ZR
      have HPF := Lib.hid hPF
      clear hPF
      have tk4 : True := trivial
      have tk5 : True := trivial
      go_wp2_with
        (first
          | (have _t := tk4; clear _t tk4; refine wpList_loadM rfl 83 _ rfl w1.heap.size 0 rfl 83 (bL PF) (bL PF) ZR.out (fun j _ => by rw [Nat.zero_add]) _ Try.underlying83 rfl (by rw [bL_len]; exact Try.sizeSet) ?_)
          | (have _t := tk5; clear _t tk5; refine wpList_storeM rfl 83 (.tmp 4) (.tmp 18) rfl (w.heap.size + 1) 0 rfl (bL PF) rfl 83 _ RR.out (by rw [bL_len, bL_len]; exact Nat.le_refl _) (by rw [bL_len]; exact Try.sizeSet) (fun v hv => bL_one hv) ?_
             intro w5 hc5 ha5
             rw [lay'_all (by rw [bL_len, bL_len])] at hc5
             have R5 := Lib.hid hc5
             have B5 : Hid (Below w.heap.size w w5) := Lib.hid (BR.out.trans (ha5.below (by omega)))
             clear hc5 ha5))
      refine bodyPost_ret (results_mid1 Try.results102 _ _ (w.heap.size + 1) (bL PF) _ rfl R5.out.whole Try.underlying83 rfl (by rw [bL_len]; exact Try.sizeSet)) rfl ?_
      exact ⟨by rw [HPF.out], B5.out⟩
end Go.Proofs.Ytegmoojjffkacaa
