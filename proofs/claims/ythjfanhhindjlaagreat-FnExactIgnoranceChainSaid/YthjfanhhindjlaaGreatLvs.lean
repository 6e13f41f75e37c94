/-
  The program's sequence of sets, grid.levels, the first set that has a world (stepsTo). Conditions: the grid is small, the sets lie within it.
-/
import Derived.Test.YthjfanhhindjlaaGreatZRch
import Derived.Test.YthjfanhhindjlaaGreatBsl
import Derived.Test.YthjfanhhindjlaaGreatBal
namespace Go.Proofs.YthjfanhhindjlaaGreat
open Go.RowKit Go.WideShapes Go.Shelf
open Go Go.Deep
set_option linter.unusedSimpArgs false

/-- the worlds of a set and those at most k steps away -/
def levP (rows : List (List Int)) (n a : Nat) (p : Nat → Bool) : Nat → Nat → Bool
  | 0 => p
  | k + 1 => wid rows n a (levP rows n a p k)
theorem levP_in {rows : List (List Int)} {n a : Nat} {p : Nat → Bool} (hp : ∀ i, p i = true → i < n) : ∀ k i, levP rows n a p k i = true → i < n
  | 0, i, h => hp i h
  | k + 1, i, h => by
    unfold levP wid widK at h
    rw [Bool.and_eq_true, decide_eq_true_eq] at h
    exact h.1
def setsV (L : Nat → Nat → Bool) (n : Nat) : List Value := (List.range n).flatMap fun k => bL (L k)
theorem setsV_succ (L : Nat → Nat → Bool) (n : Nat) : setsV L (n + 1) = setsV L n ++ bL (L n) := by unfold setsV; rw [List.range_succ, List.flatMap_append]; simp
theorem setsV_len (L : Nat → Nat → Bool) : ∀ n, (setsV L n).length = n * 16
  | 0 => rfl
  | n + 1 => by rw [setsV_succ, List.length_append, setsV_len L n, bL_len]; omega
theorem setsV_at {L : Nat → Nat → Bool} {j : Nat} (hj : j < 16) : ∀ {n k : Nat}, k < n → (setsV L n)[k * 16 + j]? = (bL (L k))[j]?
  | 0, k, h => absurd h (Nat.not_lt_zero _)
  | n + 1, k, h => by
    rw [setsV_succ]
    rcases Nat.lt_or_eq_of_le (Nat.le_of_lt_succ h) with h1 | rfl
    · rw [List.getElem?_append_left (by rw [setsV_len]; omega), setsV_at hj h1]
    · rw [List.getElem?_append_right (by rw [setsV_len]; omega), setsV_len, Nat.add_sub_cancel_left]
/-- the slice v holds the first N sets -/
def SetsV (w : World) (v : Value) (L : Nat → Nat → Bool) (N : Nat) : Prop := ∃ g cap cs, v = .slice (some ⟨g, 0, none⟩) N cap ∧ N ≤ cap ∧ cap ≤ maxLen ∧ g < w.heap.size ∧ Cm w g 77 cs ∧ ∀ k, k < N → ∀ j, j < 16 → cs[k * 16 + j]? = (bL (L k))[j]?
theorem SetsV.of_own {w : World} {base : Nat} {v : Value} {L : Nat → Nat → Bool} {N : Nat} (h0 : 0 < N) (h : w.ownsRow base 77 16 v N (setsV L N)) : SetsV w v L N := by
  rcases h.2 with ⟨_, h1⟩ | ⟨g, cap, cur, rfl, hb, hg, h1, h2, h3, h4⟩
  · omega
  · refine ⟨g, cap, cur.toList, rfl, h1, h2, (Array.getElem?_eq_some_iff.1 hg).1, by unfold Cm; rw [hg], fun k hk j hj => ?_⟩
    have e1 : cur.toList[k * 16 + j]? = (cur.toList.take (N * 16))[k * 16 + j]? := by rw [List.getElem?_take_of_lt (by omega)]
    rw [e1, h4]
    exact setsV_at hj hk
theorem SetsV.below {w w' : World} {v : Value} {L : Nat → Nat → Bool} {N : Nat} (h : SetsV w v L N) (hb : Below w.heap.size w w') : SetsV w' v L N := by
  obtain ⟨g, cap, cs, h1, h2, h3, h4, h5, h6⟩ := h
  exact ⟨g, cap, cs, h1, h2, h3, Nat.lt_of_lt_of_le h4 hb.size, h5.all hb, h6⟩
theorem Tryz.bsSet (w : World) (p : Nat → Bool) : (Instr.buildSlice 70 1 #[(0, .agg (bL p).toArray)]).run Tryz.prog w = .ok (.slice (some ⟨w.heap.size, 0, none⟩) 1 1) (w.alloc (.cells (bL p).toArray 77)) := by kernel_rfl
theorem Tryz.infoSet : (Tryz.prog.info? 77).map (fun i => (i.zero, i.size, i.bytes)) = some (some (.agg (bL fun _ => false).toArray), 16, 16) := by kernel_rfl

set_option maxRecDepth 100000 in
set_option maxHeartbeats 16000000 in
theorem seqSet_any (L : Nat → Nat → Bool) (N : Nat) (x : Int) (hx : x = (N : Int)) (hN : N ≤ 15) (k : FuncId) (caps : Array Value) (w : World) (hent0 : Enters Tryz.prog k)
    (hk : ∀ i, i < N → ∀ W, Below w.heap.size w W → Calls Tryz.prog k (#[.agg (bL (L i)).toArray, .int .i64 ((i : Int) + 1)] ++ caps) W fun e W' => e = .returned (.agg (bL (L (i + 1))).toArray) ∧ Below W.heap.size W W') :
    Calls Tryz.prog 100 #[.agg (bL (L 0)).toArray, .int .i64 x, .func (.func k) #[] caps] w fun e w' => ∃ v, e = .returned v ∧ w'.ownsRow w.heap.size 77 16 v (N + 1) (setsV L (N + 1)) ∧ Below w.heap.size w w' := by
  have HK := Lib.hid hk
  have HSS := Lib.hid (setsV_succ L)
  have HSO := Lib.hid (fun (W : World) base v n (h0 : 0 < n) (h : W.ownsRow base 77 16 v n (setsV L n)) => SetsV.of_own h0 h)
  unfold SetsV at HSO
  obtain ⟨i0, hi, hz0, hz1, hz2⟩ := info_parts Tryz.infoSet
  clear hk
  subst hx
  go_enter Tryz.func100, Tryz.ntmps100
  have x1 : Cm (w.alloc (.cells (bL (L 0)).toArray 77)) w.heap.size 77 (bL (L 0)) := Cm.new rfl
  have C0 := Lib.hid x1
  have B0 : Hid (Below w.heap.size w (w.alloc (.cells (bL (L 0)).toArray 77))) := Lib.hid (by go_grown)
  clear x1
  have tk1 : True := trivial
  have tk2 : True := trivial
  go_wp2_with
    (first
      | (have _t := tk1; clear _t tk1; refine wpList_loadM rfl 77 (.tmp 3) rfl w.heap.size 0 rfl 77 _ _ C0.out (fun j _ => by rw [Nat.zero_add]) _ Tryz.underlying77 rfl (by rw [bL_len]; exact Tryz.sizeSet) ?_)
      | (have _t := tk2; clear _t tk2; refine wpList_buildSliceM rfl 70 1 _ rfl #[(0, .agg (bL (L 0)).toArray)] (by simp only [List.map_toArray, List.map_cons, List.map_nil]; rfl) (bL (L 0)) 77 (Tryz.bsSet _ _) ?_
         intro w4 hc4 hb4
         have S4 := Lib.hid (own_cm1 (base := w.heap.size) hc4 (by simp))
         have B4 : Hid (Below w.heap.size w w4) := Lib.hid (B0.out.trans (hb4.mono B0.out.size))
         clear hc4 hb4 C0 B0))
  rw [bL_len] at S4
  go_loopw [7, 12] (fun sv iv wr => ∃ (i : Nat) (sv' : Value), i ≤ N ∧ iv = .int .i64 i ∧ sv' = sv ∧ Hid (wr.ownsRow w.heap.size 77 16 sv' (i + 1) (setsV L (i + 1))) ∧ Hid (Below w.heap.size w wr)) (fun _ iv _ => N - (intOf iv).toNat)
  case atStart => exact ⟨0, _, Nat.zero_le _, rfl, rfl, Lib.hid (by rw [HSS.out]; have h := S4.out; rw [World.size_alloc] at h; exact h), B4⟩
  case round =>
    clear S4 B4
    obtain ⟨i, sv, hiN, rfl, rfl, SR, BR⟩ := hrel
    by_cases hlt : i < N
    · have HSB : Hid (∀ q, sv.ownBlock = some q → w.heap.size ≤ q ∧ q < wr.heap.size) := Lib.hid (fun q hq => SR.out.lt q hq)
      obtain ⟨g, cap, cs, rfl, h1, h2, h3, h4, h5⟩ := HSO.out wr w.heap.size sv (i + 1) (Nat.succ_pos i) SR.out
      unfold maxLen at h2
      have GC := Lib.hid h4
      have GD := Lib.hid (fun j (hj : j < (bL (L i)).length) => h5 i (Nat.lt_succ_self i) j (by rwa [bL_len] at hj))
      have HKi := Lib.hid (HK.out i hlt)
      have szr : w.heap.size ≤ wr.heap.size := BR.out.size
      have i0' : (0 : Int) ≤ (i : Int) := Int.natCast_nonneg _
      have i15 : (i : Int) < 15 := by omega
      have iN : (i : Int) < (N : Int) := by omega
      have hent : ∀ args w, (callFunc k args).run Tryz.prog w = .ok (.enter k args) w := hent0
      clear h4 h5
      have tk3 : True := trivial
      have tk4 : True := trivial
      have tk5 : True := trivial
      have tk6 : True := trivial
      go_wp2_with
        (first
          | (have _t := tk3; clear _t tk3; refine wpList_loadM rfl 77 (.tmp 19) rfl g (i * 16) rfl 77 cs (bL (L i)) GC.out GD.out _ Tryz.underlying77 rfl (by rw [bL_len]; exact Tryz.sizeSet) ?_)
          | (have _t := tk4; clear _t tk4; with_reducible refine (HKi.out _ BR.out).mono ?_
             rintro e w5 ⟨rfl, hb5⟩
             have S5 := Lib.hid (own_below' SR.out hb5)
             have B5 := Lib.hid (BR.out.trans (hb5.mono BR.out.size))
             have lt5 : wr.heap.size ≤ w5.heap.size := hb5.size
             clear hb5 SR BR GC GD)
          | (have _t := tk5; clear _t tk5; refine wpList_buildSliceM rfl 70 1 _ rfl #[(0, .agg (bL (L (i + 1))).toArray)] (by simp only [List.map_toArray, List.map_cons, List.map_nil]; rfl) (bL (L (i + 1))) 77 (Tryz.bsSet _ _) ?_
             intro w9 hc4 hb4
             have T9 := Lib.hid hc4
             have S9 := Lib.hid (own_below' S5.out hb4)
             have B9 := Lib.hid (B5.out.trans (hb4.mono B5.out.size))
             have lt9 : w5.heap.size < w9.heap.size := hc4.lt
             clear hc4 hb4 S5 B5)
          | (have _t := tk6; clear _t tk6; at_builtin; refine wpList_append_own_at _ rfl _ _ 70 rfl w.heap.size 77 i0 (.agg (bL fun _ => false).toArray) 16 16 Tryz.underlying70 hi hz0 hz1 hz2 rfl (by decide) _ (i + 1) _ rfl S9.out ⟨w5.heap.size, 0, none⟩ 1 1 (bL (L (i + 1))) rfl (by rw [bL_len]) (fun j u hu => by rw [← hu, ← T9.out.cell, addr_add0, Nat.zero_add]) (fun v hv => bL_one hv) (by unfold maxLen; omega) (by omega) (by omega) ?_
             intro sv' w10 hown hg10 _ _
             have S10 := Lib.hid hown
             rw [← HSS.out] at S10
             have B10 : Hid (Below w.heap.size w w10) := Lib.hid (B9.out.grown hg10 B9.out.size (fun j e => (HSB.out _ e).1))
             clear hown hg10 S9 B9 T9))
      go_roundw
      case rel => exact ⟨i + 1, _, by omega, by go_num, rfl, S10, B10⟩
      case measure => simp [intOf]; omega
    · obtain rfl : i = N := by omega
      go_wp2
      go_ret
      exact ⟨_, rfl, SR.out, BR.out⟩

/-- the function that makes the next level -/
def NextSet (w : World) (k : FuncId) (caps : Array Value) (n : Nat) (F : (Nat → Bool) → Nat → Bool) : Prop :=
  Enters Tryz.prog k ∧ ∀ p : Nat → Bool, (∀ i, p i = true → i < n) → ∀ (x : Int) W, Below w.heap.size w W → Calls Tryz.prog k (#[.agg (bL p).toArray, .int .i64 x] ++ caps) W fun e W' => e = .returned (.agg (bL (F p)).toArray) ∧ Below W.heap.size W W'
set_option maxRecDepth 100000 in
set_option maxHeartbeats 8000000 in
theorem levels_next (w : World) (bg : Nat) (n a : Nat) (c : Int) (f : List Int) (rows : List (List Int)) (hs : small f rows) (hn : n ≤ 16) (ha : a ≤ 3) (hg : Cm w bg 69 (ints (gL n a f rows c))) :
    NextSet w 101 #[.pointer (some ⟨bg, 0, none⟩)] n (wid rows n a) := by
  refine ⟨enters_of Tryz.func101 (by kernel_rfl) rfl, fun p hp x W hW => ?_⟩
  show Calls Tryz.prog 101 #[.agg (bL p).toArray, .int .i64 x, .pointer (some ⟨bg, 0, none⟩)] W _
  have KC := Lib.hid (fun W => widened_any n a c f rows hs hn ha p hp W)
  have HL : Hid ((ints (gL n a f rows c)).length = 67) := Lib.hid (by rw [ints_len]; exact gL_len hs)
  have CG := Lib.hid (hg.all hW)
  generalize gL n a f rows c = G at *
  generalize wid rows n a p = PF at *
  clear hs hg hW hp
  go_enter Tryz.func101, Tryz.ntmps101
  have tk7 : True := trivial
  have tk8 : True := trivial
  have tk9 : True := trivial
  have tk10 : True := trivial
  have tk11 : True := trivial
  go_wp2_with
    (first
      | (have _t := tk7; clear _t tk7; refine wpList_allocM rfl 77 rfl (bL (fun _ => false)) Tryz.allocSet ?_
         intro w1 hc1 hb1 hs1
         have S0 : Hid (Cm w1 W.heap.size 77 (bL p)) := Lib.hid (Cm.all (Cm.new rfl) hb1)
         have R0 : Hid (Cm w1 (W.heap.size + 1) 77 (bL (fun _ => false))) := Lib.hid (by simpa using hc1)
         have B0 : Hid (Below W.heap.size W w1) := Lib.hid (Below.trans (by go_grown) (hb1.mono (by simp)))
         have CG := Lib.hid (CG.out.all B0.out)
         clear hc1 hb1 hs1)
      | (have _t := tk8; clear _t tk8; refine wpList_loadM rfl 69 _ rfl bg 0 rfl 69 (ints G) (ints G) CG.out (fun j _ => by rw [Nat.zero_add]) _ Tryz.underlying69 rfl (by rw [HL.out]; exact Tryz.sizeGrid) ?_)
      | (have _t := tk9; clear _t tk9; refine wpList_loadM rfl 77 (.tmp 3) rfl W.heap.size 0 rfl 77 _ _ S0.out (fun j _ => by rw [Nat.zero_add]) _ Tryz.underlying77 rfl (by rw [bL_len]; exact Tryz.sizeSet) ?_)
      | (have _t := tk10; clear _t tk10; go_at_call 102; (with_reducible refine (KC.out _).mono ?_); rintro e w2 ⟨rfl, hb2⟩; have R2 := Lib.hid (R0.out.all hb2); have B2 := Lib.hid (B0.out.trans (hb2.mono B0.out.size)); clear hb2)
      | (have _t := tk11; clear _t tk11; refine wpList_storeM rfl 77 (.tmp 5) (.tmp 8) rfl (W.heap.size + 1) 0 rfl (bL PF) rfl 77 _ R2.out (by rw [bL_len, bL_len]; exact Nat.le_refl _) (by rw [bL_len]; exact Tryz.sizeSet) (fun v hv => bL_one hv) ?_
         intro w5 hc5 ha5
         rw [lay'_all (by rw [bL_len, bL_len])] at hc5
         have R5 := Lib.hid hc5
         have B5 : Hid (Below W.heap.size W w5) := Lib.hid (B2.out.trans (ha5.below (by omega)))
         clear hc5 ha5))
  refine bodyPost_ret (results_mid1 Tryz.results101 _ _ (W.heap.size + 1) (bL PF) _ rfl R5.out.whole Tryz.underlying77 rfl (by rw [bL_len]; exact Tryz.sizeSet)) rfl ?_
  exact ⟨rfl, B5.out⟩

set_option maxRecDepth 100000 in
set_option maxHeartbeats 8000000 in
theorem levels_any (n a : Nat) (c : Int) (f : List Int) (rows : List (List Int)) (hs : small f rows) (h1 : 1 ≤ n) (hn : n ≤ 16) (ha : a ≤ 3) (p : Nat → Bool) (hp : ∀ i, p i = true → i < n) (w : World) :
    Calls Tryz.prog 64 #[.agg (ints (gL n a f rows c)).toArray, .agg (bL p).toArray] w fun e w' => ∃ v, e = .returned v ∧ w'.ownsRow w.heap.size 77 16 v n (setsV (levP rows n a p) n) ∧ Below w.heap.size w w' := by
  have HL : Hid ((ints (gL n a f rows c)).length = 67) := Lib.hid (by rw [ints_len]; exact gL_len hs)
  have HC : Hid (∀ (W : World) b T, Cm W b T (ints (gL n a f rows c)) → W.cell? ⟨b, 0, none⟩ = some (.int .i64 n)) := Lib.hid (fun W b T h => h.g0)
  have KN := Lib.hid (fun W bg hg => levels_next W bg n a c f rows hs hn ha hg)
  have KS := Lib.hid (fun caps W (h : NextSet W 101 caps n (wid rows n a)) => seqSet_any (levP rows n a p) (n - 1) ((n : Int) - 1) (by omega) (by omega) 101 caps W h.1 (fun i _ W' hW => h.2 (levP rows n a p i) (levP_in hp i) _ W' hW))
  rw [show n - 1 + 1 = n by omega] at KS
  rw [show levP rows n a p 0 = p from rfl] at KS
  generalize gL n a f rows c = G at *
  generalize levP rows n a p = LP at *
  clear hp hs
  have n0 : (1 : Int) ≤ (n : Int) := by omega
  have n16 : (n : Int) ≤ 16 := by omega
  go_enter Tryz.func64, Tryz.ntmps64
  have hmf : ∀ (fn : Fn) (first cap : Array Value) (w : World), (Instr.makeFunc fn first cap).run Tryz.prog w = .ok (.func fn first cap) w := fun _ _ _ _ => rfl
  have x1 : Cm ((w.alloc (.cells (ints G).toArray 69)).alloc (.cells (bL p).toArray 77)) w.heap.size 69 (ints G) := (Cm.new rfl).alloc _
  have C0 := Lib.hid x1
  have S0 : Hid (Cm ((w.alloc (.cells (ints G).toArray 69)).alloc (.cells (bL p).toArray 77)) (w.heap.size + 1) 77 (bL p)) := Lib.hid (Cm.new (by simp))
  have B0 : Hid (Below w.heap.size w ((w.alloc (.cells (ints G).toArray 69)).alloc (.cells (bL p).toArray 77))) := Lib.hid (by go_grown)
  have c0 := HC.out _ _ _ x1
  clear x1
  have tk12 : True := trivial
  have tk13 : True := trivial
  go_wp2_with
    (first
      | (have _t := tk12; clear _t tk12; refine wpList_loadM rfl 77 (.tmp 3) rfl (w.heap.size + 1) 0 rfl 77 _ _ S0.out (fun j _ => by rw [Nat.zero_add]) _ Tryz.underlying77 rfl (by rw [bL_len]; exact Tryz.sizeSet) ?_)
      | (have _t := tk13; clear _t tk13; with_reducible refine (KS.out _ _ (KN.out _ _ C0.out)).mono ?_
         rintro e w5 ⟨v, rfl, ho5, hb5⟩
         have O5 := Lib.hid ho5
         have B5 := Lib.hid (B0.out.trans (hb5.mono B0.out.size))
         clear ho5 hb5 c0))
  go_ret
  exact ⟨v, rfl, own_mono O5.out B0.out.size, B5.out⟩

/-- the number of the first of N that has a property, or -1 -/
def idxI (q : Nat → Bool) (N : Nat) : Int := match leastK q N with | some k => (k : Int) | none => -1
theorem idxI_hit {q : Nat → Bool} {N k : Nat} (hk : k < N) (h1 : q k = true) (h2 : ∀ j, j < k → q j = false) : idxI q N = (k : Int) := by
  unfold idxI; rw [leastK_some.2 ⟨hk, h1, h2⟩]
theorem idxI_none {q : Nat → Bool} {N : Nat} (h : ∀ j, j < N → q j = false) : idxI q N = -1 := by
  unfold idxI; rw [leastK_none.2 h]
set_option maxRecDepth 100000 in
set_option maxHeartbeats 8000000 in
theorem indexS_any (v : Value) (L : Nat → Nat → Bool) (N : Nat) (hN : N ≤ 16) (k : FuncId) (caps : Array Value) (q : Nat → Bool) (w : World) (hv : SetsV w v L N) (hent0 : Enters Tryz.prog k)
    (ht : ∀ i, i < N → ∀ W, Below w.heap.size w W → Calls Tryz.prog k (#[.agg (bL (L i)).toArray] ++ caps) W fun e W' => e = .returned (.bool (q i)) ∧ Below W.heap.size W W') :
    Calls Tryz.prog 66 #[v, .func (.func k) #[] caps] w fun e w' => e = .returned (.int .i64 (idxI q N)) ∧ Below w.heap.size w w' := by
  obtain ⟨g, cap, cs, rfl, h1, h2, h3, h4, h5⟩ := hv
  unfold maxLen at h2
  have HC := Lib.hid (fun W (h : Below w.heap.size w W) => h4.all h)
  have HD := Lib.hid (fun i hi j (hj : j < (bL (L i)).length) => h5 i hi j (by rwa [bL_len] at hj))
  have HT := Lib.hid ht
  have HY := Lib.hid (fun k hk h1 h2 => idxI_hit (q := q) (N := N) (k := k) hk h1 h2)
  have HZ := Lib.hid (fun h => idxI_none (q := q) (N := N) h)
  clear h4 h5 ht
  generalize idxI q N = R at *
  go_enter Tryz.func66, Tryz.ntmps66
  go_wp2
  go_loopw [8] (fun iv wr => ∃ j : Nat, j ≤ N ∧ iv = .int .i64 j ∧ Hid (∀ i, i < j → q i = false) ∧ Hid (Below w.heap.size w wr)) (fun iv _ => N - (intOf iv).toNat)
  case atStart => exact ⟨0, Nat.zero_le _, rfl, Lib.hid (fun i h => absurd h (Nat.not_lt_zero _)), Lib.hid (Below.refl _ _)⟩
  case round =>
    obtain ⟨j, hj, rfl, HF, BR⟩ := hrel
    by_cases hlt : j < N
    · have hj0 : (0 : Int) ≤ (j : Int) := Int.natCast_nonneg _
      have hjn : (j : Int) < (N : Int) := by omega
      have GC := Lib.hid (HC.out _ BR.out)
      have GD := Lib.hid (HD.out j hlt)
      have HYj := Lib.hid (fun h => HY.out j hlt h HF.out)
      have KT := Lib.hid (HT.out j hlt)
      have HF2 : Hid (q j = false → ∀ i, i < j + 1 → q i = false) := Lib.hid (fun h i hi => by
        rcases Nat.lt_or_eq_of_le (Nat.le_of_lt_succ hi) with h1 | rfl
        · exact HF.out i h1
        · exact h)
      obtain ⟨b, hb⟩ : ∃ b, b = q j := ⟨_, rfl⟩
      rw [← hb] at HYj KT HF2
      clear hb
      have hent : ∀ args w, (callFunc k args).run Tryz.prog w = .ok (.enter k args) w := hent0
      cases b with
      | true =>
        have HRt := Lib.hid (HYj.out rfl)
        clear HYj HF2
        have tk14 : True := trivial
        have tk15 : True := trivial
        go_wp2_with
          (first
            | (have _t := tk14; clear _t tk14; refine wpList_loadM rfl 77 (.tmp 14) rfl g (j * 16) rfl 77 cs (bL (L j)) GC.out GD.out _ Tryz.underlying77 rfl (by rw [bL_len]; exact Tryz.sizeSet) ?_)
            | (have _t := tk15; clear _t tk15; with_reducible refine (KT.out _ BR.out).mono ?_
               rintro e w5 ⟨rfl, hb5⟩
               have BR : Hid (Below w.heap.size w w5) := Lib.hid (BR.out.trans (hb5.mono BR.out.size))
               clear hb5))
        go_ret
        exact ⟨by rw [HRt.out]; rfl, BR.out⟩
      | false =>
        have HF3 := Lib.hid (HF2.out rfl)
        clear HYj HF2
        have tk16 : True := trivial
        have tk17 : True := trivial
        go_wp2_with
          (first
            | (have _t := tk16; clear _t tk16; refine wpList_loadM rfl 77 (.tmp 14) rfl g (j * 16) rfl 77 cs (bL (L j)) GC.out GD.out _ Tryz.underlying77 rfl (by rw [bL_len]; exact Tryz.sizeSet) ?_)
            | (have _t := tk17; clear _t tk17; with_reducible refine (KT.out _ BR.out).mono ?_
               rintro e w5 ⟨rfl, hb5⟩
               have BR : Hid (Below w.heap.size w w5) := Lib.hid (BR.out.trans (hb5.mono BR.out.size))
               clear hb5))
        go_roundw
        case rel => exact ⟨j + 1, by omega, by go_num, HF3, BR⟩
        case measure => simp [intOf]; omega
    · obtain rfl : j = N := by omega
      have HRf := Lib.hid (HZ.out HF.out)
      go_wp2
      go_ret
      exact ⟨by rw [HRf.out]; rfl, BR.out⟩

set_option maxRecDepth 100000 in
set_option maxHeartbeats 8000000 in
theorem stepsTo_any (v : Value) (L : Nat → Nat → Bool) (N : Nat) (hN : N ≤ 16) (x : Nat) (hx : x < 16) (w : World) (hv : SetsV w v L N) :
    Calls Tryz.prog 38 #[v, .int .i64 x] w fun e w' => e = .returned (.int .i64 (idxI (fun k => L k x) N)) ∧ Below w.heap.size w w' := by
  have KT : Hid (∀ (w : World) b, Cm w b 3 [.int .i64 x] → ∀ p W, Below w.heap.size w W → Calls Tryz.prog 67 #[.agg (bL p).toArray, .pointer (some ⟨b, 0, none⟩)] W fun e W' => e = .returned (.bool (p x)) ∧ Below W.heap.size W W') := Lib.hid (fun w b hb p W hW => by
    have c1 := ((hb.all hW).alloc (.cells (bL p).toArray 77)).one
    have cx : (W.alloc (.cells (bL p).toArray 77)).cell? ⟨W.heap.size, x, none⟩ = some (.bool (p x)) := by
      rw [(Cm.new (w := W) (T := 77) (cs := bL p) rfl).cell, bL_get p hx]
    have x0 : (0 : Int) ≤ (x : Int) := Int.natCast_nonneg _
    have x16 : (x : Int) < 16 := by omega
    clear hb hW
    generalize bL p = PB at *
    generalize p x = r at *
    go_enter Tryz.func67, Tryz.ntmps67
    go_wp2
    go_ret
    exact ⟨rfl, by go_grown⟩)
  have KI := Lib.hid (fun caps W (hv : SetsV W v L N) hk => indexS_any v L N hN 67 caps (fun k => L k x) W hv (enters_of Tryz.func67 (by kernel_rfl) rfl) hk)
  have HV := Lib.hid hv
  obtain ⟨g, cap, cs, rfl, -⟩ := hv
  have hmf : ∀ (fn : Fn) (first cap : Array Value) (w : World), (Instr.makeFunc fn first cap).run Tryz.prog w = .ok (.func fn first cap) w := fun _ _ _ _ => rfl
  have B0 : Hid (Below w.heap.size w (w.alloc (.cells #[.int .i64 x] 3))) := Lib.hid (by go_grown)
  have hV1 : SetsV (w.alloc (.cells #[.int .i64 x] 3)) (.slice (some ⟨g, 0, none⟩) N cap) L N := HV.out.below (by go_grown)
  have hK1 := KI.out #[.pointer (some ⟨w.heap.size, 0, none⟩)] _ hV1 (fun i _ W hW => KT.out _ w.heap.size (Cm.new rfl) (L i) W hW)
  have KI1 := Lib.hid hK1
  clear hV1 hK1 KI KT HV
  generalize idxI (fun k => L k x) N = R at *
  go_enter Tryz.func38, Tryz.ntmps38
  go_wp2_with fail
  refine KI1.out.mono ?_
  rintro e w2 ⟨rfl, hb2⟩
  have B2 : Hid (Below w.heap.size w w2) := Lib.hid (B0.out.trans (hb2.mono B0.out.size))
  clear hb2 B0
  go_wp2
  go_ret
  exact ⟨rfl, B2.out⟩
end Go.Proofs.YthjfanhhindjlaaGreat
