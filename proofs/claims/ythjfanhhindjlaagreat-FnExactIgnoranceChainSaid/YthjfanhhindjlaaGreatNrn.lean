/-
  The program's sequence of ints; nearIn: the first world of a set that is near. Conditions: the grid is small, there is such a world.
-/
import Derived.Test.YthjfanhhindjlaaGreatLvs
import Derived.Test.YthjfanhhindjlaaGreatFst
namespace Go.Proofs.YthjfanhhindjlaaGreat
open Go.RowKit Go.WideShapes Go.Shelf
open Go Go.Deep
set_option linter.unusedSimpArgs false

theorem mapI_succ (L : Nat → Int) (k : Nat) : (List.range (k + 1)).map L = (List.range k).map L ++ [L k] := by rw [List.range_succ, List.map_append]; rfl
theorem mapI_at {L : Nat → Int} {n k : Nat} (h : k < n) : ((List.range n).map L).getD k 0 = L k := by
  rw [List.getD_eq_getElem?_getD, List.getElem?_map, List.getElem?_range h]; rfl
/-- the row of an owned list that is not empty -/
theorem own_open1 {w : World} {base n : Nat} {e : TypeId} {v : Value} {xs : List Value} (h : w.ownsRow base e 1 v n xs) (h0 : 0 < n) : ∃ g cap, v = .slice (some ⟨g, 0, none⟩) n cap ∧ n ≤ cap ∧ cap ≤ maxLen ∧ base ≤ g ∧ g < w.heap.size := by
  rcases h.2 with ⟨_, h1⟩ | ⟨g, cap, cur, rfl, hb, hg, h1, h2, _⟩
  · omega
  · exact ⟨g, cap, rfl, h1, h2, hb, (Array.getElem?_eq_some_iff.1 hg).1⟩
set_option maxRecDepth 100000 in
set_option maxHeartbeats 16000000 in
theorem seqI_any (L : Nat → Int) (N : Nat) (x : Int) (hx : x = (N : Int)) (hN : N ≤ 15) (k : FuncId) (caps : Array Value) (w : World) (hent0 : Enters Tryz.prog k)
    (hk : ∀ i, i < N → ∀ W, Below w.heap.size w W → Calls Tryz.prog k (#[.int .i64 (L i), .int .i64 ((i : Int) + 1)] ++ caps) W fun e W' => e = .returned (.int .i64 (L (i + 1))) ∧ Below W.heap.size W W') :
    Calls Tryz.prog 39 #[.int .i64 (L 0), .int .i64 x, .func (.func k) #[] caps] w (IntsAns w ((List.range (N + 1)).map L)) := by
  have HK := Lib.hid hk
  have HMS := Lib.hid (mapI_succ L)
  have HMA := Lib.hid (fun n k (h : k < n) => mapI_at (L := L) h)
  have HML : Hid (∀ n, ((List.range n).map L).length = n) := Lib.hid (fun n => by simp)
  clear hk
  subst hx
  unfold IntsAns
  go_enter Tryz.func39, Tryz.ntmps39
  go_wp2
  go_loopw [7, 12] (fun sv iv wr => ∃ (i : Nat) (sv' : Value), i ≤ N ∧ iv = .int .i64 i ∧ sv' = sv ∧ Hid (wr.ownsRow w.heap.size 3 1 sv' (i + 1) (ints ((List.range (i + 1)).map L))) ∧ Hid (Below w.heap.size w wr)) (fun _ iv _ => N - (intOf iv).toNat)
  case atStart => exact ⟨0, _, Nat.zero_le _, rfl, rfl, Lib.hid (by exact World.ownsRow_lit w #[.int .i64 (L 0)] 1 (Nat.le_refl _) (by unfold maxLen; omega) rfl), Lib.hid (by go_grown)⟩
  case round =>
    obtain ⟨i, sv, hiN, rfl, rfl, SR, BR⟩ := hrel
    by_cases hlt : i < N
    · obtain ⟨g, cap, rfl, h1, h2, h3, h4⟩ := own_open1 SR.out (Nat.succ_pos i)
      unfold maxLen at h2
      have ci : wr.cell? ⟨g, i, none⟩ = some (.int .i64 (L i)) := by
        rw [SR.out.cellAt i (by omega), ints_at (by rw [HML.out]; omega), HMA.out _ _ (Nat.lt_succ_self i)]
      have HKi := Lib.hid (HK.out i hlt)
      have i0' : (0 : Int) ≤ (i : Int) := Int.natCast_nonneg _
      have i15 : (i : Int) < 15 := by omega
      have iN : (i : Int) < (N : Int) := by omega
      have HMi := Lib.hid (HMS.out (i + 1))
      have hent : ∀ args w, (callFunc k args).run Tryz.prog w = .ok (.enter k args) w := hent0
      go_wp2_with fail
      refine (HKi.out _ BR.out).mono ?_
      rintro e w5 ⟨rfl, hb5⟩
      have S5 := Lib.hid (own_below' SR.out hb5)
      have szr : w.heap.size ≤ wr.heap.size := BR.out.size
      have B5 := Lib.hid (BR.out.trans (hb5.mono szr))
      have lt5 : wr.heap.size ≤ w5.heap.size := hb5.size
      have HLB : Hid (∀ q, (Value.slice (some ⟨g, 0, none⟩) (i + 1) cap).ownBlock = some q → w.heap.size ≤ q) := Lib.hid (fun q hq => (S5.out.lt q hq).1)
      clear hb5 SR BR ci hent
      go_wp2_with (at_builtin; refine wpList_pushL rfl (.tmp 15) (.tmp 24) 22 25 rfl rfl 3 (.int .i64 0) 8 Tryz.underlying22 Tryz.infoI rfl w.heap.size (.int .i64 (L (i + 1))) (.slice (some ⟨g, 0, none⟩) (i + 1) cap) (i + 1) (ints ((List.range (i + 1)).map L)) S5.out rfl w5.heap.size rfl rfl rfl (by unfold maxLen; omega) (by omega) (by omega) ?_; intro v6 w6 hown hg; have L6 := Lib.hid hown; have B6 : Hid (Below w.heap.size w w6) := Lib.hid (B5.out.trans (hg.below (by omega) HLB.out)); clear hown hg)
      go_roundw
      case rel =>
        refine ⟨i + 1, _, by omega, by go_num, rfl, Lib.hid ?_, B6⟩
        rw [HMi.out, ints_app]
        exact L6.out
      case measure => simp [intOf]; omega
    · obtain rfl : i = N := by omega
      go_wp2
      go_ret
      exact ⟨_, rfl, Ro.of_own SR.out, BR.out⟩

set_option maxRecDepth 100000 in
set_option maxHeartbeats 4000000 in
theorem nearIn_test (w : World) (bs bg bi : Nat) (n a : Nat) (c : Int) (f : List Int) (rows : List (List Int)) (hs : small f rows) (hn : n ≤ 16) (ha : a ≤ 3) (p : Nat → Bool) (i : Nat) (hi : i < 16)
    (hb : Cm w bs 77 (bL p)) (hg : Cm w bg 69 (ints (gL n a f rows c))) (hx : Cm w bi 3 [.int .i64 i]) :
    Test w 69 #[.pointer (some ⟨bs, 0, none⟩), .pointer (some ⟨bg, 0, none⟩), .pointer (some ⟨bi, 0, none⟩)] n (fun j => p j && near rows a i j) := by
  refine ⟨enters_of Tryz.func69 (by kernel_rfl) rfl, fun j hj W hW => ?_⟩
  show Calls Tryz.prog 69 #[.int .i64 j, .pointer (some ⟨bs, 0, none⟩), .pointer (some ⟨bg, 0, none⟩), .pointer (some ⟨bi, 0, none⟩)] W fun e W' => e = .returned (.bool (p j && near rows a i j)) ∧ Below W.heap.size W W'
  have KC := Lib.hid (fun W => isNear_any n c a f rows hs i j ha hi (by omega) W)
  have HL : Hid ((ints (gL n a f rows c)).length = 67) := Lib.hid (by rw [ints_len]; exact gL_len hs)
  have CG := Lib.hid (hg.all hW)
  have cp : W.cell? ⟨bs, j, none⟩ = some (.bool (p j)) := by rw [(hb.all hW).cell, bL_get p (by omega)]
  have c2 := (hx.all hW).one
  have j0 : (0 : Int) ≤ (j : Int) := Int.natCast_nonneg _
  have j16 : (j : Int) < 16 := by omega
  generalize gL n a f rows c = G at *
  generalize hR : near rows a i j = R at *
  generalize p j = pj at *
  clear hs hg hb hx hW hR
  cases pj with
  | false =>
    go_enter Tryz.func69, Tryz.ntmps69
    go_wp2
    go_ret
    exact ⟨rfl, Below.refl _ _⟩
  | true =>
    go_enter Tryz.func69, Tryz.ntmps69
    have tk1 : True := trivial
    have tk2 : True := trivial
    go_wp2_with
      (first
        | (have _t := tk1; clear _t tk1; refine wpList_loadMG rfl (by rfl) 69 _ rfl bg 0 rfl 69 (ints G) (ints G) CG.out (fun j _ => by rw [Nat.zero_add]) _ Tryz.underlying69 rfl (by rw [HL.out]; exact Tryz.sizeGrid) ?_)
        | (have _t := tk2; clear _t tk2; go_at_call 70; (with_reducible refine (KC.out _).mono ?_); rintro e w2 ⟨rfl, hb2⟩; have B2 := Lib.hid hb2; clear hb2 c2 cp))
    go_ret
    exact ⟨by rw [Bool.true_and]; rfl, B2.out⟩

set_option maxRecDepth 100000 in
set_option maxHeartbeats 8000000 in
theorem nearIn_any (n a : Nat) (c : Int) (f : List Int) (rows : List (List Int)) (hs : small f rows) (hn : n ≤ 16) (ha : a ≤ 3) (p : Nat → Bool) (i : Nat) (hi : i < 16) (hex : ∃ j, j < 16 ∧ cut n (fun j => p j && near rows a i j) j = true) (w : World) :
    Calls Tryz.prog 41 #[.agg (ints (gL n a f rows c)).toArray, .agg (bL p).toArray, .int .i64 i] w fun e w' => e = .returned (.int .i64 (headL (cut n fun j => p j && near rows a i j) : Nat)) ∧ Below w.heap.size w w' := by
  have HL : Hid ((ints (gL n a f rows c)).length = 67) := Lib.hid (by rw [ints_len]; exact gL_len hs)
  have KW := Lib.hid (fun caps W h => where_any n a c f rows hs hn 69 caps (fun j => p j && near rows a i j) W h)
  have KT := Lib.hid (fun W bs bg bi h1 h2 h3 => nearIn_test W bs bg bi n a c f rows hs hn ha p i hi h1 h2 h3)
  have KF := Lib.hid (fun W => first_any (cut n fun j => p j && near rows a i j) W hex)
  generalize gL n a f rows c = G at *
  generalize (cut n fun j => p j && near rows a i j) = PF at *
  clear hs hex
  have hmf : ∀ (fn : Fn) (first cap : Array Value) (w : World), (Instr.makeFunc fn first cap).run Tryz.prog w = .ok (.func fn first cap) w := fun _ _ _ _ => rfl
  have x1 : Cm (((w.alloc (.cells (ints G).toArray 69)).alloc (.cells (bL p).toArray 77)).alloc (.cells #[.int .i64 i] 3)) w.heap.size 69 (ints G) := ((Cm.new rfl).alloc _).alloc _
  have x2 : Cm (((w.alloc (.cells (ints G).toArray 69)).alloc (.cells (bL p).toArray 77)).alloc (.cells #[.int .i64 i] 3)) (w.heap.size + 1) 77 (bL p) := (Cm.new (by simp)).alloc _
  have x3 : Cm (((w.alloc (.cells (ints G).toArray 69)).alloc (.cells (bL p).toArray 77)).alloc (.cells #[.int .i64 i] 3)) (w.heap.size + 1 + 1) 3 [.int .i64 i] := Cm.new (by simp)
  have C1 := Lib.hid x1
  have C2 := Lib.hid x2
  have C3 := Lib.hid x3
  have B0 : Hid (Below w.heap.size w (((w.alloc (.cells (ints G).toArray 69)).alloc (.cells (bL p).toArray 77)).alloc (.cells #[.int .i64 i] 3))) := Lib.hid (by go_grown)
  clear x1 x2 x3
  go_enter Tryz.func41, Tryz.ntmps41
  have tk3 : True := trivial
  have tk4 : True := trivial
  have tk5 : True := trivial
  go_wp2_with
    (first
      | (have _t := tk3; clear _t tk3; refine wpList_loadM rfl 69 _ rfl w.heap.size 0 rfl 69 (ints G) (ints G) C1.out (fun j _ => by rw [Nat.zero_add]) _ Tryz.underlying69 rfl (by rw [HL.out]; exact Tryz.sizeGrid) ?_)
      | (have _t := tk4; clear _t tk4; go_at_call 68; (with_reducible refine (KW.out _ _ (KT.out _ _ _ _ C2.out C1.out C3.out)).mono ?_); rintro e w2 ⟨rfl, hb2⟩; have B2 := Lib.hid (B0.out.trans (hb2.mono B0.out.size)); clear hb2)
      | (have _t := tk5; clear _t tk5; go_at_call 71; (with_reducible refine (KF.out _).mono ?_); rintro e w3 ⟨rfl, hb3⟩; have B3 := Lib.hid (B2.out.trans (hb3.mono B2.out.size)); clear hb3))
  go_ret
  exact ⟨rfl, B3.out⟩
end Go.Proofs.YthjfanhhindjlaaGreat
