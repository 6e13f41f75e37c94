/-
  Contracts of worldSet.isWithin, grid.others, grid.block, grid.near. Condition: the grid's lists are small.
-/
import Derived.Test.YtegmoojjffkacaaFv
namespace Go.Proofs.Ytegmoojjffkacaa
open Go.RowKit Go.WideShapes
open Go Go.Deep
set_option linter.unusedSimpArgs false

/-- all of p lies in q -/
def subB (p q : Nat → Bool) : Bool := (List.range 16).all fun i => !p i || q i
theorem subB_no {p q : Nat → Bool} {k : Nat} (hk : k < 16) (h1 : p k = true) (h2 : q k = false) : subB p q = false := by
  unfold subB; rw [List.all_eq_false]
  exact ⟨k, List.mem_range.2 hk, by rw [h1, h2]; decide⟩
theorem subB_yes {p q : Nat → Bool} (h : ∀ i, i < 16 → p i = true → q i = true) : subB p q = true := by
  unfold subB; rw [List.all_eq_true]
  intro i hi
  have := h i (List.mem_range.1 hi)
  cases hp : p i with
  | false => rfl
  | true => rw [this hp]; rfl

set_option maxRecDepth 100000 in
set_option maxHeartbeats 8000000 in
theorem isWithin_any (p q : Nat → Bool) (w : World) :
    Calls Try.prog 105 #[.agg (bL p).toArray, .agg (bL q).toArray] w fun e w' => e = .returned (.bool (subB p q)) ∧ Below w.heap.size w w' := by
  obtain ⟨i0, hi, _, hi1, _⟩ := info_parts Try.infoB
  have HX := Lib.hid (fun k (h : k < 16) => bL_get p h)
  have HL := Lib.hid (bL_len p)
  have HQ : Hid (∀ k, k < 16 → ∀ (W : World) b T, Cm W b T (bL q) → W.cell? ⟨b, k, none⟩ = some (.bool (q k))) := Lib.hid (fun k h W b T hc => set_store q h hc)
  generalize bL p = V at *
  generalize hU : bL q = U at *
  clear hU
  obtain ⟨R, hR⟩ : ∃ R, R = subB p q := ⟨_, rfl⟩
  rw [← hR]
  have HR := Lib.hid hR
  clear hR
  go_enter Try.func105, Try.ntmps105
  go_wp2_with (refine wpList_loadM rfl 83 _ rfl w.heap.size 0 rfl 83 V V ((Cm.new rfl).alloc _) (fun j _ => by rw [Nat.zero_add]) _ Try.underlying83 rfl (by rw [HL.out]; exact Try.sizeSet) ?_)
  have b1 : Below w.heap.size w ((w.alloc (.cells V.toArray 83)).alloc (.cells U.toArray 83)) := by go_grown
  have u1 : Cm ((w.alloc (.cells V.toArray 83)).alloc (.cells U.toArray 83)) (w.heap.size + 1) 83 U := Cm.new (by simp)
  generalize (w.alloc (.cells V.toArray 83)).alloc (.cells U.toArray 83) = w1 at *
  have B1 := Lib.hid b1
  have U1 := Lib.hid u1
  clear b1 u1
  go_loop [8] (fun iv => ∃ k : Nat, k ≤ 16 ∧ iv = .int .i64 k ∧ Hid (∀ i, i < k → p i = true → q i = true)) (fun iv => 16 - (intOf iv).toNat)
  case atStart => exact ⟨0, Nat.zero_le _, rfl, Lib.hid (fun i hi => by omega)⟩
  case round =>
    obtain ⟨k, hk, rfl, HK⟩ := hrel
    by_cases hlt : k < 16
    · have HKP := Lib.hid (HX.out k hlt)
      have cq := HQ.out k hlt _ _ _ U1.out
      have hk0 : (0 : Int) ≤ (k : Int) := Int.natCast_nonneg _
      have hk16 : (k : Int) < 16 := by omega
      obtain ⟨x, hx⟩ : ∃ b, b = p k := ⟨_, rfl⟩
      obtain ⟨y, hy⟩ : ∃ b, b = q k := ⟨_, rfl⟩
      rw [← hx] at HKP
      rw [← hy] at cq
      have HN : Hid (y = true ∨ x = false → ∀ i, i < k + 1 → p i = true → q i = true) := Lib.hid (fun h i hi e => by
        rcases Nat.lt_or_eq_of_le (Nat.le_of_lt_succ hi) with h1 | h1
        · exact HK.out i h1 e
        · subst h1
          rcases h with h | h
          · rw [← hy, h]
          · rw [← hx, h] at e; cases e)
      have HF : Hid (x = true → y = false → R = false) := Lib.hid (fun h1 h2 => by rw [HR.out]; exact subB_no hlt (by rw [← hx, h1]) (by rw [← hy, h2]))
      clear hx hy
      cases x with
      | false =>
        go_wp2_with (refine wpList_indexM rfl 83 (.tmp 7) (.tmp 8) rfl V rfl .i64 k rfl 16 4 Try.underlying83 (by kernel_rfl) i0 hi hi1 hlt _ HKP.out ?_)
        go_round
        case rel => exact ⟨k + 1, by omega, by go_num, Lib.hid (HN.out (.inr rfl))⟩
        case measure => simp [intOf]; omega
      | true =>
        cases y with
        | true =>
          go_wp2_with (refine wpList_indexM rfl 83 (.tmp 7) (.tmp 8) rfl V rfl .i64 k rfl 16 4 Try.underlying83 (by kernel_rfl) i0 hi hi1 hlt _ HKP.out ?_)
          go_round
          case rel => exact ⟨k + 1, by omega, by go_num, Lib.hid (HN.out (.inl rfl))⟩
          case measure => simp [intOf]; omega
        | false =>
          have HF' := Lib.hid (HF.out rfl rfl)
          go_wp2_with (refine wpList_indexM rfl 83 (.tmp 7) (.tmp 8) rfl V rfl .i64 k rfl 16 4 Try.underlying83 (by kernel_rfl) i0 hi hi1 hlt _ HKP.out ?_)
          go_ret
          exact ⟨ret_bool HF'.out.symm, B1.out⟩
    · obtain rfl : k = 16 := by omega
      go_wp2
      go_ret
      exact ⟨ret_bool (by rw [HR.out, subB_yes HK.out]), B1.out⟩

theorem test_below {w W : World} {k : FuncId} {caps : Array Value} {n : Nat} {q : Nat → Bool} (h : Test w k caps n q) (hb : Below w.heap.size w W) : Test W k caps n q :=
  ⟨h.1, fun i hi W' hW => h.2 i hi W' (hb.trans (hW.mono hb.size))⟩

set_option maxRecDepth 100000 in
set_option maxHeartbeats 2000000 in
theorem others_test (w : World) (b : Nat) (p : Nat → Bool) (n : Nat) (hn : n ≤ 16) (hc : Cm w b 83 (bL p)) : Test w 120 #[.pointer (some ⟨b, 0, none⟩)] n (fun i => !p i) := by
  refine ⟨enters_of Try.func120 (by kernel_rfl) rfl, fun i hi W hW => ?_⟩
  show Calls Try.prog 120 #[.int .i64 i, .pointer (some ⟨b, 0, none⟩)] W _
  have ck := set_store p (show i < 16 by omega) (hc.all hW)
  have hi0 : (0 : Int) ≤ (i : Int) := Int.natCast_nonneg _
  have hi16 : (i : Int) < 16 := by omega
  generalize hx : p i = x at *
  have HX := Lib.hid hx
  clear hc hW hx
  go_enter Try.func120, Try.ntmps120
  go_wp2
  go_ret
  exact ⟨ret_bool (by rw [HX.out]), Below.refl _ _⟩
set_option maxRecDepth 100000 in
set_option maxHeartbeats 8000000 in
theorem others_any (n : Nat) (a c : Int) (f : List Int) (rows : List (List Int)) (hs : small f rows) (hn : n ≤ 16) (p : Nat → Bool) (w : World) :
    Calls Try.prog 100 #[.agg (ints (gL n a f rows c)).toArray, .agg (bL p).toArray] w fun e w' => e = .returned (.agg (bL (cut n fun i => !p i)).toArray) ∧ Below w.heap.size w w' := by
  have HL : Hid ((ints (gL n a f rows c)).length = 67) := Lib.hid (by rw [ints_len]; exact gL_len hs)
  have KW := Lib.hid (fun caps W h => where_any n a c f rows hs hn 120 caps (fun i => !p i) W h)
  have KT := Lib.hid (fun W b hc => others_test W b p n hn hc)
  have hmf : ∀ (fn : Fn) (first cap : Array Value) (w : World), (Instr.makeFunc fn first cap).run Try.prog w = .ok (.func fn first cap) w := fun _ _ _ _ => rfl
  generalize gL n a f rows c = G at *
  obtain ⟨PF, hPF⟩ : ∃ PF, PF = cut n fun i => !p i := ⟨_, rfl⟩
  rw [← hPF] at KW ⊢
  clear hs hPF
  go_enter Try.func100, Try.ntmps100
  have tk1 : True := trivial
  have tk2 : True := trivial
  have tk3 : True := trivial
  have tk4 : True := trivial
  go_wp2_with
    (first
      | (have _t := tk1; clear _t tk1; refine wpList_allocM rfl 83 rfl (bL (fun _ => false)) Try.allocSet ?_
         intro w1 hc1 hb1 hs1
         have C0 : Hid (Cm w1 w.heap.size 75 (ints G)) := Lib.hid (Cm.all ((Cm.new rfl).alloc _) hb1)
         have S0 : Hid (Cm w1 (w.heap.size + 1) 83 (bL p)) := Lib.hid (Cm.all (Cm.new (by simp)) hb1)
         have R0 : Hid (Cm w1 (w.heap.size + 1 + 1) 83 (bL (fun _ => false))) := Lib.hid (by simpa using hc1)
         have B0 : Hid (Below w.heap.size w w1) := Lib.hid (Below.trans (by go_grown) (hb1.mono (by simp; omega)))
         clear hc1 hb1 hs1)
      | (have _t := tk2; clear _t tk2; refine wpList_loadM rfl 75 _ rfl w.heap.size 0 rfl 75 (ints G) (ints G) C0.out (fun j _ => by rw [Nat.zero_add]) _ Try.underlying75 rfl (by rw [HL.out]; exact Try.sizeGrid) ?_)
      | (have _t := tk3; clear _t tk3; go_at_call 102; (with_reducible refine (KW.out _ _ (KT.out _ _ S0.out)).mono ?_); rintro e w2 ⟨rfl, hb2⟩; have R2 := Lib.hid (R0.out.all hb2); have B2 := Lib.hid (B0.out.trans (hb2.mono B0.out.size)); clear hb2)
      | (have _t := tk4; clear _t tk4; refine wpList_storeM rfl 83 (.tmp 4) (.tmp 7) rfl (w.heap.size + 1 + 1) 0 rfl (bL PF) rfl 83 _ R2.out (by rw [bL_len, bL_len]; exact Nat.le_refl _) (by rw [bL_len]; exact Try.sizeSet) (fun v hv => bL_one hv) ?_
         intro w5 hc5 ha5
         rw [lay'_all (by rw [bL_len, bL_len])] at hc5
         have R5 := Lib.hid hc5
         have B5 : Hid (Below w.heap.size w w5) := Lib.hid (B2.out.trans (ha5.below (by omega)))
         clear hc5 ha5))
  refine bodyPost_ret (results_mid1 Try.results100 _ _ (w.heap.size + 1 + 1) (bL PF) _ rfl R5.out.whole Try.underlying83 rfl (by rw [bL_len]; exact Try.sizeSet)) rfl ?_
  exact ⟨rfl, B5.out⟩

/-- a cell of its own -/
theorem Cm.one {w : World} {b : Nat} {T : TypeId} {v : Value} (h : Cm w b T [v]) : w.cell? ⟨b, 0, none⟩ = some v := h.cell 0
set_option maxRecDepth 100000 in
set_option maxHeartbeats 4000000 in
theorem block_test (w : World) (bg ba bi : Nat) (n : Nat) (a c : Int) (f : List Int) (rows : List (List Int)) (hs : small f rows) (hn : n ≤ 16) (k i : Nat) (hk : k < 3) (hi : i < 16)
    (hg : Cm w bg 75 (ints (gL n a f rows c))) (ha : Cm w ba 3 [.int .i64 k]) (hb : Cm w bi 3 [.int .i64 i]) :
    Test w 121 #[.pointer (some ⟨bg, 0, none⟩), .pointer (some ⟨ba, 0, none⟩), .pointer (some ⟨bi, 0, none⟩)] n (fun j => (rows.getD k []).getD i 0 == (rows.getD k []).getD j 0) := by
  refine ⟨enters_of Try.func121 (by kernel_rfl) rfl, fun j hj W hW => ?_⟩
  show Calls Try.prog 121 #[.int .i64 j, .pointer (some ⟨bg, 0, none⟩), .pointer (some ⟨ba, 0, none⟩), .pointer (some ⟨bi, 0, none⟩)] W _
  have KC := Lib.hid (fun W => confuses_any n a c f rows hs k i j hk hi (by omega) W)
  have HL : Hid ((ints (gL n a f rows c)).length = 67) := Lib.hid (by rw [ints_len]; exact gL_len hs)
  have CG := Lib.hid (hg.all hW)
  have c1 := (ha.all hW).one
  have c2 := (hb.all hW).one
  generalize gL n a f rows c = G at *
  generalize hR : ((rows.getD k []).getD i 0 == (rows.getD k []).getD j 0) = R at *
  have HR := Lib.hid hR
  clear hs hg ha hb hW hR
  go_enter Try.func121, Try.ntmps121
  have tk5 : True := trivial
  have tk6 : True := trivial
  go_wp2_with
    (first
      | (have _t := tk5; clear _t tk5; refine wpList_loadM rfl 75 _ rfl bg 0 rfl 75 (ints G) (ints G) CG.out (fun j _ => by rw [Nat.zero_add]) _ Try.underlying75 rfl (by rw [HL.out]; exact Try.sizeGrid) ?_)
      | (have _t := tk6; clear _t tk6; go_at_call 90; (with_reducible refine (KC.out _).mono ?_); rintro e w2 ⟨rfl, hb2⟩; have B2 := Lib.hid hb2; clear hb2 c1 c2))
  go_ret
  exact ⟨ret_bool (by rw [HR.out]), B2.out⟩
set_option maxRecDepth 100000 in
set_option maxHeartbeats 4000000 in
theorem near_test (w : World) (bg bi : Nat) (n a : Nat) (c : Int) (f : List Int) (rows : List (List Int)) (hs : small f rows) (hn : n ≤ 16) (ha : a ≤ 3) (i : Nat) (hi : i < 16)
    (hg : Cm w bg 75 (ints (gL n a f rows c))) (hb : Cm w bi 3 [.int .i64 i]) :
    Test w 158 #[.pointer (some ⟨bg, 0, none⟩), .pointer (some ⟨bi, 0, none⟩)] n (fun j => near rows a i j) := by
  refine ⟨enters_of Try.func158 (by kernel_rfl) rfl, fun j hj W hW => ?_⟩
  show Calls Try.prog 158 #[.int .i64 j, .pointer (some ⟨bg, 0, none⟩), .pointer (some ⟨bi, 0, none⟩)] W _
  have KC := Lib.hid (fun W => isNear_any n c a f rows hs i j ha hi (by omega) W)
  have HL : Hid ((ints (gL n a f rows c)).length = 67) := Lib.hid (by rw [ints_len]; exact gL_len hs)
  have CG := Lib.hid (hg.all hW)
  have c2 := (hb.all hW).one
  generalize gL n a f rows c = G at *
  generalize hR : near rows a i j = R at *
  have HR := Lib.hid hR
  clear hs hg hb hW hR
  go_enter Try.func158, Try.ntmps158
  have tk7 : True := trivial
  have tk8 : True := trivial
  go_wp2_with
    (first
      | (have _t := tk7; clear _t tk7; refine wpList_loadM rfl 75 _ rfl bg 0 rfl 75 (ints G) (ints G) CG.out (fun j _ => by rw [Nat.zero_add]) _ Try.underlying75 rfl (by rw [HL.out]; exact Try.sizeGrid) ?_)
      | (have _t := tk8; clear _t tk8; go_at_call 122; (with_reducible refine (KC.out _).mono ?_); rintro e w2 ⟨rfl, hb2⟩; have B2 := Lib.hid hb2; clear hb2 c2))
  go_ret
  exact ⟨ret_bool (by rw [HR.out]), B2.out⟩
/-- the block of i for an agent; the worlds near to i -/
def blkB (rows : List (List Int)) (n k i : Nat) : Nat → Bool := cut n fun j => (rows.getD k []).getD i 0 == (rows.getD k []).getD j 0
def nearB (rows : List (List Int)) (n a i : Nat) : Nat → Bool := cut n fun j => near rows a i j
set_option maxRecDepth 100000 in
set_option maxHeartbeats 8000000 in
theorem block_any (n : Nat) (a c : Int) (f : List Int) (rows : List (List Int)) (hs : small f rows) (hn : n ≤ 16) (k i : Nat) (hk : k < 3) (hi : i < 16) (w : World) :
    Calls Try.prog 104 #[.agg (ints (gL n a f rows c)).toArray, .int .i64 k, .int .i64 i] w fun e w' => e = .returned (.agg (bL (blkB rows n k i)).toArray) ∧ Below w.heap.size w w' := by
  have HL : Hid ((ints (gL n a f rows c)).length = 67) := Lib.hid (by rw [ints_len]; exact gL_len hs)
  have KW := Lib.hid (fun caps W h => where_any n a c f rows hs hn 121 caps (fun j => (rows.getD k []).getD i 0 == (rows.getD k []).getD j 0) W h)
  have KT := Lib.hid (fun W bg ba bi h1 h2 h3 => block_test W bg ba bi n a c f rows hs hn k i hk hi h1 h2 h3)
  have hmf : ∀ (fn : Fn) (first cap : Array Value) (w : World), (Instr.makeFunc fn first cap).run Try.prog w = .ok (.func fn first cap) w := fun _ _ _ _ => rfl
  unfold blkB
  generalize gL n a f rows c = G at *
  obtain ⟨PF, hPF⟩ : ∃ PF, PF = cut n fun j => (rows.getD k []).getD i 0 == (rows.getD k []).getD j 0 := ⟨_, rfl⟩
  rw [← hPF] at KW ⊢
  clear hs hPF
  go_enter Try.func104, Try.ntmps104
  have tk9 : True := trivial
  have tk10 : True := trivial
  have tk11 : True := trivial
  have tk12 : True := trivial
  go_wp2_with
    (first
      | (have _t := tk9; clear _t tk9; refine wpList_allocM rfl 83 rfl (bL (fun _ => false)) Try.allocSet ?_
         intro w1 hc1 hb1 hs1
         have C0 : Hid (Cm w1 w.heap.size 75 (ints G)) := Lib.hid (Cm.all (((Cm.new rfl).alloc _).alloc _) hb1)
         have S0 : Hid (Cm w1 (w.heap.size + 1) 3 [.int .i64 k]) := Lib.hid (Cm.all ((Cm.new (by simp)).alloc _) hb1)
         have T0 : Hid (Cm w1 (w.heap.size + 1 + 1) 3 [.int .i64 i]) := Lib.hid (Cm.all (Cm.new (by simp)) hb1)
         have R0 : Hid (Cm w1 (w.heap.size + 1 + 1 + 1) 83 (bL (fun _ => false))) := Lib.hid (by simpa using hc1)
         have B0 : Hid (Below w.heap.size w w1) := Lib.hid (Below.trans (by go_grown) (hb1.mono (by simp; omega)))
         clear hc1 hb1 hs1)
      | (have _t := tk10; clear _t tk10; refine wpList_loadM rfl 75 _ rfl w.heap.size 0 rfl 75 (ints G) (ints G) C0.out (fun j _ => by rw [Nat.zero_add]) _ Try.underlying75 rfl (by rw [HL.out]; exact Try.sizeGrid) ?_)
      | (have _t := tk11; clear _t tk11; go_at_call 102; (with_reducible refine (KW.out _ _ (KT.out _ _ _ _ C0.out S0.out T0.out)).mono ?_); rintro e w2 ⟨rfl, hb2⟩; have R2 := Lib.hid (R0.out.all hb2); have B2 := Lib.hid (B0.out.trans (hb2.mono B0.out.size)); clear hb2)
      | (have _t := tk12; clear _t tk12; refine wpList_storeM rfl 83 (.tmp 6) (.tmp 9) rfl (w.heap.size + 1 + 1 + 1) 0 rfl (bL PF) rfl 83 _ R2.out (by rw [bL_len, bL_len]; exact Nat.le_refl _) (by rw [bL_len]; exact Try.sizeSet) (fun v hv => bL_one hv) ?_
         intro w5 hc5 ha5
         rw [lay'_all (by rw [bL_len, bL_len])] at hc5
         have R5 := Lib.hid hc5
         have B5 : Hid (Below w.heap.size w w5) := Lib.hid (B2.out.trans (ha5.below (by omega)))
         clear hc5 ha5))
  refine bodyPost_ret (results_mid1 Try.results104 _ _ (w.heap.size + 1 + 1 + 1) (bL PF) _ rfl R5.out.whole Try.underlying83 rfl (by rw [bL_len]; exact Try.sizeSet)) rfl ?_
  exact ⟨rfl, B5.out⟩
set_option maxRecDepth 100000 in
set_option maxHeartbeats 8000000 in
theorem near_any (n a : Nat) (c : Int) (f : List Int) (rows : List (List Int)) (hs : small f rows) (hn : n ≤ 16) (ha : a ≤ 3) (i : Nat) (hi : i < 16) (w : World) :
    Calls Try.prog 154 #[.agg (ints (gL n a f rows c)).toArray, .int .i64 i] w fun e w' => e = .returned (.agg (bL (nearB rows n a i)).toArray) ∧ Below w.heap.size w w' := by
  have HL : Hid ((ints (gL n a f rows c)).length = 67) := Lib.hid (by rw [ints_len]; exact gL_len hs)
  have KW := Lib.hid (fun caps W h => where_any n a c f rows hs hn 158 caps (fun j => near rows a i j) W h)
  have KT := Lib.hid (fun W bg bi h1 h3 => near_test W bg bi n a c f rows hs hn ha i hi h1 h3)
  have hmf : ∀ (fn : Fn) (first cap : Array Value) (w : World), (Instr.makeFunc fn first cap).run Try.prog w = .ok (.func fn first cap) w := fun _ _ _ _ => rfl
  unfold nearB
  generalize gL n a f rows c = G at *
  obtain ⟨PF, hPF⟩ : ∃ PF, PF = cut n fun j => near rows a i j := ⟨_, rfl⟩
  rw [← hPF] at KW ⊢
  clear hs hPF
  go_enter Try.func154, Try.ntmps154
  have tk13 : True := trivial
  have tk14 : True := trivial
  have tk15 : True := trivial
  have tk16 : True := trivial
  go_wp2_with
    (first
      | (have _t := tk13; clear _t tk13; refine wpList_allocM rfl 83 rfl (bL (fun _ => false)) Try.allocSet ?_
         intro w1 hc1 hb1 hs1
         have C0 : Hid (Cm w1 w.heap.size 75 (ints G)) := Lib.hid (Cm.all ((Cm.new rfl).alloc _) hb1)
         have T0 : Hid (Cm w1 (w.heap.size + 1) 3 [.int .i64 i]) := Lib.hid (Cm.all (Cm.new (by simp)) hb1)
         have R0 : Hid (Cm w1 (w.heap.size + 1 + 1) 83 (bL (fun _ => false))) := Lib.hid (by simpa using hc1)
         have B0 : Hid (Below w.heap.size w w1) := Lib.hid (Below.trans (by go_grown) (hb1.mono (by simp; omega)))
         clear hc1 hb1 hs1)
      | (have _t := tk14; clear _t tk14; refine wpList_loadM rfl 75 _ rfl w.heap.size 0 rfl 75 (ints G) (ints G) C0.out (fun j _ => by rw [Nat.zero_add]) _ Try.underlying75 rfl (by rw [HL.out]; exact Try.sizeGrid) ?_)
      | (have _t := tk15; clear _t tk15; go_at_call 102; (with_reducible refine (KW.out _ _ (KT.out _ _ _ C0.out T0.out)).mono ?_); rintro e w2 ⟨rfl, hb2⟩; have R2 := Lib.hid (R0.out.all hb2); have B2 := Lib.hid (B0.out.trans (hb2.mono B0.out.size)); clear hb2)
      | (have _t := tk16; clear _t tk16; refine wpList_storeM rfl 83 (.tmp 4) (.tmp 7) rfl (w.heap.size + 1 + 1) 0 rfl (bL PF) rfl 83 _ R2.out (by rw [bL_len, bL_len]; exact Nat.le_refl _) (by rw [bL_len]; exact Try.sizeSet) (fun v hv => bL_one hv) ?_
         intro w5 hc5 ha5
         rw [lay'_all (by rw [bL_len, bL_len])] at hc5
         have R5 := Lib.hid hc5
         have B5 : Hid (Below w.heap.size w w5) := Lib.hid (B2.out.trans (ha5.below (by omega)))
         clear hc5 ha5))
  refine bodyPost_ret (results_mid1 Try.results154 _ _ (w.heap.size + 1 + 1) (bL PF) _ rfl R5.out.whole Try.underlying83 rfl (by rw [bL_len]; exact Try.sizeSet)) rfl ?_
  exact ⟨rfl, B5.out⟩
end Go.Proofs.Ytegmoojjffkacaa
