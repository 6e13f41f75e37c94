/-
  Contracts of grid.numbersOk, gridOf; ModelOk, CountWorlds of both sides.
-/
import Derived.Test.YtegmoojjffkacaaGrid
namespace Go.Proofs.Ytegmoojjffkacaa
open Go.RowKit Go.WideShapes
open Go Go.Deep

def intEq : Value → Value → Bool
  | .int _ x, .int _ y => x == y
  | _, _ => false
theorem run_row_eq (l l' : List Int) (h : l.length = 16) (h' : l'.length = 16) (w : World) :
    (Op.equalIn 10000 72 (.agg (ints l).toArray) (.agg (ints l').toArray)).run Try.prog w = .ok (decide (l = l')) w := by
  obtain ⟨i0, hi, _⟩ := info_parts Try.infoI
  obtain ⟨r, hr, hiff⟩ := equalIn_arr (P := Try.prog) 9999 (ints l) (ints l') Try.underlying72 hi (by kernel_rfl) (by kernel_rfl) (by rw [ints_len, h]) (by rw [ints_len, h']) intEq
    (fun a b ha hb W => by
      unfold ints at ha hb
      obtain ⟨x, _, rfl⟩ := List.mem_map.1 ha
      obtain ⟨y, _, rfl⟩ := List.mem_map.1 hb
      exact run_equalIn_int W 9998 3 .i64 .i64 x y Try.underlying3)
    (fun a b ha hb => by
      unfold ints at ha hb
      obtain ⟨x, _, rfl⟩ := List.mem_map.1 ha
      obtain ⟨y, _, rfl⟩ := List.mem_map.1 hb
      simp [intEq]) w
  refine hr.trans ?_
  have hinj : ints l = ints l' ↔ l = l' := by
    constructor
    · intro e
      apply List.ext_getElem?
      intro j
      rcases Nat.lt_or_ge j 16 with hj | hj
      · have := congrArg (·[j]?) e
        simp only [ints_at (show j < l.length by omega), ints_at (show j < l'.length by omega), Option.some.injEq, Value.int.injEq, true_and] at this
        rw [getD_some 0 (show j < l.length by omega), getD_some 0 (show j < l'.length by omega), this]
      · rw [List.getElem?_eq_none (by omega), List.getElem?_eq_none (by omega)]
    · intro e; rw [e]
  rw [hinj] at hiff
  cases r with
  | true => rw [decide_eq_true (hiff.1 rfl)]
  | false => rw [decide_eq_false (fun e => by have := hiff.2 e; cases this)]

/-- a row's blocks are numbered in the order in which they are met -/
def rowOk (rows : List (List Int)) (n k : Nat) : Bool := decide (pad (rows.getD k []) = pad (num ((pad (rows.getD k [])).take n)))
def okNums (n : Nat) (f : List Int) (rows : List (List Int)) (c : Int) : Bool :=
  ((List.range 16).all fun j => inB ((pad f).getD j 0) 16) && ((List.range 3).all fun k => rowOk rows n k) && inB c n
theorem all_false {p : Nat → Bool} {k m : Nat} (h : p k = false) (hk : k < m) : (List.range m).all p = false := by
  rw [List.all_eq_false]
  exact ⟨k, List.mem_range.2 hk, by rw [h]; decide⟩
theorem all_succ {p : Nat → Bool} {k : Nat} (h : (List.range k).all p = true) (hk : p k = true) : (List.range (k + 1)).all p = true := by
  rw [List.range_succ, List.all_append, h]; simp [hk]

theorem rows48 (G : List Int) : ∀ j, j < (ints ((G.drop 18).take 48)).length → (ints G)[18 + j]? = (ints ((G.drop 18).take 48))[j]? := by
  intro j hj
  rw [ints_len, List.length_take] at hj
  rw [ints_get, ints_get, List.getElem?_take_of_lt (by omega), List.getElem?_drop]
theorem rows48_len (G : List Int) (h : G.length = 67) : (ints ((G.drop 18).take 48)).length = 48 := by rw [ints_len, List.length_take, List.length_drop]; omega
theorem rows48_row {n a c : Int} {f : List Int} {rows : List (List Int)} (hs : small f rows) {k : Nat} (hk : k < 3) :
    ((ints (((gL n a f rows c).drop 18).take 48)).drop (k * 16)).take 16 = ints (pad (rows.getD k [])) := by
  have hl := gL_len (n := n) (a := a) (c := c) hs
  have hp := pad_len (hs.2 k)
  apply List.ext_getElem?
  intro j
  rcases Nat.lt_or_ge j 16 with hj | hj
  · rw [List.getElem?_take_of_lt hj, List.getElem?_drop, ints_get, List.getElem?_take_of_lt (by omega), List.getElem?_drop, ints_get, ← gL_r hs hk hj, show 18 + (k * 16 + j) = 18 + k * 16 + j by omega]
  · rw [List.getElem?_eq_none (by rw [List.length_take]; omega), List.getElem?_eq_none (by rw [ints_len]; omega)]

set_option maxRecDepth 100000 in
set_option maxHeartbeats 8000000 in
theorem numbersOk_any (n : Nat) (a c : Int) (f : List Int) (rows : List (List Int)) (hs : small f rows) (hn : n ≤ 16) (w : World) :
    Calls Try.prog 107 #[.agg (ints (gL n a f rows c)).toArray] w fun e w' => e = .returned (.bool (okNums n f rows c)) ∧ Below w.heap.size w w' := by
  obtain ⟨i0, hi, _, hi1, _⟩ := info_parts Try.infoI
  have HL : Hid ((ints (gL n a f rows c)).length = 67) := Lib.hid (by rw [ints_len]; exact gL_len hs)
  have HC := Lib.hid (fun (W : World) b T (h : Cm W b T (ints (gL n a f rows c))) => And.intro h.g0 (h.g66 hs))
  have HF : Hid (∀ j, j < (ints (pad f)).length → (ints (gL n a f rows c))[2 + j]? = (ints (pad f))[j]?) := Lib.hid (fun j hj => by rw [ints_len, pad_len hs.1] at hj; rw [ints_get, ints_get, gL_f hs hj])
  have HFL : Hid ((ints (pad f)).length = 16) := Lib.hid (by rw [ints_len]; exact pad_len hs.1)
  have KW := Lib.hid (fun W => hasWorld_any n a c f rows c W)
  have HO : Hid (okNums n f rows c = (((List.range 16).all fun j => inB ((pad f).getD j 0) 16) && ((List.range 3).all fun k => rowOk rows n k) && inB c n)) := Lib.hid rfl
  have HFA : Hid (∀ j, j < 16 → (ints (pad f))[j]? = some (.int .i64 ((pad f).getD j 0))) := Lib.hid (fun j hj => ints_at (by rw [pad_len hs.1]; exact hj))
  have H48R : Hid (∀ k, k < 3 → ((ints (((gL n a f rows c).drop 18).take 48)).drop (k * 16)).take 16 = ints (pad (rows.getD k []))) := Lib.hid (fun k hk => rows48_row hs hk)
  have HPL : Hid (∀ k, (pad (rows.getD k [])).length = 16) := Lib.hid (fun k => pad_len (hs.2 k))
  generalize gL n a f rows c = G at *
  generalize okNums n f rows c = R at *
  go_enter Try.func107, Try.ntmps107
  go_wp2_with (refine wpList_loadM rfl 72 _ rfl w.heap.size 2 rfl 75 (ints G) (ints (pad f)) (Cm.new rfl) HF.out _ Try.underlying72 rfl (by rw [HFL.out]; exact Try.sizeRow) ?_)
  have C1 : Cm (w.alloc (.cells (ints G).toArray 75)) w.heap.size 75 (ints G) := Cm.new rfl
  have B1 : Below w.heap.size w (w.alloc (.cells (ints G).toArray 75)) := by go_grown
  generalize w.alloc (.cells (ints G).toArray 75) = w1 at *
  have CC := Lib.hid C1
  have BB := Lib.hid B1
  have hw1 : w.heap.size < w1.heap.size := C1.lt
  clear C1 B1
  go_loop [9] (fun iv => ∃ k : Nat, k ≤ 16 ∧ iv = .int .i64 k ∧ Hid ((List.range k).all (fun j => inB ((pad f).getD j 0) 16) = true)) (fun iv => 16 - (intOf iv).toNat)
  case atStart => exact ⟨0, Nat.zero_le _, rfl, Lib.hid rfl⟩
  case round =>
    obtain ⟨k, hk, rfl, HK⟩ := hrel
    by_cases hlt : k < 16
    · have HX := Lib.hid (HFA.out k hlt)
      have HBAD : Hid (inB ((pad f).getD k 0) 16 = false → R = false) := Lib.hid (fun h => by rw [HO.out, all_false (p := fun j => inB ((pad f).getD j 0) 16) h hlt]; rfl)
      have HGOOD : Hid (inB ((pad f).getD k 0) 16 = true → (List.range (k + 1)).all (fun j => inB ((pad f).getD j 0) 16) = true) := Lib.hid (fun h => all_succ HK.out h)
      generalize (pad f).getD k 0 = x at HX HBAD HGOOD
      rcases Int.lt_or_le x 0 with h0 | h0
      · have HR := Lib.hid (HBAD.out (inB_low h0))
        go_wp2_with (refine wpList_indexM rfl 72 (.tmp 8) (.tmp 9) rfl (ints (pad f)) rfl .i64 k rfl 16 3 Try.underlying72 (by kernel_rfl) i0 hi hi1 hlt _ HX.out ?_)
        go_ret
        exact ⟨ret_bool HR.out.symm, BB.out⟩
      · rcases Int.lt_or_le x 16 with h1 | h1
        · have HG := Lib.hid (HGOOD.out (inB_yes h0 h1))
          go_wp2_with (refine wpList_indexM rfl 72 (.tmp 8) (.tmp 9) rfl (ints (pad f)) rfl .i64 k rfl 16 3 Try.underlying72 (by kernel_rfl) i0 hi hi1 hlt _ HX.out ?_)
          go_round
          case rel => exact ⟨k + 1, by omega, by go_num, HG⟩
          case measure => simp [intOf]; omega
        · have HR := Lib.hid (HBAD.out (inB_high h1))
          go_wp2_with (refine wpList_indexM rfl 72 (.tmp 8) (.tmp 9) rfl (ints (pad f)) rfl .i64 k rfl 16 3 Try.underlying72 (by kernel_rfl) i0 hi hi1 hlt _ HX.out ?_)
          go_ret
          exact ⟨ret_bool HR.out.symm, BB.out⟩
    · obtain rfl : k = 16 := by omega
      have HO2 : Hid (R = (((List.range 3).all fun k => rowOk rows n k) && inB c n)) := Lib.hid (by rw [HO.out, HK.out]; simp)
      have H48 := Lib.hid (rows48 G)
      have H48L := Lib.hid (rows48_len G (by rw [← ints_len]; exact HL.out))
      generalize ints ((G.drop 18).take 48) = R48 at *
      go_wp2_with (refine wpList_loadM rfl 73 _ rfl w.heap.size 18 rfl 75 (ints G) R48 CC.out H48.out _ Try.underlying73 rfl (by rw [H48L.out]; exact Try.sizeRows) ?_)
      clear HFA HFL HF HO HK
      obtain ⟨ir, hir⟩ : ∃ ir, Try.prog.info? 72 = some ir := by
        have := Try.sizeRow
        cases h : Try.prog.info? 72 with
        | none => rw [h] at this; cases this
        | some q => exact ⟨q, rfl⟩
      have hirs : ir.size = 16 := by have := Try.sizeRow; rw [hir] at this; simpa using this
      have HIR := Lib.hid hir
      have HIRS := Lib.hid hirs
      clear hir hirs
      go_loopw [21] (fun iv wr => ∃ k : Nat, k ≤ 3 ∧ iv = .int .i64 k ∧ Hid ((List.range k).all (fun k => rowOk rows n k) = true) ∧ Hid (Cm wr w.heap.size 75 (ints G)) ∧ Hid (Below w.heap.size w wr) ∧ w.heap.size < wr.heap.size) (fun iv _ => 3 - (intOf iv).toNat)
      case atStart => exact ⟨0, Nat.zero_le _, rfl, Lib.hid rfl, CC, BB, hw1⟩
      case round =>
        obtain ⟨k, hk, rfl, HK, C0, HB, hwr⟩ := hrel
        by_cases hlt : k < 3
        · have HROW := Lib.hid (H48R.out k hlt)
          have HL16 := Lib.hid (HPL.out k)
          have HBAD : Hid (rowOk rows n k = false → R = false) := Lib.hid (fun h => by rw [HO2.out, all_false h hlt]; rfl)
          have HGOOD : Hid (rowOk rows n k = true → (List.range (k + 1)).all (fun k => rowOk rows n k) = true) := Lib.hid (fun h => all_succ HK.out h)
          have HDEF : Hid (rowOk rows n k = decide (pad (rows.getD k []) = pad (num ((pad (rows.getD k [])).take n)))) := Lib.hid rfl
          generalize rowOk rows n k = ok at *
          generalize pad (rows.getD k []) = P at *
          have HP1 := Lib.hid (fun v (hv : v ∈ ints P) => ints_one hv)
          have HIL : Hid ((ints P).length = 16) := Lib.hid (by rw [ints_len]; exact HL16.out)
          go_wp2_with (first
            | (refine wpList_indexR rfl 73 (.tmp 20) (.tmp 21) rfl R48 rfl .i64 k rfl 3 16 72 3 Try.underlying73 Try.underlying72 ir HIR.out hlt (ints P) (by rw [HIRS.out]; exact HROW.out) ?_)
            | (refine wpList_storeM rfl 72 (.tmp 6) (.tmp 23) rfl wr.heap.size 0 rfl (ints P) rfl 72 (ints (List.replicate 16 0)) (Cm.new rfl) (by rw [HIL.out, ints_len]; simp) (by rw [HIL.out]; exact Try.sizeRow) HP1.out ?_; intro w2 hc2 ha2; rw [lay'_all (by rw [HIL.out, ints_len]; simp)] at hc2; have C2 := Lib.hid hc2; have C1 := Lib.hid (ha2.cm (C0.out.alloc (.cells (ints (List.replicate 16 0)).toArray 72)) (by omega)); have HB2 : Hid (Below w.heap.size w w2) := Lib.hid (Below.trans (HB.out.alloc (Nat.le_of_lt hwr) _) (ha2.below (Nat.le_of_lt hwr))); clear hc2 ha2))
          have hq2 : wr.heap.size < w2.heap.size := C2.out.lt
          have hq1 : w.heap.size < w2.heap.size := C1.out.lt
          have KN := Lib.hid (fun W => numbered_any P n W HL16.out hn)
          have HQL : Hid ((pad (num (P.take n))).length = 16) := Lib.hid (pad_len (by rw [num_len, List.length_take, HL16.out]; omega))
          have hEq := fun W => run_row_eq P (pad (num (P.take n))) HL16.out HQL.out W
          rw [← HDEF.out] at hEq
          have HU : Try.prog.underlying 72 = some (.array 16 3) := Try.underlying72
          have HSZ : (Try.prog.info? 72).map (·.size) = some (ints P).length := by rw [HIL.out]; exact Try.sizeRow
          have hc0 := (HC.out _ _ _ C1.out).1
          have hrg : w2.rangeAt wr.heap.size 0 (ints P) := C2.out.whole
          clear HDEF
          generalize pad (num (P.take n)) = P' at *
          go_wp2
          have hS : ∀ W : World, Below w2.heap.size w2 W → W.rangeAt wr.heap.size 0 (ints P) := fun W h j v hj => by rw [h.cell (p := ⟨wr.heap.size, 0 + j, none⟩) hq2]; exact hrg j v hj
          have hS0 : ∀ W : World, Below w2.heap.size w2 W → W.cell? ⟨w.heap.size, 0, none⟩ = some (.int .i64 n) := fun W h => by rw [h.cell (p := ⟨w.heap.size, 0, none⟩) hq1]; exact hc0
          have HS := Lib.hid hS
          have HS0 := Lib.hid hS0
          clear hS hS0 hrg hc0
          refine wp_region_held_drew (S := fun w' => Below w2.heap.size w2 w') (by kernel_rfl) (Below.refl _ _).drew (fun hHeld => ?_)
          refine wpAnyH_take (i := 0) rfl (by kernel_rfl) (by kernel_rfl) (by kernel_rfl) (fun _ _ _ h => h) (yieldsIf_load_mid (by rfl) 72 _ rfl wr.heap.size 0 rfl (ints P) _ HS.out HU rfl HSZ) hHeld ?_
          simp only [Act.put, List.setIfInBounds_toArray]
          refine wpAnyH_take (i := 1) rfl (by kernel_rfl) (by kernel_rfl) (by kernel_rfl) (fun _ _ _ h => h) (yieldsIf_load_mid (by rfl) 72 _ rfl wr.heap.size 0 rfl (ints P) _ HS.out HU rfl HSZ) hHeld ?_
          simp only [Act.put]
          refine wpAnyH_take (i := 2) (v := .pointer (some ⟨w.heap.size, 0, none⟩)) rfl (by kernel_rfl) (by kernel_rfl) (by kernel_rfl) (fun _ _ _ h => h) (Or.inl ⟨by rfl, by intro w hSw; go_simp⟩) hHeld ?_
          simp only [Act.put]
          refine wpAnyH_take (i := 3) (v := .int .i64 n) rfl (by kernel_rfl) (by kernel_rfl) (by kernel_rfl) (fun _ _ _ h => h) (Or.inl ⟨by rfl, by intro w hSw; have h2 := HS0.out w hSw; go_simp⟩) hHeld ?_
          simp only [Act.put]
          refine wpAnyH_ready (rs := [4]) (by kernel_rfl) (by simp) ?_
          refine AllReadyH.cons rfl (fun K hK => ?_) AllReadyH.nil
          go_simp
          refine (KN.out _).mono ?_
          rintro e w3 ⟨rfl, hb3⟩
          have hB3 : Below w2.heap.size w2 w3 := (Below.refl _ _).drew.trans hb3
          clear hb3 hHeld
          refine hK.out _ _ hB3 (fun hHeld => ?_)
          clear hK K
          refine wpAnyH_take (i := 5) (v := .bool (!ok)) rfl (by kernel_rfl) (by kernel_rfl) (by kernel_rfl) (fun _ _ _ h => h) (Or.inl ⟨by rfl, by intro w hSw; go_simp⟩) hHeld ?_
          simp only [Act.put, List.setIfInBounds_toArray]
          refine wpAnyH_done (by kernel_rfl) ?_ _
          have HB3 : Hid (Below w.heap.size w w3) := Lib.hid (HB2.out.trans (hB3.mono HB2.out.size))
          have C3 := Lib.hid (C1.out.all hB3)
          have hs3 : w.heap.size < w3.heap.size := C3.out.lt
          clear hB3 hHeld HS HS0 hEq
          cases ok with
          | false =>
            have HR := Lib.hid (HBAD.out rfl)
            go_wp2
            go_ret
            exact ⟨ret_bool HR.out.symm, HB3.out⟩
          | true =>
            have HR := Lib.hid (HGOOD.out rfl)
            go_wp2
            go_roundw
            case rel => exact ⟨k + 1, by omega, by go_num, HR, C3, HB3, hs3⟩
            case measure => simp [intOf]; omega
        · obtain rfl : k = 3 := by omega
          have HO3 : Hid (R = inB c n) := Lib.hid (by rw [HO2.out, HK.out]; simp)
          have hc66 := (HC.out _ _ _ C0.out).2
          rw [← HO3.out] at KW
          go_wp2_with (refine wpList_loadM rfl 75 _ rfl w.heap.size 0 rfl 75 (ints G) (ints G) C0.out (fun j _ => by rw [Nat.zero_add]) _ Try.underlying75 rfl (by rw [HL.out]; exact Try.sizeGrid) ?_)
          refine (KW.out _).mono ?_
          rintro e w3 ⟨rfl, hb3⟩
          have HB3 : Hid (Below w.heap.size w w3) := Lib.hid (HB.out.trans (hb3.mono HB.out.size))
          clear hb3 hc66
          go_wp2
          go_ret
          exact ⟨rfl, HB3.out⟩
end Go.Proofs.Ytegmoojjffkacaa
