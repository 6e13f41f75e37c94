/-
  The program's grids: a grid as a list of 67 numbers; contracts of hasWorld, hasAgent, confuses, isNear.
-/
import Derived.Test.YtegmoojjffkacaaRow
namespace Go.Proofs.Ytegmoojjffkacaa
open Go.RowKit Go.WideShapes
open Go Go.Deep

/-- the numbers of a grid: worlds, agents, facts, three rows of blocks, the actual world -/
def gL (n a : Int) (f : List Int) (rows : List (List Int)) (c : Int) : List Int :=
  [n, a] ++ (pad f ++ (pad (rows.getD 0 []) ++ (pad (rows.getD 1 []) ++ (pad (rows.getD 2 []) ++ [c]))))
/-- all lists fit into a row -/
def small (f : List Int) (rows : List (List Int)) : Prop := f.length ≤ 16 ∧ ∀ k, (rows.getD k []).length ≤ 16
theorem mid_get {α : Type} (A B C : List α) {i j : Nat} (hi : i = A.length + j) (hj : j < B.length) : (A ++ (B ++ C))[i]? = B[j]? := by
  subst hi
  rw [List.getElem?_append_right (by omega), Nat.add_sub_cancel_left, List.getElem?_append_left hj]
section
variable {n a c : Int} {f : List Int} {rows : List (List Int)}
theorem gL_len (h : small f rows) : (gL n a f rows c).length = 67 := by
  have h0 := pad_len h.1; have h1 := pad_len (h.2 0); have h2 := pad_len (h.2 1); have h3 := pad_len (h.2 2)
  unfold gL
  generalize pad (rows.getD 0 []) = R0 at *
  generalize pad (rows.getD 1 []) = R1 at *
  generalize pad (rows.getD 2 []) = R2 at *
  simp [h0, h1, h2, h3]
theorem gL_0 : (gL n a f rows c)[0]? = some n := rfl
theorem gL_1 : (gL n a f rows c)[1]? = some a := rfl
theorem gL_f (h : small f rows) {j : Nat} (hj : j < 16) : (gL n a f rows c)[2 + j]? = (pad f)[j]? := by
  unfold gL; exact mid_get _ _ _ rfl (by rw [pad_len h.1]; exact hj)
theorem gL_r (h : small f rows) {k j : Nat} (hk : k < 3) (hj : j < 16) : (gL n a f rows c)[18 + k * 16 + j]? = (pad (rows.getD k []))[j]? := by
  have h0 := pad_len h.1; have h1 := pad_len (h.2 0); have h2 := pad_len (h.2 1); have h3 := pad_len (h.2 2)
  have hk' : k = 0 ∨ k = 1 ∨ k = 2 := by omega
  unfold gL
  rcases hk' with rfl | rfl | rfl
  all_goals
    generalize pad (rows.getD 0 []) = R0 at *
    generalize pad (rows.getD 1 []) = R1 at *
    generalize pad (rows.getD 2 []) = R2 at *
  · rw [← List.append_assoc]
    exact mid_get _ _ _ (by simp [h0]) (by omega)
  · rw [← List.append_assoc, ← List.append_assoc]
    exact mid_get _ _ _ (by simp [h0, h1]) (by omega)
  · rw [← List.append_assoc, ← List.append_assoc, ← List.append_assoc]
    exact mid_get _ _ _ (by simp [h0, h1, h2]) (by omega)
theorem gL_66 (h : small f rows) : (gL n a f rows c)[66]? = some c := by
  have h0 := pad_len h.1; have h1 := pad_len (h.2 0); have h2 := pad_len (h.2 1); have h3 := pad_len (h.2 2)
  unfold gL
  generalize pad (rows.getD 0 []) = R0 at *
  generalize pad (rows.getD 1 []) = R1 at *
  generalize pad (rows.getD 2 []) = R2 at *
  rw [← List.append_assoc, ← List.append_assoc, ← List.append_assoc, ← List.append_assoc, List.getElem?_append_right (by simp [h0, h1, h2, h3])]
  simp [h0, h1, h2, h3]
theorem pad_get {l : List Int} {j : Nat} (hj : j < 16) (hl : l.length ≤ 16) : (pad l)[j]? = some (l.getD j 0) := by
  unfold pad
  rcases Nat.lt_or_ge j l.length with h | h
  · rw [List.getElem?_append_left h, getD_some 0 h]
  · rw [List.getElem?_append_right h, List.getElem?_replicate, if_pos (by omega), List.getD_eq_getElem?_getD, List.getElem?_eq_none h]; rfl
end
theorem ints_get {l : List Int} {j : Nat} : (ints l)[j]? = l[j]?.map (Value.int .i64) := by unfold ints; rw [List.getElem?_map]
/-- a grid's cells in memory -/
theorem Cm.g0 {w : World} {b : Nat} {T : TypeId} {n a c : Int} {f : List Int} {rows : List (List Int)} (h : Cm w b T (ints (gL n a f rows c))) : w.cell? ⟨b, 0, none⟩ = some (.int .i64 n) := by rw [h.cell, ints_get, gL_0]; rfl
theorem Cm.g1 {w : World} {b : Nat} {T : TypeId} {n a c : Int} {f : List Int} {rows : List (List Int)} (h : Cm w b T (ints (gL n a f rows c))) : w.cell? ⟨b, 1, none⟩ = some (.int .i64 a) := by rw [h.cell, ints_get, gL_1]; rfl
theorem Cm.g66 {w : World} {b : Nat} {T : TypeId} {n a c : Int} {f : List Int} {rows : List (List Int)} (h : Cm w b T (ints (gL n a f rows c))) (hs : small f rows) : w.cell? ⟨b, 66, none⟩ = some (.int .i64 c) := by rw [h.cell, ints_get, gL_66 hs]; rfl
theorem Cm.gf {w : World} {b : Nat} {T : TypeId} {n a c : Int} {f : List Int} {rows : List (List Int)} (h : Cm w b T (ints (gL n a f rows c))) (hs : small f rows) {j : Nat} (hj : j < 16) : w.cell? ⟨b, 2 + j, none⟩ = some (.int .i64 (f.getD j 0)) := by
  rw [h.cell, ints_get, gL_f hs hj, pad_get hj hs.1]; rfl
theorem Cm.gr {w : World} {b : Nat} {T : TypeId} {n a c : Int} {f : List Int} {rows : List (List Int)} (h : Cm w b T (ints (gL n a f rows c))) (hs : small f rows) {k j : Nat} (hk : k < 3) (hj : j < 16) : w.cell? ⟨b, 18 + k * 16 + j, none⟩ = some (.int .i64 ((rows.getD k []).getD j 0)) := by
  rw [h.cell, ints_get, gL_r hs hk hj, pad_get hj (hs.2 k)]; rfl

set_option maxRecDepth 100000 in
set_option maxHeartbeats 2000000 in
theorem confuses_any (n a c : Int) (f : List Int) (rows : List (List Int)) (hs : small f rows) (k i j : Nat) (hk : k < 3) (hi : i < 16) (hj : j < 16) (w : World) :
    Calls Try.prog 90 #[.agg (ints (gL n a f rows c)).toArray, .int .i64 k, .int .i64 i, .int .i64 j] w fun e w' => e = .returned (.bool ((rows.getD k []).getD i 0 == (rows.getD k []).getD j 0)) ∧ Below w.heap.size w w' := by
  go_enter Try.func90, Try.ntmps90
  go_wp2
  have C1 : Cm (w.alloc (.cells (ints (gL n a f rows c)).toArray 75)) w.heap.size 75 (ints (gL n a f rows c)) := Cm.new rfl
  have B1 : Below w.heap.size w (w.alloc (.cells (ints (gL n a f rows c)).toArray 75)) := by go_grown
  generalize w.alloc (.cells (ints (gL n a f rows c)).toArray 75) = w1 at *
  have c1 := C1.gr hs hk hi
  have c2 := C1.gr hs hk hj
  have BB := Lib.hid B1
  generalize hx : (rows.getD k []).getD i 0 = x at *
  generalize hy : (rows.getD k []).getD j 0 = y at *
  have HX := Lib.hid hx
  have HY := Lib.hid hy
  clear hx hy
  generalize gL n a f rows c = G at *
  clear C1 B1 hs
  have k0 : (0 : Int) ≤ (k : Int) := Int.natCast_nonneg _
  have k1 : (k : Int) < 3 := by omega
  have i0 : (0 : Int) ≤ (i : Int) := Int.natCast_nonneg _
  have i1 : (i : Int) < 16 := by omega
  have j0 : (0 : Int) ≤ (j : Int) := Int.natCast_nonneg _
  have j1 : (j : Int) < 16 := by omega
  go_quiet (fail)
  go_wp2
  go_ret
  exact ⟨ret_bool (by rw [HX.out, HY.out]), below_drewN' BB.out _⟩

/-- x is one of the first n -/
def inB (x n : Int) : Bool := decide (0 ≤ x ∧ x < n)
theorem inB_yes {x n : Int} (h0 : 0 ≤ x) (h1 : x < n) : inB x n = true := by unfold inB; exact decide_eq_true ⟨h0, h1⟩
theorem inB_low {x n : Int} (h : x < 0) : inB x n = false := by unfold inB; exact decide_eq_false (by omega)
theorem inB_high {x n : Int} (h : n ≤ x) : inB x n = false := by unfold inB; exact decide_eq_false (by omega)
set_option maxRecDepth 100000 in
set_option maxHeartbeats 2000000 in
theorem hasWorld_any (n a c : Int) (f : List Int) (rows : List (List Int)) (x : Int) (w : World) :
    Calls Try.prog 68 #[.agg (ints (gL n a f rows c)).toArray, .int .i64 x] w fun e w' => e = .returned (.bool (inB x n)) ∧ Below w.heap.size w w' := by
  rcases Int.lt_or_le x 0 with h | h
  · rw [inB_low h]
    generalize gL n a f rows c = G
    go_enter Try.func68, Try.ntmps68
    go_wp2
    go_ret
    exact ⟨rfl, by go_grown⟩
  · have HC := Lib.hid (fun (W : World) b T (h : Cm W b T (ints (gL n a f rows c))) => h.g0)
    generalize gL n a f rows c = G at *
    rcases Int.lt_or_le x n with h2 | h2
    all_goals
      first | rw [inB_yes h h2] | rw [inB_high h2]
      go_enter Try.func68, Try.ntmps68
      have hc := HC.out (w.alloc (.cells (ints G).toArray 75)) w.heap.size 75 (Cm.new rfl)
      have B1 : Below w.heap.size w (w.alloc (.cells (ints G).toArray 75)) := by go_grown
      have BB := Lib.hid B1
      clear B1
      go_wp2
      go_ret
      first | exact ⟨rfl, BB.out⟩ | exact ⟨ret_bool (decide_eq_false (by omega)), BB.out⟩
set_option maxRecDepth 100000 in
set_option maxHeartbeats 2000000 in
theorem hasAgent_any (n a c : Int) (f : List Int) (rows : List (List Int)) (x : Int) (w : World) :
    Calls Try.prog 84 #[.agg (ints (gL n a f rows c)).toArray, .int .i64 x] w fun e w' => e = .returned (.bool (inB x a)) ∧ Below w.heap.size w w' := by
  rcases Int.lt_or_le x 0 with h | h
  · rw [inB_low h]
    generalize gL n a f rows c = G
    go_enter Try.func84, Try.ntmps84
    go_wp2
    go_ret
    exact ⟨rfl, by go_grown⟩
  · have HC := Lib.hid (fun (W : World) b T (h : Cm W b T (ints (gL n a f rows c))) => h.g1)
    generalize gL n a f rows c = G at *
    rcases Int.lt_or_le x a with h2 | h2
    all_goals
      first | rw [inB_yes h h2] | rw [inB_high h2]
      go_enter Try.func84, Try.ntmps84
      have hc := HC.out (w.alloc (.cells (ints G).toArray 75)) w.heap.size 75 (Cm.new rfl)
      have B1 : Below w.heap.size w (w.alloc (.cells (ints G).toArray 75)) := by go_grown
      have BB := Lib.hid B1
      clear B1
      go_wp2
      go_ret
      first | exact ⟨rfl, BB.out⟩ | exact ⟨ret_bool (decide_eq_false (by omega)), BB.out⟩
/-- some of the first a agents cannot tell i and j apart -/
def near (rows : List (List Int)) (a i j : Nat) : Bool := (List.range a).any fun k => (rows.getD k []).getD i 0 == (rows.getD k []).getD j 0
theorem near_succ (rows : List (List Int)) (a i j : Nat) : near rows (a + 1) i j = (near rows a i j || ((rows.getD a []).getD i 0 == (rows.getD a []).getD j 0)) := by
  unfold near; rw [List.range_succ, List.any_append]; simp
theorem near_mono {rows : List (List Int)} {a b i j : Nat} (h : near rows a i j = true) (hab : a ≤ b) : near rows b i j = true := by
  unfold near at *
  rw [List.any_eq_true] at *
  obtain ⟨k, hk, e⟩ := h
  exact ⟨k, by rw [List.mem_range] at *; omega, e⟩
theorem Try.sizeGrid : (Try.prog.info? 75).map (·.size) = some 67 := by kernel_rfl
theorem Try.sizeRows : (Try.prog.info? 73).map (·.size) = some 48 := by kernel_rfl
set_option maxRecDepth 100000 in
set_option maxHeartbeats 4000000 in
theorem isNear_any (n c : Int) (a : Nat) (f : List Int) (rows : List (List Int)) (hs : small f rows) (i j : Nat) (ha : a ≤ 3) (hi : i < 16) (hj : j < 16) (w : World) :
    Calls Try.prog 122 #[.agg (ints (gL n a f rows c)).toArray, .int .i64 i, .int .i64 j] w fun e w' => e = .returned (.bool (near rows a i j)) ∧ Below w.heap.size w w' := by
  have HC := Lib.hid (fun (W : World) b T (h : Cm W b T (ints (gL n a f rows c))) => h.g1)
  have HL : Hid ((ints (gL n a f rows c)).length = 67) := Lib.hid (by rw [ints_len]; exact gL_len hs)
  have KC := Lib.hid (fun k hk W => confuses_any n a c f rows hs k i j hk hi hj W)
  have HN := Lib.hid (fun k => near_succ rows k i j)
  have HM := Lib.hid (fun k h hk => near_mono (rows := rows) (a := k) (b := a) (i := i) (j := j) h hk)
  generalize gL n a f rows c = G at *
  go_enter Try.func122, Try.ntmps122
  have hc := HC.out (w.alloc (.cells (ints G).toArray 75)) w.heap.size 75 (Cm.new rfl)
  go_wp2
  go_loopw [10] (fun iv wr => ∃ k : Nat, k ≤ a ∧ iv = .int .i64 k ∧ Hid (near rows k i j = false) ∧ Hid (Cm wr w.heap.size 75 (ints G)) ∧ Hid (Below w.heap.size w wr)) (fun iv _ => a - (intOf iv).toNat)
  case atStart => exact ⟨0, Nat.zero_le _, rfl, Lib.hid rfl, Lib.hid (Cm.new rfl), Lib.hid (by go_grown)⟩
  case round =>
    clear hc
    obtain ⟨k, hk, rfl, HK, C0, HB⟩ := hrel
    by_cases hlt : k < a
    · have KK := Lib.hid (KC.out k (by omega))
      have HN2 := Lib.hid (HN.out k)
      have HN3 := Lib.hid (HM.out (k + 1))
      cases hq : ((rows.getD k []).getD i 0 == (rows.getD k []).getD j 0) with
      | true =>
        rw [hq] at KK HN2
        have HQ : Hid (near rows a i j = true) := Lib.hid (HN3.out (by rw [HN2.out]; simp) (by omega))
        clear hq
        go_wp2_with (refine wpList_loadM rfl 75 _ rfl w.heap.size 0 rfl 75 (ints G) (ints G) C0.out (fun j _ => by rw [Nat.zero_add]) _ Try.underlying75 rfl (by rw [HL.out]; exact Try.sizeGrid) ?_)
        refine (KK.out _).mono ?_
        rintro e w1 ⟨rfl, hb1⟩
        have HB1 : Hid (Below w.heap.size w w1) := Lib.hid (HB.out.trans (hb1.mono HB.out.size))
        clear hb1
        go_wp2
        go_ret
        exact ⟨by rw [HQ.out]; rfl, HB1.out⟩
      | false =>
        rw [hq] at KK HN2
        clear hq
        go_wp2_with (refine wpList_loadM rfl 75 _ rfl w.heap.size 0 rfl 75 (ints G) (ints G) C0.out (fun j _ => by rw [Nat.zero_add]) _ Try.underlying75 rfl (by rw [HL.out]; exact Try.sizeGrid) ?_)
        refine (KK.out _).mono ?_
        rintro e w1 ⟨rfl, hb1⟩
        have HB1 : Hid (Below w.heap.size w w1) := Lib.hid (HB.out.trans (hb1.mono HB.out.size))
        have C1 := Lib.hid (C0.out.all hb1)
        clear hb1
        go_wp2
        go_roundw
        case rel => exact ⟨k + 1, by omega, by go_num, Lib.hid (by rw [HN2.out, HK.out]; rfl), C1, HB1⟩
        case measure => simp [intOf]; omega
    · obtain rfl : k = a := by omega
      go_wp2
      go_ret
      exact ⟨by rw [HK.out]; rfl, HB.out⟩
theorem Try.buildGrid (w : World) (x y z : Int) : (Instr.build 75 #[(0, .int .i64 x), (1, .int .i64 y), (4, .int .i64 z)]).run Try.prog w = .ok (.agg (ints (gL x y [] [] z)).toArray) w := by kernel_rfl
theorem Try.buildGridA (w : World) (y : Int) : (Instr.build 75 #[(1, .int .i64 y)]).run Try.prog w = .ok (.agg (ints (gL 0 y [] [] 0)).toArray) w := by kernel_rfl
theorem Try.buildGridB (w : World) (x y : Int) : (Instr.build 75 #[(0, .int .i64 x), (1, .int .i64 y)]).run Try.prog w = .ok (.agg (ints (gL x y [] [] 0)).toArray) w := by kernel_rfl
theorem Try.buildGrid0 (w : World) : (Instr.build 75 #[]).run Try.prog w = .ok (.agg (ints (gL 0 0 [] [] 0)).toArray) w := by kernel_rfl
theorem Try.allocGrid (w : World) : (Instr.alloc 75 true (.tuple #[])).run Try.prog w = .ok (.pointer (some ⟨w.heap.size, 0, none⟩)) (w.alloc (.cells (ints (gL 0 0 [] [] 0)).toArray 75)) := by kernel_rfl

theorem ints_apps (a b c : List Int) : ints (a ++ (b ++ c)) = ints a ++ (ints b ++ ints c) := by simp [ints]
theorem lay_mid {A B B' C : List Int} {o : Nat} (ho : o = A.length) (hb : B'.length = B.length) : lay' (ints (A ++ (B ++ C))) o (ints B') = ints (A ++ (B' ++ C)) := by
  subst ho
  rw [lay'_eq _ _ _ (by simp [ints_len, hb]), ints_apps, ints_apps, ints_len, hb, List.take_left' (ints_len A)]
  rw [← List.append_assoc (ints A), List.drop_left' (by rw [List.length_append, ints_len, ints_len]), List.append_assoc]
/-- a row of a grid is laid down -/
theorem gL_set {n a c : Int} {f : List Int} {rows rows' : List (List Int)} {r : List Int} {k : Nat} (hs : small f rows) (hr : r.length ≤ 16) (hk : k < 3) (h0 : rows'.getD k [] = r) (h1 : ∀ i, i ≠ k → rows'.getD i [] = rows.getD i []) :
    lay' (ints (gL n a f rows c)) (18 + k * 16) (ints (pad r)) = ints (gL n a f rows' c) := by
  have p0 := pad_len hs.1; have p1 := pad_len (hs.2 0); have p2 := pad_len (hs.2 1); have p3 := pad_len (hs.2 2); have p4 := pad_len hr
  have hk' : k = 0 ∨ k = 1 ∨ k = 2 := by omega
  unfold gL
  rcases hk' with rfl | rfl | rfl
  · rw [h0, h1 1 (by omega), h1 2 (by omega)]
    generalize pad (rows.getD 0 []) = R0 at *
    generalize pad (rows.getD 1 []) = R1 at *
    generalize pad (rows.getD 2 []) = R2 at *
    have := lay_mid (A := [n, a] ++ pad f) (B := R0) (B' := pad r) (C := R1 ++ (R2 ++ [c])) (o := 18 + 0 * 16) (by simp [p0]) (by omega)
    simpa only [List.append_assoc] using this
  · rw [h0, h1 0 (by omega), h1 2 (by omega)]
    generalize pad (rows.getD 0 []) = R0 at *
    generalize pad (rows.getD 1 []) = R1 at *
    generalize pad (rows.getD 2 []) = R2 at *
    have := lay_mid (A := [n, a] ++ (pad f ++ R0)) (B := R1) (B' := pad r) (C := R2 ++ [c]) (o := 18 + 1 * 16) (by simp [p0, p1]) (by omega)
    simpa only [List.append_assoc] using this
  · rw [h0, h1 0 (by omega), h1 1 (by omega)]
    generalize pad (rows.getD 0 []) = R0 at *
    generalize pad (rows.getD 1 []) = R1 at *
    generalize pad (rows.getD 2 []) = R2 at *
    have := lay_mid (A := [n, a] ++ (pad f ++ (R0 ++ R1))) (B := R2) (B' := pad r) (C := [c]) (o := 18 + 2 * 16) (by simp [p0, p1, p2]) (by omega)
    simpa only [List.append_assoc] using this
theorem gL_setF {n a c : Int} {f : List Int} (hf : f.length ≤ 16) : lay' (ints (gL n a [] [] c)) 2 (ints (pad f)) = ints (gL n a f [] c) := by
  unfold gL
  exact lay_mid rfl (by rw [pad_len hf]; rfl)
end Go.Proofs.Ytegmoojjffkacaa
