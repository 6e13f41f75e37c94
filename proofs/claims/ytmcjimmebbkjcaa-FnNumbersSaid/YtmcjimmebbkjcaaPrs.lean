/-
  Slices of pairs of numbers in memory; contracts of the laws' helpers over them: toPair, toPairS, szPairS, eqPair, eqPairS, markPairS, heldPairS.
-/
import Derived.Test.YtmcjimmebbkjcaaRows
import Derived.Test.YtmcjimmebbkjcaaZLib
import Derived.Handy
import Derived.Deep.OwnRows
import Derived.Deep.RegionHeld3
import Derived.WalkSpells
import Derived.Deep.Slices
import Derived.ChangeSame
import Derived.WideShapes
import Derived.Lib.SmallJoins
namespace Go.Proofs.Ytmcjimmebbkjcaa
open Go.RowKit Go.WideShapes
open Go Go.Deep

/-- a pair of numbers -/
structure Pr where
  a : Int
  b : Int
  deriving DecidableEq
instance : Inhabited Pr := ⟨⟨0, 0⟩⟩
def Pr.v (x : Pr) : Value := .agg #[.int .i64 x.a, .int .i64 x.b]
def Pr.cs (x : Pr) : List Value := [.int .i64 x.a, .int .i64 x.b]
def prCells (xs : List Pr) : List Value := xs.flatMap Pr.cs

set_option maxHeartbeats 400000 in
theorem toPair_any (x : Pr) (w : World) : Calls Try.prog 22 #[x.v] w fun e w' => e = .returned x.v ∧ Below w.heap.size w w' := by
  obtain ⟨a, b⟩ := x
  unfold Pr.v
  go_enter Try.func22, Try.ntmps22
  go_wp2
  go_returns
  refine ⟨rfl, ?_⟩
  go_grown

theorem Try.infoPr : (Try.prog.info? 33).map (fun i => (i.zero, i.size, i.bytes)) = some (some (.agg #[.int .i64 0, .int .i64 0]), 2, 16) := by kernel_rfl
/-- the slice v reads, in w, as the pairs xs -/
def Ps (w : World) (v : Value) (xs : List Pr) : Prop :=
  ∃ a cap, v = .slice a xs.length cap ∧ xs.length ≤ cap ∧ cap ≤ maxLen ∧ (xs = [] ∨ ∃ b o, a = some ⟨b, o, none⟩ ∧ b < w.heap.size ∧ ∀ j, j < xs.length →
    w.cell? ⟨b, o + j * 2, none⟩ = some (.int .i64 (xs.getD j default).a) ∧ w.cell? ⟨b, o + j * 2 + 1, none⟩ = some (.int .i64 (xs.getD j default).b))

theorem prCells_len (xs : List Pr) : (prCells xs).length = xs.length * 2 := by
  induction xs with
  | nil => rfl
  | cons x xs ih => rw [prCells, List.flatMap_cons, List.length_append, ← prCells, ih]; simp [Pr.cs]; omega
theorem prCells_at {xs : List Pr} {j k : Nat} (hj : j < xs.length) (hk : k < 2) : (prCells xs)[j * 2 + k]? = (xs.getD j default).cs[k]? := by
  induction xs generalizing j with
  | nil => simp at hj
  | cons x xs ih =>
    rw [prCells, List.flatMap_cons, ← prCells]
    match j with
    | 0 => rw [List.getElem?_append_left (by simp [Pr.cs]; omega), Nat.zero_mul, Nat.zero_add]; rfl
    | j + 1 =>
      rw [List.getElem?_append_right (by simp [Pr.cs]; omega)]
      have := ih (j := j) (by simp at hj; omega)
      rw [show (j + 1) * 2 + k - x.cs.length = j * 2 + k by simp [Pr.cs]; omega, this]
      rfl
theorem Ps.of_own {w : World} {base : Nat} {e : TypeId} {v : Value} {n : Nat} {xs : List Pr} (h : w.ownsRow base e 2 v n (prCells xs)) : Ps w v xs := by
  have hl : xs.length = n := by have := h.1; rw [prCells_len] at this; omega
  rcases h.2 with ⟨rfl, h0⟩ | ⟨g, cap, cur, rfl, hb, hg, hn, hm, hc, ht⟩
  · have : xs = [] := List.length_eq_zero_iff.1 (by omega)
    subst this
    exact ⟨none, 0, rfl, Nat.le_refl _, by decide, .inl rfl⟩
  · subst hl
    refine ⟨_, cap, rfl, hn, hm, .inr ⟨g, 0, rfl, (Array.getElem?_eq_some_iff.1 hg).1, fun j hj => ?_⟩⟩
    have c := fun k (hk : k < 2) => (h.cellAt (j * 2 + k) (by omega)).trans (prCells_at hj hk)
    refine ⟨?_, ?_⟩
    · rw [Nat.zero_add]; exact c 0 (by decide)
    · rw [Nat.zero_add]; exact c 1 (by decide)
theorem Ps.below {w w' : World} {v : Value} {xs : List Pr} {B : Nat} (h : Ps w v xs) (hb : Below B w w') (hB : w.heap.size ≤ B) : Ps w' v xs := by
  obtain ⟨a, cap, rfl, h1, h2, h3⟩ := h
  refine ⟨a, cap, rfl, h1, h2, ?_⟩
  rcases h3 with h3 | ⟨b, o, rfl, hlt, hc⟩
  · exact .inl h3
  · refine .inr ⟨b, o, rfl, Nat.lt_of_lt_of_le hlt hb.size, fun j hj => ?_⟩
    rw [hb.cell (p := ⟨b, o + j * 2, none⟩) (by show b < B; omega), hb.cell (p := ⟨b, o + j * 2 + 1, none⟩) (by show b < B; omega)]
    exact hc j hj
theorem Ps.drewN {w : World} {v : Value} {xs : List Pr} (h : Ps w v xs) (n : Nat) : Ps (w.drewN n) v xs := h
theorem Ps.form {w : World} {v : Value} {xs : List Pr} (h : Ps w v xs) : ∃ a cap, v = .slice a xs.length cap := by
  obtain ⟨a, cap, e, _⟩ := h; exact ⟨a, cap, e⟩
theorem Ps.parts {w : World} {v : Value} {xs : List Pr} (h : Ps w v xs) : ∃ a cap, v = .slice a xs.length cap ∧ xs.length ≤ cap ∧ cap ≤ maxLen ∧ ∀ j, j < xs.length → ∃ b o, a = some ⟨b, o, none⟩ ∧ b < w.heap.size ∧
    w.cell? ⟨b, o + j * 2, none⟩ = some (.int .i64 (xs.getD j default).a) ∧ w.cell? ⟨b, o + j * 2 + 1, none⟩ = some (.int .i64 (xs.getD j default).b) := by
  obtain ⟨a, cap, rfl, h1, h2, h3⟩ := h
  refine ⟨a, cap, rfl, h1, h2, fun j hj => ?_⟩
  rcases h3 with h3 | ⟨b, o, rfl, hlt, hc⟩
  · subst h3; simp at hj
  · exact ⟨b, o, rfl, hlt, hc j hj⟩

set_option maxHeartbeats 1000000 in
theorem szPairS_any (v : Value) (xs : List Pr) (left : Int) (w : World) (h : Ps w v xs) (h0 : 0 ≤ left) (h1 : left ≤ 1048576) :
    Calls Try.prog 19 #[v, .int .i64 left] w fun e w' => e = .returned (.int .i64 (if left - xs.length < 0 then -1 else left - xs.length)) ∧ w = w' := by
  obtain ⟨a, cap, rfl, h2, h3, _⟩ := h
  unfold maxLen at h3
  by_cases hlt : left - (xs.length : Int) < 0
  · rw [if_pos hlt]
    go_enter Try.func19, Try.ntmps19
    go_wp2
    go_ret
    exact ⟨rfl, rfl⟩
  · rw [if_neg hlt]
    go_enter Try.func19, Try.ntmps19
    go_wp2
    go_ret
    exact ⟨rfl, rfl⟩

/-- what a store into an own row of pairs asks -/
theorem own_pair {w : World} {base g cap n k : Nat} {e : TypeId} {xs : List Value} (h : w.ownsRow base e 2 (.slice (some ⟨g, 0, none⟩) n cap) n xs) (hk : k < n) :
    w.frozen? ⟨g, k * 2, none⟩ = false ∧ w.frozen? ⟨g, k * 2 + 1, none⟩ = false ∧ (∃ z, w.cell? ⟨g, k * 2, none⟩ = some z) ∧ (∃ z, w.cell? ⟨g, k * 2 + 1, none⟩ = some z) := by
  have c : ∀ j, j < n * 2 → ∃ z, w.cell? ⟨g, j, none⟩ = some z := fun j hj => by
    rw [h.cellAt j hj]
    exact ⟨_, List.getElem?_eq_getElem (by rw [h.1]; exact hj)⟩
  exact ⟨h.frozenAt _, h.frozenAt _, c _ (by omega), c _ (by omega)⟩
theorem prCells_cons (x : Pr) (xs : List Pr) : prCells (x :: xs) = .int .i64 x.a :: .int .i64 x.b :: prCells xs := rfl
theorem prCells_app (xs ys : List Pr) : prCells (xs ++ ys) = prCells xs ++ prCells ys := by simp [prCells]
theorem prCells_set : ∀ (ys : List Pr) (k : Nat) (x : Pr), k < ys.length → ((prCells ys).set (k * 2) (.int .i64 x.a)).set (k * 2 + 1) (.int .i64 x.b) = prCells (ys.set k x) := by
  intro ys
  induction ys with
  | nil => intro k x h; simp at h
  | cons y ys ih =>
    intro k x h
    match k with
    | 0 => rfl
    | k + 1 =>
      have := ih k x (by simp at h; omega)
      rw [List.set_cons_succ, prCells_cons, prCells_cons, ← this]
      simp only [show (k + 1) * 2 = k * 2 + 1 + 1 by omega, List.set_cons_succ]
theorem own_pair_set {w : World} {base g cap n k : Nat} {e : TypeId} {ys : List Pr} (h : w.ownsRow base e 2 (.slice (some ⟨g, 0, none⟩) n cap) n (prCells ys)) (hk : k < n) (x : Pr) :
    ((w.setCell ⟨g, k * 2, none⟩ (.int .i64 x.a)).setCell ⟨g, k * 2 + 1, none⟩ (.int .i64 x.b)).ownsRow base e 2 (.slice (some ⟨g, 0, none⟩) n cap) n (prCells (ys.set k x)) := by
  have hl : ys.length = n := by have := h.1; rw [prCells_len] at this; omega
  rw [← prCells_set ys k x (by omega)]
  exact ((h.stored _ _).1.stored _ _).1
theorem made_pr (n : Nat) : (madeCells (Value.agg #[.int .i64 0, .int .i64 0]).cells (n * 2)).toList = prCells (List.replicate n default) := by
  have h1 : (madeCells (Value.agg #[.int .i64 0, .int .i64 0]).cells (n * 2)).toList = List.replicate (n * 2) (.int .i64 0) := by
    apply List.ext_getElem?
    intro j
    by_cases hj : j < n * 2
    · have : j % 2 = 0 ∨ j % 2 = 1 := by omega
      rcases this with h | h <;> simp [madeCells, hj, Value.cells, h]
    · simp [madeCells, hj]
  rw [h1]
  clear h1
  induction n with
  | zero => rfl
  | succ n ih => rw [List.replicate_succ, prCells_cons, ← ih, show (n + 1) * 2 = n * 2 + 1 + 1 by omega, List.replicate_succ, List.replicate_succ]; rfl
theorem set_takeP {α : Type} (xs : List α) (k n : Nat) (d x : α) (hk : k < xs.length) (hn : k < n) (hx : xs[k]? = some x) : (xs.take k ++ List.replicate (n - k) d).set k x = xs.take (k + 1) ++ List.replicate (n - (k + 1)) d := by
  have hl : (xs.take k).length = k := by rw [List.length_take]; omega
  rw [List.set_append_right _ _ (by omega), hl, Nat.sub_self, show n - k = (n - (k + 1)) + 1 by omega, List.replicate_succ, List.set_cons_zero, List.take_add_one, hx]
  simp

set_option maxRecDepth 100000 in
set_option maxHeartbeats 1000000 in
theorem toPairS_any (v : Value) (xs : List Pr) (w : World) (hr : Ps w v xs) (hn : xs.length ≤ 1048576) :
    Calls Try.prog 21 #[v] w fun e w' => ∃ g, e = .returned (.slice (some ⟨g, 0, none⟩) xs.length xs.length) ∧ w'.ownsRow w.heap.size 33 2 (.slice (some ⟨g, 0, none⟩) xs.length xs.length) xs.length (prCells xs) ∧ Below w.heap.size w w' := by
  obtain ⟨i0, hi, hz0, hz1, hz2⟩ := info_parts Try.infoPr
  obtain ⟨a, cap, rfl, h1, h2, h3⟩ := hr.parts
  unfold maxLen at h2
  have KEY := Lib.hid h3
  clear h3
  have hb1 : i0.bytes * xs.length ≤ 281474976710656 := by rw [hz2]; omega
  have HB1 := Lib.hid hb1
  clear hb1
  go_enter Try.func21, Try.ntmps21
  go_wp2_with (at_make; refine wpList_make_full _ rfl _ _ 22 rfl w.heap.size 33 i0 (.agg #[.int .i64 0, .int .i64 0]) 2 Try.underlying22 hi hz0 hz1 _ _ _ _ xs.length rfl rfl rfl rfl HB1.out (by unfold maxLen; omega) (Nat.le_refl _) ?_; intro w1 hown hg; have HO := Lib.hid hown; have HG := Lib.hid hg; clear hown hg)
  have hst : Hid (w1.ownsRow w.heap.size 33 2 (.slice (some ⟨w.heap.size, 0, none⟩) xs.length xs.length) xs.length (prCells (xs.take 0 ++ List.replicate (xs.length - 0) default))) := Lib.hid (by
    have h := HO.out
    rw [made_pr] at h
    simpa using h)
  have hbw : Hid (Below w.heap.size w w1) := Lib.hid ((Below.refl _ _).grown HG.out (Nat.le_refl _) (fun k hk => by cases hk))
  clear HO HG
  go_loopw [4] (fun i wr => ∃ k : Nat, k ≤ xs.length ∧ i = .int .i64 k ∧ Hid (wr.ownsRow w.heap.size 33 2 (.slice (some ⟨w.heap.size, 0, none⟩) xs.length xs.length) xs.length (prCells (xs.take k ++ List.replicate (xs.length - k) default))) ∧ Hid (Below w.heap.size w wr)) (fun i _ => xs.length - (intOf i).toNat)
  case atStart => exact ⟨0, Nat.zero_le _, rfl, hst, hbw⟩
  case round =>
    obtain ⟨k, hk, rfl, HO, HB⟩ := hrel
    by_cases hlt : k < xs.length
    · obtain ⟨b, o, rfl, hb, c0, c1⟩ := KEY.out k hlt
      rw [← HB.out.cell (p := ⟨b, o + k * 2, none⟩) hb] at c0
      rw [← HB.out.cell (p := ⟨b, o + k * 2 + 1, none⟩) hb] at c1
      generalize hx : xs.getD k default = x at c0 c1
      have HX : Hid (xs[k]? = some x) := Lib.hid (by rw [List.getElem?_eq_getElem hlt, ← hx, List.getD_eq_getElem?_getD, List.getElem?_eq_getElem hlt]; rfl)
      clear hx
      go_wp2_with fail
      refine (toPair_any x _).mono ?_
      rintro e w2 ⟨rfl, hb2⟩
      have HO2 := Lib.hid (own_below HO.out hb2 (Nat.le_refl _))
      have HB2 := Lib.hid (HB.out.trans (hb2.mono HB.out.size)); clear hb2 c0 c1
      obtain ⟨f0, f1, ⟨z0, g0⟩, ⟨z1, g1⟩⟩ := own_pair HO2.out hlt
      unfold Pr.v
      go_wp2
      go_roundw
      case rel =>
        refine ⟨k + 1, by omega, by go_num, Lib.hid ?_, Lib.hid ((HB2.out.setCell (Nat.le_refl _) _).setCell (Nat.le_refl _) _)⟩
        rw [← set_takeP xs k xs.length default x hlt hlt HX.out]
        exact own_pair_set HO2.out hlt x
      case measure => simp [intOf]; omega
    · obtain rfl : k = xs.length := by omega
      go_wp2
      go_ret
      refine ⟨_, rfl, ?_, HB.out⟩
      have h := HO.out
      rw [Nat.sub_self, List.take_of_length_le (Nat.le_refl _)] at h
      simpa using h

set_option maxHeartbeats 1000000 in
theorem eqPair_same (x : Pr) (w : World) : Calls Try.prog 48 #[x.v, x.v] w fun e w' => e = .returned (.bool true) ∧ Below w.heap.size w w' := by
  obtain ⟨a, b⟩ := x
  unfold Pr.v
  go_enter Try.func48, Try.ntmps48
  go_wp2
  go_ret
  refine ⟨rfl, ?_⟩
  go_grown

set_option maxRecDepth 100000 in
set_option maxHeartbeats 2000000 in
theorem eqPairS_same (u v : Value) (xs : List Pr) (w : World) (hu : Ps w u xs) (hv : Ps w v xs) :
    Calls Try.prog 16 #[u, v] w fun e w' => e = .returned (.bool true) ∧ Below w.heap.size w w' := by
  obtain ⟨a1, c1, rfl, hc1, hm1, h1⟩ := hu.parts
  obtain ⟨a2, c2, rfl, hc2, hm2, h2⟩ := hv.parts
  have K1 := Lib.hid h1
  have K2 := Lib.hid h2
  have U := Lib.hid hu; have V := Lib.hid hv
  clear h1 h2 hu hv
  unfold maxLen at hm1 hm2
  go_enter Try.func16, Try.ntmps16
  go_wp2
  go_loopw [5] (fun i wr => ∃ k : Nat, k ≤ xs.length ∧ i = .int .i64 k ∧ Hid (Below w.heap.size w wr)) (fun i _ => xs.length - (intOf i).toNat)
  case atStart => exact ⟨0, Nat.zero_le _, rfl, Lib.hid (Below.refl _ _)⟩
  case round =>
    obtain ⟨k, hk, rfl, HB⟩ := hrel
    by_cases hlt : k < xs.length
    · obtain ⟨b1, o1, rfl, hb1, d0, d1⟩ := K1.out k hlt
      obtain ⟨b2, o2, rfl, hb2, e0, e1⟩ := K2.out k hlt
      rw [← HB.out.cell (p := ⟨b1, o1 + k * 2, none⟩) hb1] at d0
      rw [← HB.out.cell (p := ⟨b1, o1 + k * 2 + 1, none⟩) hb1] at d1
      rw [← HB.out.cell (p := ⟨b2, o2 + k * 2, none⟩) hb2] at e0
      rw [← HB.out.cell (p := ⟨b2, o2 + k * 2 + 1, none⟩) hb2] at e1
      generalize xs.getD k default = x at d0 d1 e0 e1
      have hi0 : (0 : Int) ≤ (k : Int) := Int.natCast_nonneg _
      have hi1 : (k : Int) < (xs.length : Int) := by omega
      have hsz := HB.out.size
      go_wp2
      go_region_with ((go_at_call 48; refine (eqPair_same x _).mono ?_; rintro e w1 ⟨rfl, hb1⟩; have HB1 := Lib.hid hb1; clear hb1))
      all_goals
        go_wp2
        go_roundw
        case rel => exact ⟨k + 1, by omega, by go_num, Lib.hid (HB.out.drew.trans (HB1.out.mono hsz))⟩
        case measure => simp [intOf]; omega
    · obtain rfl : k = xs.length := by omega
      go_wp2
      go_ret
      exact ⟨rfl, HB.out⟩

/-- what markPairS leaves -/
def markPr (k i : Nat) : Pr := ⟨(k + i * 2 : Nat), (k + i * 2 + 1 : Nat)⟩
def marksPr (k n : Nat) : List Pr := (List.range n).map (markPr k)
theorem marksPr_len (k n : Nat) : (marksPr k n).length = n := by simp [marksPr]
theorem marksPr_get {k n i : Nat} (h : i < n) : (marksPr k n).getD i default = markPr k i := by
  unfold marksPr
  rw [List.getD_eq_getElem?_getD, List.getElem?_map, List.getElem?_range h]; rfl
theorem marksPr_set {k i : Nat} {xs : List Pr} (hi : i < xs.length) : (marksPr k i ++ xs.drop i).set i (markPr k i) = marksPr k (i + 1) ++ xs.drop (i + 1) := by
  rw [List.set_append_right _ _ (by rw [marksPr_len]; exact Nat.le_refl _), marksPr_len, Nat.sub_self, List.drop_eq_getElem_cons hi, List.set_cons_zero]
  unfold marksPr
  rw [List.range_succ, List.map_append]; simp

set_option maxRecDepth 100000 in
set_option maxHeartbeats 2000000 in
theorem markPairS_own (base : Nat) (v : Value) (n : Nat) (xs : List Pr) (k : Nat) (w : World) (hn : n ≤ 1048576) (h0 : 0 < k) (hk : k ≤ 4194400) (ho : w.ownsRow base 33 2 v n (prCells xs)) :
    Calls Try.prog 17 #[v, .int .i64 k] w fun e w' => e = .returned (.int .i64 (k + n * 2 : Nat)) ∧ w'.ownsRow base 33 2 v n (prCells (marksPr k n)) ∧ Below base w w' := by
  have hl : xs.length = n := by have := ho.1; rw [prCells_len] at this; omega
  rcases Nat.eq_zero_or_pos n with h00 | hpos
  · subst h00
    obtain ⟨a, cap, rfl⟩ : ∃ a cap, v = .slice a 0 cap := by
      rcases ho.2 with ⟨rfl, _⟩ | ⟨g, cap, cur, rfl, _⟩
      · exact ⟨_, _, rfl⟩
      · exact ⟨_, _, rfl⟩
    go_enter Try.func17, Try.ntmps17
    go_wp2
    refine wp_loop_rounds 1 ?_
    rw [rounds_succ]
    go_wp2
    go_ret
    have e : xs = [] := List.length_eq_zero_iff.1 hl
    subst e
    exact ⟨ret_int (by simp), ho, Below.refl _ _⟩
  obtain ⟨g, cap, rfl, hbg⟩ : ∃ g cap, v = .slice (some ⟨g, 0, none⟩) n cap ∧ base ≤ g := by
    rcases ho.2 with ⟨rfl, h⟩ | ⟨g, cap, cur, rfl, hb, _⟩
    · omega
    · exact ⟨_, _, rfl, hb⟩
  have HL := Lib.hid hl; clear hl
  go_enter Try.func17, Try.ntmps17
  go_wp2
  go_loopw [1, 5] (fun kv iv wr => ∃ i : Nat, i ≤ n ∧ iv = .int .i64 i ∧ kv = .int .i64 (k + i * 2 : Nat) ∧ Hid (wr.ownsRow base 33 2 (.slice (some ⟨g, 0, none⟩) n cap) n (prCells (marksPr k i ++ xs.drop i))) ∧ Hid (Below base w wr)) (fun _ iv _ => n - (intOf iv).toNat)
  case atStart => exact ⟨0, Nat.zero_le _, rfl, by go_num, Lib.hid (by simpa [marksPr] using ho), Lib.hid (Below.refl _ _)⟩
  case round =>
    obtain ⟨i, hi, rfl, rfl, HO, HB⟩ := hrel
    by_cases hlt : i < n
    · obtain ⟨f0, f1, ⟨z0, g0⟩, ⟨z1, g1⟩⟩ := own_pair HO.out hlt
      go_wp2
      go_roundw
      case rel =>
        refine ⟨i + 1, by omega, by go_num, by go_num, Lib.hid ?_, Lib.hid ((HB.out.setCell hbg _).setCell hbg _)⟩
        rw [← marksPr_set (by rw [HL.out]; exact hlt)]
        exact own_pair_set HO.out hlt (markPr k i)
      case measure => simp [intOf]; omega
    · obtain rfl : i = n := by omega
      go_wp2
      go_ret
      exact ⟨rfl, by have := HO.out; rw [List.drop_of_length_le (by rw [HL.out]; exact Nat.le_refl _), List.append_nil] at this; exact this, HB.out⟩

set_option maxRecDepth 100000 in
set_option maxHeartbeats 2000000 in
theorem heldPairS_any (v : Value) (n k : Nat) (w : World) (hn : n ≤ 1048576) (h0 : 0 < k) (hk : k ≤ 4194400) (hr : Ps w v (marksPr k n)) :
    Calls Try.prog 18 #[v, .int .i64 k] w fun e w' => e = .returned (.int .i64 (k + n * 2 : Nat)) ∧ w = w' := by
  obtain ⟨a, cap, rfl, hc1, hm1, h1⟩ := hr.parts
  rw [marksPr_len] at *
  have key : ∀ i, i < n → ∃ b o, a = some ⟨b, o, none⟩ ∧ b < w.heap.size ∧ w.cell? ⟨b, o + i * 2, none⟩ = some (.int .i64 (k + i * 2 : Nat)) ∧ w.cell? ⟨b, o + i * 2 + 1, none⟩ = some (.int .i64 (k + i * 2 + 1 : Nat)) := by
    intro i hi
    have := h1 i hi
    rw [marksPr_get hi] at this
    exact this
  have KEY := Lib.hid key
  have HR := Lib.hid hr
  clear h1 key hr
  unfold maxLen at hm1
  go_enter Try.func18, Try.ntmps18
  go_wp2
  go_loop [1, 5] (fun kv iv => ∃ i : Nat, i ≤ n ∧ iv = .int .i64 i ∧ kv = .int .i64 (k + i * 2 : Nat)) (fun _ iv => n - (intOf iv).toNat)
  case atStart => exact ⟨0, Nat.zero_le _, rfl, by go_num⟩
  case round =>
    obtain ⟨i, hi, rfl, rfl⟩ := hrel
    by_cases hlt : i < n
    · obtain ⟨b, o, rfl, hbl, c0, c1⟩ := KEY.out i hlt
      go_wp2
      go_round
      case rel => exact ⟨i + 1, by omega, by go_num, by go_num⟩
      case measure => simp [intOf]; omega
    · obtain rfl : i = n := by omega
      go_wp2
      go_ret
      exact ⟨rfl, rfl⟩

/-- numbers that a machine has -/
def WfP (xs : List Pr) : Prop := ∀ x ∈ xs, (Lit.int .i64 x.a).wf = true ∧ (Lit.int .i64 x.b).wf = true
/-- an argument that is a slice of pairs -/
def PsW (W : World) (v : Value) (xs : List Pr) : Prop := Ps W v xs ∧ WfP xs
set_option maxRecDepth 100000 in
theorem open_SlPair {H : Type} {enc : TypeId × Value → H} (W : World) (base : Nat) (v : Value) (d : DataW H) (p : List MemPlace) (_hv : Value.okWide Try.prog W .any base 27 v)
    (h : DataW.Trod enc Try.prog W 0 (fun _ => true) true 27 v d p) : ∃ xs, PsW W v xs := by
  obtain ⟨a0, len0, cap0, rfl⟩ := okWide_slice Try.underlying27 _hv
  obtain ⟨fuel, hf⟩ := h
  rcases Go.Deep.open_slice Try.underlying27 hf with ⟨hcs, _⟩ | ⟨a, len, cap, m, n, D, Pl, hcs, _, hl, hm, hmm, _, hi⟩
  · simp [Value.cells] at hcs
    obtain ⟨rfl, rfl, rfl⟩ := hcs
    exact ⟨[], ⟨none, 0, rfl, Nat.le_refl _, by decide, .inl rfl⟩, fun _ h => (by cases h)⟩
  · simp [Value.cells] at hcs
    obtain ⟨rfl, rfl, rfl⟩ := hcs
    simp only [if_true] at hmm
    have hC : Try.prog.cellsOf 29 = 2 := by kernel_rfl
    rw [hC] at hi
    have key : ∀ i, i < len0 → ∃ x : Pr, W.cell? (a.add (i * 2 + 0)) = some (.int .i64 x.a) ∧ W.cell? (a.add (i * 2 + 1)) = some (.int .i64 x.b) ∧ (Lit.int .i64 x.a).wf = true ∧ (Lit.int .i64 x.b).wf = true := by
      intro i hlt
      obtain ⟨cs, hc, ht⟩ := hi i (by omega)
      obtain ⟨_, hlen, hat⟩ := World.cells?_some hc
      obtain ⟨ys, k, hk, hx, hcl, hyl, hg⟩ := DataW.trod_struct Try.underlying29 ht
      match cs, hlen with
      | [c0, c1], _ =>
        have hI : Try.prog.cellsOf 3 = 1 := by kernel_rfl
        have e0 : DataW.trod enc Try.prog W 0 (fun _ => true) true k 3 (([c0, c1].drop 0).take (Try.prog.cellsOf 3)) = ys[0]? := hg 0 _ rfl
        have e1 : DataW.trod enc Try.prog W 0 (fun _ => true) true k 3 (([c0, c1].drop 1).take (Try.prog.cellsOf 3)) = ys[1]? := hg 1 _ rfl
        rw [hI] at e0 e1
        simp only [List.drop_zero, List.drop_succ_cons, List.take_succ_cons, List.take_zero] at e0 e1
        rw [List.getElem?_eq_getElem (by rw [hyl]; decide)] at e0 e1
        obtain ⟨n0, h0, _, wf0⟩ := DataW.trod_int Try.underlying3 e0
        obtain ⟨n1, h1, _, wf1⟩ := DataW.trod_int Try.underlying3 e1
        simp only [List.cons.injEq, and_true] at h0 h1
        subst h0 h1
        exact ⟨⟨n0, n1⟩, by rw [← Go.Deep.add_add]; exact hat 0 (by decide), by rw [← Go.Deep.add_add]; exact hat 1 (by decide), wf0, wf1⟩
    have hex : ∃ f : Nat → Pr, ∀ i, i < len0 → W.cell? (a.add (i * 2 + 0)) = some (.int .i64 (f i).a) ∧ W.cell? (a.add (i * 2 + 1)) = some (.int .i64 (f i).b) ∧ (Lit.int .i64 (f i).a).wf = true ∧ (Lit.int .i64 (f i).b).wf = true := by
      refine ⟨fun i => if h : i < len0 then (key i h).choose else default, fun i h => ?_⟩
      simp only [dif_pos h]
      exact (key i h).choose_spec
    obtain ⟨f, hf'⟩ := hex
    have hlen : ((List.range len0).map f).length = len0 := by simp
    refine ⟨(List.range len0).map f, ⟨some a, cap0, by rw [hlen], by rw [hlen]; exact hl, hm, ?_⟩, fun x hx => (by
      obtain ⟨i, hi, rfl⟩ := List.mem_map.1 hx
      exact (hf' i (List.mem_range.1 hi)).2.2)⟩
    rcases Nat.eq_zero_or_pos len0 with h0 | h0
    · exact .inl (by subst h0; rfl)
    · have hc0 := (hf' 0 h0).1
      obtain ⟨b, o, s⟩ := a
      have hs : s = none := by simpa [Addr.add] using World.cell?_spot hc0
      subst hs
      refine .inr ⟨b, o, rfl, World.block_lt_of_cell? W _ (by rw [addr_add0] at hc0; exact hc0), fun j hj => ?_⟩
      have hj' : j < len0 := by rw [hlen] at hj; exact hj
      have hx : ((List.range len0).map f).getD j default = f j := by
        rw [List.getD_eq_getElem?_getD, List.getElem?_map, List.getElem?_range hj']; rfl
      have := hf' j hj'
      simp only [addr_add0, ← Nat.add_assoc, Nat.add_zero] at this
      rw [hx]
      exact ⟨this.1, this.2.1⟩
/-- an argument that is a pair -/
def Pv (v : Value) (x : Pr) : Prop := v = x.v ∧ (Lit.int .i64 x.a).wf = true ∧ (Lit.int .i64 x.b).wf = true
theorem open_Pair {H : Type} {enc : TypeId × Value → H} (W : World) (base : Nat) (v : Value) (d : DataW H) (p : List MemPlace) (_hv : Value.okWide Try.prog W .any base 29 v)
    (h : DataW.Trod enc Try.prog W 0 (fun _ => true) true 29 v d p) : ∃ x : Pr, Pv v x := by
  obtain ⟨c0, c1, y0, y1, n, rfl, rfl, rfl, h0, h1⟩ := Go.Joins.open_agg2 Try.underlying29 (by kernel_rfl) (by kernel_rfl) _hv h
  obtain ⟨a, ha, _, wa⟩ := DataW.trod_int Try.underlying3 h0
  obtain ⟨b, hb, _, wb⟩ := DataW.trod_int Try.underlying3 h1
  simp only [List.cons.injEq, and_true] at ha hb
  subst ha hb
  exact ⟨⟨a, b⟩, rfl, wa, wb⟩

section
variable {P : Program}
/-- append of one pair that was just laid -/
theorem wpList_push2 {ops : Array Oper} {rest : List Oper} {o : Oper} {a : Act} {Q : Exit → Act → World → Prop} (hgd : o.guard = none) (s x : Operand) (t : TypeId)
    (ho : o.op = .call { callee := .builtin .append, args := #[s, x], argTypes := #[t, t] })
    (e : TypeId) (z : Value) (bytes : Nat) (ht : P.underlying t = some (.slice e))
    (hinfo : (P.info? e).map (fun i => (i.zero, i.size, i.bytes)) = some (some z, 2, bytes)) (hzs : z.cells.size = 2)
    (base : Nat) (w0 : World) (y0 y1 v : Value) (n : Nat) (xs : List Value) (hown : w0.ownsRow base e 2 v n xs)
    (hs : a.eval s = v) (b : Nat) (hx : a.eval x = .slice (some ⟨b, 0, none⟩) 1 1) (hbk : b = w0.heap.size) (h0 : y0.oneCell' = true) (h1 : y1.oneCell' = true)
    (h63 : n + 1 ≤ maxLen) (hbytes : (n + 1) * bytes ≤ 140737488355328) (hbase : base ≤ w0.heap.size)
    (h : ∀ v' w', w'.ownsRow base e 2 v' (n + 1) (xs ++ [y0, y1]) → Below base w0 w' → w0.grownBy w' v.ownBlock → wpList P ops Q rest (a.put o.dst v') w') :
    wpList P ops Q (o :: rest) a (w0.alloc (.cells #[y0, y1] e)) := by
  subst hbk
  obtain ⟨i0, hi, hz0, hz1, hz2⟩ := info_parts hinfo
  refine wpList_append_own _ hgd s x t ho base e i0 z 2 bytes ht hi hz0 hz1 hz2 hzs (by decide) v n xs hs (hown.alloc _) ⟨w0.heap.size, 0, none⟩ 1 1 [y0, y1] hx rfl ?_ ?_ h63 hbytes (by simp; omega) ?_
  · intro j u hu
    have hj : j < 2 := by
      rcases Nat.lt_or_ge j 2 with h | h
      · exact h
      · rw [List.getElem?_eq_none (by simpa using h)] at hu; cases hu
    rw [addr_add0, World.cell?_alloc_at _ _ _ _ rfl, Nat.zero_add]
    rw [← hu]
    have : j = 0 ∨ j = 1 := by omega
    rcases this with rfl | rfl <;> rfl
  · intro u hu
    simp at hu
    rcases hu with rfl | rfl <;> assumption
  · intro v' w' hown' hg _
    have hb : ∀ k, v.ownBlock = some k → base ≤ k := fun k hk => (hown.lt k hk).1
    refine h v' w' hown' (((Below.refl base w0).alloc hbase _).grown hg (by simp; omega) hb) ⟨hg.os, hg.tape, hg.output, Nat.le_trans (by simp) hg.size, fun k hk hne => ?_⟩
    rw [hg.block k (by simp; omega) hne, Below.heap_alloc _ _ _ hk]
end
/-- what a function answers that makes a list of pairs -/
def PrsAns (w : World) (r : List Pr) (e : Ending) (w' : World) : Prop := ∃ v, e = .returned v ∧ w'.ownsRow w.heap.size 33 2 v r.length (prCells r) ∧ Below w.heap.size w w'
end Go.Proofs.Ytmcjimmebbkjcaa
