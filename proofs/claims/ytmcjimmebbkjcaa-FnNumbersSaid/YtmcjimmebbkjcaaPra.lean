/-
  Contracts of spec.AllPairs and AfterAnswer. Condition of the second: a list of at most 1048576 pairs.
-/
import Derived.Test.YtmcjimmebbkjcaaPrh
namespace Go.Proofs.Ytmcjimmebbkjcaa
open Go.RowKit Go.WideShapes
open Go Go.Deep
set_option linter.unusedSimpArgs false

theorem prs_nil (w : World) : World.ownsRow (w.alloc (.cells #[] 33)) w.heap.size 33 2 (.slice (some ⟨w.heap.size, 0, none⟩) 0 0) 0 (prCells []) := by
  have h := World.ownsRow_lit (base := w.heap.size) (e := 33) (size := 2) w #[] 0 (by simp) (by decide) rfl
  simpa [prCells] using h
theorem PrsAns.none_of {w w' : World} (h : Below w.heap.size w w') : PrsAns w [] (.returned (.slice none 0 0)) w' := ⟨_, rfl, World.ownsRow_nil _ _ _ _, h⟩
theorem all_0 {M : Nat} (h : 1 ≤ M) : allTo M 1 = allTo M 0 ++ [⟨0, 0 + 1⟩] := by
  show allTo M 0 ++ allAt M 0 = _
  unfold allAt
  rw [if_neg (by omega), if_pos (by omega)]; rfl
theorem all_mid {M a : Nat} (h : 0 < a) (h2 : a < M) : allTo M (a + 1) = (allTo M a ++ [⟨a, (a : Int) - 1⟩]) ++ [⟨a, (a : Int) + 1⟩] := by
  show allTo M a ++ allAt M a = _
  unfold allAt
  rw [if_pos h, if_pos h2, List.append_assoc]
theorem all_end {M a : Nat} (h : 0 < a) (h2 : ¬ a < M) : allTo M (a + 1) = allTo M a ++ [⟨a, (a : Int) - 1⟩] := by
  show allTo M a ++ allAt M a = _
  unfold allAt
  rw [if_pos h, if_neg h2, List.append_nil]

set_option maxRecDepth 100000 in
set_option maxHeartbeats 8000000 in
theorem specAllP_any (x : Int) (w : World) :
    Calls Try.prog 56 #[.int .i64 x] w (PrsAns w (allR x)) := by
  have KI := Lib.hid (fun W => lin_any x 1 40 W)
  by_cases hx : 1 ≤ x ∧ x ≤ 40
  · rw [decide_eq_true hx] at KI
    have HR : Hid (allR x = allTo x.toNat (x.toNat + 1)) := Lib.hid (if_pos hx)
    generalize allR x = R at *
    obtain ⟨M, rfl⟩ := Int.eq_ofNat_of_zero_le (show 0 ≤ x by omega)
    rw [Int.toNat_natCast] at HR
    have hM1 : 1 ≤ M := by omega
    have hM40 : M ≤ 40 := by omega
    have hMi : (M : Int) ≤ 40 := by omega
    have hMi1 : (1 : Int) ≤ (M : Int) := by omega
    clear hx
    have HL := Lib.hid (fun a => allTo_len M a)
    have H0 := Lib.hid (all_0 hM1)
    have HM := Lib.hid (fun a h h2 => all_mid (M := M) (a := a) h h2)
    have HE := Lib.hid (fun a h h2 => all_end (M := M) (a := a) h h2)
    go_enter Try.func56, Try.ntmps56
    go_wp2_with (go_at_call 47; with_reducible refine (KI.out _).mono ?_; rintro e w' ⟨rfl, rfl⟩)
    have O0 := Lib.hid (prs_nil w)
    have hb0 : Below w.heap.size w (w.alloc (.cells #[] 33)) := (Below.refl _ _).alloc (Nat.le_refl _) _
    have B0 := Lib.hid hb0
    generalize w.alloc (.cells #[] 33) = w1 at *
    clear hb0 KI
    go_loopw [3, 4] (fun lv iv wr => ∃ (a : Nat) (lv' : Value), a ≤ M + 1 ∧ iv = .int .i64 a ∧ lv' = lv ∧ Hid (wr.ownsRow w.heap.size 33 2 lv' (allTo M a).length (prCells (allTo M a))) ∧ Hid (Below w.heap.size w wr)) (fun _ iv _ => M + 1 - (intOf iv).toNat)
    case atStart => exact ⟨0, _, Nat.zero_le _, rfl, rfl, O0, B0⟩
    case round =>
      clear O0 B0
      obtain ⟨a, lv, ha, rfl, rfl, HO, HB⟩ := hrel
      have hai : (0 : Int) ≤ (a : Int) := Int.natCast_nonneg _
      by_cases hlt : a ≤ M
      · have HLa := Lib.hid (HL.out a)
        have hsz := HB.out.size
        by_cases h0 : a = 0
        · subst h0
          have hn0 : (allTo M 0).length = 0 := rfl
          go_wp2_with
            (at_builtin; refine wpList_push2 rfl (.tmp 26) (.tmp 31) 22 rfl 33 (.agg #[.int .i64 0, .int .i64 0]) 16 Try.underlying22 Try.infoPr rfl w.heap.size wr (.int .i64 0) (.int .i64 1) lv (allTo M 0).length (prCells (allTo M 0)) HO.out rfl wr.heap.size rfl rfl rfl rfl (by rw [hn0]; decide) (by rw [hn0]; decide) hsz ?_; intro v6 w6 hown hb6 hg; have L6 := Lib.hid hown; have B6 := Lib.hid (HB.out.trans hb6); clear hown hg hb6)
          go_roundw
          case rel => exact ⟨1, _, by omega, by go_num, rfl, Lib.hid (by rw [H0.out, prCells_app]; exact L6.out), B6⟩
          case measure => simp [intOf] <;> omega
        · have hpos : 0 < a := by omega
          have hposi : (0 : Int) < (a : Int) := by omega
          have hai40 : (a : Int) ≤ 40 := by omega
          have hn1 : (allTo M a).length ≤ 80 := by have := HLa.out; omega
          by_cases hm : a < M
          · have hmi : (a : Int) < (M : Int) := by omega
            go_wp2_with
              (at_builtin; first
                | (refine wpList_push2 rfl (.tmp 16) (.tmp 21) 22 rfl 33 (.agg #[.int .i64 0, .int .i64 0]) 16 Try.underlying22 Try.infoPr rfl w.heap.size wr (.int .i64 a) (.int .i64 ((a : Int) - 1)) lv (allTo M a).length (prCells (allTo M a)) HO.out rfl wr.heap.size rfl rfl rfl rfl (by unfold maxLen; omega) (by omega) hsz ?_; intro v6 w6 hown hb6 hg; have L6 := Lib.hid hown; have B6 := Lib.hid (HB.out.trans hb6); have hsz6 := B6.out.size; clear hown hg hb6)
                | (refine wpList_push2 rfl (.tmp 26) (.tmp 31) 22 rfl 33 (.agg #[.int .i64 0, .int .i64 0]) 16 Try.underlying22 Try.infoPr rfl w.heap.size w6 (.int .i64 a) (.int .i64 ((a : Int) + 1)) v6 ((allTo M a).length + 1) _ L6.out rfl w6.heap.size rfl rfl rfl rfl (by unfold maxLen; omega) (by omega) hsz6 ?_; intro v7 w7 hown hb7 hg; have L7 := Lib.hid hown; have B7 := Lib.hid (B6.out.trans hb7); clear hown hg hb7))
            go_roundw
            case rel => exact ⟨a + 1, _, by omega, by go_num, rfl, Lib.hid (by rw [HM.out a hpos hm, prCells_app, prCells_app, List.length_append, List.length_append]; exact L7.out), B7⟩
            case measure => simp [intOf]; omega
          · have hmi : ¬ (a : Int) < (M : Int) := by omega
            go_wp2_with
              (at_builtin; refine wpList_push2 rfl (.tmp 16) (.tmp 21) 22 rfl 33 (.agg #[.int .i64 0, .int .i64 0]) 16 Try.underlying22 Try.infoPr rfl w.heap.size wr (.int .i64 a) (.int .i64 ((a : Int) - 1)) lv (allTo M a).length (prCells (allTo M a)) HO.out rfl wr.heap.size rfl rfl rfl rfl (by unfold maxLen; omega) (by omega) hsz ?_; intro v6 w6 hown hb6 hg; have L6 := Lib.hid hown; have B6 := Lib.hid (HB.out.trans hb6); clear hown hg hb6)
            go_roundw
            case rel => exact ⟨a + 1, _, by omega, by go_num, rfl, Lib.hid (by rw [HE.out a hpos hm, prCells_app, List.length_append]; exact L6.out), B6⟩
            case measure => simp [intOf]; omega
      · obtain rfl : a = M + 1 := by omega
        have hx : ¬ ((M + 1 : Nat) : Int) ≤ (M : Int) := by omega
        go_wp2
        go_ret
        exact ⟨_, rfl, by rw [HR.out]; exact HO.out, HB.out⟩
  · rw [decide_eq_false hx] at KI
    have HR : Hid (allR x = []) := Lib.hid (if_neg hx)
    generalize allR x = R at *
    clear hx
    go_enter Try.func56, Try.ntmps56
    go_wp2_with (go_at_call 47; with_reducible refine (KI.out _).mono ?_; rintro e w' ⟨rfl, rfl⟩)
    go_ret
    rw [HR.out]
    exact PrsAns.none_of (Below.refl _ _)

def fltP (xs : List Pr) (f kn : Bool) (k : Nat) : List Pr := (xs.take k).filter (fun p => ownP xs p f == kn)
theorem flt_yes {xs : List Pr} {f kn : Bool} {k : Nat} (hk : k < xs.length) (h : ownP xs (xs.getD k default) f = kn) : fltP xs f kn (k + 1) = fltP xs f kn k ++ [xs.getD k default] := by
  unfold fltP
  have e : xs.take (k + 1) = xs.take k ++ [xs.getD k default] := by
    rw [List.take_add_one, List.getElem?_eq_getElem hk, List.getD_eq_getElem?_getD, List.getElem?_eq_getElem hk]; rfl
  rw [e, List.filter_append]
  clear e
  generalize xs.getD k default = x at h ⊢
  simp [h]
theorem flt_no {xs : List Pr} {f kn : Bool} {k : Nat} (hk : k < xs.length) (h : ownP xs (xs.getD k default) f ≠ kn) : fltP xs f kn (k + 1) = fltP xs f kn k := by
  unfold fltP
  have e : xs.take (k + 1) = xs.take k ++ [xs.getD k default] := by
    rw [List.take_add_one, List.getElem?_eq_getElem hk, List.getD_eq_getElem?_getD, List.getElem?_eq_getElem hk]; rfl
  rw [e, List.filter_append]
  clear e
  generalize xs.getD k default = x at h ⊢
  simp [h]
theorem flt_end {xs : List Pr} {f kn : Bool} : fltP xs f kn xs.length = afterP xs f kn := by
  unfold fltP afterP; rw [List.take_of_length_le (Nat.le_refl _)]
theorem flt_len {xs : List Pr} {f kn : Bool} {k : Nat} : (fltP xs f kn k).length ≤ k := by
  unfold fltP
  exact Nat.le_trans (List.length_filter_le _ _) (by rw [List.length_take]; omega)

set_option maxRecDepth 100000 in
set_option maxHeartbeats 8000000 in
theorem specAfterP_any (v : Value) (xs : List Pr) (f kn : Bool) (w : World) (hr : Ps w v xs) (hn : xs.length ≤ 1048576) :
    Calls Try.prog 32 #[v, .bool f, .bool kn] w (PrsAns w (afterP xs f kn)) := by
  have KO := Lib.hid (fun p W (h : Below w.heap.size w W) => specOwnP_any v xs p f W (hr.below h (Nat.le_refl _)))
  obtain ⟨a, cap, rfl, h1, h2, h3⟩ := hr.parts
  have KEY := Lib.hid h3
  unfold maxLen at h2
  have HY := Lib.hid (fun k hk h => flt_yes (xs := xs) (f := f) (kn := kn) (k := k) hk h)
  have HN := Lib.hid (fun k hk h => flt_no (xs := xs) (f := f) (kn := kn) (k := k) hk h)
  have HE : Hid (fltP xs f kn xs.length = afterP xs f kn) := Lib.hid flt_end
  have HL := Lib.hid (fun k => flt_len (xs := xs) (f := f) (kn := kn) (k := k))
  clear h3 hr
  generalize afterP xs f kn = R at *
  go_enter Try.func32, Try.ntmps32
  go_wp2
  have O0 := Lib.hid (prs_nil w)
  have hb0 : Below w.heap.size w (w.alloc (.cells #[] 33)) := (Below.refl _ _).alloc (Nat.le_refl _) _
  have B0 := Lib.hid hb0
  generalize w.alloc (.cells #[] 33) = w1 at *
  clear hb0
  go_loopw [7, 13] (fun lv iv wr => ∃ (k : Nat) (lv' : Value), k ≤ xs.length ∧ iv = .int .i64 k ∧ lv' = lv ∧ Hid (wr.ownsRow w.heap.size 33 2 lv' (fltP xs f kn k).length (prCells (fltP xs f kn k))) ∧ Hid (Below w.heap.size w wr)) (fun _ iv _ => xs.length - (intOf iv).toNat)
  case atStart => exact ⟨0, _, Nat.zero_le _, rfl, rfl, O0, B0⟩
  case round =>
    clear O0 B0
    obtain ⟨k, lv, hk, rfl, rfl, HO, HB⟩ := hrel
    by_cases hlt : k < xs.length
    · obtain ⟨b, o, rfl, hb, c0, c1⟩ := KEY.out k hlt
      rw [← HB.out.cell (p := ⟨b, o + k * 2, none⟩) hb] at c0
      rw [← HB.out.cell (p := ⟨b, o + k * 2 + 1, none⟩) hb] at c1
      have HYk := Lib.hid (HY.out k hlt)
      have HNk := Lib.hid (HN.out k hlt)
      have KOk := Lib.hid (fun W h => KO.out (xs.getD k default) W h)
      have HLk := Lib.hid (HL.out k)
      have hsz := HB.out.size
      generalize xs.getD k default = x at *
      obtain ⟨xa, xb⟩ := x
      simp only at c0 c1
      unfold Pr.v at KOk
      simp only at KOk
      obtain ⟨ow, how⟩ : ∃ ow, ow = ownP xs ⟨xa, xb⟩ f := ⟨_, rfl⟩
      rw [← how] at HYk HNk KOk
      clear how
      have hb2 : Below wr.heap.size wr (wr.alloc (.cells #[.int .i64 xa, .int .i64 xb] 33)) := (Below.refl _ _).alloc (Nat.le_refl _) _
      have hx0 : (wr.alloc (.cells #[.int .i64 xa, .int .i64 xb] 33)).cell? ⟨wr.heap.size, 0, none⟩ = some (.int .i64 xa) := (World.cell?_alloc_at _ _ _ _ rfl).trans rfl
      have hx1 : (wr.alloc (.cells #[.int .i64 xa, .int .i64 xb] 33)).cell? ⟨wr.heap.size, 1, none⟩ = some (.int .i64 xb) := (World.cell?_alloc_at _ _ _ _ rfl).trans rfl
      have hz2 : (wr.alloc (.cells #[.int .i64 xa, .int .i64 xb] 33)).heap.size = wr.heap.size + 1 := by simp
      have B2 := Lib.hid hb2
      have X2 := Lib.hid (And.intro hx0 hx1)
      have Z2 := Lib.hid hz2
      clear hb2 hx0 hx1 hz2
      go_wp2_with fail
      refine (KOk.out _ (HB.out.trans (B2.out.mono hsz))).mono ?_
      rintro e w5 ⟨rfl, hb5⟩
      have HO5 := Lib.hid (own_below HO.out (B2.out.trans (hb5.mono B2.out.size)) (Nat.le_refl _))
      have HB5 := Lib.hid (HB.out.trans ((B2.out.trans (hb5.mono B2.out.size)).mono hsz))
      have x0 : w5.cell? ⟨wr.heap.size, 0, none⟩ = some (.int .i64 xa) := (hb5.cell (p := ⟨wr.heap.size, 0, none⟩) (by show wr.heap.size < _; have := Z2.out; omega)).trans X2.out.1
      have x1 : w5.cell? ⟨wr.heap.size, 1, none⟩ = some (.int .i64 xb) := (hb5.cell (p := ⟨wr.heap.size, 1, none⟩) (by show wr.heap.size < _; have := Z2.out; omega)).trans X2.out.2
      have hwl : wr.heap.size < w5.heap.size := by have := hb5.size; have := Z2.out; omega
      have hsz5 := HB5.out.size
      clear hb5 B2 X2 Z2 c0 c1 HO HB
      by_cases hq : ow = kn
      · have HR := Lib.hid (HYk.out hq)
        subst hq
        clear HYk HNk
        go_wp2_with
          (at_builtin; refine wpList_push2 rfl (.tmp 23) (.tmp 25) 22 rfl 33 (.agg #[.int .i64 0, .int .i64 0]) 16 Try.underlying22 Try.infoPr rfl w.heap.size w5 (.int .i64 xa) (.int .i64 xb) lv (fltP xs f ow k).length (prCells (fltP xs f ow k)) HO5.out rfl w5.heap.size rfl rfl rfl rfl (by unfold maxLen; have := HLk.out; omega) (by have := HLk.out; omega) hsz5 ?_; intro v6 w6 hown hb6 hg; have L6 := Lib.hid hown; have B6 := Lib.hid (HB5.out.trans hb6); clear hown hg hb6)
        clear x0 x1
        go_roundw
        case rel => exact ⟨k + 1, _, by omega, by go_num, rfl, Lib.hid (by rw [HR.out, prCells_app, List.length_append]; exact L6.out), B6⟩
        case measure => simp [intOf] <;> omega
      · have HR := Lib.hid (HNk.out hq)
        have hqb : (ow == kn) = false := beq_eq_false_iff_ne.2 hq
        clear HYk HNk hq
        go_wp2
        clear x0 x1 hqb
        go_roundw
        case rel => exact ⟨k + 1, _, by omega, by go_num, rfl, Lib.hid (by rw [HR.out]; exact HO5.out), HB5⟩
        case measure => simp [intOf] <;> omega
    · obtain ⟨k', hk'⟩ : ∃ y, y = k := ⟨_, rfl⟩
      subst hk'
      have HR : Hid (fltP xs f kn k' = R) := Lib.hid (by rw [show k' = xs.length by omega]; exact HE.out)
      go_wp2
      go_ret
      exact ⟨_, rfl, by rw [← HR.out]; exact HO.out, HB.out⟩
end Go.Proofs.Ytmcjimmebbkjcaa
