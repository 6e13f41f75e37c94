/-
  Contracts of spec.NowProduct and NowSum. No condition but the length.
-/
import Derived.Test.YtmcjimmebbkjcaaPsm
import Derived.Test.YtmcjimmebbkjcaaPra
import Derived.Test.YtmcjimmebbkjcaaPsu
namespace Go.Proofs.Ytmcjimmebbkjcaa
open Go.RowKit Go.WideShapes
open Go Go.Deep
set_option linter.unusedSimpArgs false


set_option maxRecDepth 100000 in
set_option maxHeartbeats 8000000 in
theorem specNowProduct_any (v : Value) (xs : List Pr) (w : World) (hr : Ps w v xs) (hn : xs.length ≤ 1048576) :
    Calls Try.prog 26 #[v] w (PrsAns w (nowR prodW xs)) := by
  have KO := Lib.hid (fun p W (h : Below w.heap.size w W) => specUniqueProduct_any v xs p W (hr.below h (Nat.le_refl _)))
  obtain ⟨a, cap, rfl, h1, h2, h3⟩ := hr.parts
  have KEY := Lib.hid h3
  unfold maxLen at h2
  obtain ⟨tt, htt⟩ : ∃ tt : Pr → Bool, tt = fun p => uniqW prodW xs p := ⟨_, rfl⟩
  have hq : ∀ p, uniqW prodW xs p = tt p := fun p => by rw [htt]
  simp only [hq] at KO
  have HY := Lib.hid (fun k hk h => fltW_yes (t := tt) (xs := xs) (k := k) hk h)
  have HN := Lib.hid (fun k hk h => fltW_no (t := tt) (xs := xs) (k := k) hk h)
  have HE : Hid (fltW tt xs xs.length = nowR prodW xs) := Lib.hid (by rw [htt]; exact fltW_end)
  have HL := Lib.hid (fun k => fltW_len (t := tt) (xs := xs) (k := k))
  clear h3 hr hq htt
  generalize nowR prodW xs = R at *
  go_enter Try.func26, Try.ntmps26
  go_wp2
  have O0 := Lib.hid (prs_nil w)
  have hb0 : Below w.heap.size w (w.alloc (.cells #[] 33)) := (Below.refl _ _).alloc (Nat.le_refl _) _
  have B0 := Lib.hid hb0
  generalize w.alloc (.cells #[] 33) = w1 at *
  clear hb0
  go_loopw [3, 9] (fun lv iv wr => ∃ (k : Nat) (lv' : Value), k ≤ xs.length ∧ iv = .int .i64 k ∧ lv' = lv ∧ Hid (wr.ownsRow w.heap.size 33 2 lv' (fltW tt xs k).length (prCells (fltW tt xs k))) ∧ Hid (Below w.heap.size w wr)) (fun _ iv _ => xs.length - (intOf iv).toNat)
  case atStart => exact ⟨0, _, Nat.zero_le _, rfl, rfl, O0, B0⟩
  case round =>
    clear O0 B0
    obtain ⟨k, lv, hk, rfl, rfl, HO, HB⟩ := hrel
    by_cases hlt : k < xs.length
    · obtain ⟨b, o, rfl, hb, c0, c1⟩ := KEY.out k hlt
      rw [← HB.out.cell (p := ⟨b, o + k * 2, none⟩) hb] at c0
      rw [← HB.out.cell (p := ⟨b, o + k * 2 + 1, none⟩) hb] at c1
      have HYk := Lib.hid (HY.out k hlt)
      have HNk := Lib.hid (HN.out k hlt)
      have KOk := Lib.hid (fun W h => KO.out (xs.getD k default) W h)
      have HLk := Lib.hid (HL.out k)
      have hsz := HB.out.size
      generalize xs.getD k default = x at *
      obtain ⟨xa, xb⟩ := x
      simp only at c0 c1
      unfold Pr.v at KOk
      simp only at KOk
      obtain ⟨ow, how⟩ : ∃ ow, ow = tt ⟨xa, xb⟩ := ⟨_, rfl⟩
      rw [← how] at HYk HNk KOk
      clear how
      have hb2 : Below wr.heap.size wr (wr.alloc (.cells #[.int .i64 xa, .int .i64 xb] 33)) := (Below.refl _ _).alloc (Nat.le_refl _) _
      have hx0 : (wr.alloc (.cells #[.int .i64 xa, .int .i64 xb] 33)).cell? ⟨wr.heap.size, 0, none⟩ = some (.int .i64 xa) := (World.cell?_alloc_at _ _ _ _ rfl).trans rfl
      have hx1 : (wr.alloc (.cells #[.int .i64 xa, .int .i64 xb] 33)).cell? ⟨wr.heap.size, 1, none⟩ = some (.int .i64 xb) := (World.cell?_alloc_at _ _ _ _ rfl).trans rfl
      have hz2 : (wr.alloc (.cells #[.int .i64 xa, .int .i64 xb] 33)).heap.size = wr.heap.size + 1 := by simp
      have B2 := Lib.hid hb2
      have X2 := Lib.hid (And.intro hx0 hx1)
      have Z2 := Lib.hid hz2
      clear hb2 hx0 hx1 hz2
      go_wp2_with fail
      refine (KOk.out _ (HB.out.trans (B2.out.mono hsz))).mono ?_
      rintro e w5 ⟨rfl, hb5⟩
      have HO5 := Lib.hid (own_below HO.out (B2.out.trans (hb5.mono B2.out.size)) (Nat.le_refl _))
      have HB5 := Lib.hid (HB.out.trans ((B2.out.trans (hb5.mono B2.out.size)).mono hsz))
      have x0 : w5.cell? ⟨wr.heap.size, 0, none⟩ = some (.int .i64 xa) := (hb5.cell (p := ⟨wr.heap.size, 0, none⟩) (by show wr.heap.size < _; have := Z2.out; omega)).trans X2.out.1
      have x1 : w5.cell? ⟨wr.heap.size, 1, none⟩ = some (.int .i64 xb) := (hb5.cell (p := ⟨wr.heap.size, 1, none⟩) (by show wr.heap.size < _; have := Z2.out; omega)).trans X2.out.2
      have hwl : wr.heap.size < w5.heap.size := by have := hb5.size; have := Z2.out; omega
      have hsz5 := HB5.out.size
      clear hb5 B2 X2 Z2 c0 c1 HO HB
      cases ow with
      | true =>
        have HR := Lib.hid (HYk.out rfl)
        clear HYk HNk
        go_wp2_with
          (at_builtin; refine wpList_push2 rfl (.tmp 16) (.tmp 18) 22 rfl 33 (.agg #[.int .i64 0, .int .i64 0]) 16 Try.underlying22 Try.infoPr rfl w.heap.size w5 (.int .i64 xa) (.int .i64 xb) lv (fltW tt xs k).length (prCells (fltW tt xs k)) HO5.out rfl w5.heap.size rfl rfl rfl rfl (by unfold maxLen; have := HLk.out; omega) (by have := HLk.out; omega) hsz5 ?_; intro v6 w6 hown hb6 hg; have L6 := Lib.hid hown; have B6 := Lib.hid (HB5.out.trans hb6); clear hown hg hb6)
        clear x0 x1
        go_roundw
        case rel => exact ⟨k + 1, _, by omega, by go_num, rfl, Lib.hid (by rw [HR.out, prCells_app, List.length_append]; exact L6.out), B6⟩
        case measure => simp [intOf] <;> omega
      | false =>
        have HR := Lib.hid (HNk.out rfl)
        clear HYk HNk
        go_wp2
        clear x0 x1
        go_roundw
        case rel => exact ⟨k + 1, _, by omega, by go_num, rfl, Lib.hid (by rw [HR.out]; exact HO5.out), HB5⟩
        case measure => simp [intOf] <;> omega
    · obtain ⟨k', hk'⟩ : ∃ y, y = k := ⟨_, rfl⟩
      subst hk'
      have HR : Hid (fltW tt xs k' = R) := Lib.hid (by rw [show k' = xs.length by omega]; exact HE.out)
      go_wp2
      go_ret
      exact ⟨_, rfl, by rw [← HR.out]; exact HO.out, HB.out⟩

set_option maxRecDepth 100000 in
set_option maxHeartbeats 8000000 in
theorem specNowSum_any (v : Value) (xs : List Pr) (w : World) (hr : Ps w v xs) (hn : xs.length ≤ 1048576) :
    Calls Try.prog 28 #[v] w (PrsAns w (nowR sumW xs)) := by
  have KO := Lib.hid (fun p W (h : Below w.heap.size w W) => specUniqueSum_any v xs p W (hr.below h (Nat.le_refl _)))
  obtain ⟨a, cap, rfl, h1, h2, h3⟩ := hr.parts
  have KEY := Lib.hid h3
  unfold maxLen at h2
  obtain ⟨tt, htt⟩ : ∃ tt : Pr → Bool, tt = fun p => uniqW sumW xs p := ⟨_, rfl⟩
  have hq : ∀ p, uniqW sumW xs p = tt p := fun p => by rw [htt]
  simp only [hq] at KO
  have HY := Lib.hid (fun k hk h => fltW_yes (t := tt) (xs := xs) (k := k) hk h)
  have HN := Lib.hid (fun k hk h => fltW_no (t := tt) (xs := xs) (k := k) hk h)
  have HE : Hid (fltW tt xs xs.length = nowR sumW xs) := Lib.hid (by rw [htt]; exact fltW_end)
  have HL := Lib.hid (fun k => fltW_len (t := tt) (xs := xs) (k := k))
  clear h3 hr hq htt
  generalize nowR sumW xs = R at *
  go_enter Try.func28, Try.ntmps28
  go_wp2
  have O0 := Lib.hid (prs_nil w)
  have hb0 : Below w.heap.size w (w.alloc (.cells #[] 33)) := (Below.refl _ _).alloc (Nat.le_refl _) _
  have B0 := Lib.hid hb0
  generalize w.alloc (.cells #[] 33) = w1 at *
  clear hb0
  go_loopw [3, 9] (fun lv iv wr => ∃ (k : Nat) (lv' : Value), k ≤ xs.length ∧ iv = .int .i64 k ∧ lv' = lv ∧ Hid (wr.ownsRow w.heap.size 33 2 lv' (fltW tt xs k).length (prCells (fltW tt xs k))) ∧ Hid (Below w.heap.size w wr)) (fun _ iv _ => xs.length - (intOf iv).toNat)
  case atStart => exact ⟨0, _, Nat.zero_le _, rfl, rfl, O0, B0⟩
  case round =>
    clear O0 B0
    obtain ⟨k, lv, hk, rfl, rfl, HO, HB⟩ := hrel
    by_cases hlt : k < xs.length
    · obtain ⟨b, o, rfl, hb, c0, c1⟩ := KEY.out k hlt
      rw [← HB.out.cell (p := ⟨b, o + k * 2, none⟩) hb] at c0
      rw [← HB.out.cell (p := ⟨b, o + k * 2 + 1, none⟩) hb] at c1
      have HYk := Lib.hid (HY.out k hlt)
      have HNk := Lib.hid (HN.out k hlt)
      have KOk := Lib.hid (fun W h => KO.out (xs.getD k default) W h)
      have HLk := Lib.hid (HL.out k)
      have hsz := HB.out.size
      generalize xs.getD k default = x at *
      obtain ⟨xa, xb⟩ := x
      simp only at c0 c1
      unfold Pr.v at KOk
      simp only at KOk
      obtain ⟨ow, how⟩ : ∃ ow, ow = tt ⟨xa, xb⟩ := ⟨_, rfl⟩
      rw [← how] at HYk HNk KOk
      clear how
      have hb2 : Below wr.heap.size wr (wr.alloc (.cells #[.int .i64 xa, .int .i64 xb] 33)) := (Below.refl _ _).alloc (Nat.le_refl _) _
      have hx0 : (wr.alloc (.cells #[.int .i64 xa, .int .i64 xb] 33)).cell? ⟨wr.heap.size, 0, none⟩ = some (.int .i64 xa) := (World.cell?_alloc_at _ _ _ _ rfl).trans rfl
      have hx1 : (wr.alloc (.cells #[.int .i64 xa, .int .i64 xb] 33)).cell? ⟨wr.heap.size, 1, none⟩ = some (.int .i64 xb) := (World.cell?_alloc_at _ _ _ _ rfl).trans rfl
      have hz2 : (wr.alloc (.cells #[.int .i64 xa, .int .i64 xb] 33)).heap.size = wr.heap.size + 1 := by simp
      have B2 := Lib.hid hb2
      have X2 := Lib.hid (And.intro hx0 hx1)
      have Z2 := Lib.hid hz2
      clear hb2 hx0 hx1 hz2
      go_wp2_with fail
      refine (KOk.out _ (HB.out.trans (B2.out.mono hsz))).mono ?_
      rintro e w5 ⟨rfl, hb5⟩
      have HO5 := Lib.hid (own_below HO.out (B2.out.trans (hb5.mono B2.out.size)) (Nat.le_refl _))
      have HB5 := Lib.hid (HB.out.trans ((B2.out.trans (hb5.mono B2.out.size)).mono hsz))
      have x0 : w5.cell? ⟨wr.heap.size, 0, none⟩ = some (.int .i64 xa) := (hb5.cell (p := ⟨wr.heap.size, 0, none⟩) (by show wr.heap.size < _; have := Z2.out; omega)).trans X2.out.1
      have x1 : w5.cell? ⟨wr.heap.size, 1, none⟩ = some (.int .i64 xb) := (hb5.cell (p := ⟨wr.heap.size, 1, none⟩) (by show wr.heap.size < _; have := Z2.out; omega)).trans X2.out.2
      have hwl : wr.heap.size < w5.heap.size := by have := hb5.size; have := Z2.out; omega
      have hsz5 := HB5.out.size
      clear hb5 B2 X2 Z2 c0 c1 HO HB
      cases ow with
      | true =>
        have HR := Lib.hid (HYk.out rfl)
        clear HYk HNk
        go_wp2_with
          (at_builtin; refine wpList_push2 rfl (.tmp 16) (.tmp 18) 22 rfl 33 (.agg #[.int .i64 0, .int .i64 0]) 16 Try.underlying22 Try.infoPr rfl w.heap.size w5 (.int .i64 xa) (.int .i64 xb) lv (fltW tt xs k).length (prCells (fltW tt xs k)) HO5.out rfl w5.heap.size rfl rfl rfl rfl (by unfold maxLen; have := HLk.out; omega) (by have := HLk.out; omega) hsz5 ?_; intro v6 w6 hown hb6 hg; have L6 := Lib.hid hown; have B6 := Lib.hid (HB5.out.trans hb6); clear hown hg hb6)
        clear x0 x1
        go_roundw
        case rel => exact ⟨k + 1, _, by omega, by go_num, rfl, Lib.hid (by rw [HR.out, prCells_app, List.length_append]; exact L6.out), B6⟩
        case measure => simp [intOf] <;> omega
      | false =>
        have HR := Lib.hid (HNk.out rfl)
        clear HYk HNk
        go_wp2
        clear x0 x1
        go_roundw
        case rel => exact ⟨k + 1, _, by omega, by go_num, rfl, Lib.hid (by rw [HR.out]; exact HO5.out), HB5⟩
        case measure => simp [intOf] <;> omega
    · obtain ⟨k', hk'⟩ : ∃ y, y = k := ⟨_, rfl⟩
      subst hk'
      have HR : Hid (fltW tt xs k' = R) := Lib.hid (by rw [show k' = xs.length by omega]; exact HE.out)
      go_wp2
      go_ret
      exact ⟨_, rfl, by rw [← HR.out]; exact HO.out, HB.out⟩
end Go.Proofs.Ytmcjimmebbkjcaa
