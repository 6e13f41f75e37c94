/-
  Contracts of spec.UniqueProduct and UniqueSum. No condition.
-/
import Derived.Test.YtmcjimmebbkjcaaPsm
import Derived.Test.YtmcjimmebbkjcaaPra
namespace Go.Proofs.Ytmcjimmebbkjcaa
open Go.RowKit Go.WideShapes
open Go Go.Deep
set_option linter.unusedSimpArgs false


set_option maxRecDepth 100000 in
set_option maxHeartbeats 8000000 in
theorem specUniqueProduct_any (v : Value) (xs : List Pr) (p : Pr) (w : World) (hr : Ps w v xs) :
    Calls Try.prog 20 #[v, p.v] w fun e w' => e = .returned (.bool (uniqW prodW xs p)) ∧ Below w.heap.size w w' := by
  have KH := Lib.hid (fun W (h : Below w.heap.size w W) => specHasP_any v xs p W (hr.below h (Nat.le_refl _)))
  obtain ⟨a, cap, rfl, h1, h2, h3⟩ := hr.parts
  have KEY := Lib.hid h3
  unfold maxLen at h2
  have HT := Lib.hid (fun k hk h => any_takeP (xs := xs) (f := clashW prodW p) (k := k) hk h)
  have HY := Lib.hid (fun k h => uniqW_any (f := prodW) (p := p) (any_yesP (xs := xs) (f := clashW prodW p) (k := k) h))
  have HE : Hid ((xs.take xs.length).any (clashW prodW p) = false → uniqW prodW xs p = hasP xs p) := Lib.hid (fun h => by rw [List.take_of_length_le (Nat.le_refl _)] at h; exact uniqW_has h)
  clear h3 hr
  unfold Pr.v at KH ⊢
  generalize uniqW prodW xs p = R at *
  obtain ⟨mp, hmp⟩ : ∃ m, m = prodW p := ⟨_, rfl⟩
  have HMP := Lib.hid hmp
  have wp : IntKind.i64.wrap (p.a * p.b) = mp := hmp.symm
  clear hmp
  go_enter Try.func20, Try.ntmps20
  go_wp2
  have P1 : Hid ((w.alloc (.cells #[.int .i64 p.a, .int .i64 p.b] 33)).cell? ⟨w.heap.size, 0, none⟩ = some (.int .i64 p.a) ∧ (w.alloc (.cells #[.int .i64 p.a, .int .i64 p.b] 33)).cell? ⟨w.heap.size, 1, none⟩ = some (.int .i64 p.b)) := Lib.hid ⟨(World.cell?_alloc_at _ _ _ _ rfl).trans rfl, (World.cell?_alloc_at _ _ _ _ rfl).trans rfl⟩
  have hb0 : Below w.heap.size w (w.alloc (.cells #[.int .i64 p.a, .int .i64 p.b] 33)) := (Below.refl _ _).alloc (Nat.le_refl _) _
  have hz0 : (w.alloc (.cells #[.int .i64 p.a, .int .i64 p.b] 33)).heap.size = w.heap.size + 1 := by simp
  generalize w.alloc (.cells #[.int .i64 p.a, .int .i64 p.b] 33) = w1 at *
  have B1 := Lib.hid hb0
  have Z1 := Lib.hid hz0
  clear hb0 hz0
  go_loopw [9] (fun iv wr => ∃ k : Nat, k ≤ xs.length ∧ iv = .int .i64 k ∧ Hid ((xs.take k).any (clashW prodW p) = false) ∧ Hid (Below w1.heap.size w1 wr)) (fun iv _ => xs.length - (intOf iv).toNat)
  case atStart => exact ⟨0, Nat.zero_le _, rfl, Lib.hid rfl, Lib.hid (Below.refl _ _)⟩
  case round =>
    obtain ⟨k, hk, rfl, HN, HB⟩ := hrel
    have p0 : wr.cell? ⟨w.heap.size, 0, none⟩ = some (.int .i64 p.a) := (HB.out.cell (p := ⟨w.heap.size, 0, none⟩) (by show w.heap.size < _; have := Z1.out; omega)).trans P1.out.1
    have p1 : wr.cell? ⟨w.heap.size, 1, none⟩ = some (.int .i64 p.b) := (HB.out.cell (p := ⟨w.heap.size, 1, none⟩) (by show w.heap.size < _; have := Z1.out; omega)).trans P1.out.2
    have hwl : w.heap.size < wr.heap.size := by have := HB.out.size; have := Z1.out; omega
    have hww := B1.out.trans (HB.out.mono B1.out.size)
    by_cases hlt : k < xs.length
    · obtain ⟨b, o, rfl, hb, c0, c1⟩ := KEY.out k hlt
      rw [← hww.cell (p := ⟨b, o + k * 2, none⟩) hb] at c0
      rw [← hww.cell (p := ⟨b, o + k * 2 + 1, none⟩) hb] at c1
      have HTk := Lib.hid (HT.out k hlt HN.out)
      clear hww
      generalize xs.getD k default = x at *
      obtain ⟨xa, xb⟩ := x
      have hnew : Below w1.heap.size w1 (wr.alloc (.cells #[.int .i64 xa, .int .i64 xb] 33)) := HB.out.alloc HB.out.size _
      have HNW := Lib.hid hnew
      clear hnew
      simp only at c0 c1
      have HFF : Hid (clashW prodW p ⟨xa, xb⟩ = true → R = false) := Lib.hid (fun h => HY.out (k + 1) (by rw [HTk.out]; exact h))
      have HFN : Hid (clashW prodW p ⟨xa, xb⟩ = false → (xs.take (k + 1)).any (clashW prodW p) = false) := Lib.hid (fun h => by rw [HTk.out]; exact h)
      clear HTk HN HT HY
      obtain ⟨mx, hmx⟩ : ∃ m, m = prodW ⟨xa, xb⟩ := ⟨_, rfl⟩
      have HMX := Lib.hid hmx
      have wx : IntKind.i64.wrap (xa * xb) = mx := hmx.symm
      clear hmx
      by_cases hq : mx = mp
      · by_cases hxa : xa = p.a
        · by_cases hxb : xb = p.b
          · have HR := Lib.hid (HFN.out (clashW_same (by rw [hxa, hxb])))
            subst hxa hxb
            have hqq : mp = mx := hq.symm
            clear HFF HFN HMX wx hq
            subst hqq
            go_wp2
            go_roundw
            case rel => exact ⟨k + 1, by omega, by go_num, HR, HNW⟩
            case measure => simp [intOf]; omega
          · have HR := Lib.hid (HFF.out (clashW_yes (by rw [← HMX.out, ← HMP.out]; exact hq) (fun e => hxb (by rw [← e]))))
            rw [hq] at wx
            rw [hxa] at c0 HNW wx
            clear HFF HFN HMX hq hxa
            go_wp2
            go_ret
            exact ⟨by rw [HR.out]; rfl, B1.out.trans (HNW.out.mono B1.out.size)⟩
        · have HR := Lib.hid (HFF.out (clashW_yes (by rw [← HMX.out, ← HMP.out]; exact hq) (fun e => hxa (by rw [← e]))))
          rw [hq] at wx
          clear HFF HFN HMX hq
          go_wp2
          go_ret
          exact ⟨by rw [HR.out]; rfl, B1.out.trans (HNW.out.mono B1.out.size)⟩
      · have HR := Lib.hid (HFN.out (clashW_no (by rw [← HMX.out, ← HMP.out]; exact hq)))
        clear HFF HFN HMX
        go_wp2
        go_roundw
        case rel => exact ⟨k + 1, by omega, by go_num, HR, HNW⟩
        case measure => simp [intOf]; omega
    · obtain ⟨k', hk'⟩ : ∃ y, y = k := ⟨_, rfl⟩
      subst hk'
      have HR : Hid (R = hasP xs p) := Lib.hid (HE.out (by have h := HN.out; rwa [show k' = xs.length by omega] at h))
      have HWW := Lib.hid hww
      clear hww
      go_wp2_with fail
      refine (KH.out _ HWW.out).mono ?_
      rintro e w5 ⟨rfl, hb5⟩
      have B5 := Lib.hid (HWW.out.trans (hb5.mono HWW.out.size))
      clear hb5 p0 p1
      go_wp2
      go_ret
      exact ⟨by rw [HR.out]; rfl, B5.out⟩

set_option maxRecDepth 100000 in
set_option maxHeartbeats 8000000 in
theorem specUniqueSum_any (v : Value) (xs : List Pr) (p : Pr) (w : World) (hr : Ps w v xs) :
    Calls Try.prog 24 #[v, p.v] w fun e w' => e = .returned (.bool (uniqW sumW xs p)) ∧ Below w.heap.size w w' := by
  have KH := Lib.hid (fun W (h : Below w.heap.size w W) => specHasP_any v xs p W (hr.below h (Nat.le_refl _)))
  obtain ⟨a, cap, rfl, h1, h2, h3⟩ := hr.parts
  have KEY := Lib.hid h3
  unfold maxLen at h2
  have HT := Lib.hid (fun k hk h => any_takeP (xs := xs) (f := clashW sumW p) (k := k) hk h)
  have HY := Lib.hid (fun k h => uniqW_any (f := sumW) (p := p) (any_yesP (xs := xs) (f := clashW sumW p) (k := k) h))
  have HE : Hid ((xs.take xs.length).any (clashW sumW p) = false → uniqW sumW xs p = hasP xs p) := Lib.hid (fun h => by rw [List.take_of_length_le (Nat.le_refl _)] at h; exact uniqW_has h)
  clear h3 hr
  unfold Pr.v at KH ⊢
  generalize uniqW sumW xs p = R at *
  obtain ⟨mp, hmp⟩ : ∃ m, m = sumW p := ⟨_, rfl⟩
  have HMP := Lib.hid hmp
  have wp : IntKind.i64.wrap (p.a + p.b) = mp := hmp.symm
  clear hmp
  go_enter Try.func24, Try.ntmps24
  go_wp2
  have P1 : Hid ((w.alloc (.cells #[.int .i64 p.a, .int .i64 p.b] 33)).cell? ⟨w.heap.size, 0, none⟩ = some (.int .i64 p.a) ∧ (w.alloc (.cells #[.int .i64 p.a, .int .i64 p.b] 33)).cell? ⟨w.heap.size, 1, none⟩ = some (.int .i64 p.b)) := Lib.hid ⟨(World.cell?_alloc_at _ _ _ _ rfl).trans rfl, (World.cell?_alloc_at _ _ _ _ rfl).trans rfl⟩
  have hb0 : Below w.heap.size w (w.alloc (.cells #[.int .i64 p.a, .int .i64 p.b] 33)) := (Below.refl _ _).alloc (Nat.le_refl _) _
  have hz0 : (w.alloc (.cells #[.int .i64 p.a, .int .i64 p.b] 33)).heap.size = w.heap.size + 1 := by simp
  generalize w.alloc (.cells #[.int .i64 p.a, .int .i64 p.b] 33) = w1 at *
  have B1 := Lib.hid hb0
  have Z1 := Lib.hid hz0
  clear hb0 hz0
  go_loopw [9] (fun iv wr => ∃ k : Nat, k ≤ xs.length ∧ iv = .int .i64 k ∧ Hid ((xs.take k).any (clashW sumW p) = false) ∧ Hid (Below w1.heap.size w1 wr)) (fun iv _ => xs.length - (intOf iv).toNat)
  case atStart => exact ⟨0, Nat.zero_le _, rfl, Lib.hid rfl, Lib.hid (Below.refl _ _)⟩
  case round =>
    obtain ⟨k, hk, rfl, HN, HB⟩ := hrel
    have p0 : wr.cell? ⟨w.heap.size, 0, none⟩ = some (.int .i64 p.a) := (HB.out.cell (p := ⟨w.heap.size, 0, none⟩) (by show w.heap.size < _; have := Z1.out; omega)).trans P1.out.1
    have p1 : wr.cell? ⟨w.heap.size, 1, none⟩ = some (.int .i64 p.b) := (HB.out.cell (p := ⟨w.heap.size, 1, none⟩) (by show w.heap.size < _; have := Z1.out; omega)).trans P1.out.2
    have hwl : w.heap.size < wr.heap.size := by have := HB.out.size; have := Z1.out; omega
    have hww := B1.out.trans (HB.out.mono B1.out.size)
    by_cases hlt : k < xs.length
    · obtain ⟨b, o, rfl, hb, c0, c1⟩ := KEY.out k hlt
      rw [← hww.cell (p := ⟨b, o + k * 2, none⟩) hb] at c0
      rw [← hww.cell (p := ⟨b, o + k * 2 + 1, none⟩) hb] at c1
      have HTk := Lib.hid (HT.out k hlt HN.out)
      clear hww
      generalize xs.getD k default = x at *
      obtain ⟨xa, xb⟩ := x
      have hnew : Below w1.heap.size w1 (wr.alloc (.cells #[.int .i64 xa, .int .i64 xb] 33)) := HB.out.alloc HB.out.size _
      have HNW := Lib.hid hnew
      clear hnew
      simp only at c0 c1
      have HFF : Hid (clashW sumW p ⟨xa, xb⟩ = true → R = false) := Lib.hid (fun h => HY.out (k + 1) (by rw [HTk.out]; exact h))
      have HFN : Hid (clashW sumW p ⟨xa, xb⟩ = false → (xs.take (k + 1)).any (clashW sumW p) = false) := Lib.hid (fun h => by rw [HTk.out]; exact h)
      clear HTk HN HT HY
      obtain ⟨mx, hmx⟩ : ∃ m, m = sumW ⟨xa, xb⟩ := ⟨_, rfl⟩
      have HMX := Lib.hid hmx
      have wx : IntKind.i64.wrap (xa + xb) = mx := hmx.symm
      clear hmx
      by_cases hq : mx = mp
      · by_cases hxa : xa = p.a
        · by_cases hxb : xb = p.b
          · have HR := Lib.hid (HFN.out (clashW_same (by rw [hxa, hxb])))
            subst hxa hxb
            have hqq : mp = mx := hq.symm
            clear HFF HFN HMX wx hq
            subst hqq
            go_wp2
            go_roundw
            case rel => exact ⟨k + 1, by omega, by go_num, HR, HNW⟩
            case measure => simp [intOf]; omega
          · have HR := Lib.hid (HFF.out (clashW_yes (by rw [← HMX.out, ← HMP.out]; exact hq) (fun e => hxb (by rw [← e]))))
            rw [hq] at wx
            rw [hxa] at c0 HNW wx
            clear HFF HFN HMX hq hxa
            go_wp2
            go_ret
            exact ⟨by rw [HR.out]; rfl, B1.out.trans (HNW.out.mono B1.out.size)⟩
        · have HR := Lib.hid (HFF.out (clashW_yes (by rw [← HMX.out, ← HMP.out]; exact hq) (fun e => hxa (by rw [← e]))))
          rw [hq] at wx
          clear HFF HFN HMX hq
          go_wp2
          go_ret
          exact ⟨by rw [HR.out]; rfl, B1.out.trans (HNW.out.mono B1.out.size)⟩
      · have HR := Lib.hid (HFN.out (clashW_no (by rw [← HMX.out, ← HMP.out]; exact hq)))
        clear HFF HFN HMX
        go_wp2
        go_roundw
        case rel => exact ⟨k + 1, by omega, by go_num, HR, HNW⟩
        case measure => simp [intOf]; omega
    · obtain ⟨k', hk'⟩ : ∃ y, y = k := ⟨_, rfl⟩
      subst hk'
      have HR : Hid (R = hasP xs p) := Lib.hid (HE.out (by have h := HN.out; rwa [show k' = xs.length by omega] at h))
      have HWW := Lib.hid hww
      clear hww
      go_wp2_with fail
      refine (KH.out _ HWW.out).mono ?_
      rintro e w5 ⟨rfl, hb5⟩
      have B5 := Lib.hid (HWW.out.trans (hb5.mono HWW.out.size))
      clear hb5 p0 p1
      go_wp2
      go_ret
      exact ⟨by rw [HR.out]; rfl, B5.out⟩
end Go.Proofs.Ytmcjimmebbkjcaa
