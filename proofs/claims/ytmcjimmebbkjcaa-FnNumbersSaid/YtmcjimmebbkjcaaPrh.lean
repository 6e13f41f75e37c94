/-
  Contracts of spec.l01In, PairOk, l11Has, KnowsOwn. No condition.
-/
import Derived.Test.YtmcjimmebbkjcaaPrm
namespace Go.Proofs.Ytmcjimmebbkjcaa
open Go.RowKit Go.WideShapes
open Go Go.Deep
set_option linter.unusedSimpArgs false

theorem lin_yes (x lo hi : Int) (w : World) (h1 : lo ≤ x) (h2 : x ≤ hi) : Calls Try.prog 47 #[.int .i64 x, .int .i64 lo, .int .i64 hi] w fun e w' => e = .returned (.bool true) ∧ w = w' := by
  go_enter Try.func47, Try.ntmps47
  go_wp2
  go_ret
  exact ⟨ret_bool (by simp <;> omega), rfl⟩
theorem lin_no (x lo hi : Int) (w : World) (h : x < lo ∨ hi < x) : Calls Try.prog 47 #[.int .i64 x, .int .i64 lo, .int .i64 hi] w fun e w' => e = .returned (.bool false) ∧ w = w' := by
  by_cases h1 : x < lo
  · clear h
    go_enter Try.func47, Try.ntmps47
    go_wp2
    go_ret
    exact ⟨ret_bool (by simp <;> omega), rfl⟩
  · have h2 : hi < x := by omega
    have h3 : lo ≤ x := by omega
    clear h h1
    go_enter Try.func47, Try.ntmps47
    go_wp2
    go_ret
    exact ⟨ret_bool (by simp <;> omega), rfl⟩
theorem lin_any (x lo hi : Int) (w : World) : Calls Try.prog 47 #[.int .i64 x, .int .i64 lo, .int .i64 hi] w fun e w' => e = .returned (.bool (decide (lo ≤ x ∧ x ≤ hi))) ∧ w = w' := by
  by_cases h : lo ≤ x ∧ x ≤ hi
  · rw [decide_eq_true h]; exact lin_yes x lo hi w h.1 h.2
  · rw [decide_eq_false h]; exact lin_no x lo hi w (by omega)

set_option maxHeartbeats 4000000 in
theorem specPairP_any (p : Pr) (w : World) : Calls Try.prog 57 #[p.v] w fun e w' => e = .returned (.bool (prOk p)) ∧ Below w.heap.size w w' := by
  obtain ⟨a, b⟩ := p
  have HK : Hid (prOk ⟨a, b⟩ = (decide (0 ≤ a ∧ a ≤ 40) && (decide (0 ≤ b ∧ b ≤ 40) && (decide (a - b = 1) || decide (b - a = 1))))) := Lib.hid rfl
  generalize prOk ⟨a, b⟩ = R at *
  unfold Pr.v
  have KA := Lib.hid (fun W => lin_any a 0 40 W)
  have KB := Lib.hid (fun W => lin_any b 0 40 W)
  by_cases ha : 0 ≤ a ∧ a ≤ 40
  · rw [decide_eq_true ha] at HK KA
    by_cases hb : 0 ≤ b ∧ b ≤ 40
    · rw [decide_eq_true hb] at HK KB
      obtain ⟨a0, a1⟩ := ha
      obtain ⟨b0, b1⟩ := hb
      have w1 : IntKind.i64.wrap (a - b) = a - b := IntWalk.i64_in _ (by omega)
      have w2 : IntKind.i64.wrap (b - a) = b - a := IntWalk.i64_in _ (by omega)
      by_cases h1 : a - b = 1
      · have HR : Hid (R = true) := Lib.hid (by rw [HK.out, decide_eq_true h1]; rfl)
        go_enter Try.func57, Try.ntmps57
        go_wp2_with (go_at_call 47; (first | with_reducible refine (KA.out _).mono ?_ | with_reducible refine (KB.out _).mono ?_); rintro e w' ⟨rfl, rfl⟩)
        go_ret
        exact ⟨by rw [HR.out]; rfl, by go_grown⟩
      · have HR : Hid (R = (decide (a - b = 1) || decide (b - a = 1))) := Lib.hid (by rw [HK.out]; rfl)
        go_enter Try.func57, Try.ntmps57
        go_wp2_with (go_at_call 47; (first | with_reducible refine (KA.out _).mono ?_ | with_reducible refine (KB.out _).mono ?_); rintro e w' ⟨rfl, rfl⟩)
        go_ret
        exact ⟨by rw [HR.out]; rfl, by go_grown⟩
    · rw [decide_eq_false hb] at HK KB
      have HR : Hid (R = false) := Lib.hid HK.out
      clear ha hb
      go_enter Try.func57, Try.ntmps57
      go_wp2_with (go_at_call 47; (first | with_reducible refine (KA.out _).mono ?_ | with_reducible refine (KB.out _).mono ?_); rintro e w' ⟨rfl, rfl⟩)
      go_ret
      exact ⟨by rw [HR.out]; rfl, by go_grown⟩
  · rw [decide_eq_false ha] at HK KA
    have HR : Hid (R = false) := Lib.hid HK.out
    clear ha
    go_enter Try.func57, Try.ntmps57
    go_wp2_with (go_at_call 47; with_reducible refine (KA.out _).mono ?_; rintro e w' ⟨rfl, rfl⟩)
    go_ret
    exact ⟨by rw [HR.out]; rfl, by go_grown⟩

theorem hasP_take {xs : List Pr} {p : Pr} {k : Nat} (hk : k < xs.length) (h : hasP (xs.take k) p = false) : hasP (xs.take (k + 1)) p = (xs.getD k default == p) := by
  have e : xs.take (k + 1) = xs.take k ++ [xs.getD k default] := by
    rw [List.take_add_one, List.getElem?_eq_getElem hk, List.getD_eq_getElem?_getD, List.getElem?_eq_getElem hk]; rfl
  unfold hasP at *
  rw [e, List.any_append, h]; simp
theorem hasP_yes {xs : List Pr} {p : Pr} {k : Nat} (h : hasP (xs.take k) p = true) : hasP xs p = true := by
  unfold hasP at *
  rw [List.any_eq_true] at *
  obtain ⟨x, hx, e⟩ := h
  exact ⟨x, List.mem_of_mem_take hx, e⟩
set_option maxRecDepth 100000 in
set_option maxHeartbeats 4000000 in
theorem specHasP_any (v : Value) (xs : List Pr) (p : Pr) (w : World) (hr : Ps w v xs) :
    Calls Try.prog 49 #[v, p.v] w fun e w' => e = .returned (.bool (hasP xs p)) ∧ Below w.heap.size w w' := by
  obtain ⟨a, cap, rfl, h1, h2, h3⟩ := hr.parts
  have KEY := Lib.hid h3
  unfold maxLen at h2
  have HT := Lib.hid (fun k hk h => hasP_take (xs := xs) (p := p) (k := k) hk h)
  have HY := Lib.hid (fun k h => hasP_yes (xs := xs) (p := p) (k := k) h)
  have HE : Hid (hasP (xs.take xs.length) p = hasP xs p) := Lib.hid (by rw [List.take_of_length_le (Nat.le_refl _)])
  clear h3 hr
  unfold Pr.v
  go_enter Try.func49, Try.ntmps49
  go_wp2
  have P1 : Hid ((w.alloc (.cells #[.int .i64 p.a, .int .i64 p.b] 33)).cell? ⟨w.heap.size, 0, none⟩ = some (.int .i64 p.a) ∧ (w.alloc (.cells #[.int .i64 p.a, .int .i64 p.b] 33)).cell? ⟨w.heap.size, 1, none⟩ = some (.int .i64 p.b)) := Lib.hid ⟨(World.cell?_alloc_at _ _ _ _ rfl).trans rfl, (World.cell?_alloc_at _ _ _ _ rfl).trans rfl⟩
  have hb0 : Below w.heap.size w (w.alloc (.cells #[.int .i64 p.a, .int .i64 p.b] 33)) := (Below.refl _ _).alloc (Nat.le_refl _) _
  have hz0 : (w.alloc (.cells #[.int .i64 p.a, .int .i64 p.b] 33)).heap.size = w.heap.size + 1 := by simp
  generalize w.alloc (.cells #[.int .i64 p.a, .int .i64 p.b] 33) = w1 at *
  have B1 := Lib.hid hb0
  have Z1 := Lib.hid hz0
  clear hb0 hz0
  go_loopw [9] (fun iv wr => ∃ k : Nat, k ≤ xs.length ∧ iv = .int .i64 k ∧ Hid (hasP (xs.take k) p = false) ∧ Hid (Below w1.heap.size w1 wr)) (fun iv _ => xs.length - (intOf iv).toNat)
  case atStart => exact ⟨0, Nat.zero_le _, rfl, Lib.hid rfl, Lib.hid (Below.refl _ _)⟩
  case round =>
    obtain ⟨k, hk, rfl, HN, HB⟩ := hrel
    by_cases hlt : k < xs.length
    · obtain ⟨b, o, rfl, hb, c0, c1⟩ := KEY.out k hlt
      have hww := B1.out.trans (HB.out.mono B1.out.size)
      rw [← hww.cell (p := ⟨b, o + k * 2, none⟩) hb] at c0
      rw [← hww.cell (p := ⟨b, o + k * 2 + 1, none⟩) hb] at c1
      have p0 : wr.cell? ⟨w.heap.size, 0, none⟩ = some (.int .i64 p.a) := (HB.out.cell (p := ⟨w.heap.size, 0, none⟩) (by show w.heap.size < _; have := Z1.out; omega)).trans P1.out.1
      have p1 : wr.cell? ⟨w.heap.size, 1, none⟩ = some (.int .i64 p.b) := (HB.out.cell (p := ⟨w.heap.size, 1, none⟩) (by show w.heap.size < _; have := Z1.out; omega)).trans P1.out.2
      have HTk := Lib.hid (HT.out k hlt HN.out)
      have hwl : w.heap.size < wr.heap.size := by have := HB.out.size; have := Z1.out; omega
      clear hww
      generalize xs.getD k default = x at *
      obtain ⟨xa, xb⟩ := x
      have hnew : Below w1.heap.size w1 (wr.alloc (.cells #[.int .i64 xa, .int .i64 xb] 33)) := HB.out.alloc HB.out.size _
      have HNW := Lib.hid hnew
      clear hnew
      simp only at c0 c1
      by_cases hxa : xa = p.a
      · by_cases hxb : xb = p.b
        · have HR : Hid (hasP xs p = true) := Lib.hid (HY.out (k + 1) (by rw [HTk.out, hxa, hxb]; exact beq_self_eq_true p))
          rw [hxa] at c0 HNW
          rw [hxb] at c1 HNW
          clear hxa hxb HTk HN
          go_wp2
          go_ret
          exact ⟨by rw [HR.out]; rfl, B1.out.trans (HNW.out.mono B1.out.size)⟩
        · have HR : Hid (hasP (xs.take (k + 1)) p = false) := Lib.hid (by rw [HTk.out]; exact beq_eq_false_iff_ne.2 (fun e => hxb (by rw [← e])))
          clear HTk HN
          rw [hxa] at c0 HNW
          clear hxa
          go_wp2
          go_roundw
          case rel => exact ⟨k + 1, by omega, by go_num, HR, HNW⟩
          case measure => simp [intOf]; omega
      · have HR : Hid (hasP (xs.take (k + 1)) p = false) := Lib.hid (by rw [HTk.out]; exact beq_eq_false_iff_ne.2 (fun e => hxa (by rw [← e])))
        clear HTk HN
        go_wp2
        go_roundw
        case rel => exact ⟨k + 1, by omega, by go_num, HR, HNW⟩
        case measure => simp [intOf]; omega
    · obtain rfl : k = xs.length := by omega
      go_wp2
      go_ret
      exact ⟨by rw [← HE.out, HN.out]; rfl, B1.out.trans (HB.out.mono B1.out.size)⟩

theorem clash_take {xs : List Pr} {p : Pr} {f : Bool} {k : Nat} (hk : k < xs.length) (h : (xs.take k).any (clashP p f) = false) : (xs.take (k + 1)).any (clashP p f) = clashP p f (xs.getD k default) := by
  have e : xs.take (k + 1) = xs.take k ++ [xs.getD k default] := by
    rw [List.take_add_one, List.getElem?_eq_getElem hk, List.getD_eq_getElem?_getD, List.getElem?_eq_getElem hk]; rfl
  rw [e, List.any_append, h]; simp
theorem clash_yes {xs : List Pr} {p : Pr} {f : Bool} {k : Nat} (h : (xs.take k).any (clashP p f) = true) : ownP xs p f = false := by
  have : xs.any (clashP p f) = true := by
    rw [List.any_eq_true] at *
    obtain ⟨x, hx, e⟩ := h
    exact ⟨x, List.mem_of_mem_take hx, e⟩
  unfold ownP; rw [this]; rfl
theorem clash_t {p : Pr} {a b : Int} (h : b = p.b) (h2 : ¬ a = p.a) : clashP p true ⟨a, b⟩ = true := by
  unfold clashP
  have : ((⟨a, b⟩ : Pr) == p) = false := beq_eq_false_iff_ne.2 (fun e => h2 (by rw [← e]))
  rw [this]; simp [h]
theorem clash_t0 {p : Pr} {a b : Int} (h : ¬ b = p.b) : clashP p true ⟨a, b⟩ = false := by
  unfold clashP; simp [h]
theorem clash_f {p : Pr} {a b : Int} (h : a = p.a) (h2 : ¬ b = p.b) : clashP p false ⟨a, b⟩ = true := by
  unfold clashP
  have : ((⟨a, b⟩ : Pr) == p) = false := beq_eq_false_iff_ne.2 (fun e => h2 (by rw [← e]))
  rw [this]; simp [h]
theorem clash_f0 {p : Pr} {a b : Int} (h : ¬ a = p.a) : clashP p false ⟨a, b⟩ = false := by
  unfold clashP; simp [h]
theorem clash_s {p : Pr} {f : Bool} {a b : Int} (h : a = p.a) (h2 : b = p.b) : clashP p f ⟨a, b⟩ = false := by
  unfold clashP
  have : ((⟨a, b⟩ : Pr) == p) = true := by rw [h, h2]; exact beq_self_eq_true p
  rw [this]; simp
set_option maxRecDepth 100000 in
set_option maxHeartbeats 8000000 in
theorem specOwnP_any (v : Value) (xs : List Pr) (p : Pr) (f : Bool) (w : World) (hr : Ps w v xs) :
    Calls Try.prog 30 #[v, p.v, .bool f] w fun e w' => e = .returned (.bool (ownP xs p f)) ∧ Below w.heap.size w w' := by
  have KH := Lib.hid (fun W (h : Below w.heap.size w W) => specHasP_any v xs p W (hr.below h (Nat.le_refl _)))
  obtain ⟨a, cap, rfl, h1, h2, h3⟩ := hr.parts
  have KEY := Lib.hid h3
  unfold maxLen at h2
  have HT := Lib.hid (fun k hk h => clash_take (xs := xs) (p := p) (f := f) (k := k) hk h)
  have HY := Lib.hid (fun k h => clash_yes (xs := xs) (p := p) (f := f) (k := k) h)
  have HE : Hid ((xs.take xs.length).any (clashP p f) = false → ownP xs p f = hasP xs p) := Lib.hid (fun h => by rw [List.take_of_length_le (Nat.le_refl _)] at h; unfold ownP; rw [h]; rfl)
  clear h3 hr
  unfold Pr.v at KH ⊢
  generalize ownP xs p f = R at *
  go_enter Try.func30, Try.ntmps30
  go_wp2
  have P1 : Hid ((w.alloc (.cells #[.int .i64 p.a, .int .i64 p.b] 33)).cell? ⟨w.heap.size, 0, none⟩ = some (.int .i64 p.a) ∧ (w.alloc (.cells #[.int .i64 p.a, .int .i64 p.b] 33)).cell? ⟨w.heap.size, 1, none⟩ = some (.int .i64 p.b)) := Lib.hid ⟨(World.cell?_alloc_at _ _ _ _ rfl).trans rfl, (World.cell?_alloc_at _ _ _ _ rfl).trans rfl⟩
  have hb0 : Below w.heap.size w (w.alloc (.cells #[.int .i64 p.a, .int .i64 p.b] 33)) := (Below.refl _ _).alloc (Nat.le_refl _) _
  have hz0 : (w.alloc (.cells #[.int .i64 p.a, .int .i64 p.b] 33)).heap.size = w.heap.size + 1 := by simp
  generalize w.alloc (.cells #[.int .i64 p.a, .int .i64 p.b] 33) = w1 at *
  have B1 := Lib.hid hb0
  have Z1 := Lib.hid hz0
  clear hb0 hz0
  go_loopw [11] (fun iv wr => ∃ k : Nat, k ≤ xs.length ∧ iv = .int .i64 k ∧ Hid ((xs.take k).any (clashP p f) = false) ∧ Hid (Below w1.heap.size w1 wr)) (fun iv _ => xs.length - (intOf iv).toNat)
  case atStart => exact ⟨0, Nat.zero_le _, rfl, Lib.hid rfl, Lib.hid (Below.refl _ _)⟩
  case round =>
    obtain ⟨k, hk, rfl, HN, HB⟩ := hrel
    by_cases hlt : k < xs.length
    · obtain ⟨b, o, rfl, hb, c0, c1⟩ := KEY.out k hlt
      have hww := B1.out.trans (HB.out.mono B1.out.size)
      rw [← hww.cell (p := ⟨b, o + k * 2, none⟩) hb] at c0
      rw [← hww.cell (p := ⟨b, o + k * 2 + 1, none⟩) hb] at c1
      have p0 : wr.cell? ⟨w.heap.size, 0, none⟩ = some (.int .i64 p.a) := (HB.out.cell (p := ⟨w.heap.size, 0, none⟩) (by show w.heap.size < _; have := Z1.out; omega)).trans P1.out.1
      have p1 : wr.cell? ⟨w.heap.size, 1, none⟩ = some (.int .i64 p.b) := (HB.out.cell (p := ⟨w.heap.size, 1, none⟩) (by show w.heap.size < _; have := Z1.out; omega)).trans P1.out.2
      have HTk := Lib.hid (HT.out k hlt HN.out)
      have hwl : w.heap.size < wr.heap.size := by have := HB.out.size; have := Z1.out; omega
      clear hww
      generalize xs.getD k default = x at *
      obtain ⟨xa, xb⟩ := x
      have hnew : Below w1.heap.size w1 (wr.alloc (.cells #[.int .i64 xa, .int .i64 xb] 33)) := HB.out.alloc HB.out.size _
      have HNW := Lib.hid hnew
      clear hnew
      simp only at c0 c1
      have HFF : Hid (∀ ff : Bool, ff = f → clashP p ff ⟨xa, xb⟩ = true → R = false) := Lib.hid (fun ff e h => HY.out (k + 1) (by rw [HTk.out, ← e]; exact h))
      have HFN : Hid (∀ ff : Bool, ff = f → clashP p ff ⟨xa, xb⟩ = false → (xs.take (k + 1)).any (clashP p f) = false) := Lib.hid (fun ff e h => by rw [HTk.out, ← e]; exact h)
      clear HTk HN HT HY
      cases f with
      | true =>
        by_cases hxb : xb = p.b
        · by_cases hxa : xa = p.a
          · have HR := Lib.hid (HFN.out true rfl (clash_s hxa hxb))
            rw [hxa] at c0 HNW
            rw [hxb] at c1 HNW
            clear hxa hxb HFF HFN
            go_wp2
            go_roundw
            case rel => exact ⟨k + 1, by omega, by go_num, HR, HNW⟩
            case measure => simp [intOf]; omega
          · have HR := Lib.hid (HFF.out true rfl (clash_t hxb hxa))
            rw [hxb] at c1 HNW
            clear hxb HFF HFN
            go_wp2
            go_ret
            exact ⟨by rw [HR.out]; rfl, B1.out.trans (HNW.out.mono B1.out.size)⟩
        · have HR := Lib.hid (HFN.out true rfl (clash_t0 hxb))
          clear HFF HFN
          go_wp2
          go_roundw
          case rel => exact ⟨k + 1, by omega, by go_num, HR, HNW⟩
          case measure => simp [intOf]; omega
      | false =>
        by_cases hxa : xa = p.a
        · by_cases hxb : xb = p.b
          · have HR := Lib.hid (HFN.out false rfl (clash_s hxa hxb))
            rw [hxa] at c0 HNW
            rw [hxb] at c1 HNW
            clear hxa hxb HFF HFN
            go_wp2
            go_roundw
            case rel => exact ⟨k + 1, by omega, by go_num, HR, HNW⟩
            case measure => simp [intOf]; omega
          · have HR := Lib.hid (HFF.out false rfl (clash_f hxa hxb))
            rw [hxa] at c0 HNW
            clear hxa HFF HFN
            go_wp2
            go_ret
            exact ⟨by rw [HR.out]; rfl, B1.out.trans (HNW.out.mono B1.out.size)⟩
        · have HR := Lib.hid (HFN.out false rfl (clash_f0 hxa))
          clear HFF HFN
          go_wp2
          go_roundw
          case rel => exact ⟨k + 1, by omega, by go_num, HR, HNW⟩
          case measure => simp [intOf]; omega
    · obtain ⟨k', hk'⟩ : ∃ y, y = k := ⟨_, rfl⟩
      subst hk'
      have HR : Hid (R = hasP xs p) := Lib.hid (HE.out (by have h := HN.out; rwa [show k' = xs.length by omega] at h))
      have hww := B1.out.trans (HB.out.mono B1.out.size)
      have HWW := Lib.hid hww
      have p0 : wr.cell? ⟨w.heap.size, 0, none⟩ = some (.int .i64 p.a) := (HB.out.cell (p := ⟨w.heap.size, 0, none⟩) (by show w.heap.size < _; have := Z1.out; omega)).trans P1.out.1
      have p1 : wr.cell? ⟨w.heap.size, 1, none⟩ = some (.int .i64 p.b) := (HB.out.cell (p := ⟨w.heap.size, 1, none⟩) (by show w.heap.size < _; have := Z1.out; omega)).trans P1.out.2
      have hwl : w.heap.size < wr.heap.size := by have := HB.out.size; have := Z1.out; omega
      clear hww
      go_wp2_with fail
      refine (KH.out _ HWW.out).mono ?_
      rintro e w5 ⟨rfl, hb5⟩
      have B5 := Lib.hid (HWW.out.trans (hb5.mono HWW.out.size))
      clear hb5 p0 p1
      go_wp2
      go_ret
      exact ⟨by rw [HR.out]; rfl, B5.out⟩
end Go.Proofs.Ytmcjimmebbkjcaa
