/-
  Contracts of Deal.clashes and the function that it returns, and of slices.IndexFunc and ContainsFunc over numbers from 0 to 127. Condition: a valid deal, hands from 0 to 127.
-/
import Derived.Test.YteahjnobnbafiaaDoorCid
import Derived.Test.YteahjnobnbafiaaDoorZReg
import Derived.Shelf.Abstract
import Derived.Laws.EntriesVeiled
namespace Go.Proofs.YteahjnobnbafiaaDoor
open Go.RowKit Go.WideShapes
open Go Go.Deep
set_option linter.unusedSimpArgs false

set_option maxRecDepth 100000 in
set_option maxHeartbeats 4000000 in
theorem clashB_any (d : Dl) (hd : dealR d = true) (X Y : Nat) (hX : X < 128) (hY : Y < 128) (bh bd : Nat) (w : World) (hcd : Cm w bd 26 [.int .i64 d.a, .int .i64 d.b, .int .i64 d.c]) (hch : Cm w bh 3 [.int .i64 X]) :
    Calls Tryd.prog 49 #[.int .i64 Y, .pointer (some ⟨bh, 0, none⟩), .pointer (some ⟨bd, 0, none⟩)] w fun e w' => e = .returned (.bool (clshD d X Y)) ∧ ∃ q, w' = w.drewN q := by
  obtain ⟨a1, a7, -, -, cc1, cc7, -, -, -⟩ := deal_facts hd
  have hand : bits .and .i64 (X : Int) (Y : Int) = ((X &&& Y : Nat) : Int) := bits_and_nat X Y (by omega) (by omega)
  have hz : X &&& Y < 128 := Nat.lt_of_le_of_lt Nat.and_le_left hX
  have HR : Hid (clshD d X Y = decide (d.a - d.c ≤ (pop (X &&& Y) : Int))) := Lib.hid (by unfold clshD andI; rw [Int.toNat_natCast, Int.toNat_natCast])
  generalize clshD d X Y = R at *
  clear hd
  generalize d.a = da at *
  generalize d.b = db at *
  generalize d.c = dc at *
  have htw : IntKind.i64.wrap (da - dc) = da - dc := IntWalk.i64_in _ (by omega)
  generalize htt : da - dc = tt at *
  have HTT := Lib.hid htt
  generalize X &&& Y = Z at *
  have KC := Lib.hid (fun W => cards_any Z hz W)
  generalize pop Z = P at *
  have hZi : (Z : Int) < 128 := by omega
  have HX := Lib.hid (fun W' (hW : Below w.heap.size w W') => (hcd.all hW).cell 0)
  have HX2 := Lib.hid (fun W' (hW : Below w.heap.size w W') => (hcd.all hW).cell 2)
  have HH := Lib.hid (fun W' (hW : Below w.heap.size w W') => (hch.all hW).cell 0)
  clear hcd hch
  cases R with
  | true =>
    have hp : tt ≤ (P : Int) := by have := HR.out; simpa using this
    clear HR
    go_enter Tryd.func49, Tryd.ntmps49
    go_wp2
    refine regionL (fun W' => Below w.heap.size w W') [] (by kernel_rfl) (Below.refl _ _).drew (fun hHeld => ?_)
    refine takeA (i := 0) (v := .int .i64 X) 5 rfl rfl (by kernel_rfl) (by kernel_rfl) (by kernel_rfl) (by kernel_rfl) (fun _ _ _ h => h) (Or.inl ⟨by rfl, by intro W hSw; have c0 := HH.out _ hSw; go_simp⟩) hHeld ?_
    simp only [Act.put, List.setIfInBounds_toArray, List.set_cons_zero, List.set_cons_succ]
    refine takeA (i := 1) (v := .int .i64 Y) 6 rfl rfl (by kernel_rfl) (by kernel_rfl) (by kernel_rfl) (by kernel_rfl) (fun _ _ _ h => h) (Or.inl ⟨by rfl, by intro W hSw; go_simp⟩) hHeld ?_
    simp only [Act.put, List.setIfInBounds_toArray, List.set_cons_zero, List.set_cons_succ]
    refine takeA (i := 2) (v := .int .i64 Z) 7 rfl rfl (by kernel_rfl) (by kernel_rfl) (by kernel_rfl) (by kernel_rfl) (fun _ _ _ h => h) (Or.inl ⟨by rfl, by intro W hSw; go_simp⟩) hHeld ?_
    simp only [Act.put, List.setIfInBounds_toArray, List.set_cons_zero, List.set_cons_succ]
    refine takeA (i := 4) (v := .pointer (some ⟨bd, 0, none⟩)) 9 rfl rfl (by kernel_rfl) (by kernel_rfl) (by kernel_rfl) (by kernel_rfl) (fun _ _ _ h => h) (Or.inl ⟨by rfl, by intro W hSw; go_simp⟩) hHeld ?_
    simp only [Act.put, List.setIfInBounds_toArray, List.set_cons_zero, List.set_cons_succ]
    refine takeA (i := 5) (v := .int .i64 da) 10 rfl rfl (by kernel_rfl) (by kernel_rfl) (by kernel_rfl) (by kernel_rfl) (fun _ _ _ h => h) (Or.inl ⟨by rfl, by intro W hSw; have c0 := HX.out _ hSw; go_simp⟩) hHeld ?_
    simp only [Act.put, List.setIfInBounds_toArray, List.set_cons_zero, List.set_cons_succ]
    refine takeA (i := 6) (v := .pointer (some ⟨bd, 2, none⟩)) 11 rfl rfl (by kernel_rfl) (by kernel_rfl) (by kernel_rfl) (by kernel_rfl) (fun _ _ _ h => h) (Or.inl ⟨by rfl, by intro W hSw; go_simp⟩) hHeld ?_
    simp only [Act.put, List.setIfInBounds_toArray, List.set_cons_zero, List.set_cons_succ]
    refine takeA (i := 7) (v := .int .i64 dc) 12 rfl rfl (by kernel_rfl) (by kernel_rfl) (by kernel_rfl) (by kernel_rfl) (fun _ _ _ h => h) (Or.inl ⟨by rfl, by intro W hSw; have c2 := HX2.out _ hSw; go_simp⟩) hHeld ?_
    simp only [Act.put, List.setIfInBounds_toArray, List.set_cons_zero, List.set_cons_succ]
    refine takeA (i := 8) (v := .int .i64 tt) 13 rfl rfl (by kernel_rfl) (by kernel_rfl) (by kernel_rfl) (by kernel_rfl) (fun _ _ _ h => h) (Or.inl ⟨by rfl, by intro W hSw; go_simp⟩) hHeld ?_
    simp only [Act.put, List.setIfInBounds_toArray, List.set_cons_zero, List.set_cons_succ]
    refine onlyL (i := 3) (by kernel_rfl) rfl (by rfl) (fun K hK => ?_)
    go_simp
    refine (KC.out _).mono ?_
    rintro e w9 ⟨rfl, rfl⟩
    refine hK.out _ _ (fun _ => hHeld) (fun _ => ?_)
    clear hK K
    try simp only [Act.put, List.setIfInBounds_toArray, List.set_cons_zero, List.set_cons_succ]
    refine takeA (i := 9) (v := .bool true) 14 rfl rfl (by kernel_rfl) (by kernel_rfl) (by kernel_rfl) (by kernel_rfl) (fun _ _ _ h => h) (Or.inl ⟨by rfl, by intro W hSw; go_simp⟩) hHeld ?_
    simp only [Act.put, List.setIfInBounds_toArray, List.set_cons_zero, List.set_cons_succ]
    refine takeA (i := 10) (v := .bool true) 4 rfl rfl (by kernel_rfl) (by kernel_rfl) (by kernel_rfl) (by kernel_rfl) (fun _ _ _ h => h) (Or.inl ⟨by rfl, by intro W hSw; go_simp⟩) hHeld ?_
    simp only [Act.put, List.setIfInBounds_toArray, List.set_cons_zero, List.set_cons_succ]
    refine doneL (by kernel_rfl) ?_ _
    have HB9 : Hid (∃ q, w.drew = w.drewN q) := Lib.hid ⟨1, rfl⟩
    clear hHeld HX HX2 HH
    generalize w.drew = w9 at *
    go_wp2
    go_ret
    exact ⟨rfl, HB9.out⟩
  | false =>
    have hp : ¬ tt ≤ (P : Int) := by have := HR.out; simpa using this
    clear HR
    go_enter Tryd.func49, Tryd.ntmps49
    go_wp2
    refine regionL (fun W' => Below w.heap.size w W') [] (by kernel_rfl) (Below.refl _ _).drew (fun hHeld => ?_)
    refine takeA (i := 0) (v := .int .i64 X) 5 rfl rfl (by kernel_rfl) (by kernel_rfl) (by kernel_rfl) (by kernel_rfl) (fun _ _ _ h => h) (Or.inl ⟨by rfl, by intro W hSw; have c0 := HH.out _ hSw; go_simp⟩) hHeld ?_
    simp only [Act.put, List.setIfInBounds_toArray, List.set_cons_zero, List.set_cons_succ]
    refine takeA (i := 1) (v := .int .i64 Y) 6 rfl rfl (by kernel_rfl) (by kernel_rfl) (by kernel_rfl) (by kernel_rfl) (fun _ _ _ h => h) (Or.inl ⟨by rfl, by intro W hSw; go_simp⟩) hHeld ?_
    simp only [Act.put, List.setIfInBounds_toArray, List.set_cons_zero, List.set_cons_succ]
    refine takeA (i := 2) (v := .int .i64 Z) 7 rfl rfl (by kernel_rfl) (by kernel_rfl) (by kernel_rfl) (by kernel_rfl) (fun _ _ _ h => h) (Or.inl ⟨by rfl, by intro W hSw; go_simp⟩) hHeld ?_
    simp only [Act.put, List.setIfInBounds_toArray, List.set_cons_zero, List.set_cons_succ]
    refine takeA (i := 4) (v := .pointer (some ⟨bd, 0, none⟩)) 9 rfl rfl (by kernel_rfl) (by kernel_rfl) (by kernel_rfl) (by kernel_rfl) (fun _ _ _ h => h) (Or.inl ⟨by rfl, by intro W hSw; go_simp⟩) hHeld ?_
    simp only [Act.put, List.setIfInBounds_toArray, List.set_cons_zero, List.set_cons_succ]
    refine takeA (i := 5) (v := .int .i64 da) 10 rfl rfl (by kernel_rfl) (by kernel_rfl) (by kernel_rfl) (by kernel_rfl) (fun _ _ _ h => h) (Or.inl ⟨by rfl, by intro W hSw; have c0 := HX.out _ hSw; go_simp⟩) hHeld ?_
    simp only [Act.put, List.setIfInBounds_toArray, List.set_cons_zero, List.set_cons_succ]
    refine takeA (i := 6) (v := .pointer (some ⟨bd, 2, none⟩)) 11 rfl rfl (by kernel_rfl) (by kernel_rfl) (by kernel_rfl) (by kernel_rfl) (fun _ _ _ h => h) (Or.inl ⟨by rfl, by intro W hSw; go_simp⟩) hHeld ?_
    simp only [Act.put, List.setIfInBounds_toArray, List.set_cons_zero, List.set_cons_succ]
    refine takeA (i := 7) (v := .int .i64 dc) 12 rfl rfl (by kernel_rfl) (by kernel_rfl) (by kernel_rfl) (by kernel_rfl) (fun _ _ _ h => h) (Or.inl ⟨by rfl, by intro W hSw; have c2 := HX2.out _ hSw; go_simp⟩) hHeld ?_
    simp only [Act.put, List.setIfInBounds_toArray, List.set_cons_zero, List.set_cons_succ]
    refine takeA (i := 8) (v := .int .i64 tt) 13 rfl rfl (by kernel_rfl) (by kernel_rfl) (by kernel_rfl) (by kernel_rfl) (fun _ _ _ h => h) (Or.inl ⟨by rfl, by intro W hSw; go_simp⟩) hHeld ?_
    simp only [Act.put, List.setIfInBounds_toArray, List.set_cons_zero, List.set_cons_succ]
    refine onlyL (i := 3) (by kernel_rfl) rfl (by rfl) (fun K hK => ?_)
    go_simp
    refine (KC.out _).mono ?_
    rintro e w9 ⟨rfl, rfl⟩
    refine hK.out _ _ (fun _ => hHeld) (fun _ => ?_)
    clear hK K
    try simp only [Act.put, List.setIfInBounds_toArray, List.set_cons_zero, List.set_cons_succ]
    refine takeA (i := 9) (v := .bool false) 14 rfl rfl (by kernel_rfl) (by kernel_rfl) (by kernel_rfl) (by kernel_rfl) (fun _ _ _ h => h) (Or.inl ⟨by rfl, by intro W hSw; go_simp⟩) hHeld ?_
    simp only [Act.put, List.setIfInBounds_toArray, List.set_cons_zero, List.set_cons_succ]
    refine takeA (i := 10) (v := .bool false) 4 rfl rfl (by kernel_rfl) (by kernel_rfl) (by kernel_rfl) (by kernel_rfl) (fun _ _ _ h => h) (Or.inl ⟨by rfl, by intro W hSw; go_simp⟩) hHeld ?_
    simp only [Act.put, List.setIfInBounds_toArray, List.set_cons_zero, List.set_cons_succ]
    refine doneL (by kernel_rfl) ?_ _
    have HB9 : Hid (∃ q, w.drew = w.drewN q) := Lib.hid ⟨1, rfl⟩
    clear hHeld HX HX2 HH
    generalize w.drew = w9 at *
    go_wp2
    go_ret
    exact ⟨rfl, HB9.out⟩
/-- a predicate over numbers from 0 to 127, as long as the blocks from lo to hi are as they were in w -/
def PredK (g : FuncId) (lb : Array Value) (t : Int → Bool) (lo hi : Nat) (w : World) : Prop := ∀ (W : World) (x : Int), 0 ≤ x → x < 128 → Keeps lo hi w W → Calls Tryd.prog g (#[.int .i64 x] ++ lb) W fun e w' => e = .returned (.bool (t x)) ∧ ∃ q, w' = W.drewN q
theorem PredK.go {g : FuncId} {lb : Array Value} {t : Int → Bool} {lo hi : Nat} {w w' : World} (h : PredK g lb t lo hi w) (k : Keeps lo hi w w') : PredK g lb t lo hi w' := fun W x h0 h1 hk => h W x h0 h1 (k.trans hk)
theorem PredK.below {g : FuncId} {lb : Array Value} {t : Int → Bool} {lo hi : Nat} {w : World} (h : PredK g lb t lo hi w) (W : World) (x : Int) (h0 : 0 ≤ x) (h1 : x < 128) (k : Keeps lo hi w W) : Calls Tryd.prog g (#[.int .i64 x] ++ lb) W fun e w' => e = .returned (.bool (t x)) ∧ Below W.heap.size W w' := (h W x h0 h1 k).mono (by rintro e w' ⟨rfl, q, rfl⟩; exact ⟨rfl, below_drewN' (Below.refl _ _) q⟩)
def ClshAns (w : World) (t : Int → Bool) (e : Ending) (w' : World) : Prop := ∃ lb, e = .returned (.func (.func 49) #[] lb) ∧ PredK 49 lb t w.heap.size (w.heap.size + 2) w' ∧ Below w.heap.size w w' ∧ w.heap.size + 2 ≤ w'.heap.size
set_option maxRecDepth 100000 in
set_option maxHeartbeats 4000000 in
theorem clashes_any (d : Dl) (hd : dealR d = true) (X : Nat) (hX : X < 128) (w : World) :
    Calls Tryd.prog 40 #[d.v, .int .i64 X] w (ClshAns w (clshD d X)) := by
  have KB := Lib.hid (fun Y hY bh bd W h1 h2 => clashB_any d hd X Y hX hY bh bd W h1 h2)
  unfold Dl.v
  have hX1 : Cm ((w.alloc (.cells #[.int .i64 d.a, .int .i64 d.b, .int .i64 d.c] 26)).alloc (.cells #[.int .i64 X] 3)) w.heap.size 26 [.int .i64 d.a, .int .i64 d.b, .int .i64 d.c] := (Cm.new (cs := [.int .i64 d.a, .int .i64 d.b, .int .i64 d.c]) rfl).alloc _
  have hX2 : Cm ((w.alloc (.cells #[.int .i64 d.a, .int .i64 d.b, .int .i64 d.c] 26)).alloc (.cells #[.int .i64 X] 3)) (w.heap.size + 1) 3 [.int .i64 X] := Cm.new (cs := [.int .i64 X]) (by simp)
  have hb1 : Below w.heap.size w ((w.alloc (.cells #[.int .i64 d.a, .int .i64 d.b, .int .i64 d.c] 26)).alloc (.cells #[.int .i64 X] 3)) := ((Below.refl _ _).alloc (Nat.le_refl _) _).alloc (by simp) _
  have hs1 : w.heap.size + 2 ≤ ((w.alloc (.cells #[.int .i64 d.a, .int .i64 d.b, .int .i64 d.c] 26)).alloc (.cells #[.int .i64 X] 3)).heap.size := by simp
  have HA := Lib.hid (And.intro hX1 (And.intro hX2 (And.intro hb1 hs1)))
  clear hX1 hX2 hb1 hs1
  generalize d.a = da at *
  generalize d.b = db at *
  generalize d.c = dc at *
  go_enter Tryd.func40, Tryd.ntmps40
  go_wp2
  go_ret
  obtain ⟨x1, x2, b1, s1⟩ := HA.out
  refine ⟨_, rfl, fun W x h0 h1 hk => ?_, b1, s1⟩
  obtain ⟨Y, rfl⟩ := Int.eq_ofNat_of_zero_le h0
  exact KB.out Y (by omega) _ _ W (x1.of_block (hk.block _ (Nat.le_refl _) (by omega) x1.lt)) (x2.of_block (hk.block _ (by omega) (by omega) x2.lt))

theorem any_prefixI {xs : List Int} {t : Int → Bool} (h : ∀ j, j < xs.length → t (xs.getD j 0) = false) : xs.any t = false := by
  rw [Bool.eq_false_iff, Ne, List.any_eq_true]
  rintro ⟨x, hx, e⟩
  obtain ⟨j, hj, rfl⟩ := List.mem_iff_getElem.1 hx
  have := h j hj
  rw [List.getD_eq_getElem?_getD, List.getElem?_eq_getElem hj] at this
  rw [show (some xs[j]).getD 0 = xs[j] from rfl, e] at this
  cases this
theorem any_atI {xs : List Int} {t : Int → Bool} {k : Nat} (hk : k < xs.length) (h : t (xs.getD k 0) = true) : xs.any t = true := by
  rw [List.any_eq_true]
  refine ⟨_, ?_, h⟩
  rw [List.getD_eq_getElem?_getD, List.getElem?_eq_getElem hk]
  exact List.getElem_mem hk
theorem getD_memI {xs : List Int} {k : Nat} (hk : k < xs.length) : xs.getD k 0 ∈ xs := by
  rw [List.getD_eq_getElem?_getD, List.getElem?_eq_getElem hk]; exact List.getElem_mem hk
theorem entClash : Enters Tryd.prog 49 := enters_of Tryd.func49 (by kernel_rfl) rfl
/-- the place of the first element of which t is true -/
def IdxI (xs : List Int) (t : Int → Bool) (w : World) (e : Ending) (w' : World) : Prop := ∃ i : Int, e = .returned (.int .i64 i) ∧ (i = -1 ∧ (∀ j, j < xs.length → t (xs.getD j 0) = false) ∨ ∃ k : Nat, i = k ∧ k < xs.length ∧ t (xs.getD k 0) = true ∧ ∀ j, j < k → t (xs.getD j 0) = false) ∧ (Lit.int .i64 i).wf = true ∧ Below w.heap.size w w'

set_option maxRecDepth 100000 in
set_option maxHeartbeats 4000000 in
theorem indexI_any (g : FuncId) (lb : Array Value) (t : Int → Bool) (lo hi : Nat) (rl rh : Nat) (v : Value) (xs : List Int) (w : World) (hr : Iv rl rh w v xs) (hx : ∀ x ∈ xs, 0 ≤ x ∧ x < 128) (eg : Enters Tryd.prog g) (hp : PredK g lb t lo hi w) :
    Calls Tryd.prog 48 #[v, .func (.func g) #[] lb] w (IdxI xs t w) := by
  obtain ⟨a, cap, rfl, h1, h2, h3⟩ := hr.parts
  have KEY := Lib.hid h3
  have HPR := Lib.hid (fun W x h0 h1 (hb : Below w.heap.size w W) => hp.below W x h0 h1 (Keeps.of_all hb))
  unfold maxLen at h2
  have HEG := Lib.hid eg
  have HX := Lib.hid (fun k hk => hx (xs.getD k 0) (getD_memI (k := k) hk))
  clear h3 hr hp eg hx
  go_enter Tryd.func48, Tryd.ntmps48
  go_wp2
  go_loopw [5, 8] (fun _ iv wr => ∃ k : Nat, k ≤ xs.length ∧ iv = .int .i64 k ∧ Hid (∀ j, j < k → t (xs.getD j 0) = false) ∧ Hid (Below w.heap.size w wr)) (fun _ iv _ => xs.length - (intOf iv).toNat)
  case atStart => exact ⟨0, Nat.zero_le _, rfl, Lib.hid (fun j hj => absurd hj (Nat.not_lt_zero _)), Lib.hid (Below.refl _ _)⟩
  case round =>
    obtain ⟨k, hk, rfl, HNk, HB⟩ := hrel
    by_cases hlt : k < xs.length
    · obtain ⟨b, o, rfl, -, -, hb, c0⟩ := KEY.out k hlt
      rw [← HB.out.cell (p := ⟨b, o + k, none⟩) hb] at c0
      have hi0 : (0 : Int) ≤ (k : Int) := Int.natCast_nonneg _
      have hi1 : (k : Int) < (xs.length : Int) := by omega
      have hwf : (Lit.int .i64 (k : Int)).wf = true := WalkArith.wf_i64 (by omega)
      have HW := Lib.hid hwf
      clear hwf
      have HYk : Hid (t (xs.getD k 0) = true → ∃ k' : Nat, (k : Int) = k' ∧ k' < xs.length ∧ t (xs.getD k' 0) = true ∧ ∀ j, j < k' → t (xs.getD j 0) = false) := Lib.hid (fun h => ⟨k, rfl, hlt, h, HNk.out⟩)
      have HNX : Hid (t (xs.getD k 0) = false → ∀ j, j < k + 1 → t (xs.getD j 0) = false) := Lib.hid (fun h j hj => by
        rcases Nat.lt_or_eq_of_le (Nat.le_of_lt_succ hj) with h1 | h1
        · exact HNk.out j h1
        · subst h1; exact h)
      obtain ⟨hx0, hx1⟩ := HX.out k hlt
      have KT := Lib.hid (HPR.out wr (xs.getD k 0) hx0 hx1 HB.out)
      clear hx0 hx1
      generalize hxe : xs.getD k 0 = x at c0 HYk HNX KT
      have hent : ∀ args w, (callFunc g args).run Tryd.prog w = .ok (.enter g args) w := HEG.out
      clear hxe
      cases ht : t x with
      | true =>
        rw [ht] at KT
        have HR := Lib.hid (HYk.out ht)
        clear ht HYk HNX
        go_wp2_with (with_reducible refine KT.out.mono ?_; rintro e w' ⟨rfl, hb'⟩)
        go_ret
        exact ⟨_, rfl, Or.inr HR.out, HW.out, HB.out.trans (hb'.mono HB.out.size)⟩
      | false =>
        rw [ht] at KT
        have HR := Lib.hid (HNX.out ht)
        clear ht HYk HNX
        go_wp2_with (with_reducible refine KT.out.mono ?_; rintro e w' ⟨rfl, hb'⟩)
        have B' : Hid (Below w.heap.size w w') := Lib.hid (HB.out.trans (hb'.mono HB.out.size))
        clear hb'
        go_roundw
        case rel => exact ⟨k + 1, by omega, by go_num, HR, B'⟩
        case measure => simp [intOf]; omega
    · obtain rfl : k = xs.length := by omega
      go_wp2
      go_ret
      exact ⟨-1, rfl, Or.inl ⟨rfl, HNk.out⟩, by decide, HB.out⟩
set_option maxHeartbeats 1000000 in
theorem containsI_any (g : FuncId) (lb : Array Value) (t : Int → Bool) (lo hi : Nat) (rl rh : Nat) (v : Value) (xs : List Int) (w : World) (hr : Iv rl rh w v xs) (hx : ∀ x ∈ xs, 0 ≤ x ∧ x < 128) (eg : Enters Tryd.prog g) (hp : PredK g lb t lo hi w) :
    Calls Tryd.prog 39 #[v, .func (.func g) #[] lb] w fun e w' => e = .returned (.bool (xs.any t)) ∧ Below w.heap.size w w' := by
  have KI := Lib.hid (indexI_any g lb t lo hi rl rh v xs w hr hx eg hp)
  obtain ⟨a, cap, rfl⟩ := hr.form
  have HY := Lib.hid (fun k hk h => any_atI (xs := xs) (t := t) (k := k) hk h)
  have HN := Lib.hid (fun h => any_prefixI (xs := xs) (t := t) h)
  clear hr hp hx
  generalize xs.any t = R at *
  unfold IdxI at KI
  go_enter Tryd.func39, Tryd.ntmps39
  go_wp2_with fail
  refine KI.out.mono ?_
  rintro e w2 ⟨i, rfl, hi', hwf, hb2⟩
  have B2 := Lib.hid hb2
  clear hb2
  rcases hi' with ⟨hi', h⟩ | ⟨k, hi', hk, ht, -⟩
  · have HR := Lib.hid (HN.out h)
    clear h
    subst hi'
    go_wp2
    go_ret
    exact ⟨by rw [HR.out]; rfl, B2.out⟩
  · have HR := Lib.hid (HY.out k hk ht)
    clear hk ht
    have h0 : 0 ≤ i := by omega
    clear hi'
    go_wp2
    go_ret
    exact ⟨by rw [HR.out]; rfl, B2.out⟩
end Go.Proofs.YteahjnobnbafiaaDoor
