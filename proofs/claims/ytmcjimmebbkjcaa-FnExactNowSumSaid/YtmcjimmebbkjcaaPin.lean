/-
  impl.SumPairs, UniqueProduct, UniqueSum, NowProduct, NowSum. Condition of the last two: at most 1048576 pairs.
-/
import Derived.Test.YtmcjimmebbkjcaaPik
import Derived.Test.YtmcjimmebbkjcaaPss
import Derived.OpenShut
namespace Go.Proofs.Ytmcjimmebbkjcaa
open Go.RowKit Go.WideShapes
open Go Go.Deep
set_option linter.unusedSimpArgs false

set_option maxRecDepth 100000 in
set_option maxHeartbeats 8000000 in
theorem implSumPairs_any (x : Int) (w : World) :
    Calls Try.prog 15 #[.int .i64 x] w (PrsAns w (sumR x)) := by
  by_cases hx : 4 ≤ x ∧ x ≤ 100
  · have HR : Hid (sumR x = sumTo x.toNat (x.toNat / 2 - 1)) := Lib.hid (if_pos hx)
    generalize sumR x = R at *
    obtain ⟨M, rfl⟩ := Int.eq_ofNat_of_zero_le (show 0 ≤ x by omega)
    rw [Int.toNat_natCast, ← part_end] at HR
    have hM1 : 4 ≤ M := by omega
    have hM100 : M ≤ 100 := by omega
    have hMi : (M : Int) ≤ 100 := by omega
    have hMi1 : (4 : Int) ≤ (M : Int) := by omega
    clear hx
    have HL := Lib.hid (fun a b => part_len (M := M) a b hM100)
    have H0 := Lib.hid (part_first M)
    have HA := Lib.hid (fun a b h h2 => part_add (M := M) (x := a) (y := b) h h2)
    have HN := Lib.hid (fun a h h2 => part_next (M := M) (x := a) h h2)
    go_enter Try.func15, Try.ntmps15
    go_wp2
    go_loopw [3, 4] (fun lv iv wr => ∃ (a : Nat) (lv' : Value), 2 ≤ a ∧ a ≤ M / 2 + 1 ∧ iv = .int .i64 a ∧ lv' = lv ∧ Hid (wr.ownsRow w.heap.size 33 2 lv' (partS M a a).length (prCells (partS M a a))) ∧ Hid (Below w.heap.size w wr)) (fun _ iv _ => M / 2 + 1 - (intOf iv).toNat)
    case atStart => exact ⟨2, _, Nat.le_refl _, by omega, rfl, rfl, Lib.hid (by rw [H0.out]; exact World.ownsRow_nil _ _ _ _), Lib.hid (Below.refl _ _)⟩
    case round =>
      obtain ⟨a, lv, ha2, ha, rfl, rfl, HO, HB⟩ := hrel
      have hai : (2 : Int) ≤ (a : Int) := by omega
      have hai2 : (a : Int) ≤ 51 := by omega
      by_cases hlt : 2 * a ≤ M
      · have hlti : (a : Int) ≤ (M : Int) - (a : Int) := by omega
        go_wp2
        go_loopw [3, 5] (fun lv2 iv wx => ∃ (b : Nat) (lv' : Value), a ≤ b ∧ a + b ≤ M + 1 ∧ iv = .int .i64 b ∧ lv' = lv2 ∧ Hid (wx.ownsRow w.heap.size 33 2 lv' (partS M a b).length (prCells (partS M a b))) ∧ Hid (Below w.heap.size w wx)) (fun _ iv _ => M + 1 - (intOf iv).toNat)
        case atStart => exact ⟨a, _, Nat.le_refl _, by omega, rfl, rfl, HO, HB⟩
        case round =>
          clear HO HB
          obtain ⟨b, lv2, hab, hb1, rfl, rfl, HO, HB⟩ := hrel
          have hbi : (a : Int) ≤ (b : Int) := by omega
          have hbi2 : (b : Int) ≤ 101 := by omega
          by_cases hlb : a + b ≤ M
          · have hlbi : (b : Int) ≤ (M : Int) - (a : Int) := by omega
            have HLk := Lib.hid (HL.out a b)
            have HR2 := Lib.hid (HA.out a b hab hlb)
            have hsz := HB.out.size
            go_wp2_with
              (at_builtin; refine wpList_push2 rfl (.tmp 27) (.tmp 31) 22 rfl 33 (.agg #[.int .i64 0, .int .i64 0]) 16 Try.underlying22 Try.infoPr rfl w.heap.size wr (.int .i64 a) (.int .i64 b) lv2 (partS M a b).length (prCells (partS M a b)) HO.out rfl wr.heap.size rfl rfl rfl rfl (by unfold maxLen; have := HLk.out; omega) (by have := HLk.out; omega) hsz ?_; intro v6 w6 hown hb6 hg; have L6 := Lib.hid hown; have B6 := Lib.hid (HB.out.trans hb6); clear hown hg hb6)
            go_roundw
            case rel => exact ⟨b + 1, _, by omega, by omega, by go_num, rfl, Lib.hid (by rw [HR2.out, prCells_app, List.length_append]; exact L6.out), B6⟩
            case measure => simp [intOf]; omega
          · have hlbi : ¬ (b : Int) ≤ (M : Int) - (a : Int) := by omega
            have HR2 := Lib.hid (HN.out a ha2 hlt)
            obtain ⟨b', hb'⟩ : ∃ y, y = b := ⟨_, rfl⟩
            subst hb'
            have hbe : b' = M + 1 - a := by omega
            go_wp2
            go_roundw
            case rel => exact ⟨a + 1, _, by omega, by omega, by go_num, rfl, Lib.hid (by rw [← HR2.out, ← hbe]; exact HO.out), HB⟩
            case measure => simp [intOf]; omega
      · have hlti : ¬ (a : Int) ≤ (M : Int) - (a : Int) := by omega
        have hae : a = M / 2 + 1 := by omega
        have HR2 : Hid (R = partS M a a) := Lib.hid (by rw [HR.out, hae])
        clear hae
        go_wp2
        go_ret
        exact ⟨_, rfl, by rw [HR2.out]; exact HO.out, HB.out⟩
  · have HR : Hid (sumR x = []) := Lib.hid (if_neg hx)
    generalize sumR x = R at *
    by_cases h4 : x < 4
    · clear hx
      go_enter Try.func15, Try.ntmps15
      go_wp2
      go_ret
      rw [HR.out]
      exact PrsAns.none_of (Below.refl _ _)
    · have h100 : 100 < x := by omega
      clear hx
      go_enter Try.func15, Try.ntmps15
      go_wp2
      go_ret
      rw [HR.out]
      exact PrsAns.none_of (Below.refl _ _)

set_option maxRecDepth 100000 in
set_option maxHeartbeats 4000000 in
theorem implUniqueProduct_any (v : Value) (xs : List Pr) (p : Pr) (w : World) (hr : Ps w v xs) (_hn : xs.length ≤ 1048576) :
    Calls Try.prog 23 #[v, p.v] w fun e w' => e = .returned (.bool (uniqW prodW xs p)) ∧ Below w.heap.size w w' := by
  have KN := Lib.hid (fun W => newPerson_any 51 W)
  have KK := Lib.hid (fun b W (h : Below w.heap.size w W) => knows_any 51 prodW seesProduct entProduct b v xs p W (hr.below h (Nat.le_refl _)))
  obtain ⟨a, cap, rfl⟩ := hr.form
  clear hr
  generalize uniqW prodW xs p = R at *
  unfold Pr.v at *
  unfold NewP pv fv at KN
  unfold pv fv at KK
  go_enter Try.func23, Try.ntmps23
  go_wp2
  have hb1 : Below w.heap.size w (w.alloc (.cells #[.int .i64 p.a, .int .i64 p.b] 33)) := by go_grown
  have hB : Cm (w.alloc (.cells #[.int .i64 p.a, .int .i64 p.b] 33)) w.heap.size 33 [.int .i64 p.a, .int .i64 p.b] := Cm.new (cs := [.int .i64 p.a, .int .i64 p.b]) rfl
  generalize w.alloc (.cells #[.int .i64 p.a, .int .i64 p.b] 33) = w1 at *
  have B1 := Lib.hid hb1
  have HP := Lib.hid (fun W' (hW : Below w1.heap.size w1 W') => hB.all hW)
  clear hb1 hB
  refine regionL (fun W' => Below w1.heap.size w1 W') [] (by kernel_rfl) (Below.refl _ _).drew (fun hHeld => ?_)
  refine takeA (i := 1) (v := .slice a xs.length cap) 6 rfl rfl (by kernel_rfl) (by kernel_rfl) (by kernel_rfl) (by kernel_rfl) (fun _ _ _ h => h) (Or.inl ⟨by rfl, by intro W hSw; go_simp⟩) hHeld ?_
  simp only [Act.put, List.setIfInBounds_toArray, List.set_cons_zero, List.set_cons_succ]
  refine takeA (i := 2) (v := .agg #[.int .i64 p.a, .int .i64 p.b]) 7 rfl rfl (by kernel_rfl) (by kernel_rfl) (by kernel_rfl) (by kernel_rfl) (fun _ _ _ h => h) (Or.inl ⟨by rfl, by intro W hSw; have c1 := (HP.out _ hSw).cell 1; have c0 := (HP.out _ hSw).cell 0; go_simp⟩) hHeld ?_
  simp only [Act.put, List.setIfInBounds_toArray, List.set_cons_zero, List.set_cons_succ]
  refine onlyL (i := 0) (by kernel_rfl) rfl (by rfl) (fun K hK => ?_)
  go_simp
  refine (KN.out _).mono ?_
  rintro e w3 ⟨b, rfl, hb, hm, hw3⟩
  have t3 : Below w1.heap.size w1 w3 := hHeld.trans (hw3.mono hHeld.size)
  clear hw3 hb hm
  refine hK.out _ _ (fun _ => t3) (fun hHeld => ?_)
  have hHeld := hHeld (by decide)
  clear hK K
  try simp only [Act.put, List.setIfInBounds_toArray, List.set_cons_zero, List.set_cons_succ]
  refine onlyL (i := 3) (by kernel_rfl) rfl (by rfl) (fun K hK => ?_)
  go_simp
  refine (KK.out b _ (B1.out.trans (t3.mono B1.out.size))).mono ?_
  rintro e w4 ⟨rfl, hb4⟩
  have t4 : Below w1.heap.size w1 w4 := t3.trans (hb4.mono t3.size)
  clear hb4
  refine hK.out _ _ (fun _ => t4) (fun hHeld => ?_)
  have hHeld := hHeld (by decide)
  clear hK K
  try simp only [Act.put, List.setIfInBounds_toArray, List.set_cons_zero, List.set_cons_succ]
  refine takeA (i := 4) (v := .bool R) 4 rfl rfl (by kernel_rfl) (by kernel_rfl) (by kernel_rfl) (by kernel_rfl) (fun _ _ _ h => h) (Or.inl ⟨by rfl, by intro W hSw; go_simp⟩) hHeld ?_
  simp only [Act.put, List.setIfInBounds_toArray, List.set_cons_zero, List.set_cons_succ]
  refine doneL (by kernel_rfl) ?_ _
  go_wp2
  go_ret
  exact ⟨rfl, B1.out.trans (t4.mono B1.out.size)⟩

set_option maxRecDepth 100000 in
set_option maxHeartbeats 4000000 in
theorem implUniqueSum_any (v : Value) (xs : List Pr) (p : Pr) (w : World) (hr : Ps w v xs) (_hn : xs.length ≤ 1048576) :
    Calls Try.prog 25 #[v, p.v] w fun e w' => e = .returned (.bool (uniqW sumW xs p)) ∧ Below w.heap.size w w' := by
  have KN := Lib.hid (fun W => newPerson_any 53 W)
  have KK := Lib.hid (fun b W (h : Below w.heap.size w W) => knows_any 53 sumW seesSum entSum b v xs p W (hr.below h (Nat.le_refl _)))
  obtain ⟨a, cap, rfl⟩ := hr.form
  clear hr
  generalize uniqW sumW xs p = R at *
  unfold Pr.v at *
  unfold NewP pv fv at KN
  unfold pv fv at KK
  go_enter Try.func25, Try.ntmps25
  go_wp2
  have hb1 : Below w.heap.size w (w.alloc (.cells #[.int .i64 p.a, .int .i64 p.b] 33)) := by go_grown
  have hB : Cm (w.alloc (.cells #[.int .i64 p.a, .int .i64 p.b] 33)) w.heap.size 33 [.int .i64 p.a, .int .i64 p.b] := Cm.new (cs := [.int .i64 p.a, .int .i64 p.b]) rfl
  generalize w.alloc (.cells #[.int .i64 p.a, .int .i64 p.b] 33) = w1 at *
  have B1 := Lib.hid hb1
  have HP := Lib.hid (fun W' (hW : Below w1.heap.size w1 W') => hB.all hW)
  clear hb1 hB
  refine regionL (fun W' => Below w1.heap.size w1 W') [] (by kernel_rfl) (Below.refl _ _).drew (fun hHeld => ?_)
  refine takeA (i := 1) (v := .slice a xs.length cap) 6 rfl rfl (by kernel_rfl) (by kernel_rfl) (by kernel_rfl) (by kernel_rfl) (fun _ _ _ h => h) (Or.inl ⟨by rfl, by intro W hSw; go_simp⟩) hHeld ?_
  simp only [Act.put, List.setIfInBounds_toArray, List.set_cons_zero, List.set_cons_succ]
  refine takeA (i := 2) (v := .agg #[.int .i64 p.a, .int .i64 p.b]) 7 rfl rfl (by kernel_rfl) (by kernel_rfl) (by kernel_rfl) (by kernel_rfl) (fun _ _ _ h => h) (Or.inl ⟨by rfl, by intro W hSw; have c1 := (HP.out _ hSw).cell 1; have c0 := (HP.out _ hSw).cell 0; go_simp⟩) hHeld ?_
  simp only [Act.put, List.setIfInBounds_toArray, List.set_cons_zero, List.set_cons_succ]
  refine onlyL (i := 0) (by kernel_rfl) rfl (by rfl) (fun K hK => ?_)
  go_simp
  refine (KN.out _).mono ?_
  rintro e w3 ⟨b, rfl, hb, hm, hw3⟩
  have t3 : Below w1.heap.size w1 w3 := hHeld.trans (hw3.mono hHeld.size)
  clear hw3 hb hm
  refine hK.out _ _ (fun _ => t3) (fun hHeld => ?_)
  have hHeld := hHeld (by decide)
  clear hK K
  try simp only [Act.put, List.setIfInBounds_toArray, List.set_cons_zero, List.set_cons_succ]
  refine onlyL (i := 3) (by kernel_rfl) rfl (by rfl) (fun K hK => ?_)
  go_simp
  refine (KK.out b _ (B1.out.trans (t3.mono B1.out.size))).mono ?_
  rintro e w4 ⟨rfl, hb4⟩
  have t4 : Below w1.heap.size w1 w4 := t3.trans (hb4.mono t3.size)
  clear hb4
  refine hK.out _ _ (fun _ => t4) (fun hHeld => ?_)
  have hHeld := hHeld (by decide)
  clear hK K
  try simp only [Act.put, List.setIfInBounds_toArray, List.set_cons_zero, List.set_cons_succ]
  refine takeA (i := 4) (v := .bool R) 4 rfl rfl (by kernel_rfl) (by kernel_rfl) (by kernel_rfl) (by kernel_rfl) (fun _ _ _ h => h) (Or.inl ⟨by rfl, by intro W hSw; go_simp⟩) hHeld ?_
  simp only [Act.put, List.setIfInBounds_toArray, List.set_cons_zero, List.set_cons_succ]
  refine doneL (by kernel_rfl) ?_ _
  go_wp2
  go_ret
  exact ⟨rfl, B1.out.trans (t4.mono B1.out.size)⟩

set_option maxHeartbeats 4000000 in
theorem implNowProduct_any (v : Value) (xs : List Pr) (w : World) (hr : Ps w v xs) (hn : xs.length ≤ 1048576) :
    Calls Try.prog 27 #[v] w (PrsAns w (nowR prodW xs)) := by
  have KN := Lib.hid (fun W => newPerson_any 51 W)
  have KK := Lib.hid (fun b W (h : Below w.heap.size w W) hm => answering_any 51 prodW seesProduct entProduct true b v xs W (hr.below h (Nat.le_refl _)) (fun x _ => wf_wrap _ _) hn hm)
  rw [now_answ]
  obtain ⟨a, cap, rfl⟩ := hr.form
  clear hr hn
  generalize answK prodW true xs = R at *
  unfold NewP pv fv at KN
  unfold AnP pv fv at KK
  go_enter Try.func27, Try.ntmps27
  go_wp2_with fail
  refine (KN.out _).mono ?_
  rintro e w3 ⟨b, rfl, hb, hm, hw3⟩
  have B3 := Lib.hid hw3
  have M3 := Lib.hid hm
  clear hw3 hm
  go_wp2_with fail
  refine (KK.out b _ B3.out M3.out).mono ?_
  rintro e w4 ⟨v4, rfl, ho4, hm4, hg4⟩
  have O4 := Lib.hid (ownB ho4 B3.out.size)
  have B4 : Hid (Below w.heap.size w w4) := Lib.hid (B3.out.trans ((But.of_grown hg4 B3.out.size (fun k e => .inl (by injection e with e; exact e.symm))).below hb))
  clear ho4 hm4 hg4
  go_wp2
  go_ret
  exact ⟨_, rfl, O4.out, B4.out⟩

set_option maxHeartbeats 4000000 in
theorem implNowSum_any (v : Value) (xs : List Pr) (w : World) (hr : Ps w v xs) (hn : xs.length ≤ 1048576) :
    Calls Try.prog 29 #[v] w (PrsAns w (nowR sumW xs)) := by
  have KN := Lib.hid (fun W => newPerson_any 53 W)
  have KK := Lib.hid (fun b W (h : Below w.heap.size w W) hm => answering_any 53 sumW seesSum entSum true b v xs W (hr.below h (Nat.le_refl _)) (fun x _ => wf_wrap _ _) hn hm)
  rw [now_answ]
  obtain ⟨a, cap, rfl⟩ := hr.form
  clear hr hn
  generalize answK sumW true xs = R at *
  unfold NewP pv fv at KN
  unfold AnP pv fv at KK
  go_enter Try.func29, Try.ntmps29
  go_wp2_with fail
  refine (KN.out _).mono ?_
  rintro e w3 ⟨b, rfl, hb, hm, hw3⟩
  have B3 := Lib.hid hw3
  have M3 := Lib.hid hm
  clear hw3 hm
  go_wp2_with fail
  refine (KK.out b _ B3.out M3.out).mono ?_
  rintro e w4 ⟨v4, rfl, ho4, hm4, hg4⟩
  have O4 := Lib.hid (ownB ho4 B3.out.size)
  have B4 : Hid (Below w.heap.size w w4) := Lib.hid (B3.out.trans ((But.of_grown hg4 B3.out.size (fun k e => .inl (by injection e with e; exact e.symm))).below hb))
  clear ho4 hm4 hg4
  go_wp2
  go_ret
  exact ⟨_, rfl, O4.out, B4.out⟩
end Go.Proofs.Ytmcjimmebbkjcaa
