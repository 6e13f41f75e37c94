/-
  slices.Collect over the iterator of a set of worlds. No condition but that its box holds the set.
-/
import Derived.Test.YtgmpenchojnihaaGreatEac
namespace Go.Proofs.YtgmpenchojnihaaGreat
open Go.RowKit Go.WideShapes Go.Shelf
open Go Go.Deep
set_option linter.unusedSimpArgs false
attribute [local go_sem] Oper.semAt_some

/-- the numbers of worlds that have come -/
def valsI (pre : List (Fin 16)) : List Value := pre.map fun x => Value.int .i64 ((x.val : Nat) : Int)
theorem valsI_len (pre : List (Fin 16)) : (valsI pre).length = pre.length := by simp [valsI]
theorem valsI_app (pre : List (Fin 16)) (x : Fin 16) : valsI (pre ++ [x]) = valsI pre ++ [.int .i64 ((x.val : Nat) : Int)] := by simp [valsI]
theorem valsI_ints {pre : List (Fin 16)} {l : List Nat} (h : pre.map Fin.val = l) : valsI pre = ints (nums l) := by
  subst h
  unfold valsI ints nums
  rw [List.map_map, List.map_map]; rfl

set_option maxRecDepth 100000 in
set_option maxHeartbeats 16000000 in
theorem append_any (Bn : Nat) (p : Nat → Bool) (w : World) (hc : Cm w Bn 106 (bL p)) :
    Calls Tryz.prog 85 #[.slice none 0 0, .func (.func 112) #[] #[.pointer (some ⟨Bn, 0, none⟩)]] w (IntsAns w (nums (lst p 16))) := by
  obtain ⟨i0, hi, hz0, hz1, hz2⟩ := info_parts Tryz.infoI
  refine (callsIn_wide (n := 3)).1 ?_
  refine callsIn_of_wp_marks Tryz.func85 rfl trivial ?_ rfl
  simp only [Tryz.ntmps85, List.size_toArray, List.length_cons, List.length_nil, Nat.reduceAdd, Nat.reduceSub, Array.replicate_succ, Array.replicate_zero, List.push_toArray, List.append_toArray, List.nil_append, List.cons_append]
  gi_wp2
  have bO := Boxed.new w 22 (.slice none 0 0)
  have hB0 : Below w.heap.size w (w.alloc (.cells #[.slice none 0 0] 22)) := (Below.refl _ w).alloc (Nat.le_refl _) _
  have hC0 : Cm (w.alloc (.cells #[.slice none 0 0] 22)) Bn 106 (bL p) := hc.alloc _
  refine wpIn_rangeFunc_ownG rfl (by omega) (gf := 112) (lb := #[.pointer (some ⟨Bn, 0, none⟩)]) rfl trivial (enters_of Tryz.func112 (by kernel_rfl) rfl)
    (each_stops 2 (by omega) Bn p (fun _ _ => True) _ hC0) (fun _ _ => trivial) (fun _ _ _ _ _ _ _ _ => trivial) (Below.refl _ _) (fun _ => rfl)
    (fun pre W => (∃ v, Boxed W w.heap.size 22 v ∧ W.ownsRow w.heap.size 3 1 v (valsI pre).length (valsI pre) ∧ True) ∧ Below w.heap.size w W)
    (fun _ _ _ => False)
    (OwnFrom.and (Own.from (holdsRow_own w.heap.size w.heap.size 22 3 1 (fun pre => (valsI pre).length) (fun pre => valsI pre) (fun pre v => True)) _) (ownFrom_below (Nat.le_refl _) (by simp)))
    (fun _ _ _ _ _ hs _ _ => hs)
    ⟨⟨_, bO, World.ownsRow_nil _ _ _ _, trivial⟩, hB0⟩
    (fun x => { tmps := #[.slice none 0 0, .func (.func 112) #[] #[.pointer (some ⟨Bn, 0, none⟩)], .pointer (some ⟨w.heap.size, 0, none⟩), undef, .slice none 0 0, .int .i64 ((x.val : Nat) : Int), .func (.func 112) #[] #[.pointer (some ⟨Bn, 0, none⟩)], .int .i64 ((x.val : Nat) : Int), undef, undef, undef, undef, undef], defers := [] }) ?assign ?body ?done ?stop
  case assign =>
    intro l x W K hK
    gi_wp2
    exact hK
  case body =>
    rintro l pre x W ⟨⟨v, hv, hrow, -⟩, hB⟩ hlt
    have hc := hv.cell
    have hpl : (valsI pre).length < 16 := by rw [valsI_len]; exact hlt
    gi_wp2_with (gi_at_builtin; refine wpListIn_append_own _ rfl _ _ 22 rfl w.heap.size 3 i0 (.int .i64 0) 1 8 Tryz.underlying22 hi hz0 hz1 hz2 rfl (by decide) _ _ _ rfl (hrow.alloc _) ⟨W.heap.size, 0, none⟩ 1 1 [.int .i64 ((x.val : Nat) : Int)] rfl rfl (cell_one_new _ _ _) (by simp [Value.oneCell']) (by unfold maxLen; omega) (by omega) (by have := hB.size; simp; omega) ?_; intro v' w1 hown' hgrow _; obtain ⟨g', cap', rfl⟩ := ownsRow_succ hown'; obtain ⟨hv1, hv2, hr2, hk2, hb2⟩ := hv.appended (by decide) hrow hB.size (Nat.le_refl _) hown' hgrow; have hc1 := hv1.cell; have hf1 := hv1.frozen)
    exact ⟨hk2.from _, trivial, ⟨_, hv2, by rw [valsI_app]; simpa using hr2, trivial⟩, hB.trans hb2⟩
  case done =>
    rintro D ys W hD hys ⟨⟨v, hv, hrow, -⟩, hB⟩ hK
    have hc := hv.cell
    rw [valsI_ints hys] at hrow
    gi_wp2
    refine ⟨by simp, .inl ⟨_, _, rfl, run_takeDeferred hK, ?_⟩⟩
    exact ⟨_, results_tmp rfl _ _ _, v, rfl, Ro.of_own (ownsRow_putObj hrow _ hK rfl), hB.trans (belowK_b (w := w) (Nat.le_refl _) W D _ _ (by simp at hD; omega) hK rfl rfl)⟩
  case stop =>
    rintro D c pre W _ _ h _
    exact h.elim

theorem collect_any (Bn : Nat) (p : Nat → Bool) (w : World) (hc : Cm w Bn 106 (bL p)) :
    Calls Tryz.prog 52 #[.func (.func 112) #[] #[.pointer (some ⟨Bn, 0, none⟩)]] w (IntsAns w (nums (lst p 16))) := by
  have KA := Lib.hid (append_any Bn p w hc)
  clear hc
  generalize nums (lst p 16) = l at *
  go_enter Tryz.func52, Tryz.ntmps52
  go_wp2_with fail
  refine KA.out.mono ?_
  rintro e w1 ⟨v1, rfl, ho, hb⟩
  have HO := Lib.hid ho
  have HB := Lib.hid hb
  clear ho hb
  go_wp2
  go_ret
  exact ⟨v1, rfl, HO.out, HB.out⟩
end Go.Proofs.YtgmpenchojnihaaGreat
