/-
  impl.WorldsLeft: the number of the worlds that stay. No condition but the readings.
-/
import Derived.Test.YtodjohdbngbpaaaZAnn
namespace Go.Proofs.Ytodjohdbngbpaaa
open Go.RowKit Go.WideShapes Go.Shelf
open Go Go.Deep
set_option linter.unusedSimpArgs false
attribute [local go_sem] Oper.semAt_some

theorem cm_ownF {β : Type} (B : Nat) (t : TypeId) (f : β → List Value) : Own (fun s W => Cm W B t (f s)) := fun s X Y row hs hg hrow =>
  hs.of_block (hg.block B hs.lt (fun e' => by obtain ⟨o, ho, hc⟩ := hrow B e'.symm; rw [show X.heap[B]? = _ from hs] at ho; cases ho; cases hc))
/-- how many worlds stay -/
def leftR (m : Md) (xs : List Nd) : Nat := (lst (stayP m xs) 16).length
theorem leftR_le (m : Md) (xs : List Nd) : leftR m xs ≤ 16 := lst_len _ _

set_option maxRecDepth 100000 in
set_option maxHeartbeats 16000000 in
theorem implLeft_any (lo hi : Nat) (v v2 : Value) (m : Md) (xs : List Nd) (w : World) (hr : Mv lo hi w v m) (hhi : hi ≤ w.heap.size) (hr2 : Ns w v2 xs) :
    Calls Try.prog 26 #[v, v2] w fun e w' => e = .returned (.int .i64 (leftR m xs)) ∧ Below w.heap.size w w' := by
  have KS := Lib.hid (fun W (h : Below w.heap.size w W) => staying_any lo hi v v2 m xs W (hr.keeps (Keeps.of_all h)) (Nat.le_trans hhi h.size) (hr2.below h (Nat.le_refl _)))
  unfold leftR
  generalize stayP m xs = p at *
  obtain ⟨fv, bv, rfl, hf, hb⟩ := hr
  obtain ⟨a2, c2, rfl, -⟩ := hr2.parts
  clear hf hb hr2
  refine (callsIn_wide (n := 3)).1 ?_
  refine callsIn_of_wp_marks Try.func26 rfl trivial ?_ rfl
  simp only [Try.ntmps26, List.size_toArray, List.length_cons, List.length_nil, Nat.reduceAdd, Nat.reduceSub, Array.replicate_succ, Array.replicate_zero, List.push_toArray, List.append_toArray, List.nil_append, List.cons_append]
  refine wpIn_wide.2 ?_
  go_wp2_with fail
  have X1 := Boxed.new (w.alloc (.cells #[fv, bv, .int .i64 m.actual] 27)) 3 (.int .i64 0)
  rw [World.size_alloc] at X1
  refine (KS.out _ (by go_grown)).mono ?_
  rintro e w1 ⟨Bn, rfl, hBn, hcm, hb1⟩
  have X1 : Boxed w1 (w.heap.size + 1) 3 (.int .i64 0) := (hb1.block _ X1.lt).trans X1
  have B1 : Hid (Below w.heap.size w w1) := Lib.hid (Below.trans (by go_grown) (hb1.mono (by simp; omega)))
  have HX := Lib.hid X1
  have HC := Lib.hid hcm
  have lt1 : w.heap.size + 1 < w1.heap.size := X1.lt
  clear hb1 hcm hBn X1
  go_wp2
  refine (wpIn_wide (n := 3)).1 ?_
  refine wpIn_rangeFunc_ownF rfl (by omega) (gf := 93) (lb := #[.pointer (some ⟨Bn, 0, none⟩)]) rfl trivial (enters_of Try.func93 (by kernel_rfl) rfl)
    (each_stops 2 (by omega) Bn p (fun _ _ => True) w1 HC.out) (fun _ _ => trivial) (fun _ _ _ _ _ _ _ _ => trivial) (Below.refl _ _) (fun _ => rfl)
    (fun pre W => Boxed W (w.heap.size + 1) 3 (.int .i64 (pre.length : Nat)) ∧ Below w.heap.size w W)
    (fun _ _ _ => False)
    (OwnFrom.and (Own.from (boxed_own _ _ _) _) (ownFrom_below (Nat.le_refl _) (by omega)))
    (fun _ _ _ _ _ hs _ _ => hs)
    ⟨HX.out, B1.out⟩
    (fun x => { tmps := #[.agg #[fv, bv, .int .i64 m.actual], .slice a2 xs.length c2, .pointer (some ⟨w.heap.size, 0, none⟩), undef, .int .i64 0, .pointer (some ⟨w.heap.size + 1, 0, none⟩), .agg #[fv, bv, .int .i64 m.actual], .slice a2 xs.length c2, .func (.func 93) #[] #[.pointer (some ⟨Bn, 0, none⟩)], .int .i64 ((x.val : Nat) : Int), undef, undef, undef], defers := [] }) ?assign ?body ?done ?stop
  case assign =>
    intro l x W K hK
    gi_wp2
    simpa using hK
  case body =>
    rintro l pre x W ⟨hx, hB⟩ hlt
    have hc := hx.cell
    have hf := hx.frozen
    have h0 : (0 : Int) ≤ ((pre.length : Nat) : Int) := Int.natCast_nonneg _
    have h16 : ((pre.length : Nat) : Int) < 16 := by omega
    gi_wp2
    refine ⟨KeepsOthers.setCell _ _ _, trivial, ?_, hB.setCell (p := ⟨w.heap.size + 1, 0, none⟩) (by simp) _⟩
    have h1 := Boxed.set (.int .i64 (((pre.length : Nat) : Int) + 1)) hx
    rw [List.length_append]
    exact h1
  case done =>
    rintro D ys W hD hys ⟨hx, hB⟩ hK
    have hl : ys.length = (lst p 16).length := by rw [← hys, List.length_map]
    rw [hl] at hx
    have hc := hx.cell
    clear hys hl
    go_wp2
    refine ⟨by simp, .inl ⟨_, _, rfl, run_takeDeferred hK, ?_⟩⟩
    exact ⟨_, results_tmp rfl _ _ _, rfl, hB.trans (belowK_b (w := w1) (by omega) W D _ _ hD hK rfl rfl)⟩
  case stop =>
    rintro D c pre W _ _ h _
    exact h.elim
end Go.Proofs.Ytodjohdbngbpaaa
