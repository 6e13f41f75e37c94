/-
  impl.firstMissing: the first world of a set whose class no world of another set has. Condition: the other set is not empty.
-/
import Derived.Test.YtnpfnfenkklocaaGreatDoorCtf
import Derived.Test.YtnpfnfenkklocaaGreatDoorZKey
import Derived.RangeFuncNested
namespace Go.Proofs.YtnpfnfenkklocaaGreatDoor
open Go.RowKit Go.WideShapes Go.Shelf
open Go Go.Deep
set_option linter.unusedSimpArgs false
attribute [local go_sem] Oper.semAt_some

/-- a world whose class no world of the set q has -/
def missP (q : Nat → Bool) (c : Nat → Int) : Nat → Bool := fun z => !(lst q 16).any fun i => c i == c z
def lastF (pre : List (Fin 16)) : Nat := (pre.getLast?.map Fin.val).getD 0
theorem lastF_app (pre : List (Fin 16)) (x : Fin 16) : lastF (pre ++ [x]) = x.val := by unfold lastF; simp
theorem keepsFrom_below {B : Nat} {W W' : World} (h : Below W.heap.size W W') : KeepsFrom B W W' := ⟨h.size, fun i _ _ hi _ => (h.block i (Array.getElem?_eq_some_iff.1 hi).1).trans hi⟩
theorem find_none16 {L : List Nat} {P : Nat → Bool} {ys : List (Fin 16)} (h : ys.map Fin.val = L) (hp : ∀ y ∈ ys, P y.val = false) : L.find? P = none := by
  rw [← h, List.find?_eq_none]
  intro i hi
  obtain ⟨y, hy, rfl⟩ := List.mem_map.1 hi
  rw [hp y hy]; decide
theorem find_some16 {p : Nat → Bool} {P : Nat → Bool} {k : Nat} (hk : k ≤ 16) {pre : List (Fin 16)} {y : Fin 16} (h : (pre ++ [y]).map Fin.val = lst p k) (hp : ∀ z ∈ pre, P z.val = false) (hy : P y.val = true) : (lst p 16).find? P = some y.val := by
  obtain ⟨r, hr⟩ := lst_pre p k (16 - k)
  rw [show k + (16 - k) = 16 by omega] at hr
  rw [hr, ← h, List.map_append, List.append_assoc, List.find?_append, find_none16 rfl hp]
  simp [hy]

set_option maxRecDepth 100000 in
set_option maxHeartbeats 32000000 in
theorem firstMissing_any (p q : Nat → Bool) (c : Nat → Int) (hq : ∃ i, i < 16 ∧ q i = true) (w : World) :
    Calls Tryz.prog 69 #[.agg (bL p).toArray, .agg (bL q).toArray, .agg (ints (rowF c)).toArray] w
      fun e w' => e = .returned (.tuple #[.int .i64 ((((lst p 16).find? (missP q c)).getD 0 : Nat) : Int), .bool ((lst p 16).find? (missP q c)).isSome]) ∧ Below w.heap.size w w' := by
  have hpos : 0 < (lst q 16).length := by
    obtain ⟨i, hi, h⟩ := hq
    exact List.length_pos_of_mem (mem_lst.2 ⟨hi, h⟩)
  have KL := Lib.hid (fun W => setList_any q W)
  have KC := Lib.hid (fun W v lo hi b5 b8 x (hx : x < 16) (hv : Iv lo hi W v (nums (lst q 16))) (h5 : Cm W b5 56 (ints (rowF c))) (h8 : Cm W b8 3 [.int .i64 ((x : Nat) : Int)]) => containsF_any lo hi v (lst q 16) 97 _ 16 _ W hv hpos (fun z hz => (mem_lst.1 hz).1) (same_test W b5 b8 c x hx h5 h8))
  have HP : Hid (∀ x, missP q c x = !(lst q 16).any fun i => c i == c x) := Lib.hid (fun x => rfl)
  have HN := Lib.hid (fun ys h hp => find_none16 (L := lst p 16) (P := missP q c) (ys := ys) h hp)
  have HS := Lib.hid (fun k hk pre y h hp hy => find_some16 (p := p) (P := missP q c) (k := k) hk (pre := pre) (y := y) h hp hy)
  unfold IntsAns at KL
  generalize (lst p 16).find? (missP q c) = R at *
  generalize missP q c = P at *
  have HLV : Hid ((ints (rowF c)).length = 16) := Lib.hid (by rw [ints_len, rowF_len])
  generalize ints (rowF c) = V at *
  generalize lst q 16 = LQ at *
  clear hpos hq
  refine (callsIn_wide (n := 3)).1 ?_
  refine callsIn_of_wp_marks Tryz.func69 rfl trivial ?_ rfl
  simp only [Tryz.ntmps69, List.size_toArray, List.length_cons, List.length_nil, Nat.reduceAdd, Nat.reduceSub, Array.replicate_succ, Array.replicate_zero, List.push_toArray, List.append_toArray, List.nil_append, List.cons_append]
  refine wpIn_wide.2 ?_
  have s0 : Cm (((((w.alloc (.cells (bL p).toArray 79)).alloc (.cells (bL q).toArray 79)).alloc (.cells V.toArray 56)).alloc (.cells #[.int .i64 0] 3)).alloc (.cells #[.bool false] 4)) w.heap.size 79 (bL p) := ((((Cm.new rfl).alloc _).alloc _).alloc _).alloc _
  have q0 : Cm (((((w.alloc (.cells (bL p).toArray 79)).alloc (.cells (bL q).toArray 79)).alloc (.cells V.toArray 56)).alloc (.cells #[.int .i64 0] 3)).alloc (.cells #[.bool false] 4)) (w.heap.size + 1) 79 (bL q) := (((Cm.new (by simp)).alloc _).alloc _).alloc _
  have v0 : Cm (((((w.alloc (.cells (bL p).toArray 79)).alloc (.cells (bL q).toArray 79)).alloc (.cells V.toArray 56)).alloc (.cells #[.int .i64 0] 3)).alloc (.cells #[.bool false] 4)) (w.heap.size + 1 + 1) 56 V := ((Cm.new (by simp)).alloc _).alloc _
  have i0 : Cm (((((w.alloc (.cells (bL p).toArray 79)).alloc (.cells (bL q).toArray 79)).alloc (.cells V.toArray 56)).alloc (.cells #[.int .i64 0] 3)).alloc (.cells #[.bool false] 4)) (w.heap.size + 1 + 1 + 1) 3 [.int .i64 0] := (Cm.new (by simp)).alloc _
  have o0 : Cm (((((w.alloc (.cells (bL p).toArray 79)).alloc (.cells (bL q).toArray 79)).alloc (.cells V.toArray 56)).alloc (.cells #[.int .i64 0] 3)).alloc (.cells #[.bool false] 4)) (w.heap.size + 1 + 1 + 1 + 1) 4 [.bool false] := Cm.new (by simp)
  have b0 : Below w.heap.size w (((((w.alloc (.cells (bL p).toArray 79)).alloc (.cells (bL q).toArray 79)).alloc (.cells V.toArray 56)).alloc (.cells #[.int .i64 0] 3)).alloc (.cells #[.bool false] 4)) := by go_grown
  have S0 := Lib.hid s0
  have Q0 := Lib.hid q0
  have V0 := Lib.hid v0
  have I0 := Lib.hid i0
  have O0 := Lib.hid o0
  have B0 := Lib.hid b0
  clear s0 q0 v0 i0 o0 b0
  have tk1 : True := trivial
  have tk2 : True := trivial
  go_wp2_with
    (first
      | (have _t := tk1; clear _t tk1; refine wpList_loadM rfl 79 _ rfl w.heap.size 0 rfl 79 (bL p) (bL p) S0.out (fun j _ => by rw [Nat.zero_add]) _ Tryz.underlying79 rfl (by rw [bL_len]; exact Tryz.sizeSet) ?_
         generalize (((((w.alloc (.cells (bL p).toArray 79)).alloc (.cells (bL q).toArray 79)).alloc (.cells V.toArray 56)).alloc (.cells #[.int .i64 0] 3)).alloc (.cells #[.bool false] 4)) = w5 at *)
      | (have _t := tk2; clear _t tk2; go_at_call 96; (with_reducible refine (each_any p _).mono ?_); rintro e w4 ⟨rfl, rfl⟩))
  have X6 := Lib.hid (Cm.new (w := w5) (T := 79) (cs := bL p) rfl)
  have Q6 := Lib.hid (Q0.out.alloc (.cells (bL p).toArray 79))
  have V6 := Lib.hid (V0.out.alloc (.cells (bL p).toArray 79))
  have I6 := Lib.hid (I0.out.alloc (.cells (bL p).toArray 79))
  have O6 := Lib.hid (O0.out.alloc (.cells (bL p).toArray 79))
  have B6 := Lib.hid (B0.out.alloc B0.out.size (.cells (bL p).toArray 79))
  have lt5 : w.heap.size + 1 + 1 + 1 + 1 < w5.heap.size := O0.out.lt
  have lt6 : w5.heap.size < (w5.alloc (.cells (bL p).toArray 79)).heap.size := X6.out.lt
  generalize w5.alloc (.cells (bL p).toArray 79) = w6 at *
  clear S0 Q0 V0 I0 O0 B0
  refine (wpIn_wide (n := 3)).1 ?_
  refine wpIn_rangeFunc_ownH rfl (by omega) (gf := 109) (lb := #[.pointer (some ⟨w5.heap.size, 0, none⟩)]) rfl trivial (enters_of Tryz.func109 (by kernel_rfl) rfl)
    (each_stops 2 (by omega) w5.heap.size p (fun _ _ => True) w6 X6.out) (fun _ _ => trivial) (fun _ _ _ _ _ _ _ _ => trivial) (Below.refl _ _) (fun _ => rfl)
    (fun pre W => (∀ y ∈ pre, P y.val = false) ∧ Cm W (w.heap.size + 1) 79 (bL q) ∧ Cm W (w.heap.size + 1 + 1) 56 V ∧ Cm W (w.heap.size + 1 + 1 + 1) 3 [.int .i64 0] ∧ Cm W (w.heap.size + 1 + 1 + 1 + 1) 4 [.bool false] ∧ Below w.heap.size w W ∧ w6.heap.size ≤ W.heap.size)
    (fun cd pre W => (cd = .ret ∧ ∃ pre' y, pre = pre' ++ [y] ∧ (∀ z ∈ pre', P z.val = false) ∧ P y.val = true) ∧ Cm W (w.heap.size + 1 + 1 + 1) 3 [.int .i64 ((lastF pre : Nat) : Int)] ∧ Cm W (w.heap.size + 1 + 1 + 1 + 1) 4 [.bool true] ∧ Below w.heap.size w W)
    (OwnFrom.and (ownFrom_pure _ _) (OwnFrom.and (Own.from (cm_ownG _ _ (fun _ => bL q)) _) (OwnFrom.and (Own.from (cm_ownG _ _ (fun _ => V)) _) (OwnFrom.and (Own.from (cm_ownG _ _ (fun _ => [.int .i64 0])) _) (OwnFrom.and (Own.from (cm_ownG _ _ (fun _ => [.bool false])) _) (OwnFrom.and (ownFrom_below (Nat.le_refl _) (by omega)) (fun _ _ _ _ hs hg _ => Nat.le_trans hs hg.size)))))))
    (fun _ => OwnFrom.and (ownFrom_pure _ _) (OwnFrom.and (Own.from (cm_ownG _ _ (fun pre => [.int .i64 ((lastF pre : Nat) : Int)])) _) (OwnFrom.and (Own.from (cm_ownG _ _ (fun _ => [.bool true])) _) (ownFrom_below (Nat.le_refl _) (by omega)))))
    ⟨(fun y hy => by cases hy), Q6.out, V6.out, I6.out, O6.out, B6.out, Nat.le_refl _⟩
    (fun x a' W => ∃ Bx, w6.heap.size ≤ Bx ∧ Cm W Bx 3 [.int .i64 ((x.val : Nat) : Int)] ∧ a' = { tmps := #[.agg (bL p).toArray, .agg (bL q).toArray, .agg V.toArray, .pointer (some ⟨w.heap.size, 0, none⟩), .pointer (some ⟨w.heap.size + 1, 0, none⟩), .pointer (some ⟨w.heap.size + 1 + 1, 0, none⟩), .pointer (some ⟨w.heap.size + 1 + 1 + 1, 0, none⟩), .pointer (some ⟨w.heap.size + 1 + 1 + 1 + 1, 0, none⟩), .pointer (some ⟨Bx, 0, none⟩), undef, .agg (bL p).toArray, .func (.func 109) #[] #[.pointer (some ⟨w5.heap.size, 0, none⟩)], .int .i64 ((x.val : Nat) : Int), undef, undef, undef, undef, undef, undef, undef], defers := [] })
    (fun x a' _ X Y row hs hg hr => by obtain ⟨Bx, e1, e2, e3⟩ := hs; exact ⟨Bx, e1, cm_ownG Bx 3 (fun (_ : Unit) => [Value.int .i64 ((x.val : Nat) : Int)]) () X Y row e2 hg (fun r e => (hr r e).2), e3⟩)
    ?assign ?body ?done ?stop
  case assign =>
    rintro l pre x W K ⟨hp, hq, hv, hi, ho, hB, hs⟩ hK
    gi_wp2
    exact hK _ _ ((KeepsOthers.alloc _ _).from _) trivial ⟨hp, hq.alloc _, hv.alloc _, hi.alloc _, ho.alloc _, hB.alloc hB.size _, by simp; omega⟩ ⟨W.heap.size, hs, Cm.new rfl, rfl⟩
  case body =>
    rintro l pre x a' W hl ⟨r, hr⟩ ⟨hp, hq, hv, hi, ho, hB, hs⟩ ⟨Bx, hBx, bX, rfl⟩ hlt
    have KCx := Lib.hid (fun W v lo hi hv h5 h8 => KC.out W v lo hi (w.heap.size + 1 + 1) Bx x.val x.isLt hv h5 h8)
    have HPx := Lib.hid (HP.out x.val)
    generalize (LQ.any fun i => c i == c x.val) = b at KCx HPx
    have HQ := Lib.hid hq
    have HV := Lib.hid hv
    have HI := Lib.hid hi
    have HO := Lib.hid ho
    have HB := Lib.hid hB
    have HX := Lib.hid bX
    have HPR := Lib.hid hp
    have hmf : ∀ (fn : Fn) (first cap : Array Value) (w : World), (Instr.makeFunc fn first cap).run Tryz.prog w = .ok (.func fn first cap) w := fun _ _ _ _ => rfl
    clear hq hv hi ho hB bX hp KC HP
    cases b with
    | true =>
      gi_wp2_with
        (first
          | (refine wpListIn_loadM (fun _ => trivial) rfl rfl 79 (.tmp 4) rfl (w.heap.size + 1) 0 rfl 79 (bL q) (bL q) HQ.out (fun j _ => by rw [Nat.zero_add]) _ Tryz.underlying79 rfl (by rw [bL_len]; exact Tryz.sizeSet) ?_)
          | (refine ⟨trivial, ?_⟩; gi_at_call 46; refine (CallsIn.inRound l (callsIn_wide.2 (KL.out W))).mono ?_; rintro e w7 ⟨v7, rfl, ho7, hb7⟩; have L7 := Lib.hid ho7.read; have V7 := Lib.hid (HV.out.all hb7); have I7 := Lib.hid (HI.out.all hb7); have O7 := Lib.hid (HO.out.all hb7); have Q7 := Lib.hid (HQ.out.all hb7); have X7 := Lib.hid (HX.out.all hb7); have T7 := Lib.hid hb7; obtain ⟨va7, vc7, e7⟩ := ho7.form; subst e7; clear ho7 hb7)
          | (refine ⟨trivial, ?_⟩; gi_at_call 98; refine (CallsIn.inRound l (callsIn_wide.2 (KCx.out w7 _ _ _ L7.out V7.out X7.out))).mono ?_; rintro e w8 ⟨rfl, hb8⟩; have V8 := Lib.hid (V7.out.all hb8); have I8 := Lib.hid (I7.out.all hb8); have O8 := Lib.hid (O7.out.all hb8); have Q8 := Lib.hid (Q7.out.all hb8); have T8 := Lib.hid (T7.out.trans (hb8.mono T7.out.size)); have X8 := Lib.hid (X7.out.all hb8); have x8 := X8.out.cell 0; have i8 := I8.out.cell 0; have o8 := O8.out.cell 0; have j8 := I8.out.frozen 0; have k8 := O8.out.frozen 0; clear hb8))
      clear x8 i8 o8 j8 k8
      exact ⟨keepsFrom_below T8.out, trivial, (fun y hy => (List.mem_append.1 hy).elim (HPR.out y) (fun e => by rw [List.mem_singleton] at e; subst e; rw [HPx.out]; rfl)), Q8.out, V8.out, I8.out, O8.out, HB.out.trans (T8.out.mono HB.out.size), Nat.le_trans hs T8.out.size⟩
    | false =>
      gi_wp2_with
        (first
          | (refine wpListIn_loadM (fun _ => trivial) rfl rfl 79 (.tmp 4) rfl (w.heap.size + 1) 0 rfl 79 (bL q) (bL q) HQ.out (fun j _ => by rw [Nat.zero_add]) _ Tryz.underlying79 rfl (by rw [bL_len]; exact Tryz.sizeSet) ?_)
          | (refine ⟨trivial, ?_⟩; gi_at_call 46; refine (CallsIn.inRound l (callsIn_wide.2 (KL.out W))).mono ?_; rintro e w7 ⟨v7, rfl, ho7, hb7⟩; have L7 := Lib.hid ho7.read; have V7 := Lib.hid (HV.out.all hb7); have I7 := Lib.hid (HI.out.all hb7); have O7 := Lib.hid (HO.out.all hb7); have Q7 := Lib.hid (HQ.out.all hb7); have X7 := Lib.hid (HX.out.all hb7); have T7 := Lib.hid hb7; obtain ⟨va7, vc7, e7⟩ := ho7.form; subst e7; clear ho7 hb7)
          | (refine ⟨trivial, ?_⟩; gi_at_call 98; refine (CallsIn.inRound l (callsIn_wide.2 (KCx.out w7 _ _ _ L7.out V7.out X7.out))).mono ?_; rintro e w8 ⟨rfl, hb8⟩; have V8 := Lib.hid (V7.out.all hb8); have I8 := Lib.hid (I7.out.all hb8); have O8 := Lib.hid (O7.out.all hb8); have Q8 := Lib.hid (Q7.out.all hb8); have T8 := Lib.hid (T7.out.trans (hb8.mono T7.out.size)); have X8 := Lib.hid (X7.out.all hb8); have x8 := X8.out.cell 0; have i8 := I8.out.cell 0; have o8 := O8.out.cell 0; have j8 := I8.out.frozen 0; have k8 := O8.out.frozen 0; clear hb8))
      clear x8 i8 o8 j8 k8
      have I9 := (I8.out.set 0 (.int .i64 ((x.val : Nat) : Int))).other (b' := w.heap.size + 1 + 1 + 1 + 1) (by omega) 0 (.bool true)
      have O9 := (O8.out.other (b' := w.heap.size + 1 + 1 + 1) (by omega) 0 (.int .i64 ((x.val : Nat) : Int))).set 0 (.bool true)
      refine ⟨(keepsFrom_below T8.out).trans (((KeepsOthers.setCell _ _ _).trans (KeepsOthers.setCell _ _ _)).from _), ⟨rfl, pre, x, rfl, HPR.out, by rw [HPx.out]; rfl⟩, ?_, O9, ((HB.out.trans (T8.out.mono HB.out.size)).setCell (p := ⟨w.heap.size + 1 + 1 + 1, 0, none⟩) (by show _ ≤ w.heap.size + 1 + 1 + 1; omega) _).setCell (p := ⟨w.heap.size + 1 + 1 + 1 + 1, 0, none⟩) (by show _ ≤ w.heap.size + 1 + 1 + 1 + 1; omega) _⟩
      rw [lastF_app]
      exact I9
  case done =>
    rintro D ys W hD hys ⟨hp, hq, hv, hi, ho, hB, hs⟩ hK
    have HR := Lib.hid (HN.out ys hys hp)
    have i8 := hi.cell 0
    have j8 := hi.frozen 0
    have o8 := ho.cell 0
    have k8 := ho.frozen 0
    have HK' : Hid (((W.setCell ⟨w.heap.size + 1 + 1 + 1, 0, none⟩ (.int .i64 0)).setCell ⟨w.heap.size + 1 + 1 + 1 + 1, 0, none⟩ (.bool false)).heap[D]? = some (.deferred (some []))) := Lib.hid (((KeepsOthers.setCell W ⟨w.heap.size + 1 + 1 + 1, 0, none⟩ (.int .i64 0)).trans (KeepsOthers.setCell _ ⟨w.heap.size + 1 + 1 + 1 + 1, 0, none⟩ (.bool false))).same D _ hK rfl)
    have I9 := Lib.hid ((hi.set 0 (.int .i64 0)).other (b' := w.heap.size + 1 + 1 + 1 + 1) (by omega) 0 (.bool false))
    have O9 := Lib.hid ((ho.other (b' := w.heap.size + 1 + 1 + 1) (by omega) 0 (.int .i64 0)).set 0 (.bool false))
    have B9 : Hid (Below w.heap.size w ((W.setCell ⟨w.heap.size + 1 + 1 + 1, 0, none⟩ (.int .i64 0)).setCell ⟨w.heap.size + 1 + 1 + 1 + 1, 0, none⟩ (.bool false))) := Lib.hid ((hB.setCell (p := ⟨w.heap.size + 1 + 1 + 1, 0, none⟩) (by show _ ≤ w.heap.size + 1 + 1 + 1; omega) _).setCell (p := ⟨w.heap.size + 1 + 1 + 1 + 1, 0, none⟩) (by show _ ≤ w.heap.size + 1 + 1 + 1 + 1; omega) _)
    clear hys hp hq hv hi ho hB hK KL KC HP HN HS
    go_wp2
    have hK' := HK'.out
    refine ⟨by simp, .inl ⟨_, _, rfl, run_takeDeferred hK', ?_⟩⟩
    have c1 : (((W.setCell ⟨w.heap.size + 1 + 1 + 1, 0, none⟩ (.int .i64 0)).setCell ⟨w.heap.size + 1 + 1 + 1 + 1, 0, none⟩ (.bool false)).putObj D (.deferred none)).cell? ⟨w.heap.size + 1 + 1 + 1, 0, none⟩ = some (.int .i64 0) := cell_kept (I9.out.cell 0) (grownBy_putObj' _ D (.deferred none)) (fun r e => by cases e; exact ⟨_, hK', rfl⟩)
    have c2 : (((W.setCell ⟨w.heap.size + 1 + 1 + 1, 0, none⟩ (.int .i64 0)).setCell ⟨w.heap.size + 1 + 1 + 1 + 1, 0, none⟩ (.bool false)).putObj D (.deferred none)).cell? ⟨w.heap.size + 1 + 1 + 1 + 1, 0, none⟩ = some (.bool false) := cell_kept (O9.out.cell 0) (grownBy_putObj' _ D (.deferred none)) (fun r e => by cases e; exact ⟨_, hK', rfl⟩)
    refine ⟨.tuple #[.int .i64 0, .bool false], ?_, by rw [HR.out]; rfl, B9.out.trans (belowK_b (w := w6) (by omega) _ D _ _ hD hK' rfl rfl)⟩
    simp [results, Tryz.f69, go_sem, c1, c2]
  case stop =>
    rintro D cd pre W hD ⟨k, hk, hpre⟩ ⟨⟨rfl, pre', y, rfl, hp', hy⟩, hi, ho, hB⟩ hK
    have HR := Lib.hid (HS.out k hk pre' y hpre hp' hy)
    rw [lastF_app] at hi
    have HK' := Lib.hid hK
    have I9 := Lib.hid hi
    have O9 := Lib.hid ho
    have B9 := Lib.hid hB
    clear hpre hp' hy hi ho hB hK KL KC HP HN HS
    gi_wp2
    have hK' := HK'.out
    refine ⟨by simp, .inl ⟨_, _, rfl, run_takeDeferred hK', ?_⟩⟩
    have c1 : (W.putObj D (.deferred none)).cell? ⟨w.heap.size + 1 + 1 + 1, 0, none⟩ = some (.int .i64 ((y.val : Nat) : Int)) := cell_kept (I9.out.cell 0) (grownBy_putObj' _ D (.deferred none)) (fun r e => by cases e; exact ⟨_, hK', rfl⟩)
    have c2 : (W.putObj D (.deferred none)).cell? ⟨w.heap.size + 1 + 1 + 1 + 1, 0, none⟩ = some (.bool true) := cell_kept (O9.out.cell 0) (grownBy_putObj' _ D (.deferred none)) (fun r e => by cases e; exact ⟨_, hK', rfl⟩)
    refine ⟨.tuple #[.int .i64 ((y.val : Nat) : Int), .bool true], ?_, by rw [HR.out]; rfl, B9.out.trans (belowK_b (w := w6) (by omega) _ D _ _ hD hK' rfl rfl)⟩
    simp [results, Tryz.f69, go_sem, c1, c2]
end Go.Proofs.YtnpfnfenkklocaaGreatDoor
