/-
  impl.newPerson, oneOfTwo, inTurn, KnowsOwn, AfterAnswer. Conditions of the last: numbers such as a machine has, at most 1048576 pairs.
-/
import Derived.Test.YtmcjimmebbkjcaaPij
namespace Go.Proofs.Ytmcjimmebbkjcaa
open Go.RowKit Go.WideShapes
open Go Go.Deep
set_option linter.unusedSimpArgs false

/-- the function of the first or the second of the two persons -/
def kf (f : Bool) : FuncId := if f then 67 else 68
theorem seesF (f : Bool) : SeesP (kf f) (keyP f) := by cases f; exact seesA; exact seesB
theorem entF (f : Bool) : EntP (kf f) := by cases f; exact entA; exact entB
/-- an empty map of a person, in a block from B on -/
def NewP (n : FuncId) (w : World) (e : Ending) (w' : World) : Prop := ∃ b, e = .returned (pv n b) ∧ w.heap.size ≤ b ∧ w'.ownsMap Try.prog 3 HeldP b 0 (.map []) ∧ Below w.heap.size w w'
theorem Try.sizePerson : (Try.prog.info? 63).map (·.size) = some 2 := by kernel_rfl
set_option maxHeartbeats 1000000 in
theorem newPerson_any (n : FuncId) (w : World) : Calls Try.prog 50 #[fv n] w (NewP n w) := by
  have hmm := @run_makeMap Try.prog
  have hC : Cm ((w.alloc (.cells #[.nilFunc, .map none] 63)).alloc (.map #[] 0)) w.heap.size 63 [.nilFunc, .map none] := (Cm.new (cs := [.nilFunc, .map none]) rfl).alloc _
  have hM := World.ownsMap_made (w.alloc (.cells #[.nilFunc, .map none] 63)) Try.prog 3 HeldP
  have hB : Below w.heap.size w ((w.alloc (.cells #[.nilFunc, .map none] 63)).alloc (.map #[] 0)) := by go_grown
  have hz : (w.alloc (.cells #[.nilFunc, .map none] 63)).heap.size = w.heap.size + 1 := by simp
  rw [hz] at hM
  have C0 := Lib.hid hC
  have M0 := Lib.hid hM
  have B0 := Lib.hid hB
  clear hC hM hB
  have HON : Hid (∀ v ∈ [Value.func (.func n) #[] #[], .map (some (w.heap.size + 1))], v.oneCell' = true) := Lib.hid (by intro v hv; simp at hv; rcases hv with rfl | rfl <;> rfl)
  unfold NewP pv fv
  go_enter Try.func50, Try.ntmps50
  go_wp2_with
    (refine wpList_storeM rfl 63 (.tmp 2) (.tmp 5) rfl w.heap.size 0 rfl [.func (.func n) #[] #[], .map (some (w.heap.size + 1))] rfl 63 _ C0.out (Nat.le_refl _) Try.sizePerson HON.out ?_
     intro w4 hc4 ha4
     rw [lay'_all (by rfl)] at hc4
     have A4 := Lib.hid hc4
     have T4 := Lib.hid ha4
     clear hc4 ha4)
  refine bodyPost_ret (results_mid1 Try.results50 _ _ w.heap.size [.func (.func n) #[] #[], .map (some (w.heap.size + 1))] _ rfl A4.out.whole Try.underlying63 rfl Try.sizePerson) rfl ?_
  have G4 : World.grownBy _ w4 (some w.heap.size) := ⟨T4.out.os, T4.out.tape, T4.out.output, Nat.le_of_eq T4.out.size.symm, fun k hk hne => T4.out.block k (fun e => hne (by rw [e]))⟩
  exact ⟨w.heap.size + 1, rfl, Nat.le_succ _, M0.out.kept G4 (by intro e; injection e with e; omega), B0.out.trans (T4.out.below (Nat.le_refl _))⟩
set_option maxHeartbeats 1000000 in
theorem oneOfTwo_any (f : Bool) (w : World) : Calls Try.prog 55 #[.bool f] w (NewP (kf f) w) := by
  have KN := Lib.hid (fun n W => newPerson_any n W)
  have hC : Cm (w.alloc (.cells #[.nilFunc, .map none] 63)) w.heap.size 63 [.nilFunc, .map none] := Cm.new (cs := [.nilFunc, .map none]) rfl
  have hB : Below w.heap.size w (w.alloc (.cells #[.nilFunc, .map none] 63)) := by go_grown
  have HON : Hid (∀ n b, ∀ v ∈ [Value.func (.func n) #[] #[], .map (some b)], v.oneCell' = true) := Lib.hid (by intro n b v hv; simp at hv; rcases hv with rfl | rfl <;> rfl)
  have C0 := Lib.hid hC
  have B0 := Lib.hid hB
  clear hC hB
  unfold NewP pv fv at *
  cases f
  · show Calls _ _ _ _ (fun e w' => ∃ b, e = .returned (.agg #[.func (.func 68) #[] #[], .map (some b)]) ∧ _)
    go_enter Try.func55, Try.ntmps55
    go_wp2_with fail
    generalize w.alloc (.cells #[.nilFunc, .map none] 63) = w1 at *
    refine (KN.out _ _).mono ?_
    rintro e w3 ⟨b, rfl, hb, hm, hw3⟩
    have C3 := Lib.hid (C0.out.all hw3)
    have B3 := Lib.hid (B0.out.trans (hw3.mono B0.out.size))
    have M3 := Lib.hid hm
    have lc := C0.out.lt
    clear hw3 hm
    go_wp2_with
      (refine wpList_storeM rfl 63 (.tmp 2) (.tmp 5) rfl w.heap.size 0 rfl [.func (.func 68) #[] #[], .map (some b)] rfl 63 _ C3.out (Nat.le_refl _) Try.sizePerson (HON.out _ _) ?_
       intro w4 hc4 ha4
       rw [lay'_all (by rfl)] at hc4
       have A4 := Lib.hid hc4
       have T4 := Lib.hid ha4
       clear hc4 ha4)
    refine bodyPost_ret (results_mid1 Try.results55 _ _ w.heap.size [.func (.func 68) #[] #[], .map (some b)] _ rfl A4.out.whole Try.underlying63 rfl Try.sizePerson) rfl ?_
    have G4 : World.grownBy _ w4 (some w.heap.size) := ⟨T4.out.os, T4.out.tape, T4.out.output, Nat.le_of_eq T4.out.size.symm, fun k hk hne => T4.out.block k (fun e => hne (by rw [e]))⟩
    exact ⟨b, rfl, by omega, M3.out.kept G4 (by intro e; injection e with e; omega), B3.out.trans (T4.out.below (Nat.le_refl _))⟩
  · show Calls _ _ _ _ (fun e w' => ∃ b, e = .returned (.agg #[.func (.func 67) #[] #[], .map (some b)]) ∧ _)
    go_enter Try.func55, Try.ntmps55
    go_wp2_with fail
    generalize w.alloc (.cells #[.nilFunc, .map none] 63) = w1 at *
    refine (KN.out _ _).mono ?_
    rintro e w3 ⟨b, rfl, hb, hm, hw3⟩
    have C3 := Lib.hid (C0.out.all hw3)
    have B3 := Lib.hid (B0.out.trans (hw3.mono B0.out.size))
    have M3 := Lib.hid hm
    have lc := C0.out.lt
    clear hw3 hm
    go_wp2_with
      (refine wpList_storeM rfl 63 (.tmp 2) (.tmp 4) rfl w.heap.size 0 rfl [.func (.func 67) #[] #[], .map (some b)] rfl 63 _ C3.out (Nat.le_refl _) Try.sizePerson (HON.out _ _) ?_
       intro w4 hc4 ha4
       rw [lay'_all (by rfl)] at hc4
       have A4 := Lib.hid hc4
       have T4 := Lib.hid ha4
       clear hc4 ha4)
    refine bodyPost_ret (results_mid1 Try.results55 _ _ w.heap.size [.func (.func 67) #[] #[], .map (some b)] _ rfl A4.out.whole Try.underlying63 rfl Try.sizePerson) rfl ?_
    have G4 : World.grownBy _ w4 (some w.heap.size) := ⟨T4.out.os, T4.out.tape, T4.out.output, Nat.le_of_eq T4.out.size.symm, fun k hk hne => T4.out.block k (fun e => hne (by rw [e]))⟩
    exact ⟨b, rfl, by omega, M3.out.kept G4 (by intro e; injection e with e; omega), B3.out.trans (T4.out.below (Nat.le_refl _))⟩

theorem Try.sizeTwo : (Try.prog.info? 68).map (·.size) = some 4 := by kernel_rfl
/-- both persons, each with an empty map -/
def TwoP (w : World) (e : Ending) (w' : World) : Prop := ∃ b0 b1, e = .returned (.agg #[fv (kf true), .map (some b0), fv (kf false), .map (some b1)]) ∧ w.heap.size ≤ b0 ∧ b0 < b1 ∧ w'.ownsMap Try.prog 3 HeldP b0 0 (.map []) ∧ w'.ownsMap Try.prog 3 HeldP b1 0 (.map []) ∧ Below w.heap.size w w'
set_option maxHeartbeats 1000000 in
theorem inTurn_any (w : World) : Calls Try.prog 59 #[] w (TwoP w) := by
  have KN := Lib.hid (fun f W => oneOfTwo_any f W)
  unfold TwoP
  unfold NewP pv fv at *
  go_enter Try.func59, Try.ntmps59
  go_wp2_with fail
  have hb1 : Below w.heap.size w (w.alloc (.cells #[.nilFunc, .map none, .nilFunc, .map none] 68)) := by go_grown
  have hA : Cm (w.alloc (.cells #[.nilFunc, .map none, .nilFunc, .map none] 68)) w.heap.size 68 [.nilFunc, .map none, .nilFunc, .map none] := Cm.new (cs := [.nilFunc, .map none, .nilFunc, .map none]) rfl
  generalize w.alloc (.cells #[.nilFunc, .map none, .nilFunc, .map none] 68) = w1 at *
  refine (KN.out true _).mono ?_
  rintro e w2 ⟨b0, rfl, hb0, hm0, hw0⟩
  have hA2 := hA.all hw0
  have B2 := Lib.hid (hb1.trans (hw0.mono hb1.size))
  have lt1 := hA.lt
  have lt2 := hA2.lt
  have l0 := hm0.lt
  have M0 := Lib.hid hm0
  clear hb1 hw0 hA hm0
  go_wp2_with fail
  refine (KN.out false _).mono ?_
  rintro e w3 ⟨b1, rfl, hb1, hm1, hw1⟩
  have hA3 := hA2.all hw1
  have B3 := Lib.hid (B2.out.trans (hw1.mono (by omega)))
  have M3 := Lib.hid (M0.out.kept (gr_below hw1 none) (by simp))
  have M1 := Lib.hid hm1
  have A3 := Lib.hid hA3
  have HON : Hid (∀ v ∈ [Value.func (.func (kf true)) #[] #[], .map (some b0), .func (.func (kf false)) #[] #[], .map (some b1)], v.oneCell' = true) := Lib.hid (by intro v hv; simp at hv; rcases hv with rfl | rfl | rfl | rfl <;> rfl)
  clear hw1 hA3 hA2 hm1
  go_wp2_with
    (refine wpList_storeM rfl 68 (.tmp 0) (.tmp 3) rfl w.heap.size 0 rfl [.func (.func (kf true)) #[] #[], .map (some b0), .func (.func (kf false)) #[] #[], .map (some b1)] rfl 68 _ A3.out (Nat.le_refl _) Try.sizeTwo HON.out ?_
     intro w4 hc4 ha4
     rw [lay'_all (by rfl)] at hc4
     have A4 := Lib.hid hc4
     have T4 := Lib.hid ha4
     clear hc4 ha4)
  refine bodyPost_ret (results_mid1 Try.results59 _ _ w.heap.size [.func (.func (kf true)) #[] #[], .map (some b0), .func (.func (kf false)) #[] #[], .map (some b1)] _ rfl A4.out.whole Try.underlying68 rfl Try.sizeTwo) rfl ?_
  have G4 : w3.grownBy w4 (some w.heap.size) := ⟨T4.out.os, T4.out.tape, T4.out.output, Nat.le_of_eq T4.out.size.symm, fun k hk hne => T4.out.block k (fun e => hne (by rw [e]))⟩
  exact ⟨b0, b1, rfl, by omega, by omega, M3.out.kept G4 (by intro e; injection e with e; omega), M1.out.kept G4 (by intro e; injection e with e; omega), B3.out.trans (T4.out.below (Nat.le_refl _))⟩

set_option maxRecDepth 100000 in
set_option maxHeartbeats 4000000 in
theorem implOwnP_any (v : Value) (xs : List Pr) (p : Pr) (f : Bool) (w : World) (hr : Ps w v xs) (_hw : WfP xs) (_hp : (Lit.int .i64 (keyP f p)).wf = true) (_hn : xs.length ≤ 1048576) :
    Calls Try.prog 31 #[v, p.v, .bool f] w fun e w' => e = .returned (.bool (ownP xs p f)) ∧ Below w.heap.size w w' := by
  have KN := Lib.hid (fun W => oneOfTwo_any f W)
  have KK := Lib.hid (fun b W (h : Below w.heap.size w W) => knows_any (kf f) (keyP f) (seesF f) (entF f) b v xs p W (hr.below h (Nat.le_refl _)))
  rw [own_uniq]
  obtain ⟨a, cap, rfl⟩ := hr.form
  clear hr
  generalize uniqW (keyP f) xs p = R at *
  unfold Pr.v at *
  unfold NewP pv fv at KN
  unfold pv fv at KK
  go_enter Try.func31, Try.ntmps31
  go_wp2
  have hb1 : Below w.heap.size w (w.alloc (.cells #[.int .i64 p.a, .int .i64 p.b] 33)) := by go_grown
  have hB : Cm (w.alloc (.cells #[.int .i64 p.a, .int .i64 p.b] 33)) w.heap.size 33 [.int .i64 p.a, .int .i64 p.b] := Cm.new (cs := [.int .i64 p.a, .int .i64 p.b]) rfl
  generalize w.alloc (.cells #[.int .i64 p.a, .int .i64 p.b] 33) = w1 at *
  have B1 := Lib.hid hb1
  have HP := Lib.hid (fun W' (hW : Below w1.heap.size w1 W') => hB.all hW)
  clear hb1 hB
  refine regionL (fun W' => Below w1.heap.size w1 W') [] (by kernel_rfl) (Below.refl _ _).drew (fun hHeld => ?_)
  refine takeA (i := 0) (v := .bool f) 7 rfl rfl (by kernel_rfl) (by kernel_rfl) (by kernel_rfl) (by kernel_rfl) (fun _ _ _ h => h) (Or.inl ⟨by rfl, by intro W hSw; go_simp⟩) hHeld ?_
  simp only [Act.put, List.setIfInBounds_toArray, List.set_cons_zero, List.set_cons_succ]
  refine takeA (i := 2) (v := .slice a xs.length cap) 9 rfl rfl (by kernel_rfl) (by kernel_rfl) (by kernel_rfl) (by kernel_rfl) (fun _ _ _ h => h) (Or.inl ⟨by rfl, by intro W hSw; go_simp⟩) hHeld ?_
  simp only [Act.put, List.setIfInBounds_toArray, List.set_cons_zero, List.set_cons_succ]
  refine takeA (i := 3) (v := .agg #[.int .i64 p.a, .int .i64 p.b]) 10 rfl rfl (by kernel_rfl) (by kernel_rfl) (by kernel_rfl) (by kernel_rfl) (fun _ _ _ h => h) (Or.inl ⟨by rfl, by intro W hSw; have c1 := (HP.out _ hSw).cell 1; have c0 := (HP.out _ hSw).cell 0; go_simp⟩) hHeld ?_
  simp only [Act.put, List.setIfInBounds_toArray, List.set_cons_zero, List.set_cons_succ]
  refine onlyL (i := 1) (by kernel_rfl) rfl (by rfl) (fun K hK => ?_)
  go_simp
  refine (KN.out _).mono ?_
  rintro e w3 ⟨b, rfl, hb, hm, hw3⟩
  have t3 : Below w1.heap.size w1 w3 := hHeld.trans (hw3.mono hHeld.size)
  clear hw3 hb hm
  refine hK.out _ _ (fun _ => t3) (fun hHeld => ?_)
  have hHeld := hHeld (by decide)
  clear hK K
  try simp only [Act.put, List.setIfInBounds_toArray, List.set_cons_zero, List.set_cons_succ]
  refine onlyL (i := 4) (by kernel_rfl) rfl (by rfl) (fun K hK => ?_)
  go_simp
  refine (KK.out b _ (B1.out.trans (t3.mono B1.out.size))).mono ?_
  rintro e w4 ⟨rfl, hb4⟩
  have t4 : Below w1.heap.size w1 w4 := t3.trans (hb4.mono t3.size)
  clear hb4
  refine hK.out _ _ (fun _ => t4) (fun hHeld => ?_)
  have hHeld := hHeld (by decide)
  clear hK K
  try simp only [Act.put, List.setIfInBounds_toArray, List.set_cons_zero, List.set_cons_succ]
  refine takeA (i := 5) (v := .bool R) 6 rfl rfl (by kernel_rfl) (by kernel_rfl) (by kernel_rfl) (by kernel_rfl) (fun _ _ _ h => h) (Or.inl ⟨by rfl, by intro W hSw; go_simp⟩) hHeld ?_
  simp only [Act.put, List.setIfInBounds_toArray, List.set_cons_zero, List.set_cons_succ]
  refine doneL (by kernel_rfl) ?_ _
  go_wp2
  go_ret
  exact ⟨rfl, B1.out.trans (t4.mono B1.out.size)⟩

set_option maxHeartbeats 4000000 in
theorem implAfterP_any (v : Value) (xs : List Pr) (f kn : Bool) (w : World) (hr : Ps w v xs) (hw : WfP xs) (hn : xs.length ≤ 1048576) :
    Calls Try.prog 33 #[v, .bool f, .bool kn] w (PrsAns w (afterP xs f kn)) := by
  have KN := Lib.hid (fun W => oneOfTwo_any f W)
  have KK := Lib.hid (fun b W (h : Below w.heap.size w W) hm => answering_any (kf f) (keyP f) (seesF f) (entF f) kn b v xs W (hr.below h (Nat.le_refl _)) (fun x hx => hw.key hx f) hn hm)
  rw [after_answ]
  obtain ⟨a, cap, rfl⟩ := hr.form
  clear hr hw hn
  generalize answK (keyP f) kn xs = R at *
  unfold NewP pv fv at KN
  unfold AnP pv fv at KK
  go_enter Try.func33, Try.ntmps33
  go_wp2_with fail
  refine (KN.out _).mono ?_
  rintro e w3 ⟨b, rfl, hb, hm, hw3⟩
  have B3 := Lib.hid hw3
  have M3 := Lib.hid hm
  clear hw3 hm
  go_wp2_with fail
  refine (KK.out b _ B3.out M3.out).mono ?_
  rintro e w4 ⟨v4, rfl, ho4, hm4, hg4⟩
  have O4 := Lib.hid (ownB ho4 B3.out.size)
  have B4 : Hid (Below w.heap.size w w4) := Lib.hid (B3.out.trans ((But.of_grown hg4 B3.out.size (fun k e => .inl (by injection e with e; exact e.symm))).below hb))
  clear ho4 hm4 hg4
  go_wp2
  go_ret
  exact ⟨_, rfl, O4.out, B4.out⟩
end Go.Proofs.Ytmcjimmebbkjcaa
