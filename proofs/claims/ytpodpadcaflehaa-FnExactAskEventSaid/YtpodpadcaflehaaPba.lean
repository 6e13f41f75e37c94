/-
  impl.PublicEvent, PrivateEvent, AskEvent and spec.PrivateEvent, AskEvent. No condition but the readings.
-/
import Derived.Test.YtpodpadcaflehaaTwo
import Derived.Test.YtpodpadcaflehaaZCmb
import Derived.Test.YtpodpadcaflehaaSpecR
namespace Go.Proofs.Ytpodpadcaflehaa
open Go.RowKit Go.WideShapes
open Go Go.Deep
set_option linter.unusedSimpArgs false

theorem nvv_lit1 {w : World} {u : Value} {xs : List Nd} (hu : Ns w u xs) : Nvv 0 (w.alloc (.cells #[u] 46)).heap.size (w.alloc (.cells #[u] 46)) (.slice (some ⟨w.heap.size, 0, none⟩) 1 1) [xs] :=
  ⟨[u], rfl, (Ro.of_own (World.ownsRow_lit w #[u] 1 (Nat.zero_le _) (by decide) rfl)).read, fun j hj => by
    obtain rfl : j = 0 := by simp at hj; exact hj
    exact hu.below ((Below.refl w.heap.size w).alloc (Nat.le_refl _) _) (Nat.le_refl _)⟩
theorem nvv_lit2 {w : World} {u u2 : Value} {xs ys : List Nd} (hu : Ns w u xs) (hu2 : Ns w u2 ys) : Nvv 0 (w.alloc (.cells #[u, u2] 46)).heap.size (w.alloc (.cells #[u, u2] 46)) (.slice (some ⟨w.heap.size, 0, none⟩) 2 2) [xs, ys] :=
  ⟨[u, u2], rfl, (Ro.of_own (World.ownsRow_lit w #[u, u2] 2 (Nat.zero_le _) (by decide) rfl)).read, fun j hj => by
    rcases (show j = 0 ∨ j = 1 by simp at hj; omega) with rfl | rfl
    · exact hu.below ((Below.refl w.heap.size w).alloc (Nat.le_refl _) _) (Nat.le_refl _)
    · exact hu2.below ((Below.refl w.heap.size w).alloc (Nat.le_refl _) _) (Nat.le_refl _)⟩
theorem ns_top (w : World) : Ns (w.alloc (.cells #[.int .i64 2, .int .i64 0, .int .i64 0, .int .i64 0] 81)) (.slice (some ⟨w.heap.size, 0, none⟩) 1 1) [⟨2, 0, 0, 0⟩] :=
  Ns.of_own (n := 1) (World.ownsRow_lit w #[.int .i64 2, .int .i64 0, .int .i64 0, .int .i64 0] 1 (Nat.zero_le _) (by decide) rfl)
theorem vans_put {w w3 : World} {b lo hi : Nat} {fv bv fv0 bv0 : Value} {x : Ed} {n0 : Int} (hM : Mcell w3 b fv0 bv0 n0) (hO : Vo lo hi w3 (.agg #[fv, bv, .int .i64 x.actual]) x) (hb : b < lo) (hwb : w.heap.size ≤ b) (hhi : hi ≤ w3.heap.size) (hB : Below w.heap.size w w3) :
    Vo w.heap.size (((w3.setCell ⟨b, 0, none⟩ fv).setCell ⟨b, 1, none⟩ bv).setCell ⟨b, 2, none⟩ (.int .i64 x.actual)).heap.size (((w3.setCell ⟨b, 0, none⟩ fv).setCell ⟨b, 1, none⟩ bv).setCell ⟨b, 2, none⟩ (.int .i64 x.actual)) (.agg #[fv, bv, .int .i64 x.actual]) x ∧
    Below w.heap.size w (((w3.setCell ⟨b, 0, none⟩ fv).setCell ⟨b, 1, none⟩ bv).setCell ⟨b, 2, none⟩ (.int .i64 x.actual)) ∧
    Mcell (((w3.setCell ⟨b, 0, none⟩ fv).setCell ⟨b, 1, none⟩ bv).setCell ⟨b, 2, none⟩ (.int .i64 x.actual)) b fv bv x.actual :=
  ⟨(hO.keeps (((Keeps.setCell _ _ _ _ (.inl hb)).set (.inl hb) _ _).set (.inl hb) _ _)).wide (by omega) (by simp [World.setCell]; omega), ((hB.setCell hwb _).setCell hwb _).setCell hwb _, hM.write _ _ _⟩
/-- what Negate answers -/
def negR (xs : List Nd) : Option (List Nd) := if formOk xs then combL (Tm.deny (termOfL xs)) else none
/-- what AskEvent answers -/
def askR (ag A : Int) (xs : List Nd) : Option Ed := match negR xs with
  | none => none
  | some ys => seenR ag A [xs, ys]

set_option maxRecDepth 100000 in
set_option maxHeartbeats 8000000 in
theorem implPub_any (u : Value) (xs : List Nd) (A : Int) (w : World) (hu : Ns w u xs) :
    Calls Try.prog 21 #[u, .int .i64 A] w (EvAns2 w (seenR 0 A [xs])) := by
  have KS := Lib.hid (fun W (h : Below w.heap.size w W) => seenBy_any 0 _ _ [xs] 0 A _ (nvv_lit1 (hu.below h (Nat.le_refl _))) (by simp))
  unfold EvAns2 at KS ⊢
  obtain ⟨ua, uc, uf, _⟩ := id hu
  subst uf
  clear hu
  generalize (seenR 0 A [xs]).getD ⟨[], [], 0⟩ = mr at *
  generalize (seenR 0 A [xs]).isSome = ok at *
  go_enter Try.func21, Try.ntmps21
  go_wp2_with fail
  have HX : (w.alloc (.cells #[.slice none 0 0, .slice none 0 0, .int .i64 0] 38)).heap.size = w.heap.size + 1 := by simp
  have K0 := KS.out (w.alloc (.cells #[.slice none 0 0, .slice none 0 0, .int .i64 0] 38)) (by go_grown)
  rw [HX] at K0
  clear HX
  refine K0.mono ?_
  clear K0 KS
  rintro e w1 ⟨v1, rfl, ho1, hb1⟩
  have RR := Lib.hid (Mcell.below (b := w.heap.size) ((Mcell.new (w := w) (T := 38) (fv := .slice none 0 0) (bv := .slice none 0 0) (n := 0) rfl).alloc _) hb1)
  have BB : Hid (Below w.heap.size w w1) := Lib.hid (Below.trans (by go_grown) (hb1.mono (by simp; try omega)))
  have hlo : w.heap.size < w1.heap.size := RR.out.lt
  obtain ⟨qa, qc, pa, pc, e1⟩ := ho1.read.form
  subst e1
  have OO := Lib.hid ho1
  clear ho1 hb1
  obtain ⟨m0, m1, m2, m3, m4, m5⟩ := RR.out
  go_wp2
  clear m0 m1 m2 m3 m4 m5
  obtain ⟨o6, b6, m6⟩ := vans_put (w := w) RR.out OO.out (by simp; try omega) (Nat.le_refl _) (Nat.le_refl _) BB.out
  refine bodyPost_ret (results_mid2 Try.results21 _ _ w.heap.size _ _ _ rfl rfl m6.range Try.underlying38 rfl Try.sizeEd) rfl ?_
  exact ⟨_, rfl, o6, b6⟩

set_option maxRecDepth 100000 in
set_option maxHeartbeats 8000000 in
theorem implPriv_any (u : Value) (xs : List Nd) (ag A : Int) (w : World) (hu : Ns w u xs) :
    Calls Try.prog 27 #[u, .int .i64 ag, .int .i64 A] w (EvAns2 w (seenR ag A [xs, [⟨2, 0, 0, 0⟩]])) := by
  have KS := Lib.hid (fun W (h : Below w.heap.size w W) => seenBy_any 0 _ _ [xs, [⟨2, 0, 0, 0⟩]] ag A _ (nvv_lit2 ((hu.below h (Nat.le_refl _)).below ((Below.refl W.heap.size W).alloc (Nat.le_refl _) _) (Nat.le_refl _)) (ns_top W)) (by simp))
  unfold EvAns2 at KS ⊢
  obtain ⟨ua, uc, uf, _⟩ := id hu
  subst uf
  clear hu
  generalize (seenR ag A [xs, [⟨2, 0, 0, 0⟩]]).getD ⟨[], [], 0⟩ = mr at *
  generalize (seenR ag A [xs, [⟨2, 0, 0, 0⟩]]).isSome = ok at *
  go_enter Try.func27, Try.ntmps27
  go_wp2_with fail
  have HX : (w.alloc (.cells #[.slice none 0 0, .slice none 0 0, .int .i64 0] 38)).heap.size = w.heap.size + 1 := by simp
  have K0 := KS.out (w.alloc (.cells #[.slice none 0 0, .slice none 0 0, .int .i64 0] 38)) (by go_grown)
  rw [HX] at K0
  have HX2 : ((w.alloc (.cells #[.slice none 0 0, .slice none 0 0, .int .i64 0] 38)).alloc (.cells #[.int .i64 2, .int .i64 0, .int .i64 0, .int .i64 0] 81)).heap.size = w.heap.size + 2 := by simp
  rw [HX2] at K0
  clear HX HX2
  refine K0.mono ?_
  clear K0 KS
  rintro e w1 ⟨v1, rfl, ho1, hb1⟩
  have RR := Lib.hid (Mcell.below (b := w.heap.size) (((Mcell.new (w := w) (T := 38) (fv := .slice none 0 0) (bv := .slice none 0 0) (n := 0) rfl).alloc _).alloc _) hb1)
  have BB : Hid (Below w.heap.size w w1) := Lib.hid (Below.trans (by go_grown) (hb1.mono (by simp; try omega)))
  have hlo : w.heap.size < w1.heap.size := RR.out.lt
  obtain ⟨qa, qc, pa, pc, e1⟩ := ho1.read.form
  subst e1
  have OO := Lib.hid ho1
  clear ho1 hb1
  obtain ⟨m0, m1, m2, m3, m4, m5⟩ := RR.out
  go_wp2
  clear m0 m1 m2 m3 m4 m5
  obtain ⟨o6, b6, m6⟩ := vans_put (w := w) RR.out OO.out (by simp; try omega) (Nat.le_refl _) (Nat.le_refl _) BB.out
  refine bodyPost_ret (results_mid2 Try.results27 _ _ w.heap.size _ _ _ rfl rfl m6.range Try.underlying38 rfl Try.sizeEd) rfl ?_
  exact ⟨_, rfl, o6, b6⟩

set_option maxRecDepth 100000 in
set_option maxHeartbeats 8000000 in
theorem specPriv_any (u : Value) (xs : List Nd) (ag A : Int) (w : World) (hu : Ns w u xs) :
    Calls Try.prog 26 #[u, .int .i64 ag, .int .i64 A] w (EvAns2 w (seenR ag A [xs, [⟨2, 0, 0, 0⟩]])) := by
  have KS := Lib.hid (fun W (h : Below w.heap.size w W) => specTwo_any u _ xs [⟨2, 0, 0, 0⟩] ag A _ ((hu.below h (Nat.le_refl _)).below ((Below.refl W.heap.size W).alloc (Nat.le_refl _) _) (Nat.le_refl _)) (ns_top W))
  unfold EvAns2 at KS ⊢
  obtain ⟨ua, uc, uf, _⟩ := id hu
  subst uf
  clear hu
  generalize (seenR ag A [xs, [⟨2, 0, 0, 0⟩]]).getD ⟨[], [], 0⟩ = mr at *
  generalize (seenR ag A [xs, [⟨2, 0, 0, 0⟩]]).isSome = ok at *
  go_enter Try.func26, Try.ntmps26
  go_wp2_with fail
  have HX : (w.alloc (.cells #[.slice none 0 0, .slice none 0 0, .int .i64 0] 38)).heap.size = w.heap.size + 1 := by simp
  have K0 := KS.out (w.alloc (.cells #[.slice none 0 0, .slice none 0 0, .int .i64 0] 38)) (by go_grown)
  rw [HX] at K0
  clear HX
  refine K0.mono ?_
  clear K0 KS
  rintro e w1 ⟨v1, rfl, ho1, hb1⟩
  have RR := Lib.hid (Mcell.below (b := w.heap.size) ((Mcell.new (w := w) (T := 38) (fv := .slice none 0 0) (bv := .slice none 0 0) (n := 0) rfl).alloc _) hb1)
  have BB : Hid (Below w.heap.size w w1) := Lib.hid (Below.trans (by go_grown) (hb1.mono (by simp; try omega)))
  have hlo : w.heap.size < w1.heap.size := RR.out.lt
  obtain ⟨qa, qc, pa, pc, e1⟩ := ho1.read.form
  subst e1
  have OO := Lib.hid ho1
  clear ho1 hb1
  obtain ⟨m0, m1, m2, m3, m4, m5⟩ := RR.out
  go_wp2
  clear m0 m1 m2 m3 m4 m5
  obtain ⟨o6, b6, m6⟩ := vans_put (w := w) RR.out OO.out (by simp; try omega) (Nat.le_refl _) (Nat.le_refl _) BB.out
  refine bodyPost_ret (results_mid2 Try.results26 _ _ w.heap.size _ _ _ rfl rfl m6.range Try.underlying38 rfl Try.sizeEd) rfl ?_
  exact ⟨_, rfl, o6, b6⟩

set_option maxRecDepth 100000 in
set_option maxHeartbeats 8000000 in
theorem implAsk_any (u : Value) (xs : List Nd) (ag A : Int) (w : World) (hu : Ns w u xs) :
    Calls Try.prog 29 #[u, .int .i64 ag, .int .i64 A] w (EvAns2 w (askR ag A xs)) := by
  have KN := Lib.hid (fun W (h : Below w.heap.size w W) => implNegate_any u xs W (hu.below h (Nat.le_refl _)))
  have HN : Hid ((if formOk xs then combL (Tm.deny (termOfL xs)) else none) = negR xs) := Lib.hid rfl
  rw [HN.out] at KN
  have KS := Lib.hid (fun v ys W (h : Below w.heap.size w W) (h2 : Ns W v ys) => seenBy_any 0 _ _ [xs, ys] ag A _ (nvv_lit2 (hu.below h (Nat.le_refl _)) h2) (by simp))
  have HR : Hid (askR ag A xs = match negR xs with | none => none | some ys => seenR ag A [xs, ys]) := Lib.hid rfl
  unfold EvAns2 at KS ⊢
  unfold Ans at KN
  generalize askR ag A xs = R at *
  obtain ⟨ua, uc, uf, _⟩ := id hu
  subst uf
  clear hu HN
  cases hneg : negR xs with
  | none =>
    rw [hneg] at KN HR
    have HRn : Hid (R = none) := Lib.hid HR.out
    clear KS HR hneg
    go_enter Try.func29, Try.ntmps29
    go_wp2_with fail
    refine (KN.out _ (by go_grown)).mono ?_
    rintro e w1 ⟨v1, rfl, ho1, hb1⟩
    have RR := Lib.hid (Mcell.below (b := w.heap.size) (Mcell.new (w := w) (T := 38) (fv := .slice none 0 0) (bv := .slice none 0 0) (n := 0) rfl) hb1)
    have BB : Hid (Below w.heap.size w w1) := Lib.hid (Below.trans (by go_grown) (hb1.mono (by simp)))
    clear ho1 hb1
    obtain ⟨m0, m1, m2, m3, m4, m5⟩ := RR.out
    simp only [Option.isSome_none]
    go_wp2
    clear m0 m1 m2 m3 m4 m5
    have M6 := RR.out.write (.slice none 0 0) (.slice none 0 0) 0
    refine bodyPost_ret (results_mid2 Try.results29 _ _ w.heap.size _ _ (.bool false) rfl rfl M6.range Try.underlying38 rfl Try.sizeEd) rfl ?_
    rw [HRn.out]
    exact ⟨_, rfl, Vo.none _ _ _, ((BB.out.setCell (by show _ ≤ w.heap.size; omega) _).setCell (by show _ ≤ w.heap.size; omega) _).setCell (by show _ ≤ w.heap.size; omega) _⟩
  | some ys =>
    rw [hneg] at KN HR
    have HRs : Hid (R = seenR ag A [xs, ys]) := Lib.hid HR.out
    rw [HRs.out]
    clear HR HRs hneg
    have KS := Lib.hid (fun v W h h2 => KS.out v ys W h h2)
    generalize (seenR ag A [xs, ys]).getD ⟨[], [], 0⟩ = mr at *
    generalize (seenR ag A [xs, ys]).isSome = ok at *
    go_enter Try.func29, Try.ntmps29
    go_wp2_with fail
    refine (KN.out _ (by go_grown)).mono ?_
    rintro e w2 ⟨v2, rfl, ho2, hb2⟩
    have RQ := Lib.hid (Mcell.below (b := w.heap.size) (Mcell.new (w := w) (T := 38) (fv := .slice none 0 0) (bv := .slice none 0 0) (n := 0) rfl) hb2)
    have BQ : Hid (Below w.heap.size w w2) := Lib.hid (Below.trans (by go_grown) (hb2.mono (by simp)))
    have N2 : Hid (Ns w2 v2 ys) := Lib.hid (Ns.of_own ho2)
    obtain ⟨na, nc, nf, _⟩ := N2.out
    subst nf
    clear ho2 hb2
    simp only [Option.isSome_some]
    go_wp2_with fail
    refine (KS.out _ w2 BQ.out N2.out).mono ?_
    rintro e w1 ⟨v1, rfl, ho1, hb1⟩
    have RR := Lib.hid ((RQ.out.alloc _).below hb1)
    have BB : Hid (Below w.heap.size w w1) := Lib.hid ((BQ.out.alloc BQ.out.size _).trans (hb1.mono (by have := BQ.out.size; simp; omega)))
    have hlo : w.heap.size < w2.heap.size := RQ.out.lt
    obtain ⟨qa, qc, pa, pc, e1⟩ := ho1.read.form
    subst e1
    have OO := Lib.hid ho1
    clear ho1 hb1
    obtain ⟨m0, m1, m2, m3, m4, m5⟩ := RR.out
    go_wp2
    clear m0 m1 m2 m3 m4 m5
    obtain ⟨o6, b6, m6⟩ := vans_put (w := w) RR.out OO.out (by simp; omega) (Nat.le_refl _) (Nat.le_refl _) BB.out
    refine bodyPost_ret (results_mid2 Try.results29 _ _ w.heap.size _ _ _ rfl rfl m6.range Try.underlying38 rfl Try.sizeEd) rfl ?_
    exact ⟨_, rfl, o6, b6⟩

set_option maxRecDepth 100000 in
set_option maxHeartbeats 8000000 in
theorem specAsk_any (u : Value) (xs : List Nd) (ag A : Int) (w : World) (hu : Ns w u xs) :
    Calls Try.prog 28 #[u, .int .i64 ag, .int .i64 A] w (EvAns2 w (askR ag A xs)) := by
  have KN := Lib.hid (fun W (h : Below w.heap.size w W) => specNegate_any u xs W (hu.below h (Nat.le_refl _)))
  have HN : Hid ((if formOk xs then combL (Tm.deny (termOfL xs)) else none) = negR xs) := Lib.hid rfl
  rw [HN.out] at KN
  have KS := Lib.hid (fun v ys W (h : Below w.heap.size w W) (h2 : Ns W v ys) => specTwo_any u v xs ys ag A W (hu.below h (Nat.le_refl _)) h2)
  have HR : Hid (askR ag A xs = match negR xs with | none => none | some ys => seenR ag A [xs, ys]) := Lib.hid rfl
  unfold EvAns2 at KS ⊢
  unfold Ans at KN
  generalize askR ag A xs = R at *
  obtain ⟨ua, uc, uf, _⟩ := id hu
  subst uf
  clear hu HN
  cases hneg : negR xs with
  | none =>
    rw [hneg] at KN HR
    have HRn : Hid (R = none) := Lib.hid HR.out
    clear KS HR hneg
    go_enter Try.func28, Try.ntmps28
    go_wp2_with fail
    refine (KN.out _ (by go_grown)).mono ?_
    rintro e w1 ⟨v1, rfl, ho1, hb1⟩
    have RR := Lib.hid (Mcell.below (b := w.heap.size) (Mcell.new (w := w) (T := 38) (fv := .slice none 0 0) (bv := .slice none 0 0) (n := 0) rfl) hb1)
    have BB : Hid (Below w.heap.size w w1) := Lib.hid (Below.trans (by go_grown) (hb1.mono (by simp)))
    clear ho1 hb1
    obtain ⟨m0, m1, m2, m3, m4, m5⟩ := RR.out
    simp only [Option.isSome_none]
    go_wp2
    clear m0 m1 m2 m3 m4 m5
    have M6 := RR.out.write (.slice none 0 0) (.slice none 0 0) 0
    refine bodyPost_ret (results_mid2 Try.results28 _ _ w.heap.size _ _ (.bool false) rfl rfl M6.range Try.underlying38 rfl Try.sizeEd) rfl ?_
    rw [HRn.out]
    exact ⟨_, rfl, Vo.none _ _ _, ((BB.out.setCell (by show _ ≤ w.heap.size; omega) _).setCell (by show _ ≤ w.heap.size; omega) _).setCell (by show _ ≤ w.heap.size; omega) _⟩
  | some ys =>
    rw [hneg] at KN HR
    have HRs : Hid (R = seenR ag A [xs, ys]) := Lib.hid HR.out
    rw [HRs.out]
    clear HR HRs hneg
    have KS := Lib.hid (fun v W h h2 => KS.out v ys W h h2)
    generalize (seenR ag A [xs, ys]).getD ⟨[], [], 0⟩ = mr at *
    generalize (seenR ag A [xs, ys]).isSome = ok at *
    go_enter Try.func28, Try.ntmps28
    go_wp2_with fail
    refine (KN.out _ (by go_grown)).mono ?_
    rintro e w2 ⟨v2, rfl, ho2, hb2⟩
    have RQ := Lib.hid (Mcell.below (b := w.heap.size) (Mcell.new (w := w) (T := 38) (fv := .slice none 0 0) (bv := .slice none 0 0) (n := 0) rfl) hb2)
    have BQ : Hid (Below w.heap.size w w2) := Lib.hid (Below.trans (by go_grown) (hb2.mono (by simp)))
    have N2 : Hid (Ns w2 v2 ys) := Lib.hid (Ns.of_own ho2)
    obtain ⟨na, nc, nf, _⟩ := N2.out
    subst nf
    clear ho2 hb2
    simp only [Option.isSome_some]
    go_wp2_with fail
    refine (KS.out _ w2 BQ.out N2.out).mono ?_
    rintro e w1 ⟨v1, rfl, ho1, hb1⟩
    have RR := Lib.hid (RQ.out.below hb1)
    have BB : Hid (Below w.heap.size w w1) := Lib.hid (BQ.out.trans (hb1.mono (by have := BQ.out.size; omega)))
    have hlo : w.heap.size < w2.heap.size := RQ.out.lt
    obtain ⟨qa, qc, pa, pc, e1⟩ := ho1.read.form
    subst e1
    have OO := Lib.hid ho1
    clear ho1 hb1
    obtain ⟨m0, m1, m2, m3, m4, m5⟩ := RR.out
    go_wp2
    clear m0 m1 m2 m3 m4 m5
    obtain ⟨o6, b6, m6⟩ := vans_put (w := w) RR.out OO.out (by omega) (Nat.le_refl _) (Nat.le_refl _) BB.out
    refine bodyPost_ret (results_mid2 Try.results28 _ _ w.heap.size _ _ _ rfl rfl m6.range Try.underlying38 rfl Try.sizeEd) rfl ?_
    exact ⟨_, rfl, o6, b6⟩

theorem seen_size {ag A : Int} {cs : List (List Nd)} (hn : cs.length ≤ 2) : esize ((seenR ag A cs).getD ⟨[], [], 0⟩) ≤ 1048576 := by
  unfold seenR
  split
  · rename_i h
    simp only [Bool.and_eq_true, decide_eq_true_eq, List.all_eq_true] at h
    obtain ⟨⟨h1, h2⟩, h3⟩ := h
    have ht : totN cs ≤ cs.length * 40 := by
      clear h1 h2 hn
      induction cs with
      | nil => simp [totN]
      | cons x cs ih =>
        have := ih (fun y hy => h3 y (List.mem_cons_of_mem _ hy))
        have h4 := (form_pos (h3 x (List.mem_cons_self ..))).2
        rw [totN, List.length_cons]; omega
    unfold inB at h1
    rw [decide_eq_true_eq] at h1
    have hA : A.toNat ≤ 3 := by omega
    show cs.length + totN cs + ((seenM ag A cs).blocks.length + tot (seenM ag A cs).blocks) ≤ 1048576
    have hb : (seenM ag A cs).blocks.length ≤ 3 := by simp [seenM]; omega
    have hr : ∀ r ∈ (seenM ag A cs).blocks, r.length ≤ 2 := fun r hr => by
      simp only [seenM, List.mem_map] at hr
      obtain ⟨k, _, rfl⟩ := hr
      split <;> simp <;> exact hn
    have htot : ∀ ll : List (List Int), (∀ r ∈ ll, r.length ≤ 2) → tot ll ≤ ll.length * 2 := fun ll => by
      induction ll with
      | nil => intro _; simp [tot]
      | cons x ll ih =>
        intro h
        have := ih (fun y hy => h y (List.mem_cons_of_mem _ hy))
        have := h x (List.mem_cons_self ..)
        rw [tot, List.length_cons]; omega
    have := htot _ hr
    omega
  · show esize ⟨[], [], 0⟩ ≤ 1048576
    decide
theorem ask_size {ag A : Int} {xs : List Nd} : esize ((askR ag A xs).getD ⟨[], [], 0⟩) ≤ 1048576 := by
  unfold askR
  split
  · show esize ⟨[], [], 0⟩ ≤ 1048576
    decide
  · exact seen_size (by simp)
end Go.Proofs.Ytpodpadcaflehaa