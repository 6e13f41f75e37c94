/-
  spec.PublicEvent and spec.l07Two: the event models of one condition, and of two that one agent can tell apart. No condition but the readings.
-/
import Derived.Test.YtpodpadcaflehaaSeb
import Derived.Test.YtpodpadcaflehaaEos
namespace Go.Proofs.Ytpodpadcaflehaa
open Go.RowKit Go.WideShapes
open Go Go.Deep
set_option linter.unusedSimpArgs false

theorem seenRows_take {ag A n k : Nat} (h : k < A) : (seenRows ag A n).take (k + 1) = (seenRows ag A n).take k ++ [if k = ag then (List.range n).map fun (i : Nat) => (i : Int) else List.replicate n 0] := by
  unfold seenRows
  rw [← List.map_take, ← List.map_take, List.take_range, List.take_range, Nat.min_eq_left (by omega), Nat.min_eq_left (by omega), List.range_succ, List.map_append]; rfl
theorem seenRows_all (ag A n : Nat) : (seenRows ag A n).take A = seenRows ag A n := List.take_of_length_le (by simp [seenRows])
theorem noo_one {lo h1 : Nat} {w : World} {u : Value} {l : List Nd} (hu : No lo h1 w u l) (h1s : h1 ≤ w.heap.size) (hlo : lo ≤ w.heap.size) : Noo lo (w.alloc (.cells #[u] 46)).heap.size (w.alloc (.cells #[u] 46)) (.slice (some ⟨w.heap.size, 0, none⟩) 1 1) [u] [l] := by
  have hs : (w.alloc (.cells #[u] 46)).heap.size = w.heap.size + 1 := by simp
  refine ⟨⟨World.ownsRow_lit _ #[u] 1 hlo (by decide) rfl, fun k hk => by cases hk; rw [hs]; exact Nat.lt_succ_self _⟩, ⟨rfl, fun j hj => ?_⟩, ?_⟩
  · obtain rfl : j = 0 := by simp at hj; exact hj
    exact (hu.keeps (Keeps.of_all ((Below.refl _ _).alloc (Nat.le_refl _) _))).wide (Nat.le_refl _) (by rw [hs]; omega)
  · rw [List.pairwise_cons]
    refine ⟨fun x hx => ?_, List.pairwise_singleton _ _⟩
    simp only [List.mem_singleton] at hx
    subst hx
    exact apart_symm (apart_lt (B := w.heap.size) (fun k hk => by have := hu.2 k hk; omega) (fun k hk => by cases hk; exact Nat.le_refl _))
theorem noo_two {lo h1 h2 : Nat} {w : World} {u u2 : Value} {l l2 : List Nd} (hu : No lo h1 w u l) (hu2 : No h1 h2 w u2 l2) (h12 : lo ≤ h1) (h1s : h1 ≤ h2) (h2s : h2 ≤ w.heap.size) : Noo lo (w.alloc (.cells #[u, u2] 46)).heap.size (w.alloc (.cells #[u, u2] 46)) (.slice (some ⟨w.heap.size, 0, none⟩) 2 2) [u, u2] [l, l2] := by
  have hs : (w.alloc (.cells #[u, u2] 46)).heap.size = w.heap.size + 1 := by simp
  refine ⟨⟨World.ownsRow_lit _ #[u, u2] 2 (by omega) (by decide) rfl, fun k hk => by cases hk; rw [hs]; exact Nat.lt_succ_self _⟩, ⟨rfl, fun j hj => ?_⟩, ?_⟩
  · rcases (show j = 0 ∨ j = 1 by simp at hj; omega) with rfl | rfl
    · exact (hu.keeps (Keeps.of_all ((Below.refl _ _).alloc (Nat.le_refl _) _))).wide (Nat.le_refl _) (by rw [hs]; omega)
    · exact (hu2.keeps (Keeps.of_all ((Below.refl _ _).alloc (Nat.le_refl _) _))).wide h12 (by rw [hs]; omega)
  · rw [List.pairwise_cons, List.pairwise_cons]
    refine ⟨fun x hx => ?_, fun x hx => ?_, List.pairwise_singleton _ _⟩
    · simp only [List.mem_cons, List.not_mem_nil, or_false] at hx
      rcases hx with rfl | rfl
      · exact apart_symm (apart_lt (B := w.heap.size) (fun k hk => by have := hu.2 k hk; omega) (fun k hk => by cases hk; exact Nat.le_refl _))
      · exact apart_symm (apart_lt (B := w.heap.size) (fun k hk => by have := hu2.2 k hk; omega) (fun k hk => by cases hk; exact Nat.le_refl _))
    · simp only [List.mem_singleton] at hx
      subst hx
      exact apart_lt (B := h1) (fun k hk => hu.2 k hk) (fun k hk => (hu2.1.lt k hk).1)

set_option maxRecDepth 100000 in
set_option maxHeartbeats 32000000 in
theorem specPub_any (u : Value) (xs : List Nd) (A : Int) (w : World) (hu : Ns w u xs) :
    Calls Try.prog 19 #[u, .int .i64 A] w (EvAns2 w (seenR 0 A [xs])) := by
  have KF := Lib.hid (fun W (h : Below w.heap.size w W) => specForm_any u xs W (hu.below h (Nat.le_refl _)))
  have KC := Lib.hid (fun (hf : formOk xs = true) W (h : Below w.heap.size w W) => copyN_any u xs W (hu.below h (Nat.le_refl _)) (form_pos hf).1 (by have := (form_pos hf).2; omega))
  obtain ⟨ua, uc, uf, _⟩ := id hu
  subst uf
  clear hu
  obtain ⟨r, hrr⟩ : ∃ r, r = seenR 0 A [xs] := ⟨_, rfl⟩
  rw [← hrr]
  have HRX : Hid (¬ (inB 0 A = true ∧ A ≤ 3 ∧ [xs].all formOk = true) → r = none) := Lib.hid (fun h => by rw [hrr]; exact seenR_false h)
  have HRY : Hid (∀ (N : Nat), A = N → 0 < N → N ≤ 3 → [xs].all formOk = true → r = some ⟨[xs], seenRows 0 N 1, 0⟩) := Lib.hid (fun N hN h1 h2 h3 => by
    rw [hrr, hN]
    unfold seenR
    rw [inB_yes (by omega) (by omega), h3, decide_eq_true (by omega)]
    exact congrArg some (seenM_rows 0 N [xs]))
  clear hrr
  unfold EvAns2
  by_cases hf : formOk xs = false
  · have HRn := Lib.hid (HRX.out (fun h => by have := h.2.2; simp [hf] at this))
    rw [hf] at KF
    clear HRX HRY hf
    go_enter Try.func19, Try.ntmps19
    go_wp2_with fail
    refine (KF.out _ (by go_grown)).mono ?_
    rintro e w1 ⟨rfl, hb1⟩
    have RR := Lib.hid (Mcell.below (b := w.heap.size) (Mcell.new (w := w) (T := 38) (fv := .slice none 0 0) (bv := .slice none 0 0) (n := 0) rfl) hb1)
    have BB : Hid (Below w.heap.size w w1) := Lib.hid (Below.trans (by go_grown) (hb1.mono (by simp)))
    clear hb1
    obtain ⟨m0, m1, m2, m3, m4, m5⟩ := RR.out
    go_wp2
    clear m0 m1 m2 m3 m4 m5
    have M6 := RR.out.write (.slice none 0 0) (.slice none 0 0) 0
    refine bodyPost_ret (results_mid2 Try.results19 _ _ w.heap.size _ _ (.bool false) rfl rfl M6.range Try.underlying38 rfl Try.sizeEd) rfl ?_
    rw [HRn.out]
    exact ⟨_, rfl, Vo.none _ _ _, ((BB.out.setCell (by show _ ≤ w.heap.size; omega) _).setCell (by show _ ≤ w.heap.size; omega) _).setCell (by show _ ≤ w.heap.size; omega) _⟩
  have hf : formOk xs = true := by simpa using hf
  rw [hf] at KF
  have KC := Lib.hid (KC.out hf)
  by_cases hA : ¬ (1 ≤ A ∧ A ≤ 3)
  · have HRn := Lib.hid (HRX.out (fun h => by have h1 := h.1; unfold inB at h1; simp at h1; omega))
    have KI := Lib.hid (fun W => inI_no A 1 3 W (by omega))
    clear HRX HRY hA
    go_enter Try.func19, Try.ntmps19
    go_wp2_with fail
    refine (KF.out _ (by go_grown)).mono ?_
    rintro e w1 ⟨rfl, hb1⟩
    have RR := Lib.hid (Mcell.below (b := w.heap.size) (Mcell.new (w := w) (T := 38) (fv := .slice none 0 0) (bv := .slice none 0 0) (n := 0) rfl) hb1)
    have BB : Hid (Below w.heap.size w w1) := Lib.hid (Below.trans (by go_grown) (hb1.mono (by simp)))
    clear hb1
    obtain ⟨m0, m1, m2, m3, m4, m5⟩ := RR.out
    go_wp2_with (go_at_call 43; refine (KI.out _).mono ?_; rintro e w' ⟨rfl, rfl⟩)
    clear m0 m1 m2 m3 m4 m5
    have M6 := RR.out.write (.slice none 0 0) (.slice none 0 0) 0
    refine bodyPost_ret (results_mid2 Try.results19 _ _ w.heap.size _ _ (.bool false) rfl rfl M6.range Try.underlying38 rfl Try.sizeEd) rfl ?_
    rw [HRn.out]
    exact ⟨_, rfl, Vo.none _ _ _, ((BB.out.setCell (by show _ ≤ w.heap.size; omega) _).setCell (by show _ ≤ w.heap.size; omega) _).setCell (by show _ ≤ w.heap.size; omega) _⟩
  have hA' : 1 ≤ A ∧ A ≤ 3 := Classical.byContradiction hA
  obtain ⟨hA1, hA3⟩ := hA'
  clear hA
  have KI := Lib.hid (fun W => inI_yes A 1 3 W hA1 hA3)
  obtain ⟨N, hNN⟩ := Int.eq_ofNat_of_zero_le (show 0 ≤ A by omega)
  subst hNN
  have hgN : 0 < N := by omega
  have hN3 : N ≤ 3 := by omega
  have HRs := Lib.hid (HRY.out N rfl hgN hN3 (by simp [hf]))
  clear HRX HRY
  go_enter Try.func19, Try.ntmps19
  go_wp2_with fail
  refine (KF.out _ (by go_grown)).mono ?_
  rintro e w1 ⟨rfl, hb1⟩
  have RR := Lib.hid (Mcell.below (b := w.heap.size) (Mcell.new (w := w) (T := 38) (fv := .slice none 0 0) (bv := .slice none 0 0) (n := 0) rfl) hb1)
  have BB : Hid (Below w.heap.size w w1) := Lib.hid (Below.trans (by go_grown) (hb1.mono (by simp)))
  clear hb1
  go_wp2_with (first | (go_at_call 43; refine (KI.out _).mono ?_; rintro e w' ⟨rfl, rfl⟩))
  have hlow := RR.out.lt
  refine (KC.out _ BB.out).mono ?_
  rintro e w3 ⟨v3, rfl, ho3, hb3⟩
  have RR := Lib.hid (RR.out.below hb3)
  have BB := Lib.hid (BB.out.trans (hb3.mono BB.out.size))
  have hs3 := hb3.size
  have O3 := Lib.hid ho3
  obtain ⟨qa3, qc3, e3⟩ := ho3.form
  subst e3
  clear ho3 hb3
  go_wp2
  have hsz : ((w3.alloc (.cells #[.slice qa3 xs.length qc3] 46)).alloc (.cells #[.slice (some ⟨w3.heap.size, 0, none⟩) 1 1, .slice none 0 0, .int .i64 0] 38)).heap.size = w3.heap.size + 2 := by simp
  have EE : Hid (Mcell ((w3.alloc (.cells #[.slice qa3 xs.length qc3] 46)).alloc (.cells #[.slice (some ⟨w3.heap.size, 0, none⟩) 1 1, .slice none 0 0, .int .i64 0] 38)) (w3.heap.size + 1) (.slice (some ⟨w3.heap.size, 0, none⟩) 1 1) (.slice none 0 0) 0) := Lib.hid (Mcell.new (by simp))
  have OO : Hid (Noo w1.heap.size (w3.alloc (.cells #[.slice qa3 xs.length qc3] 46)).heap.size ((w3.alloc (.cells #[.slice qa3 xs.length qc3] 46)).alloc (.cells #[.slice (some ⟨w3.heap.size, 0, none⟩) 1 1, .slice none 0 0, .int .i64 0] 38)) (.slice (some ⟨w3.heap.size, 0, none⟩) 1 1) [.slice qa3 xs.length qc3] [xs]) := Lib.hid ((noo_one O3.out (Nat.le_refl _) hs3).keeps (Keeps.of_all ((Below.refl _ _).alloc (Nat.le_refl _) _)))
  have hx : (w3.alloc (.cells #[.slice qa3 xs.length qc3] 46)).heap.size = w3.heap.size + 1 := by simp
  rw [hx] at OO
  have RR : Hid (Mcell ((w3.alloc (.cells #[.slice qa3 xs.length qc3] 46)).alloc (.cells #[.slice (some ⟨w3.heap.size, 0, none⟩) 1 1, .slice none 0 0, .int .i64 0] 38)) w.heap.size (.slice none 0 0) (.slice none 0 0) 0) := Lib.hid ((RR.out.alloc _).alloc _)
  have hlt := RR.out.lt
  have BB2 : Hid (Below w.heap.size w ((w3.alloc (.cells #[.slice qa3 xs.length qc3] 46)).alloc (.cells #[.slice (some ⟨w3.heap.size, 0, none⟩) 1 1, .slice none 0 0, .int .i64 0] 38))) := Lib.hid ((BB.out.alloc BB.out.size _).alloc (by have := BB.out.size; simp; omega) _)
  have hbs := BB.out.size
  clear hx
  clear BB
  generalize (w3.alloc (.cells #[.slice qa3 xs.length qc3] 46)).alloc (.cells #[.slice (some ⟨w3.heap.size, 0, none⟩) 1 1, .slice none 0 0, .int .i64 0] 38) = wc at *
  have hb5 : w.heap.size < w3.heap.size + 1 := by omega
  go_loopw [7] (fun iv wr => ∃ (k : Nat) (bv : Value) (vs : List Value), k ≤ N ∧ iv = .int .i64 k ∧ Hid (vs.length = k) ∧ Hid (Mcell wr (w3.heap.size + 1) (.slice (some ⟨w3.heap.size, 0, none⟩) 1 1) bv 0) ∧ Hid (Ioo wc.heap.size wr.heap.size wr bv vs ((seenRows 0 N 1).take k)) ∧ Hid (Noo w1.heap.size (w3.heap.size + 1) wr (.slice (some ⟨w3.heap.size, 0, none⟩) 1 1) [.slice qa3 xs.length qc3] [xs]) ∧ Hid (Mcell wr w.heap.size (.slice none 0 0) (.slice none 0 0) 0) ∧ Hid (Below w.heap.size w wr) ∧ wc.heap.size ≤ wr.heap.size) (fun iv _ => N - (intOf iv).toNat)
  case atStart => exact ⟨0, _, [], Nat.zero_le _, rfl, Lib.hid rfl, EE, Lib.hid ⟨Ro.nil _ _ _ _, ⟨rfl, fun j hj => by simp at hj⟩, List.pairwise_singleton _ _⟩, OO, RR, BB2, Nat.le_refl _⟩
  case round =>
    clear EE OO RR BB2
    obtain ⟨k, bv, vs, hk, rfl, HVL, EQ, IQ, OQ, RQ, BQ, hwq⟩ := hrel
    by_cases hkn : k < N
    · have hk0 : (0 : Int) ≤ (k : Int) := Int.natCast_nonneg _
      have hk1 : (k : Int) < (N : Int) := by omega
      have hvl := HVL.out
      have HTK := Lib.hid (seenRows_take (ag := 0) (n := 1) hkn)
      have HROW : (if k = 0 then (List.range 1).map fun (i : Nat) => (i : Int) else List.replicate 1 0) = [0] := by split <;> rfl
      rw [HROW] at HTK
      clear HROW
      have V5 : Hid (Io wr.heap.size (wr.heap.size + 1) (wr.alloc (.cells #[.int .i64 0] 3)) (.slice (some ⟨wr.heap.size, 0, none⟩) 1 1) [0]) := Lib.hid ⟨World.ownsRow_lit _ #[.int .i64 0] 1 (Nat.le_refl _) (by decide) rfl, fun q hq => by cases hq; exact Nat.lt_succ_self _⟩
      have hs5 : (wr.alloc (.cells #[.int .i64 0] 3)).heap.size = wr.heap.size + 1 := by simp
      have T5 : Hid (Below wr.heap.size wr (wr.alloc (.cells #[.int .i64 0] 3))) := Lib.hid ((Below.refl _ _).alloc (Nat.le_refl _) _)
      have E5 := Lib.hid (EQ.out.below T5.out)
      have I5 := Lib.hid (IQ.out.keeps (Keeps.of_all T5.out))
      have O5 := Lib.hid (OQ.out.keeps (Keeps.of_all T5.out))
      have R5 := Lib.hid (RQ.out.below T5.out)
      have B5 := Lib.hid (BQ.out.trans (T5.out.mono BQ.out.size))
      obtain ⟨c0, c1, c2, c3, c4, c5⟩ := EQ.out
      have hne : ∀ q, q < wc.heap.size → bv.ownBlock ≠ some q := fun q hq e => by have := (I5.out.1.1.lt q e).1; omega
      have hEl := EQ.out.lt
      go_wp2_with (at_builtin; refine wpList_pushL rfl (.tmp 27) (.tmp 29) 23 30 rfl rfl 22 (.slice none 0 0) 24 Try.underlying23 Try.infoL rfl wc.heap.size (.slice (some ⟨wr.heap.size, 0, none⟩) 1 1) bv vs.length vs I5.out.1.1 rfl (wr.heap.size + 1) rfl hs5.symm rfl (by unfold maxLen; omega) (by omega) (by omega) ?_; intro v16 w16 hown16 hg16; have I16 := Lib.hid (Ioo.push I5.out (h2 := wr.heap.size + 1) V5.out (by omega) (by omega) hwq hown16 hg16); have E16 := Lib.hid (E5.out.of_block (hg16.block (by omega) (hne _ (by omega)))); have R16 := Lib.hid (R5.out.of_block (hg16.block (by omega) (hne _ (by omega)))); have t16 : Below wc.heap.size (wr.alloc (.cells #[.int .i64 0] 3)) w16 := hg16.below (by omega) (fun q hq => (I5.out.1.1.lt q hq).1); have O16 := Lib.hid (O5.out.keeps (Keeps.of_below t16 (by omega))); have B16 : Hid (Below w.heap.size w w16) := Lib.hid (B5.out.trans (t16.mono (by omega))); have hs16 : wr.heap.size + 1 ≤ w16.heap.size := (by have := t16.size; omega); obtain ⟨v16a, v16c, e16⟩ := I16.out.1.form; rw [show (vs ++ [Value.slice (some ⟨wr.heap.size, 0, none⟩) 1 1]).length = k + 1 by simp [hvl]] at e16; subst e16; obtain ⟨d0, d1, d2, d3, d4, d5⟩ := E16.out; clear hown16 hg16 t16)
      clear d0 d1 d2 d3 d4 d5 c0 c1 c2 c3 c4 c5
      go_roundw
      case rel =>
        refine ⟨k + 1, _, vs ++ [.slice (some ⟨wr.heap.size, 0, none⟩) 1 1], by omega, by go_num, Lib.hid (by simp [hvl]), Lib.hid (E16.out.set1 _), Lib.hid ?_, Lib.hid (O16.out.keeps (Keeps.setCell _ _ _ _ (.inr (by omega)))), Lib.hid (R16.out.other (by omega) _ _), Lib.hid (B16.out.setCell (by show _ ≤ w3.heap.size + 1; omega) _), by simp [World.setCell]; omega⟩
        rw [HTK.out, show (w16.setCell ⟨w3.heap.size + 1, 1, none⟩ (.slice v16a (k + 1) v16c)).heap.size = w16.heap.size by simp [World.setCell]]
        exact I16.out.keeps (Keeps.setCell w16 (w3.heap.size + 1) 1 (.slice v16a (k + 1) v16c) (.inl (by omega)))
      case measure => simp [intOf]; omega
    · obtain rfl : k = N := by omega
      have IT := IQ.out
      rw [seenRows_all] at IT
      obtain ⟨ba, bc, eb⟩ := IQ.out.1.form
      subst eb
      obtain ⟨c0, c1, c2, c3, c4, c5⟩ := EQ.out
      obtain ⟨m0, m1, m2, m3, m4, m5⟩ := RQ.out
      go_wp2
      clear c0 c1 c2 c3 c4 c5 m0 m1 m2 m3 m4 m5
      have M6 := RQ.out.write (.slice (some ⟨w3.heap.size, 0, none⟩) 1 1) (.slice ba vs.length bc) 0
      refine bodyPost_ret (results_mid2 Try.results19 _ _ w.heap.size _ _ (.bool true) rfl rfl M6.range Try.underlying38 rfl Try.sizeEd) rfl ?_
      rw [HRs.out]
      have hz : (((wr.setCell ⟨w.heap.size, 0, none⟩ (.slice (some ⟨w3.heap.size, 0, none⟩) 1 1)).setCell ⟨w.heap.size, 1, none⟩ (.slice ba vs.length bc)).setCell ⟨w.heap.size, 2, none⟩ (.int .i64 0)).heap.size = wr.heap.size := by simp [World.setCell]
      refine ⟨_, rfl, ⟨_, _, [.slice qa3 xs.length qc3], vs, rfl, ?_, ?_, ?_⟩, ((BQ.out.setCell (by show _ ≤ w.heap.size; omega) _).setCell (by show _ ≤ w.heap.size; omega) _).setCell (by show _ ≤ w.heap.size; omega) _⟩
      · rw [hz]
        exact (OQ.out.keeps (((Keeps.setCell _ _ _ _ (.inl (by omega))).set (.inl (by omega)) _ _).set (.inl (by omega)) _ _)).wide (by omega) (by omega)
      · rw [hz]
        exact (IT.keeps (((Keeps.setCell wr w.heap.size 0 (.slice (some ⟨w3.heap.size, 0, none⟩) 1 1) (.inl (by omega))).set (b := w.heap.size) (.inl (by omega)) 1 (.slice ba vs.length bc)).set (b := w.heap.size) (.inl (by omega)) 2 (.int .i64 0))).wide (by omega) (Nat.le_refl _)
      · intro y hy u hu
        refine apart_lt (B := w3.heap.size + 1) (fun q hq => ?_) (fun q hq => ?_)
        · rcases List.mem_cons.1 hy with rfl | hy
          · exact OQ.out.1.2 q hq
          · exact (OQ.out.2.1.blk hy q hq).2.1
        · rcases List.mem_cons.1 hu with rfl | hu
          · have := (IT.1.1.lt q hq).1; omega
          · have := (IT.2.1.blk hu q hq).1; omega

set_option maxRecDepth 100000 in
set_option maxHeartbeats 32000000 in
theorem specTwo_any (u u2 : Value) (xs ys : List Nd) (ag A : Int) (w : World) (hu : Ns w u xs) (hu2 : Ns w u2 ys) :
    Calls Try.prog 57 #[u, u2, .int .i64 ag, .int .i64 A] w (EvAns2 w (seenR ag A [xs, ys])) := by
  have KF := Lib.hid (fun W (h : Below w.heap.size w W) => specForm_any u xs W (hu.below h (Nat.le_refl _)))
  have KC := Lib.hid (fun (hf : formOk xs = true) W (h : Below w.heap.size w W) => copyN_any u xs W (hu.below h (Nat.le_refl _)) (form_pos hf).1 (by have := (form_pos hf).2; omega))
  obtain ⟨ua, uc, uf, _⟩ := id hu
  subst uf
  have KG := Lib.hid (fun W (h : Below w.heap.size w W) => specForm_any u2 ys W (hu2.below h (Nat.le_refl _)))
  have KD := Lib.hid (fun (hf : formOk ys = true) W (h : Below w.heap.size w W) => copyN_any u2 ys W (hu2.below h (Nat.le_refl _)) (form_pos hf).1 (by have := (form_pos hf).2; omega))
  obtain ⟨ua2, uc2, uf2, _⟩ := id hu2
  subst uf2
  clear hu2
  clear hu
  obtain ⟨r, hrr⟩ : ∃ r, r = seenR ag A [xs, ys] := ⟨_, rfl⟩
  rw [← hrr]
  have HRX : Hid (¬ (inB ag A = true ∧ A ≤ 3 ∧ [xs, ys].all formOk = true) → r = none) := Lib.hid (fun h => by rw [hrr]; exact seenR_false h)
  have HRY : Hid (∀ (g N : Nat), ag = g → A = N → g < N → N ≤ 3 → [xs, ys].all formOk = true → r = some ⟨[xs, ys], seenRows g N 2, 0⟩) := Lib.hid (fun g N hg hN h1 h2 h3 => by
    rw [hrr, hg, hN]
    unfold seenR
    rw [inB_yes (by omega) (by omega), h3, decide_eq_true (by omega), seenM_rows]; rfl)
  clear hrr
  unfold EvAns2
  by_cases hf : formOk xs = false
  · have HRn := Lib.hid (HRX.out (fun h => by have := h.2.2; simp [hf] at this))
    rw [hf] at KF
    clear HRX HRY hf
    go_enter Try.func57, Try.ntmps57
    go_wp2_with fail
    refine (KF.out _ (by go_grown)).mono ?_
    rintro e w1 ⟨rfl, hb1⟩
    have RR := Lib.hid (Mcell.below (b := w.heap.size) (Mcell.new (w := w) (T := 38) (fv := .slice none 0 0) (bv := .slice none 0 0) (n := 0) rfl) hb1)
    have BB : Hid (Below w.heap.size w w1) := Lib.hid (Below.trans (by go_grown) (hb1.mono (by simp)))
    clear hb1
    obtain ⟨m0, m1, m2, m3, m4, m5⟩ := RR.out
    go_wp2
    clear m0 m1 m2 m3 m4 m5
    have M6 := RR.out.write (.slice none 0 0) (.slice none 0 0) 0
    refine bodyPost_ret (results_mid2 Try.results57 _ _ w.heap.size _ _ (.bool false) rfl rfl M6.range Try.underlying38 rfl Try.sizeEd) rfl ?_
    rw [HRn.out]
    exact ⟨_, rfl, Vo.none _ _ _, ((BB.out.setCell (by show _ ≤ w.heap.size; omega) _).setCell (by show _ ≤ w.heap.size; omega) _).setCell (by show _ ≤ w.heap.size; omega) _⟩
  have hf : formOk xs = true := by simpa using hf
  rw [hf] at KF
  have KC := Lib.hid (KC.out hf)
  by_cases hg : formOk ys = false
  · have HRn := Lib.hid (HRX.out (fun h => by have := h.2.2; simp [hg] at this))
    rw [hg] at KG
    clear HRX HRY hg
    go_enter Try.func57, Try.ntmps57
    go_wp2_with fail
    refine (KF.out _ (by go_grown)).mono ?_
    rintro e w1 ⟨rfl, hb1⟩
    have RR := Lib.hid (Mcell.below (b := w.heap.size) (Mcell.new (w := w) (T := 38) (fv := .slice none 0 0) (bv := .slice none 0 0) (n := 0) rfl) hb1)
    have BB : Hid (Below w.heap.size w w1) := Lib.hid (Below.trans (by go_grown) (hb1.mono (by simp)))
    clear hb1
    go_wp2_with fail
    refine (KG.out _ BB.out).mono ?_
    rintro e w2 ⟨rfl, hb2⟩
    have RR := Lib.hid (RR.out.below hb2)
    have BB := Lib.hid (BB.out.trans (hb2.mono BB.out.size))
    clear hb2
    obtain ⟨m0, m1, m2, m3, m4, m5⟩ := RR.out
    go_wp2
    clear m0 m1 m2 m3 m4 m5
    have M6 := RR.out.write (.slice none 0 0) (.slice none 0 0) 0
    refine bodyPost_ret (results_mid2 Try.results57 _ _ w.heap.size _ _ (.bool false) rfl rfl M6.range Try.underlying38 rfl Try.sizeEd) rfl ?_
    rw [HRn.out]
    exact ⟨_, rfl, Vo.none _ _ _, ((BB.out.setCell (by show _ ≤ w.heap.size; omega) _).setCell (by show _ ≤ w.heap.size; omega) _).setCell (by show _ ≤ w.heap.size; omega) _⟩
  have hg : formOk ys = true := by simpa using hg
  rw [hg] at KG
  have KD := Lib.hid (KD.out hg)
  by_cases hA : ¬ (1 ≤ A ∧ A ≤ 3)
  · have HRn := Lib.hid (HRX.out (fun h => by have h1 := h.1; unfold inB at h1; simp at h1; omega))
    have KI := Lib.hid (fun W => inI_no A 1 3 W (by omega))
    clear HRX HRY hA
    go_enter Try.func57, Try.ntmps57
    go_wp2_with fail
    refine (KF.out _ (by go_grown)).mono ?_
    rintro e w1 ⟨rfl, hb1⟩
    have RR := Lib.hid (Mcell.below (b := w.heap.size) (Mcell.new (w := w) (T := 38) (fv := .slice none 0 0) (bv := .slice none 0 0) (n := 0) rfl) hb1)
    have BB : Hid (Below w.heap.size w w1) := Lib.hid (Below.trans (by go_grown) (hb1.mono (by simp)))
    clear hb1
    go_wp2_with fail
    refine (KG.out _ BB.out).mono ?_
    rintro e w2 ⟨rfl, hb2⟩
    have RR := Lib.hid (RR.out.below hb2)
    have BB := Lib.hid (BB.out.trans (hb2.mono BB.out.size))
    clear hb2
    obtain ⟨m0, m1, m2, m3, m4, m5⟩ := RR.out
    go_wp2_with (go_at_call 43; refine (KI.out _).mono ?_; rintro e w' ⟨rfl, rfl⟩)
    clear m0 m1 m2 m3 m4 m5
    have M6 := RR.out.write (.slice none 0 0) (.slice none 0 0) 0
    refine bodyPost_ret (results_mid2 Try.results57 _ _ w.heap.size _ _ (.bool false) rfl rfl M6.range Try.underlying38 rfl Try.sizeEd) rfl ?_
    rw [HRn.out]
    exact ⟨_, rfl, Vo.none _ _ _, ((BB.out.setCell (by show _ ≤ w.heap.size; omega) _).setCell (by show _ ≤ w.heap.size; omega) _).setCell (by show _ ≤ w.heap.size; omega) _⟩
  have hA' : 1 ≤ A ∧ A ≤ 3 := Classical.byContradiction hA
  obtain ⟨hA1, hA3⟩ := hA'
  clear hA
  have KI := Lib.hid (fun W => inI_yes A 1 3 W hA1 hA3)
  by_cases hlo : ag < 0
  · have HRn := Lib.hid (HRX.out (fun h => by have h1 := h.1; unfold inB at h1; simp at h1; omega))
    have d1 : decide (ag < 0) = true := decide_eq_true hlo
    clear HRX HRY
    go_enter Try.func57, Try.ntmps57
    go_wp2_with fail
    refine (KF.out _ (by go_grown)).mono ?_
    rintro e w1 ⟨rfl, hb1⟩
    have RR := Lib.hid (Mcell.below (b := w.heap.size) (Mcell.new (w := w) (T := 38) (fv := .slice none 0 0) (bv := .slice none 0 0) (n := 0) rfl) hb1)
    have BB : Hid (Below w.heap.size w w1) := Lib.hid (Below.trans (by go_grown) (hb1.mono (by simp)))
    clear hb1
    go_wp2_with fail
    refine (KG.out _ BB.out).mono ?_
    rintro e w2 ⟨rfl, hb2⟩
    have RR := Lib.hid (RR.out.below hb2)
    have BB := Lib.hid (BB.out.trans (hb2.mono BB.out.size))
    clear hb2
    obtain ⟨m0, m1, m2, m3, m4, m5⟩ := RR.out
    go_wp2_with (go_at_call 43; refine (KI.out _).mono ?_; rintro e w' ⟨rfl, rfl⟩)
    clear m0 m1 m2 m3 m4 m5
    have M6 := RR.out.write (.slice none 0 0) (.slice none 0 0) 0
    refine bodyPost_ret (results_mid2 Try.results57 _ _ w.heap.size _ _ (.bool false) rfl rfl M6.range Try.underlying38 rfl Try.sizeEd) rfl ?_
    rw [HRn.out]
    exact ⟨_, rfl, Vo.none _ _ _, ((BB.out.setCell (by show _ ≤ w.heap.size; omega) _).setCell (by show _ ≤ w.heap.size; omega) _).setCell (by show _ ≤ w.heap.size; omega) _⟩
  have d1 : decide (ag < 0) = false := decide_eq_false hlo
  by_cases hhi : A ≤ ag
  · have HRn := Lib.hid (HRX.out (fun h => by have h1 := h.1; unfold inB at h1; simp at h1; omega))
    have d2 : decide (A ≤ ag) = true := decide_eq_true hhi
    clear HRX HRY
    go_enter Try.func57, Try.ntmps57
    go_wp2_with fail
    refine (KF.out _ (by go_grown)).mono ?_
    rintro e w1 ⟨rfl, hb1⟩
    have RR := Lib.hid (Mcell.below (b := w.heap.size) (Mcell.new (w := w) (T := 38) (fv := .slice none 0 0) (bv := .slice none 0 0) (n := 0) rfl) hb1)
    have BB : Hid (Below w.heap.size w w1) := Lib.hid (Below.trans (by go_grown) (hb1.mono (by simp)))
    clear hb1
    go_wp2_with fail
    refine (KG.out _ BB.out).mono ?_
    rintro e w2 ⟨rfl, hb2⟩
    have RR := Lib.hid (RR.out.below hb2)
    have BB := Lib.hid (BB.out.trans (hb2.mono BB.out.size))
    clear hb2
    obtain ⟨m0, m1, m2, m3, m4, m5⟩ := RR.out
    go_wp2_with (go_at_call 43; refine (KI.out _).mono ?_; rintro e w' ⟨rfl, rfl⟩)
    clear m0 m1 m2 m3 m4 m5
    have M6 := RR.out.write (.slice none 0 0) (.slice none 0 0) 0
    refine bodyPost_ret (results_mid2 Try.results57 _ _ w.heap.size _ _ (.bool false) rfl rfl M6.range Try.underlying38 rfl Try.sizeEd) rfl ?_
    rw [HRn.out]
    exact ⟨_, rfl, Vo.none _ _ _, ((BB.out.setCell (by show _ ≤ w.heap.size; omega) _).setCell (by show _ ≤ w.heap.size; omega) _).setCell (by show _ ≤ w.heap.size; omega) _⟩
  have d2 : decide (A ≤ ag) = false := decide_eq_false hhi
  obtain ⟨g, hgg⟩ := Int.eq_ofNat_of_zero_le (show 0 ≤ ag by omega)
  subst hgg
  obtain ⟨N, hNN⟩ := Int.eq_ofNat_of_zero_le (show 0 ≤ A by omega)
  subst hNN
  have hgN : g < N := by omega
  have hN3 : N ≤ 3 := by omega
  have HRs := Lib.hid (HRY.out g N rfl rfl hgN hN3 (by simp [hf, hg]))
  clear HRX HRY
  go_enter Try.func57, Try.ntmps57
  go_wp2_with fail
  refine (KF.out _ (by go_grown)).mono ?_
  rintro e w1 ⟨rfl, hb1⟩
  have RR := Lib.hid (Mcell.below (b := w.heap.size) (Mcell.new (w := w) (T := 38) (fv := .slice none 0 0) (bv := .slice none 0 0) (n := 0) rfl) hb1)
  have BB : Hid (Below w.heap.size w w1) := Lib.hid (Below.trans (by go_grown) (hb1.mono (by simp)))
  clear hb1
  go_wp2_with fail
  refine (KG.out _ BB.out).mono ?_
  rintro e w2 ⟨rfl, hb2⟩
  have RR := Lib.hid (RR.out.below hb2)
  have BB := Lib.hid (BB.out.trans (hb2.mono BB.out.size))
  clear hb2
  go_wp2_with (first | (go_at_call 43; refine (KI.out _).mono ?_; rintro e w' ⟨rfl, rfl⟩))
  have hlow := RR.out.lt
  refine (KC.out _ BB.out).mono ?_
  rintro e w3 ⟨v3, rfl, ho3, hb3⟩
  have RR := Lib.hid (RR.out.below hb3)
  have BB := Lib.hid (BB.out.trans (hb3.mono BB.out.size))
  have hs3 := hb3.size
  have O3 := Lib.hid ho3
  obtain ⟨qa3, qc3, e3⟩ := ho3.form
  subst e3
  clear ho3 hb3
  go_wp2_with fail
  refine (KD.out _ BB.out).mono ?_
  rintro e w4 ⟨v4, rfl, ho4, hb4⟩
  have RR := Lib.hid (RR.out.below hb4)
  have BB := Lib.hid (BB.out.trans (hb4.mono BB.out.size))
  have hs4 := hb4.size
  have O3 := Lib.hid (O3.out.keeps (Keeps.of_all hb4))
  have O4 := Lib.hid ho4
  obtain ⟨qa4, qc4, e4⟩ := ho4.form
  subst e4
  clear ho4 hb4
  go_wp2
  have hsz : ((w4.alloc (.cells #[.slice qa3 xs.length qc3, .slice qa4 ys.length qc4] 46)).alloc (.cells #[.slice (some ⟨w4.heap.size, 0, none⟩) 2 2, .slice none 0 0, .int .i64 0] 38)).heap.size = w4.heap.size + 2 := by simp
  have EE : Hid (Mcell ((w4.alloc (.cells #[.slice qa3 xs.length qc3, .slice qa4 ys.length qc4] 46)).alloc (.cells #[.slice (some ⟨w4.heap.size, 0, none⟩) 2 2, .slice none 0 0, .int .i64 0] 38)) (w4.heap.size + 1) (.slice (some ⟨w4.heap.size, 0, none⟩) 2 2) (.slice none 0 0) 0) := Lib.hid (Mcell.new (by simp))
  have OO : Hid (Noo w2.heap.size (w4.alloc (.cells #[.slice qa3 xs.length qc3, .slice qa4 ys.length qc4] 46)).heap.size ((w4.alloc (.cells #[.slice qa3 xs.length qc3, .slice qa4 ys.length qc4] 46)).alloc (.cells #[.slice (some ⟨w4.heap.size, 0, none⟩) 2 2, .slice none 0 0, .int .i64 0] 38)) (.slice (some ⟨w4.heap.size, 0, none⟩) 2 2) [.slice qa3 xs.length qc3, .slice qa4 ys.length qc4] [xs, ys]) := Lib.hid ((noo_two O3.out O4.out hs3 hs4 (Nat.le_refl _)).keeps (Keeps.of_all ((Below.refl _ _).alloc (Nat.le_refl _) _)))
  have hx : (w4.alloc (.cells #[.slice qa3 xs.length qc3, .slice qa4 ys.length qc4] 46)).heap.size = w4.heap.size + 1 := by simp
  rw [hx] at OO
  have RR : Hid (Mcell ((w4.alloc (.cells #[.slice qa3 xs.length qc3, .slice qa4 ys.length qc4] 46)).alloc (.cells #[.slice (some ⟨w4.heap.size, 0, none⟩) 2 2, .slice none 0 0, .int .i64 0] 38)) w.heap.size (.slice none 0 0) (.slice none 0 0) 0) := Lib.hid ((RR.out.alloc _).alloc _)
  have hlt := RR.out.lt
  have BB2 : Hid (Below w.heap.size w ((w4.alloc (.cells #[.slice qa3 xs.length qc3, .slice qa4 ys.length qc4] 46)).alloc (.cells #[.slice (some ⟨w4.heap.size, 0, none⟩) 2 2, .slice none 0 0, .int .i64 0] 38))) := Lib.hid ((BB.out.alloc BB.out.size _).alloc (by have := BB.out.size; simp; omega) _)
  have hbs := BB.out.size
  clear hx
  clear BB
  generalize (w4.alloc (.cells #[.slice qa3 xs.length qc3, .slice qa4 ys.length qc4] 46)).alloc (.cells #[.slice (some ⟨w4.heap.size, 0, none⟩) 2 2, .slice none 0 0, .int .i64 0] 38) = wc at *
  have hb5 : w.heap.size < w4.heap.size + 1 := by omega
  go_loopw [11] (fun iv wr => ∃ (k : Nat) (bv : Value) (vs : List Value), k ≤ N ∧ iv = .int .i64 k ∧ Hid (vs.length = k) ∧ Hid (Mcell wr (w4.heap.size + 1) (.slice (some ⟨w4.heap.size, 0, none⟩) 2 2) bv 0) ∧ Hid (Ioo wc.heap.size wr.heap.size wr bv vs ((seenRows g N 2).take k)) ∧ Hid (Noo w2.heap.size (w4.heap.size + 1) wr (.slice (some ⟨w4.heap.size, 0, none⟩) 2 2) [.slice qa3 xs.length qc3, .slice qa4 ys.length qc4] [xs, ys]) ∧ Hid (Mcell wr w.heap.size (.slice none 0 0) (.slice none 0 0) 0) ∧ Hid (Below w.heap.size w wr) ∧ wc.heap.size ≤ wr.heap.size) (fun iv _ => N - (intOf iv).toNat)
  case atStart => exact ⟨0, _, [], Nat.zero_le _, rfl, Lib.hid rfl, EE, Lib.hid ⟨Ro.nil _ _ _ _, ⟨rfl, fun j hj => by simp at hj⟩, List.pairwise_singleton _ _⟩, OO, RR, BB2, Nat.le_refl _⟩
  case round =>
    clear EE OO RR BB2
    obtain ⟨k, bv, vs, hk, rfl, HVL, EQ, IQ, OQ, RQ, BQ, hwq⟩ := hrel
    by_cases hkn : k < N
    · have hk0 : (0 : Int) ≤ (k : Int) := Int.natCast_nonneg _
      have hk1 : (k : Int) < (N : Int) := by omega
      have hvl := HVL.out
      have HTK := Lib.hid (seenRows_take (ag := g) (n := 2) hkn)
      by_cases hkg : k = g
      · have HROW : (if k = g then (List.range 2).map fun (i : Nat) => (i : Int) else List.replicate 2 0) = [0, 1] := by rw [if_pos hkg]; rfl
        have dk : ((k : Int) == (g : Int)) = true := by rw [beq_iff_eq]; omega
        rw [HROW] at HTK
        clear HROW
        have V5 : Hid (Io wr.heap.size (wr.heap.size + 1) (wr.alloc (.cells #[.int .i64 0, .int .i64 1] 3)) (.slice (some ⟨wr.heap.size, 0, none⟩) 2 2) [0, 1]) := Lib.hid ⟨World.ownsRow_lit _ #[.int .i64 0, .int .i64 1] 2 (Nat.le_refl _) (by decide) rfl, fun q hq => by cases hq; exact Nat.lt_succ_self _⟩
        have hs5 : (wr.alloc (.cells #[.int .i64 0, .int .i64 1] 3)).heap.size = wr.heap.size + 1 := by simp
        have T5 : Hid (Below wr.heap.size wr (wr.alloc (.cells #[.int .i64 0, .int .i64 1] 3))) := Lib.hid ((Below.refl _ _).alloc (Nat.le_refl _) _)
        have E5 := Lib.hid (EQ.out.below T5.out)
        have I5 := Lib.hid (IQ.out.keeps (Keeps.of_all T5.out))
        have O5 := Lib.hid (OQ.out.keeps (Keeps.of_all T5.out))
        have R5 := Lib.hid (RQ.out.below T5.out)
        have B5 := Lib.hid (BQ.out.trans (T5.out.mono BQ.out.size))
        obtain ⟨c0, c1, c2, c3, c4, c5⟩ := EQ.out
        have hne : ∀ q, q < wc.heap.size → bv.ownBlock ≠ some q := fun q hq e => by have := (I5.out.1.1.lt q e).1; omega
        have hEl := EQ.out.lt
        go_wp2_with (at_builtin; refine wpList_pushL rfl (.tmp 50) (.tmp 52) 23 53 rfl rfl 22 (.slice none 0 0) 24 Try.underlying23 Try.infoL rfl wc.heap.size (.slice (some ⟨wr.heap.size, 0, none⟩) 2 2) bv vs.length vs I5.out.1.1 rfl (wr.heap.size + 1) rfl hs5.symm rfl (by unfold maxLen; omega) (by omega) (by omega) ?_; intro v16 w16 hown16 hg16; have I16 := Lib.hid (Ioo.push I5.out (h2 := wr.heap.size + 1) V5.out (by omega) (by omega) hwq hown16 hg16); have E16 := Lib.hid (E5.out.of_block (hg16.block (by omega) (hne _ (by omega)))); have R16 := Lib.hid (R5.out.of_block (hg16.block (by omega) (hne _ (by omega)))); have t16 : Below wc.heap.size (wr.alloc (.cells #[.int .i64 0, .int .i64 1] 3)) w16 := hg16.below (by omega) (fun q hq => (I5.out.1.1.lt q hq).1); have O16 := Lib.hid (O5.out.keeps (Keeps.of_below t16 (by omega))); have B16 : Hid (Below w.heap.size w w16) := Lib.hid (B5.out.trans (t16.mono (by omega))); have hs16 : wr.heap.size + 1 ≤ w16.heap.size := (by have := t16.size; omega); obtain ⟨v16a, v16c, e16⟩ := I16.out.1.form; rw [show (vs ++ [Value.slice (some ⟨wr.heap.size, 0, none⟩) 2 2]).length = k + 1 by simp [hvl]] at e16; subst e16; obtain ⟨d0, d1, d2, d3, d4, d5⟩ := E16.out; clear hown16 hg16 t16)
        clear d0 d1 d2 d3 d4 d5 c0 c1 c2 c3 c4 c5
        go_roundw
        case rel =>
          refine ⟨k + 1, _, vs ++ [.slice (some ⟨wr.heap.size, 0, none⟩) 2 2], by omega, by go_num, Lib.hid (by simp [hvl]), Lib.hid (E16.out.set1 _), Lib.hid ?_, Lib.hid (O16.out.keeps (Keeps.setCell _ _ _ _ (.inr (by omega)))), Lib.hid (R16.out.other (by omega) _ _), Lib.hid (B16.out.setCell (by show _ ≤ w4.heap.size + 1; omega) _), by simp [World.setCell]; omega⟩
          try subst hkg
          rw [HTK.out, show (w16.setCell ⟨w4.heap.size + 1, 1, none⟩ (.slice v16a (k + 1) v16c)).heap.size = w16.heap.size by simp [World.setCell]]
          exact I16.out.keeps (Keeps.setCell w16 (w4.heap.size + 1) 1 (.slice v16a (k + 1) v16c) (.inl (by omega)))
        case measure => simp [intOf]; omega
      · have HROW : (if k = g then (List.range 2).map fun (i : Nat) => (i : Int) else List.replicate 2 0) = [0, 0] := by rw [if_neg hkg]; rfl
        have dk : ((k : Int) == (g : Int)) = false := by rw [beq_eq_false_iff_ne]; omega
        rw [HROW] at HTK
        clear HROW
        have V5 : Hid (Io wr.heap.size (wr.heap.size + 1) (wr.alloc (.cells #[.int .i64 0, .int .i64 0] 3)) (.slice (some ⟨wr.heap.size, 0, none⟩) 2 2) [0, 0]) := Lib.hid ⟨World.ownsRow_lit _ #[.int .i64 0, .int .i64 0] 2 (Nat.le_refl _) (by decide) rfl, fun q hq => by cases hq; exact Nat.lt_succ_self _⟩
        have hs5 : (wr.alloc (.cells #[.int .i64 0, .int .i64 0] 3)).heap.size = wr.heap.size + 1 := by simp
        have T5 : Hid (Below wr.heap.size wr (wr.alloc (.cells #[.int .i64 0, .int .i64 0] 3))) := Lib.hid ((Below.refl _ _).alloc (Nat.le_refl _) _)
        have E5 := Lib.hid (EQ.out.below T5.out)
        have I5 := Lib.hid (IQ.out.keeps (Keeps.of_all T5.out))
        have O5 := Lib.hid (OQ.out.keeps (Keeps.of_all T5.out))
        have R5 := Lib.hid (RQ.out.below T5.out)
        have B5 := Lib.hid (BQ.out.trans (T5.out.mono BQ.out.size))
        obtain ⟨c0, c1, c2, c3, c4, c5⟩ := EQ.out
        have hne : ∀ q, q < wc.heap.size → bv.ownBlock ≠ some q := fun q hq e => by have := (I5.out.1.1.lt q e).1; omega
        have hEl := EQ.out.lt
        go_wp2_with (at_builtin; refine wpList_pushL rfl (.tmp 56) (.tmp 58) 23 59 rfl rfl 22 (.slice none 0 0) 24 Try.underlying23 Try.infoL rfl wc.heap.size (.slice (some ⟨wr.heap.size, 0, none⟩) 2 2) bv vs.length vs I5.out.1.1 rfl (wr.heap.size + 1) rfl hs5.symm rfl (by unfold maxLen; omega) (by omega) (by omega) ?_; intro v16 w16 hown16 hg16; have I16 := Lib.hid (Ioo.push I5.out (h2 := wr.heap.size + 1) V5.out (by omega) (by omega) hwq hown16 hg16); have E16 := Lib.hid (E5.out.of_block (hg16.block (by omega) (hne _ (by omega)))); have R16 := Lib.hid (R5.out.of_block (hg16.block (by omega) (hne _ (by omega)))); have t16 : Below wc.heap.size (wr.alloc (.cells #[.int .i64 0, .int .i64 0] 3)) w16 := hg16.below (by omega) (fun q hq => (I5.out.1.1.lt q hq).1); have O16 := Lib.hid (O5.out.keeps (Keeps.of_below t16 (by omega))); have B16 : Hid (Below w.heap.size w w16) := Lib.hid (B5.out.trans (t16.mono (by omega))); have hs16 : wr.heap.size + 1 ≤ w16.heap.size := (by have := t16.size; omega); obtain ⟨v16a, v16c, e16⟩ := I16.out.1.form; rw [show (vs ++ [Value.slice (some ⟨wr.heap.size, 0, none⟩) 2 2]).length = k + 1 by simp [hvl]] at e16; subst e16; obtain ⟨d0, d1, d2, d3, d4, d5⟩ := E16.out; clear hown16 hg16 t16)
        clear d0 d1 d2 d3 d4 d5 c0 c1 c2 c3 c4 c5
        go_roundw
        case rel =>
          refine ⟨k + 1, _, vs ++ [.slice (some ⟨wr.heap.size, 0, none⟩) 2 2], by omega, by go_num, Lib.hid (by simp [hvl]), Lib.hid (E16.out.set1 _), Lib.hid ?_, Lib.hid (O16.out.keeps (Keeps.setCell _ _ _ _ (.inr (by omega)))), Lib.hid (R16.out.other (by omega) _ _), Lib.hid (B16.out.setCell (by show _ ≤ w4.heap.size + 1; omega) _), by simp [World.setCell]; omega⟩
          rw [HTK.out, show (w16.setCell ⟨w4.heap.size + 1, 1, none⟩ (.slice v16a (k + 1) v16c)).heap.size = w16.heap.size by simp [World.setCell]]
          exact I16.out.keeps (Keeps.setCell w16 (w4.heap.size + 1) 1 (.slice v16a (k + 1) v16c) (.inl (by omega)))
        case measure => simp [intOf]; omega
    · obtain rfl : k = N := by omega
      have IT := IQ.out
      rw [seenRows_all] at IT
      obtain ⟨ba, bc, eb⟩ := IQ.out.1.form
      subst eb
      obtain ⟨c0, c1, c2, c3, c4, c5⟩ := EQ.out
      obtain ⟨m0, m1, m2, m3, m4, m5⟩ := RQ.out
      go_wp2
      clear c0 c1 c2 c3 c4 c5 m0 m1 m2 m3 m4 m5
      have M6 := RQ.out.write (.slice (some ⟨w4.heap.size, 0, none⟩) 2 2) (.slice ba vs.length bc) 0
      refine bodyPost_ret (results_mid2 Try.results57 _ _ w.heap.size _ _ (.bool true) rfl rfl M6.range Try.underlying38 rfl Try.sizeEd) rfl ?_
      rw [HRs.out]
      have hz : (((wr.setCell ⟨w.heap.size, 0, none⟩ (.slice (some ⟨w4.heap.size, 0, none⟩) 2 2)).setCell ⟨w.heap.size, 1, none⟩ (.slice ba vs.length bc)).setCell ⟨w.heap.size, 2, none⟩ (.int .i64 0)).heap.size = wr.heap.size := by simp [World.setCell]
      refine ⟨_, rfl, ⟨_, _, [.slice qa3 xs.length qc3, .slice qa4 ys.length qc4], vs, rfl, ?_, ?_, ?_⟩, ((BQ.out.setCell (by show _ ≤ w.heap.size; omega) _).setCell (by show _ ≤ w.heap.size; omega) _).setCell (by show _ ≤ w.heap.size; omega) _⟩
      · rw [hz]
        exact (OQ.out.keeps (((Keeps.setCell _ _ _ _ (.inl (by omega))).set (.inl (by omega)) _ _).set (.inl (by omega)) _ _)).wide (by omega) (by omega)
      · rw [hz]
        exact (IT.keeps (((Keeps.setCell wr w.heap.size 0 (.slice (some ⟨w4.heap.size, 0, none⟩) 2 2) (.inl (by omega))).set (b := w.heap.size) (.inl (by omega)) 1 (.slice ba vs.length bc)).set (b := w.heap.size) (.inl (by omega)) 2 (.int .i64 0))).wide (by omega) (Nat.le_refl _)
      · intro y hy u hu
        refine apart_lt (B := w4.heap.size + 1) (fun q hq => ?_) (fun q hq => ?_)
        · rcases List.mem_cons.1 hy with rfl | hy
          · exact OQ.out.1.2 q hq
          · exact (OQ.out.2.1.blk hy q hq).2.1
        · rcases List.mem_cons.1 hu with rfl | hu
          · have := (IT.1.1.lt q hq).1; omega
          · have := (IT.2.1.blk hu q hq).1; omega

end Go.Proofs.Ytpodpadcaflehaa