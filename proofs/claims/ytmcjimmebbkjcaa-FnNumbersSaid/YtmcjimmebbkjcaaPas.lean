/-
  Contracts of spec.AnswersFor, TurnOf, PairsLeft. Condition of the last: at most 1048576 answers.
-/
import Derived.Test.YtmcjimmebbkjcaaPra
import Derived.Test.YtmcjimmebbkjcaaZSet
namespace Go.Proofs.Ytmcjimmebbkjcaa
open Go.RowKit Go.WideShapes
open Go Go.Deep
set_option linter.unusedSimpArgs false

/-- what AnswersFor answers -/
def AnsP (w : World) (r : Option (List Bool)) (e : Ending) (w' : World) : Prop := ∃ v, e = .returned (.tuple #[v, .bool r.isSome]) ∧ w'.ownsRow w.heap.size 4 1 v (r.getD []).length (bools (r.getD [])) ∧ Below w.heap.size w w'
theorem AnsP.bo {w w' : World} {r : Option (List Bool)} {e : Ending} (h : AnsP w r e w') : ∃ v, e = .returned (.tuple #[v, .bool r.isSome]) ∧ Bo w.heap.size w'.heap.size w' v (r.getD []) ∧ Below w.heap.size w w' := by
  obtain ⟨v, rfl, ho, hb⟩ := h
  exact ⟨v, rfl, Ro.of_own ho, hb⟩
theorem bls_nil (w : World) (b : Nat) (hb : b ≤ w.heap.size) : World.ownsRow (w.alloc (.cells #[] 4)) b 4 1 (.slice (some ⟨w.heap.size, 0, none⟩) 0 0) 0 (bools []) := by
  have h := World.ownsRow_lit (base := b) (e := 4) (size := 1) w #[] 0 hb (by decide) rfl
  simpa [bools] using h
/-- rows of different types lie apart -/
theorem own_apart {w : World} {b b' : Nat} {e e' : TypeId} {s s' n n' : Nat} {v v' : Value} {xs xs' : List Value} (h : w.ownsRow b e s v n xs) (h' : w.ownsRow b' e' s' v' n' xs') (hne : e ≠ e') : ∀ k, v.ownBlock = some k → v'.ownBlock ≠ some k := by
  intro k hk hk'
  rcases h.2 with ⟨rfl, _⟩ | ⟨g, c, cur, rfl, _, hg, _⟩
  · cases hk
  · rcases h'.2 with ⟨rfl, _⟩ | ⟨g', c', cur', rfl, _, hg', _⟩
    · cases hk'
    · cases hk; cases hk'
      rw [hg] at hg'
      cases hg'
      exact hne rfl
theorem own_grown {w w' : World} {b : Nat} {e : TypeId} {s n : Nat} {v u : Value} {xs : List Value} (h : w.ownsRow b e s v n xs) (hg : w.grownBy w' u.ownBlock) (ha : ∀ k, v.ownBlock = some k → u.ownBlock ≠ some k) : w'.ownsRow b e s v n xs := by
  refine ⟨h.1, ?_⟩
  rcases h.2 with h0 | ⟨g, c, cur, rfl, h1, hgg, h3⟩
  · exact .inl h0
  · refine .inr ⟨g, c, cur, rfl, h1, ?_, h3⟩
    rw [hg.block g (Array.getElem?_eq_some_iff.1 hgg).1 (fun e => ha g rfl e.symm)]
    exact hgg
theorem ans_step {p : Pr} {k : Nat} {xs : List Pr} {out : List Bool} (hk : k < 100) : ansF p (100 - k) k xs out = if ownP xs p (k % 2 == 0) then some (out ++ [true]) else ansF p (100 - (k + 1)) (k + 1) (afterP xs (k % 2 == 0) false) (out ++ [false]) := by
  rw [show 100 - k = (100 - (k + 1)) + 1 by omega]; rfl
theorem par2 (k : Nat) : (k % 2 == 0) = ((k : Int) % 2 == 0) := by
  rw [Bool.eq_iff_iff, beq_iff_eq, beq_iff_eq]; omega
set_option maxRecDepth 100000 in
set_option maxHeartbeats 8000000 in
theorem specAnswers_any (x : Int) (p : Pr) (w : World) :
    Calls Try.prog 34 #[.int .i64 x, p.v] w (AnsP w (ansR x p)) := by
  have KA := Lib.hid (fun W => specAllP_any x W)
  have KP := Lib.hid (fun W => specPairP_any p W)
  have KH := Lib.hid (fun v xs W (h : Ps W v xs) => specHasP_any v xs p W h)
  have KO := Lib.hid (fun v xs f W (h : Ps W v xs) => specOwnP_any v xs p f W h)
  have KF := Lib.hid (fun v xs f kn W (h : Ps W v xs) hn => specAfterP_any v xs f kn W h hn)
  have HR : Hid (ansR x p = if prOk p && hasP (allR x) p then ansF p 100 0 (allR x) [] else none) := Lib.hid rfl
  have HL := Lib.hid (allR_len x)
  unfold PrsAns at KA KF
  unfold Pr.v at *
  generalize ansR x p = R at *
  generalize allR x = al at *
  have HZ : Hid ((w.alloc (.cells #[.int .i64 p.a, .int .i64 p.b] 33)).heap.size = w.heap.size + 1 ∧ Below w.heap.size w (w.alloc (.cells #[.int .i64 p.a, .int .i64 p.b] 33)) ∧ (w.alloc (.cells #[.int .i64 p.a, .int .i64 p.b] 33)).cell? ⟨w.heap.size, 0, none⟩ = some (.int .i64 p.a) ∧ (w.alloc (.cells #[.int .i64 p.a, .int .i64 p.b] 33)).cell? ⟨w.heap.size, 1, none⟩ = some (.int .i64 p.b)) := Lib.hid ⟨by simp, (Below.refl _ _).alloc (Nat.le_refl _) _, (World.cell?_alloc_at _ _ _ _ rfl).trans rfl, (World.cell?_alloc_at _ _ _ _ rfl).trans rfl⟩
  go_enter Try.func34, Try.ntmps34
  go_wp2_with fail
  generalize w.alloc (.cells #[.int .i64 p.a, .int .i64 p.b] 33) = w1 at *
  refine (KA.out _).mono ?_
  rintro e w2 ⟨v2, rfl, ho2, hb2⟩
  have HC : Hid (∀ W, Below (w.heap.size + 1) w1 W → W.cell? ⟨w.heap.size, 0, none⟩ = some (.int .i64 p.a) ∧ W.cell? ⟨w.heap.size, 1, none⟩ = some (.int .i64 p.b)) := Lib.hid (fun W h => ⟨(h.cell (p := ⟨w.heap.size, 0, none⟩) (by show w.heap.size < _; omega)).trans HZ.out.2.2.1, (h.cell (p := ⟨w.heap.size, 1, none⟩) (by show w.heap.size < _; omega)).trans HZ.out.2.2.2⟩)
  have B2 : Hid (Below (w.heap.size + 1) w1 w2) := Lib.hid (hb2.mono (by have := HZ.out.1; omega))
  have O2 : Hid (w2.ownsRow (w.heap.size + 1) 33 2 v2 al.length (prCells al)) := Lib.hid (by have h := ho2; rw [HZ.out.1] at h; exact h)
  have Q2 := Lib.hid (Ps.of_own ho2)
  obtain ⟨la, lc, e2⟩ := (Ps.of_own ho2).form
  subst e2
  clear ho2 hb2 KA
  obtain ⟨pc0, pc1⟩ := HC.out _ B2.out
  have lt2 : w.heap.size < w2.heap.size := by have := B2.out.size; have := HZ.out.1; omega
  cases hok : prOk p with
  | false =>
    rw [hok] at KP
    have HN : Hid (R = none) := Lib.hid (by rw [HR.out, hok]; rfl)
    clear hok HR
    go_wp2_with fail
    refine (KP.out _).mono ?_
    rintro e w3 ⟨rfl, hb3⟩
    have B3 := Lib.hid (B2.out.trans (hb3.mono (by omega)))
    clear hb3 pc0 pc1
    go_wp2
    go_returns
    rw [HN.out]
    exact ⟨_, rfl, World.ownsRow_nil _ _ _ _, HZ.out.2.1.trans (B3.out.mono (by omega))⟩
  | true =>
    rw [hok] at KP HR
    clear hok
    go_wp2_with fail
    refine (KP.out _).mono ?_
    rintro e w3 ⟨rfl, hb3⟩
    have B3 := Lib.hid (B2.out.trans (hb3.mono (by omega)))
    have O3 := Lib.hid (own_below O2.out hb3 (by omega))
    have Q3 := Lib.hid (Q2.out.below hb3 (Nat.le_refl _))
    have lt3 : w.heap.size < w3.heap.size := by have := hb3.size; omega
    clear hb3 pc0 pc1 B2 O2 Q2
    obtain ⟨pc0, pc1⟩ := HC.out _ B3.out
    go_wp2_with fail
    refine (KH.out _ _ _ Q3.out).mono ?_
    rintro e w4 ⟨rfl, hb4⟩
    have B4 := Lib.hid (B3.out.trans (hb4.mono (by omega)))
    have O4 := Lib.hid (own_below O3.out hb4 (by omega))
    have lt4 : w.heap.size < w4.heap.size := by have := hb4.size; omega
    clear hb4 pc0 pc1 B3 O3 Q3
    cases hh : hasP al p with
    | false =>
      have HN : Hid (R = none) := Lib.hid (by rw [HR.out, hh]; rfl)
      clear hh HR
      go_wp2
      go_returns
      rw [HN.out]
      exact ⟨_, rfl, World.ownsRow_nil _ _ _ _, HZ.out.2.1.trans (B4.out.mono (by omega))⟩
    | true =>
      have HR : Hid (R = ansF p (100 - 0) 0 al []) := Lib.hid (by rw [HR.out, hh]; rfl)
      clear hh
      go_wp2
      have N5 := Lib.hid (bls_nil w4 (w.heap.size + 1) (by omega))
      have hb5 : Below w4.heap.size w4 (w4.alloc (.cells #[] 4)) := (Below.refl _ _).alloc (Nat.le_refl _) _
      have B5 := Lib.hid (B4.out.trans (hb5.mono (by omega)))
      have O5 := Lib.hid (own_below O4.out hb5 (by omega))
      generalize w4.alloc (.cells #[] 4) = w5 at *
      clear hb5 B4 O4
      go_loopw [6, 7, 8] (fun lv ov iv wr => ∃ (k : Nat) (xs : List Pr) (out : List Bool) (lv' ov' : Value), k ≤ 100 ∧ iv = .int .i64 k ∧ lv' = lv ∧ ov' = ov ∧ Hid (R = ansF p (100 - k) k xs out) ∧ Hid (out.length = k ∧ xs.length ≤ 82) ∧ Hid (wr.ownsRow (w.heap.size + 1) 33 2 lv' xs.length (prCells xs)) ∧ Hid (wr.ownsRow (w.heap.size + 1) 4 1 ov' out.length (bools out)) ∧ Hid (Below (w.heap.size + 1) w1 wr)) (fun _ _ iv _ => 100 - (intOf iv).toNat)
      case atStart => exact ⟨0, al, [], _, _, Nat.zero_le _, rfl, rfl, rfl, HR, Lib.hid ⟨rfl, HL.out⟩, O5, N5, B5⟩
      case round =>
        clear HR O5 N5 B5
        obtain ⟨k, xs, out, lv, ov, hk, rfl, rfl, rfl, HR, HLL, HO, HV, HB⟩ := hrel
        by_cases hlt : k < 100
        · have hk0 : (0 : Int) ≤ (k : Int) := Int.natCast_nonneg _
          have hki : (k : Int) < 100 := by omega
          obtain ⟨pc0, pc1⟩ := HC.out _ HB.out
          have ltr : w.heap.size < wr.heap.size := by have := HB.out.size; have := HZ.out.1; omega
          have QR := Lib.hid (Ps.of_own HO.out)
          obtain ⟨ra, rc, er⟩ := QR.out.form
          subst er
          have HS : Hid (R = if ownP xs p ((k : Int) % 2 == 0) then some (out ++ [true]) else ansF p (100 - (k + 1)) (k + 1) (afterP xs ((k : Int) % 2 == 0) false) (out ++ [false])) := Lib.hid (by rw [HR.out, ans_step hlt, par2])
          have hle : out.length ≤ 99 := by have := HLL.out.1; omega
          go_wp2_with fail
          refine (KO.out _ xs ((k : Int) % 2 == 0) _ QR.out).mono ?_
          rintro e w6 ⟨rfl, hb6⟩
          obtain ⟨ow, how⟩ : ∃ ow, ow = ownP xs p ((k : Int) % 2 == 0) := ⟨_, rfl⟩
          rw [← how] at HS ⊢
          have O6 := Lib.hid (own_below HO.out hb6 (by omega))
          have V6 := Lib.hid (own_below HV.out hb6 (by omega))
          have B6 := Lib.hid (HB.out.trans (hb6.mono (by omega)))
          have hz6 : w.heap.size + 1 ≤ w6.heap.size := by have := hb6.size; omega
          have HVL : Hid (∀ q, ov.ownBlock = some q → w.heap.size + 1 ≤ q) := Lib.hid (fun q hq => (V6.out.lt q hq).1)
          clear hb6 how pc0 pc1 HR HO HV HB QR
          cases ow with
          | true =>
            have HRR : Hid (R = some (out ++ [true])) := Lib.hid HS.out
            clear HS
            go_wp2_with (at_builtin; refine wpList_pushL rfl (.tmp 32) (.tmp 34) 42 35 rfl rfl 4 (.bool false) 1 Try.underlying42 Try.infoB rfl (w.heap.size + 1) (.bool true) ov out.length (bools out) V6.out rfl w6.heap.size rfl rfl rfl (by unfold maxLen; omega) (by omega) hz6 ?_; intro v7 w7 hown hg; have V7 := Lib.hid hown; have B7 : Hid (Below (w.heap.size + 1) w1 w7) := Lib.hid (B6.out.trans (hg.below hz6 HVL.out)); have O7 := Lib.hid (own_grown O6.out hg.1 (own_apart O6.out V6.out (by decide))); clear hown hg)
            go_returns
            rw [HRR.out]
            exact ⟨_, rfl, by have h := own_base V7.out (base' := w.heap.size) (fun k hk => by have := (V7.out.lt k hk).1; omega); rw [show [Value.bool true] = bools [true] from rfl, ← bools_app] at h; simpa using h, HZ.out.2.1.trans (B7.out.mono (by omega))⟩
          | false =>
            have HRR : Hid (R = ansF p (100 - (k + 1)) (k + 1) (afterP xs ((k : Int) % 2 == 0) false) (out ++ [false])) := Lib.hid HS.out
            have HLA := Lib.hid (Nat.le_trans (afterP_len xs ((k : Int) % 2 == 0) false) HLL.out.2)
            clear HS
            go_wp2_with (at_builtin; refine wpList_pushL rfl (.tmp 32) (.tmp 34) 42 35 rfl rfl 4 (.bool false) 1 Try.underlying42 Try.infoB rfl (w.heap.size + 1) (.bool false) ov out.length (bools out) V6.out rfl w6.heap.size rfl rfl rfl (by unfold maxLen; omega) (by omega) hz6 ?_; intro v7 w7 hown hg; have V7 := Lib.hid hown; have B7 : Hid (Below (w.heap.size + 1) w1 w7) := Lib.hid (B6.out.trans (hg.below hz6 HVL.out)); have O7 := Lib.hid (own_grown O6.out hg.1 (own_apart O6.out V6.out (by decide))); clear hown hg)
            have Q7 := Lib.hid (Ps.of_own O7.out)
            have hz7 : w.heap.size + 1 ≤ w7.heap.size := by have := B7.out.size; have := HZ.out.1; omega
            refine (KF.out _ xs ((k : Int) % 2 == 0) false _ Q7.out (by have := HLL.out.2; omega)).mono ?_
            rintro e w8 ⟨v8, rfl, ho8, hb8⟩
            generalize afterP xs ((k : Int) % 2 == 0) false = ys at *
            have O8 : Hid (w8.ownsRow (w.heap.size + 1) 33 2 v8 ys.length (prCells ys)) := Lib.hid (own_base ho8 (fun k hk => by have := (ho8.lt k hk).1; omega))
            have V8 := Lib.hid (own_below V7.out hb8 (by omega))
            have B8 := Lib.hid (B7.out.trans (hb8.mono (by omega)))
            clear ho8 hb8
            go_wp2
            go_roundw
            case rel =>
              refine ⟨k + 1, ys, out ++ [false], _, _, by omega, by go_num, rfl, rfl, HRR, Lib.hid ⟨by rw [List.length_append, HLL.out.1]; rfl, HLA.out⟩, O8, Lib.hid ?_, B8⟩
              have h := V8.out
              rw [show [Value.bool false] = bools [false] from rfl, ← bools_app] at h
              simpa using h
            case measure => simp [intOf] <;> omega
        · have HN : Hid (R = none) := Lib.hid (by rw [HR.out, show 100 - k = 0 by omega]; rfl)
          go_wp2
          go_returns
          rw [HN.out]
          exact ⟨_, rfl, World.ownsRow_nil _ _ _ _, HZ.out.2.1.trans (HB.out.mono (by omega))⟩

def turnR (x : Int) (p : Pr) : Nat := ((ansR x p).getD []).length
theorem turnR_len (x : Int) (p : Pr) : turnR x p ≤ 100 := by
  unfold turnR
  cases h : ansR x p with
  | none => simp
  | some l =>
    unfold ansR at h
    split at h
    · have := ansF_len _ _ _ _ _ _ h; simpa using this
    · cases h
set_option maxHeartbeats 4000000 in
theorem specTurn_any (x : Int) (p : Pr) (w : World) :
    Calls Try.prog 39 #[.int .i64 x, p.v] w fun e w' => e = .returned (.int .i64 (turnR x p)) ∧ Below w.heap.size w w' := by
  have KA := Lib.hid (fun W => specAnswers_any x p W)
  have HT : Hid (turnR x p = ((ansR x p).getD []).length) := Lib.hid rfl
  unfold AnsP at KA
  generalize turnR x p = n at *
  generalize (ansR x p).isSome = ok at *
  generalize (ansR x p).getD [] = l at *
  unfold Pr.v at *
  go_enter Try.func39, Try.ntmps39
  go_wp2_with fail
  refine (KA.out _).mono ?_
  rintro e w2 ⟨v2, rfl, ho2, hb2⟩
  have B2 : Hid (Below w.heap.size w w2) := Lib.hid (Below.trans (by go_grown) (hb2.mono (by simp)))
  obtain ⟨a2, c2, e2⟩ : ∃ a c, v2 = .slice a l.length c := by
    rcases ho2.2 with ⟨rfl, h0⟩ | ⟨g, cap, cur, rfl, _⟩
    · exact ⟨_, _, by rw [h0]⟩
    · exact ⟨_, _, rfl⟩
  subst e2
  clear ho2 hb2
  go_wp2
  go_ret
  exact ⟨by rw [HT.out]; rfl, B2.out⟩

theorem leftR_len (x : Int) (bs : List Bool) : (leftR x bs).length ≤ 82 := by
  unfold leftR; split
  · simp
  · exact Nat.le_trans (leftF_len _ _ _) (allR_len x)
theorem left_step {k : Nat} {xs : List Pr} {bs : List Bool} (hk : k < bs.length) : leftF k xs (bs.drop k) = leftF (k + 1) (afterP xs ((k : Int) % 2 == 0) (bs.getD k false)) (bs.drop (k + 1)) := by
  rw [List.drop_eq_getElem_cons hk, ← par2]
  show leftF (k + 1) (afterP xs (k % 2 == 0) bs[k]) _ = _
  rw [List.getD_eq_getElem?_getD, List.getElem?_eq_getElem hk]; rfl
set_option maxRecDepth 100000 in
set_option maxHeartbeats 8000000 in
theorem specLeft_any (lo hi : Nat) (x : Int) (v : Value) (bs : List Bool) (w : World) (hr : Bv lo hi w v bs) (hn : bs.length ≤ 1048576) :
    Calls Try.prog 41 #[.int .i64 x, v] w (PrsAns w (leftR x bs)) := by
  have KA := Lib.hid (fun W => specAllP_any x W)
  have KF := Lib.hid (fun v xs f kn W (h : Ps W v xs) hn => specAfterP_any v xs f kn W h hn)
  have HL := Lib.hid (allR_len x)
  have HR : Hid (leftR x bs = if allR x = [] ∨ 100 < bs.length then [] else leftF 0 (allR x) bs) := Lib.hid rfl
  obtain ⟨ba, bc, rfl, b1, b2, b3⟩ := hr.parts
  have KEY := Lib.hid b3
  unfold maxLen at b2
  unfold PrsAns at KA KF
  generalize leftR x bs = R at *
  generalize allR x = al at *
  clear hr b3
  go_enter Try.func41, Try.ntmps41
  go_wp2_with fail
  refine (KA.out _).mono ?_
  rintro e w2 ⟨v2, rfl, ho2, hb2⟩
  have B2 := Lib.hid hb2
  have O2 := Lib.hid ho2
  obtain ⟨la, lc, e2⟩ := (Ps.of_own ho2).form
  subst e2
  clear ho2 hb2 KA
  by_cases h0 : al = []
  · have HN : Hid (R = []) := Lib.hid (by rw [HR.out, if_pos (.inl h0)])
    have hl0 : al.length = 0 := by rw [h0]; rfl
    clear HR h0
    generalize al.length = n at *
    subst hl0
    go_wp2
    go_ret
    rw [HN.out]
    exact PrsAns.none_of B2.out
  · have hl1 : 0 < al.length := List.length_pos_iff.2 h0
    have hl1i : ((al.length : Int) == 0) = false := beq_eq_false_iff_ne.2 (by omega)
    by_cases h1 : 100 < bs.length
    · have HN : Hid (R = []) := Lib.hid (by rw [HR.out, if_pos (.inr h1)])
      have h1i : (100 : Int) < (bs.length : Int) := by omega
      clear HR h0 h1
      go_wp2
      go_ret
      rw [HN.out]
      exact PrsAns.none_of B2.out
    · have HN : Hid (R = leftF 0 al (bs.drop 0)) := Lib.hid (by rw [HR.out, if_neg (by intro h; rcases h with h | h; exact h0 h; exact h1 h)]; rfl)
      have h1i : ¬ (100 : Int) < (bs.length : Int) := by omega
      clear HR h0
      go_wp2
      go_loopw [5, 20] (fun lv iv wr => ∃ (k : Nat) (xs : List Pr) (lv' : Value), k ≤ bs.length ∧ iv = .int .i64 k ∧ lv' = lv ∧ Hid (R = leftF k xs (bs.drop k)) ∧ Hid (xs.length ≤ 82) ∧ Hid (wr.ownsRow w.heap.size 33 2 lv' xs.length (prCells xs)) ∧ Hid (Below w.heap.size w wr)) (fun _ iv _ => bs.length - (intOf iv).toNat)
      case atStart => exact ⟨0, al, _, Nat.zero_le _, rfl, rfl, HN, HL, O2, B2⟩
      case round =>
        clear HN HL O2 B2
        obtain ⟨k, xs, lv, hk, rfl, rfl, HR, HLL, HO, HB⟩ := hrel
        by_cases hlt : k < bs.length
        · obtain ⟨b, o, rfl, -, -, hb, c0⟩ := KEY.out k hlt
          rw [← HB.out.cell (p := ⟨b, o + k, none⟩) hb] at c0
          have HS := Lib.hid (left_step (k := k) (xs := xs) (bs := bs) hlt)
          generalize bs.getD k false = q at *
          have QR := Lib.hid (Ps.of_own HO.out)
          obtain ⟨ra, rc, er⟩ := QR.out.form
          subst er
          have hk0 : (0 : Int) ≤ (k : Int) := Int.natCast_nonneg _
          have hsz := HB.out.size
          go_wp2_with fail
          refine (KF.out _ xs ((k : Int) % 2 == 0) q _ QR.out (by have := HLL.out; omega)).mono ?_
          rintro e w8 ⟨v8, rfl, ho8, hb8⟩
          have HRR : Hid (R = leftF (k + 1) (afterP xs ((k : Int) % 2 == 0) q) (bs.drop (k + 1))) := Lib.hid (by rw [HR.out, HS.out])
          have HLA := Lib.hid (Nat.le_trans (afterP_len xs ((k : Int) % 2 == 0) q) HLL.out)
          generalize afterP xs ((k : Int) % 2 == 0) q = ys at *
          have O8 : Hid (w8.ownsRow w.heap.size 33 2 v8 ys.length (prCells ys)) := Lib.hid (own_base ho8 (fun k hk => by have := (ho8.lt k hk).1; omega))
          have B8 := Lib.hid (HB.out.trans (hb8.mono hsz))
          clear ho8 hb8 c0 HS HR
          go_wp2
          go_roundw
          case rel => exact ⟨k + 1, ys, _, by omega, by go_num, rfl, HRR, HLA, O8, B8⟩
          case measure => simp [intOf] <;> omega
        · have HN : Hid (R = xs) := Lib.hid (by rw [HR.out, List.drop_of_length_le (by omega)]; rfl)
          go_wp2
          go_ret
          exact ⟨_, rfl, by rw [HN.out]; exact HO.out, HB.out⟩
end Go.Proofs.Ytmcjimmebbkjcaa
