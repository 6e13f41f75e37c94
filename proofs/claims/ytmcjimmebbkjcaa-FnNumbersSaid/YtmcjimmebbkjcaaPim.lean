/-
  impl.AnswersFor, TurnOf, PairsLeft. Condition of the last: at most 1048576 answers.
-/
import Derived.Test.YtmcjimmebbkjcaaPik
import Derived.Test.YtmcjimmebbkjcaaPas
import Derived.Laws.EntriesVeiled
namespace Go.Proofs.Ytmcjimmebbkjcaa
open Go.RowKit Go.WideShapes
open Go Go.Deep
set_option linter.unusedSimpArgs false

theorem own_not_map {P : Program} {K : TypeId} {w : World} {B : Nat} {e : TypeId} {s n : Nat} {v : Value} {xs : List Value} {b c : Nat} {D : DataW Value} (h : w.ownsRow B e s v n xs) (hm : w.ownsMap P K HeldP b c D) : v.ownBlock ≠ some b := by
  intro e
  obtain ⟨es, clock, hb, _⟩ := hm
  rcases h.2 with ⟨e1, _⟩ | ⟨r, cap, cur, e1, _, hg, _⟩
  · rw [e1] at e; cases e
  · rw [e1] at e; cases e; rw [hg] at hb; cases hb
theorem own_not_cm {w : World} {B : Nat} {e : TypeId} {s n : Nat} {v : Value} {xs : List Value} {t : Nat} {T : TypeId} {cs : List Value} (h : w.ownsRow B e s v n xs) (hc : Cm w t T cs) (hne : e ≠ T) : v.ownBlock ≠ some t := by
  intro e2
  rcases h.2 with ⟨e1, _⟩ | ⟨r, cap, cur, e1, _, hg, _⟩
  · rw [e1] at e2; cases e2
  · rw [e1] at e2
    injection e2 with e2
    have hc2 : w.heap[t]? = some (.cells cs.toArray T (0, 0)) := hc
    rw [← show r = t from e2, hg] at hc2
    cases hc2
    exact hne rfl
theorem own_map {P : Program} {K : TypeId} {w w' : World} {B : Nat} {e : TypeId} {s n : Nat} {v : Value} {xs : List Value} {b c : Nat} {D : DataW Value} (h : w.ownsRow B e s v n xs) (hm : w.ownsMap P K HeldP b c D) (hg : w.grownBy w' (some b)) : w'.ownsRow B e s v n xs := by
  have := own_not_map h hm
  refine h.kept hg ?_
  rcases e : v.ownBlock with _ | x
  · exact .inl rfl
  · exact .inr (fun e2 => this (e.trans e2))
/-- both maps are empty -/
def Two (W : World) (b0 b1 : Nat) : Prop := W.ownsMap Try.prog 3 HeldP b0 0 (.map []) ∧ W.ownsMap Try.prog 3 HeldP b1 0 (.map [])
def sel (f : Bool) (b0 b1 : Nat) : Nat := if f then b0 else b1
theorem Two.at {W : World} {b0 b1 : Nat} (h : Two W b0 b1) (f : Bool) : W.ownsMap Try.prog 3 HeldP (sel f b0 b1) 0 (.map []) := by
  unfold sel; cases f
  · exact h.2
  · exact h.1
theorem Two.kept {W W' : World} {b0 b1 : Nat} (h : Two W b0 b1) {row : Option Nat} (hg : W.grownBy W' row) (h0 : some b0 ≠ row) (h1 : some b1 ≠ row) : Two W' b0 b1 := ⟨h.1.kept hg h0, h.2.kept hg h1⟩
theorem Two.below {W W' : World} {b0 b1 : Nat} (h : Two W b0 b1) (hb : Below W.heap.size W W') : Two W' b0 b1 := h.kept (gr_below hb none) (by simp) (by simp)
theorem Two.step {W W' : World} {b0 b1 : Nat} (h : Two W b0 b1) (hne : b0 < b1) (f : Bool) (hg : W.grownBy W' (some (sel f b0 b1))) (hm : W'.ownsMap Try.prog 3 HeldP (sel f b0 b1) 0 (.map [])) : Two W' b0 b1 := by
  unfold sel at *
  cases f
  · exact ⟨h.1.kept hg (by simp; omega), by simpa using hm⟩
  · exact ⟨by simpa using hm, h.2.kept hg (by simp; omega)⟩
theorem sel_mem (f : Bool) (b0 b1 : Nat) : sel f b0 b1 = b0 ∨ sel f b0 b1 = b1 := by unfold sel; cases f <;> simp
theorem prOk_all {x : Int} {p : Pr} (h : hasP (allR x) p = true) : prOk p = true := by
  rw [hasP_iff] at h
  unfold allR at h
  split at h
  · rename_i hx
    obtain ⟨M, rfl⟩ := Int.eq_ofNat_of_zero_le (show 0 ≤ x by omega)
    rw [Int.toNat_natCast] at h
    have key : ∀ a, p ∈ allTo M a → a ≤ M + 1 → prOk p = true := by
      intro a
      induction a with
      | zero => intro h; cases h
      | succ a ih =>
        intro h ha
        rcases List.mem_append.1 (show p ∈ allTo M a ++ allAt M a from h) with h | h
        · exact ih h (by omega)
        · unfold allAt at h
          rcases List.mem_append.1 h with h | h
          · split at h
            · rw [List.mem_singleton] at h; subst h; unfold prOk; simp; omega
            · cases h
          · split at h
            · rw [List.mem_singleton] at h; subst h; unfold prOk; simp; omega
            · cases h
    exact key _ h (Nat.le_refl _)
  · cases h
theorem ansR_eq (x : Int) (p : Pr) : ansR x p = if hasP (allR x) p then ansF p 100 0 (allR x) [] else none := by
  unfold ansR
  by_cases h : hasP (allR x) p = true
  · rw [prOk_all h, h]; rfl
  · rw [Bool.not_eq_true] at h; simp [h]
theorem prOk_key {p : Pr} (h : prOk p = true) (f : Bool) : (Lit.int .i64 (keyP f p)).wf = true := by
  unfold prOk at h
  rw [Bool.and_eq_true, Bool.and_eq_true, decide_eq_true_eq, decide_eq_true_eq] at h
  cases f
  · show (Lit.int .i64 p.a).wf = true
    exact wfS _ h.1.1 (by have := h.1.2; omega)
  · show (Lit.int .i64 p.b).wf = true
    exact wfS _ h.2.1.1 (by have := h.2.1.2; omega)

set_option maxRecDepth 100000 in
set_option maxHeartbeats 8000000 in
theorem implAnswers_any (x : Int) (p : Pr) (w : World) :
    Calls Try.prog 35 #[.int .i64 x, p.v] w (AnsP w (ansR x p)) := by
  have KA := Lib.hid (fun W => implAllP_any x W)
  have KH := Lib.hid (fun v xs W (h : Ps W v xs) => containsP_any v xs p W h)
  have KT := Lib.hid (fun W => inTurn_any W)
  have HR := Lib.hid (ansR_eq x p)
  have HL := Lib.hid (allR_len x)
  have HW := Lib.hid (allR_wf x)
  have KK := Lib.hid (fun f b v xs W (h : Ps W v xs) => by have k := knows_any (kf f) (keyP f) (seesF f) (entF f) b v xs p W h; rw [← own_uniq] at k; exact k)
  have KF := Lib.hid (fun f b v xs W (h : Ps W v xs) (hw : WfP xs) hn hm => by have k := answering_any (kf f) (keyP f) (seesF f) (entF f) false b v xs W h (fun x hx => hw.key hx f) hn hm; rw [← after_answ] at k; exact k)
  unfold PrsAns at KA
  unfold TwoP fv at KT
  unfold pv fv at KK
  unfold AnP pv fv at KF
  unfold Pr.v at *
  generalize ansR x p = R at *
  generalize allR x = al at *
  have HZ : Hid ((w.alloc (.cells #[.int .i64 p.a, .int .i64 p.b] 33)).heap.size = w.heap.size + 1 ∧ Below w.heap.size w (w.alloc (.cells #[.int .i64 p.a, .int .i64 p.b] 33)) ∧ (w.alloc (.cells #[.int .i64 p.a, .int .i64 p.b] 33)).cell? ⟨w.heap.size, 0, none⟩ = some (.int .i64 p.a) ∧ (w.alloc (.cells #[.int .i64 p.a, .int .i64 p.b] 33)).cell? ⟨w.heap.size, 1, none⟩ = some (.int .i64 p.b)) := Lib.hid ⟨by simp, (Below.refl _ _).alloc (Nat.le_refl _) _, (World.cell?_alloc_at _ _ _ _ rfl).trans rfl, (World.cell?_alloc_at _ _ _ _ rfl).trans rfl⟩
  go_enter Try.func35, Try.ntmps35
  go_wp2_with fail
  generalize w.alloc (.cells #[.int .i64 p.a, .int .i64 p.b] 33) = w1 at *
  refine (KA.out _).mono ?_
  rintro e w2 ⟨v2, rfl, ho2, hb2⟩
  have HC : Hid (∀ W, Below (w.heap.size + 1) w1 W → W.cell? ⟨w.heap.size, 0, none⟩ = some (.int .i64 p.a) ∧ W.cell? ⟨w.heap.size, 1, none⟩ = some (.int .i64 p.b)) := Lib.hid (fun W h => ⟨(h.cell (p := ⟨w.heap.size, 0, none⟩) (by show w.heap.size < _; omega)).trans HZ.out.2.2.1, (h.cell (p := ⟨w.heap.size, 1, none⟩) (by show w.heap.size < _; omega)).trans HZ.out.2.2.2⟩)
  have B2 : Hid (Below (w.heap.size + 1) w1 w2) := Lib.hid (hb2.mono (by have := HZ.out.1; omega))
  have O2 : Hid (w2.ownsRow (w.heap.size + 1) 33 2 v2 al.length (prCells al)) := Lib.hid (by have h := ho2; rw [HZ.out.1] at h; exact h)
  have Q2 := Lib.hid (Ps.of_own ho2)
  obtain ⟨la, lc, e2⟩ := (Ps.of_own ho2).form
  subst e2
  clear ho2 hb2 KA
  obtain ⟨pc0, pc1⟩ := HC.out _ B2.out
  have lt2 : w.heap.size < w2.heap.size := by have := B2.out.size; have := HZ.out.1; omega
  go_wp2_with fail
  refine (KH.out _ _ _ Q2.out).mono ?_
  rintro e w4 ⟨rfl, hb4⟩
  have B4 := Lib.hid (B2.out.trans (hb4.mono (by omega)))
  have O4 := Lib.hid (own_below O2.out hb4 (by omega))
  have lt4 : w.heap.size < w4.heap.size := by have := hb4.size; omega
  clear hb4 pc0 pc1 B2 O2 Q2
  cases hh : hasP al p with
  | false =>
    have HN : Hid (R = none) := Lib.hid (by rw [HR.out, hh]; rfl)
    clear hh HR
    go_wp2
    go_returns
    rw [HN.out]
    exact ⟨_, rfl, World.ownsRow_nil _ _ _ _, HZ.out.2.1.trans (B4.out.mono (by omega))⟩
  | true =>
    have HR : Hid (R = ansF p (100 - 0) 0 al []) := Lib.hid (by rw [HR.out, hh]; rfl)
    clear hh
    go_wp2_with fail
    refine (KT.out _).mono ?_
    rintro e w5 ⟨b0, b1, rfl, hb0, hb1, hm0, hm1, hw5⟩
    have B5 := Lib.hid (B4.out.trans (hw5.mono (by omega)))
    have O5 := Lib.hid (own_below O4.out hw5 (by omega))
    have M5 : Hid (Two w5 b0 b1) := Lib.hid ⟨hm0, hm1⟩
    have l1 : b1 < w5.heap.size := hm1.lt
    have lt5 : w.heap.size < w5.heap.size := by have := hw5.size; omega
    clear hm0 hm1 hw5 B4 O4
    go_wp2
    have hT : Cm (w5.alloc (.cells #[.func (.func (kf true)) #[] #[], .map (some b0), .func (.func (kf false)) #[] #[], .map (some b1)] 68)) w5.heap.size 68 [.func (.func (kf true)) #[] #[], .map (some b0), .func (.func (kf false)) #[] #[], .map (some b1)] := Cm.new (cs := [.func (.func (kf true)) #[] #[], .map (some b0), .func (.func (kf false)) #[] #[], .map (some b1)]) rfl
    have hb6 : Below w5.heap.size w5 (w5.alloc (.cells #[.func (.func (kf true)) #[] #[], .map (some b0), .func (.func (kf false)) #[] #[], .map (some b1)] 68)) := (Below.refl _ _).alloc (Nat.le_refl _) _
    generalize w5.alloc (.cells #[.func (.func (kf true)) #[] #[], .map (some b0), .func (.func (kf false)) #[] #[], .map (some b1)] 68) = w6 at *
    have T6 := Lib.hid hT
    have B6 := Lib.hid (B5.out.trans (hb6.mono (by omega)))
    have O6 := Lib.hid (own_below O5.out hb6 (by omega))
    have M6 := Lib.hid (M5.out.below hb6)
    clear hT hb6 B5 O5 M5
    go_loopw [6, 8, 19] (fun lv ov iv wr => ∃ (k : Nat) (xs : List Pr) (out : List Bool) (lv' ov' : Value), k ≤ 100 ∧ iv = .int .i64 k ∧ lv' = lv ∧ ov' = ov ∧ Hid (R = ansF p (100 - k) k xs out) ∧ Hid (out.length = k ∧ xs.length ≤ 82) ∧ Hid (WfP xs) ∧ Hid (wr.ownsRow (w.heap.size + 1) 33 2 lv' xs.length (prCells xs)) ∧ Hid (wr.ownsRow (w.heap.size + 1) 4 1 ov' out.length (bools out)) ∧ Hid (Cm wr w5.heap.size 68 [.func (.func (kf true)) #[] #[], .map (some b0), .func (.func (kf false)) #[] #[], .map (some b1)]) ∧ Hid (Two wr b0 b1) ∧ Hid (Below (w.heap.size + 1) w1 wr)) (fun _ _ iv _ => 100 - (intOf iv).toNat)
    case atStart => exact ⟨0, al, [], _, _, Nat.zero_le _, rfl, rfl, rfl, HR, Lib.hid ⟨rfl, HL.out⟩, HW, O6, Lib.hid (World.ownsRow_nil _ _ _ _), T6, M6, B6⟩
    case round =>
      clear HR O6 M6 B6 T6
      obtain ⟨k, xs, out, lv, ov, hk, rfl, rfl, rfl, HR, HLL, HWX, HO, HV, HT, HM, HB⟩ := hrel
      by_cases hlt : k < 100
      · have hk0 : (0 : Int) ≤ (k : Int) := Int.natCast_nonneg _
        have hki : (k : Int) < 100 := by omega
        obtain ⟨fk, hfk⟩ : ∃ fk, fk = (k % 2 == 0) := ⟨_, rfl⟩
        have hd0 : wr.cell? ⟨w5.heap.size, k % 2 * 2, none⟩ = some (.func (.func (kf fk)) #[] #[]) := by
          rw [HT.out.cell, hfk]
          rcases Nat.mod_two_eq_zero_or_one k with h | h <;> rw [h] <;> rfl
        have hd1 : wr.cell? ⟨w5.heap.size, k % 2 * 2 + 1, none⟩ = some (.map (some (sel fk b0 b1))) := by
          rw [HT.out.cell, hfk]
          rcases Nat.mod_two_eq_zero_or_one k with h | h <;> rw [h] <;> rfl
        have HS : Hid (R = if ownP xs p fk then some (out ++ [true]) else ansF p (100 - (k + 1)) (k + 1) (afterP xs fk false) (out ++ [false])) := Lib.hid (by rw [HR.out, ans_step hlt, hfk])
        clear hfk HR
        have HMK := Lib.hid (HM.out.at fk)
        have HSM := Lib.hid (sel_mem fk b0 b1)
        have HMS := Lib.hid (fun W W' (h : Two W b0 b1) hg hm => h.step (W' := W') hb1 fk hg hm)
        obtain ⟨bk, hbk⟩ : ∃ bk, bk = sel fk b0 b1 := ⟨_, rfl⟩
        rw [← hbk] at hd1 HMK HMS HSM
        clear hbk
        have QR := Lib.hid (Ps.of_own HO.out)
        obtain ⟨ra, rc, er⟩ := QR.out.form
        subst er
        obtain ⟨pc0, pc1⟩ := HC.out _ HB.out
        have ltr : w.heap.size < wr.heap.size := by have := HB.out.size; have := HZ.out.1; omega
        have ltt := HT.out.lt
        have hb2 : Below wr.heap.size wr (wr.alloc (.cells #[.func (.func (kf fk)) #[] #[], .map (some bk)] 63)) := (Below.refl _ _).alloc (Nat.le_refl _) _
        have hX2 : Cm (wr.alloc (.cells #[.func (.func (kf fk)) #[] #[], .map (some bk)] 63)) wr.heap.size 63 [.func (.func (kf fk)) #[] #[], .map (some bk)] := Cm.new (cs := [.func (.func (kf fk)) #[] #[], .map (some bk)]) rfl
        have hle : out.length ≤ 99 := by have := HLL.out.1; omega
        have X2 := Lib.hid hX2
        have G2 := Lib.hid hb2
        clear hb2 hX2
        go_wp2_with fail
        refine (KK.out fk bk _ xs _ (QR.out.below G2.out (Nat.le_refl _))).mono ?_
        rintro e w6 ⟨rfl, hg6⟩
        obtain ⟨ow, how⟩ : ∃ ow, ow = ownP xs p fk := ⟨_, rfl⟩
        rw [← how] at HS ⊢
        clear how
        have hM2 := HM.out.below G2.out
        have hbe : w.heap.size + 1 ≤ bk ∧ bk < w5.heap.size := by rcases HSM.out with e | e <;> omega
        have hsr : w.heap.size + 1 ≤ wr.heap.size := ltr
        have hWG : Below wr.heap.size wr w6 := G2.out.trans (hg6.mono G2.out.size)
        have M6 := Lib.hid (hM2.below hg6)
        have O6 := Lib.hid (own_below HO.out hWG (Nat.le_refl _))
        have V6 := Lib.hid (own_below HV.out hWG (Nat.le_refl _))
        have T6 := Lib.hid (HT.out.all hWG)
        have X6 := Lib.hid (X2.out.all hg6)
        have B6 := Lib.hid (HB.out.trans (hWG.mono hsr))
        have hz6 : w.heap.size + 1 ≤ w6.heap.size := by have := hWG.size; omega
        have HVL : Hid (∀ q, ov.ownBlock = some q → w.heap.size + 1 ≤ q) := Lib.hid (fun q hq => (V6.out.lt q hq).1)
        have HVN : Hid (ov.ownBlock ≠ some b0 ∧ ov.ownBlock ≠ some b1 ∧ ov.ownBlock ≠ some w5.heap.size ∧ ov.ownBlock ≠ some wr.heap.size) := Lib.hid ⟨own_not_map V6.out M6.out.1, own_not_map V6.out M6.out.2, own_not_cm V6.out T6.out (by decide), own_not_cm V6.out X6.out (by decide)⟩
        clear hM2 hWG hg6 pc0 pc1 hd0 hd1 HO HV HT HM HB QR X2 G2 HMK
        cases ow with
        | true =>
          have HRR : Hid (R = some (out ++ [true])) := Lib.hid HS.out
          clear HS
          go_wp2_with (at_builtin; refine wpList_pushL rfl (.tmp 30) (.tmp 32) 42 33 rfl rfl 4 (.bool false) 1 Try.underlying42 Try.infoB rfl (w.heap.size + 1) (.bool true) ov out.length (bools out) V6.out rfl w6.heap.size rfl rfl rfl (by unfold maxLen; omega) (by omega) hz6 ?_; intro v7 w7 hown hg; have V7 := Lib.hid hown; have B7 : Hid (Below (w.heap.size + 1) w1 w7) := Lib.hid (B6.out.trans (hg.below hz6 HVL.out)); clear hown hg)
          go_returns
          rw [HRR.out]
          exact ⟨_, rfl, by have h := own_base V7.out (base' := w.heap.size) (fun k hk => by have := (V7.out.lt k hk).1; omega); rw [show [Value.bool true] = bools [true] from rfl, ← bools_app] at h; simpa using h, HZ.out.2.1.trans (B7.out.mono (by omega))⟩
        | false =>
          have HRR : Hid (R = ansF p (100 - (k + 1)) (k + 1) (afterP xs fk false) (out ++ [false])) := Lib.hid HS.out
          have HLA := Lib.hid (Nat.le_trans (afterP_len xs fk false) HLL.out.2)
          have HWA := Lib.hid (HWX.out.after fk false)
          clear HS
          go_wp2_with (at_builtin; refine wpList_pushL rfl (.tmp 30) (.tmp 32) 42 33 rfl rfl 4 (.bool false) 1 Try.underlying42 Try.infoB rfl (w.heap.size + 1) (.bool false) ov out.length (bools out) V6.out rfl w6.heap.size rfl rfl rfl (by unfold maxLen; omega) (by omega) hz6 ?_; intro v7 w7 hown hg; have V7 := Lib.hid hown; have B7 : Hid (Below (w.heap.size + 1) w1 w7) := Lib.hid (B6.out.trans (hg.below hz6 HVL.out)); have O7 := Lib.hid (own_grown O6.out hg.1 (own_apart O6.out V6.out (by decide))); have M7 := Lib.hid (M6.out.kept hg.1 (Ne.symm HVN.out.1) (Ne.symm HVN.out.2.1)); have T7 := Lib.hid (T6.out.of_block (hg.1.block _ T6.out.lt (Ne.symm HVN.out.2.2.1))); have hX7 := X6.out.of_block (hg.1.block _ X6.out.lt (Ne.symm HVN.out.2.2.2)); have x0 := hX7.cell 0; have x1 := hX7.cell 1; simp only [List.getElem?_cons_zero, List.getElem?_cons_succ] at x0 x1; have lt7 : wr.heap.size < w7.heap.size := hX7.lt; clear hown hg hX7)
          have Q7 := Lib.hid (Ps.of_own O7.out)
          refine (KF.out fk bk _ xs _ Q7.out HWX.out (by have := HLL.out.2; omega) (by rcases HSM.out with e | e <;> rw [e]; exact M7.out.1; exact M7.out.2)).mono ?_
          rintro e w8 ⟨v8, rfl, ho8, hm8, hg8⟩
          generalize afterP xs fk false = ys at *
          have O8 := Lib.hid (ownB ho8 (B' := w.heap.size + 1) (by omega))
          have hmk : w7.ownsMap Try.prog 3 HeldP bk 0 (.map []) := by rcases HSM.out with e | e <;> rw [e]; exact M7.out.1; exact M7.out.2
          have V8 := Lib.hid (own_map V7.out hmk hg8)
          have T8 := Lib.hid (cm_grown T7.out hg8 (by omega))
          have M8 := Lib.hid (HMS.out _ _ M7.out hg8 hm8)
          have B8 := Lib.hid (B7.out.trans ((But.of_grown hg8 (by omega) (fun k e => .inl (by injection e with e; exact e.symm))).below hbe.1))
          clear ho8 hm8 hg8 hmk x0 x1
          go_wp2
          go_roundw
          case rel =>
            refine ⟨k + 1, ys, out ++ [false], _, _, by omega, by go_num, rfl, rfl, HRR, Lib.hid ⟨by rw [List.length_append, HLL.out.1]; rfl, HLA.out⟩, HWA, O8, Lib.hid ?_, T8, M8, B8⟩
            have h := V8.out
            rw [show [Value.bool false] = bools [false] from rfl, ← bools_app] at h
            simpa using h
          case measure => simp [intOf] <;> omega
      · have HN : Hid (R = none) := Lib.hid (by rw [HR.out, show 100 - k = 0 by omega]; rfl)
        go_wp2
        go_returns
        rw [HN.out]
        exact ⟨_, rfl, World.ownsRow_nil _ _ _ _, HZ.out.2.1.trans (HB.out.mono (by omega))⟩

set_option maxHeartbeats 4000000 in
theorem implTurn_any (x : Int) (p : Pr) (w : World) :
    Calls Try.prog 40 #[.int .i64 x, p.v] w fun e w' => e = .returned (.int .i64 (turnR x p)) ∧ Below w.heap.size w w' := by
  have KA := Lib.hid (fun W => implAnswers_any x p W)
  have HT : Hid (turnR x p = ((ansR x p).getD []).length) := Lib.hid rfl
  unfold AnsP at KA
  generalize turnR x p = n at *
  generalize (ansR x p).isSome = ok at *
  generalize (ansR x p).getD [] = l at *
  unfold Pr.v at *
  go_enter Try.func40, Try.ntmps40
  go_wp2_with fail
  refine (KA.out _).mono ?_
  rintro e w2 ⟨v2, rfl, ho2, hb2⟩
  have B2 : Hid (Below w.heap.size w w2) := Lib.hid (Below.trans (by go_grown) (hb2.mono (by simp)))
  obtain ⟨a2, c2, e2⟩ : ∃ a c, v2 = .slice a l.length c := by
    rcases ho2.2 with ⟨rfl, h0⟩ | ⟨g, cap, cur, rfl, _⟩
    · exact ⟨_, _, by rw [h0]⟩
    · exact ⟨_, _, rfl⟩
  subst e2
  clear ho2 hb2
  go_wp2
  go_ret
  exact ⟨by rw [HT.out]; rfl, B2.out⟩

theorem leftF_nil : ∀ (bs : List Bool) (k : Nat), leftF k [] bs = []
  | [], _ => rfl
  | _ :: bs, k => leftF_nil bs (k + 1)
theorem leftR_eq (x : Int) (bs : List Bool) : leftR x bs = if 100 < bs.length then [] else leftF 0 (allR x) bs := by
  unfold leftR
  by_cases h0 : allR x = []
  · rw [if_pos (.inl h0), h0, leftF_nil]; split <;> rfl
  · by_cases h1 : 100 < bs.length
    · rw [if_pos (.inr h1), if_pos h1]
    · rw [if_neg (by intro h; rcases h with h | h; exact h0 h; exact h1 h), if_neg h1]

set_option maxRecDepth 100000 in
set_option maxHeartbeats 8000000 in
theorem implLeft_any (lo hi : Nat) (x : Int) (v : Value) (bs : List Bool) (w : World) (hr : Bv lo hi w v bs) (hn : bs.length ≤ 1048576) :
    Calls Try.prog 43 #[.int .i64 x, v] w (PrsAns w (leftR x bs)) := by
  have KA := Lib.hid (fun W => implAllP_any x W)
  have KT := Lib.hid (fun W => inTurn_any W)
  have KF := Lib.hid (fun f kn b v xs W (h : Ps W v xs) (hw : WfP xs) hn hm => by have k := answering_any (kf f) (keyP f) (seesF f) (entF f) kn b v xs W h (fun x hx => hw.key hx f) hn hm; rw [← after_answ] at k; exact k)
  have HL := Lib.hid (allR_len x)
  have HW := Lib.hid (allR_wf x)
  have HR := Lib.hid (leftR_eq x bs)
  obtain ⟨ba, bc, rfl, b1, b2, b3⟩ := hr.parts
  have KEY := Lib.hid b3
  unfold maxLen at b2
  unfold PrsAns at KA
  unfold TwoP fv at KT
  unfold AnP pv fv at KF
  generalize leftR x bs = R at *
  generalize allR x = al at *
  clear hr b3
  by_cases h1 : 100 < bs.length
  · have HN : Hid (R = []) := Lib.hid (by rw [HR.out, if_pos h1])
    have h1i : (100 : Int) < (bs.length : Int) := by omega
    clear HR h1
    go_enter Try.func43, Try.ntmps43
    go_wp2
    go_ret
    rw [HN.out]
    exact PrsAns.none_of (Below.refl _ _)
  · have HN : Hid (R = leftF 0 al (bs.drop 0)) := Lib.hid (by rw [HR.out, if_neg h1]; rfl)
    have h1i : ¬ (100 : Int) < (bs.length : Int) := by omega
    clear HR h1
    go_enter Try.func43, Try.ntmps43
    go_wp2_with fail
    refine (KA.out _).mono ?_
    rintro e w2 ⟨v2, rfl, ho2, hb2⟩
    have B2 := Lib.hid hb2
    have O2 := Lib.hid ho2
    obtain ⟨la, lc, e2⟩ := (Ps.of_own ho2).form
    subst e2
    clear ho2 hb2 KA
    go_wp2_with fail
    refine (KT.out _).mono ?_
    rintro e w5 ⟨b0, b1, rfl, hb0, hb1, hm0, hm1, hw5⟩
    have hs2 := B2.out.size
    have B5 := Lib.hid (B2.out.trans (hw5.mono hs2))
    have O5 := Lib.hid (own_below O2.out hw5 (Nat.le_refl _))
    have M5 : Hid (Two w5 b0 b1) := Lib.hid ⟨hm0, hm1⟩
    have l1 : b1 < w5.heap.size := hm1.lt
    clear hm0 hm1 hw5 B2 O2
    go_wp2
    have hs5 := B5.out.size
    have hT : Cm (w5.alloc (.cells #[.func (.func (kf true)) #[] #[], .map (some b0), .func (.func (kf false)) #[] #[], .map (some b1)] 68)) w5.heap.size 68 [.func (.func (kf true)) #[] #[], .map (some b0), .func (.func (kf false)) #[] #[], .map (some b1)] := Cm.new (cs := [.func (.func (kf true)) #[] #[], .map (some b0), .func (.func (kf false)) #[] #[], .map (some b1)]) rfl
    have hb6 : Below w5.heap.size w5 (w5.alloc (.cells #[.func (.func (kf true)) #[] #[], .map (some b0), .func (.func (kf false)) #[] #[], .map (some b1)] 68)) := (Below.refl _ _).alloc (Nat.le_refl _) _
    generalize w5.alloc (.cells #[.func (.func (kf true)) #[] #[], .map (some b0), .func (.func (kf false)) #[] #[], .map (some b1)] 68) = w6 at *
    have T6 := Lib.hid hT
    have B6 := Lib.hid (B5.out.trans (hb6.mono hs5))
    have O6 := Lib.hid (own_below O5.out hb6 (Nat.le_refl _))
    have M6 := Lib.hid (M5.out.below hb6)
    clear hT hb6 B5 O5 M5
    go_loopw [5, 17] (fun lv iv wr => ∃ (k : Nat) (xs : List Pr) (lv' : Value), k ≤ bs.length ∧ iv = .int .i64 k ∧ lv' = lv ∧ Hid (R = leftF k xs (bs.drop k)) ∧ Hid (xs.length ≤ 82) ∧ Hid (WfP xs) ∧ Hid (wr.ownsRow w.heap.size 33 2 lv' xs.length (prCells xs)) ∧ Hid (Cm wr w5.heap.size 68 [.func (.func (kf true)) #[] #[], .map (some b0), .func (.func (kf false)) #[] #[], .map (some b1)]) ∧ Hid (Two wr b0 b1) ∧ Hid (Below w.heap.size w wr)) (fun _ iv _ => bs.length - (intOf iv).toNat)
    case atStart => exact ⟨0, al, _, Nat.zero_le _, rfl, rfl, HN, HL, HW, O6, T6, M6, B6⟩
    case round =>
      clear HN HL O6 M6 B6 T6
      obtain ⟨k, xs, lv, hk, rfl, rfl, HR, HLL, HWX, HO, HT, HM, HB⟩ := hrel
      by_cases hlt : k < bs.length
      · obtain ⟨bb, o, rfl, -, -, hb, c0⟩ := KEY.out k hlt
        rw [← HB.out.cell (p := ⟨bb, o + k, none⟩) hb] at c0
        have hk0 : (0 : Int) ≤ (k : Int) := Int.natCast_nonneg _
        have hki : (k : Int) < (bs.length : Int) := by omega
        obtain ⟨fk, hfk⟩ : ∃ fk, fk = (k % 2 == 0) := ⟨_, rfl⟩
        have hd0 : wr.cell? ⟨w5.heap.size, k % 2 * 2, none⟩ = some (.func (.func (kf fk)) #[] #[]) := by
          rw [HT.out.cell, hfk]
          rcases Nat.mod_two_eq_zero_or_one k with h | h <;> rw [h] <;> rfl
        have hd1 : wr.cell? ⟨w5.heap.size, k % 2 * 2 + 1, none⟩ = some (.map (some (sel fk b0 b1))) := by
          rw [HT.out.cell, hfk]
          rcases Nat.mod_two_eq_zero_or_one k with h | h <;> rw [h] <;> rfl
        have HS : Hid (leftF k xs (bs.drop k) = leftF (k + 1) (afterP xs fk (bs.getD k false)) (bs.drop (k + 1))) := Lib.hid (by rw [left_step (k := k) (xs := xs) (bs := bs) hlt, hfk, par2])
        clear hfk
        generalize bs.getD k false = q at *
        have HMK := Lib.hid (HM.out.at fk)
        have HSM := Lib.hid (sel_mem fk b0 b1)
        have HMS := Lib.hid (fun W W' (h : Two W b0 b1) hg hm => h.step (W' := W') hb1 fk hg hm)
        obtain ⟨bk, hbk⟩ : ∃ bk, bk = sel fk b0 b1 := ⟨_, rfl⟩
        rw [← hbk] at hd1 HMK HMS HSM
        clear hbk
        have QR := Lib.hid (Ps.of_own HO.out)
        obtain ⟨ra, rc, er⟩ := QR.out.form
        subst er
        have hsz := HB.out.size
        have ltt := HT.out.lt
        have hbe : w.heap.size ≤ bk ∧ bk < w5.heap.size := by rcases HSM.out with e | e <;> omega
        go_wp2_with fail
        refine (KF.out fk q bk _ xs _ QR.out HWX.out (by have := HLL.out; omega) HMK.out).mono ?_
        rintro e w8 ⟨v8, rfl, ho8, hm8, hg8⟩
        have HRR : Hid (R = leftF (k + 1) (afterP xs fk q) (bs.drop (k + 1))) := Lib.hid (by rw [HR.out, HS.out])
        have HLA := Lib.hid (Nat.le_trans (afterP_len xs fk q) HLL.out)
        have HWA := Lib.hid (HWX.out.after fk q)
        generalize afterP xs fk q = ys at *
        have O8 := Lib.hid (ownB ho8 (B' := w.heap.size) hsz)
        have T8 := Lib.hid (cm_grown HT.out hg8 (by omega))
        have M8 := Lib.hid (HMS.out _ _ HM.out hg8 hm8)
        have B8 := Lib.hid (HB.out.trans ((But.of_grown hg8 hsz (fun k e => .inl (by injection e with e; exact e.symm))).below hbe.1))
        clear ho8 hm8 hg8 hd0 hd1 c0 HS HR
        go_wp2
        go_roundw
        case rel => exact ⟨k + 1, ys, _, by omega, by go_num, rfl, HRR, HLA, HWA, O8, T8, M8, B8⟩
        case measure => simp [intOf] <;> omega
      · have HN : Hid (R = xs) := Lib.hid (by rw [HR.out, List.drop_of_length_le (by omega)]; rfl)
        go_wp2
        go_ret
        exact ⟨_, rfl, by rw [HN.out]; exact HO.out, HB.out⟩
end Go.Proofs.Ytmcjimmebbkjcaa
