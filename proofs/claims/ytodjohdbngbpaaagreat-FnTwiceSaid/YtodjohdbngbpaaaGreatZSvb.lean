/-
  Several texts in one: Svb Svc Tcl. Conditions: as each theorem says.
-/
import Derived.Test.YtodjohdbngbpaaaGreatSva
import Derived.Test.YtodjohdbngbpaaaGreatTru
import Derived.Test.YtodjohdbngbpaaaGreatZMok
import Derived.Test.YtodjohdbngbpaaaGreatZSem
/-
  Contract of spec.l04Eval for any node of a valid formula; and both sides' truth is the same list. Conditions: the model and the formula are valid, the formula's agents are the model's, there is a bool for each world.
-/
namespace Go.Proofs.YtodjohdbngbpaaaGreat
open Go.RowKit Go.WideShapes
open Go Go.Deep
set_option linter.unusedSimpArgs false

theorem blk_W {m : Md} {k : Nat} {al tr : List Bool} {A : Nat → Bool} {i : Nat} {want : Bool} (h : ∀ v, v < m.facts.length → tr.getD v false = A v) :
    blkL m.facts.length (m.blocks.getD k []) al tr i want = blockW m k (fun j => al.getD j false) A i want :=
  allW_cong (p := blkAt (m.blocks.getD k []) al tr i want) fun v hv => by unfold blkAt sameW; rw [h v hv]
theorem one_eval {m : Md} {op n xa xb : Int} {A B : Tm} {al : List Bool} {i : Nat} (hop : op = 3 ∨ op = 5 ∨ op = 6 ∨ op = 7 ∨ op = 8) (hi : i < m.facts.length) :
    evS (mkTm op n A B) m (fun j => al.getD j false) i = (al.getD i false && oneB m ⟨op, n, xa, xb⟩ al (evL A m fun j => al.getD j false) i) := by
  have hA : ∀ v, v < m.facts.length → (evL A m fun j => al.getD j false).getD v false = evS A m (fun j => al.getD j false) v := fun v hv => evL_at hv
  have hb : ∀ k want, blkL m.facts.length (m.blocks.getD k []) al (evL A m fun j => al.getD j false) i want = blockW m k (fun j => al.getD j false) (evS A m fun j => al.getD j false) i want := fun k want => blk_W hA
  unfold oneB
  simp only
  rcases hop with rfl | rfl | rfl | rfl | rfl
  · rw [show mkTm 3 n A B = .deny A from rfl, if_pos rfl, hA i hi]; rfl
  · rw [show mkTm 5 n A B = .know 5 n A from rfl, if_neg (by decide), if_pos rfl, hb]; rfl
  · rw [show mkTm 6 n A B = .know 6 n A from rfl, if_neg (by decide), if_neg (by decide), if_pos rfl, hb, hA i hi]; rfl
  · rw [show mkTm 7 n A B = .know 7 n A from rfl, if_neg (by decide), if_neg (by decide), if_neg (by decide), if_pos rfl]
    simp only [hb]; rfl
  · rw [show mkTm 8 n A B = .know 8 n A from rfl, if_neg (by decide), if_neg (by decide), if_neg (by decide), if_neg (by decide)]
    have : (List.range m.facts.length).all (farAt m al (evL A m fun j => al.getD j false) i) = allW m fun v => !reachA m (fun j => al.getD j false) i v || evS A m (fun j => al.getD j false) v := by
      show allW m _ = _
      exact allW_cong fun v hv => by unfold farAt; rw [hA v hv]
    rw [this]; rfl

theorem agents_at {xs : List Nd} {A : Nat} (h : agentsOk xs A = true) {j : Nat} (hj : j < xs.length) : (xs.getD j default).op = 5 ∨ (xs.getD j default).op = 6 → 0 ≤ (xs.getD j default).n ∧ (xs.getD j default).n < A := by
  intro ho
  unfold agentsOk at h
  rw [List.all_eq_true] at h
  have h1 := h j (List.mem_range.2 hj)
  unfold agentOk at h1
  rw [decide_eq_true ho] at h1
  simpa [inB] using h1

set_option maxHeartbeats 4000000 in
theorem specEval_any (lo hi : Nat) (v v2 : Value) (m : Md) (xs : List Nd) (hm : mdOk m = true) (hn : nodesOk xs = true) (ha : agentsOk xs m.blocks.length = true) :
    ∀ (b q : Nat), q < b → q < xs.length → ∀ (lo2 hi2 : Nat) (v3 : Value) (al : List Bool) (w : World), Mv lo hi w v m → Ns w v2 xs → Bv lo2 hi2 w v3 al → al.length = m.facts.length →
    Calls Tryz.prog 158 #[v, v2, v3, .int .i64 q] w (BoolsAns w (evL (tmAt xs q) m fun j => al.getD j false)) := by
  intro b
  induction b with
  | zero => intro q hq; exact absurd hq (Nat.not_lt_zero _)
  | succ b ih =>
    intro q hqb hq lo2 hi2 v3 al w hr hr2 h3 he
    have hp := okAt_parts (nodesOk_at hn hq)
    have hag := agents_at ha hq
    rw [tmAt_eq hn hq]
    obtain ⟨x, hx⟩ : ∃ x, xs.getD q default = x := ⟨_, rfl⟩
    rw [hx] at hp hag ⊢
    obtain ⟨op, n, xa, xb⟩ := x
    obtain ⟨⟨o1, o9, n0, nl⟩, pa, pb, -, -⟩ := hp
    simp only at o1 o9 n0 nl pa pb hag ⊢
    have hA : 1 ≤ usesI op → EvIH m w v v2 (tmAt xs xa.toNat) xa := fun hu lo2 hi2 v3 al W hW hB hl => by
      have := pa hu
      have e : xa = ((xa.toNat : Nat) : Int) := by omega
      rw [e]
      exact ih xa.toNat (by omega) (by omega) lo2 hi2 v3 al W (hr.keeps (Keeps.of_all hW)) (hr2.below hW (Nat.le_refl _)) hB hl
    have hB : usesI op = 2 → EvIH m w v v2 (tmAt xs xb.toNat) xb := fun hu lo2 hi2 v3 al W hW hB hl => by
      have := pb hu
      have e : xb = ((xb.toNat : Nat) : Int) := by omega
      rw [e]
      exact ih xb.toNat (by omega) (by omega) lo2 hi2 v3 al W (hr.keeps (Keeps.of_all hW)) (hr2.below hW (Nat.le_refl _)) hB hl
    unfold evL
    rcases op_cases o1 o9 with rfl | rfl | rfl | rfl | rfl | rfl | rfl | rfl | rfl
    · exact eval_fact lo hi lo2 hi2 v v2 v3 m xs al q w hr hm hr2 h3 he hq 1 n xa xb hx _ rfl n0 (by have : limN 1 = 4 := rfl; omega) (Lib.hid fun i _ => rfl)
    · exact eval_true lo hi lo2 hi2 v v2 v3 m xs al q w hr hm hr2 h3 he hq 2 n xa xb hx _ rfl (Lib.hid fun i _ => rfl)
    · exact eval_one lo hi lo2 hi2 v v2 v3 m xs al q w hr hm hr2 h3 he hq 3 n xa xb hx _ _ (by decide) (by omega) (hA (by decide)) (Lib.hid fun i hi => one_eval (by decide) hi)
    · exact eval_and lo hi lo2 hi2 v v2 v3 m xs al q w hr hm hr2 h3 he hq 4 n xa xb hx _ _ _ rfl (hA (by decide)) (hB rfl) (Lib.hid fun i hi => by rw [evL_at hi, evL_at hi]; rfl)
    · exact eval_one lo hi lo2 hi2 v v2 v3 m xs al q w hr hm hr2 h3 he hq 5 n xa xb hx _ _ (by decide) hag (hA (by decide)) (Lib.hid fun i hi => one_eval (by decide) hi)
    · exact eval_one lo hi lo2 hi2 v v2 v3 m xs al q w hr hm hr2 h3 he hq 6 n xa xb hx _ _ (by decide) hag (hA (by decide)) (Lib.hid fun i hi => one_eval (by decide) hi)
    · exact eval_one lo hi lo2 hi2 v v2 v3 m xs al q w hr hm hr2 h3 he hq 7 n xa xb hx _ _ (by decide) (by omega) (hA (by decide)) (Lib.hid fun i hi => one_eval (by decide) hi)
    · exact eval_one lo hi lo2 hi2 v v2 v3 m xs al q w hr hm hr2 h3 he hq 8 n xa xb hx _ _ (by decide) (by omega) (hA (by decide)) (Lib.hid fun i hi => one_eval (by decide) hi)
    · refine eval_after lo hi lo2 hi2 v v2 v3 m xs al q w hr hm hr2 h3 he hq 9 n xa xb hx _ _ _ rfl (hA (by decide)) (hB rfl) (Lib.hid fun i hi => ?_)
      rw [evL_at hi, evL_at hi]
      rw [show mkTm 9 n (tmAt xs xa.toNat) (tmAt xs xb.toNat) = .joint 9 (tmAt xs xa.toNat) (tmAt xs xb.toNat) from rfl]
      rw [evS_cong (tmAt xs xb.toNat) m (fun j => al.getD j false && (evL (tmAt xs xa.toNat) m fun j => al.getD j false).getD j false) (fun v => al.getD v false && evS (tmAt xs xa.toNat) m (fun j => al.getD j false) v) (fun v hv => by rw [evL_at hv]) i hi]
      rfl

theorem tag_mk {op n : Int} {a b : Tm} {A : Nat} (h : op = 5 ∨ op = 6 → n < A) (ha : tag a A) (hb : tag b A) : tag (mkTm op n a b) A := by
  unfold mkTm
  split
  · trivial
  · split
    · exact ha
    · split
      · exact ⟨ha, hb⟩
      · exact ⟨h, ha⟩
theorem tag_tm {xs : List Nd} {A : Nat} (h : ∀ j, (xs.getD j default).op = 5 ∨ (xs.getD j default).op = 6 → (xs.getD j default).n < A) : ∀ f i, tag (tmF xs f i) A
  | 0, _ => trivial
  | f + 1, i => tag_mk (h i) (tag_tm h f _) (tag_tm h f _)
theorem tag_at {xs : List Nd} {A : Nat} (h : agentsOk xs A = true) (i : Nat) : tag (tmAt xs i) A := by
  refine tag_tm (fun j => ?_) _ _
  rcases Nat.lt_or_ge j xs.length with hj | hj
  · exact fun ho => (agents_at h hj ho).2
  · rw [List.getD_eq_getElem?_getD, List.getElem?_eq_none hj]; intro ho; rcases ho with ho | ho <;> cases ho
/-- the truth of a formula in the worlds, as a list -/
def truthR (m : Md) (xs : List Nd) : List Bool := (List.range m.facts.length).map (evP m xs)
theorem truthR_len (m : Md) (xs : List Nd) : (truthR m xs).length = m.facts.length := by simp [truthR]
theorem truthR_at {m : Md} {xs : List Nd} {i : Nat} (h : i < m.facts.length) : (truthR m xs).getD i false = evP m xs i := getD_rangeMap' h
theorem evOk_parts {m : Md} {xs : List Nd} (h : evOk m xs = true) : mdOk m = true ∧ formOk xs = true ∧ agentsOk xs m.blocks.length = true := by
  unfold evOk at h; rw [Bool.and_eq_true, Bool.and_eq_true] at h; exact ⟨h.1.1, h.1.2, h.2⟩
theorem ev_truth {m : Md} {xs : List Nd} (h : evOk m xs = true) : evL (tmAt xs (xs.length - 1)) m (fun j => (List.replicate m.facts.length true).getD j false) = truthR m xs := by
  obtain ⟨hm, hf, ha⟩ := evOk_parts h
  obtain ⟨q1, q2, hnodes, -⟩ := formOk_parts hf
  have hp2 := (mdOk_parts hm).2.1
  unfold evL truthR
  refine List.map_congr_left fun i hi => ?_
  rw [List.mem_range] at hi
  have hg : (List.range m.facts.length).getD i 0 = i := by rw [List.getD_eq_getElem?_getD, List.getElem?_range hi]; rfl
  have e := ev_rel (tmAt xs (xs.length - 1)) m m (List.range m.facts.length) (tmAt_wf hnodes _ _ (Nat.le_refl _) (by omega)) (tag_at ha _) (Rel.self hp2) i (by simpa using hi)
  rw [hg] at e
  unfold evP
  rw [e]
  refine evS_cong _ m _ _ (fun v hv => ?_) i hi
  unfold memN
  rw [List.getD_eq_getElem?_getD, List.getElem?_replicate, if_pos hv, decide_eq_true (List.mem_range.2 hv)]; rfl
end Go.Proofs.YtodjohdbngbpaaaGreat

/-
  Contracts of spec.l04Ok and spec.l04Truth. Condition of the latter: the formula can be evaluated in the model.
-/
namespace Go.Proofs.YtodjohdbngbpaaaGreat
open Go.RowKit Go.WideShapes
open Go Go.Deep
set_option linter.unusedSimpArgs false

theorem agentOk_yes {A : Nat} {x : Nd} (h0 : 0 ≤ x.n) (h : x.n < A) : agentOk A x = true := by
  unfold agentOk inB; rw [decide_eq_true (p := 0 ≤ x.n ∧ x.n < (A : Int)) ⟨h0, h⟩]; simp
theorem agentOk_no {A : Nat} {x : Nd} (ho : x.op = 5 ∨ x.op = 6) (h : (A : Int) ≤ x.n) : agentOk A x = false := by
  unfold agentOk inB; rw [decide_eq_true ho, decide_eq_false (p := 0 ≤ x.n ∧ x.n < (A : Int)) (by omega)]; simp
theorem agentOk_free {A : Nat} {x : Nd} (ho : ¬ (x.op = 5 ∨ x.op = 6)) : agentOk A x = true := by
  unfold agentOk; rw [decide_eq_false ho]; rfl

set_option maxRecDepth 100000 in
set_option maxHeartbeats 16000000 in
theorem specEvOk_any (lo hi : Nat) (v v2 : Value) (m : Md) (xs : List Nd) (w : World) (hr : Mv lo hi w v m) (hr2 : Ns w v2 xs) :
    Calls Tryz.prog 130 #[v, v2] w fun e w' => e = .returned (.bool (evOk m xs)) ∧ Below w.heap.size w w' := by
  have KS := Lib.hid (fun W (h : Below w.heap.size w W) => specOk_any lo hi v m W (hr.keeps (Keeps.of_all h)))
  rw [specOk_mdOk] at KS
  have KF := Lib.hid (fun W (h : Below w.heap.size w W) => specForm_any v2 xs W (hr2.below h (Nat.le_refl _)))
  have HR : Hid (evOk m xs = (mdOk m && formOk xs && agentsOk xs m.blocks.length)) := Lib.hid rfl
  generalize evOk m xs = R at *
  obtain ⟨fv, bv, rfl, hf, hb⟩ := hr
  obtain ⟨ba, bc, rfl, hbl, hbc, -⟩ := hb.parts
  obtain ⟨a, cap, rfl, h1, h2, h3⟩ := hr2.parts
  unfold maxLen at hbc h2
  have KEY := Lib.hid h3
  clear hf hb h3 hr2
  cases hm : mdOk m with
  | false =>
    rw [hm] at KS HR
    have HR' : Hid (R = false) := Lib.hid (by rw [HR.out]; rfl)
    clear HR hm KF KEY
    go_enter Tryz.func130, Tryz.ntmps130
    go_wp2_with fail
    refine (KS.out _ (by go_grown)).mono ?_
    rintro e w1 ⟨rfl, hb1⟩
    have B1 : Hid (Below w.heap.size w w1) := Lib.hid (Below.trans (by go_grown) (hb1.mono (by simp)))
    clear hb1
    go_wp2
    go_ret
    exact ⟨ret_bool HR'.out.symm, B1.out⟩
  | true =>
  cases hfo : formOk xs with
  | false =>
    rw [hm] at KS
    rw [hm, hfo] at HR
    rw [hfo] at KF
    have HR' : Hid (R = false) := Lib.hid (by rw [HR.out]; rfl)
    clear HR hm hfo KEY
    go_enter Tryz.func130, Tryz.ntmps130
    go_wp2_with fail
    refine (KS.out _ (by go_grown)).mono ?_
    rintro e w1 ⟨rfl, hb1⟩
    have B1 : Hid (Below w.heap.size w w1) := Lib.hid (Below.trans (by go_grown) (hb1.mono (by simp)))
    clear hb1
    go_wp2_with fail
    refine (KF.out _ B1.out).mono ?_
    rintro e w2 ⟨rfl, hb2⟩
    have B1 := Lib.hid (B1.out.trans (hb2.mono B1.out.size))
    clear hb2
    go_wp2
    go_ret
    exact ⟨ret_bool HR'.out.symm, B1.out⟩
  | true =>
    rw [hm] at KS
    rw [hm, hfo] at HR
    rw [hfo] at KF
    have HR' : Hid (R = agentsOk xs m.blocks.length) := Lib.hid (by rw [HR.out]; rfl)
    have HN0 := Lib.hid (fun k (hk : k < xs.length) => (okAt_parts (nodesOk_at (formOk_parts hfo).2.2.1 hk)).1.2.2.1)
    clear HR hm hfo
    go_enter Tryz.func130, Tryz.ntmps130
    go_wp2_with fail
    refine (KS.out _ (by go_grown)).mono ?_
    rintro e w1 ⟨rfl, hb1⟩
    have X1 := Lib.hid (Mcell.below (b := w.heap.size) (Mcell.new (n := m.actual) rfl) hb1)
    have B1 : Hid (Below w.heap.size w w1) := Lib.hid (Below.trans (by go_grown) (hb1.mono (by simp)))
    clear hb1
    go_wp2_with fail
    refine (KF.out _ B1.out).mono ?_
    rintro e w2 ⟨rfl, hb2⟩
    have X1 := Lib.hid (X1.out.below hb2)
    have B1 := Lib.hid (B1.out.trans (hb2.mono B1.out.size))
    clear hb2 KS KF
    go_wp2
    go_loopw [17] (fun iv wr => ∃ k : Nat, k ≤ xs.length ∧ iv = .int .i64 k ∧ Hid (∀ j, j < k → agentOk m.blocks.length (xs.getD j default) = true) ∧ Hid (Mcell wr w.heap.size fv (.slice ba m.blocks.length bc) m.actual) ∧ Hid (Below w.heap.size w wr)) (fun iv _ => xs.length - (intOf iv).toNat)
    case atStart => exact ⟨0, Nat.zero_le _, rfl, Lib.hid (fun j hj => by omega), X1, B1⟩
    case round =>
      clear X1 B1
      obtain ⟨k, hk, rfl, HK, XR, BR⟩ := hrel
      by_cases hlt : k < xs.length
      · obtain ⟨b, o, rfl, hb, c0, c1, c2, c3⟩ := KEY.out k hlt
        rw [← BR.out.cell (p := ⟨b, o + k * 4, none⟩) hb] at c0
        rw [← BR.out.cell (p := ⟨b, o + k * 4 + 1, none⟩) hb] at c1
        rw [← BR.out.cell (p := ⟨b, o + k * 4 + 2, none⟩) hb] at c2
        rw [← BR.out.cell (p := ⟨b, o + k * 4 + 3, none⟩) hb] at c3
        have HF : Hid (agentOk m.blocks.length (xs.getD k default) = false → R = false) := Lib.hid (fun h => by rw [HR'.out, agents_no hlt h])
        have HN : Hid (agentOk m.blocks.length (xs.getD k default) = true → ∀ j, j < k + 1 → agentOk m.blocks.length (xs.getD j default) = true) := Lib.hid (fun h j hj => by
          rcases Nat.lt_or_eq_of_le (Nat.le_of_lt_succ hj) with h1 | h1
          · exact HK.out j h1
          · subst h1; exact h)
        have hx0 := HN0.out k hlt
        obtain ⟨x, hx⟩ : ∃ x, x = xs.getD k default := ⟨_, rfl⟩
        rw [← hx] at c0 c1 c2 c3 HF HN hx0
        clear hx
        obtain ⟨op, n, xa, xb⟩ := x
        simp only at c0 c1 c2 c3 hx0
        obtain ⟨i, rfl⟩ := Int.eq_ofNat_of_zero_le hx0
        obtain ⟨y0, y1, y2, y3, y4, y5⟩ := XR.out
        have xlt := XR.out.lt
        by_cases h56 : op = 5 ∨ op = 6
        · rcases Nat.lt_or_ge i m.blocks.length with hil | hil
          · have HN' := Lib.hid (HN.out (agentOk_yes hx0 (by show (i : Int) < _; omega)))
            have hd2 : decide ((m.blocks.length : Int) ≤ (i : Int)) = false := decide_eq_false (by omega)
            have hd3 : decide (m.blocks.length ≤ i) = false := decide_eq_false (by omega)
            rcases h56 with rfl | rfl
            · go_wp2
              go_roundw
              case rel => exact ⟨k + 1, by omega, by go_num, HN', Lib.hid (XR.out.alloc _), Lib.hid (BR.out.alloc BR.out.size _)⟩
              case measure => simp [intOf]; omega
            · go_wp2
              go_roundw
              case rel => exact ⟨k + 1, by omega, by go_num, HN', Lib.hid (XR.out.alloc _), Lib.hid (BR.out.alloc BR.out.size _)⟩
              case measure => simp [intOf]; omega
          · have HF' := Lib.hid (HF.out (agentOk_no h56 (by show _ ≤ (i : Int); omega)))
            have hd2 : decide ((m.blocks.length : Int) ≤ (i : Int)) = true := decide_eq_true (by omega)
            have hd3 : decide (m.blocks.length ≤ i) = true := decide_eq_true (by omega)
            rcases h56 with rfl | rfl
            · go_wp2
              go_ret
              exact ⟨ret_bool HF'.out.symm, BR.out.alloc BR.out.size _⟩
            · go_wp2
              go_ret
              exact ⟨ret_bool HF'.out.symm, BR.out.alloc BR.out.size _⟩
        · have HN' := Lib.hid (HN.out (agentOk_free h56))
          have h5 : decide (op = 5) = false := decide_eq_false (by omega)
          have h6 : decide (op = 6) = false := decide_eq_false (by omega)
          have h5' : (op == 5) = false := by rw [beq_eq_false_iff_ne]; omega
          have h6' : (op == 6) = false := by rw [beq_eq_false_iff_ne]; omega
          have h5'' : ¬ op = 5 := by omega
          have h6'' : ¬ op = 6 := by omega
          go_wp2
          go_roundw
          case rel => exact ⟨k + 1, by omega, by go_num, HN', Lib.hid (XR.out.alloc _), Lib.hid (BR.out.alloc BR.out.size _)⟩
          case measure => simp [intOf]; omega
      · go_wp2
        go_ret
        exact ⟨ret_bool (by rw [HR'.out, agents_yes (fun j hj => HK.out j (by omega))]), BR.out⟩

set_option maxRecDepth 100000 in
set_option maxHeartbeats 16000000 in
theorem specTruth_any (lo hi : Nat) (v v2 : Value) (m : Md) (xs : List Nd) (w : World) (hr : Mv lo hi w v m) (hr2 : Ns w v2 xs) (hok : evOk m xs = true) :
    Calls Tryz.prog 131 #[v, v2] w (BoolsAns w (truthR m xs)) := by
  have HEV := ev_truth hok
  obtain ⟨hm, hfo, hag⟩ := evOk_parts hok
  obtain ⟨q1, q2, hnodes, -⟩ := formOk_parts hfo
  have hp2 := (mdOk_parts hm).2.1
  have KE := Lib.hid (fun W (h : Below w.heap.size w W) lo2 hi2 v3 (h3 : Bv lo2 hi2 W v3 (List.replicate m.facts.length true)) => specEval_any lo hi v v2 m xs hm hnodes hag xs.length (xs.length - 1) (by omega) (by omega) lo2 hi2 v3 _ W (hr.keeps (Keeps.of_all h)) (hr2.below h (Nat.le_refl _)) h3 (by simp))
  rw [HEV] at KE
  obtain ⟨tl, htl⟩ : ∃ t, t = truthR m xs := ⟨_, rfl⟩
  rw [← htl] at KE ⊢
  have HQ : Hid ((xs.length : Int) - 1 = ((xs.length - 1 : Nat) : Int)) := Lib.hid (by omega)
  simp only [← HQ.out] at KE
  obtain ⟨fv, bv, rfl, hf, hb⟩ := hr
  obtain ⟨fa, fc, e1⟩ := hf.form
  subst e1
  obtain ⟨a, cap, rfl, h1, h2, -⟩ := hr2.parts
  unfold maxLen at h2
  have KA := Lib.hid (fun W => specAll_any m.facts.length W hp2)
  clear hf hb hr2 HEV htl hok hm hfo hag hnodes
  go_enter Tryz.func131, Tryz.ntmps131
  go_wp2_with fail
  have X1 := Lib.hid (Mcell.new (w := w) (T := 26) (b := w.heap.size) (fv := .slice fa m.facts.length fc) (bv := bv) (n := m.actual) rfl)
  have hb1 : Below w.heap.size w (w.alloc (.cells #[.slice fa m.facts.length fc, bv, .int .i64 m.actual] 26)) := by go_grown
  generalize w.alloc (.cells #[.slice fa m.facts.length fc, bv, .int .i64 m.actual] 26) = w1 at *
  have B1 := Lib.hid hb1
  clear hb1
  have HRG : Hid (∀ W, Below w1.heap.size w1 W → W.rangeAt w.heap.size 0 [.slice fa m.facts.length fc, bv, .int .i64 m.actual]) := Lib.hid (fun W h => (X1.out.below h).range)
  have HC0 : Hid (∀ W, Below w1.heap.size w1 W → W.cell? ⟨w.heap.size, 0, none⟩ = some (.slice fa m.facts.length fc)) := Lib.hid (fun W h => (X1.out.below h).1)
  have HU : Tryz.prog.underlying 26 = some _ := Tryz.underlying26
  refine regionL (fun W => Below w1.heap.size w1 W) [] (by kernel_rfl) (Below.refl _ _).drew (fun hHeld => ?_)
  refine takeA (i := 0) (v := .agg #[.slice fa m.facts.length fc, bv, .int .i64 m.actual]) 5 rfl rfl (by kernel_rfl) (by kernel_rfl) (by kernel_rfl) (by kernel_rfl) (fun _ _ _ h => h) (yieldsIf_load_mid (by rfl) 26 _ rfl w.heap.size 0 rfl [.slice fa m.facts.length fc, bv, .int .i64 m.actual] _ HRG.out HU rfl Tryz.sizeMd) hHeld ?_
  simp only [Act.put, List.setIfInBounds_toArray, List.set_cons_zero, List.set_cons_succ]
  refine takeA (i := 1) (v := .slice a xs.length cap) 6 rfl rfl (by kernel_rfl) (by kernel_rfl) (by kernel_rfl) (by kernel_rfl) (fun _ _ _ h => h) (Or.inl ⟨by rfl, by intro W hSw; go_simp⟩) hHeld ?_
  simp only [Act.put, List.setIfInBounds_toArray, List.set_cons_zero, List.set_cons_succ]
  refine takeA (i := 2) (v := .pointer (some ⟨w.heap.size, 0, none⟩)) 7 rfl rfl (by kernel_rfl) (by kernel_rfl) (by kernel_rfl) (by kernel_rfl) (fun _ _ _ h => h) (Or.inl ⟨by rfl, by intro W hSw; go_simp⟩) hHeld ?_
  simp only [Act.put, List.setIfInBounds_toArray, List.set_cons_zero, List.set_cons_succ]
  refine takeA (i := 3) (v := .slice fa m.facts.length fc) 8 rfl rfl (by kernel_rfl) (by kernel_rfl) (by kernel_rfl) (by kernel_rfl) (fun _ _ _ h => h) (Or.inl ⟨by rfl, by intro W hSw; have c1 := HC0.out _ hSw; go_simp⟩) hHeld ?_
  simp only [Act.put, List.setIfInBounds_toArray, List.set_cons_zero, List.set_cons_succ]
  refine takeA (i := 4) (v := .int .i64 m.facts.length) 9 rfl rfl (by kernel_rfl) (by kernel_rfl) (by kernel_rfl) (by kernel_rfl) (fun _ _ _ h => h) (Or.inl ⟨by rfl, by intro W hSw; go_simp⟩) hHeld ?_
  simp only [Act.put, List.setIfInBounds_toArray, List.set_cons_zero, List.set_cons_succ]
  refine takeA (i := 6) (v := .slice a xs.length cap) 11 rfl rfl (by kernel_rfl) (by kernel_rfl) (by kernel_rfl) (by kernel_rfl) (fun _ _ _ h => h) (Or.inl ⟨by rfl, by intro W hSw; go_simp⟩) hHeld ?_
  simp only [Act.put, List.setIfInBounds_toArray, List.set_cons_zero, List.set_cons_succ]
  refine takeA (i := 7) (v := .int .i64 xs.length) 12 rfl rfl (by kernel_rfl) (by kernel_rfl) (by kernel_rfl) (by kernel_rfl) (fun _ _ _ h => h) (Or.inl ⟨by rfl, by intro W hSw; go_simp⟩) hHeld ?_
  simp only [Act.put, List.setIfInBounds_toArray, List.set_cons_zero, List.set_cons_succ]
  refine takeA (i := 8) (v := .int .i64 ((xs.length : Int) - 1)) 13 rfl rfl (by kernel_rfl) (by kernel_rfl) (by kernel_rfl) (by kernel_rfl) (fun _ _ _ h => h) (Or.inl ⟨by rfl, by intro W hSw; have hw : IntKind.i64.wrap ((xs.length : Int) - 1) = (xs.length : Int) - 1 := IntWalk.i64_in _ (by omega); go_simp⟩) hHeld ?_
  simp only [Act.put, List.setIfInBounds_toArray, List.set_cons_zero, List.set_cons_succ]
  refine onlyL (i := 5) (by kernel_rfl) rfl (by rfl) (fun K hK => ?_)
  go_simp
  refine (KA.out _).mono ?_
  rintro e w2 ⟨va, rfl, hoa, hb2⟩
  have t2 : Below w1.heap.size w1 w2 := hHeld.trans (hb2.mono (Nat.le_refl _))
  have HOA := Lib.hid hoa.read
  clear hoa hb2 hHeld
  refine hK.out _ _ (fun _ => t2) (fun hHeld => ?_)
  have hHeld := hHeld (by decide)
  clear hK K
  try simp only [Act.put, List.setIfInBounds_toArray, List.set_cons_zero, List.set_cons_succ]
  refine onlyL (i := 9) (by kernel_rfl) rfl (by rfl) (fun K hK => ?_)
  go_simp
  refine (KE.out _ (B1.out.trans (t2.mono B1.out.size)) _ _ _ HOA.out).mono ?_
  rintro e w3 ⟨vt, rfl, hot, hb3⟩
  have t3 : Below w1.heap.size w1 w3 := t2.trans (hb3.mono t2.size)
  have HOT := Lib.hid hot
  have st3 : w2.heap.size ≤ w3.heap.size := hb3.size
  clear hot hb3 hHeld
  refine hK.out _ _ (fun _ => t3) (fun hHeld => ?_)
  have hHeld := hHeld (by decide)
  clear hK K
  try simp only [Act.put, List.setIfInBounds_toArray, List.set_cons_zero, List.set_cons_succ]
  refine takeA (i := 10) (v := vt) 4 rfl rfl (by kernel_rfl) (by kernel_rfl) (by kernel_rfl) (by kernel_rfl) (fun _ _ _ h => h) (Or.inl ⟨by rfl, by intro W hSw; go_simp⟩) hHeld ?_
  simp only [Act.put, List.setIfInBounds_toArray, List.set_cons_zero, List.set_cons_succ]
  refine doneL (by kernel_rfl) ?_ _
  have B3 := Lib.hid (B1.out.trans (t3.mono B1.out.size))
  have sz2 : w.heap.size ≤ w2.heap.size := (B1.out.trans (t2.mono B1.out.size)).size
  go_wp2
  go_ret
  exact ⟨_, rfl, ⟨own_mono HOT.out.1 sz2, HOT.out.2⟩, B3.out⟩
end Go.Proofs.YtodjohdbngbpaaaGreat

/-
  What the laws of chapter 5 answer, in mathematics; slices.Clone of bools; truthIn in a form for its callers. No condition but the readings.
-/
namespace Go.Proofs.YtodjohdbngbpaaaGreat
open Go.RowKit Go.WideShapes
open Go Go.Deep
set_option linter.unusedSimpArgs false
section
variable {P : Program}
/-- guarded: two structs or arrays are compared -/
theorem wpList_eqAG {ops : Array Oper} {rest : List Oper} {o : Oper} {a : Act} {w : World} {Q : Exit → Act → World → Prop} {g : Nat × Bool} (hgu : o.guard = some g) (hw : Region.wanted o (yielded ops a.tmps) = true) (T : TypeId) (x y : Operand) (R : TypeId) (ho : o.op = .binOp .eql T x y R)
    (xs ys : Array Value) (hx : a.eval x = .agg xs) (hy : a.eval y = .agg ys) (hg : P.eqGuardType P.depth T = false) (b : Bool) (hr : (Op.equalIn 10000 T (.agg xs) (.agg ys)).run P w = .ok b w)
    (h : wpList P ops Q rest (a.put o.dst (.bool b)) w) : wpList P ops Q (o :: rest) a w := by
  refine wpList_opG hgu hw (.bool b) ?_ h
  unfold execOp
  simp only [ho, hx, hy, Sem.run_bind, run_eqGuard_agg w _ _ _ _ _ _ hg, run_eql_struct, hr, Result.andThen_ok, Sem.run_pure]
end

def holdsR (m : Md) (xs : List Nd) : Bool := evOk m xs && evP m xs m.actual.toNat
def whereR (m : Md) (xs : List Nd) : List Int := if evOk m xs then nums (lst (evP m xs) 16) else []
def equivR (m : Md) (xs ys : List Nd) : Bool := evOk m xs && evOk m ys && eqB (evP m xs) (evP m ys)
theorem ok_len {m : Md} {xs : List Nd} (h : evOk m xs = true) : 1 ≤ m.facts.length ∧ m.facts.length ≤ 16 := ⟨(mdOk_parts (evOk_parts h).1).1, (mdOk_parts (evOk_parts h).1).2.1⟩
theorem evP_in {m : Md} {xs : List Nd} (h : evOk m xs = true) {i : Nat} (hi : evP m xs i = true) : i < m.facts.length := evI_in _ m i (ok_len h).2 hi
theorem list_truth {m : Md} {xs : List Nd} (h : evOk m xs = true) : lst (fun i => (truthR m xs).getD i false) (truthR m xs).length = lst (evP m xs) 16 := by
  rw [truthR_len, lst_16 (fun i hi => evP_in h hi) (ok_len h).2]
  exact lst_congr fun i hi => truthR_at hi
/-- truthIn, for its callers: a grid G and a set P -/
theorem truthIn_gen (lo hi : Nat) (v v2 : Value) (m : Md) (xs : List Nd) (w : World) (hr : Mv lo hi w v m) (hhi : hi ≤ w.heap.size) (hr2 : Ns w v2 xs) :
    ∃ (G : List Int) (P : Nat → Bool), (ints G).length = 67 ∧ (evOk m xs = true → (ints G)[0]? = some (.int .i64 m.facts.length) ∧ (ints G)[66]? = some (.int .i64 m.actual) ∧ P = evP m xs ∧ G = gM m) ∧ (evOk m xs = false → P = fun _ => false) ∧
      ∀ W, Below w.heap.size w W → Calls Tryz.prog 60 #[v, v2] W fun e w' => e = .returned (.tuple #[.agg (ints G).toArray, .agg (bL P).toArray, .bool (evOk m xs)]) ∧ Below W.heap.size W w' := by
  have K := fun W (h : Below w.heap.size w W) => truthIn_any lo hi v v2 m xs W (hr.keeps (Keeps.of_all h)) (Nat.le_trans hhi h.size) (hr2.below h (Nat.le_refl _))
  unfold TrAns at K
  cases hok : evOk m xs with
  | true =>
    rw [hok] at K
    have hs := md_small (evOk_parts hok).1
    refine ⟨gM m, evP m xs, by rw [ints_len]; exact gL_len hs, fun _ => ⟨rfl, ?_, rfl, rfl⟩, fun h => absurd h (by decide), fun W h => K W h⟩
    unfold ints gM
    rw [List.getElem?_map, gL_66 hs]; rfl
  | false =>
    rw [hok] at K
    exact ⟨gL 0 0 [] [] 0, fun _ => false, rfl, fun h => absurd h (by decide), fun _ => rfl, fun W h => K W h⟩
end Go.Proofs.YtodjohdbngbpaaaGreat
