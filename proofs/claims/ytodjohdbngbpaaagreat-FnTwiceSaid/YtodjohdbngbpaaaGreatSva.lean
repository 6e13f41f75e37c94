/-
  Contract of spec.l04Eval: the truth of a formula's part in the worlds that are alive. Conditions: the model and the formula are valid, the formula's agents are the model's, there is a bool for each world.
-/
import Derived.Test.YtodjohdbngbpaaaGreatZSem
import Derived.Test.YtodjohdbngbpaaaGreatZForm
import Derived.Test.YtodjohdbngbpaaaGreatZSet
namespace Go.Proofs.YtodjohdbngbpaaaGreat
open Go.RowKit Go.WideShapes
open Go Go.Deep
set_option linter.unusedSimpArgs false

/-- the truth of a formula in all worlds, as a list -/
def evL (T : Tm) (m : Md) (al : Nat → Bool) : List Bool := (List.range m.facts.length).map (evS T m al)
theorem evL_len (T : Tm) (m : Md) (al : Nat → Bool) : (evL T m al).length = m.facts.length := by simp [evL]
theorem evL_at {T : Tm} {m : Md} {al : Nat → Bool} {i : Nat} (h : i < m.facts.length) : (evL T m al).getD i false = evS T m al i := getD_rangeMap' h
/-- what lies in the answer before the k-th world -/
def outL (n : Nat) (V : Nat → Bool) (k : Nat) : List Bool := (List.range n).map fun i => decide (i < k) && V i
theorem outL_len (n : Nat) (V : Nat → Bool) (k : Nat) : (outL n V k).length = n := by simp [outL]
theorem outL_0 (n : Nat) (V : Nat → Bool) : outL n V 0 = List.replicate n false := by
  unfold outL
  apply List.ext_getElem?
  intro i
  rcases Nat.lt_or_ge i n with h | h
  · rw [List.getElem?_map, List.getElem?_range h, List.getElem?_replicate, if_pos h]; simp
  · rw [List.getElem?_eq_none (by simpa using h), List.getElem?_eq_none (by simpa using h)]
theorem outL_end (n : Nat) (V : Nat → Bool) : outL n V n = (List.range n).map V := by
  unfold outL
  refine List.map_congr_left fun i hi => ?_
  rw [List.mem_range] at hi
  simp [hi]
theorem outL_no {n : Nat} {V : Nat → Bool} {k : Nat} (h : V k = false) : outL n V (k + 1) = outL n V k := by
  unfold outL
  refine List.map_congr_left fun i _ => ?_
  rcases Nat.lt_trichotomy i k with h1 | h1 | h1
  · rw [decide_eq_true (by omega), decide_eq_true h1]
  · subst h1; rw [h]; simp
  · rw [decide_eq_false (by omega), decide_eq_false (by omega)]
theorem outL_set {n : Nat} {V : Nat → Bool} {k : Nat} (hk : k < n) : (outL n V k).set k (V k) = outL n V (k + 1) := by
  unfold outL
  apply List.ext_getElem?
  intro i
  rw [List.getElem?_set]
  by_cases e : k = i
  · subst e
    rw [if_pos rfl, if_pos (by simpa using hk), List.getElem?_map, List.getElem?_range hk]; simp
  · rw [if_neg e]
    rcases Nat.lt_or_ge i n with h | h
    · rw [List.getElem?_map, List.getElem?_range h, List.getElem?_map, List.getElem?_range h]
      have : decide (i < k) = decide (i < k + 1) := by rw [decide_eq_decide]; omega
      simp [this]
    · rw [List.getElem?_eq_none (by simpa using h), List.getElem?_eq_none (by simpa using h)]
theorem outL_cell {n : Nat} {V : Nat → Bool} {k : Nat} (hk : k < n) : (bools (outL n V k))[k]? = some (.bool ((outL n V k).getD k false)) := bools_at (by rw [outL_len]; exact hk)

/-- what an inner call answers -/
def EvIH (m : Md) (w : World) (v v2 : Value) (T : Tm) (i : Int) : Prop :=
  ∀ lo2 hi2 v3 (al : List Bool) W, Below w.heap.size w W → Bv lo2 hi2 W v3 al → al.length = m.facts.length → Calls Tryz.prog 158 #[v, v2, v3, .int .i64 i] W (BoolsAns W (evL T m fun j => al.getD j false))

theorem slice_inj {b o c b' o' c' n n' : Nat} (h : Value.slice (some ⟨b, o, none⟩) n c = .slice (some ⟨b', o', none⟩) n' c') : b = b' ∧ o = o' ∧ c = c' := by cases h; exact ⟨rfl, rfl, rfl⟩
theorem range_snoc (p : Nat → Bool) (k : Nat) : (List.range (k + 1)).map p = (List.range k).map p ++ [p k] := by rw [List.range_succ, List.map_append]; rfl
theorem allW_cong {m : Md} {p q : Nat → Bool} (h : ∀ i, i < m.facts.length → p i = q i) : allW m p = allW m q := by
  unfold allW
  rw [Bool.eq_iff_iff, List.all_eq_true, List.all_eq_true]
  exact ⟨fun e i hi => by rw [← h i (List.mem_range.1 hi)]; exact e i hi, fun e i hi => by rw [h i (List.mem_range.1 hi)]; exact e i hi⟩
theorem stepA_cong {m : Md} {al al' : Nat → Bool} (h : ∀ i, i < m.facts.length → al i = al' i) (i j : Nat) : stepA m al i j = stepA m al' i j := by
  unfold stepA
  by_cases e : j < m.facts.length
  · rw [h j e]
  · simp [e]
theorem evS_cong : ∀ (T : Tm) (m : Md) (al al' : Nat → Bool), (∀ i, i < m.facts.length → al i = al' i) → ∀ i, i < m.facts.length → evS T m al i = evS T m al' i
  | .leaf op n, m, al, al', h, i, hi => by unfold evS; rw [h i hi]
  | .deny a, m, al, al', h, i, hi => by unfold evS; rw [h i hi, evS_cong a m al al' h i hi]
  | .know op n a, m, al, al', h, i, hi => by
    have IH := evS_cong a m al al' h
    have hb : ∀ k want, blockW m k al (evS a m al) i want = blockW m k al' (evS a m al') i want := fun k want => by
      unfold blockW
      exact allW_cong fun v hv => by rw [h v hv, IH v hv]
    have hreach : ∀ v, reachA m al i v = reachA m al' i v := fun v => wsh_congr (stepA_cong h) _ _ _
    unfold evS
    rw [h i hi]
    congr 1
    split
    · exact hb _ _
    · split
      · rw [IH i hi]; exact hb _ _
      · split
        · congr 1; funext k; exact hb _ _
        · exact allW_cong fun v hv => by rw [hreach v, IH v hv]
  | .joint op a b, m, al, al', h, i, hi => by
    have IH := evS_cong a m al al' h
    have IB := evS_cong b m al al' h
    have IC := evS_cong b m (fun v => al v && evS a m al v) (fun v => al' v && evS a m al' v) (fun v hv => by rw [h v hv, IH v hv])
    unfold evS
    rw [h i hi]
    congr 1
    split
    · rw [IH i hi, IB i hi]
    · rw [IH i hi, IC i hi]
theorem evL_cong {T : Tm} {m : Md} {al al' : Nat → Bool} (h : ∀ i, i < m.facts.length → al i = al' i) : evL T m al = evL T m al' := by
  unfold evL
  exact List.map_congr_left fun i hi => evS_cong T m al al' h i (List.mem_range.1 hi)

set_option maxRecDepth 100000 in
set_option maxHeartbeats 64000000 in
theorem eval_true (lo hi lo2 hi2 : Nat) (v v2 v3 : Value) (m : Md) (xs : List Nd) (al : List Bool) (q : Nat) (w : World) (hr : Mv lo hi w v m) (hm : mdOk m = true) (hr2 : Ns w v2 xs) (h3 : Bv lo2 hi2 w v3 al) (he : al.length = m.facts.length) (hq : q < xs.length) (op n xa xb : Int) (hx : xs.getD q default = ⟨op, n, xa, xb⟩) (V : Nat → Bool)
    (hop : op = 2) (HV : Hid (∀ i, i < m.facts.length → V i = (al.getD i false && true))) :
    Calls Tryz.prog 158 #[v, v2, v3, .int .i64 q] w (BoolsAns w ((List.range m.facts.length).map V)) := by
  obtain ⟨p1, p2, p3, p4, p5, p6, -⟩ := mdOk_parts hm
  subst hop
  have ho1 : (1 : Int) ≤ 2 := by decide
  have ho9 : (2 : Int) ≤ 9 := by decide
  have husi : usesI 2 = 0 := rfl
  obtain ⟨fv, bv0, rfl, hf, hb⟩ := hr
  obtain ⟨fa, fc, e1⟩ := hf.form
  subst e1
  obtain ⟨ba, bc, e1, hbl, hbc, -⟩ := hb.parts
  subst e1
  obtain ⟨b3, o3, c3, rfl, q3, r3, k3⟩ := h3.kept (by omega)
  rw [he] at q3 k3 ⊢
  unfold maxLen at r3
  have HAL := Lib.hid k3
  have hns := hr2
  obtain ⟨a, cap, rfl, h1, h2, -⟩ := hr2.parts
  unfold maxLen at h2
  have HU := Lib.hid (fun W => l02Uses_in 2 W ho1 ho9)
  rw [husi] at HU
  obtain ⟨a', cap', e1, -, -, hcell⟩ := (hns.below (B := w.heap.size) (w' := w.alloc (.cells #[.slice fa m.facts.length fc, .slice ba m.blocks.length bc, .int .i64 m.actual] 26)) (by go_grown) (Nat.le_refl _)).parts
  cases e1
  obtain ⟨bx, ox, rfl, hbx, n0, n1, n2, n3⟩ := hcell q hq
  rw [hx] at n0 n1 n2 n3
  have q0 : (0 : Int) ≤ (q : Int) := Int.natCast_nonneg _
  have qn : (q : Int) < (xs.length : Int) := by omega
  have HOUT := Lib.hid (outL_0 m.facts.length V)
  have hlen := p2
  clear hf hb h3 hr2 hns hcell k3 hm p5 p6 husi hx
  go_enter Tryz.func158, Tryz.ntmps158
  have tk1 : True := trivial
  have tk2 : True := trivial
  have tk3 : True := trivial
  have tk4 : True := trivial
  go_wp2_with
    (first
      | (have _t := tk1; clear _t tk1; refine wpList_makeM rfl (.tmp 24) (.tmp 24) 158 25 rfl rfl 4 (.bool false) 1 Tryz.underlying158 Tryz.infoB m.facts.length .i64 .i64 rfl rfl (by omega) (by unfold maxLen; omega) (bools (List.replicate m.facts.length false)) (madeB m.facts.length) ?_
         intro w1 hz hb1
         have X1 := Lib.hid (Mcell.below ((Mcell.new (w := w) (T := 26) (b := w.heap.size) (fv := .slice fa m.facts.length fc) (bv := .slice ba m.blocks.length bc) (n := m.actual) rfl).alloc (.cells #[.int .i64 2, .int .i64 n, .int .i64 xa, .int .i64 xb] 112)) hb1)
         have N1 := Lib.hid (Cm.all (Cm.new (w := w.alloc (.cells #[.slice fa m.facts.length fc, .slice ba m.blocks.length bc, .int .i64 m.actual] 26)) (b := w.heap.size + 1) (T := 112) (cs := [.int .i64 2, .int .i64 n, .int .i64 xa, .int .i64 xb]) (by simp)) hb1)
         have O1 : Hid (Cm w1 (w.heap.size + 2) 4 (bools (outL m.facts.length V 0))) := Lib.hid (by rw [HOUT.out]; simpa using hz)
         have B1 : Hid (Below w.heap.size w w1) := Lib.hid (Below.trans (by go_grown) (hb1.mono (by simp; omega)))
         have s1 : w.heap.size + 2 < w1.heap.size := O1.out.lt
         clear n0 n1 n2 n3 hz hb1 hbx
         obtain ⟨xc0, xc1, xc2, xc3, xc4, xc5⟩ := X1.out)
      | (have _t := tk2; clear _t tk2; refine wpList_makeM rfl (.tmp 28) (.tmp 28) 158 29 rfl rfl 4 (.bool false) 1 Tryz.underlying158 Tryz.infoB m.facts.length .i64 .i64 rfl rfl (by omega) (by unfold maxLen; omega) (bools (List.replicate m.facts.length false)) (madeB m.facts.length) ?_
         intro w2 hz hb1
         have X1 := Lib.hid (X1.out.below hb1)
         have N1 := Lib.hid (N1.out.all hb1)
         have O1 := Lib.hid (O1.out.all hb1)
         have B1 : Hid (Below w.heap.size w w2) := Lib.hid (B1.out.trans (hb1.mono B1.out.size))
         have s2 : w1.heap.size ≤ w2.heap.size := hb1.size
         clear hz hb1 xc0 xc1 xc2 xc3 xc4 xc5
         obtain ⟨xc0, xc1, xc2, xc3, xc4, xc5⟩ := X1.out)
      | (have _t := tk3; clear _t tk3; refine wpList_makeM rfl (.tmp 32) (.tmp 32) 158 33 rfl rfl 4 (.bool false) 1 Tryz.underlying158 Tryz.infoB m.facts.length .i64 .i64 rfl rfl (by omega) (by unfold maxLen; omega) (bools (List.replicate m.facts.length false)) (madeB m.facts.length) ?_
         intro w3 hz hb1
         have X1 := Lib.hid (X1.out.below hb1)
         have N1 := Lib.hid (N1.out.all hb1)
         have O1 := Lib.hid (O1.out.all hb1)
         have B1 : Hid (Below w.heap.size w w3) := Lib.hid (B1.out.trans (hb1.mono B1.out.size))
         have s3 : w2.heap.size ≤ w3.heap.size := hb1.size
         clear hz hb1 xc0 xc1 xc2 xc3 xc4 xc5
         obtain ⟨xc0, xc1, xc2, xc3, xc4, xc5⟩ := X1.out
         have nc2 : w3.cell? ⟨w.heap.size + 1, 2, none⟩ = some (.int .i64 xa) := N1.out.cell 2
         have nc0 : w3.cell? ⟨w.heap.size + 1, 0, none⟩ = some (.int .i64 2) := N1.out.cell 0)
      | (have _t := tk4; clear _t tk4; refine (HU.out _).mono ?_; rintro e wq ⟨rfl, rfl⟩))
  clear xc0 xc1 xc2 xc3 xc4 xc5 nc2

  clear nc0
  go_loopw [83] (fun iv wr => ∃ k : Nat, k ≤ m.facts.length ∧ iv = .int .i64 k ∧ Hid (Cm wr (w.heap.size + 2) 4 (bools (outL m.facts.length V k))) ∧ Hid (Mcell wr w.heap.size (.slice fa m.facts.length fc) (.slice ba m.blocks.length bc) m.actual) ∧ Hid (Cm wr (w.heap.size + 1) 112 [.int .i64 2, .int .i64 n, .int .i64 xa, .int .i64 xb]) ∧ Hid (Keeps (w.heap.size + 3) w3.heap.size w3 wr) ∧ Hid (Below w.heap.size w wr)) (fun iv _ => m.facts.length - (intOf iv).toNat)
  case atStart => exact ⟨0, Nat.zero_le _, rfl, O1, X1, N1, Lib.hid (Keeps.refl _ _ _), B1⟩
  case round =>
    clear O1 X1 N1 B1
    obtain ⟨k, hk, rfl, OR, XR, NR, PR, BR⟩ := hrel
    by_cases hlt : k < m.facts.length
    · have ca := HAL.out _ BR.out k hlt
      have hv := Lib.hid (HV.out k hlt)
      have k0 : (0 : Int) ≤ (k : Int) := Int.natCast_nonneg _
      have kn : (k : Int) < (m.facts.length : Int) := by omega
      obtain ⟨a0, e4⟩ : ∃ y, y = al.getD k false := ⟨_, rfl⟩
      rw [← e4] at ca hv
      clear e4
      cases a0 with
      | false =>
        have HS := Lib.hid (outL_no (n := m.facts.length) (hv.out.trans (Bool.false_and _)))
        go_wp2
        go_roundw
        case rel => exact ⟨k + 1, by omega, by go_num, Lib.hid (by rw [HS.out]; exact OR.out), XR, NR, PR, BR⟩
        case measure => simp [intOf]; omega
      | true =>
        have hv := Lib.hid (hv.out.trans (Bool.true_and _))
        have HS := Lib.hid (outL_set (n := m.facts.length) (V := V) (k := k) hlt)
        have nc0 : wr.cell? ⟨w.heap.size + 1, 0, none⟩ = some (.int .i64 2) := NR.out.cell 0
        have hwr : w.heap.size + 2 < wr.heap.size := OR.out.lt
        have ck := (OR.out.cell k).trans (outL_cell hlt)
        have fk := OR.out.frozen k
        go_wp2

        go_roundw
        case rel =>
          have e : V k = true := hv.out
          refine ⟨k + 1, by omega, by go_num, Lib.hid ?_, Lib.hid (XR.out.other (b' := w.heap.size + 2) (by omega) k (.bool true)), Lib.hid (NR.out.other (b' := w.heap.size + 2) (by omega) k (.bool true)), Lib.hid (PR.out.set (b := w.heap.size + 2) (.inl (by omega)) k (.bool true)), Lib.hid (BR.out.setCell (by show _ ≤ w.heap.size + 2; omega) _)⟩
          have h := OR.out.set k (.bool true)
          rw [← e, bools_set, HS.out] at h
          rw [e] at h
          exact h
        case measure => simp [intOf]; omega
    · obtain rfl : k = m.facts.length := by omega
      have HEND := Lib.hid (outL_end m.facts.length V)
      have ZF := Lib.hid (cm_own OR.out (by rw [bools_len, outL_len]) (by unfold maxLen; omega))
      rw [HEND.out] at ZF
      have hwr : w.heap.size + 2 < wr.heap.size := OR.out.lt
      clear OR
      go_wp2
      go_ret
      exact ⟨_, rfl, ⟨by rw [bools_len, List.length_map, List.length_range]; exact own_mono ZF.out (by omega), fun k hk => by cases hk; show w.heap.size + 2 < _; omega⟩, BR.out⟩
set_option maxRecDepth 100000 in
set_option maxHeartbeats 64000000 in
theorem eval_fact (lo hi lo2 hi2 : Nat) (v v2 v3 : Value) (m : Md) (xs : List Nd) (al : List Bool) (q : Nat) (w : World) (hr : Mv lo hi w v m) (hm : mdOk m = true) (hr2 : Ns w v2 xs) (h3 : Bv lo2 hi2 w v3 al) (he : al.length = m.facts.length) (hq : q < xs.length) (op n xa xb : Int) (hx : xs.getD q default = ⟨op, n, xa, xb⟩) (V : Nat → Bool)
    (hop : op = 1) (hn0 : 0 ≤ n) (hn4 : n < 4) (HV : Hid (∀ i, i < m.facts.length → V i = (al.getD i false && (bitI (m.facts.getD i 0) n.toNat == 1)))) :
    Calls Tryz.prog 158 #[v, v2, v3, .int .i64 q] w (BoolsAns w ((List.range m.facts.length).map V)) := by
  obtain ⟨p1, p2, p3, p4, p5, p6, -⟩ := mdOk_parts hm
  subst hop
  have ho1 : (1 : Int) ≤ 1 := by decide
  have ho9 : (1 : Int) ≤ 9 := by decide
  have husi : usesI 1 = 0 := rfl
  have H6 := Lib.hid p6
  obtain ⟨fv, bv0, rfl, hf, hb⟩ := hr
  obtain ⟨bf, of', fc, e1, -, -, hfk⟩ := hf.kept (by omega)
  subst e1
  have HF := Lib.hid hfk
  clear hfk
  obtain ⟨ba, bc, e1, hbl, hbc, -⟩ := hb.parts
  subst e1
  obtain ⟨b3, o3, c3, rfl, q3, r3, k3⟩ := h3.kept (by omega)
  rw [he] at q3 k3 ⊢
  unfold maxLen at r3
  have HAL := Lib.hid k3
  have hns := hr2
  obtain ⟨a, cap, rfl, h1, h2, -⟩ := hr2.parts
  unfold maxLen at h2
  have HU := Lib.hid (fun W => l02Uses_in 1 W ho1 ho9)
  rw [husi] at HU
  obtain ⟨a', cap', e1, -, -, hcell⟩ := (hns.below (B := w.heap.size) (w' := w.alloc (.cells #[.slice (some ⟨bf, of', none⟩) m.facts.length fc, .slice ba m.blocks.length bc, .int .i64 m.actual] 26)) (by go_grown) (Nat.le_refl _)).parts
  cases e1
  obtain ⟨bx, ox, rfl, hbx, n0, n1, n2, n3⟩ := hcell q hq
  rw [hx] at n0 n1 n2 n3
  have q0 : (0 : Int) ≤ (q : Int) := Int.natCast_nonneg _
  have qn : (q : Int) < (xs.length : Int) := by omega
  have HOUT := Lib.hid (outL_0 m.facts.length V)
  have hlen := p2
  clear hf hb h3 hr2 hns hcell k3 hm p5 p6 husi hx
  go_enter Tryz.func158, Tryz.ntmps158
  have tk5 : True := trivial
  have tk6 : True := trivial
  have tk7 : True := trivial
  have tk8 : True := trivial
  go_wp2_with
    (first
      | (have _t := tk5; clear _t tk5; refine wpList_makeM rfl (.tmp 24) (.tmp 24) 158 25 rfl rfl 4 (.bool false) 1 Tryz.underlying158 Tryz.infoB m.facts.length .i64 .i64 rfl rfl (by omega) (by unfold maxLen; omega) (bools (List.replicate m.facts.length false)) (madeB m.facts.length) ?_
         intro w1 hz hb1
         have X1 := Lib.hid (Mcell.below ((Mcell.new (w := w) (T := 26) (b := w.heap.size) (fv := .slice (some ⟨bf, of', none⟩) m.facts.length fc) (bv := .slice ba m.blocks.length bc) (n := m.actual) rfl).alloc (.cells #[.int .i64 1, .int .i64 n, .int .i64 xa, .int .i64 xb] 112)) hb1)
         have N1 := Lib.hid (Cm.all (Cm.new (w := w.alloc (.cells #[.slice (some ⟨bf, of', none⟩) m.facts.length fc, .slice ba m.blocks.length bc, .int .i64 m.actual] 26)) (b := w.heap.size + 1) (T := 112) (cs := [.int .i64 1, .int .i64 n, .int .i64 xa, .int .i64 xb]) (by simp)) hb1)
         have O1 : Hid (Cm w1 (w.heap.size + 2) 4 (bools (outL m.facts.length V 0))) := Lib.hid (by rw [HOUT.out]; simpa using hz)
         have B1 : Hid (Below w.heap.size w w1) := Lib.hid (Below.trans (by go_grown) (hb1.mono (by simp; omega)))
         have s1 : w.heap.size + 2 < w1.heap.size := O1.out.lt
         clear n0 n1 n2 n3 hz hb1 hbx
         obtain ⟨xc0, xc1, xc2, xc3, xc4, xc5⟩ := X1.out)
      | (have _t := tk6; clear _t tk6; refine wpList_makeM rfl (.tmp 28) (.tmp 28) 158 29 rfl rfl 4 (.bool false) 1 Tryz.underlying158 Tryz.infoB m.facts.length .i64 .i64 rfl rfl (by omega) (by unfold maxLen; omega) (bools (List.replicate m.facts.length false)) (madeB m.facts.length) ?_
         intro w2 hz hb1
         have X1 := Lib.hid (X1.out.below hb1)
         have N1 := Lib.hid (N1.out.all hb1)
         have O1 := Lib.hid (O1.out.all hb1)
         have B1 : Hid (Below w.heap.size w w2) := Lib.hid (B1.out.trans (hb1.mono B1.out.size))
         have s2 : w1.heap.size ≤ w2.heap.size := hb1.size
         clear hz hb1 xc0 xc1 xc2 xc3 xc4 xc5
         obtain ⟨xc0, xc1, xc2, xc3, xc4, xc5⟩ := X1.out)
      | (have _t := tk7; clear _t tk7; refine wpList_makeM rfl (.tmp 32) (.tmp 32) 158 33 rfl rfl 4 (.bool false) 1 Tryz.underlying158 Tryz.infoB m.facts.length .i64 .i64 rfl rfl (by omega) (by unfold maxLen; omega) (bools (List.replicate m.facts.length false)) (madeB m.facts.length) ?_
         intro w3 hz hb1
         have X1 := Lib.hid (X1.out.below hb1)
         have N1 := Lib.hid (N1.out.all hb1)
         have O1 := Lib.hid (O1.out.all hb1)
         have B1 : Hid (Below w.heap.size w w3) := Lib.hid (B1.out.trans (hb1.mono B1.out.size))
         have s3 : w2.heap.size ≤ w3.heap.size := hb1.size
         clear hz hb1 xc0 xc1 xc2 xc3 xc4 xc5
         obtain ⟨xc0, xc1, xc2, xc3, xc4, xc5⟩ := X1.out
         have nc2 : w3.cell? ⟨w.heap.size + 1, 2, none⟩ = some (.int .i64 xa) := N1.out.cell 2
         have nc0 : w3.cell? ⟨w.heap.size + 1, 0, none⟩ = some (.int .i64 1) := N1.out.cell 0)
      | (have _t := tk8; clear _t tk8; refine (HU.out _).mono ?_; rintro e wq ⟨rfl, rfl⟩))
  clear xc0 xc1 xc2 xc3 xc4 xc5 nc2

  clear nc0
  go_loopw [83] (fun iv wr => ∃ k : Nat, k ≤ m.facts.length ∧ iv = .int .i64 k ∧ Hid (Cm wr (w.heap.size + 2) 4 (bools (outL m.facts.length V k))) ∧ Hid (Mcell wr w.heap.size (.slice (some ⟨bf, of', none⟩) m.facts.length fc) (.slice ba m.blocks.length bc) m.actual) ∧ Hid (Cm wr (w.heap.size + 1) 112 [.int .i64 1, .int .i64 n, .int .i64 xa, .int .i64 xb]) ∧ Hid (Keeps (w.heap.size + 3) w3.heap.size w3 wr) ∧ Hid (Below w.heap.size w wr)) (fun iv _ => m.facts.length - (intOf iv).toNat)
  case atStart => exact ⟨0, Nat.zero_le _, rfl, O1, X1, N1, Lib.hid (Keeps.refl _ _ _), B1⟩
  case round =>
    clear O1 X1 N1 B1
    obtain ⟨k, hk, rfl, OR, XR, NR, PR, BR⟩ := hrel
    by_cases hlt : k < m.facts.length
    · have ca := HAL.out _ BR.out k hlt
      have hv := Lib.hid (HV.out k hlt)
      have k0 : (0 : Int) ≤ (k : Int) := Int.natCast_nonneg _
      have kn : (k : Int) < (m.facts.length : Int) := by omega
      obtain ⟨a0, e4⟩ : ∃ y, y = al.getD k false := ⟨_, rfl⟩
      rw [← e4] at ca hv
      clear e4
      cases a0 with
      | false =>
        have HS := Lib.hid (outL_no (n := m.facts.length) (hv.out.trans (Bool.false_and _)))
        go_wp2
        go_roundw
        case rel => exact ⟨k + 1, by omega, by go_num, Lib.hid (by rw [HS.out]; exact OR.out), XR, NR, PR, BR⟩
        case measure => simp [intOf]; omega
      | true =>
        have hv := Lib.hid (hv.out.trans (Bool.true_and _))
        have HS := Lib.hid (outL_set (n := m.facts.length) (V := V) (k := k) hlt)
        have nc0 : wr.cell? ⟨w.heap.size + 1, 0, none⟩ = some (.int .i64 1) := NR.out.cell 0
        have hwr : w.heap.size + 2 < wr.heap.size := OR.out.lt
        have ck := (OR.out.cell k).trans (outL_cell hlt)
        have fk := OR.out.frozen k
        obtain ⟨x1, x2⟩ := H6.out k hlt
        obtain ⟨j, rfl⟩ := Int.eq_ofNat_of_zero_le hn0
        rw [Int.toNat_natCast] at hv
        obtain ⟨xv, hxv⟩ : ∃ xv, xv = m.facts.getD k 0 := ⟨_, rfl⟩
        have HFC := Lib.hid (fun W (h : Below w.heap.size w W) => HF.out W h k hlt)
        rw [← hxv] at hv x1 x2 HFC
        clear hxv
        have KB := Lib.hid (fun W => l03Bit_any xv j W x1 x2 (by omega))
        obtain ⟨bt, hbt⟩ : ∃ bt, bt = bitI xv j := ⟨_, rfl⟩
        rw [← hbt] at hv KB
        clear hbt x1 x2
        have HX : Hid (∀ W, Below wr.heap.size wr W → W.cell? ⟨w.heap.size, 0, none⟩ = some (.slice (some ⟨bf, of', none⟩) m.facts.length fc)) := Lib.hid (fun W h => (XR.out.below h).1)
        have HN1 : Hid (∀ W, Below wr.heap.size wr W → W.cell? ⟨w.heap.size + 1, 1, none⟩ = some (.int .i64 j)) := Lib.hid (fun W h => (NR.out.all h).cell 1)
        go_wp2
        refine regionL (fun W => Below wr.heap.size wr W) [12] (by kernel_rfl) (Below.refl _ _).drew (fun hHeld => ?_)
        refine takeA (i := 0) (v := .slice (some ⟨w.heap.size + 2, 0, none⟩) m.facts.length m.facts.length) 103 rfl rfl (by kernel_rfl) (by kernel_rfl) (by kernel_rfl) (by kernel_rfl) (fun _ _ _ h => h) (Or.inl ⟨by rfl, by intro W hSw; go_simp⟩) hHeld ?_
        simp only [Act.put, List.setIfInBounds_toArray, List.set_cons_zero, List.set_cons_succ]
        refine takeA (i := 1) (v := .int .i64 k) 104 rfl rfl (by kernel_rfl) (by kernel_rfl) (by kernel_rfl) (by kernel_rfl) (fun _ _ _ h => h) (Or.inl ⟨by rfl, by intro W hSw; go_simp⟩) hHeld ?_
        simp only [Act.put, List.setIfInBounds_toArray, List.set_cons_zero, List.set_cons_succ]
        refine takeA (i := 2) (v := .pointer (some ⟨w.heap.size, 0, none⟩)) 105 rfl rfl (by kernel_rfl) (by kernel_rfl) (by kernel_rfl) (by kernel_rfl) (fun _ _ _ h => h) (Or.inl ⟨by rfl, by intro W hSw; go_simp⟩) hHeld ?_
        simp only [Act.put, List.setIfInBounds_toArray, List.set_cons_zero, List.set_cons_succ]
        refine takeA (i := 4) (v := .int .i64 k) 107 rfl rfl (by kernel_rfl) (by kernel_rfl) (by kernel_rfl) (by kernel_rfl) (fun _ _ _ h => h) (Or.inl ⟨by rfl, by intro W hSw; go_simp⟩) hHeld ?_
        simp only [Act.put, List.setIfInBounds_toArray, List.set_cons_zero, List.set_cons_succ]
        refine takeA (i := 7) (v := .pointer (some ⟨w.heap.size + 1, 1, none⟩)) 110 rfl rfl (by kernel_rfl) (by kernel_rfl) (by kernel_rfl) (by kernel_rfl) (fun _ _ _ h => h) (Or.inl ⟨by rfl, by intro W hSw; go_simp⟩) hHeld ?_
        simp only [Act.put, List.setIfInBounds_toArray, List.set_cons_zero, List.set_cons_succ]
        refine takeA (i := 3) (v := .slice (some ⟨bf, of', none⟩) m.facts.length fc) 106 rfl rfl (by kernel_rfl) (by kernel_rfl) (by kernel_rfl) (by kernel_rfl) (fun _ _ _ h => h) (Or.inl ⟨by rfl, by intro W hSw; have c1 := HX.out _ hSw; go_simp⟩) hHeld ?_
        simp only [Act.put, List.setIfInBounds_toArray, List.set_cons_zero, List.set_cons_succ]
        refine takeA (i := 8) (v := .int .i64 j) 111 rfl rfl (by kernel_rfl) (by kernel_rfl) (by kernel_rfl) (by kernel_rfl) (fun _ _ _ h => h) (Or.inl ⟨by rfl, by intro W hSw; have c1 := HN1.out _ hSw; go_simp⟩) hHeld ?_
        simp only [Act.put, List.setIfInBounds_toArray, List.set_cons_zero, List.set_cons_succ]
        refine takeA (i := 5) (v := .pointer (some ⟨bf, of' + k, none⟩)) 108 rfl rfl (by kernel_rfl) (by kernel_rfl) (by kernel_rfl) (by kernel_rfl) (fun _ _ _ h => h) (Or.inl ⟨by rfl, by intro W hSw; go_simp⟩) hHeld ?_
        simp only [Act.put, List.setIfInBounds_toArray, List.set_cons_zero, List.set_cons_succ]
        refine takeA (i := 6) (v := .int .i64 xv) 109 rfl rfl (by kernel_rfl) (by kernel_rfl) (by kernel_rfl) (by kernel_rfl) (fun _ _ _ h => h) (Or.inl ⟨by rfl, by intro W hSw; have c1 := HFC.out _ (BR.out.trans (hSw.mono BR.out.size)); go_simp⟩) hHeld ?_
        simp only [Act.put, List.setIfInBounds_toArray, List.set_cons_zero, List.set_cons_succ]
        refine onlyL (i := 9) (by kernel_rfl) rfl (by rfl) (fun K hK => ?_)
        go_simp
        refine (KB.out _).mono ?_
        rintro e w4 ⟨rfl, rfl⟩
        refine hK.out _ _ (fun _ => hHeld) (fun hHeld => ?_)
        have hHeld := hHeld (by decide)
        clear hK K
        try simp only [Act.put, List.setIfInBounds_toArray, List.set_cons_zero, List.set_cons_succ]
        refine takeA (i := 10) (v := .bool (bt == 1)) 113 rfl rfl (by kernel_rfl) (by kernel_rfl) (by kernel_rfl) (by kernel_rfl) (fun _ _ _ h => h) (Or.inl ⟨by rfl, by intro W hSw; go_simp⟩) hHeld ?_
        simp only [Act.put, List.setIfInBounds_toArray, List.set_cons_zero, List.set_cons_succ]
        refine takeA (i := 11) (v := .pointer (some ⟨w.heap.size + 2, k, none⟩)) 114 rfl rfl (by kernel_rfl) (by kernel_rfl) (by kernel_rfl) (by kernel_rfl) (fun _ _ _ h => h) (Or.inl ⟨by rfl, by intro W hSw; go_simp⟩) hHeld ?_
        simp only [Act.put, List.setIfInBounds_toArray, List.set_cons_zero, List.set_cons_succ]
        refine onlyL (i := 12) (by kernel_rfl) rfl (by rfl) (fun K hK => ?_)
        have OR := Lib.hid (OR.out.all hHeld)
        have XR := Lib.hid (XR.out.below hHeld)
        have NR := Lib.hid (NR.out.all hHeld)
        have PR := Lib.hid (PR.out.trans (Keeps.of_all hHeld))
        have BR := Lib.hid (BR.out.trans (hHeld.mono BR.out.size))
        clear hHeld ck fk nc0 ca hwr
        have ck := (OR.out.cell k).trans (outL_cell hlt)
        have fk := OR.out.frozen k
        go_simp
        refine hK.out _ _ (fun h => absurd (by decide) h) (fun _ => ?_)
        clear hK K ck fk
        refine doneL (by kernel_rfl) ?_ _
        go_wp2

        go_roundw
        case rel =>
          have e : V k = (bt == 1) := hv.out
          refine ⟨k + 1, by omega, by go_num, Lib.hid ?_, Lib.hid (XR.out.other (b' := w.heap.size + 2) (by omega) k (.bool (bt == 1))), Lib.hid (NR.out.other (b' := w.heap.size + 2) (by omega) k (.bool (bt == 1))), Lib.hid (PR.out.set (b := w.heap.size + 2) (.inl (by omega)) k (.bool (bt == 1))), Lib.hid (BR.out.setCell (by show _ ≤ w.heap.size + 2; omega) _)⟩
          have h := OR.out.set k (.bool (bt == 1))
          rw [← e, bools_set, HS.out] at h
          rw [e] at h
          exact h
        case measure => simp [intOf]; omega
    · obtain rfl : k = m.facts.length := by omega
      have HEND := Lib.hid (outL_end m.facts.length V)
      have ZF := Lib.hid (cm_own OR.out (by rw [bools_len, outL_len]) (by unfold maxLen; omega))
      rw [HEND.out] at ZF
      have hwr : w.heap.size + 2 < wr.heap.size := OR.out.lt
      clear OR
      go_wp2
      go_ret
      exact ⟨_, rfl, ⟨by rw [bools_len, List.length_map, List.length_range]; exact own_mono ZF.out (by omega), fun k hk => by cases hk; show w.heap.size + 2 < _; omega⟩, BR.out⟩
set_option maxRecDepth 100000 in
set_option maxHeartbeats 64000000 in
theorem eval_one (lo hi lo2 hi2 : Nat) (v v2 v3 : Value) (m : Md) (xs : List Nd) (al : List Bool) (q : Nat) (w : World) (hr : Mv lo hi w v m) (hm : mdOk m = true) (hr2 : Ns w v2 xs) (h3 : Bv lo2 hi2 w v3 al) (he : al.length = m.facts.length) (hq : q < xs.length) (op n xa xb : Int) (hx : xs.getD q default = ⟨op, n, xa, xb⟩) (V : Nat → Bool)
    (tmA : Tm) (hop : op = 3 ∨ op = 5 ∨ op = 6 ∨ op = 7 ∨ op = 8) (hn : op = 5 ∨ op = 6 → 0 ≤ n ∧ n < m.blocks.length) (hA : EvIH m w v v2 tmA xa) (HV : Hid (∀ i, i < m.facts.length → V i = (al.getD i false && oneB m ⟨op, n, xa, xb⟩ al (evL tmA m fun j => al.getD j false) i))) :
    Calls Tryz.prog 158 #[v, v2, v3, .int .i64 q] w (BoolsAns w ((List.range m.facts.length).map V)) := by
  obtain ⟨p1, p2, p3, p4, p5, p6, -⟩ := mdOk_parts hm
  have HOP := Lib.hid hop
  have HN := Lib.hid hn
  have ho1 : 1 ≤ op := by omega
  have ho9 : op ≤ 9 := by omega
  have husi : usesI op = 1 := by rcases hop with h | h | h | h | h <;> subst h <;> rfl
  have d1 : (op == 1) = false := by simp; omega
  have d2 : (op == 2) = false := by simp; omega
  have d4 : (op == 4) = false := by simp; omega
  have d9 : (op == 9) = false := by simp; omega
  have KIA := Lib.hid hA
  have HMD := Lib.hid hm
  have HMV := Lib.hid (fun W (h : Below w.heap.size w W) => hr.keeps (Keeps.of_all h))
  have HA3 := Lib.hid (fun W (h : Below w.heap.size w W) => h3.keeps (Keeps.of_all h))
  have he' := he
  clear hop hn hA
  obtain ⟨fv, bv0, rfl, hf, hb⟩ := hr
  obtain ⟨fa, fc, e1⟩ := hf.form
  subst e1
  obtain ⟨ba, bc, e1, hbl, hbc, -⟩ := hb.parts
  subst e1
  obtain ⟨b3, o3, c3, rfl, q3, r3, k3⟩ := h3.kept (by omega)
  rw [he] at q3 k3 HA3 ⊢
  unfold maxLen at r3
  have HAL := Lib.hid k3
  have hns := hr2
  obtain ⟨a, cap, rfl, h1, h2, -⟩ := hr2.parts
  unfold maxLen at h2
  have HU := Lib.hid (fun W => l02Uses_in op W ho1 ho9)
  rw [husi] at HU
  obtain ⟨a', cap', e1, -, -, hcell⟩ := (hns.below (B := w.heap.size) (w' := w.alloc (.cells #[.slice fa m.facts.length fc, .slice ba m.blocks.length bc, .int .i64 m.actual] 26)) (by go_grown) (Nat.le_refl _)).parts
  cases e1
  obtain ⟨bx, ox, rfl, hbx, n0, n1, n2, n3⟩ := hcell q hq
  rw [hx] at n0 n1 n2 n3
  have q0 : (0 : Int) ≤ (q : Int) := Int.natCast_nonneg _
  have qn : (q : Int) < (xs.length : Int) := by omega
  have HOUT := Lib.hid (outL_0 m.facts.length V)
  have hlen := p2
  clear hf hb h3 hr2 hns hcell k3 hm p5 p6 husi hx
  go_enter Tryz.func158, Tryz.ntmps158
  have tk9 : True := trivial
  have tk10 : True := trivial
  have tk11 : True := trivial
  have tk12 : True := trivial
  go_wp2_with
    (first
      | (have _t := tk9; clear _t tk9; refine wpList_makeM rfl (.tmp 24) (.tmp 24) 158 25 rfl rfl 4 (.bool false) 1 Tryz.underlying158 Tryz.infoB m.facts.length .i64 .i64 rfl rfl (by omega) (by unfold maxLen; omega) (bools (List.replicate m.facts.length false)) (madeB m.facts.length) ?_
         intro w1 hz hb1
         have X1 := Lib.hid (Mcell.below ((Mcell.new (w := w) (T := 26) (b := w.heap.size) (fv := .slice fa m.facts.length fc) (bv := .slice ba m.blocks.length bc) (n := m.actual) rfl).alloc (.cells #[.int .i64 op, .int .i64 n, .int .i64 xa, .int .i64 xb] 112)) hb1)
         have N1 := Lib.hid (Cm.all (Cm.new (w := w.alloc (.cells #[.slice fa m.facts.length fc, .slice ba m.blocks.length bc, .int .i64 m.actual] 26)) (b := w.heap.size + 1) (T := 112) (cs := [.int .i64 op, .int .i64 n, .int .i64 xa, .int .i64 xb]) (by simp)) hb1)
         have O1 : Hid (Cm w1 (w.heap.size + 2) 4 (bools (outL m.facts.length V 0))) := Lib.hid (by rw [HOUT.out]; simpa using hz)
         have B1 : Hid (Below w.heap.size w w1) := Lib.hid (Below.trans (by go_grown) (hb1.mono (by simp; omega)))
         have s1 : w.heap.size + 2 < w1.heap.size := O1.out.lt
         clear n0 n1 n2 n3 hz hb1 hbx
         obtain ⟨xc0, xc1, xc2, xc3, xc4, xc5⟩ := X1.out)
      | (have _t := tk10; clear _t tk10; refine wpList_makeM rfl (.tmp 28) (.tmp 28) 158 29 rfl rfl 4 (.bool false) 1 Tryz.underlying158 Tryz.infoB m.facts.length .i64 .i64 rfl rfl (by omega) (by unfold maxLen; omega) (bools (List.replicate m.facts.length false)) (madeB m.facts.length) ?_
         intro w2 hz hb1
         have X1 := Lib.hid (X1.out.below hb1)
         have N1 := Lib.hid (N1.out.all hb1)
         have O1 := Lib.hid (O1.out.all hb1)
         have B1 : Hid (Below w.heap.size w w2) := Lib.hid (B1.out.trans (hb1.mono B1.out.size))
         have s2 : w1.heap.size ≤ w2.heap.size := hb1.size
         clear hz hb1 xc0 xc1 xc2 xc3 xc4 xc5
         obtain ⟨xc0, xc1, xc2, xc3, xc4, xc5⟩ := X1.out)
      | (have _t := tk11; clear _t tk11; refine wpList_makeM rfl (.tmp 32) (.tmp 32) 158 33 rfl rfl 4 (.bool false) 1 Tryz.underlying158 Tryz.infoB m.facts.length .i64 .i64 rfl rfl (by omega) (by unfold maxLen; omega) (bools (List.replicate m.facts.length false)) (madeB m.facts.length) ?_
         intro w3 hz hb1
         have X1 := Lib.hid (X1.out.below hb1)
         have N1 := Lib.hid (N1.out.all hb1)
         have O1 := Lib.hid (O1.out.all hb1)
         have B1 : Hid (Below w.heap.size w w3) := Lib.hid (B1.out.trans (hb1.mono B1.out.size))
         have s3 : w2.heap.size ≤ w3.heap.size := hb1.size
         clear hz hb1 xc0 xc1 xc2 xc3 xc4 xc5
         obtain ⟨xc0, xc1, xc2, xc3, xc4, xc5⟩ := X1.out
         have nc2 : w3.cell? ⟨w.heap.size + 1, 2, none⟩ = some (.int .i64 xa) := N1.out.cell 2
         have nc0 : w3.cell? ⟨w.heap.size + 1, 0, none⟩ = some (.int .i64 op) := N1.out.cell 0)
      | (have _t := tk12; clear _t tk12; refine (HU.out _).mono ?_; rintro e wq ⟨rfl, rfl⟩))
  obtain ⟨ta, hta⟩ : ∃ l, l = evL tmA m fun j => al.getD j false := ⟨_, rfl⟩
  have tal : ta.length = m.facts.length := by rw [hta]; exact evL_len _ _ _
  have Kta := Lib.hid (KIA.out lo2 hi2 (.slice (some ⟨b3, o3, none⟩) m.facts.length c3) al)

  rw [← hta] at HV Kta
  have HLta := Lib.hid tal
  clear hta

  clear xc0 xc1 xc2 xc3 xc4 xc5 nc2 nc0
  refine (Kta.out _ B1.out (HA3.out _ B1.out) he').mono ?_
  rintro e w5 ⟨vw5, rfl, how5, hb1⟩
  obtain ⟨bx1, ox1, cx1, rfl, qx1, rx1, -⟩ := how5.read.kept (by rw [tal]; omega)
  have AV := how5.read.wide (lo' := w.heap.size + 3) (hi' := w5.heap.size) (by omega) (Nat.le_refl _)
  rw [tal] at qx1 AV ⊢
  have AV := Lib.hid AV
  unfold maxLen at rx1
  have X1 := Lib.hid (X1.out.below hb1)
  have N1 := Lib.hid (N1.out.all hb1)
  have O1 := Lib.hid (O1.out.all hb1)
  have B1 : Hid (Below w.heap.size w w5) := Lib.hid (B1.out.trans (hb1.mono B1.out.size))
  have sw5 : w3.heap.size ≤ w5.heap.size := hb1.size
  have HBBw5 := Lib.hid hb1
  have nc0 : w5.cell? ⟨w.heap.size + 1, 0, none⟩ = some (.int .i64 op) := N1.out.cell 0
  clear how5 hb1 Kta tal

  have HTL := HLta
  go_wp2

  clear nc0
  go_loopw [83] (fun iv wr => ∃ k : Nat, k ≤ m.facts.length ∧ iv = .int .i64 k ∧ Hid (Cm wr (w.heap.size + 2) 4 (bools (outL m.facts.length V k))) ∧ Hid (Mcell wr w.heap.size (.slice fa m.facts.length fc) (.slice ba m.blocks.length bc) m.actual) ∧ Hid (Cm wr (w.heap.size + 1) 112 [.int .i64 op, .int .i64 n, .int .i64 xa, .int .i64 xb]) ∧ Hid (Keeps (w.heap.size + 3) w5.heap.size w5 wr) ∧ Hid (Below w.heap.size w wr)) (fun iv _ => m.facts.length - (intOf iv).toNat)
  case atStart => exact ⟨0, Nat.zero_le _, rfl, O1, X1, N1, Lib.hid (Keeps.refl _ _ _), B1⟩
  case round =>
    clear O1 X1 N1 B1
    obtain ⟨k, hk, rfl, OR, XR, NR, PR, BR⟩ := hrel
    by_cases hlt : k < m.facts.length
    · have ca := HAL.out _ BR.out k hlt
      have hv := Lib.hid (HV.out k hlt)
      have k0 : (0 : Int) ≤ (k : Int) := Int.natCast_nonneg _
      have kn : (k : Int) < (m.facts.length : Int) := by omega
      obtain ⟨a0, e4⟩ : ∃ y, y = al.getD k false := ⟨_, rfl⟩
      rw [← e4] at ca hv
      clear e4
      cases a0 with
      | false =>
        have HS := Lib.hid (outL_no (n := m.facts.length) (hv.out.trans (Bool.false_and _)))
        go_wp2
        go_roundw
        case rel => exact ⟨k + 1, by omega, by go_num, Lib.hid (by rw [HS.out]; exact OR.out), XR, NR, PR, BR⟩
        case measure => simp [intOf]; omega
      | true =>
        have hv := Lib.hid (hv.out.trans (Bool.true_and _))
        have HS := Lib.hid (outL_set (n := m.facts.length) (V := V) (k := k) hlt)
        have nc0 : wr.cell? ⟨w.heap.size + 1, 0, none⟩ = some (.int .i64 op) := NR.out.cell 0
        have hwr : w.heap.size + 2 < wr.heap.size := OR.out.lt
        have KO := Lib.hid (fun W (h : Below wr.heap.size wr W) => specOne_any lo hi lo2 hi2 (w.heap.size + 3) w5.heap.size _ _ _ m ⟨op, n, xa, xb⟩ al ta k W (HMV.out W (BR.out.trans (h.mono BR.out.size))) HMD.out (HA3.out W (BR.out.trans (h.mono BR.out.size))) ((AV.out.keeps PR.out).keeps (Keeps.of_all h)) he' HTL.out hlt HOP.out HN.out)
        obtain ⟨r0, hr0⟩ : ∃ r0, r0 = oneB m ⟨op, n, xa, xb⟩ al ta k := ⟨_, rfl⟩
        rw [← hr0] at hv KO
        clear hr0
        unfold Nd.v at KO
        simp only at KO
        obtain ⟨xc0, xc1, xc2, xc3, xc4, xc5⟩ := XR.out
        have nc1 : wr.cell? ⟨w.heap.size + 1, 1, none⟩ = some (.int .i64 n) := NR.out.cell 1
        have nc2 : wr.cell? ⟨w.heap.size + 1, 2, none⟩ = some (.int .i64 xa) := NR.out.cell 2
        have nc3 : wr.cell? ⟨w.heap.size + 1, 3, none⟩ = some (.int .i64 xb) := NR.out.cell 3
        go_wp2_with fail
        clear xc0 xc1 xc2 xc3 xc4 xc5 nc0 nc1 nc2 nc3 ca
        refine (KO.out _ (Below.refl _ _)).mono ?_
        rintro e w6 ⟨rfl, hb6⟩
        have OR := Lib.hid (OR.out.all hb6)
        have XR := Lib.hid (XR.out.below hb6)
        have NR := Lib.hid (NR.out.all hb6)
        have PR := Lib.hid (PR.out.trans (Keeps.of_all hb6))
        have BR := Lib.hid (BR.out.trans (hb6.mono BR.out.size))
        clear hb6 hwr KO
        have hwr : w.heap.size + 2 < w6.heap.size := OR.out.lt
        have ck := (OR.out.cell k).trans (outL_cell hlt)
        have fk := OR.out.frozen k
        go_wp2

        go_roundw
        case rel =>
          have e : V k = r0 := hv.out
          refine ⟨k + 1, by omega, by go_num, Lib.hid ?_, Lib.hid (XR.out.other (b' := w.heap.size + 2) (by omega) k (.bool r0)), Lib.hid (NR.out.other (b' := w.heap.size + 2) (by omega) k (.bool r0)), Lib.hid (PR.out.set (b := w.heap.size + 2) (.inl (by omega)) k (.bool r0)), Lib.hid (BR.out.setCell (by show _ ≤ w.heap.size + 2; omega) _)⟩
          have h := OR.out.set k (.bool r0)
          rw [← e, bools_set, HS.out] at h
          rw [e] at h
          exact h
        case measure => simp [intOf]; omega
    · obtain rfl : k = m.facts.length := by omega
      have HEND := Lib.hid (outL_end m.facts.length V)
      have ZF := Lib.hid (cm_own OR.out (by rw [bools_len, outL_len]) (by unfold maxLen; omega))
      rw [HEND.out] at ZF
      have hwr : w.heap.size + 2 < wr.heap.size := OR.out.lt
      clear OR
      go_wp2
      go_ret
      exact ⟨_, rfl, ⟨by rw [bools_len, List.length_map, List.length_range]; exact own_mono ZF.out (by omega), fun k hk => by cases hk; show w.heap.size + 2 < _; omega⟩, BR.out⟩
set_option maxRecDepth 100000 in
set_option maxHeartbeats 64000000 in
theorem eval_and (lo hi lo2 hi2 : Nat) (v v2 v3 : Value) (m : Md) (xs : List Nd) (al : List Bool) (q : Nat) (w : World) (hr : Mv lo hi w v m) (hm : mdOk m = true) (hr2 : Ns w v2 xs) (h3 : Bv lo2 hi2 w v3 al) (he : al.length = m.facts.length) (hq : q < xs.length) (op n xa xb : Int) (hx : xs.getD q default = ⟨op, n, xa, xb⟩) (V : Nat → Bool)
    (tmA tmB : Tm) (hop : op = 4) (hA : EvIH m w v v2 tmA xa) (hB : EvIH m w v v2 tmB xb) (HV : Hid (∀ i, i < m.facts.length → V i = (al.getD i false && ((evL tmA m fun j => al.getD j false).getD i false && (evL tmB m fun j => al.getD j false).getD i false)))) :
    Calls Tryz.prog 158 #[v, v2, v3, .int .i64 q] w (BoolsAns w ((List.range m.facts.length).map V)) := by
  obtain ⟨p1, p2, p3, p4, p5, p6, -⟩ := mdOk_parts hm
  subst hop
  have ho1 : (1 : Int) ≤ 4 := by decide
  have ho9 : (4 : Int) ≤ 9 := by decide
  have husi : usesI 4 = 2 := rfl
  have KIA := Lib.hid hA
  have KIB := Lib.hid hB
  have HA3 := Lib.hid (fun W (h : Below w.heap.size w W) => h3.keeps (Keeps.of_all h))
  have he' := he
  clear hA hB
  obtain ⟨fv, bv0, rfl, hf, hb⟩ := hr
  obtain ⟨fa, fc, e1⟩ := hf.form
  subst e1
  obtain ⟨ba, bc, e1, hbl, hbc, -⟩ := hb.parts
  subst e1
  obtain ⟨b3, o3, c3, rfl, q3, r3, k3⟩ := h3.kept (by omega)
  rw [he] at q3 k3 HA3 ⊢
  unfold maxLen at r3
  have HAL := Lib.hid k3
  have hns := hr2
  obtain ⟨a, cap, rfl, h1, h2, -⟩ := hr2.parts
  unfold maxLen at h2
  have HU := Lib.hid (fun W => l02Uses_in 4 W ho1 ho9)
  rw [husi] at HU
  obtain ⟨a', cap', e1, -, -, hcell⟩ := (hns.below (B := w.heap.size) (w' := w.alloc (.cells #[.slice fa m.facts.length fc, .slice ba m.blocks.length bc, .int .i64 m.actual] 26)) (by go_grown) (Nat.le_refl _)).parts
  cases e1
  obtain ⟨bx, ox, rfl, hbx, n0, n1, n2, n3⟩ := hcell q hq
  rw [hx] at n0 n1 n2 n3
  have q0 : (0 : Int) ≤ (q : Int) := Int.natCast_nonneg _
  have qn : (q : Int) < (xs.length : Int) := by omega
  have HOUT := Lib.hid (outL_0 m.facts.length V)
  have hlen := p2
  clear hf hb h3 hr2 hns hcell k3 hm p5 p6 husi hx
  go_enter Tryz.func158, Tryz.ntmps158
  have tk13 : True := trivial
  have tk14 : True := trivial
  have tk15 : True := trivial
  have tk16 : True := trivial
  go_wp2_with
    (first
      | (have _t := tk13; clear _t tk13; refine wpList_makeM rfl (.tmp 24) (.tmp 24) 158 25 rfl rfl 4 (.bool false) 1 Tryz.underlying158 Tryz.infoB m.facts.length .i64 .i64 rfl rfl (by omega) (by unfold maxLen; omega) (bools (List.replicate m.facts.length false)) (madeB m.facts.length) ?_
         intro w1 hz hb1
         have X1 := Lib.hid (Mcell.below ((Mcell.new (w := w) (T := 26) (b := w.heap.size) (fv := .slice fa m.facts.length fc) (bv := .slice ba m.blocks.length bc) (n := m.actual) rfl).alloc (.cells #[.int .i64 4, .int .i64 n, .int .i64 xa, .int .i64 xb] 112)) hb1)
         have N1 := Lib.hid (Cm.all (Cm.new (w := w.alloc (.cells #[.slice fa m.facts.length fc, .slice ba m.blocks.length bc, .int .i64 m.actual] 26)) (b := w.heap.size + 1) (T := 112) (cs := [.int .i64 4, .int .i64 n, .int .i64 xa, .int .i64 xb]) (by simp)) hb1)
         have O1 : Hid (Cm w1 (w.heap.size + 2) 4 (bools (outL m.facts.length V 0))) := Lib.hid (by rw [HOUT.out]; simpa using hz)
         have B1 : Hid (Below w.heap.size w w1) := Lib.hid (Below.trans (by go_grown) (hb1.mono (by simp; omega)))
         have s1 : w.heap.size + 2 < w1.heap.size := O1.out.lt
         clear n0 n1 n2 n3 hz hb1 hbx
         obtain ⟨xc0, xc1, xc2, xc3, xc4, xc5⟩ := X1.out)
      | (have _t := tk14; clear _t tk14; refine wpList_makeM rfl (.tmp 28) (.tmp 28) 158 29 rfl rfl 4 (.bool false) 1 Tryz.underlying158 Tryz.infoB m.facts.length .i64 .i64 rfl rfl (by omega) (by unfold maxLen; omega) (bools (List.replicate m.facts.length false)) (madeB m.facts.length) ?_
         intro w2 hz hb1
         have X1 := Lib.hid (X1.out.below hb1)
         have N1 := Lib.hid (N1.out.all hb1)
         have O1 := Lib.hid (O1.out.all hb1)
         have B1 : Hid (Below w.heap.size w w2) := Lib.hid (B1.out.trans (hb1.mono B1.out.size))
         have s2 : w1.heap.size ≤ w2.heap.size := hb1.size
         clear hz hb1 xc0 xc1 xc2 xc3 xc4 xc5
         obtain ⟨xc0, xc1, xc2, xc3, xc4, xc5⟩ := X1.out)
      | (have _t := tk15; clear _t tk15; refine wpList_makeM rfl (.tmp 32) (.tmp 32) 158 33 rfl rfl 4 (.bool false) 1 Tryz.underlying158 Tryz.infoB m.facts.length .i64 .i64 rfl rfl (by omega) (by unfold maxLen; omega) (bools (List.replicate m.facts.length false)) (madeB m.facts.length) ?_
         intro w3 hz hb1
         have X1 := Lib.hid (X1.out.below hb1)
         have N1 := Lib.hid (N1.out.all hb1)
         have O1 := Lib.hid (O1.out.all hb1)
         have B1 : Hid (Below w.heap.size w w3) := Lib.hid (B1.out.trans (hb1.mono B1.out.size))
         have s3 : w2.heap.size ≤ w3.heap.size := hb1.size
         clear hz hb1 xc0 xc1 xc2 xc3 xc4 xc5
         obtain ⟨xc0, xc1, xc2, xc3, xc4, xc5⟩ := X1.out
         have nc2 : w3.cell? ⟨w.heap.size + 1, 2, none⟩ = some (.int .i64 xa) := N1.out.cell 2
         have nc0 : w3.cell? ⟨w.heap.size + 1, 0, none⟩ = some (.int .i64 4) := N1.out.cell 0)
      | (have _t := tk16; clear _t tk16; refine (HU.out _).mono ?_; rintro e wq ⟨rfl, rfl⟩))
  obtain ⟨ta, hta⟩ : ∃ l, l = evL tmA m fun j => al.getD j false := ⟨_, rfl⟩
  have tal : ta.length = m.facts.length := by rw [hta]; exact evL_len _ _ _
  have Kta := Lib.hid (KIA.out lo2 hi2 (.slice (some ⟨b3, o3, none⟩) m.facts.length c3) al)

  rw [← hta] at HV Kta
  have HLta := Lib.hid tal
  clear hta

  clear xc0 xc1 xc2 xc3 xc4 xc5 nc2 nc0
  refine (Kta.out _ B1.out (HA3.out _ B1.out) he').mono ?_
  rintro e w5 ⟨vw5, rfl, how5, hb1⟩
  obtain ⟨bx1, ox1, cx1, rfl, qx1, rx1, -⟩ := how5.read.kept (by rw [tal]; omega)
  have AV := how5.read.wide (lo' := w.heap.size + 3) (hi' := w5.heap.size) (by omega) (Nat.le_refl _)
  rw [tal] at qx1 AV ⊢
  have AV := Lib.hid AV
  unfold maxLen at rx1
  have X1 := Lib.hid (X1.out.below hb1)
  have N1 := Lib.hid (N1.out.all hb1)
  have O1 := Lib.hid (O1.out.all hb1)
  have B1 : Hid (Below w.heap.size w w5) := Lib.hid (B1.out.trans (hb1.mono B1.out.size))
  have sw5 : w3.heap.size ≤ w5.heap.size := hb1.size
  have HBBw5 := Lib.hid hb1
  have nc0 : w5.cell? ⟨w.heap.size + 1, 0, none⟩ = some (.int .i64 4) := N1.out.cell 0
  clear how5 hb1 Kta tal

  have HTL := HLta

  obtain ⟨tb, htb⟩ : ∃ l, l = evL tmB m fun j => al.getD j false := ⟨_, rfl⟩
  have tbl : tb.length = m.facts.length := by rw [htb]; exact evL_len _ _ _
  have Ktb := Lib.hid (KIB.out lo2 hi2 (.slice (some ⟨b3, o3, none⟩) m.facts.length c3) al)

  rw [← htb] at HV Ktb
  have HLtb := Lib.hid tbl
  clear htb
  obtain ⟨xc0, xc1, xc2, xc3, xc4, xc5⟩ := X1.out
  have nc3 : w5.cell? ⟨w.heap.size + 1, 3, none⟩ = some (.int .i64 xb) := N1.out.cell 3
  go_wp2_with fail
  clear xc0 xc1 xc2 xc3 xc4 xc5 nc3 nc0
  refine (Ktb.out _ B1.out (HA3.out _ B1.out) he').mono ?_
  rintro e w6 ⟨vw6, rfl, how6, hb1⟩
  obtain ⟨bx2, ox2, cx2, rfl, qx2, rx2, -⟩ := how6.read.kept (by rw [tbl]; omega)
  have BV := how6.read.wide (lo' := w.heap.size + 3) (hi' := w6.heap.size) (by omega) (Nat.le_refl _)
  rw [tbl] at qx2 BV ⊢
  have BV := Lib.hid BV
  unfold maxLen at rx2
  have X1 := Lib.hid (X1.out.below hb1)
  have N1 := Lib.hid (N1.out.all hb1)
  have O1 := Lib.hid (O1.out.all hb1)
  have B1 : Hid (Below w.heap.size w w6) := Lib.hid (B1.out.trans (hb1.mono B1.out.size))
  have sw6 : w5.heap.size ≤ w6.heap.size := hb1.size
  have HBBw6 := Lib.hid hb1
  have nc0 : w6.cell? ⟨w.heap.size + 1, 0, none⟩ = some (.int .i64 4) := N1.out.cell 0
  clear how6 hb1 Ktb tbl

  have AV := Lib.hid ((AV.out.keeps (Keeps.of_all HBBw6.out)).wide (lo' := w.heap.size + 3) (hi' := w6.heap.size) (Nat.le_refl _) HBBw6.out.size)
  have HTB := HLtb
  go_wp2

  clear nc0
  go_loopw [83] (fun iv wr => ∃ k : Nat, k ≤ m.facts.length ∧ iv = .int .i64 k ∧ Hid (Cm wr (w.heap.size + 2) 4 (bools (outL m.facts.length V k))) ∧ Hid (Mcell wr w.heap.size (.slice fa m.facts.length fc) (.slice ba m.blocks.length bc) m.actual) ∧ Hid (Cm wr (w.heap.size + 1) 112 [.int .i64 4, .int .i64 n, .int .i64 xa, .int .i64 xb]) ∧ Hid (Keeps (w.heap.size + 3) w6.heap.size w6 wr) ∧ Hid (Below w.heap.size w wr)) (fun iv _ => m.facts.length - (intOf iv).toNat)
  case atStart => exact ⟨0, Nat.zero_le _, rfl, O1, X1, N1, Lib.hid (Keeps.refl _ _ _), B1⟩
  case round =>
    clear O1 X1 N1 B1
    obtain ⟨k, hk, rfl, OR, XR, NR, PR, BR⟩ := hrel
    by_cases hlt : k < m.facts.length
    · have ca := HAL.out _ BR.out k hlt
      have hv := Lib.hid (HV.out k hlt)
      have k0 : (0 : Int) ≤ (k : Int) := Int.natCast_nonneg _
      have kn : (k : Int) < (m.facts.length : Int) := by omega
      obtain ⟨a0, e4⟩ : ∃ y, y = al.getD k false := ⟨_, rfl⟩
      rw [← e4] at ca hv
      clear e4
      cases a0 with
      | false =>
        have HS := Lib.hid (outL_no (n := m.facts.length) (hv.out.trans (Bool.false_and _)))
        go_wp2
        go_roundw
        case rel => exact ⟨k + 1, by omega, by go_num, Lib.hid (by rw [HS.out]; exact OR.out), XR, NR, PR, BR⟩
        case measure => simp [intOf]; omega
      | true =>
        have hv := Lib.hid (hv.out.trans (Bool.true_and _))
        have HS := Lib.hid (outL_set (n := m.facts.length) (V := V) (k := k) hlt)
        have nc0 : wr.cell? ⟨w.heap.size + 1, 0, none⟩ = some (.int .i64 4) := NR.out.cell 0
        have hwr : w.heap.size + 2 < wr.heap.size := OR.out.lt
        obtain ⟨ba', oa', ca', e, -, -, ka⟩ := (AV.out.keeps PR.out).kept (by rw [HTL.out]; omega)
        obtain ⟨rfl, rfl, rfl⟩ := slice_inj e
        clear e
        obtain ⟨bb', ob', cb', e, -, -, kb⟩ := (BV.out.keeps PR.out).kept (by rw [HTB.out]; omega)
        obtain ⟨rfl, rfl, rfl⟩ := slice_inj e
        clear e
        have cta := ka _ (Below.refl _ _) k (by rw [HTL.out]; exact hlt)
        have ctb := kb _ (Below.refl _ _) k (by rw [HTB.out]; exact hlt)
        clear ka kb
        obtain ⟨t0, e4⟩ : ∃ y, y = ta.getD k false := ⟨_, rfl⟩
        obtain ⟨u0, e5⟩ : ∃ y, y = tb.getD k false := ⟨_, rfl⟩
        rw [← e4] at cta hv
        rw [← e5] at ctb hv
        clear e4 e5
        have ck := (OR.out.cell k).trans (outL_cell hlt)
        have fk := OR.out.frozen k
        cases t0 with
        | false =>
          go_wp2
          go_roundw
          case rel =>
            have e : V k = false := hv.out
            refine ⟨k + 1, by omega, by go_num, Lib.hid ?_, Lib.hid (XR.out.other (b' := w.heap.size + 2) (by omega) k (.bool false)), Lib.hid (NR.out.other (b' := w.heap.size + 2) (by omega) k (.bool false)), Lib.hid (PR.out.set (b := w.heap.size + 2) (.inl (by omega)) k (.bool false)), Lib.hid (BR.out.setCell (by show _ ≤ w.heap.size + 2; omega) _)⟩
            have h := OR.out.set k (.bool false)
            rw [← e, bools_set, HS.out] at h
            rw [e] at h
            exact h
          case measure => simp [intOf]; omega
        | true =>
          go_wp2
          go_roundw
          case rel =>
            have e : V k = u0 := hv.out.trans (Bool.true_and _)
            refine ⟨k + 1, by omega, by go_num, Lib.hid ?_, Lib.hid (XR.out.other (b' := w.heap.size + 2) (by omega) k (.bool u0)), Lib.hid (NR.out.other (b' := w.heap.size + 2) (by omega) k (.bool u0)), Lib.hid (PR.out.set (b := w.heap.size + 2) (.inl (by omega)) k (.bool u0)), Lib.hid (BR.out.setCell (by show _ ≤ w.heap.size + 2; omega) _)⟩
            have h := OR.out.set k (.bool u0)
            rw [← e, bools_set, HS.out] at h
            rw [e] at h
            exact h
          case measure => simp [intOf]; omega
    · obtain rfl : k = m.facts.length := by omega
      have HEND := Lib.hid (outL_end m.facts.length V)
      have ZF := Lib.hid (cm_own OR.out (by rw [bools_len, outL_len]) (by unfold maxLen; omega))
      rw [HEND.out] at ZF
      have hwr : w.heap.size + 2 < wr.heap.size := OR.out.lt
      clear OR
      go_wp2
      go_ret
      exact ⟨_, rfl, ⟨by rw [bools_len, List.length_map, List.length_range]; exact own_mono ZF.out (by omega), fun k hk => by cases hk; show w.heap.size + 2 < _; omega⟩, BR.out⟩
set_option maxRecDepth 100000 in
set_option maxHeartbeats 64000000 in
theorem eval_after (lo hi lo2 hi2 : Nat) (v v2 v3 : Value) (m : Md) (xs : List Nd) (al : List Bool) (q : Nat) (w : World) (hr : Mv lo hi w v m) (hm : mdOk m = true) (hr2 : Ns w v2 xs) (h3 : Bv lo2 hi2 w v3 al) (he : al.length = m.facts.length) (hq : q < xs.length) (op n xa xb : Int) (hx : xs.getD q default = ⟨op, n, xa, xb⟩) (V : Nat → Bool)
    (tmA tmB : Tm) (hop : op = 9) (hA : EvIH m w v v2 tmA xa) (hB : EvIH m w v v2 tmB xb) (HV : Hid (∀ i, i < m.facts.length → V i = (al.getD i false && (!(evL tmA m fun j => al.getD j false).getD i false || (evL tmB m fun j => al.getD j false && (evL tmA m fun j => al.getD j false).getD j false).getD i false)))) :
    Calls Tryz.prog 158 #[v, v2, v3, .int .i64 q] w (BoolsAns w ((List.range m.facts.length).map V)) := by
  obtain ⟨p1, p2, p3, p4, p5, p6, -⟩ := mdOk_parts hm
  subst hop
  have ho1 : (1 : Int) ≤ 9 := by decide
  have ho9 : (9 : Int) ≤ 9 := by decide
  have husi : usesI 9 = 2 := rfl
  have KIA := Lib.hid hA
  have KIB := Lib.hid hB
  have HA3 := Lib.hid (fun W (h : Below w.heap.size w W) => h3.keeps (Keeps.of_all h))
  have he' := he
  clear hA hB
  obtain ⟨fv, bv0, rfl, hf, hb⟩ := hr
  obtain ⟨fa, fc, e1⟩ := hf.form
  subst e1
  obtain ⟨ba, bc, e1, hbl, hbc, -⟩ := hb.parts
  subst e1
  obtain ⟨b3, o3, c3, rfl, q3, r3, k3⟩ := h3.kept (by omega)
  rw [he] at q3 k3 HA3 ⊢
  unfold maxLen at r3
  have HAL := Lib.hid k3
  have hns := hr2
  obtain ⟨a, cap, rfl, h1, h2, -⟩ := hr2.parts
  unfold maxLen at h2
  have HU := Lib.hid (fun W => l02Uses_in 9 W ho1 ho9)
  rw [husi] at HU
  obtain ⟨a', cap', e1, -, -, hcell⟩ := (hns.below (B := w.heap.size) (w' := w.alloc (.cells #[.slice fa m.facts.length fc, .slice ba m.blocks.length bc, .int .i64 m.actual] 26)) (by go_grown) (Nat.le_refl _)).parts
  cases e1
  obtain ⟨bx, ox, rfl, hbx, n0, n1, n2, n3⟩ := hcell q hq
  rw [hx] at n0 n1 n2 n3
  have q0 : (0 : Int) ≤ (q : Int) := Int.natCast_nonneg _
  have qn : (q : Int) < (xs.length : Int) := by omega
  have HOUT := Lib.hid (outL_0 m.facts.length V)
  have hlen := p2
  clear hf hb h3 hr2 hns hcell k3 hm p5 p6 husi hx
  go_enter Tryz.func158, Tryz.ntmps158
  have tk17 : True := trivial
  have tk18 : True := trivial
  have tk19 : True := trivial
  have tk20 : True := trivial
  go_wp2_with
    (first
      | (have _t := tk17; clear _t tk17; refine wpList_makeM rfl (.tmp 24) (.tmp 24) 158 25 rfl rfl 4 (.bool false) 1 Tryz.underlying158 Tryz.infoB m.facts.length .i64 .i64 rfl rfl (by omega) (by unfold maxLen; omega) (bools (List.replicate m.facts.length false)) (madeB m.facts.length) ?_
         intro w1 hz hb1
         have X1 := Lib.hid (Mcell.below ((Mcell.new (w := w) (T := 26) (b := w.heap.size) (fv := .slice fa m.facts.length fc) (bv := .slice ba m.blocks.length bc) (n := m.actual) rfl).alloc (.cells #[.int .i64 9, .int .i64 n, .int .i64 xa, .int .i64 xb] 112)) hb1)
         have N1 := Lib.hid (Cm.all (Cm.new (w := w.alloc (.cells #[.slice fa m.facts.length fc, .slice ba m.blocks.length bc, .int .i64 m.actual] 26)) (b := w.heap.size + 1) (T := 112) (cs := [.int .i64 9, .int .i64 n, .int .i64 xa, .int .i64 xb]) (by simp)) hb1)
         have O1 : Hid (Cm w1 (w.heap.size + 2) 4 (bools (outL m.facts.length V 0))) := Lib.hid (by rw [HOUT.out]; simpa using hz)
         have B1 : Hid (Below w.heap.size w w1) := Lib.hid (Below.trans (by go_grown) (hb1.mono (by simp; omega)))
         have s1 : w.heap.size + 2 < w1.heap.size := O1.out.lt
         clear n0 n1 n2 n3 hz hb1 hbx
         obtain ⟨xc0, xc1, xc2, xc3, xc4, xc5⟩ := X1.out)
      | (have _t := tk18; clear _t tk18; refine wpList_makeM rfl (.tmp 28) (.tmp 28) 158 29 rfl rfl 4 (.bool false) 1 Tryz.underlying158 Tryz.infoB m.facts.length .i64 .i64 rfl rfl (by omega) (by unfold maxLen; omega) (bools (List.replicate m.facts.length false)) (madeB m.facts.length) ?_
         intro w2 hz hb1
         have X1 := Lib.hid (X1.out.below hb1)
         have N1 := Lib.hid (N1.out.all hb1)
         have O1 := Lib.hid (O1.out.all hb1)
         have B1 : Hid (Below w.heap.size w w2) := Lib.hid (B1.out.trans (hb1.mono B1.out.size))
         have s2 : w1.heap.size ≤ w2.heap.size := hb1.size
         clear hz hb1 xc0 xc1 xc2 xc3 xc4 xc5
         obtain ⟨xc0, xc1, xc2, xc3, xc4, xc5⟩ := X1.out)
      | (have _t := tk19; clear _t tk19; refine wpList_makeM rfl (.tmp 32) (.tmp 32) 158 33 rfl rfl 4 (.bool false) 1 Tryz.underlying158 Tryz.infoB m.facts.length .i64 .i64 rfl rfl (by omega) (by unfold maxLen; omega) (bools (List.replicate m.facts.length false)) (madeB m.facts.length) ?_
         intro w3 hz hb1
         have X1 := Lib.hid (X1.out.below hb1)
         have N1 := Lib.hid (N1.out.all hb1)
         have O1 := Lib.hid (O1.out.all hb1)
         have B1 : Hid (Below w.heap.size w w3) := Lib.hid (B1.out.trans (hb1.mono B1.out.size))
         have s3 : w2.heap.size ≤ w3.heap.size := hb1.size
         clear hz hb1 xc0 xc1 xc2 xc3 xc4 xc5
         obtain ⟨xc0, xc1, xc2, xc3, xc4, xc5⟩ := X1.out
         have nc2 : w3.cell? ⟨w.heap.size + 1, 2, none⟩ = some (.int .i64 xa) := N1.out.cell 2
         have nc0 : w3.cell? ⟨w.heap.size + 1, 0, none⟩ = some (.int .i64 9) := N1.out.cell 0)
      | (have _t := tk20; clear _t tk20; refine (HU.out _).mono ?_; rintro e wq ⟨rfl, rfl⟩))
  obtain ⟨ta, hta⟩ : ∃ l, l = evL tmA m fun j => al.getD j false := ⟨_, rfl⟩
  have tal : ta.length = m.facts.length := by rw [hta]; exact evL_len _ _ _
  have Kta := Lib.hid (KIA.out lo2 hi2 (.slice (some ⟨b3, o3, none⟩) m.facts.length c3) al)

  rw [← hta] at HV Kta
  have HLta := Lib.hid tal
  clear hta

  clear xc0 xc1 xc2 xc3 xc4 xc5 nc2 nc0
  refine (Kta.out _ B1.out (HA3.out _ B1.out) he').mono ?_
  rintro e w5 ⟨vw5, rfl, how5, hb1⟩
  obtain ⟨bx1, ox1, cx1, rfl, qx1, rx1, -⟩ := how5.read.kept (by rw [tal]; omega)
  have AV := how5.read.wide (lo' := w.heap.size + 3) (hi' := w5.heap.size) (by omega) (Nat.le_refl _)
  rw [tal] at qx1 AV ⊢
  have AV := Lib.hid AV
  unfold maxLen at rx1
  have X1 := Lib.hid (X1.out.below hb1)
  have N1 := Lib.hid (N1.out.all hb1)
  have O1 := Lib.hid (O1.out.all hb1)
  have B1 : Hid (Below w.heap.size w w5) := Lib.hid (B1.out.trans (hb1.mono B1.out.size))
  have sw5 : w3.heap.size ≤ w5.heap.size := hb1.size
  have HBBw5 := Lib.hid hb1
  have nc0 : w5.cell? ⟨w.heap.size + 1, 0, none⟩ = some (.int .i64 9) := N1.out.cell 0
  clear how5 hb1 Kta tal

  have HTL := HLta

  obtain ⟨ba', oa', ca', e, -, -, ka⟩ := AV.out.kept (by rw [HTL.out]; omega)
  obtain ⟨rfl, rfl, rfl⟩ := slice_inj e
  clear e
  have KA := Lib.hid ka
  clear ka
  go_wp2
  clear nc0
  go_loopw [13, 59] (fun lv iv wr => ∃ (k : Nat) (lv' : Value), k ≤ m.facts.length ∧ iv = .int .i64 k ∧ lv' = lv ∧ Hid (wr.ownsRow w5.heap.size 4 1 lv' k (bools ((List.range k).map fun j => al.getD j false && ta.getD j false))) ∧ Hid (Below w5.heap.size w5 wr)) (fun _ iv _ => m.facts.length - (intOf iv).toNat)
  case atStart => exact ⟨0, _, Nat.zero_le _, rfl, rfl, Lib.hid (World.ownsRow_lit w5 #[] 0 (Nat.le_refl _) (Nat.zero_le _) rfl), Lib.hid (by go_grown)⟩
  case round =>
    obtain ⟨k, lv, hk, rfl, rfl, LR, BQ⟩ := hrel
    by_cases hlt : k < m.facts.length
    · have BW := Lib.hid (B1.out.trans (BQ.out.mono B1.out.size))
      have ca := HAL.out _ BW.out k hlt
      have cta := KA.out _ BQ.out k (by rw [HTL.out]; exact hlt)
      have HS := Lib.hid (range_snoc (fun j => al.getD j false && ta.getD j false) k)
      have k0 : (0 : Int) ≤ (k : Int) := Int.natCast_nonneg _
      have kn : (k : Int) < (m.facts.length : Int) := by omega
      have hsz : w5.heap.size ≤ wr.heap.size := BQ.out.size
      have HLB : Hid (∀ q, lv.ownBlock = some q → w5.heap.size ≤ q) := Lib.hid (fun q hq => (LR.out.lt q hq).1)
      obtain ⟨a0, e4⟩ : ∃ y, y = al.getD k false := ⟨_, rfl⟩
      obtain ⟨t0, e5⟩ : ∃ y, y = ta.getD k false := ⟨_, rfl⟩
      rw [← e4] at ca
      rw [← e5] at cta
      rw [← e4, ← e5] at HS
      clear e4 e5 BW
      cases a0 with
      | false =>
        have tk21 : True := trivial
        go_wp2_with
          (first
            | (have _t := tk21; clear _t tk21; at_builtin; refine wpList_pushL rfl (.tmp 64) (.tmp 72) 158 73 rfl rfl 4 (.bool false) 1 Tryz.underlying158 Tryz.infoB rfl w5.heap.size (.bool false) lv k (bools ((List.range k).map fun j => al.getD j false && ta.getD j false)) LR.out rfl wr.heap.size rfl rfl rfl (by unfold maxLen; omega) (by omega) hsz ?_
               intro v6 w6 hown hg
               have L6 := Lib.hid hown
               have B6 : Hid (Below w5.heap.size w5 w6) := Lib.hid (BQ.out.trans (hg.below hsz HLB.out))
               clear hown hg ca cta))
        go_roundw
        case rel =>
          refine ⟨k + 1, _, by omega, by go_num, rfl, Lib.hid ?_, B6⟩
          rw [HS.out, bools_app]
          exact L6.out
        case measure => simp [intOf]; omega
      | true =>
        have tk22 : True := trivial
        go_wp2_with
          (first
            | (have _t := tk22; clear _t tk22; at_builtin; refine wpList_pushL rfl (.tmp 64) (.tmp 72) 158 73 rfl rfl 4 (.bool false) 1 Tryz.underlying158 Tryz.infoB rfl w5.heap.size (.bool t0) lv k (bools ((List.range k).map fun j => al.getD j false && ta.getD j false)) LR.out rfl wr.heap.size rfl rfl rfl (by unfold maxLen; omega) (by omega) hsz ?_
               intro v6 w6 hown hg
               have L6 := Lib.hid hown
               have B6 : Hid (Below w5.heap.size w5 w6) := Lib.hid (BQ.out.trans (hg.below hsz HLB.out))
               clear hown hg ca cta))
        go_roundw
        case rel =>
          refine ⟨k + 1, _, by omega, by go_num, rfl, Lib.hid ?_, B6⟩
          rw [HS.out, bools_app]
          exact L6.out
        case measure => simp [intOf]; omega
    · obtain rfl : k = m.facts.length := by omega
      have RO := Lib.hid (Ro.of_own LR.out)
      have RV : Hid (Bv w5.heap.size wr.heap.size wr lv ((List.range m.facts.length).map fun j => al.getD j false && ta.getD j false)) := Lib.hid (Ro.read RO.out)
      have X1 := Lib.hid (X1.out.below BQ.out)
      have N1 := Lib.hid (N1.out.all BQ.out)
      have O1 := Lib.hid (O1.out.all BQ.out)
      have AV := Lib.hid ((AV.out.keeps (Keeps.of_all BQ.out)).wide (lo' := w.heap.size + 3) (hi' := wr.heap.size) (Nat.le_refl _) BQ.out.size)
      have B1 := Lib.hid (B1.out.trans (BQ.out.mono B1.out.size))
      have hsr := BQ.out.size
      obtain ⟨al2, hal2⟩ : ∃ l, l = (List.range m.facts.length).map fun j => al.getD j false && ta.getD j false := ⟨_, rfl⟩
      have hl2 : al2.length = m.facts.length := by rw [hal2]; simp
      have hev : Hid (evL tmB m (fun j => al2.getD j false) = evL tmB m fun j => al.getD j false && ta.getD j false) := Lib.hid (evL_cong (fun j hj => by rw [hal2]; exact getD_rangeMap' hj))
      rw [← hal2] at RV
      clear LR RO BQ hal2 KA
      have nc0 : wr.cell? ⟨w.heap.size + 1, 0, none⟩ = some (.int .i64 9) := N1.out.cell 0
      obtain ⟨wo, rfl⟩ : ∃ wo : World, wo = wr := ⟨_, rfl⟩
      obtain ⟨tb, htb⟩ : ∃ l, l = evL tmB m fun j => al.getD j false && ta.getD j false := ⟨_, rfl⟩
      have tbl : tb.length = m.facts.length := by rw [htb]; exact evL_len _ _ _
      have Ktb := Lib.hid (KIB.out w5.heap.size wo.heap.size lv al2)
      rw [hev.out] at Ktb
      rw [← htb] at HV Ktb
      have HLtb := Lib.hid tbl
      clear htb
      obtain ⟨xc0, xc1, xc2, xc3, xc4, xc5⟩ := X1.out
      have nc3 : wo.cell? ⟨w.heap.size + 1, 3, none⟩ = some (.int .i64 xb) := N1.out.cell 3
      go_wp2_with fail
      clear xc0 xc1 xc2 xc3 xc4 xc5 nc3 nc0
      refine (Ktb.out _ B1.out RV.out hl2).mono ?_
      rintro e w6 ⟨vw6, rfl, how6, hb1⟩
      obtain ⟨bx2, ox2, cx2, rfl, qx2, rx2, -⟩ := how6.read.kept (by rw [tbl]; omega)
      have BV := how6.read.wide (lo' := w.heap.size + 3) (hi' := w6.heap.size) (by omega) (Nat.le_refl _)
      rw [tbl] at qx2 BV ⊢
      have BV := Lib.hid BV
      unfold maxLen at rx2
      have X1 := Lib.hid (X1.out.below hb1)
      have N1 := Lib.hid (N1.out.all hb1)
      have O1 := Lib.hid (O1.out.all hb1)
      have B1 : Hid (Below w.heap.size w w6) := Lib.hid (B1.out.trans (hb1.mono B1.out.size))
      have sw6 : wo.heap.size ≤ w6.heap.size := hb1.size
      have HBBw6 := Lib.hid hb1
      have nc0 : w6.cell? ⟨w.heap.size + 1, 0, none⟩ = some (.int .i64 9) := N1.out.cell 0
      clear how6 hb1 Ktb tbl
      have AV := Lib.hid ((AV.out.keeps (Keeps.of_all HBBw6.out)).wide (lo' := w.heap.size + 3) (hi' := w6.heap.size) (Nat.le_refl _) HBBw6.out.size)
      have HTB := HLtb
      clear hev RV
      go_wp2
      clear nc0
      go_loopw [83] (fun iv wr => ∃ k : Nat, k ≤ m.facts.length ∧ iv = .int .i64 k ∧ Hid (Cm wr (w.heap.size + 2) 4 (bools (outL m.facts.length V k))) ∧ Hid (Mcell wr w.heap.size (.slice fa m.facts.length fc) (.slice ba m.blocks.length bc) m.actual) ∧ Hid (Cm wr (w.heap.size + 1) 112 [.int .i64 9, .int .i64 n, .int .i64 xa, .int .i64 xb]) ∧ Hid (Keeps (w.heap.size + 3) w6.heap.size w6 wr) ∧ Hid (Below w.heap.size w wr)) (fun iv _ => m.facts.length - (intOf iv).toNat)
      case atStart => exact ⟨0, Nat.zero_le _, rfl, O1, X1, N1, Lib.hid (Keeps.refl _ _ _), B1⟩
      case round =>
        clear O1 X1 N1 B1
        obtain ⟨k, hk, rfl, OR, XR, NR, PR, BR⟩ := hrel
        by_cases hlt : k < m.facts.length
        · have ca := HAL.out _ BR.out k hlt
          have hv := Lib.hid (HV.out k hlt)
          have k0 : (0 : Int) ≤ (k : Int) := Int.natCast_nonneg _
          have kn : (k : Int) < (m.facts.length : Int) := by omega
          obtain ⟨a0, e4⟩ : ∃ y, y = al.getD k false := ⟨_, rfl⟩
          rw [← e4] at ca hv
          clear e4
          cases a0 with
          | false =>
            have HS := Lib.hid (outL_no (n := m.facts.length) (hv.out.trans (Bool.false_and _)))
            go_wp2
            go_roundw
            case rel => exact ⟨k + 1, by omega, by go_num, Lib.hid (by rw [HS.out]; exact OR.out), XR, NR, PR, BR⟩
            case measure => simp [intOf]; omega
          | true =>
            have hv := Lib.hid (hv.out.trans (Bool.true_and _))
            have HS := Lib.hid (outL_set (n := m.facts.length) (V := V) (k := k) hlt)
            have nc0 : wr.cell? ⟨w.heap.size + 1, 0, none⟩ = some (.int .i64 9) := NR.out.cell 0
            have hwr : w.heap.size + 2 < wr.heap.size := OR.out.lt
            obtain ⟨ba', oa', ca', e, -, -, ka⟩ := (AV.out.keeps PR.out).kept (by rw [HTL.out]; omega)
            obtain ⟨rfl, rfl, rfl⟩ := slice_inj e
            clear e
            obtain ⟨bb', ob', cb', e, -, -, kb⟩ := (BV.out.keeps PR.out).kept (by rw [HTB.out]; omega)
            obtain ⟨rfl, rfl, rfl⟩ := slice_inj e
            clear e
            have cta := ka _ (Below.refl _ _) k (by rw [HTL.out]; exact hlt)
            have ctb := kb _ (Below.refl _ _) k (by rw [HTB.out]; exact hlt)
            clear ka kb
            obtain ⟨t0, e4⟩ : ∃ y, y = ta.getD k false := ⟨_, rfl⟩
            obtain ⟨u0, e5⟩ : ∃ y, y = tb.getD k false := ⟨_, rfl⟩
            rw [← e4] at cta hv
            rw [← e5] at ctb hv
            clear e4 e5
            have ck := (OR.out.cell k).trans (outL_cell hlt)
            have fk := OR.out.frozen k
            cases t0 with
            | true =>
              go_wp2
              go_roundw
              case rel =>
                have e : V k = u0 := hv.out.trans (Bool.false_or _)
                refine ⟨k + 1, by omega, by go_num, Lib.hid ?_, Lib.hid (XR.out.other (b' := w.heap.size + 2) (by omega) k (.bool u0)), Lib.hid (NR.out.other (b' := w.heap.size + 2) (by omega) k (.bool u0)), Lib.hid (PR.out.set (b := w.heap.size + 2) (.inl (by omega)) k (.bool u0)), Lib.hid (BR.out.setCell (by show _ ≤ w.heap.size + 2; omega) _)⟩
                have h := OR.out.set k (.bool u0)
                rw [← e, bools_set, HS.out] at h
                rw [e] at h
                exact h
              case measure => simp [intOf]; omega
            | false =>
              go_wp2
              go_roundw
              case rel =>
                have e : V k = true := hv.out
                refine ⟨k + 1, by omega, by go_num, Lib.hid ?_, Lib.hid (XR.out.other (b' := w.heap.size + 2) (by omega) k (.bool true)), Lib.hid (NR.out.other (b' := w.heap.size + 2) (by omega) k (.bool true)), Lib.hid (PR.out.set (b := w.heap.size + 2) (.inl (by omega)) k (.bool true)), Lib.hid (BR.out.setCell (by show _ ≤ w.heap.size + 2; omega) _)⟩
                have h := OR.out.set k (.bool true)
                rw [← e, bools_set, HS.out] at h
                rw [e] at h
                exact h
              case measure => simp [intOf]; omega
        · obtain rfl : k = m.facts.length := by omega
          have HEND := Lib.hid (outL_end m.facts.length V)
          have ZF := Lib.hid (cm_own OR.out (by rw [bools_len, outL_len]) (by unfold maxLen; omega))
          rw [HEND.out] at ZF
          have hwr : w.heap.size + 2 < wr.heap.size := OR.out.lt
          clear OR
          go_wp2
          go_ret
          exact ⟨_, rfl, ⟨by rw [bools_len, List.length_map, List.length_range]; exact own_mono ZF.out (by omega), fun k hk => by cases hk; show w.heap.size + 2 < _; omega⟩, BR.out⟩
end Go.Proofs.YtodjohdbngbpaaaGreat
