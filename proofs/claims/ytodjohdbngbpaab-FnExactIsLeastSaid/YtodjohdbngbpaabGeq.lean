/-
  Two grids compared as structs: the same numbers. And when a model is its own least model. No program but the form of its types.
-/
import Derived.Test.YtodjohdbngbpaabLsg
import Derived.DeepKeys2
namespace Go.Proofs.Ytodjohdbngbpaab
open Go.RowKit Go.WideShapes
open Go Go.Deep
set_option linter.unusedSimpArgs false

section
variable {P : Program}
theorem keyLits_arr {d n : Nat} {t e : TypeId} (ht : P.underlying t = some (.array n e)) {cs : List Value} (hl : cs.length = P.cellsOf t) (h : ∀ i, i < n → ∃ ls, P.keyLits d e ((cs.drop (i * P.cellsOf e)).take (P.cellsOf e)) = some ls) : ∃ ls, P.keyLits (d + 1) t cs = some ls := by
  obtain ⟨ys, hys⟩ := mapM_some _ (fun i hi => h i (List.mem_range.1 hi))
  refine ⟨ys.flatten, ?_⟩
  unfold Program.keyLits
  rw [ht]
  simp only [hl, if_true, hys, Option.map_some]
theorem keyLits_fields {d : Nat} {t : TypeId} {fs : Array Field} (ht : P.underlying t = some (.struct fs)) {cs : List Value} (hl : cs.length = P.cellsOf t) (hn : fs.all (·.name != "_") = true)
    (h : ∀ f ∈ fs.toList, ∃ ls, P.keyLits d f.type ((cs.drop f.offset).take (P.cellsOf f.type)) = some ls) : ∃ ls, P.keyLits (d + 1) t cs = some ls := by
  obtain ⟨ys, hys⟩ := mapM_some _ h
  refine ⟨ys.flatten, ?_⟩
  unfold Program.keyLits
  rw [ht]
  simp only [hl, hn, and_self, if_true, hys, Option.map_some]
theorem keyLits_i {d : Nat} {e : TypeId} (he : P.underlying e = some (.int .i64)) {x : Int} (hx : (Lit.int .i64 x).wf = true) : P.keyLits (d + 1) e [.int .i64 x] = some [.int .i64 x] := by simp [Program.keyLits, he, hx]
/-- all fit into a number -/
def okI (l : List Int) : Prop := ∀ x ∈ l, (Lit.int .i64 x).wf = true
theorem ints_part (l : List Int) (a b : Nat) : ((ints l).drop a).take b = ints ((l.drop a).take b) := by simp [ints, List.map_drop, List.map_take]
theorem okI_part {l : List Int} (h : okI l) (a b : Nat) : okI ((l.drop a).take b) := fun x hx => h x (List.mem_of_mem_drop (List.mem_of_mem_take hx))
theorem one_part {l : List Int} {i : Nat} (h : i < l.length) : (l.drop i).take 1 = [l[i]] := by rw [List.drop_eq_getElem_cons h]; rfl
theorem keyLits_part {d : Nat} {e : TypeId} (he : P.underlying e = some (.int .i64)) (hce : P.cellsOf e = 1) {l : List Int} (ho : okI l) {i : Nat} (hi : i < l.length) : ∃ ls, P.keyLits (d + 1) e (((ints l).drop i).take (P.cellsOf e)) = some ls := by
  rw [hce, ints_part, one_part hi]
  exact ⟨_, keyLits_i he (ho _ (List.getElem_mem _))⟩
theorem keyLits_intRow {d n : Nat} {t e : TypeId} (ht : P.underlying t = some (.array n e)) (he : P.underlying e = some (.int .i64)) (hc : P.cellsOf t = n) (hce : P.cellsOf e = 1) {l : List Int} (hl : l.length = n) (ho : okI l) :
    ∃ ls, P.keyLits (d + 2) t (ints l) = some ls := by
  refine keyLits_arr ht (by rw [ints_len, hl, hc]) fun i hi => ?_
  rw [show i * P.cellsOf e = i by rw [hce, Nat.mul_one]]
  exact keyLits_part he hce ho (by omega)
theorem keyLits_intRows {d m n : Nat} {u t e : TypeId} (hu : P.underlying u = some (.array m t)) (ht : P.underlying t = some (.array n e)) (he : P.underlying e = some (.int .i64)) (hcu : P.cellsOf u = m * n) (hc : P.cellsOf t = n) (hce : P.cellsOf e = 1)
    {l : List Int} (hl : l.length = m * n) (ho : okI l) : ∃ ls, P.keyLits (d + 3) u (ints l) = some ls := by
  refine keyLits_arr hu (by rw [ints_len, hl, hcu]) fun i hi => ?_
  rw [hc, ints_part]
  refine keyLits_intRow ht he hc hce ?_ (okI_part ho _ _)
  rw [List.length_take, List.length_drop, hl]
  have : i * n + n ≤ m * n := by rw [← Nat.succ_mul]; exact Nat.mul_le_mul_right _ hi
  omega
end
theorem ints_inj {a b : List Int} (h : ints a = ints b) : a = b := by
  apply List.ext_getElem?
  intro i
  have := congrArg (fun l => l[i]?) h
  simp only [ints_get] at this
  cases ha : a[i]? <;> cases hb : b[i]? <;> rw [ha, hb] at this <;> simp at this
  · rw [this]
theorem Try.cellsRow16 : Try.prog.cellsOf 39 = 16 := by kernel_rfl
theorem Try.cellsRows3 : Try.prog.cellsOf 40 = 3 * 16 := by kernel_rfl
theorem Try.cellsGrid67 : Try.prog.cellsOf 42 = 67 := by kernel_rfl
theorem Try.underRows3 : Try.prog.underlying 40 = some (.array 3 39) := by kernel_rfl
theorem Try.gridKey4 : Try.prog.keyTypeAt 4 42 = true := by kernel_rfl
theorem Try.gridTiled4 : Try.prog.tiled 4 42 = true := by kernel_rfl
theorem grid_lits {l : List Int} (hl : l.length = 67) (ho : okI l) : ∃ ls, Try.prog.keyLits 4 42 (ints l) = some ls := by
  refine keyLits_fields Try.underlying42 (by rw [ints_len, hl, Try.cellsGrid67]) (by kernel_rfl) ?_
  intro f hf
  simp only [List.mem_cons, List.not_mem_nil, or_false] at hf
  rcases hf with rfl | rfl | rfl | rfl | rfl
  · exact keyLits_part Try.underlying3 Try.cellsInt ho (by rw [hl]; decide)
  · exact keyLits_part Try.underlying3 Try.cellsInt ho (by rw [hl]; decide)
  · show ∃ ls, Try.prog.keyLits 3 39 (((ints l).drop 2).take (Try.prog.cellsOf 39)) = some ls
    rw [Try.cellsRow16, ints_part]
    exact keyLits_intRow Try.underlying39 Try.underlying3 Try.cellsRow16 Try.cellsInt (by simp; omega) (okI_part ho _ _)
  · show ∃ ls, Try.prog.keyLits 3 40 (((ints l).drop 18).take (Try.prog.cellsOf 40)) = some ls
    rw [Try.cellsRows3, ints_part]
    exact keyLits_intRows Try.underRows3 Try.underlying39 Try.underlying3 Try.cellsRows3 Try.cellsRow16 Try.cellsInt (by simp; omega) (okI_part ho _ _)
  · exact keyLits_part Try.underlying3 Try.cellsInt ho (by rw [hl]; decide)
theorem grid_eq {l l' : List Int} (hl : l.length = 67) (hl' : l'.length = 67) (ho : okI l) (ho' : okI l') (W : World) :
    (Op.equalIn 10000 42 (.agg (ints l).toArray) (.agg (ints l').toArray)).run Try.prog W = .ok (decide (l = l')) W := by
  obtain ⟨a, ha⟩ := grid_lits hl ho
  obtain ⟨b, hb⟩ := grid_lits hl' ho'
  obtain ⟨r, hr, hiff⟩ := run_equalIn_deep (P := Try.prog) 9996 4 42 Try.gridKey4 W 4 4 (.agg (ints l).toArray) (.agg (ints l').toArray) a b
    (by simp [Value.formed, Try.underlying42, Try.cellsGrid67, ints_len, hl]) (by simp [Value.formed, Try.underlying42, Try.cellsGrid67, ints_len, hl']) (by simpa [Value.cells] using ha) (by simpa [Value.cells] using hb)
  have e : r = decide (l = l') := by
    rw [Bool.eq_iff_iff, hiff, decide_eq_true_eq]
    constructor
    · intro e
      subst e
      exact ints_inj ((cells_of_lits 4 _ Try.gridTiled4 4 _ _ ha).trans (cells_of_lits 4 _ Try.gridTiled4 4 _ _ hb).symm)
    · intro e
      subst e
      exact Option.some.inj (ha.symm.trans hb)
  rw [← e]
  exact hr

theorem list_getD_ext {l l' : List Int} (hl : l.length = l'.length) (h : ∀ i, i < l.length → l.getD i 0 = l'.getD i 0) : l = l' := by
  apply List.ext_getElem?
  intro i
  rcases Nat.lt_or_ge i l.length with hi | hi
  · have := h i hi
    rw [List.getD_eq_getElem?_getD, List.getD_eq_getElem?_getD, List.getElem?_eq_getElem hi, List.getElem?_eq_getElem (by omega)] at this
    rw [List.getElem?_eq_getElem hi, List.getElem?_eq_getElem (by omega)]
    exact congrArg some this
  · rw [List.getElem?_eq_none hi, List.getElem?_eq_none (by omega)]
theorem gM2_inj {m m' : Md} (hm : mdOk m = true) (hm' : mdOk m' = true) (h : gM2 m = gM2 m') : m = m' := by
  have hs := md_small hm
  have hs' := md_small hm'
  obtain ⟨p1, p2, p3, p4, p5, -⟩ := mdOk_parts hm
  obtain ⟨q1, q2, q3, q4, q5, -⟩ := mdOk_parts hm'
  have at' : ∀ i : Nat, (gM2 m)[i]? = (gM2 m')[i]? := fun i => by rw [h]
  unfold gM2 at at'
  have e0 := at' 0
  rw [gL_0, gL_0] at e0
  have e1 := at' 1
  rw [gL_1, gL_1] at e1
  have e2 := at' 66
  rw [gL_66 hs, gL_66 hs'] at e2
  have n : m.facts.length = m'.facts.length := Int.ofNat.inj (Option.some.inj e0)
  have a : m.blocks.length = m'.blocks.length := Int.ofNat.inj (Option.some.inj e1)
  have hf : m.facts = m'.facts := list_getD_ext n fun i hi => by
    have := at' (2 + i)
    rw [gL_f hs (by omega), gL_f hs' (by omega), pad_get (by omega) hs.1, pad_get (by omega) hs'.1] at this
    exact Option.some.inj this
  have hb : m.blocks = m'.blocks := by
    apply List.ext_getElem?
    intro k
    rcases Nat.lt_or_ge k m.blocks.length with hk | hk
    · have hr : m.blocks.getD k [] = m'.blocks.getD k [] := list_getD_ext (by rw [(p5 k hk).1, (q5 k (by omega)).1]; exact n) fun i hi => by
        rw [(p5 k hk).1] at hi
        have := at' (18 + k * 16 + i)
        rw [gL_r hs (by omega) (by omega), gL_r hs' (by omega) (by omega), pad_get (by omega) (hs.2 k), pad_get (by omega) (hs'.2 k)] at this
        exact Option.some.inj this
      rw [List.getD_eq_getElem?_getD, List.getD_eq_getElem?_getD, List.getElem?_eq_getElem hk, List.getElem?_eq_getElem (by omega)] at hr
      rw [List.getElem?_eq_getElem hk, List.getElem?_eq_getElem (by omega)]
      exact congrArg some hr
    · rw [List.getElem?_eq_none hk, List.getElem?_eq_none (by omega)]
  have hact : m.actual = m'.actual := Option.some.inj e2
  cases m; cases m'
  simp only at hf hb hact
  subst hf hb hact
  rfl
theorem gM2_ok {m : Md} (hm : mdOk m = true) : okI (gM2 m) := by
  have hs := md_small hm
  obtain ⟨p1, p2, p3, p4, p5, p6, p7, p8⟩ := mdOk_parts hm
  have key : ∀ i, i < 67 → 0 ≤ gfun m.facts.length m.blocks.length m.facts m.blocks m.actual i ∧ gfun m.facts.length m.blocks.length m.facts m.blocks m.actual i ≤ 16 := by
    intro i hi
    unfold gfun
    split
    · omega
    split
    · omega
    split
    · rcases Nat.lt_or_ge (i - 2) m.facts.length with h | h
      · have := p6 _ h; omega
      · rw [List.getD_eq_getElem?_getD, List.getElem?_eq_none h]; simp
    split
    · rcases Nat.lt_or_ge ((i - 18) / 16) m.blocks.length with hk | hk
      · rcases Nat.lt_or_ge ((i - 18) % 16) (m.blocks.getD ((i - 18) / 16) []).length with hj | hj
        · have h2 := ord_bd (p5 _ hk).2 (y := (m.blocks.getD ((i - 18) / 16) []).getD ((i - 18) % 16) 0) (by rw [List.getD_eq_getElem?_getD (l := m.blocks.getD _ _), List.getElem?_eq_getElem hj]; exact List.getElem_mem _)
          rw [(p5 _ hk).1] at h2
          omega
        · rw [List.getD_eq_getElem?_getD (l := m.blocks.getD _ _), List.getElem?_eq_none hj]; simp
      · rw [List.getD_eq_getElem?_getD (l := m.blocks), List.getElem?_eq_none hk]; simp
    · omega
  intro x hx
  unfold gM2 at hx
  rw [(gfun_gf m.facts.length m.blocks.length m.facts m.blocks m.actual).eq hs] at hx
  unfold gG at hx
  obtain ⟨i, hi, rfl⟩ := List.mem_map.1 hx
  have := key i (List.mem_range.1 hi)
  have h1 : IntKind.i64.min = -9223372036854775808 := rfl
  have h2 : IntKind.i64.max = 9223372036854775807 := rfl
  simp only [Lit.wf, Bool.and_eq_true, decide_eq_true_eq, h1, h2]
  omega
/-- a model is its own least model -/
theorem leastM_iff {m : Md} (hm : mdOk m = true) : leastM m = m ↔ isLeastR m = true := by
  obtain ⟨p1, p2, p3, p4, p5, p6, p7, p8⟩ := mdOk_parts hm
  constructor
  · intro h
    have h2 := leastR_eq hm
    rw [h] at h2
    exact (leastR_facts h2).2.2.1
  · intro h
    unfold isLeastR at h
    rw [hm, Bool.true_and, Bool.and_eq_true, List.all_eq_true, beq_iff_eq] at h
    obtain ⟨h1, h2⟩ := h
    have hcls : ∀ w, w < m.facts.length → (lastC m).getD w 0 = (w : Int) := fun w hw => by have := h1 w (List.mem_range.2 hw); simpa using this
    have hin : ∀ i, i < m.facts.length → i ∈ reachSet m := fun i hi => by
      by_cases hm' : i ∈ reachSet m
      · exact hm'
      · exfalso
        have := nodup_len m.facts.length (i :: reachSet m) (List.nodup_cons.2 ⟨hm', lst_nodup _ _⟩) (fun j hj => by
          rcases List.mem_cons.1 hj with rfl | hj
          · exact hi
          · exact reachSet_in hm hj)
        rw [List.length_cons] at this
        omega
    have hset : reachSet m = List.range m.facts.length :=
      lst_tot (fun i => ⟨fun h => reachSet_in hm ((reachSet_mem hm).2 h), fun h => (reachSet_mem hm).1 (hin i h)⟩) p2
    unfold leastM
    rw [hset, rest_whole hm, least_self hm hcls]
end Go.Proofs.Ytodjohdbngbpaab
