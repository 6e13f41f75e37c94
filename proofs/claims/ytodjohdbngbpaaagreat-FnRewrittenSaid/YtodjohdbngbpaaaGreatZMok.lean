/-
  Several texts in one: Mok Cpy Sok Sbl LawM Sbi Mov Fre. Conditions: as each theorem says.
-/
import Derived.Test.YtodjohdbngbpaaaGreatGof
import Derived.Test.YtodjohdbngbpaaaGreatZReg
/-
  The mathematics of valid models: the specification's conditions are the program's. No program.
-/
namespace Go.Proofs.YtodjohdbngbpaaaGreat

/-- the conditions of the specification -/
def specOk (m : Md) : Bool :=
  decide (1 ≤ m.facts.length ∧ m.facts.length ≤ 16) && decide (1 ≤ m.blocks.length ∧ m.blocks.length ≤ 3) && inB m.actual m.facts.length &&
    (List.range m.facts.length).all (fun j => inB (m.facts.getD j 0) 16) && (List.range m.blocks.length).all (fun k => (m.blocks.getD k []).length == m.facts.length && ordOk (m.blocks.getD k []))
theorem most_ge (l : List Int) : ∀ k, -1 ≤ mostOf l k
  | 0 => Int.le_refl _
  | k + 1 => by have := most_ge l k; rw [mostOf]; omega
theorem ordOk_zeros (n : Nat) : ordOk (List.replicate n 0) = true := by
  unfold ordOk
  refine decide_eq_true (fun i hi => ?_)
  rw [List.length_replicate] at hi
  have := most_ge (List.replicate n 0) i
  rw [List.getD_eq_getElem?_getD, List.getElem?_replicate, if_pos hi]
  simp only [Option.getD_some]
  omega
theorem num_of_ord {l : List Int} (h : ordOk l = true) : num l = l := by rw [ordOk_num] at h; exact of_decide_eq_true h
theorem pad_take {l : List Int} {n : Nat} (h : l.length = n) : (pad l).take n = l := by subst h; unfold pad; simp
theorem pad_inj {l l' : List Int} (h : l.length = l'.length) (e : pad l = pad l') : l = l' := by
  have := congrArg (List.take l.length) e
  rw [pad_take rfl, pad_take h.symm] at this
  exact this
theorem pad_nil : pad [] = List.replicate 16 0 := rfl
theorem rowOk_row {rows : List (List Int)} {n k : Nat} (h : (rows.getD k []).length = n) : rowOk rows n k = ordOk (rows.getD k []) := by
  unfold rowOk
  rw [pad_take h, ordOk_num, Bool.eq_iff_iff, decide_eq_true_iff, decide_eq_true_iff]
  exact ⟨fun e => (pad_inj (num_len _).symm e).symm, fun e => by rw [e]⟩
theorem rowOk_none {rows : List (List Int)} {n k : Nat} (h : rows.getD k [] = []) (hn : n ≤ 16) : rowOk rows n k = true := by
  unfold rowOk
  rw [h, pad_nil]
  refine decide_eq_true ?_
  rw [List.take_replicate, Nat.min_eq_left hn, num_of_ord (ordOk_zeros n)]
  unfold pad
  rw [List.length_replicate, List.replicate_append_replicate]
  congr 1; omega
theorem specOk_mdOk (m : Md) : specOk m = mdOk m := by
  rw [Bool.eq_iff_iff]
  unfold specOk mdOk okNums
  simp only [Bool.and_eq_true, decide_eq_true_eq, List.all_eq_true, List.mem_range, beq_iff_eq]
  constructor
  · rintro ⟨⟨⟨⟨⟨a1, a2⟩, b1, b2⟩, hc⟩, hf⟩, hb⟩
    refine ⟨⟨⟨a1, a2, b1, b2⟩, fun k hk => (hb k hk).1⟩, ⟨fun j hj => ?_, fun k hk => ?_⟩, hc⟩
    · rw [List.getD_eq_getElem?_getD, pad_get hj a2]
      simp only [Option.getD_some]
      rcases Nat.lt_or_ge j m.facts.length with h | h
      · exact hf j h
      · rw [List.getD_eq_getElem?_getD, List.getElem?_eq_none h]; rfl
    · rcases Nat.lt_or_ge k m.blocks.length with h | h
      · rw [rowOk_row (hb k h).1]; exact (hb k h).2
      · exact rowOk_none (by rw [List.getD_eq_getElem?_getD, List.getElem?_eq_none h]; rfl) a2
  · rintro ⟨⟨⟨a1, a2, b1, b2⟩, hl⟩, ⟨hf, hr⟩, hc⟩
    refine ⟨⟨⟨⟨⟨a1, a2⟩, b1, b2⟩, hc⟩, fun j hj => ?_⟩, fun k hk => ⟨hl k hk, ?_⟩⟩
    · have := hf j (by omega)
      rw [List.getD_eq_getElem?_getD, pad_get (by omega) a2] at this
      exact this
    · rw [← rowOk_row (hl k hk)]; exact hr k (by omega)
/-- what a valid model is -/
theorem mdOk_parts {m : Md} (h : mdOk m = true) : 1 ≤ m.facts.length ∧ m.facts.length ≤ 16 ∧ 1 ≤ m.blocks.length ∧ m.blocks.length ≤ 3 ∧ (∀ k, k < m.blocks.length → (m.blocks.getD k []).length = m.facts.length ∧ ordOk (m.blocks.getD k []) = true) ∧
    (∀ j, j < m.facts.length → 0 ≤ m.facts.getD j 0 ∧ m.facts.getD j 0 < 16) ∧ 0 ≤ m.actual ∧ m.actual < m.facts.length := by
  rw [← specOk_mdOk] at h
  unfold specOk inB at h
  simp only [Bool.and_eq_true, decide_eq_true_eq, List.all_eq_true, List.mem_range, beq_iff_eq] at h
  obtain ⟨⟨⟨⟨⟨a1, a2⟩, b1, b2⟩, hc⟩, hf⟩, hb⟩ := h
  exact ⟨a1, a2, b1, b2, hb, hf, hc.1, hc.2⟩
theorem md_small {m : Md} (h : mdOk m = true) : small m.facts m.blocks := by
  obtain ⟨_, a2, _, _, hb, _⟩ := mdOk_parts h
  refine ⟨a2, fun k => ?_⟩
  rcases Nat.lt_or_ge k m.blocks.length with hk | hk
  · rw [(hb k hk).1]; exact a2
  · rw [List.getD_eq_getElem?_getD, List.getElem?_eq_none hk]; simp
end Go.Proofs.YtodjohdbngbpaaaGreat

/-
  Contract of spec.l03Copy: a copy of a valid model in new memory. Condition: the model is valid.
-/
namespace Go.Proofs.YtodjohdbngbpaaaGreat
open Go.RowKit Go.WideShapes
open Go Go.Deep
set_option linter.unusedSimpArgs false

theorem md_fits {m : Md} (h : mdOk m = true) : fits m := by
  obtain ⟨a1, a2, b1, b2, hb, _⟩ := mdOk_parts h
  exact ⟨a2, b2, fun k hk => (hb k hk).1⟩
end Go.Proofs.YtodjohdbngbpaaaGreat

/-
  Contracts of spec.l01In, spec.l03Numbered, spec.ModelOk, spec.CountWorlds, impl.ModelOk, impl.CountWorlds; the walks of the laws FnExactModelOk, FnExactCountWorlds. Conditions of the contracts: bounds on the lengths, which the laws check.
-/
namespace Go.Proofs.YtodjohdbngbpaaaGreat
open Go.RowKit Go.WideShapes
open Go Go.Deep

set_option maxRecDepth 100000 in
set_option maxHeartbeats 4000000 in
theorem implOk_m (lo hi : Nat) (v : Value) (m : Md) (w : World) (hr : Mv lo hi w v m) (hhi : hi ≤ w.heap.size) :
    Calls Tryz.prog 16 #[v] w fun e w' => e = .returned (.bool (mdOk m)) ∧ Below w.heap.size w w' := by
  have KG := Lib.hid (fun W (h : Below w.heap.size w W) => gridOf_any lo hi v m W (hr.keeps (Keeps.of_all h)) (Nat.le_trans hhi h.size))
  obtain ⟨fv, bv, rfl, hf, hb⟩ := hr
  clear hf hb
  obtain ⟨r, HR⟩ : ∃ r, Hid (r = if mdOk m then some (gOf m) else none) := ⟨_, Lib.hid rfl⟩
  rw [show (if mdOk m then some (gOf m) else none) = r from HR.out.symm] at KG
  have HRB : Hid (mdOk m = r.isSome) := Lib.hid (by rw [HR.out]; cases mdOk m <;> rfl)
  have HLG : Hid ((ints (r.getD (gL 0 0 [] [] 0))).length = 67) := Lib.hid (by
    rw [ints_len, HR.out]
    cases h : mdOk m with
    | false => rfl
    | true => exact gL_len (md_small h))
  have HLO := Lib.hid (fun v (hv : v ∈ ints (r.getD (gL 0 0 [] [] 0))) => ints_one hv)
  rw [HRB.out]
  unfold GdAns at KG
  generalize r.getD (gL 0 0 [] [] 0) = G at *
  generalize r.isSome = ok at *
  go_enter Tryz.func16, Tryz.ntmps16
  go_wp2_with fail
  refine (KG.out _ (by go_grown)).mono ?_
  rintro e w1 ⟨rfl, hb1⟩
  have B1 : Hid (Below w.heap.size w w1) := Lib.hid (Below.trans (by go_grown) (hb1.mono (by simp)))
  clear hb1
  go_wp2_with
    (refine wpList_allocM rfl 85 rfl (ints (gL 0 0 [] [] 0)) Tryz.allocGrid ?_
     intro w2 hc2 hb2 hs2
     have C2 := Lib.hid hc2
     have B2 := Lib.hid (B1.out.trans (hb2.mono B1.out.size))
     clear hc2 hb2 hs2
     go_wp2_with
       (refine wpList_storeM rfl 85 _ _ rfl w1.heap.size 0 rfl (ints G) rfl 85 _ C2.out (by rw [HLG.out]; exact Nat.le_refl _) (by rw [HLG.out]; exact Tryz.sizeGrid) HLO.out ?_
        intro w3 hc3 ha3
        have B3 : Hid (Below w.heap.size w w3) := Lib.hid (B2.out.trans (ha3.below B1.out.size))
        clear hc3 ha3
        go_wp2_with fail
        go_ret
        exact ⟨rfl, B3.out⟩))

end Go.Proofs.YtodjohdbngbpaaaGreat

/-
  Contracts of spec.l03World, spec.SameBlock, impl.SameBlock.
-/
namespace Go.Proofs.YtodjohdbngbpaaaGreat
open Go.RowKit Go.WideShapes
open Go Go.Deep
set_option linter.unusedSimpArgs false

end Go.Proofs.YtodjohdbngbpaaaGreat

/-
  The walks of the laws FnExactModelOk, FnExactCountWorlds: they return true and write nothing that was there. No condition.
-/
namespace Go.Proofs.YtodjohdbngbpaaaGreat
open Go.RowKit Go.WideShapes
open Go Go.Deep

theorem Mv.form {lo hi : Nat} {w : World} {v : Value} {m : Md} (h : Mv lo hi w v m) : ∃ fa fc ba bc, v = .agg #[.slice fa m.facts.length fc, .slice ba m.blocks.length bc, .int .i64 m.actual] := by
  obtain ⟨fv, bv, rfl, hf, hb⟩ := h
  obtain ⟨fa, fc, rfl⟩ := hf.form
  obtain ⟨ba, bc, rfl, _⟩ := hb.parts
  exact ⟨fa, fc, ba, bc, rfl⟩
end Go.Proofs.YtodjohdbngbpaaaGreat

/-
  Contract of impl.SameBlock; the walk of the law FnExactSameBlock: it returns true and writes nothing that was there. No condition.
-/
namespace Go.Proofs.YtodjohdbngbpaaaGreat
open Go.RowKit Go.WideShapes
open Go Go.Deep

/-- guarded: a struct or an array is read out of a block of one's own -/
theorem wpList_loadMG {P : Program} {ops : Array Oper} {rest : List Oper} {o : Oper} {a : Act} {w : World} {Q : Exit → Act → World → Prop} {g : Nat × Bool} (hg : o.guard = some g) (hw : Region.wanted o (yielded ops a.tmps) = true) (ty : TypeId) (x : Operand) (ho : o.op = .load ty x)
    (b off : Nat) (hx : a.eval x = .pointer (some ⟨b, off, none⟩)) (B : TypeId) (cs ds : List Value) (hc : Cm w b B cs) (hd : ∀ j, j < ds.length → cs[off + j]? = ds[j]?)
    (d : TypeDesc) (hu : P.underlying ty = some d) (hr : d.isRow = true) (hi : (P.info? ty).map (·.size) = some ds.length)
    (h : wpList P ops Q rest (a.put o.dst (.agg ds.toArray)) w) : wpList P ops Q (o :: rest) a w :=
  wpList_wanted hg hw fun _ hK => wp_load_mid ty x ho b off hx ds d (hc.range off ds hd) hu hr hi (hK _ _ h)

end Go.Proofs.YtodjohdbngbpaaaGreat

/-
  Contracts of spec.MoveTo and impl.MoveTo; the walk of the law FnExactMoveTo: it returns true and writes nothing that was there. No condition.
-/
namespace Go.Proofs.YtodjohdbngbpaaaGreat
open Go.RowKit Go.WideShapes
open Go Go.Deep
set_option linter.unusedSimpArgs false

/-- a model is stored into the block of the answer -/
theorem ans_put {w w3 : World} {b lo hi : Nat} {fv bv fv0 bv0 : Value} {m : Md} {n0 : Int} (hM : Mcell w3 b fv0 bv0 n0) (hO : Mo lo hi w3 (.agg #[fv, bv, .int .i64 m.actual]) m) (hb : b < lo) (hwb : w.heap.size ≤ b) (hhi : hi ≤ w3.heap.size) (hB : Below w.heap.size w w3) :
    Mo w.heap.size (((w3.setCell ⟨b, 0, none⟩ fv).setCell ⟨b, 1, none⟩ bv).setCell ⟨b, 2, none⟩ (.int .i64 m.actual)).heap.size (((w3.setCell ⟨b, 0, none⟩ fv).setCell ⟨b, 1, none⟩ bv).setCell ⟨b, 2, none⟩ (.int .i64 m.actual)) (.agg #[fv, bv, .int .i64 m.actual]) m ∧
    Below w.heap.size w (((w3.setCell ⟨b, 0, none⟩ fv).setCell ⟨b, 1, none⟩ bv).setCell ⟨b, 2, none⟩ (.int .i64 m.actual)) ∧
    Mcell (((w3.setCell ⟨b, 0, none⟩ fv).setCell ⟨b, 1, none⟩ bv).setCell ⟨b, 2, none⟩ (.int .i64 m.actual)) b fv bv m.actual := by
  refine ⟨(hO.keeps (((Keeps.setCell _ _ _ _ (.inl hb)).set (.inl hb) _ _).set (.inl hb) _ _)).wide (by omega) (by simp [World.setCell]; omega), ((hB.setCell hwb _).setCell hwb _).setCell hwb _, hM.write _ _ _⟩
theorem gL_setC {n a c x : Int} {f : List Int} {rows : List (List Int)} (hs : small f rows) : (ints (gL n a f rows c)).set 66 (.int .i64 x) = ints (gL n a f rows x) := by
  have h0 := pad_len hs.1; have h1 := pad_len (hs.2 0); have h2 := pad_len (hs.2 1); have h3 := pad_len (hs.2 2)
  unfold gL
  generalize pad (rows.getD 0 []) = R0 at *
  generalize pad (rows.getD 1 []) = R1 at *
  generalize pad (rows.getD 2 []) = R2 at *
  rw [ints_set, ← List.append_assoc, ← List.append_assoc, ← List.append_assoc, ← List.append_assoc, List.set_append_right _ _ (by simp [h0, h1, h2, h3]), show 66 - ([n, a] ++ pad f ++ R0 ++ R1 ++ R2).length = 0 by simp [h0, h1, h2, h3]]
  simp

end Go.Proofs.YtodjohdbngbpaaaGreat

/-
  Contracts of spec.FreeModel and impl.FreeModel. No condition.
-/
namespace Go.Proofs.YtodjohdbngbpaaaGreat
open Go.RowKit Go.WideShapes
open Go Go.Deep
set_option linter.unusedSimpArgs false

section
variable {P : Program}
/-- make of a row -/
theorem wp_makeF {o : Oper} {a : Act} {w : World} {K : Act → World → Prop} {Q : Exit → Act → World → Prop} (x y : Operand) (t : TypeId) (d : Nat) (hd : o.dst = some d) (ho : o.op = .makeSlice t x y)
    (e : TypeId) (z : Value) (bytes : Nat) (ht : P.underlying t = some (.slice e)) (hinfo : (P.info? e).map (fun i => (i.zero, i.size, i.bytes)) = some (some z, 1, bytes)) (n : Nat) (kl kc : IntKind)
    (hx : a.eval x = .int kl n) (hy : a.eval y = .int kc n) (hb : bytes * n ≤ 281474976710656) (h63 : n ≤ maxLen)
    (h : ∀ w', w'.ownsRow w.heap.size e 1 (.slice (some ⟨w.heap.size, 0, none⟩) n n) n (madeCells z.cells n).toList → Below w.heap.size w w' → w.heap.size < w'.heap.size → K (a.put (some d) (.slice (some ⟨w.heap.size, 0, none⟩) n n)) w') : Oper.wp P o a w K Q := by
  obtain ⟨i0, hi, hz0, hz1, hz2⟩ := info_parts hinfo
  subst hz2
  obtain ⟨w', hr, hown, hg⟩ := run_make_full (P := P) w w.heap.size t e i0 z 1 ht hi hz0 hz1 kl kc n hb h63 (Nat.le_refl _)
  rw [Nat.mul_one] at hown
  have hlt : w.heap.size < w'.heap.size := by
    rcases hown.2 with ⟨e1, _⟩ | ⟨g, cap, cur, e1, _, hgg, _⟩
    · cases e1
    · cases e1; exact (Array.getElem?_eq_some_iff.1 hgg).1
  have hK := h w' hown ((Below.refl _ _).grown hg (Nat.le_refl _) (fun k hk => by cases hk)) hlt
  rw [← hd] at hK
  refine wp_run (.slice (some ⟨w.heap.size, 0, none⟩) n n) ?_ hK
  unfold execOp
  simp only [ho, hx, hy, Sem.run_bind, hr, Result.andThen_ok, Sem.run_pure]
end
theorem own_form {w : World} {base : Nat} {e : TypeId} {v : Value} {n : Nat} {xs : List Value} (h : w.ownsRow base e 1 v n xs) : ∃ a c, v = .slice a n c := by
  rcases h.2 with ⟨rfl, rfl⟩ | ⟨g, cap, cur, rfl, _⟩
  · exact ⟨_, _, rfl⟩
  · exact ⟨_, _, rfl⟩
theorem pad_set {l : List Int} {x : Int} (h : l.length < 16) : (pad l).set l.length x = pad (l ++ [x]) := by
  unfold pad
  rw [List.set_append_right _ _ (Nat.le_refl _), Nat.sub_self, show 16 - l.length = (16 - (l ++ [x]).length) + 1 by simp; omega, List.replicate_succ, List.set_cons_zero]
  simp
theorem gL_setf {n a c x : Int} {f : List Int} {rows : List (List Int)} {k : Nat} (hk : k = f.length) (h : f.length < 16) : (ints (gL n a f rows c)).set (2 + k) (.int .i64 x) = ints (gL n a (f ++ [x]) rows c) := by
  subst hk
  unfold gL
  rw [ints_set, List.set_append_right _ _ (by simp), show 2 + f.length - ([n, a] : List Int).length = f.length by simp, List.set_append_left _ _ (by rw [pad_len (by omega)]; exact h), pad_set h]
end Go.Proofs.YtodjohdbngbpaaaGreat
