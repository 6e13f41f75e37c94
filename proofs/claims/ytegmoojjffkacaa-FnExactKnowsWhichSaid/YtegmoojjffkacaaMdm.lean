/-
  Contracts of the laws' helpers over models: toModel, szModel, eqModel, markModel, heldModel; what an argument that is a model is. Conditions: bounds on the lengths, which the laws check.
-/
import Derived.Test.YtegmoojjffkacaaMdl
import Derived.Test.YtegmoojjffkacaaArr
import Derived.Deep.Matrix
import Derived.Lib.SmallJoins
import Derived.ChangeSlices
namespace Go.Proofs.Ytegmoojjffkacaa
open Go.RowKit Go.WideShapes
open Go Go.Deep

theorem bcell {W w1 : World} (hb : Below W.heap.size W w1) : (∀ b o, b < W.heap.size → w1.cell? ⟨b, o, none⟩ = W.cell? ⟨b, o, none⟩) ∧ (∀ b o, b < W.heap.size → w1.frozen? ⟨b, o, none⟩ = W.frozen? ⟨b, o, none⟩) :=
  ⟨fun b o h => hb.cell (p := ⟨b, o, none⟩) h, fun b o h => hb.frozen (p := ⟨b, o, none⟩) h⟩
/-- a block of one's own that holds a model's three values -/
def Mcell (w : World) (b : Nat) (fv bv : Value) (n : Int) : Prop :=
  w.cell? ⟨b, 0, none⟩ = some fv ∧ w.cell? ⟨b, 1, none⟩ = some bv ∧ w.cell? ⟨b, 2, none⟩ = some (.int .i64 n) ∧ w.frozen? ⟨b, 0, none⟩ = false ∧ w.frozen? ⟨b, 1, none⟩ = false ∧ w.frozen? ⟨b, 2, none⟩ = false
theorem Mcell.below {w w' : World} {b : Nat} {fv bv : Value} {n : Int} (h : Mcell w b fv bv n) (hb : Below w.heap.size w w') : Mcell w' b fv bv n := by
  obtain ⟨h1, h2, h3, h4, h5, h6⟩ := h
  have hlt := World.block_lt_of_cell? w _ h1
  obtain ⟨hc, hf⟩ := bcell hb
  exact ⟨by rw [hc _ _ hlt, h1], by rw [hc _ _ hlt, h2], by rw [hc _ _ hlt, h3], by rw [hf _ _ hlt, h4], by rw [hf _ _ hlt, h5], by rw [hf _ _ hlt, h6]⟩
theorem Mcell.of_block {w w' : World} {b : Nat} {fv bv : Value} {n : Int} (h : Mcell w b fv bv n) (hb : w'.heap[b]? = w.heap[b]?) : Mcell w' b fv bv n := by
  obtain ⟨h1, h2, h3, h4, h5, h6⟩ := h
  have c : ∀ o, w'.cell? ⟨b, o, none⟩ = w.cell? ⟨b, o, none⟩ := fun o => World.cell?_of_block (a := ⟨b, o, none⟩) hb
  have f : ∀ o, w'.frozen? ⟨b, o, none⟩ = w.frozen? ⟨b, o, none⟩ := fun o => World.frozen?_of_block (a := ⟨b, o, none⟩) hb
  exact ⟨by rw [c, h1], by rw [c, h2], by rw [c, h3], by rw [f, h4], by rw [f, h5], by rw [f, h6]⟩
theorem Mcell.lt {w : World} {b : Nat} {fv bv : Value} {n : Int} (h : Mcell w b fv bv n) : b < w.heap.size := World.block_lt_of_cell? w _ h.1
/-- a store into a block of one's own keeps all that lies elsewhere -/
theorem Keeps.setCell {lo hi : Nat} (w : World) (b o : Nat) (u : Value) (h : b < lo ∨ hi ≤ b) : Keeps lo hi w (w.setCell ⟨b, o, none⟩ u) :=
  ⟨by simp [World.setCell], fun k h1 h2 _ => Below.heap_setCell _ _ _ _ (by show k ≠ b; omega)⟩
theorem Mcell.other {w : World} {b : Nat} {fv bv : Value} {n : Int} (h : Mcell w b fv bv n) {b' : Nat} (hb : b ≠ b') (o : Nat) (u : Value) : Mcell (w.setCell ⟨b', o, none⟩ u) b fv bv n := by
  obtain ⟨h1, h2, h3, h4, h5, h6⟩ := h
  have hne : ∀ o', (⟨b', o, none⟩ : Addr) ≠ ⟨b, o', none⟩ := fun o' e => hb (by cases e; rfl)
  exact ⟨by rw [World.cell?_setCell_other _ _ _ _ (hne _)]; exact h1, by rw [World.cell?_setCell_other _ _ _ _ (hne _)]; exact h2, by rw [World.cell?_setCell_other _ _ _ _ (hne _)]; exact h3, by simpa using h4, by simpa using h5, by simpa using h6⟩
theorem Mcell.new {w : World} {b : Nat} {fv bv : Value} {n : Int} {T : TypeId} (hb : b = w.heap.size) : Mcell (w.alloc (.cells #[fv, bv, .int .i64 n] T)) b fv bv n := by
  subst hb
  have h := heap_alloc_new w (.cells #[fv, bv, .int .i64 n] T)
  refine ⟨?_, ?_, ?_, ?_, ?_, ?_⟩
  · rw [cell_of_row _ _ _ _ _ _ h]; rfl
  · rw [cell_of_row _ _ _ _ _ _ h]; rfl
  · rw [cell_of_row _ _ _ _ _ _ h]; rfl
  · exact frozen_of_row _ _ _ _ _ h
  · exact frozen_of_row _ _ _ _ _ h
  · exact frozen_of_row _ _ _ _ _ h
theorem Mcell.alloc {w : World} {b : Nat} {fv bv : Value} {n : Int} (h : Mcell w b fv bv n) (o : Obj) : Mcell (w.alloc o) b fv bv n := h.below ((Below.refl _ _).alloc (Nat.le_refl _) _)
theorem Mcell.drewN {w : World} {b : Nat} {fv bv : Value} {n : Int} (h : Mcell w b fv bv n) (k : Nat) : Mcell (w.drewN k) b fv bv n := h
theorem Keeps.set {lo hi : Nat} {a w : World} (h : Keeps lo hi a w) {b : Nat} (hb : b < lo ∨ hi ≤ b) (o : Nat) (u : Value) : Keeps lo hi a (w.setCell ⟨b, o, none⟩ u) := h.trans (Keeps.setCell _ _ _ _ hb)
theorem Mcell.set0 {w : World} {b : Nat} {fv bv : Value} {n : Int} (h : Mcell w b fv bv n) (u : Value) : Mcell (w.setCell ⟨b, 0, none⟩ u) b u bv n := by
  obtain ⟨h1, h2, h3, h4, h5, h6⟩ := h
  exact ⟨World.cell?_setCell_same _ _ _ h1, by rw [World.cell?_setCell_other _ _ _ _ (by simp)]; exact h2, by rw [World.cell?_setCell_other _ _ _ _ (by simp)]; exact h3, by simpa using h4, by simpa using h5, by simpa using h6⟩
theorem Mcell.set1 {w : World} {b : Nat} {fv bv : Value} {n : Int} (h : Mcell w b fv bv n) (u : Value) : Mcell (w.setCell ⟨b, 1, none⟩ u) b fv u n := by
  obtain ⟨h1, h2, h3, h4, h5, h6⟩ := h
  exact ⟨by rw [World.cell?_setCell_other _ _ _ _ (by simp)]; exact h1, World.cell?_setCell_same _ _ _ h2, by rw [World.cell?_setCell_other _ _ _ _ (by simp)]; exact h3, by simpa using h4, by simpa using h5, by simpa using h6⟩
theorem Mcell.set2 {w : World} {b : Nat} {fv bv : Value} {n : Int} (h : Mcell w b fv bv n) (u : Int) : Mcell (w.setCell ⟨b, 2, none⟩ (.int .i64 u)) b fv bv u := by
  obtain ⟨h1, h2, h3, h4, h5, h6⟩ := h
  exact ⟨by rw [World.cell?_setCell_other _ _ _ _ (by simp)]; exact h1, by rw [World.cell?_setCell_other _ _ _ _ (by simp)]; exact h2, World.cell?_setCell_same _ _ _ h3, by simpa using h4, by simpa using h5, by simpa using h6⟩

theorem Mcell.range {w : World} {b : Nat} {fv bv : Value} {n : Int} (h : Mcell w b fv bv n) : w.rangeAt b 0 [fv, bv, .int .i64 n] := by
  intro j v hj
  obtain ⟨h1, h2, h3, _⟩ := h
  match j with
  | 0 => simp at hj; subst hj; exact h1
  | 1 => simp at hj; subst hj; exact h2
  | 2 => simp at hj; subst hj; exact h3
  | j + 3 => simp at hj
theorem Try.sizeMd : (Try.prog.info? 27).map (·.size) = some 3 := by kernel_rfl
/-- a model's three values are stored one by one -/
theorem Mcell.write {w : World} {b : Nat} {fv bv : Value} {n : Int} (h : Mcell w b fv bv n) (fv' bv' : Value) (n' : Int) : Mcell (((w.setCell ⟨b, 0, none⟩ fv').setCell ⟨b, 1, none⟩ bv').setCell ⟨b, 2, none⟩ (.int .i64 n')) b fv' bv' n' :=
  ((h.set0 fv').set1 bv').set2 n'

set_option maxRecDepth 100000 in
set_option maxHeartbeats 4000000 in
theorem toModel_any (lo hi : Nat) (v : Value) (m : Md) (w : World) (hr : Mv lo hi w v m) (hhi : hi ≤ w.heap.size) (hn : msize m + m.blocks.length ≤ 1048576) :
    Calls Try.prog 17 #[v] w (MdAns w m) := by
  obtain ⟨fv, bv, rfl, hf, hb⟩ := hr
  obtain ⟨fa, fc, e1⟩ := hf.form
  obtain ⟨ba, bc, e2, hxx⟩ := hb.parts
  clear hxx
  subst e1
  subst e2
  unfold msize at hn
  have KF := Lib.hid (fun W (h : Below w.heap.size w W) => toIntS_any lo hi _ m.facts W (hf.keeps (Keeps.of_all h)) (by omega))
  have KB := Lib.hid (fun W (h : Below w.heap.size w W) => toIntSS_any lo hi _ m.blocks W (hb.keeps (Keeps.of_all h)) (Nat.le_trans hhi h.size) (by omega) (by omega))
  clear hf hb
  go_enter Try.func17, Try.ntmps17
  go_wp2_with fail
  refine (KF.out _ (by go_grown)).mono ?_
  rintro e w2 ⟨v2, rfl, hi2, hb2⟩
  obtain ⟨a2, c2, hf2⟩ := hi2.form
  subst hf2
  have X2 := Lib.hid (Mcell.below (((Mcell.new rfl).alloc _).alloc _) hb2)
  have Y2 := Lib.hid (Mcell.below (b := w.heap.size + 1) ((Mcell.new (by simp)).alloc _) hb2)
  have Z2 := Lib.hid (Mcell.below (b := w.heap.size + 1 + 1) (Mcell.new (by simp)) hb2)
  have HI2 := Lib.hid (hi2.wide (lo' := w.heap.size + 1 + 1 + 1) (by simp) (Nat.le_refl _))
  have HB2 : Hid (Below w.heap.size w w2) := Lib.hid (Below.trans (by go_grown) (hb2.mono (by simp; omega)))
  clear hi2 hb2
  obtain ⟨x0, x1, x2, _⟩ := X2.out
  obtain ⟨z0, _, _, z3, _⟩ := Z2.out
  have hz2 := Z2.out.lt
  go_wp2_with fail
  have B3 : Below w.heap.size w (w2.setCell ⟨w.heap.size + 1 + 1, 0, none⟩ (.slice a2 m.facts.length c2)) := HB2.out.setCell (by show _ ≤ w.heap.size + 1 + 1; omega) _
  refine (KB.out _ B3).mono ?_
  rintro e w4 ⟨v4, vs, rfl, ho4, hb4⟩
  obtain ⟨a4, c4, hf4⟩ := ho4.1.form
  rw [ho4.2.1.1] at hf4
  subst hf4
  have X4 := Lib.hid (Mcell.below (X2.out.other (by omega) _ _) hb4)
  have Y4 := Lib.hid (Mcell.below (Y2.out.other (by omega) _ _) hb4)
  have Z4 := Lib.hid (Mcell.below (Z2.out.set0 (.slice a2 m.facts.length c2)) hb4)
  have HO4 := Lib.hid (ho4.wide (lo' := w2.heap.size) (by simp [World.setCell]) (Nat.le_refl _))
  have HI4 := Lib.hid ((HI2.out.keeps (Keeps.setCell _ _ _ _ (.inl (by omega)))).keeps (Keeps.of_all hb4))
  have hs4 : w2.heap.size ≤ w4.heap.size := by have := hb4.size; simpa [World.setCell] using this
  have HB4 := Lib.hid (B3.trans (hb4.mono B3.size))
  clear ho4 hb4 x0 x1 x2 z0 z3 X2 Y2 Z2 B3 KB KF
  obtain ⟨x0, x1, x2, _⟩ := X4.out
  obtain ⟨z0, z1, z2, z3, z4, z5⟩ := Z4.out
  obtain ⟨y0, y1, y2, y3, y4, y5⟩ := Y4.out
  go_wp2
  have Y5 := ((Y4.out.other (b' := w.heap.size + 1 + 1) (by omega) 1 (.slice a4 m.blocks.length c4)).other (b' := w.heap.size + 1 + 1) (by omega) 2 (.int .i64 m.actual)).write (.slice a2 m.facts.length c2) (.slice a4 m.blocks.length c4) m.actual
  refine bodyPost_ret (results_mid1 Try.results17 _ _ _ _ _ rfl Y5.range Try.underlying27 rfl Try.sizeMd) rfl ?_
  refine ⟨_, rfl, ⟨_, _, vs, rfl, ?_, ?_, ?_⟩, ((((HB4.out.setCell (by show _ ≤ w.heap.size + 1 + 1; omega) _).setCell (by show _ ≤ w.heap.size + 1 + 1; omega) _).setCell (by show _ ≤ w.heap.size + 1; omega) _).setCell (by show _ ≤ w.heap.size + 1; omega) _).setCell (by show _ ≤ w.heap.size + 1; omega) _⟩
  · exact (HI4.out.keeps (((((Keeps.setCell _ _ _ _ (by omega)).set (by omega) _ _).set (by omega) _ _).set (by omega) _ _).set (by omega) _ _)).wide (by omega) (by simp [World.setCell]; omega)
  · exact (HO4.out.keeps (((((Keeps.setCell _ _ _ _ (by omega)).set (by omega) _ _).set (by omega) _ _).set (by omega) _ _).set (by omega) _ _)).wide (by omega) (by simp [World.setCell])
  · intro u hu
    refine apart_lt (B := w2.heap.size) HI4.out.2 (fun q hq => ?_)
    rcases List.mem_cons.1 hu with rfl | hu
    · exact (HO4.out.1.1.lt q hq).1
    · exact (HO4.out.2.1.blk hu q hq).1

set_option maxHeartbeats 2000000 in
theorem szModel_any (lo hi : Nat) (v : Value) (m : Md) (w : World) (h : Mv lo hi w v m) :
    Calls Try.prog 15 #[v, .int .i64 1048576] w fun e w' => e = .returned (.int .i64 (budget 1048576 (msize m + m.blocks.length))) ∧ Below w.heap.size w w' := by
  obtain ⟨fv, bv, rfl, hf, hb⟩ := h
  obtain ⟨fa, fc, e1⟩ := hf.form
  obtain ⟨ba, bc, e2, hxx⟩ := hb.parts
  clear hxx
  subst e1
  subst e2
  rw [show msize m + m.blocks.length = m.facts.length + (m.blocks.length + tot m.blocks) by unfold msize; omega, budget_add]
  have KF := Lib.hid (fun W (h : Below w.heap.size w W) => szIntS_any lo hi _ m.facts 1048576 W (hf.keeps (Keeps.of_all h)) (by omega) (by omega))
  by_cases h1 : (1048576 : Int) - (m.facts.length : Int) < 0
  · rw [if_pos h1]
    have hbud : budget 1048576 m.facts.length = -1 := by unfold budget; rw [if_pos h1]
    rw [hbud] at KF
    clear hbud hf hb
    go_enter Try.func15, Try.ntmps15
    go_wp2_with fail
    refine (KF.out _ (by go_grown)).mono ?_
    rintro e w' ⟨rfl, rfl⟩
    go_wp2
    go_ret
    exact ⟨rfl, by go_grown⟩
  · rw [if_neg h1]
    have hbud : budget 1048576 m.facts.length = 1048576 - m.facts.length := by unfold budget; rw [if_neg h1]
    rw [hbud] at KF
    have KB := Lib.hid (fun W (h : Below w.heap.size w W) => szIntSS_any lo hi _ m.blocks (1048576 - m.facts.length) W (hb.keeps (Keeps.of_all h)) (by omega) (by omega))
    clear hbud hf hb
    have hcase : budget (1048576 - m.facts.length) (m.blocks.length + tot m.blocks) = -1 ∨ 0 ≤ budget (1048576 - m.facts.length) (m.blocks.length + tot m.blocks) := by
      unfold budget
      split
      · exact .inl rfl
      · exact .inr (by omega)
    generalize budget (1048576 - m.facts.length) (m.blocks.length + tot m.blocks) = q at *
    rcases hcase with rfl | hq
    · go_enter Try.func15, Try.ntmps15
      go_wp2_with fail
      refine (KF.out _ (by go_grown)).mono ?_
      rintro e w' ⟨rfl, rfl⟩
      go_wp2_with fail
      refine (KB.out _ (by go_grown)).mono ?_
      rintro e w' ⟨rfl, rfl⟩
      go_wp2
      go_ret
      exact ⟨rfl, by go_grown⟩
    · go_enter Try.func15, Try.ntmps15
      go_wp2_with fail
      refine (KF.out _ (by go_grown)).mono ?_
      rintro e w' ⟨rfl, rfl⟩
      go_wp2_with fail
      refine (KB.out _ (by go_grown)).mono ?_
      rintro e w' ⟨rfl, rfl⟩
      go_wp2
      go_ret
      exact ⟨rfl, by go_grown⟩

set_option maxHeartbeats 2000000 in
theorem eqModel_same (lo hi lo' hi' : Nat) (u v : Value) (m : Md) (w : World) (hu : Mv lo hi w u m) (hv : Mv lo' hi' w v m) :
    Calls Try.prog 19 #[u, v] w fun e w' => e = .returned (.bool true) ∧ Below w.heap.size w w' := by
  obtain ⟨fu, bu, rfl, hf, hb⟩ := hu
  obtain ⟨fv, bv, rfl, hf', hb'⟩ := hv
  obtain ⟨fa, fc, e1⟩ := hf.form
  obtain ⟨ba, bc, e2, hxx⟩ := hb.parts
  clear hxx
  subst e1
  subst e2
  obtain ⟨fa', fc', e1⟩ := hf'.form
  obtain ⟨ba', bc', e2, hxx⟩ := hb'.parts
  clear hxx
  subst e1
  subst e2
  have KF := Lib.hid (fun W (h : Below w.heap.size w W) => eqIntS_same lo hi lo' hi' _ _ m.facts W (hf.keeps (Keeps.of_all h)) (hf'.keeps (Keeps.of_all h)))
  have KB := Lib.hid (fun W (h : Below w.heap.size w W) => eqIntSS_same lo hi lo' hi' _ _ m.blocks W (hb.keeps (Keeps.of_all h)) (hb'.keeps (Keeps.of_all h)))
  clear hf hb hf' hb'
  go_enter Try.func19, Try.ntmps19
  go_wp2_with fail
  refine (KF.out _ (by go_grown)).mono ?_
  rintro e w1 ⟨rfl, n, rfl⟩
  go_wp2_with fail
  refine (KB.out _ (below_drewN' (by go_grown) n)).mono ?_
  rintro e w2 ⟨rfl, hb2⟩
  have X2 := Lib.hid (Mcell.below (b := w.heap.size) (((Mcell.new rfl).alloc _).drewN n) hb2)
  have Y2 := Lib.hid (Mcell.below (b := w.heap.size + 1) ((Mcell.new (by simp)).drewN n) hb2)
  have B2 : Hid (Below w.heap.size w w2) := Lib.hid (Below.trans (below_drewN' (by go_grown) n) (hb2.mono (by simp; omega)))
  clear hb2
  obtain ⟨_, _, x2, _⟩ := X2.out
  obtain ⟨_, _, y2, _⟩ := Y2.out
  go_wp2
  go_ret
  exact ⟨rfl, B2.out⟩

set_option maxHeartbeats 2000000 in
theorem markModel_own (lo hi : Nat) (v : Value) (m : Md) (k : Nat) (w : World) (hs : msize m + m.blocks.length ≤ 1048576) (hk : k ≤ 2097152) (hhi : hi ≤ w.heap.size) (ho : Mo lo hi w v m) :
    Calls Try.prog 20 #[v, .int .i64 k] w fun e w' => e = .returned (.int .i64 (k + msize m : Nat)) ∧ Mo lo hi w' v (mmod k m) ∧ Touch lo hi w w' := by
  obtain ⟨fv, bv, vs, rfl, hf, hb, hap⟩ := ho
  obtain ⟨fa, fc, e1⟩ := hf.form
  obtain ⟨ba, bc, e2⟩ := hb.1.form
  rw [hb.2.1.1] at e2
  subst e1
  subst e2
  unfold msize at *
  have KF := Lib.hid (fun W (h : Below w.heap.size w W) => markIntS_row lo hi _ m.facts k W (by omega) (by omega) (hf.keeps (Keeps.of_all h)))
  have KB := Lib.hid (fun W (h : Ioo lo hi W (.slice ba m.blocks.length bc) vs m.blocks) => markIntSS_own lo hi _ vs m.blocks (k + m.facts.length) W (by omega) (by omega) (by omega) h)
  have HB := Lib.hid hb
  have HA := Lib.hid hap
  have HK : Hid (∀ q, (Value.slice fa m.facts.length fc).ownBlock = some q → lo ≤ q ∧ q < hi) := Lib.hid fun q hq => ⟨(hf.1.lt q hq).1, hf.2 q hq⟩
  clear hf hb hap
  go_enter Try.func20, Try.ntmps20
  go_wp2_with fail
  refine (KF.out _ (by go_grown)).mono ?_
  rintro e w1 ⟨rfl, hi1, hg1⟩
  have X1 : Hid (Mcell w1 w.heap.size (.slice fa m.facts.length fc) (.slice ba m.blocks.length bc) m.actual) := Lib.hid (by
    refine (Mcell.new (w := w) (T := 27) rfl).of_block (hg1.block _ (by simp) (fun e => ?_))
    have := HK.out _ e.symm
    omega)
  have T1 := Lib.hid (Touch.trans (Touch.of_all (lo := lo) (hi := hi) (w := w) (by go_grown)) (Touch.of_grown hg1 HK.out))
  have HB1 : Hid (Ioo lo hi w1 (.slice ba m.blocks.length bc) vs m.blocks) := Lib.hid (by
    have h0 := HB.out.keeps (Keeps.of_all (w' := w.alloc (.cells #[.slice fa m.facts.length fc, .slice ba m.blocks.length bc, .int .i64 m.actual] 27)) (by go_grown))
    refine ⟨h0.1.keptBy hg1 (apart_symm (HA.out _ (List.mem_cons_self ..))), ⟨h0.2.1.1, fun j hj => Ro.keptBy (h0.2.1.2 j hj) hg1 (apart_symm (HA.out _ (List.mem_cons_of_mem _ ?_)))⟩, h0.2.2⟩
    rw [List.getD_eq_getElem?_getD, List.getElem?_eq_getElem (by rw [h0.2.1.1]; exact hj)]
    exact List.getElem_mem _)
  have HI1 := Lib.hid hi1
  clear hi1 hg1
  obtain ⟨_, x1, _⟩ := X1.out
  go_wp2_with fail
  refine (KB.out _ HB1.out).mono ?_
  rintro e w2 ⟨rfl, ho2, ht2, hy2⟩
  have HO2 := Lib.hid ho2
  have HT2 := Lib.hid ht2
  have HI2 := Lib.hid (hy2.io HI1.out fun u hu => HA.out u (List.mem_cons_of_mem _ hu))
  clear ho2 ht2 hy2 x1
  go_wp2
  go_ret
  exact ⟨ret_int (by go_num), ⟨_, _, vs, rfl, HI2.out, HO2.out, HA.out⟩, T1.out.trans HT2.out⟩

theorem mmod_facts (k : Nat) (m : Md) : (mmod k m).facts = mrow k m.facts.length := rfl
theorem mmod_blocks (k : Nat) (m : Md) : (mmod k m).blocks = mrows (k + m.facts.length) m.blocks := rfl
set_option maxHeartbeats 2000000 in
theorem heldModel_any (lo hi : Nat) (v : Value) (m : Md) (k : Nat) (w : World) (hs : msize m + m.blocks.length ≤ 1048576) (hk : k ≤ 2097152) (h : Mv lo hi w v (mmod k m)) :
    Calls Try.prog 21 #[v, .int .i64 k] w fun e w' => e = .returned (.int .i64 (k + msize m : Nat)) ∧ Below w.heap.size w w' := by
  obtain ⟨fv, bv, rfl, hf, hb⟩ := h
  rw [mmod_facts] at hf
  rw [mmod_blocks] at hb
  obtain ⟨fa, fc, e1⟩ := hf.form
  obtain ⟨ba, bc, e2, hxx⟩ := hb.parts
  clear hxx
  rw [mrow_len] at e1
  rw [mrows_len] at e2
  subst e1
  subst e2
  unfold msize at *
  have KF := Lib.hid (fun W (h : Below w.heap.size w W) => heldIntS_any lo hi _ m.facts.length k W (by omega) (by omega) (hf.keeps (Keeps.of_all h)))
  have KB := Lib.hid (fun W (h : Below w.heap.size w W) => heldIntSS_any lo hi _ m.blocks (k + m.facts.length) W (by omega) (by omega) (by omega) (hb.keeps (Keeps.of_all h)))
  clear hf hb
  go_enter Try.func21, Try.ntmps21
  go_wp2_with fail
  refine (KF.out _ (by go_grown)).mono ?_
  rintro e w1 ⟨rfl, rfl⟩
  go_wp2_with fail
  refine (KB.out _ (by go_grown)).mono ?_
  rintro e w2 ⟨rfl, rfl⟩
  go_wp2
  go_ret
  exact ⟨ret_int (by go_num), by go_grown⟩

/-- a row that came in reads as its numbers -/
theorem Iv.of_cells {w : World} {a : Option Addr} {L C : Nat} {Z : List Int} (hL : L ≤ C) (hC : C ≤ maxLen) (hZ : Z.length = C) (h0 : a = none → C = 0) (hc : ∀ a', a = some a' → ∀ c, c < C → w.cell? (a'.add c) = some (.int .i64 (Z.getD c 0))) :
    Iv 0 w.heap.size w (.slice a L C) (Z.take L) := by
  have hl : (ints (Z.take L)).length = L := by rw [ints_len, List.length_take]; omega
  refine ⟨a, C, by rw [hl], by rw [hl]; exact hL, hC, ?_⟩
  rcases Nat.eq_zero_or_pos L with h | h
  · exact .inl (by subst h; rfl)
  · cases a with
    | none => have := h0 rfl; omega
    | some a' =>
      have c0 := hc a' rfl 0 (by omega)
      obtain ⟨b, o, s⟩ := a'
      have hs : s = none := by simpa [Addr.add] using World.cell?_spot c0
      subst hs
      refine .inr ⟨b, o, rfl, Nat.zero_le _, World.block_lt_of_cell? w _ (by rw [addr_add0] at c0; exact c0), World.block_lt_of_cell? w _ (by rw [addr_add0] at c0; exact c0), fun j x hx => ?_⟩
      have hj : j < L := by
        rcases Nat.lt_or_ge j L with h' | h'
        · exact h'
        · rw [List.getElem?_eq_none (by rw [hl]; exact h')] at hx; cases hx
      have hcj := hc _ rfl j (by omega)
      rw [addr_add0] at hcj
      rw [hcj, ← hx, ints_at (by rw [List.length_take]; omega), List.getD_eq_getElem?_getD, List.getD_eq_getElem?_getD, List.getElem?_take_of_lt hj]
theorem open_ints {H : Type} {enc : TypeId × Value → H} {W : World} {n : Nat} {v : Value} {y : DataW H × List MemPlace}
    (h : DataW.trod enc Try.prog W 0 (fun _ => true) true n 22 [v] = some y) : ∃ l, Iv 0 W.heap.size W v l := by
  rcases Go.ChangeShapes.open_ints Try.underlying22 Try.underlying3 (by kernel_rfl) h with ⟨hcs, _⟩ | ⟨a, len, cap, zs, hcs, _, hl, hm, hz, _, hcell, _⟩
  · simp only [List.cons.injEq, and_true] at hcs
    subst hcs
    exact ⟨[], Rv.nil _ _ _⟩
  · simp only [List.cons.injEq, and_true] at hcs
    subst hcs
    simp only [if_true] at hz
    exact ⟨_, Iv.of_cells hl hm hz (fun e => by cases e) (fun a' e c hc => by cases e; exact hcell c (by omega))⟩
theorem open_rows {H : Type} {enc : TypeId × Value → H} {W : World} {n : Nat} {v : Value} {y : DataW H × List MemPlace}
    (h : DataW.trod enc Try.prog W 0 (fun _ => true) true n 23 [v] = some y) : ∃ ll, Ivv 0 W.heap.size W v ll := by
  rcases Go.Deep.open_int_rows Try.underlying23 Try.underlying22 Try.underlying3 (by kernel_rfl) (by kernel_rfl) h with ⟨hcs, _⟩ | ⟨a, len, cap, A, L, C, Z, hcs, _, hl, hm, _, hr⟩
  · simp only [List.cons.injEq, and_true] at hcs
    subst hcs
    exact ⟨[], [], rfl, Rv.nil _ _ _, fun j hj => by simp at hj⟩
  · simp only [List.cons.injEq, and_true] at hcs
    subst hcs
    have hl1 : ((List.range len).map fun r => (Z r).take (L r)).length = len := by simp
    have hl2 : ((List.range len).map fun r => Value.slice (A r) (L r) (C r)).length = len := by simp
    refine ⟨(List.range len).map fun r => (Z r).take (L r), (List.range len).map fun r => Value.slice (A r) (L r) (C r), by rw [hl1, hl2], ⟨some a, cap, by rw [hl2], by rw [hl2]; exact hl, hm, ?_⟩, fun j hj => ?_⟩
    · rcases Nat.eq_zero_or_pos len with h0 | h0
      · exact .inl (by subst h0; rfl)
      · have c0 := (hr 0 (by omega)).1
        obtain ⟨b, o, s⟩ := a
        have hs : s = none := by simpa [Addr.add] using World.cell?_spot c0
        subst hs
        refine .inr ⟨b, o, rfl, Nat.zero_le _, World.block_lt_of_cell? W _ (by rw [addr_add0] at c0; exact c0), World.block_lt_of_cell? W _ (by rw [addr_add0] at c0; exact c0), fun j x hx => ?_⟩
        have hj : j < len := by
          rcases Nat.lt_or_ge j len with h' | h'
          · exact h'
          · rw [List.getElem?_eq_none (by rw [hl2]; exact h')] at hx; cases hx
        rw [List.getElem?_map, List.getElem?_range hj] at hx
        simp only [Option.map_some, Option.some.injEq] at hx
        have := (hr j (by omega)).1
        rw [addr_add0] at this
        rw [this, hx]
    · rw [hl1] at hj
      obtain ⟨_, r1, r2, r3, _, r5, r6⟩ := hr j (by omega)
      have e1 : ((List.range len).map fun r => Value.slice (A r) (L r) (C r)).getD j (.bool false) = .slice (A j) (L j) (C j) := by
        rw [List.getD_eq_getElem?_getD, List.getElem?_map, List.getElem?_range hj]; rfl
      have e2 : ((List.range len).map fun r => (Z r).take (L r)).getD j [] = (Z j).take (L j) := by
        rw [List.getD_eq_getElem?_getD, List.getElem?_map, List.getElem?_range hj]; rfl
      rw [e1, e2]
      exact Iv.of_cells r1 r2 r3 r5 (fun a' e c hc => (r6 a' e).2 c hc)

set_option maxRecDepth 100000 in
theorem open_Slint {H : Type} {enc : TypeId × Value → H} (W : World) (base : Nat) (v : Value) (d : DataW H) (p : List MemPlace) (_hv : Value.okWide Try.prog W .any base 22 v)
    (h : DataW.Trod enc Try.prog W 0 (fun _ => true) true 22 v d p) : ∃ l, Iv 0 W.heap.size W v l := by
  obtain ⟨a0, len0, cap0, rfl⟩ := okWide_slice Try.underlying22 _hv
  obtain ⟨fuel, hf⟩ := h
  exact open_ints hf
set_option maxRecDepth 100000 in
theorem open_Model {H : Type} {enc : TypeId × Value → H} (W : World) (base : Nat) (v : Value) (d : DataW H) (p : List MemPlace) (_hv : Value.okWide Try.prog W .any base 25 v)
    (h : DataW.Trod enc Try.prog W 0 (fun _ => true) true 25 v d p) : ∃ m, Mv 0 W.heap.size W v m := by
  obtain ⟨c0, c1, c2, y0, y1, y2, n, rfl, rfl, rfl, h0, h1, h2⟩ := Go.Joins.open_agg3 Try.underlying25 (by kernel_rfl) (by kernel_rfl) _hv h
  obtain ⟨l, hl⟩ := open_ints h0
  obtain ⟨ll, hll⟩ := open_rows h1
  obtain ⟨q, hq, _⟩ := DataW.trod_int Try.underlying3 h2
  simp only [List.cons.injEq, and_true] at hq
  subst hq
  exact ⟨⟨l, ll, q⟩, c0, c1, rfl, hl, hll⟩
end Go.Proofs.Ytegmoojjffkacaa
