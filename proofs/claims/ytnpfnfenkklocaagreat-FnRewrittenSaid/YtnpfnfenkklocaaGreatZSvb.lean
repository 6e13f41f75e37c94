/-
  Several texts in one: Svb Svc Tcl. Conditions: as each theorem says.
-/
import Derived.Test.YtnpfnfenkklocaaGreatSva
import Derived.Test.YtnpfnfenkklocaaGreatTru
import Derived.Test.YtnpfnfenkklocaaGreatZMok
import Derived.Test.YtnpfnfenkklocaaGreatZSem
/-
  Contract of spec.l04Eval for any node of a valid formula; and both sides' truth is the same list. Conditions: the model and the formula are valid, the formula's agents are the model's, there is a bool for each world.
-/
namespace Go.Proofs.YtnpfnfenkklocaaGreat
open Go.RowKit Go.WideShapes
open Go Go.Deep
set_option linter.unusedSimpArgs false

theorem blk_W {m : Md} {k : Nat} {al tr : List Bool} {A : Nat → Bool} {i : Nat} {want : Bool} (h : ∀ v, v < m.facts.length → tr.getD v false = A v) :
    blkL m.facts.length (m.blocks.getD k []) al tr i want = blockW m k (fun j => al.getD j false) A i want :=
  allW_cong (p := blkAt (m.blocks.getD k []) al tr i want) fun v hv => by unfold blkAt sameW; rw [h v hv]
theorem one_eval {m : Md} {op n xa xb : Int} {A B : Tm} {al : List Bool} {i : Nat} (hop : op = 3 ∨ op = 5 ∨ op = 6 ∨ op = 7 ∨ op = 8) (hi : i < m.facts.length) :
    evS (mkTm op n A B) m (fun j => al.getD j false) i = (al.getD i false && oneB m ⟨op, n, xa, xb⟩ al (evL A m fun j => al.getD j false) i) := by
  have hA : ∀ v, v < m.facts.length → (evL A m fun j => al.getD j false).getD v false = evS A m (fun j => al.getD j false) v := fun v hv => evL_at hv
  have hb : ∀ k want, blkL m.facts.length (m.blocks.getD k []) al (evL A m fun j => al.getD j false) i want = blockW m k (fun j => al.getD j false) (evS A m fun j => al.getD j false) i want := fun k want => blk_W hA
  unfold oneB
  simp only
  rcases hop with rfl | rfl | rfl | rfl | rfl
  · rw [show mkTm 3 n A B = .deny A from rfl, if_pos rfl, hA i hi]; rfl
  · rw [show mkTm 5 n A B = .know 5 n A from rfl, if_neg (by decide), if_pos rfl, hb]; rfl
  · rw [show mkTm 6 n A B = .know 6 n A from rfl, if_neg (by decide), if_neg (by decide), if_pos rfl, hb, hA i hi]; rfl
  · rw [show mkTm 7 n A B = .know 7 n A from rfl, if_neg (by decide), if_neg (by decide), if_neg (by decide), if_pos rfl]
    simp only [hb]; rfl
  · rw [show mkTm 8 n A B = .know 8 n A from rfl, if_neg (by decide), if_neg (by decide), if_neg (by decide), if_neg (by decide)]
    have : (List.range m.facts.length).all (farAt m al (evL A m fun j => al.getD j false) i) = allW m fun v => !reachA m (fun j => al.getD j false) i v || evS A m (fun j => al.getD j false) v := by
      show allW m _ = _
      exact allW_cong fun v hv => by unfold farAt; rw [hA v hv]
    rw [this]; rfl

theorem agents_at {xs : List Nd} {A : Nat} (h : agentsOk xs A = true) {j : Nat} (hj : j < xs.length) : (xs.getD j default).op = 5 ∨ (xs.getD j default).op = 6 → 0 ≤ (xs.getD j default).n ∧ (xs.getD j default).n < A := by
  intro ho
  unfold agentsOk at h
  rw [List.all_eq_true] at h
  have h1 := h j (List.mem_range.2 hj)
  unfold agentOk at h1
  rw [decide_eq_true ho] at h1
  simpa [inB] using h1

theorem tag_mk {op n : Int} {a b : Tm} {A : Nat} (h : op = 5 ∨ op = 6 → n < A) (ha : tag a A) (hb : tag b A) : tag (mkTm op n a b) A := by
  unfold mkTm
  split
  · trivial
  · split
    · exact ha
    · split
      · exact ⟨ha, hb⟩
      · exact ⟨h, ha⟩
theorem tag_tm {xs : List Nd} {A : Nat} (h : ∀ j, (xs.getD j default).op = 5 ∨ (xs.getD j default).op = 6 → (xs.getD j default).n < A) : ∀ f i, tag (tmF xs f i) A
  | 0, _ => trivial
  | f + 1, i => tag_mk (h i) (tag_tm h f _) (tag_tm h f _)
theorem tag_at {xs : List Nd} {A : Nat} (h : agentsOk xs A = true) (i : Nat) : tag (tmAt xs i) A := by
  refine tag_tm (fun j => ?_) _ _
  rcases Nat.lt_or_ge j xs.length with hj | hj
  · exact fun ho => (agents_at h hj ho).2
  · rw [List.getD_eq_getElem?_getD, List.getElem?_eq_none hj]; intro ho; rcases ho with ho | ho <;> cases ho
/-- the truth of a formula in the worlds, as a list -/
def truthR (m : Md) (xs : List Nd) : List Bool := (List.range m.facts.length).map (evP m xs)
theorem truthR_len (m : Md) (xs : List Nd) : (truthR m xs).length = m.facts.length := by simp [truthR]
theorem truthR_at {m : Md} {xs : List Nd} {i : Nat} (h : i < m.facts.length) : (truthR m xs).getD i false = evP m xs i := getD_rangeMap' h
theorem evOk_parts {m : Md} {xs : List Nd} (h : evOk m xs = true) : mdOk m = true ∧ formOk xs = true ∧ agentsOk xs m.blocks.length = true := by
  unfold evOk at h; rw [Bool.and_eq_true, Bool.and_eq_true] at h; exact ⟨h.1.1, h.1.2, h.2⟩
theorem ev_truth {m : Md} {xs : List Nd} (h : evOk m xs = true) : evL (tmAt xs (xs.length - 1)) m (fun j => (List.replicate m.facts.length true).getD j false) = truthR m xs := by
  obtain ⟨hm, hf, ha⟩ := evOk_parts h
  obtain ⟨q1, q2, hnodes, -⟩ := formOk_parts hf
  have hp2 := (mdOk_parts hm).2.1
  unfold evL truthR
  refine List.map_congr_left fun i hi => ?_
  rw [List.mem_range] at hi
  have hg : (List.range m.facts.length).getD i 0 = i := by rw [List.getD_eq_getElem?_getD, List.getElem?_range hi]; rfl
  have e := ev_rel (tmAt xs (xs.length - 1)) m m (List.range m.facts.length) (tmAt_wf hnodes _ _ (Nat.le_refl _) (by omega)) (tag_at ha _) (Rel.self hp2) i (by simpa using hi)
  rw [hg] at e
  unfold evP
  rw [e]
  refine evS_cong _ m _ _ (fun v hv => ?_) i hi
  unfold memN
  rw [List.getD_eq_getElem?_getD, List.getElem?_replicate, if_pos hv, decide_eq_true (List.mem_range.2 hv)]; rfl
end Go.Proofs.YtnpfnfenkklocaaGreat

/-
  Contracts of spec.l04Ok and spec.l04Truth. Condition of the latter: the formula can be evaluated in the model.
-/
namespace Go.Proofs.YtnpfnfenkklocaaGreat
open Go.RowKit Go.WideShapes
open Go Go.Deep
set_option linter.unusedSimpArgs false

theorem agentOk_yes {A : Nat} {x : Nd} (h0 : 0 ≤ x.n) (h : x.n < A) : agentOk A x = true := by
  unfold agentOk inB; rw [decide_eq_true (p := 0 ≤ x.n ∧ x.n < (A : Int)) ⟨h0, h⟩]; simp
theorem agentOk_no {A : Nat} {x : Nd} (ho : x.op = 5 ∨ x.op = 6) (h : (A : Int) ≤ x.n) : agentOk A x = false := by
  unfold agentOk inB; rw [decide_eq_true ho, decide_eq_false (p := 0 ≤ x.n ∧ x.n < (A : Int)) (by omega)]; simp
theorem agentOk_free {A : Nat} {x : Nd} (ho : ¬ (x.op = 5 ∨ x.op = 6)) : agentOk A x = true := by
  unfold agentOk; rw [decide_eq_false ho]; rfl

end Go.Proofs.YtnpfnfenkklocaaGreat

/-
  What the laws of chapter 5 answer, in mathematics; slices.Clone of bools; truthIn in a form for its callers. No condition but the readings.
-/
namespace Go.Proofs.YtnpfnfenkklocaaGreat
open Go.RowKit Go.WideShapes
open Go Go.Deep
set_option linter.unusedSimpArgs false
section
variable {P : Program}
/-- guarded: a struct or an array is made of its parts -/
theorem wpList_buildG {ops : Array Oper} {rest : List Oper} {o : Oper} {a : Act} {w : World} {Q : Exit → Act → World → Prop} {g : Nat × Bool} (hg : o.guard = some g) (hw : Region.wanted o (yielded ops a.tmps) = true) (T : TypeId) (parts : Array (Nat × Operand)) (ho : o.op = .build T parts)
    (vs : Array (Nat × Value)) (hv : (parts.map fun (i, x) => (i, a.eval x)) = vs) (cs : List Value) (hr : (Instr.build T vs).run P w = .ok (.agg cs.toArray) w)
    (h : wpList P ops Q rest (a.put o.dst (.agg cs.toArray)) w) : wpList P ops Q (o :: rest) a w := by
  refine wpList_opG hg hw (.agg cs.toArray) ?_ h
  unfold execOp
  simp [ho, hv, hr]
/-- guarded: two structs or arrays are compared -/
theorem wpList_eqAG {ops : Array Oper} {rest : List Oper} {o : Oper} {a : Act} {w : World} {Q : Exit → Act → World → Prop} {g : Nat × Bool} (hgu : o.guard = some g) (hw : Region.wanted o (yielded ops a.tmps) = true) (T : TypeId) (x y : Operand) (R : TypeId) (ho : o.op = .binOp .eql T x y R)
    (xs ys : Array Value) (hx : a.eval x = .agg xs) (hy : a.eval y = .agg ys) (hg : P.eqGuardType P.depth T = false) (b : Bool) (hr : (Op.equalIn 10000 T (.agg xs) (.agg ys)).run P w = .ok b w)
    (h : wpList P ops Q rest (a.put o.dst (.bool b)) w) : wpList P ops Q (o :: rest) a w := by
  refine wpList_opG hgu hw (.bool b) ?_ h
  unfold execOp
  simp only [ho, hx, hy, Sem.run_bind, run_eqGuard_agg w _ _ _ _ _ _ hg, run_eql_struct, hr, Result.andThen_ok, Sem.run_pure]
end

/-- an answer: a new row of bools, and a bool -/
def BoolsAns2 (w : World) (l : List Bool) (ok : Bool) (e : Ending) (w' : World) : Prop := ∃ v, e = .returned (.tuple #[v, .bool ok]) ∧ Bo w.heap.size w'.heap.size w' v l ∧ Below w.heap.size w w'
def truthA (m : Md) (xs : List Nd) : List Bool := if evOk m xs then truthR m xs else []
def holdsR (m : Md) (xs : List Nd) : Bool := evOk m xs && evP m xs m.actual.toNat
def everyR (m : Md) (xs : List Nd) : Bool := evOk m xs && eqB (cut m.facts.length fun i => !evP m xs i) (fun _ => false)
def whereR (m : Md) (xs : List Nd) : List Int := if evOk m xs then nums (lst (evP m xs) 16) else []
def equivR (m : Md) (xs ys : List Nd) : Bool := evOk m xs && evOk m ys && eqB (evP m xs) (evP m ys)
theorem ok_len {m : Md} {xs : List Nd} (h : evOk m xs = true) : 1 ≤ m.facts.length ∧ m.facts.length ≤ 16 := ⟨(mdOk_parts (evOk_parts h).1).1, (mdOk_parts (evOk_parts h).1).2.1⟩
theorem truthA_len (m : Md) (xs : List Nd) : (truthA m xs).length ≤ 16 := by
  unfold truthA
  split
  · rename_i h; rw [truthR_len]; exact (ok_len h).2
  · simp
theorem whereR_len (m : Md) (xs : List Nd) : (whereR m xs).length ≤ 16 := by
  unfold whereR
  split
  · rw [nums_len]; exact lst_len _ _
  · simp
theorem evP_in {m : Md} {xs : List Nd} (h : evOk m xs = true) {i : Nat} (hi : evP m xs i = true) : i < m.facts.length := evI_in _ m i (ok_len h).2 hi
theorem list_truth {m : Md} {xs : List Nd} (h : evOk m xs = true) : lst (fun i => (truthR m xs).getD i false) (truthR m xs).length = lst (evP m xs) 16 := by
  rw [truthR_len, lst_16 (fun i hi => evP_in h hi) (ok_len h).2]
  exact lst_congr fun i hi => truthR_at hi
theorem lst_full {p : Nat → Bool} {n : Nat} : (lst p n).length = n ↔ ∀ i, i < n → p i = true := by
  unfold lst
  rw [show ((List.range n).filter p).length = n ↔ ((List.range n).filter p).length = (List.range n).length by rw [List.length_range], List.length_filter_eq_length_iff]
  exact ⟨fun h i hi => h i (List.mem_range.2 hi), fun h i hi => h i (List.mem_range.1 hi)⟩
theorem every_iff {m : Md} {xs : List Nd} (h : evOk m xs = true) : (nums (lst (evP m xs) 16)).length = m.facts.length ↔ everyR m xs = true := by
  unfold everyR
  rw [h, Bool.true_and, nums_len, lst_16 (fun i hi => evP_in h hi) (ok_len h).2, lst_full]
  unfold eqB
  rw [List.all_eq_true]
  constructor
  · intro hp i hi
    unfold cut
    by_cases hn : i < m.facts.length
    · simp [hp i hn]
    · simp [hn]
  · intro hp i hi
    have := hp i (List.mem_range.2 (by have := (ok_len h).2; omega))
    unfold cut at this
    simpa [hi] using this
theorem equiv_iff {p q : Nat → Bool} : nums (lst p 16) = nums (lst q 16) ↔ eqB p q = true := by
  unfold eqB
  rw [List.all_eq_true]
  constructor
  · intro h i hi
    have hi := List.mem_range.1 hi
    have e : lst p 16 = lst q 16 := by
      unfold nums at h
      exact (List.map_inj_right (fun a b hab => Int.ofNat.inj hab)).1 h
    have h1 : i ∈ lst p 16 ↔ i ∈ lst q 16 := by rw [e]
    rw [mem_lst, mem_lst] at h1
    rw [beq_iff_eq, Bool.eq_iff_iff]
    exact ⟨fun a => (h1.1 ⟨hi, a⟩).2, fun a => (h1.2 ⟨hi, a⟩).2⟩
  · intro h
    rw [lst_congr (p := p) (q := q) fun i hi => by simpa using h i (List.mem_range.2 hi)]

/-- truthIn, for its callers: a grid G and a set P -/
theorem truthIn_gen (lo hi : Nat) (v v2 : Value) (m : Md) (xs : List Nd) (w : World) (hr : Mv lo hi w v m) (hhi : hi ≤ w.heap.size) (hr2 : Ns w v2 xs) :
    ∃ (G : List Int) (P : Nat → Bool), (ints G).length = 67 ∧ (evOk m xs = true → (ints G)[0]? = some (.int .i64 m.facts.length) ∧ (ints G)[66]? = some (.int .i64 m.actual) ∧ P = evP m xs ∧ G = gM m) ∧ (evOk m xs = false → P = fun _ => false) ∧
      ∀ W, Below w.heap.size w W → Calls Tryz.prog 26 #[v, v2] W fun e w' => e = .returned (.tuple #[.agg (ints G).toArray, .agg (bL P).toArray, .bool (evOk m xs)]) ∧ Below W.heap.size W w' := by
  have K := fun W (h : Below w.heap.size w W) => truthIn_any lo hi v v2 m xs W (hr.keeps (Keeps.of_all h)) (Nat.le_trans hhi h.size) (hr2.below h (Nat.le_refl _))
  unfold TrAns at K
  cases hok : evOk m xs with
  | true =>
    rw [hok] at K
    have hs := md_small (evOk_parts hok).1
    refine ⟨gM m, evP m xs, by rw [ints_len]; exact gL_len hs, fun _ => ⟨rfl, ?_, rfl, rfl⟩, fun h => absurd h (by decide), fun W h => K W h⟩
    unfold ints gM
    rw [List.getElem?_map, gL_66 hs]; rfl
  | false =>
    rw [hok] at K
    exact ⟨gL 0 0 [] [] 0, fun _ => false, rfl, fun h => absurd h (by decide), fun _ => rfl, fun W h => K W h⟩
end Go.Proofs.YtnpfnfenkklocaaGreat
