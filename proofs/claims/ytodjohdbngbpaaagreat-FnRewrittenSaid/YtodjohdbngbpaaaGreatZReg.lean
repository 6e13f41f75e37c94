/-
  Several texts in one: Reg Psh Lst Gmd Ok. Conditions: as each theorem says.
-/
import Derived.Test.YtodjohdbngbpaaaGreatZArr
import Derived.OrdersHeld
import Derived.Deep.RegionHeld
import Derived.Test.YtodjohdbngbpaaaGreatZLib
/-
  Small laws over any program for regions that draw their order: one operation taken first, its slot named; a load of a struct or an array; a call; an append; a local that is laid; a store.
-/
namespace Go.Proofs.YtodjohdbngbpaaaGreat
open Go.RowKit
open Go Go.Deep

section
variable {P : Program} {ops : Array Oper} {Q : Exit → Act → World → Prop} {md : Region.Mode} {S : World → Prop}
/-- an operation that yields in every world of S is taken first; its slot named -/
theorem takeE {i : Nat} {oi : Oper} {v : Value} {fuel : Nat} {listed : Array Bool} {a : Act} {w : World} (d : Nat) (hi : ops[i]? = some oi) (hd : oi.dst = some d)
    (hs : Region.noSelect ops = true) (hf : Region.free md ops listed i = true) (hr : (Region.ready md ops listed).contains i = true)
    (hQ : ∀ c a w, Q (.panic c) (a.put oi.dst v) w → Q (.panic c) a w) (hy : YieldsIf P ops S oi v a) (hS : S w)
    (h : wpAnyH P md ops Q S fuel (listed.setIfInBounds i true) (a.put (some d) v) w) : wpAnyH P md ops Q S (fuel + 1) listed a w :=
  wpAnyH_take hi hs hf hr hQ hy hS (by rw [hd]; exact h)
/-- one operation alone may come up -/
theorem onlyE {i : Nat} {oi : Oper} {fuel : Nat} {listed : Array Bool} {a : Act} {w : World} (hr : Region.ready md ops listed = [i]) (hi : ops[i]? = some oi) (hw : Region.wanted oi (yielded ops a.tmps) = true)
    (h : ∀ K : Act → World → Prop, Shut (∀ a w, S w → (S w → wpAnyH P md ops Q S fuel (listed.setIfInBounds i true) a w) → K a w) → Oper.wp P oi a w K Q) : wpAnyH P md ops Q S (fuel + 1) listed a w :=
  wpAnyH_ready hr (by simp) (AllReadyH.cons hi (fun K hK => by rw [if_pos hw]; exact h K hK) AllReadyH.nil)
/-- two operations may come up -/
theorem twoE {i j : Nat} {oi oj : Oper} {fuel : Nat} {listed : Array Bool} {a : Act} {w : World} (hr : Region.ready md ops listed = [i, j]) (hi : ops[i]? = some oi) (hj : ops[j]? = some oj)
    (hwi : Region.wanted oi (yielded ops a.tmps) = true) (hwj : Region.wanted oj (yielded ops a.tmps) = true)
    (h1 : ∀ K : Act → World → Prop, Shut (∀ a w, S w → (S w → wpAnyH P md ops Q S fuel (listed.setIfInBounds i true) a w) → K a w) → Oper.wp P oi a w K Q)
    (h2 : ∀ K : Act → World → Prop, Shut (∀ a w, S w → (S w → wpAnyH P md ops Q S fuel (listed.setIfInBounds j true) a w) → K a w) → Oper.wp P oj a w K Q) : wpAnyH P md ops Q S (fuel + 1) listed a w :=
  wpAnyH_ready hr (by simp) (AllReadyH.cons hi (fun K hK => by rw [if_pos hwi]; exact h1 K hK) (AllReadyH.cons hj (fun K hK => by rw [if_pos hwj]; exact h2 K hK) AllReadyH.nil))
/-- an operation whose run is known -/
theorem wp_run {o : Oper} {a : Act} {w w' : World} {K : Act → World → Prop} (v : Value) (hr : (execOp a.eval o).run P w = .ok (.value v) w') (h : K (a.put o.dst v) w') : Oper.wp P o a w K Q := by
  unfold Oper.wp; rw [hr]; exact h
/-- an operation that leaves no value -/
theorem wp_skip {o : Oper} {a : Act} {w w' : World} {K : Act → World → Prop} (hr : (execOp a.eval o).run P w = .ok .skip w') (h : K (a.put o.dst undef) w') : Oper.wp P o a w K Q := by
  unfold Oper.wp; rw [hr]; exact h
/-- a local that is laid in memory -/
theorem wp_allocM {o : Oper} {a : Act} {w : World} {K : Act → World → Prop} (T : TypeId) (d : Nat) (hd : o.dst = some d) (ho : o.op = .alloc T) (cs : List Value)
    (hr : ∀ w : World, (Instr.alloc T true (.tuple #[])).run P w = .ok (.pointer (some ⟨w.heap.size, 0, none⟩)) (w.alloc (.cells cs.toArray T)))
    (h : K (a.put (some d) (.pointer (some ⟨w.heap.size, 0, none⟩))) (w.alloc (.cells cs.toArray T))) : Oper.wp P o a w K Q := by
  refine wp_run _ ?_ (by rw [hd]; exact h)
  unfold execOp
  simp only [ho, Sem.run_bind, hr, Result.andThen_ok, Sem.run_pure]
/-- a struct or an array is stored into a block of one's own -/
theorem wp_storeM {o : Oper} {a : Act} {w : World} {K : Act → World → Prop} (ty : TypeId) (x y : Operand) (hd : o.dst = none) (ho : o.op = .store ty x y)
    (b off : Nat) (hx : a.eval x = .pointer (some ⟨b, off, none⟩)) (vs : List Value) (hy : a.eval y = .agg vs.toArray) (B : TypeId) (cs : List Value) (hc : Cm w b B cs) (hfit : off + vs.length ≤ cs.length)
    (hi : (P.info? ty).map (·.size) = some vs.length) (h1 : ∀ v ∈ vs, v.oneCell' = true)
    (h : ∀ w', Cm w' b B (lay' cs off vs) → At b w w' → K a w') : Oper.wp P o a w K Q := by
  have h := fun w' h1 h2 => (show a.put o.dst undef = a by rw [hd]; rfl) ▸ h w' h1 h2
  have hr := run_storeVar_mid (P := P) w b off ty vs.toArray (by rw [List.size_toArray]; exact hc.there _ _ hfit) (by rw [List.size_toArray]; exact hi) (all_oneCell_toArray h1)
  refine wp_skip (w' := w.setCells b off vs) ?_ (h _ (hc.sets vs off) (At.setCells w b off vs))
  unfold execOp
  simp only [ho, hx, hy, Instr.storeAt, Instr.sureAddr, Sem.run_bind, Sem.run_pure, Result.andThen_ok, hr]
end
end Go.Proofs.YtodjohdbngbpaaaGreat

/-
  An append that tells where its row lies, at one operation of any region; rows of rows that grow by a row. Any program.
-/
namespace Go.Proofs.YtodjohdbngbpaaaGreat
open Go.RowKit
open Go Go.Deep

/-- where a row lies behind an append -/
def Where (w : World) (v v' : Value) : Prop := v'.ownBlock = v.ownBlock ∨ ∃ g, v'.ownBlock = some g ∧ w.heap.size ≤ g
/-- what an append to the row v has done to memory -/
def Grewn (w : World) (v : Value) (w' : World) (v' : Value) : Prop := w.grownBy w' v.ownBlock ∧ Where w v v'
theorem Grewn.below {w w' : World} {v v' : Value} {base : Nat} (h : Grewn w v w' v') (hb : base ≤ w.heap.size) (hv : ∀ k, v.ownBlock = some k → base ≤ k) : Below base w w' :=
  (Below.refl base w).grown h.1 hb hv
theorem Grewn.size {w w' : World} {v v' : Value} (h : Grewn w v w' v') : w.heap.size ≤ w'.heap.size := h.1.size
/-- a block that is not the row's is kept -/
theorem Grewn.block {w w' : World} {v v' : Value} (h : Grewn w v w' v') {b : Nat} (hb : b < w.heap.size) (hne : v.ownBlock ≠ some b) : w'.heap[b]? = w.heap[b]? :=
  h.1.block b hb (fun e => hne e.symm)
theorem Grewn.ro {lo hi : Nat} {w w' : World} {v v' u : Value} {e : TypeId} {xs : List Value} (h : Grewn w v w' v') (hu : Ro lo hi w e u xs) (ha : apart u v) : Ro lo hi w' e u xs := hu.keptBy h.1 ha
theorem apart_where {w w' : World} {v v' u : Value} (h : Grewn w v w' v') (ha : apart u v) (hu : ∀ k, u.ownBlock = some k → k < w.heap.size) : apart u v' := by
  rcases h.2 with e | ⟨g, e, hg⟩
  · rcases ha with ha | ha
    · exact .inl ha
    · exact .inr (by rw [e]; exact ha)
  · cases hq : u.ownBlock with
    | none => exact .inl hq
    | some k => exact .inr (by rw [hq, e]; intro e2; simp at e2; have := hu k hq; omega)

section
variable {P : Program}
/-- append(s, x...), x a row of one-cell values that is not empty, s a row of the call's own -/
theorem wp_appendL {o : Oper} {a : Act} {w : World} {K : Act → World → Prop} {Q : Exit → Act → World → Prop} (s x : Operand) (t : TypeId) (d : Nat) (hd : o.dst = some d)
    (ho : o.op = .call { callee := .builtin .append, args := #[s, x], argTypes := #[t, t] })
    (e : TypeId) (z : Value) (bytes : Nat) (ht : P.underlying t = some (.slice e))
    (hinfo : (P.info? e).map (fun i => (i.zero, i.size, i.bytes)) = some (some z, 1, bytes)) (hzs : z.cells.size = 1)
    (base : Nat) (v : Value) (n : Nat) (xs : List Value) (hown : w.ownsRow base e 1 v n xs) (hs : a.eval s = v)
    (ad : Addr) (m c : Nat) (news : List Value) (hx : a.eval x = .slice (some ad) m c) (hl : news.length = m) (hm : 0 < m) (hnews : ∀ j u, news[j]? = some u → w.cell? (ad.add j) = some u) (h1 : ∀ u ∈ news, u.oneCell' = true)
    (h63 : n + m ≤ maxLen) (hbytes : (n + m) * bytes ≤ 140737488355328) (hbase : base ≤ w.heap.size)
    (h : ∀ v' w', w'.ownsRow base e 1 v' (n + m) (xs ++ news) → Grewn w v w' v' → K (a.put (some d) v') w') : Oper.wp P o a w K Q := by
  rw [← hd] at h
  obtain ⟨i0, hi, hz0, hz1, hz2⟩ := info_parts hinfo
  subst hz2
  have hl' : news.length = m * i0.size := by rw [hz1]; omega
  obtain ⟨v', w', hr, hown', hg, _⟩ := run_append_own (P := P) w base t o.type e i0 z 1 i0.bytes ht hi hz0 hz1 rfl hzs (by decide) v n xs hown ad m c news (by omega) hnews h1 h63 hbytes hbase
  have hloc : Where w v v' := by
    rcases hown.2 with ⟨rfl, rfl⟩ | ⟨g, cap, cur, rfl, hbg, hgg, hnc, hcm, hcs, htake⟩
    · have hr' := run_append_nil (P := P) w t o.type e i0 z ht hi hz0 ad m c news hl' hnews hm (by unfold maxLen at h63; omega) (by have hb := hbytes; rw [Nat.zero_add] at hb; omega)
      rw [hr'] at hr
      simp only [Result.ok.injEq] at hr
      rw [← hr.1]
      exact .inr ⟨_, rfl, Nat.le_refl _⟩
    · by_cases hroom : n + m ≤ cap
      · have hr' := run_append_room (P := P) w t o.type e i0 ht hi g n cap cur hgg ad m c news hl' hnews h1 hroom (by rw [hz1, hcs]; omega)
        rw [hr'] at hr
        simp only [Result.ok.injEq] at hr
        rw [← hr.1]
        exact .inl rfl
      · have holds : ∀ j u, xs[j]? = some u → w.cell? ((⟨g, 0, none⟩ : Addr).add j) = some u := hown.cells (g := g) rfl
        have hr' := run_append_grow (P := P) w t o.type e i0 z ht hi hz0 ⟨g, 0, none⟩ n cap xs (by rw [hz1]; exact hown.1) holds ad m c news hl' hnews (by omega) (by unfold maxLen at h63; omega) (growslice_fits (by omega) hbytes)
        rw [hr'] at hr
        simp only [Result.ok.injEq] at hr
        rw [← hr.1]
        exact .inr ⟨_, rfl, Nat.le_refl _⟩
  unfold Oper.wp execOp
  simp only [ho, resolve, invoke, builtin, Sem.run_bind, Sem.run_pure, Result.andThen_ok, List.map_toArray, List.map_cons, List.map_nil, hs, hx, hr]
  exact h v' w' hown' ⟨hg, hloc⟩
/-- append(s, y), y one value of one cell that has just been laid in a block of its own -/
theorem wp_pushL {o : Oper} {a : Act} {w0 : World} {K : Act → World → Prop} {Q : Exit → Act → World → Prop} (s x : Operand) (t : TypeId) (d : Nat) (hd : o.dst = some d)
    (ho : o.op = .call { callee := .builtin .append, args := #[s, x], argTypes := #[t, t] })
    (e : TypeId) (z : Value) (bytes : Nat) (ht : P.underlying t = some (.slice e))
    (hinfo : (P.info? e).map (fun i => (i.zero, i.size, i.bytes)) = some (some z, 1, bytes)) (hzs : z.cells.size = 1)
    (base : Nat) (y v : Value) (n : Nat) (xs : List Value) (hown : w0.ownsRow base e 1 v n xs) (hs : a.eval s = v)
    (b : Nat) (hx : a.eval x = .slice (some ⟨b, 0, none⟩) 1 1) (hbk : b = w0.heap.size) (h1 : y.oneCell' = true)
    (h63 : n + 1 ≤ maxLen) (hbytes : (n + 1) * bytes ≤ 140737488355328) (hbase : base ≤ w0.heap.size)
    (h : ∀ v' w', w'.ownsRow base e 1 v' (n + 1) (xs ++ [y]) → Grewn w0 v w' v' → K (a.put (some d) v') w') : Oper.wp P o a (w0.alloc (.cells #[y] e)) K Q := by
  subst hbk
  refine wp_appendL s x t d hd ho e z bytes ht hinfo hzs base v n xs (hown.alloc _) hs ⟨w0.heap.size, 0, none⟩ 1 1 [y] hx rfl (by decide) ?_ ?_ h63 hbytes (by simp; omega) ?_
  · intro j u hu
    match j with
    | 0 =>
      simp at hu; subst hu
      rw [addr_add0, World.cell?_alloc_at _ _ _ _ rfl]; rfl
    | j + 1 => simp at hu
  · intro u hu; simp at hu; subst hu; exact h1
  · intro v' w' hown' hg
    refine h v' w' hown' ⟨⟨hg.1.os, hg.1.tape, hg.1.output, Nat.le_trans (by simp) hg.1.size, fun k hk hne => ?_⟩, ?_⟩
    · rw [hg.1.block k (by simp; omega) hne, Below.heap_alloc _ _ _ hk]
    · rcases hg.2 with e | ⟨g, e, hg2⟩
      · exact .inl e
      · exact .inr ⟨g, e, by simp at hg2; omega⟩
/-- the same in a plain region -/
theorem wpList_pushL {ops : Array Oper} {rest : List Oper} {o : Oper} {a : Act} {w0 : World} {Q : Exit → Act → World → Prop} (hgd : o.guard = none) (s x : Operand) (t : TypeId) (d : Nat) (hd : o.dst = some d)
    (ho : o.op = .call { callee := .builtin .append, args := #[s, x], argTypes := #[t, t] })
    (e : TypeId) (z : Value) (bytes : Nat) (ht : P.underlying t = some (.slice e))
    (hinfo : (P.info? e).map (fun i => (i.zero, i.size, i.bytes)) = some (some z, 1, bytes)) (hzs : z.cells.size = 1)
    (base : Nat) (y v : Value) (n : Nat) (xs : List Value) (hown : w0.ownsRow base e 1 v n xs) (hs : a.eval s = v)
    (b : Nat) (hx : a.eval x = .slice (some ⟨b, 0, none⟩) 1 1) (hbk : b = w0.heap.size) (h1 : y.oneCell' = true)
    (h63 : n + 1 ≤ maxLen) (hbytes : (n + 1) * bytes ≤ 140737488355328) (hbase : base ≤ w0.heap.size)
    (h : ∀ v' w', w'.ownsRow base e 1 v' (n + 1) (xs ++ [y]) → Grewn w0 v w' v' → wpList P ops Q rest (a.put (some d) v') w') : wpList P ops Q (o :: rest) a (w0.alloc (.cells #[y] e)) :=
  wpList_plain hgd fun _ hK => wp_pushL s x t d hd ho e z bytes ht hinfo hzs base y v n xs hown hs b hx hbk h1 h63 hbytes hbase fun v' w' h2 h3 => hK _ _ (h v' w' h2 h3)
end

/-- rows that grow by a row that lies behind them -/
theorem Ioo.push {lo h1 h2 : Nat} {w w' : World} {bv v' u : Value} {vs : List Value} {ll : List (List Int)} {l : List Int} {n : Nat} (hb : Ioo lo h1 w bv vs ll) (hu : Io h1 h2 w u l) (h2s : h2 ≤ w.heap.size) (h1s : h1 ≤ h2) (hl : lo ≤ h1)
    (hown : w'.ownsRow lo 23 1 v' n (vs ++ [u])) (hg : Grewn w bv w' v') : Ioo lo w'.heap.size w' v' (vs ++ [u]) (ll ++ [l]) := by
  obtain ⟨r1, r2, r3⟩ := hb
  have hub : ∀ k, u.ownBlock = some k → h1 ≤ k ∧ k < h2 := fun k hk => ⟨(hu.1.lt k hk).1, hu.2 k hk⟩
  have hbb : ∀ k, bv.ownBlock = some k → lo ≤ k ∧ k < h1 := fun k hk => ⟨(r1.1.lt k hk).1, r1.2 k hk⟩
  have hub' : apart u bv := apart_symm (apart_lt (B := h1) (fun k hk => (hbb k hk).2) (fun k hk => (hub k hk).1))
  have hs := hg.size
  refine ⟨Ro.of_own hown, Rows'.snoc ⟨r2.1, fun j hj => ?_⟩ ?_, ?_⟩
  · have hmem : vs.getD j (.bool false) ∈ vs := by
      rw [List.getD_eq_getElem?_getD, List.getElem?_eq_getElem (by rw [r2.1]; exact hj)]
      exact List.getElem_mem _
    have ha : apart (vs.getD j (.bool false)) bv := apart_symm ((List.pairwise_cons.1 r3).1 _ hmem)
    exact Ro.wide (hg.ro (r2.2 j hj) ha) (Nat.le_refl _) (by omega)
  · exact Ro.wide (hg.ro hu hub') (by omega) (by omega)
  · have hvs : ∀ x ∈ vs, ∀ k, x.ownBlock = some k → lo ≤ k ∧ k < h1 := fun x hx k hk => by have := Rows'.blk r2 hx k hk; omega
    have hv' : ∀ x ∈ vs ++ [u], apart v' x := by
      intro x hx
      rw [List.mem_append, List.mem_singleton] at hx
      rcases hx with hx | rfl
      · exact apart_symm (apart_where hg (apart_symm ((List.pairwise_cons.1 r3).1 _ hx)) (fun k hk => by have := hvs x hx k hk; omega))
      · exact apart_symm (apart_where hg hub' (fun k hk => by have := hub k hk; omega))
    refine List.pairwise_cons.2 ⟨hv', ?_⟩
    rw [List.pairwise_append]
    refine ⟨(List.pairwise_cons.1 r3).2, List.pairwise_singleton _ _, fun x hx y hy => ?_⟩
    simp only [List.mem_singleton] at hy
    subst hy
    exact apart_lt (B := h1) (fun k hk => (hvs x hx k hk).2) (fun k hk => (hub k hk).1)
end Go.Proofs.YtodjohdbngbpaaaGreat

/-
  A region that draws its order whose last operations write what the others read: the condition on the world need not hold behind those. Any program.
-/
namespace Go.Proofs.YtodjohdbngbpaaaGreat
open Go.RowKit
open Go Go.Deep

section
variable {P : Program} {ops : Array Oper} {Q : Exit → Act → World → Prop} {md : Region.Mode} {S : World → Prop} {L : List Nat}
/-- whatever order is picked from here on, S holds behind each operation but those of L -/
def wpAnyL (P : Program) (md : Region.Mode) (ops : Array Oper) (Q : Exit → Act → World → Prop) (S : World → Prop) (L : List Nat) : Nat → Array Bool → Act → World → Prop
  | 0, listed, a, w => Region.ready md ops listed = [] ∧ Q .normal a w
  | fuel + 1, listed, a, w =>
    (Region.ready md ops listed = [] → Q .normal a w) ∧
    ∀ i ∈ Region.ready md ops listed, wpOp P ops Q i (fun a' w' => (i ∉ L → S w') ∧ wpAnyL P md ops Q S L fuel (listed.setIfInBounds i true) a' w') a w
theorem wpAny_of_L : ∀ (fuel : Nat) (listed : Array Bool) (a : Act) (w : World), wpAnyL P md ops Q S L fuel listed a w → wpAny P md ops Q fuel listed a w
  | 0, _, _, _, h => h
  | fuel + 1, _, _, _, h => ⟨h.1, fun i hi => wpOp_mono (fun a' w' h' => wpAny_of_L fuel _ a' w' h'.2) (h.2 i hi)⟩
theorem wpAnyL_first {i : Nat} {oi : Oper} {v : Value} (hi : ops[i]? = some oi) (hsel : ∀ (j : Nat) (o : Oper) cs b, ops[j]? = some o → o.op ≠ .select cs b)
    (hQ : ∀ c a w, Q (.panic c) (a.put oi.dst v) w → Q (.panic c) a w) (D : List Nat)
    (hD : ∀ j ∈ D, j ≠ i → ∀ oj, ops[j]? = some oj → ∃ e ∈ oj.after, Region.binds md e = true ∧ e.on ∈ D) (hL : ∀ j ∈ L, j ∈ D ∧ j ≠ i) :
    ∀ (fuel : Nat) (listed : Array Bool) (a : Act) (w : World),
      (∀ j oj, ops[j]? = some oj → j ≠ i → listed.getD j true = false → (∀ e ∈ oj.after, Region.binds md e = true → e.on ≠ i) → oi.apart ops oj = true) →
      i ∈ Region.ready md ops listed → (∀ j ∈ D, listed.getD j false = false) → YieldsIf P ops S oi v a → S w →
      wpAnyL P md ops Q S L fuel (listed.setIfInBounds i true) (a.put oi.dst v) w → wpAnyL P md ops Q S L (fuel + 1) listed a w := by
  intro fuel
  induction fuel with
  | zero =>
    intro listed a w _ hr _ hy hS H
    refine ⟨fun h => (by rw [h] at hr; cases hr), fun j hj => ?_⟩
    by_cases hji : j = i
    · subst hji; exact hy.wpOp hi hS ⟨fun _ => hS, H⟩
    · have := ready_mono hj hji
      rw [H.1] at this
      cases this
  | succ fuel ih =>
    intro listed a w hfree hr hun hy hS H
    refine ⟨fun h => (by rw [h] at hr; cases hr), fun j hj => ?_⟩
    by_cases hji : j = i
    · subst hji; exact hy.wpOp hi hS ⟨fun _ => hS, H⟩
    · have h1 := H.2 j (ready_mono hj hji)
      obtain ⟨hjun, oj, hoj, hall⟩ := mem_ready.1 hj
      have hjD : j ∉ D := fun hd => by
        obtain ⟨e, he, hb, hon⟩ := hD j hd hji oj hoj
        have h2 := hall e he hb
        have h3 := hun _ hon
        rw [h2] at h3; cases h3
      have hnot : ∀ e ∈ oj.after, Region.binds md e = true → e.on ≠ i := fun e he hb heq => by
        have h1 := hall e he hb
        have h0 := (mem_ready.1 hr).1
        rw [heq] at h1
        rcases Nat.lt_or_ge i listed.size with h' | h'
        · simp [h'] at h0 h1; rw [h0] at h1; cases h1
        · simp [Array.getElem?_eq_none h'] at h1
      have h2 := wpOp_putIf hoj (hfree j oj hoj hji hjun hnot) (fun cs b => hsel i oi cs b hi) (fun cs b => hsel j oj cs b hoj) hQ hy h1
      have hfree' : ∀ k ok, ops[k]? = some ok → k ≠ i → (listed.setIfInBounds j true).getD k true = false →
          (∀ e ∈ ok.after, Region.binds md e = true → e.on ≠ i) → oi.apart ops ok = true := fun k ok hk hki hun hno => by
        refine hfree k ok hk hki ?_ hno
        by_cases hjk : j = k
        · subst hjk; exact hjun
        · rw [getD_set_ne true hjk] at hun; exact hun
      have hun' : ∀ k ∈ D, (listed.setIfInBounds j true).getD k false = false := fun k hk => by
        have hjk : j ≠ k := fun e => hjD (e ▸ hk)
        rw [getD_set_ne false hjk]; exact hun k hk
      have hjL : j ∉ L := fun h => hjD (hL j h).1
      refine wpOp_mono (fun a' w' h3 => ⟨fun _ => h3.2.1 hjL, ih (listed.setIfInBounds j true) a' w' hfree' (ready_mono hr (Ne.symm hji)) hun' h3.1 (h3.2.1 hjL) ?_⟩) h2
      rw [Array.setIfInBounds_comm _ _ hji]
      exact h3.2.2
/-- D hangs together: each of D but i waits for another one of D -/
def chainB (md : Region.Mode) (ops : Array Oper) (D : List Nat) (i : Nat) : Bool := D.all fun j => j == i || ((ops[j]?).map (fun o => o.after.any fun e => Region.binds md e && D.contains e.on)).getD true
theorem chainB_spec {D : List Nat} {i : Nat} (h : chainB md ops D i = true) : ∀ j ∈ D, j ≠ i → ∀ oj, ops[j]? = some oj → ∃ e ∈ oj.after, Region.binds md e = true ∧ e.on ∈ D := by
  intro j hj hji oj ho
  have h1 := List.all_eq_true.1 h j hj
  rw [ho] at h1
  simp only [Option.map_some, Option.getD_some, Bool.or_eq_true, beq_iff_eq] at h1
  rcases h1 with h1 | h1
  · exact absurd h1 hji
  · rw [← Array.any_toList, List.any_eq_true] at h1
    obtain ⟨e, he, hb⟩ := h1
    have he := Array.mem_toList_iff.1 he
    rw [Bool.and_eq_true] at hb
    exact ⟨e, he, hb.1, by simpa using hb.2⟩
/-- an operation that yields in every world of S is taken first; the last operations L wait for it along D -/
theorem takeL {i : Nat} {oi : Oper} {v : Value} {fuel : Nat} {listed : Array Bool} {a : Act} {w : World} (d : Nat) (D : List Nat) (hi : ops[i]? = some oi) (hd : oi.dst = some d)
    (hs : Region.noSelect ops = true) (hf : Region.free md ops listed i = true) (hr : (Region.ready md ops listed).contains i = true)
    (hc : (chainB md ops D i && L.all (fun j => D.contains j && j != i) && D.all (fun j => !listed.getD j false)) = true)
    (hQ : ∀ c a w, Q (.panic c) (a.put oi.dst v) w → Q (.panic c) a w) (hy : YieldsIf P ops S oi v a) (hS : S w)
    (h : wpAnyL P md ops Q S L fuel (listed.setIfInBounds i true) (a.put (some d) v) w) : wpAnyL P md ops Q S L (fuel + 1) listed a w := by
  simp only [Bool.and_eq_true] at hc
  obtain ⟨⟨hc1, hc2⟩, hc3⟩ := hc
  refine wpAnyL_first hi (Region.noSelect_spec hs) hQ D (chainB_spec hc1) (fun j hj => ?_) fuel listed a w (Region.free_spec hi hf) (by simpa using hr) (fun j hj => ?_) hy hS (by rw [hd]; exact h)
  · have := List.all_eq_true.1 hc2 j hj
    simpa using this
  · have := List.all_eq_true.1 hc3 j hj
    simpa using this
/-- the operations that wait for i, and i -/
def depOn (md : Region.Mode) (ops : Array Oper) (i : Nat) : List Nat := (List.range ops.size).foldl (fun acc j => if ((ops[j]?).map (fun o => o.after.any fun e => Region.binds md e && acc.contains e.on)).getD false then j :: acc else acc) [i]
/-- the same, the chain reckoned -/
theorem takeA {i : Nat} {oi : Oper} {v : Value} {fuel : Nat} {listed : Array Bool} {a : Act} {w : World} (d : Nat) (hi : ops[i]? = some oi) (hd : oi.dst = some d)
    (hs : Region.noSelect ops = true) (hf : Region.free md ops listed i = true) (hr : (Region.ready md ops listed).contains i = true)
    (hc : (chainB md ops (depOn md ops i) i && L.all (fun j => (depOn md ops i).contains j && j != i) && (depOn md ops i).all (fun j => !listed.getD j false)) = true)
    (hQ : ∀ c a w, Q (.panic c) (a.put oi.dst v) w → Q (.panic c) a w) (hy : YieldsIf P ops S oi v a) (hS : S w)
    (h : wpAnyL P md ops Q S L fuel (listed.setIfInBounds i true) (a.put (some d) v) w) : wpAnyL P md ops Q S L (fuel + 1) listed a w :=
  takeL d (depOn md ops i) hi hd hs hf hr hc hQ hy hS h
theorem doneL {listed : Array Bool} {a : Act} {w : World} (hr : Region.ready md ops listed = []) (h : Q .normal a w) : ∀ fuel, wpAnyL P md ops Q S L fuel listed a w
  | 0 => ⟨hr, h⟩
  | _ + 1 => ⟨fun _ => h, by rw [hr]; simp⟩
theorem onlyL {i : Nat} {oi : Oper} {fuel : Nat} {listed : Array Bool} {a : Act} {w : World} (hr : Region.ready md ops listed = [i]) (hi : ops[i]? = some oi) (hw : Region.wanted oi (yielded ops a.tmps) = true)
    (h : ∀ K : Act → World → Prop, Shut (∀ a w, (i ∉ L → S w) → ((i ∉ L → S w) → wpAnyL P md ops Q S L fuel (listed.setIfInBounds i true) a w) → K a w) → Oper.wp P oi a w K Q) : wpAnyL P md ops Q S L (fuel + 1) listed a w := by
  refine ⟨fun h0 => (by rw [hr] at h0; cases h0), fun j hj => ?_⟩
  rw [hr] at hj
  simp only [List.mem_singleton] at hj
  subst hj
  exact wpOp_step hi (fun K hK => by rw [if_pos hw]; exact h K (fun a w hS hW => hK a w ⟨hS, hW hS⟩))
theorem twoL {i j : Nat} {oi oj : Oper} {fuel : Nat} {listed : Array Bool} {a : Act} {w : World} (hr : Region.ready md ops listed = [i, j]) (hi : ops[i]? = some oi) (hj : ops[j]? = some oj)
    (hwi : Region.wanted oi (yielded ops a.tmps) = true) (hwj : Region.wanted oj (yielded ops a.tmps) = true)
    (h1 : ∀ K : Act → World → Prop, Shut (∀ a w, (i ∉ L → S w) → ((i ∉ L → S w) → wpAnyL P md ops Q S L fuel (listed.setIfInBounds i true) a w) → K a w) → Oper.wp P oi a w K Q)
    (h2 : ∀ K : Act → World → Prop, Shut (∀ a w, (j ∉ L → S w) → ((j ∉ L → S w) → wpAnyL P md ops Q S L fuel (listed.setIfInBounds j true) a w) → K a w) → Oper.wp P oj a w K Q) : wpAnyL P md ops Q S L (fuel + 1) listed a w := by
  refine ⟨fun h0 => (by rw [hr] at h0; cases h0), fun k hk => ?_⟩
  rw [hr] at hk
  simp only [List.mem_cons, List.not_mem_nil, or_false] at hk
  rcases hk with rfl | rfl
  · exact wpOp_step hi (fun K hK => by rw [if_pos hwi]; exact h1 K (fun a w hS hW => hK a w ⟨hS, hW hS⟩))
  · exact wpOp_step hj (fun K hK => by rw [if_pos hwj]; exact h2 K (fun a w hS hW => hK a w ⟨hS, hW hS⟩))
/-- the beginning -/
theorem regionL {id : Nat} {a : Act} {w : World} (S : World → Prop) (L : List Nat) (hm : P.follows .mixedOrders = true) (hS : S w.drew)
    (h : S w.drew → wpAnyL P .any ops Q S L ops.size (Array.replicate ops.size false) a w.drew) : (Code.region id ops true).wp P Q a w :=
  wp_region_any hm (wpAny_of_L _ _ _ _ (h hS))
end
end Go.Proofs.YtodjohdbngbpaaaGreat

/-
  Contract of grid.model: the model of a grid, in new memory. Condition: the rows are as long as the model has worlds.
-/
namespace Go.Proofs.YtodjohdbngbpaaaGreat
open Go.RowKit Go.WideShapes
open Go Go.Deep
set_option linter.unusedSimpArgs false

/-- the rows of a model that fit in a grid -/
def fits (m : Md) : Prop := m.facts.length ≤ 16 ∧ m.blocks.length ≤ 3 ∧ ∀ k, k < m.blocks.length → (m.blocks.getD k []).length = m.facts.length
theorem fits.small {m : Md} (h : fits m) : small m.facts m.blocks := by
  refine ⟨h.1, fun k => ?_⟩
  rcases Nat.lt_or_ge k m.blocks.length with hk | hk
  · rw [h.2.2 k hk]; exact h.1
  · rw [List.getD_eq_getElem?_getD, List.getElem?_eq_none hk]; simp
theorem Tryz.allocMd (w : World) : (Instr.alloc 26 true (.tuple #[])).run Tryz.prog w = .ok (.pointer (some ⟨w.heap.size, 0, none⟩)) (w.alloc (.cells [Value.slice none 0 0, .slice none 0 0, .int .i64 0].toArray 26)) := by kernel_rfl
theorem pad_take' {l : List Int} {n : Nat} (h : l.length = n) : (pad l).take n = l := by subst h; unfold pad; simp

set_option maxRecDepth 100000 in
set_option maxHeartbeats 8000000 in
theorem gridModel_any (m : Md) (hm : fits m) (w : World) :
    Calls Tryz.prog 62 #[.agg (ints (gL m.facts.length m.blocks.length m.facts m.blocks m.actual)).toArray] w (MdAns w m) := by
  have HS := Lib.hid hm.small
  have HC : Hid (∀ (W : World) b T, Cm W b T (ints (gL m.facts.length m.blocks.length m.facts m.blocks m.actual)) → W.cell? ⟨b, 0, none⟩ = some (.int .i64 m.facts.length) ∧ W.cell? ⟨b, 1, none⟩ = some (.int .i64 m.blocks.length) ∧ W.cell? ⟨b, 66, none⟩ = some (.int .i64 m.actual)) := Lib.hid (fun W b T h => ⟨h.g0, h.g1, h.g66 hm.small⟩)
  have HF : Hid (∀ (W : World) b T, Cm W b T (ints (gL m.facts.length m.blocks.length m.facts m.blocks m.actual)) → W.rangeAt b 2 (ints (pad m.facts))) := Lib.hid (fun W b T h => h.range 2 _ (fun j hj => by rw [ints_len, pad_len hm.1] at hj; rw [ints_get, ints_get, gL_f hm.small hj]))
  have HR : Hid (∀ k, k < m.blocks.length → ∀ (W : World) b T, Cm W b T (ints (gL m.facts.length m.blocks.length m.facts m.blocks m.actual)) → W.rangeAt b (18 + k * 16) (ints (pad (m.blocks.getD k [])))) := Lib.hid (fun k hk W b T h => h.range _ _ (fun j hj => by have h3 := hm.2.1; rw [ints_len, pad_len (hm.small.2 k)] at hj; rw [ints_get, ints_get, gL_r hm.small (by omega) hj]))
  have KF := Lib.hid (fun W => rowList_any (pad m.facts) m.facts.length W (pad_len hm.1) hm.1)
  have KR := Lib.hid (fun k (hk : k < m.blocks.length) W => rowList_any (pad (m.blocks.getD k [])) m.facts.length W (pad_len (hm.small.2 k)) hm.1)
  have PF := Lib.hid (pad_take' (l := m.facts) rfl)
  have PR := Lib.hid (fun k hk => pad_take' (hm.2.2 k hk))
  have HL1 : Hid ((ints (pad m.facts)).length = 16) := Lib.hid (by rw [ints_len, pad_len hm.1])
  have HL2 : Hid (∀ k, (ints (pad (m.blocks.getD k []))).length = 16) := Lib.hid (fun k => by rw [ints_len, pad_len (hm.small.2 k)])
  have h3 := hm.2.1
  have h16 := hm.1
  have HU : Tryz.prog.underlying 82 = some (.array 16 3) := Tryz.underlying82
  rw [PF.out] at KF
  clear hm HS
  generalize gL m.facts.length m.blocks.length m.facts m.blocks m.actual = G at *
  go_enter Tryz.func62, Tryz.ntmps62
  go_wp2
  have c0 : Cm ((w.alloc (.cells (ints G).toArray 85)).alloc (.cells #[.slice none 0 0, .slice none 0 0, .int .i64 0] 26)) w.heap.size 85 (ints G) := (Cm.new rfl).alloc _
  have m0 : Mcell ((w.alloc (.cells (ints G).toArray 85)).alloc (.cells #[.slice none 0 0, .slice none 0 0, .int .i64 0] 26)) (w.heap.size + 1) (.slice none 0 0) (.slice none 0 0) 0 := Mcell.new (by simp)
  have b0 : Below w.heap.size w ((w.alloc (.cells (ints G).toArray 85)).alloc (.cells #[.slice none 0 0, .slice none 0 0, .int .i64 0] 26)) := by go_grown
  have s0 : ((w.alloc (.cells (ints G).toArray 85)).alloc (.cells #[.slice none 0 0, .slice none 0 0, .int .i64 0] 26)).heap.size = w.heap.size + 2 := by simp
  generalize (w.alloc (.cells (ints G).toArray 85)).alloc (.cells #[.slice none 0 0, .slice none 0 0, .int .i64 0] 26) = w0 at *
  have C0 := Lib.hid c0
  have M0 := Lib.hid m0
  have B0 := Lib.hid b0
  have HS0 := Lib.hid s0
  have hs0 : w.heap.size + 1 < w0.heap.size := by omega
  clear c0 m0 b0 s0
  obtain ⟨n0, hn0⟩ : ∃ n, n = w0.heap.size := ⟨_, rfl⟩
  refine wp_region_held_drew (S := fun w' => Below n0 w0 w') (by kernel_rfl) (Below.refl _ _).drew (fun hHeld => ?_)
  refine takeE (i := 0) (v := .pointer (some ⟨w.heap.size, 2, none⟩)) 5 rfl rfl (by kernel_rfl) (by kernel_rfl) (by kernel_rfl) (fun _ _ _ h => h) (Or.inl ⟨by rfl, by intro W hSw; go_simp⟩) hHeld ?_
  simp only [Act.put, List.setIfInBounds_toArray, List.set_cons_zero, List.set_cons_succ]
  refine takeE (i := 1) (v := .agg (ints (pad m.facts)).toArray) 6 rfl rfl (by kernel_rfl) (by kernel_rfl) (by kernel_rfl) (fun _ _ _ h => h) (yieldsIf_load_mid (by rfl) 82 _ rfl w.heap.size 2 rfl (ints (pad m.facts)) _ (fun W hSw => HF.out _ _ _ (C0.out.below hSw (by omega))) HU rfl (by rw [HL1.out]; exact Tryz.sizeRow)) hHeld ?_
  simp only [Act.put, List.setIfInBounds_toArray, List.set_cons_zero, List.set_cons_succ]
  refine takeE (i := 2) (v := .pointer (some ⟨w.heap.size, 0, none⟩)) 7 rfl rfl (by kernel_rfl) (by kernel_rfl) (by kernel_rfl) (fun _ _ _ h => h) (Or.inl ⟨by rfl, by intro W hSw; go_simp⟩) hHeld ?_
  simp only [Act.put, List.setIfInBounds_toArray, List.set_cons_zero, List.set_cons_succ]
  refine takeE (i := 3) (v := .int .i64 m.facts.length) 8 rfl rfl (by kernel_rfl) (by kernel_rfl) (by kernel_rfl) (fun _ _ _ h => h) (Or.inl ⟨by rfl, by intro W hSw; obtain ⟨c0, c1, c2⟩ := HC.out _ _ _ (C0.out.below hSw (by omega)); go_simp⟩) hHeld ?_
  simp only [Act.put, List.setIfInBounds_toArray, List.set_cons_zero, List.set_cons_succ]
  refine takeE (i := 5) (v := .pointer (some ⟨w.heap.size, 66, none⟩)) 10 rfl rfl (by kernel_rfl) (by kernel_rfl) (by kernel_rfl) (fun _ _ _ h => h) (Or.inl ⟨by rfl, by intro W hSw; go_simp⟩) hHeld ?_
  simp only [Act.put, List.setIfInBounds_toArray, List.set_cons_zero, List.set_cons_succ]
  refine takeE (i := 6) (v := .int .i64 m.actual) 11 rfl rfl (by kernel_rfl) (by kernel_rfl) (by kernel_rfl) (fun _ _ _ h => h) (Or.inl ⟨by rfl, by intro W hSw; obtain ⟨c0, c1, c2⟩ := HC.out _ _ _ (C0.out.below hSw (by omega)); go_simp⟩) hHeld ?_
  simp only [Act.put, List.setIfInBounds_toArray, List.set_cons_zero, List.set_cons_succ]
  refine twoE (i := 4) (j := 8) (by kernel_rfl) rfl rfl (by rfl) (by rfl) (fun K hK => ?wayA) (fun K hK => ?wayB)
  case' wayA =>
    go_simp
    refine (KF.out _).mono ?_
    rintro e w1 ⟨v1, rfl, hi1, hb1⟩
    obtain ⟨a1, k1, rfl⟩ := hi1.form
    have t1 : Below n0 w0 w1 := hHeld.trans (hb1.mono (by have := hHeld.size; omega))
    have I1 : Hid (Io w0.heap.size w1.heap.size w1 (.slice a1 m.facts.length k1) m.facts) := Lib.hid hi1
    clear hi1 hb1 hHeld
    refine hK.out _ _ t1 (fun hHeld => ?_)
    clear hK K t1
    try simp only [Act.put, List.setIfInBounds_toArray, List.set_cons_zero, List.set_cons_succ]
    refine takeE (i := 7) (v := .agg #[.slice a1 m.facts.length k1, .slice none 0 0, .int .i64 m.actual]) 12 rfl rfl (by kernel_rfl) (by kernel_rfl) (by kernel_rfl) (fun _ _ _ h => h) (Or.inl ⟨by rfl, by intro W hSw; go_simp⟩) hHeld ?_
    simp only [Act.put, List.setIfInBounds_toArray, List.set_cons_zero, List.set_cons_succ]
    refine onlyE (i := 8) (by kernel_rfl) rfl (by rfl) (fun K hK => ?_)
    refine wp_allocM 26 3 rfl rfl _ Tryz.allocMd ?_
    have D2 := Lib.hid (Cm.new (w := w1) (T := 26) (cs := [Value.slice none 0 0, .slice none 0 0, .int .i64 0]) rfl)
    have t2 : Below n0 w0 (w1.alloc (.cells [Value.slice none 0 0, .slice none 0 0, .int .i64 0].toArray 26)) := hHeld.alloc (by have := hHeld.size; omega) _
    have I2 := Lib.hid (I1.out.keeps (Keeps.of_all ((Below.refl w1.heap.size w1).alloc (Nat.le_refl _) (.cells [Value.slice none 0 0, .slice none 0 0, .int .i64 0].toArray 26))))
    have hb : Hid (w1.heap.size ≤ w1.heap.size ∧ w0.heap.size ≤ w1.heap.size) := Lib.hid ⟨Nat.le_refl _, hHeld.size⟩
    clear hHeld
    refine hK.out _ _ t2 (fun hHeld => ?_)
    clear hK K t2
    try simp only [Act.put, List.setIfInBounds_toArray, List.set_cons_zero, List.set_cons_succ]
    generalize w1.alloc (.cells [Value.slice none 0 0, .slice none 0 0, .int .i64 0].toArray 26) = w2 at *
    obtain ⟨b, hbb⟩ : ∃ b, b = w1.heap.size := ⟨_, rfl⟩
    obtain ⟨lo1, hlo⟩ : ∃ b, b = w0.heap.size := ⟨_, rfl⟩
    obtain ⟨hi1, hhi⟩ : ∃ b, b = w1.heap.size := ⟨_, rfl⟩
    have I2 : Hid (Io lo1 hi1 w2 (.slice a1 m.facts.length k1) m.facts) := Lib.hid (by rw [hlo, hhi]; exact I2.out)
    rw [← hbb] at D2 ⊢
    have hr1 : b < lo1 ∨ hi1 ≤ b := .inr (by omega)
    have hr2 : w0.heap.size ≤ lo1 ∧ w0.heap.size ≤ b ∧ hi1 ≤ w2.heap.size := ⟨by omega, by rw [hbb]; exact hb.out.2, by have := D2.out.lt; omega⟩
    clear hbb hlo hhi hb I1
    refine onlyE (i := 9) (by kernel_rfl) rfl (by rfl) (fun K hK => ?_)
    refine wp_storeM 26 (.tmp 3) (.tmp 12) rfl rfl b 0 rfl [.slice a1 m.facts.length k1, .slice none 0 0, .int .i64 m.actual] rfl 26 _ D2.out (Nat.le_refl 3) Tryz.sizeMd (by intro u hu; simp at hu; rcases hu with rfl | rfl | rfl <;> rfl) ?_
    intro w3 hc3 ha3
    rw [lay'_all (by rfl)] at hc3
    have D3 := Lib.hid hc3
    have I3 := Lib.hid (I2.out.keeps (lo := lo1) (hi := hi1) ⟨Nat.le_of_eq ha3.size.symm, fun q h1 h2 _ => ha3.block q (by omega)⟩)
    have t3 : Below n0 w0 w3 := hHeld.trans (ha3.below (by omega))
    have hs3 : w3.heap.size = w2.heap.size := ha3.size
    clear hc3 ha3 hHeld
    refine hK.out _ _ t3 (fun hHeld => ?_)
    clear hK K t3
    refine wpAnyH_done (by kernel_rfl) ?_ _
  case' wayB =>
    refine wp_allocM 26 3 rfl rfl _ Tryz.allocMd ?_
    have D1 := Lib.hid (Cm.new (w := w0.drew) (b := w0.heap.size) (T := 26) (cs := [Value.slice none 0 0, .slice none 0 0, .int .i64 0]) rfl)
    have t1 : Below n0 w0 (w0.drew.alloc (.cells [Value.slice none 0 0, .slice none 0 0, .int .i64 0].toArray 26)) := hHeld.alloc (by have := hHeld.size; omega) _
    clear hHeld
    refine hK.out _ _ t1 (fun hHeld => ?_)
    clear hK K t1
    try simp only [Act.put, List.setIfInBounds_toArray, List.set_cons_zero, List.set_cons_succ]
    have hz1 : (w0.drew.alloc (.cells [Value.slice none 0 0, .slice none 0 0, .int .i64 0].toArray 26)).heap.size = w0.heap.size + 1 := by simp
    generalize w0.drew.alloc (.cells [Value.slice none 0 0, .slice none 0 0, .int .i64 0].toArray 26) = w1 at *
    obtain ⟨b, hbb⟩ : ∃ b, b = w0.heap.size := ⟨_, rfl⟩
    rw [← hbb] at D1
    refine onlyE (i := 4) (by kernel_rfl) rfl (by rfl) (fun K hK => ?_)
    go_simp
    refine (KF.out _).mono ?_
    rintro e w2 ⟨v1, rfl, hx1, hb1⟩
    rw [← hbb]
    obtain ⟨a1, k1, rfl⟩ := hx1.form
    have t2 : Below n0 w0 w2 := hHeld.trans (hb1.mono (by have := hHeld.size; omega))
    have D2 := Lib.hid (D1.out.all hb1)
    obtain ⟨lo1, hlo⟩ : ∃ b, b = w1.heap.size := ⟨_, rfl⟩
    obtain ⟨hi1, hhi⟩ : ∃ b, b = w2.heap.size := ⟨_, rfl⟩
    have I2 : Hid (Io lo1 hi1 w2 (.slice a1 m.facts.length k1) m.facts) := Lib.hid (by rw [hlo, hhi]; exact hx1)
    have hr1 : b < lo1 ∨ hi1 ≤ b := .inl (by omega)
    have hr2 : w0.heap.size ≤ lo1 ∧ w0.heap.size ≤ b ∧ hi1 ≤ w2.heap.size := ⟨by omega, by omega, by omega⟩
    clear hx1 hb1 hHeld hlo hhi hbb hz1 D1
    refine hK.out _ _ t2 (fun hHeld => ?_)
    clear hK K t2
    try simp only [Act.put, List.setIfInBounds_toArray, List.set_cons_zero, List.set_cons_succ]
    refine takeE (i := 7) (v := .agg #[.slice a1 m.facts.length k1, .slice none 0 0, .int .i64 m.actual]) 12 rfl rfl (by kernel_rfl) (by kernel_rfl) (by kernel_rfl) (fun _ _ _ h => h) (Or.inl ⟨by rfl, by intro W hSw; go_simp⟩) hHeld ?_
    simp only [Act.put, List.setIfInBounds_toArray, List.set_cons_zero, List.set_cons_succ]
    refine onlyE (i := 9) (by kernel_rfl) rfl (by rfl) (fun K hK => ?_)
    refine wp_storeM 26 (.tmp 3) (.tmp 12) rfl rfl b 0 rfl [.slice a1 m.facts.length k1, .slice none 0 0, .int .i64 m.actual] rfl 26 _ D2.out (Nat.le_refl 3) Tryz.sizeMd (by intro u hu; simp at hu; rcases hu with rfl | rfl | rfl <;> rfl) ?_
    intro w3 hc3 ha3
    rw [lay'_all (by rfl)] at hc3
    have D3 := Lib.hid hc3
    have I3 := Lib.hid (I2.out.keeps (lo := lo1) (hi := hi1) ⟨Nat.le_of_eq ha3.size.symm, fun q h1 h2 _ => ha3.block q (by omega)⟩)
    have t3 : Below n0 w0 w3 := hHeld.trans (ha3.below (by omega))
    have hs3 : w3.heap.size = w2.heap.size := ha3.size
    clear hc3 ha3 hHeld
    refine hK.out _ _ t3 (fun hHeld => ?_)
    clear hK K t3
    refine wpAnyH_done (by kernel_rfl) ?_ _
  all_goals
    rw [hn0] at hHeld
    have C3 := Lib.hid (C0.out.all hHeld)
    have M3 := Lib.hid (M0.out.below hHeld)
    have B3 : Hid (Below w.heap.size w w3) := Lib.hid (B0.out.trans (hHeld.mono B0.out.size))
    obtain ⟨g0, g1, g2⟩ := HC.out _ _ _ C3.out
    have hb3 : b < w3.heap.size := D3.out.lt
    have hw3 : w0.heap.size ≤ w3.heap.size := hHeld.size
    have hi3 : hi1 ≤ w3.heap.size := by omega
    clear hHeld C0 M0 B0 D2 I2 hs3
    obtain ⟨r1, r2, r3⟩ := hr2
    go_wp2
    clear g0 g1 g2
    go_loopw [15] (fun iv wr => ∃ (k : Nat) (bv : Value) (vs : List Value), k ≤ m.blocks.length ∧ iv = .int .i64 k ∧ Hid (Cm wr b 26 [.slice a1 m.facts.length k1, bv, .int .i64 m.actual]) ∧ Hid (Ioo w3.heap.size wr.heap.size wr bv vs (m.blocks.take k)) ∧ Hid (Io lo1 hi1 wr (.slice a1 m.facts.length k1) m.facts) ∧ Hid (Cm wr w.heap.size 85 (ints G)) ∧ Hid (Mcell wr (w.heap.size + 1) (.slice none 0 0) (.slice none 0 0) 0) ∧ Hid (Below w.heap.size w wr) ∧ w3.heap.size ≤ wr.heap.size) (fun iv _ => m.blocks.length - (intOf iv).toNat)
    case atStart => exact ⟨0, _, [], Nat.zero_le _, rfl, D3, Lib.hid ⟨Ro.nil _ _ _ _, ⟨rfl, fun j hj => by simp at hj⟩, List.pairwise_singleton _ _⟩, I3, C3, M3, B3, Nat.le_refl _⟩
    case round =>
      clear D3 I3 C3 M3 B3
      obtain ⟨k, bv, vs, hk, rfl, DR, OR, IR, CR, MR, BR, hwr⟩ := hrel
      by_cases hlt : k < m.blocks.length
      · have HRk := Lib.hid (HR.out k hlt)
        have KRk := Lib.hid (KR.out k hlt)
        have PRk := Lib.hid (PR.out k hlt)
        have HLk := Lib.hid (HL2.out k)
        have HTK := Lib.hid (take_snocL hlt)
        rw [PRk.out] at KRk
        have hvl : vs.length = k := by rw [OR.out.2.1.1, List.length_take]; omega
        have k0 : (0 : Int) ≤ (k : Int) := Int.natCast_nonneg _
        have k3 : (k : Int) < 3 := by omega
        obtain ⟨row, hrow⟩ : ∃ r, r = m.blocks.getD k [] := ⟨_, rfl⟩
        rw [← hrow] at HRk KRk PRk HLk HTK
        clear hrow
        go_wp2
        refine regionL (fun W => Below w3.heap.size wr W) [12] (by kernel_rfl) (Below.refl _ _).drew (fun hHeld => ?_)
        refine takeA (i := 0) (v := .pointer (some ⟨b, 1, none⟩)) 18 rfl rfl (by kernel_rfl) (by kernel_rfl) (by kernel_rfl) (by kernel_rfl) (fun _ _ _ h => h) (Or.inl ⟨by rfl, by intro W hSw; go_simp⟩) hHeld ?_
        simp only [Act.put, List.setIfInBounds_toArray, List.set_cons_zero, List.set_cons_succ]
        refine takeA (i := 1) (v := bv) 19 rfl rfl (by kernel_rfl) (by kernel_rfl) (by kernel_rfl) (by kernel_rfl) (fun _ _ _ h => h) (Or.inl ⟨by rfl, by intro W hSw; have d1 : W.cell? ⟨b, 1, none⟩ = some bv := (DR.out.below hSw hb3).cell 1; go_simp⟩) hHeld ?_
        simp only [Act.put, List.setIfInBounds_toArray, List.set_cons_zero, List.set_cons_succ]
        refine takeA (i := 2) (v := .int .i64 k) 20 rfl rfl (by kernel_rfl) (by kernel_rfl) (by kernel_rfl) (by kernel_rfl) (fun _ _ _ h => h) (Or.inl ⟨by rfl, by intro W hSw; go_simp⟩) hHeld ?_
        simp only [Act.put, List.setIfInBounds_toArray, List.set_cons_zero, List.set_cons_succ]
        refine takeA (i := 3) (v := .pointer (some ⟨w.heap.size, 18, none⟩)) 21 rfl rfl (by kernel_rfl) (by kernel_rfl) (by kernel_rfl) (by kernel_rfl) (fun _ _ _ h => h) (Or.inl ⟨by rfl, by intro W hSw; go_simp⟩) hHeld ?_
        simp only [Act.put, List.setIfInBounds_toArray, List.set_cons_zero, List.set_cons_succ]
        refine takeA (i := 4) (v := .pointer (some ⟨w.heap.size, 18 + k * 16, none⟩)) 22 rfl rfl (by kernel_rfl) (by kernel_rfl) (by kernel_rfl) (by kernel_rfl) (fun _ _ _ h => h) (Or.inl ⟨by rfl, by intro W hSw; go_simp⟩) hHeld ?_
        simp only [Act.put, List.setIfInBounds_toArray, List.set_cons_zero, List.set_cons_succ]
        refine takeA (i := 5) (v := .agg (ints (pad row)).toArray) 23 rfl rfl (by kernel_rfl) (by kernel_rfl) (by kernel_rfl) (by kernel_rfl) (fun _ _ _ h => h) (yieldsIf_load_mid (by rfl) 82 _ rfl w.heap.size (18 + k * 16) rfl (ints (pad row)) _ (fun W hSw => HRk.out _ _ _ (CR.out.below hSw (by omega))) HU rfl (by rw [HLk.out]; exact Tryz.sizeRow)) hHeld ?_
        simp only [Act.put, List.setIfInBounds_toArray, List.set_cons_zero, List.set_cons_succ]
        refine takeA (i := 6) (v := .pointer (some ⟨w.heap.size, 0, none⟩)) 24 rfl rfl (by kernel_rfl) (by kernel_rfl) (by kernel_rfl) (by kernel_rfl) (fun _ _ _ h => h) (Or.inl ⟨by rfl, by intro W hSw; go_simp⟩) hHeld ?_
        simp only [Act.put, List.setIfInBounds_toArray, List.set_cons_zero, List.set_cons_succ]
        refine takeA (i := 7) (v := .int .i64 m.facts.length) 25 rfl rfl (by kernel_rfl) (by kernel_rfl) (by kernel_rfl) (by kernel_rfl) (fun _ _ _ h => h) (Or.inl ⟨by rfl, by intro W hSw; obtain ⟨c0, c1, c2⟩ := HC.out _ _ _ (CR.out.below hSw (by omega)); go_simp⟩) hHeld ?_
        simp only [Act.put, List.setIfInBounds_toArray, List.set_cons_zero, List.set_cons_succ]
        refine onlyL (i := 8) (by kernel_rfl) rfl (by rfl) (fun K hK => ?_)
        go_simp
        refine (KRk.out _).mono ?_
        rintro e w4 ⟨u4, rfl, hx4, hb4⟩
        obtain ⟨a4, k4, rfl⟩ := hx4.form
        have t4 : Below wr.heap.size wr w4 := Below.trans (Below.refl _ _).drew hb4
        have U4 : Hid (Io wr.heap.size w4.heap.size w4 (.slice a4 row.length k4) row) := Lib.hid hx4
        clear hx4 hb4 hHeld
        have O4 := Lib.hid (OR.out.keeps (Keeps.of_all t4))
        have D4 := Lib.hid (DR.out.all t4)
        have I4 : Hid (Io lo1 hi1 w4 (.slice a1 m.facts.length k1) m.facts) := Lib.hid (IR.out.keeps (Keeps.of_all t4))
        have C4 := Lib.hid (CR.out.all t4)
        have M4 := Lib.hid (MR.out.below t4)
        have B4 : Hid (Below w.heap.size w w4) := Lib.hid (BR.out.trans (t4.mono BR.out.size))
        have hs4 : wr.heap.size ≤ w4.heap.size := t4.size
        have T4 := Lib.hid (t4.mono hwr)
        refine hK.out _ _ (fun _ => t4.mono hwr) (fun hHeld => ?_)
        have hHeld := hHeld (by decide)
        clear hK K t4 OR DR IR CR MR BR
        try simp only [Act.put, List.setIfInBounds_toArray, List.set_cons_zero, List.set_cons_succ]
        refine onlyL (i := 9) (by kernel_rfl) rfl (by rfl) (fun K hK => ?_)
        go_simp
        have t5 : Below w3.heap.size wr (w4.alloc (.cells #[.slice a4 row.length k4] 23)) := hHeld.alloc (by omega) _
        clear hHeld
        refine hK.out _ _ (fun _ => t5) (fun hHeld => ?_)
        have hHeld := hHeld (by decide)
        clear hK K t5
        try simp only [Act.put, List.setIfInBounds_toArray, List.set_cons_zero, List.set_cons_succ]
        refine onlyL (i := 10) (by kernel_rfl) rfl (by rfl) (fun K hK => ?_)
        have hown : w4.ownsRow w3.heap.size 23 1 bv vs.length vs := O4.out.1.1
        refine wp_pushL (.tmp 19) (.tmp 27) 24 28 rfl rfl 23 (.slice none 0 0) 24 Tryz.underlying24 Tryz.infoL rfl w3.heap.size (.slice a4 row.length k4) bv vs.length vs hown rfl w4.heap.size rfl rfl rfl (by unfold maxLen; omega) (by omega) (by omega) ?_
        intro v5 w5 hown5 hg5
        have hbv : ∀ q, bv.ownBlock = some q → w3.heap.size ≤ q ∧ q < wr.heap.size := fun q hq => ⟨(O4.out.1.1.lt q hq).1, O4.out.1.2 q hq⟩
        have O5 := Lib.hid (Ioo.push O4.out U4.out (Nat.le_refl _) hs4 hwr hown5 hg5)
        have hne : ∀ q, q < w3.heap.size → bv.ownBlock ≠ some q := fun q hq e => by have := hbv q e; omega
        have D5 := Lib.hid (D4.out.of_block (hg5.block (by omega) (hne b hb3)))
        have C5 := Lib.hid (C4.out.of_block (hg5.block (by omega) (hne _ (by omega))))
        have M5 := Lib.hid (M4.out.of_block (hg5.block (by omega) (hne _ (by omega))))
        have I5 : Hid (Io lo1 hi1 w5 (.slice a1 m.facts.length k1) m.facts) := Lib.hid (hg5.ro I4.out (apart_lt (B := w3.heap.size) (fun q hq => by have := I4.out.2 q hq; omega) (fun q hq => (hbv q hq).1)))
        have t5 : Below w3.heap.size w4 w5 := hg5.below (by omega) (fun q hq => (hbv q hq).1)
        have B5 : Hid (Below w.heap.size w w5) := Lib.hid (B4.out.trans (t5.mono (by omega)))
        have hs5 : w4.heap.size ≤ w5.heap.size := t5.size
        have t6 : Below w3.heap.size wr w5 := T4.out.trans t5
        obtain ⟨v5a, v5c, e5⟩ := O5.out.1.form
        rw [show (vs ++ [Value.slice a4 row.length k4]).length = k + 1 by simp [hvl]] at e5
        have d5 := D5.out.cell 1
        have f5 := D5.out.frozen 1
        clear hHeld hown hown5 hbv hne t5 O4 D4 I4 C4 M4 B4 hg5
        refine hK.out _ _ (fun _ => t6) (fun hHeld => ?_)
        have hHeld := hHeld (by decide)
        clear hK K t6
        try simp only [Act.put, List.setIfInBounds_toArray, List.set_cons_zero, List.set_cons_succ]
        refine takeA (i := 11) (v := .pointer (some ⟨b, 1, none⟩)) 29 rfl rfl (by kernel_rfl) (by kernel_rfl) (by kernel_rfl) (by kernel_rfl) (fun _ _ _ h => h) (Or.inl ⟨by rfl, by intro W hSw; go_simp⟩) hHeld ?_
        simp only [Act.put, List.setIfInBounds_toArray, List.set_cons_zero, List.set_cons_succ]
        refine onlyL (i := 12) (by kernel_rfl) rfl (by rfl) (fun K hK => ?_)
        simp only [List.getElem?_cons_succ, List.getElem?_cons_zero] at d5
        subst e5
        go_simp
        refine hK.out _ _ (fun h => absurd (by decide) h) (fun _ => ?_)
        clear hK K hHeld
        refine doneL (by kernel_rfl) ?_ _
        clear d5 f5
        go_wp2
        go_roundw
        case rel =>
          refine ⟨k + 1, _, vs ++ [.slice a4 row.length k4], by omega, by go_num, Lib.hid (D5.out.set 1 _), Lib.hid ?_, Lib.hid (I5.out.keeps (Keeps.setCell _ _ _ _ hr1)), Lib.hid (C5.out.other (by omega) _ _), Lib.hid (M5.out.other (by omega) _ _), Lib.hid (B5.out.setCell (by show _ ≤ b; omega) _), by simp [World.setCell]; omega⟩
          rw [HTK.out]
          exact (O5.out.keeps (Keeps.setCell w5 b 1 (.slice v5a (k + 1) v5c) (.inl hb3))).wide (Nat.le_refl _) (Keeps.setCell (lo := 0) (hi := 0) w5 b 1 (.slice v5a (k + 1) v5c) (.inr (Nat.zero_le _))).size
        case measure => simp [intOf]; omega
      · obtain rfl : k = m.blocks.length := by omega
        obtain ⟨ba, bc, e5⟩ := OR.out.1.form
        have hvl : vs.length = m.blocks.length := by rw [OR.out.2.1.1, List.length_take]; omega
        rw [hvl] at e5
        subst e5
        obtain ⟨m0, m1, m2, m3, m4, m5⟩ := MR.out
        go_wp2_with (refine wpList_loadM rfl 26 _ rfl b 0 rfl 26 _ [.slice a1 m.facts.length k1, .slice ba m.blocks.length bc, .int .i64 m.actual] DR.out (fun j _ => by rw [Nat.zero_add]) _ Tryz.underlying26 rfl Tryz.sizeMd ?_)
        clear m0 m1 m2 m3 m4 m5
        have M6 := MR.out.write (.slice a1 m.facts.length k1) (.slice ba m.blocks.length bc) m.actual
        refine bodyPost_ret (results_mid1 Tryz.results62 _ _ _ _ _ rfl M6.range Tryz.underlying26 rfl Tryz.sizeMd) rfl ?_
        refine ⟨_, rfl, ⟨_, _, vs, rfl, ?_, ?_, ?_⟩, ((BR.out.setCell (by show _ ≤ w.heap.size + 1; omega) _).setCell (by show _ ≤ w.heap.size + 1; omega) _).setCell (by show _ ≤ w.heap.size + 1; omega) _⟩
        · exact (IR.out.keeps (((Keeps.setCell _ _ _ _ (by omega)).set (by omega) _ _).set (by omega) _ _)).wide (by omega) (by simp [World.setCell]; omega)
        · have h := OR.out
          rw [List.take_of_length_le (Nat.le_refl _)] at h
          exact (h.keeps (((Keeps.setCell _ _ _ _ (by omega)).set (by omega) _ _).set (by omega) _ _)).wide (by omega) (by simp [World.setCell])
        · intro u hu
          refine apart_lt (B := w3.heap.size) (fun q hq => by have := IR.out.2 q hq; omega) (fun q hq => ?_)
          rcases List.mem_cons.1 hu with rfl | hu
          · exact (OR.out.1.1.lt q hq).1
          · exact (OR.out.2.1.blk hu q hq).1
end Go.Proofs.YtodjohdbngbpaaaGreat

/-
  Contracts of grid.numbersOk, gridOf; ModelOk, CountWorlds of both sides.
-/
namespace Go.Proofs.YtodjohdbngbpaaaGreat
open Go.RowKit Go.WideShapes
open Go Go.Deep

def intEq : Value → Value → Bool
  | .int _ x, .int _ y => x == y
  | _, _ => false
theorem run_row_eq (l l' : List Int) (h : l.length = 16) (h' : l'.length = 16) (w : World) :
    (Op.equalIn 10000 82 (.agg (ints l).toArray) (.agg (ints l').toArray)).run Tryz.prog w = .ok (decide (l = l')) w := by
  obtain ⟨i0, hi, _⟩ := info_parts Tryz.infoI
  obtain ⟨r, hr, hiff⟩ := equalIn_arr (P := Tryz.prog) 9999 (ints l) (ints l') Tryz.underlying82 hi (by kernel_rfl) (by kernel_rfl) (by rw [ints_len, h]) (by rw [ints_len, h']) intEq
    (fun a b ha hb W => by
      unfold ints at ha hb
      obtain ⟨x, _, rfl⟩ := List.mem_map.1 ha
      obtain ⟨y, _, rfl⟩ := List.mem_map.1 hb
      exact run_equalIn_int W 9998 3 .i64 .i64 x y Tryz.underlying3)
    (fun a b ha hb => by
      unfold ints at ha hb
      obtain ⟨x, _, rfl⟩ := List.mem_map.1 ha
      obtain ⟨y, _, rfl⟩ := List.mem_map.1 hb
      simp [intEq]) w
  refine hr.trans ?_
  have hinj : ints l = ints l' ↔ l = l' := by
    constructor
    · intro e
      apply List.ext_getElem?
      intro j
      rcases Nat.lt_or_ge j 16 with hj | hj
      · have := congrArg (·[j]?) e
        simp only [ints_at (show j < l.length by omega), ints_at (show j < l'.length by omega), Option.some.injEq, Value.int.injEq, true_and] at this
        rw [getD_some 0 (show j < l.length by omega), getD_some 0 (show j < l'.length by omega), this]
      · rw [List.getElem?_eq_none (by omega), List.getElem?_eq_none (by omega)]
    · intro e; rw [e]
  rw [hinj] at hiff
  cases r with
  | true => rw [decide_eq_true (hiff.1 rfl)]
  | false => rw [decide_eq_false (fun e => by have := hiff.2 e; cases this)]

/-- a row's blocks are numbered in the order in which they are met -/
def rowOk (rows : List (List Int)) (n k : Nat) : Bool := decide (pad (rows.getD k []) = pad (num ((pad (rows.getD k [])).take n)))
def okNums (n : Nat) (f : List Int) (rows : List (List Int)) (c : Int) : Bool :=
  ((List.range 16).all fun j => inB ((pad f).getD j 0) 16) && ((List.range 3).all fun k => rowOk rows n k) && inB c n
theorem all_false {p : Nat → Bool} {k m : Nat} (h : p k = false) (hk : k < m) : (List.range m).all p = false := by
  rw [List.all_eq_false]
  exact ⟨k, List.mem_range.2 hk, by rw [h]; decide⟩
theorem all_succ {p : Nat → Bool} {k : Nat} (h : (List.range k).all p = true) (hk : p k = true) : (List.range (k + 1)).all p = true := by
  rw [List.range_succ, List.all_append, h]; simp [hk]

theorem rows48 (G : List Int) : ∀ j, j < (ints ((G.drop 18).take 48)).length → (ints G)[18 + j]? = (ints ((G.drop 18).take 48))[j]? := by
  intro j hj
  rw [ints_len, List.length_take] at hj
  rw [ints_get, ints_get, List.getElem?_take_of_lt (by omega), List.getElem?_drop]
theorem rows48_len (G : List Int) (h : G.length = 67) : (ints ((G.drop 18).take 48)).length = 48 := by rw [ints_len, List.length_take, List.length_drop]; omega
theorem rows48_row {n a c : Int} {f : List Int} {rows : List (List Int)} (hs : small f rows) {k : Nat} (hk : k < 3) :
    ((ints (((gL n a f rows c).drop 18).take 48)).drop (k * 16)).take 16 = ints (pad (rows.getD k [])) := by
  have hl := gL_len (n := n) (a := a) (c := c) hs
  have hp := pad_len (hs.2 k)
  apply List.ext_getElem?
  intro j
  rcases Nat.lt_or_ge j 16 with hj | hj
  · rw [List.getElem?_take_of_lt hj, List.getElem?_drop, ints_get, List.getElem?_take_of_lt (by omega), List.getElem?_drop, ints_get, ← gL_r hs hk hj, show 18 + (k * 16 + j) = 18 + k * 16 + j by omega]
  · rw [List.getElem?_eq_none (by rw [List.length_take]; omega), List.getElem?_eq_none (by rw [ints_len]; omega)]

set_option maxRecDepth 100000 in
set_option maxHeartbeats 8000000 in
theorem numbersOk_any (n : Nat) (a c : Int) (f : List Int) (rows : List (List Int)) (hs : small f rows) (hn : n ≤ 16) (w : World) :
    Calls Tryz.prog 109 #[.agg (ints (gL n a f rows c)).toArray] w fun e w' => e = .returned (.bool (okNums n f rows c)) ∧ Below w.heap.size w w' := by
  obtain ⟨i0, hi, _, hi1, _⟩ := info_parts Tryz.infoI
  have HL : Hid ((ints (gL n a f rows c)).length = 67) := Lib.hid (by rw [ints_len]; exact gL_len hs)
  have HC := Lib.hid (fun (W : World) b T (h : Cm W b T (ints (gL n a f rows c))) => And.intro h.g0 (h.g66 hs))
  have HF : Hid (∀ j, j < (ints (pad f)).length → (ints (gL n a f rows c))[2 + j]? = (ints (pad f))[j]?) := Lib.hid (fun j hj => by rw [ints_len, pad_len hs.1] at hj; rw [ints_get, ints_get, gL_f hs hj])
  have HFL : Hid ((ints (pad f)).length = 16) := Lib.hid (by rw [ints_len]; exact pad_len hs.1)
  have KW := Lib.hid (fun W => hasWorld_any n a c f rows c W)
  have HO : Hid (okNums n f rows c = (((List.range 16).all fun j => inB ((pad f).getD j 0) 16) && ((List.range 3).all fun k => rowOk rows n k) && inB c n)) := Lib.hid rfl
  have HFA : Hid (∀ j, j < 16 → (ints (pad f))[j]? = some (.int .i64 ((pad f).getD j 0))) := Lib.hid (fun j hj => ints_at (by rw [pad_len hs.1]; exact hj))
  have H48R : Hid (∀ k, k < 3 → ((ints (((gL n a f rows c).drop 18).take 48)).drop (k * 16)).take 16 = ints (pad (rows.getD k []))) := Lib.hid (fun k hk => rows48_row hs hk)
  have HPL : Hid (∀ k, (pad (rows.getD k [])).length = 16) := Lib.hid (fun k => pad_len (hs.2 k))
  generalize gL n a f rows c = G at *
  generalize okNums n f rows c = R at *
  go_enter Tryz.func109, Tryz.ntmps109
  go_wp2_with (refine wpList_loadM rfl 82 _ rfl w.heap.size 2 rfl 85 (ints G) (ints (pad f)) (Cm.new rfl) HF.out _ Tryz.underlying82 rfl (by rw [HFL.out]; exact Tryz.sizeRow) ?_)
  have C1 : Cm (w.alloc (.cells (ints G).toArray 85)) w.heap.size 85 (ints G) := Cm.new rfl
  have B1 : Below w.heap.size w (w.alloc (.cells (ints G).toArray 85)) := by go_grown
  generalize w.alloc (.cells (ints G).toArray 85) = w1 at *
  have CC := Lib.hid C1
  have BB := Lib.hid B1
  have hw1 : w.heap.size < w1.heap.size := C1.lt
  clear C1 B1
  go_loop [9] (fun iv => ∃ k : Nat, k ≤ 16 ∧ iv = .int .i64 k ∧ Hid ((List.range k).all (fun j => inB ((pad f).getD j 0) 16) = true)) (fun iv => 16 - (intOf iv).toNat)
  case atStart => exact ⟨0, Nat.zero_le _, rfl, Lib.hid rfl⟩
  case round =>
    obtain ⟨k, hk, rfl, HK⟩ := hrel
    by_cases hlt : k < 16
    · have HX := Lib.hid (HFA.out k hlt)
      have HBAD : Hid (inB ((pad f).getD k 0) 16 = false → R = false) := Lib.hid (fun h => by rw [HO.out, all_false (p := fun j => inB ((pad f).getD j 0) 16) h hlt]; rfl)
      have HGOOD : Hid (inB ((pad f).getD k 0) 16 = true → (List.range (k + 1)).all (fun j => inB ((pad f).getD j 0) 16) = true) := Lib.hid (fun h => all_succ HK.out h)
      generalize (pad f).getD k 0 = x at HX HBAD HGOOD
      rcases Int.lt_or_le x 0 with h0 | h0
      · have HR := Lib.hid (HBAD.out (inB_low h0))
        go_wp2_with (refine wpList_indexM rfl 82 (.tmp 8) (.tmp 9) rfl (ints (pad f)) rfl .i64 k rfl 16 3 Tryz.underlying82 (by kernel_rfl) i0 hi hi1 hlt _ HX.out ?_)
        go_ret
        exact ⟨ret_bool HR.out.symm, BB.out⟩
      · rcases Int.lt_or_le x 16 with h1 | h1
        · have HG := Lib.hid (HGOOD.out (inB_yes h0 h1))
          go_wp2_with (refine wpList_indexM rfl 82 (.tmp 8) (.tmp 9) rfl (ints (pad f)) rfl .i64 k rfl 16 3 Tryz.underlying82 (by kernel_rfl) i0 hi hi1 hlt _ HX.out ?_)
          go_round
          case rel => exact ⟨k + 1, by omega, by go_num, HG⟩
          case measure => simp [intOf]; omega
        · have HR := Lib.hid (HBAD.out (inB_high h1))
          go_wp2_with (refine wpList_indexM rfl 82 (.tmp 8) (.tmp 9) rfl (ints (pad f)) rfl .i64 k rfl 16 3 Tryz.underlying82 (by kernel_rfl) i0 hi hi1 hlt _ HX.out ?_)
          go_ret
          exact ⟨ret_bool HR.out.symm, BB.out⟩
    · obtain rfl : k = 16 := by omega
      have HO2 : Hid (R = (((List.range 3).all fun k => rowOk rows n k) && inB c n)) := Lib.hid (by rw [HO.out, HK.out]; simp)
      have H48 := Lib.hid (rows48 G)
      have H48L := Lib.hid (rows48_len G (by rw [← ints_len]; exact HL.out))
      generalize ints ((G.drop 18).take 48) = R48 at *
      go_wp2_with (refine wpList_loadM rfl 83 _ rfl w.heap.size 18 rfl 85 (ints G) R48 CC.out H48.out _ Tryz.underlying83 rfl (by rw [H48L.out]; exact Tryz.sizeRows) ?_)
      clear HFA HFL HF HO HK
      obtain ⟨ir, hir⟩ : ∃ ir, Tryz.prog.info? 82 = some ir := by
        have := Tryz.sizeRow
        cases h : Tryz.prog.info? 82 with
        | none => rw [h] at this; cases this
        | some q => exact ⟨q, rfl⟩
      have hirs : ir.size = 16 := by have := Tryz.sizeRow; rw [hir] at this; simpa using this
      have HIR := Lib.hid hir
      have HIRS := Lib.hid hirs
      clear hir hirs
      go_loopw [21] (fun iv wr => ∃ k : Nat, k ≤ 3 ∧ iv = .int .i64 k ∧ Hid ((List.range k).all (fun k => rowOk rows n k) = true) ∧ Hid (Cm wr w.heap.size 85 (ints G)) ∧ Hid (Below w.heap.size w wr) ∧ w.heap.size < wr.heap.size) (fun iv _ => 3 - (intOf iv).toNat)
      case atStart => exact ⟨0, Nat.zero_le _, rfl, Lib.hid rfl, CC, BB, hw1⟩
      case round =>
        obtain ⟨k, hk, rfl, HK, C0, HB, hwr⟩ := hrel
        by_cases hlt : k < 3
        · have HROW := Lib.hid (H48R.out k hlt)
          have HL16 := Lib.hid (HPL.out k)
          have HBAD : Hid (rowOk rows n k = false → R = false) := Lib.hid (fun h => by rw [HO2.out, all_false h hlt]; rfl)
          have HGOOD : Hid (rowOk rows n k = true → (List.range (k + 1)).all (fun k => rowOk rows n k) = true) := Lib.hid (fun h => all_succ HK.out h)
          have HDEF : Hid (rowOk rows n k = decide (pad (rows.getD k []) = pad (num ((pad (rows.getD k [])).take n)))) := Lib.hid rfl
          generalize rowOk rows n k = ok at *
          generalize pad (rows.getD k []) = P at *
          have HP1 := Lib.hid (fun v (hv : v ∈ ints P) => ints_one hv)
          have HIL : Hid ((ints P).length = 16) := Lib.hid (by rw [ints_len]; exact HL16.out)
          go_wp2_with (first
            | (refine wpList_indexR rfl 83 (.tmp 20) (.tmp 21) rfl R48 rfl .i64 k rfl 3 16 82 3 Tryz.underlying83 Tryz.underlying82 ir HIR.out hlt (ints P) (by rw [HIRS.out]; exact HROW.out) ?_)
            | (refine wpList_storeM rfl 82 (.tmp 6) (.tmp 23) rfl wr.heap.size 0 rfl (ints P) rfl 82 (ints (List.replicate 16 0)) (Cm.new rfl) (by rw [HIL.out, ints_len]; simp) (by rw [HIL.out]; exact Tryz.sizeRow) HP1.out ?_; intro w2 hc2 ha2; rw [lay'_all (by rw [HIL.out, ints_len]; simp)] at hc2; have C2 := Lib.hid hc2; have C1 := Lib.hid (ha2.cm (C0.out.alloc (.cells (ints (List.replicate 16 0)).toArray 82)) (by omega)); have HB2 : Hid (Below w.heap.size w w2) := Lib.hid (Below.trans (HB.out.alloc (Nat.le_of_lt hwr) _) (ha2.below (Nat.le_of_lt hwr))); clear hc2 ha2))
          have hq2 : wr.heap.size < w2.heap.size := C2.out.lt
          have hq1 : w.heap.size < w2.heap.size := C1.out.lt
          have KN := Lib.hid (fun W => numbered_any P n W HL16.out hn)
          have HQL : Hid ((pad (num (P.take n))).length = 16) := Lib.hid (pad_len (by rw [num_len, List.length_take, HL16.out]; omega))
          have hEq := fun W => run_row_eq P (pad (num (P.take n))) HL16.out HQL.out W
          rw [← HDEF.out] at hEq
          have HU : Tryz.prog.underlying 82 = some (.array 16 3) := Tryz.underlying82
          have HSZ : (Tryz.prog.info? 82).map (·.size) = some (ints P).length := by rw [HIL.out]; exact Tryz.sizeRow
          have hc0 := (HC.out _ _ _ C1.out).1
          have hrg : w2.rangeAt wr.heap.size 0 (ints P) := C2.out.whole
          clear HDEF
          generalize pad (num (P.take n)) = P' at *
          go_wp2
          have hS : ∀ W : World, Below w2.heap.size w2 W → W.rangeAt wr.heap.size 0 (ints P) := fun W h j v hj => by rw [h.cell (p := ⟨wr.heap.size, 0 + j, none⟩) hq2]; exact hrg j v hj
          have hS0 : ∀ W : World, Below w2.heap.size w2 W → W.cell? ⟨w.heap.size, 0, none⟩ = some (.int .i64 n) := fun W h => by rw [h.cell (p := ⟨w.heap.size, 0, none⟩) hq1]; exact hc0
          have HS := Lib.hid hS
          have HS0 := Lib.hid hS0
          clear hS hS0 hrg hc0
          refine wp_region_held_drew (S := fun w' => Below w2.heap.size w2 w') (by kernel_rfl) (Below.refl _ _).drew (fun hHeld => ?_)
          refine wpAnyH_take (i := 0) rfl (by kernel_rfl) (by kernel_rfl) (by kernel_rfl) (fun _ _ _ h => h) (yieldsIf_load_mid (by rfl) 82 _ rfl wr.heap.size 0 rfl (ints P) _ HS.out HU rfl HSZ) hHeld ?_
          simp only [Act.put, List.setIfInBounds_toArray]
          refine wpAnyH_take (i := 1) rfl (by kernel_rfl) (by kernel_rfl) (by kernel_rfl) (fun _ _ _ h => h) (yieldsIf_load_mid (by rfl) 82 _ rfl wr.heap.size 0 rfl (ints P) _ HS.out HU rfl HSZ) hHeld ?_
          simp only [Act.put]
          refine wpAnyH_take (i := 2) (v := .pointer (some ⟨w.heap.size, 0, none⟩)) rfl (by kernel_rfl) (by kernel_rfl) (by kernel_rfl) (fun _ _ _ h => h) (Or.inl ⟨by rfl, by intro w hSw; go_simp⟩) hHeld ?_
          simp only [Act.put]
          refine wpAnyH_take (i := 3) (v := .int .i64 n) rfl (by kernel_rfl) (by kernel_rfl) (by kernel_rfl) (fun _ _ _ h => h) (Or.inl ⟨by rfl, by intro w hSw; have h2 := HS0.out w hSw; go_simp⟩) hHeld ?_
          simp only [Act.put]
          refine wpAnyH_ready (rs := [4]) (by kernel_rfl) (by simp) ?_
          refine AllReadyH.cons rfl (fun K hK => ?_) AllReadyH.nil
          go_simp
          refine (KN.out _).mono ?_
          rintro e w3 ⟨rfl, hb3⟩
          have hB3 : Below w2.heap.size w2 w3 := (Below.refl _ _).drew.trans hb3
          clear hb3 hHeld
          refine hK.out _ _ hB3 (fun hHeld => ?_)
          clear hK K
          refine wpAnyH_take (i := 5) (v := .bool (!ok)) rfl (by kernel_rfl) (by kernel_rfl) (by kernel_rfl) (fun _ _ _ h => h) (Or.inl ⟨by rfl, by intro w hSw; go_simp⟩) hHeld ?_
          simp only [Act.put, List.setIfInBounds_toArray]
          refine wpAnyH_done (by kernel_rfl) ?_ _
          have HB3 : Hid (Below w.heap.size w w3) := Lib.hid (HB2.out.trans (hB3.mono HB2.out.size))
          have C3 := Lib.hid (C1.out.all hB3)
          have hs3 : w.heap.size < w3.heap.size := C3.out.lt
          clear hB3 hHeld HS HS0 hEq
          cases ok with
          | false =>
            have HR := Lib.hid (HBAD.out rfl)
            go_wp2
            go_ret
            exact ⟨ret_bool HR.out.symm, HB3.out⟩
          | true =>
            have HR := Lib.hid (HGOOD.out rfl)
            go_wp2
            go_roundw
            case rel => exact ⟨k + 1, by omega, by go_num, HR, C3, HB3, hs3⟩
            case measure => simp [intOf]; omega
        · obtain rfl : k = 3 := by omega
          have HO3 : Hid (R = inB c n) := Lib.hid (by rw [HO2.out, HK.out]; simp)
          have hc66 := (HC.out _ _ _ C0.out).2
          rw [← HO3.out] at KW
          go_wp2_with (refine wpList_loadM rfl 85 _ rfl w.heap.size 0 rfl 85 (ints G) (ints G) C0.out (fun j _ => by rw [Nat.zero_add]) _ Tryz.underlying85 rfl (by rw [HL.out]; exact Tryz.sizeGrid) ?_)
          refine (KW.out _).mono ?_
          rintro e w3 ⟨rfl, hb3⟩
          have HB3 : Hid (Below w.heap.size w w3) := Lib.hid (HB.out.trans (hb3.mono HB.out.size))
          clear hb3 hc66
          go_wp2
          go_ret
          exact ⟨rfl, HB3.out⟩
end Go.Proofs.YtodjohdbngbpaaaGreat
