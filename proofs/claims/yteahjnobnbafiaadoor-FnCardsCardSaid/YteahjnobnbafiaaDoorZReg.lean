/-
  Several texts in one: Reg Psh Lst. Conditions: as each theorem says.
-/
import Derived.Test.YteahjnobnbafiaaDoorZArr
import Derived.OrdersHeld
import Derived.Deep.RegionHeld
import Derived.Test.YteahjnobnbafiaaDoorZLib
/-
  Small laws over any program for regions that draw their order: one operation taken first, its slot named; a load of a struct or an array; a call; an append; a local that is laid; a store.
-/
namespace Go.Proofs.YteahjnobnbafiaaDoor
open Go.RowKit
open Go Go.Deep

section
variable {P : Program} {ops : Array Oper} {Q : Exit → Act → World → Prop} {md : Region.Mode} {S : World → Prop}
/-- an operation that yields in every world of S is taken first; its slot named -/
theorem takeE {i : Nat} {oi : Oper} {v : Value} {fuel : Nat} {listed : Array Bool} {a : Act} {w : World} (d : Nat) (hi : ops[i]? = some oi) (hd : oi.dst = some d)
    (hs : Region.noSelect ops = true) (hf : Region.free md ops listed i = true) (hr : (Region.ready md ops listed).contains i = true)
    (hQ : ∀ c a w, Q (.panic c) (a.put oi.dst v) w → Q (.panic c) a w) (hy : YieldsIf P ops S oi v a) (hS : S w)
    (h : wpAnyH P md ops Q S fuel (listed.setIfInBounds i true) (a.put (some d) v) w) : wpAnyH P md ops Q S (fuel + 1) listed a w :=
  wpAnyH_take hi hs hf hr hQ hy hS (by rw [hd]; exact h)
/-- one operation alone may come up -/
theorem onlyE {i : Nat} {oi : Oper} {fuel : Nat} {listed : Array Bool} {a : Act} {w : World} (hr : Region.ready md ops listed = [i]) (hi : ops[i]? = some oi) (hw : Region.wanted oi (yielded ops a.tmps) = true)
    (h : ∀ K : Act → World → Prop, Shut (∀ a w, S w → (S w → wpAnyH P md ops Q S fuel (listed.setIfInBounds i true) a w) → K a w) → Oper.wp P oi a w K Q) : wpAnyH P md ops Q S (fuel + 1) listed a w :=
  wpAnyH_ready hr (by simp) (AllReadyH.cons hi (fun K hK => by rw [if_pos hw]; exact h K hK) AllReadyH.nil)
/-- two operations may come up -/
theorem twoE {i j : Nat} {oi oj : Oper} {fuel : Nat} {listed : Array Bool} {a : Act} {w : World} (hr : Region.ready md ops listed = [i, j]) (hi : ops[i]? = some oi) (hj : ops[j]? = some oj)
    (hwi : Region.wanted oi (yielded ops a.tmps) = true) (hwj : Region.wanted oj (yielded ops a.tmps) = true)
    (h1 : ∀ K : Act → World → Prop, Shut (∀ a w, S w → (S w → wpAnyH P md ops Q S fuel (listed.setIfInBounds i true) a w) → K a w) → Oper.wp P oi a w K Q)
    (h2 : ∀ K : Act → World → Prop, Shut (∀ a w, S w → (S w → wpAnyH P md ops Q S fuel (listed.setIfInBounds j true) a w) → K a w) → Oper.wp P oj a w K Q) : wpAnyH P md ops Q S (fuel + 1) listed a w :=
  wpAnyH_ready hr (by simp) (AllReadyH.cons hi (fun K hK => by rw [if_pos hwi]; exact h1 K hK) (AllReadyH.cons hj (fun K hK => by rw [if_pos hwj]; exact h2 K hK) AllReadyH.nil))
/-- an operation whose run is known -/
theorem wp_run {o : Oper} {a : Act} {w w' : World} {K : Act → World → Prop} (v : Value) (hr : (execOp a.eval o).run P w = .ok (.value v) w') (h : K (a.put o.dst v) w') : Oper.wp P o a w K Q := by
  unfold Oper.wp; rw [hr]; exact h
/-- an operation that leaves no value -/
theorem wp_skip {o : Oper} {a : Act} {w w' : World} {K : Act → World → Prop} (hr : (execOp a.eval o).run P w = .ok .skip w') (h : K (a.put o.dst undef) w') : Oper.wp P o a w K Q := by
  unfold Oper.wp; rw [hr]; exact h
/-- a local that is laid in memory -/
theorem wp_allocM {o : Oper} {a : Act} {w : World} {K : Act → World → Prop} (T : TypeId) (d : Nat) (hd : o.dst = some d) (ho : o.op = .alloc T) (cs : List Value)
    (hr : ∀ w : World, (Instr.alloc T true (.tuple #[])).run P w = .ok (.pointer (some ⟨w.heap.size, 0, none⟩)) (w.alloc (.cells cs.toArray T)))
    (h : K (a.put (some d) (.pointer (some ⟨w.heap.size, 0, none⟩))) (w.alloc (.cells cs.toArray T))) : Oper.wp P o a w K Q := by
  refine wp_run _ ?_ (by rw [hd]; exact h)
  unfold execOp
  simp only [ho, Sem.run_bind, hr, Result.andThen_ok, Sem.run_pure]
/-- a struct or an array is stored into a block of one's own -/
theorem wp_storeM {o : Oper} {a : Act} {w : World} {K : Act → World → Prop} (ty : TypeId) (x y : Operand) (hd : o.dst = none) (ho : o.op = .store ty x y)
    (b off : Nat) (hx : a.eval x = .pointer (some ⟨b, off, none⟩)) (vs : List Value) (hy : a.eval y = .agg vs.toArray) (B : TypeId) (cs : List Value) (hc : Cm w b B cs) (hfit : off + vs.length ≤ cs.length)
    (hi : (P.info? ty).map (·.size) = some vs.length) (h1 : ∀ v ∈ vs, v.oneCell' = true)
    (h : ∀ w', Cm w' b B (lay' cs off vs) → At b w w' → K a w') : Oper.wp P o a w K Q := by
  have h := fun w' h1 h2 => (show a.put o.dst undef = a by rw [hd]; rfl) ▸ h w' h1 h2
  have hr := run_storeVar_mid (P := P) w b off ty vs.toArray (by rw [List.size_toArray]; exact hc.there _ _ hfit) (by rw [List.size_toArray]; exact hi) (all_oneCell_toArray h1)
  refine wp_skip (w' := w.setCells b off vs) ?_ (h _ (hc.sets vs off) (At.setCells w b off vs))
  unfold execOp
  simp only [ho, hx, hy, Instr.storeAt, Instr.sureAddr, Sem.run_bind, Sem.run_pure, Result.andThen_ok, hr]
end
end Go.Proofs.YteahjnobnbafiaaDoor

/-
  An append that tells where its row lies, at one operation of any region; rows of rows that grow by a row. Any program.
-/
namespace Go.Proofs.YteahjnobnbafiaaDoor
open Go.RowKit
open Go Go.Deep

/-- where a row lies behind an append -/
def Where (w : World) (v v' : Value) : Prop := v'.ownBlock = v.ownBlock ∨ ∃ g, v'.ownBlock = some g ∧ w.heap.size ≤ g
/-- what an append to the row v has done to memory -/
def Grewn (w : World) (v : Value) (w' : World) (v' : Value) : Prop := w.grownBy w' v.ownBlock ∧ Where w v v'
theorem Grewn.below {w w' : World} {v v' : Value} {base : Nat} (h : Grewn w v w' v') (hb : base ≤ w.heap.size) (hv : ∀ k, v.ownBlock = some k → base ≤ k) : Below base w w' :=
  (Below.refl base w).grown h.1 hb hv
theorem Grewn.size {w w' : World} {v v' : Value} (h : Grewn w v w' v') : w.heap.size ≤ w'.heap.size := h.1.size
/-- a block that is not the row's is kept -/
theorem Grewn.block {w w' : World} {v v' : Value} (h : Grewn w v w' v') {b : Nat} (hb : b < w.heap.size) (hne : v.ownBlock ≠ some b) : w'.heap[b]? = w.heap[b]? :=
  h.1.block b hb (fun e => hne e.symm)
theorem Grewn.ro {lo hi : Nat} {w w' : World} {v v' u : Value} {e : TypeId} {xs : List Value} (h : Grewn w v w' v') (hu : Ro lo hi w e u xs) (ha : apart u v) : Ro lo hi w' e u xs := hu.keptBy h.1 ha
theorem Grewn.where_lo {w w' : World} {v v' : Value} {lo : Nat} (h : Grewn w v w' v') (hv : ∀ k, v.ownBlock = some k → lo ≤ k) (hw : lo ≤ w.heap.size) : ∀ k, v'.ownBlock = some k → lo ≤ k := by
  intro k hk
  rcases h.2 with e | ⟨g, e, hg⟩
  · exact hv k (by rw [← e]; exact hk)
  · rw [e] at hk; simp at hk; omega
theorem apart_where {w w' : World} {v v' u : Value} (h : Grewn w v w' v') (ha : apart u v) (hu : ∀ k, u.ownBlock = some k → k < w.heap.size) : apart u v' := by
  rcases h.2 with e | ⟨g, e, hg⟩
  · rcases ha with ha | ha
    · exact .inl ha
    · exact .inr (by rw [e]; exact ha)
  · cases hq : u.ownBlock with
    | none => exact .inl hq
    | some k => exact .inr (by rw [hq, e]; intro e2; simp at e2; have := hu k hq; omega)

section
variable {P : Program}
/-- append(s, x...), x a row of one-cell values that is not empty, s a row of the call's own -/
theorem wp_appendL {o : Oper} {a : Act} {w : World} {K : Act → World → Prop} {Q : Exit → Act → World → Prop} (s x : Operand) (t : TypeId) (d : Nat) (hd : o.dst = some d)
    (ho : o.op = .call { callee := .builtin .append, args := #[s, x], argTypes := #[t, t] })
    (e : TypeId) (z : Value) (bytes : Nat) (ht : P.underlying t = some (.slice e))
    (hinfo : (P.info? e).map (fun i => (i.zero, i.size, i.bytes)) = some (some z, 1, bytes)) (hzs : z.cells.size = 1)
    (base : Nat) (v : Value) (n : Nat) (xs : List Value) (hown : w.ownsRow base e 1 v n xs) (hs : a.eval s = v)
    (ad : Addr) (m c : Nat) (news : List Value) (hx : a.eval x = .slice (some ad) m c) (hl : news.length = m) (hm : 0 < m) (hnews : ∀ j u, news[j]? = some u → w.cell? (ad.add j) = some u) (h1 : ∀ u ∈ news, u.oneCell' = true)
    (h63 : n + m ≤ maxLen) (hbytes : (n + m) * bytes ≤ 140737488355328) (hbase : base ≤ w.heap.size)
    (h : ∀ v' w', w'.ownsRow base e 1 v' (n + m) (xs ++ news) → Grewn w v w' v' → K (a.put (some d) v') w') : Oper.wp P o a w K Q := by
  rw [← hd] at h
  obtain ⟨i0, hi, hz0, hz1, hz2⟩ := info_parts hinfo
  subst hz2
  have hl' : news.length = m * i0.size := by rw [hz1]; omega
  obtain ⟨v', w', hr, hown', hg, _⟩ := run_append_own (P := P) w base t o.type e i0 z 1 i0.bytes ht hi hz0 hz1 rfl hzs (by decide) v n xs hown ad m c news (by omega) hnews h1 h63 hbytes hbase
  have hloc : Where w v v' := by
    rcases hown.2 with ⟨rfl, rfl⟩ | ⟨g, cap, cur, rfl, hbg, hgg, hnc, hcm, hcs, htake⟩
    · have hr' := run_append_nil (P := P) w t o.type e i0 z ht hi hz0 ad m c news hl' hnews hm (by unfold maxLen at h63; omega) (by have hb := hbytes; rw [Nat.zero_add] at hb; omega)
      rw [hr'] at hr
      simp only [Result.ok.injEq] at hr
      rw [← hr.1]
      exact .inr ⟨_, rfl, Nat.le_refl _⟩
    · by_cases hroom : n + m ≤ cap
      · have hr' := run_append_room (P := P) w t o.type e i0 ht hi g n cap cur hgg ad m c news hl' hnews h1 hroom (by rw [hz1, hcs]; omega)
        rw [hr'] at hr
        simp only [Result.ok.injEq] at hr
        rw [← hr.1]
        exact .inl rfl
      · have holds : ∀ j u, xs[j]? = some u → w.cell? ((⟨g, 0, none⟩ : Addr).add j) = some u := hown.cells (g := g) rfl
        have hr' := run_append_grow (P := P) w t o.type e i0 z ht hi hz0 ⟨g, 0, none⟩ n cap xs (by rw [hz1]; exact hown.1) holds ad m c news hl' hnews (by omega) (by unfold maxLen at h63; omega) (growslice_fits (by omega) hbytes)
        rw [hr'] at hr
        simp only [Result.ok.injEq] at hr
        rw [← hr.1]
        exact .inr ⟨_, rfl, Nat.le_refl _⟩
  unfold Oper.wp execOp
  simp only [ho, resolve, invoke, builtin, Sem.run_bind, Sem.run_pure, Result.andThen_ok, List.map_toArray, List.map_cons, List.map_nil, hs, hx, hr]
  exact h v' w' hown' ⟨hg, hloc⟩
/-- an own row whose block lies higher -/
theorem own_base {w : World} {base base' : Nat} {e : TypeId} {size : Nat} {v : Value} {n : Nat} {xs : List Value} (h : w.ownsRow base e size v n xs) (hb : ∀ k, v.ownBlock = some k → base' ≤ k) : w.ownsRow base' e size v n xs := by
  refine ⟨h.1, ?_⟩
  rcases h.2 with hn | ⟨g, cap, cur, rfl, hbg, rest⟩
  · exact .inl hn
  · exact .inr ⟨g, cap, cur, rfl, hb g rfl, rest⟩
/-- append(s, x...) where there is no room: the row lies in a new block -/
theorem wp_appendF {o : Oper} {a : Act} {w : World} {K : Act → World → Prop} {Q : Exit → Act → World → Prop} (s x : Operand) (t : TypeId) (d : Nat) (hd : o.dst = some d)
    (ho : o.op = .call { callee := .builtin .append, args := #[s, x], argTypes := #[t, t] })
    (e : TypeId) (z : Value) (bytes : Nat) (ht : P.underlying t = some (.slice e))
    (hinfo : (P.info? e).map (fun i => (i.zero, i.size, i.bytes)) = some (some z, 1, bytes)) (hzs : z.cells.size = 1)
    (g n cap : Nat) (xs : List Value) (base : Nat) (hown : w.ownsRow base e 1 (.slice (some ⟨g, 0, none⟩) n cap) n xs) (hs : a.eval s = .slice (some ⟨g, 0, none⟩) n cap)
    (ad : Addr) (m c : Nat) (news : List Value) (hx : a.eval x = .slice (some ad) m c) (hl : news.length = m) (hroom : cap < n + m) (hnews : ∀ j u, news[j]? = some u → w.cell? (ad.add j) = some u) (h1 : ∀ u ∈ news, u.oneCell' = true)
    (h63 : n + m ≤ maxLen) (hbytes : (n + m) * bytes ≤ 140737488355328) (hbase : base ≤ w.heap.size)
    (h : ∀ v' w', w'.ownsRow w.heap.size e 1 v' (n + m) (xs ++ news) → Below w.heap.size w w' → K (a.put (some d) v') w') : Oper.wp P o a w K Q := by
  rw [← hd] at h
  obtain ⟨i0, hi, hz0, hz1, hz2⟩ := info_parts hinfo
  subst hz2
  have hl' : news.length = m * i0.size := by rw [hz1]; omega
  obtain ⟨v', w', hr, hown', hg, _⟩ := run_append_own (P := P) w base t o.type e i0 z 1 i0.bytes ht hi hz0 hz1 rfl hzs (by decide) (.slice (some ⟨g, 0, none⟩) n cap) n xs hown ad m c news (by omega) hnews h1 h63 hbytes hbase
  have hcap : n ≤ cap := by
    rcases hown.2 with ⟨e1, _⟩ | ⟨g', cap', cur, e1, _, _, hnc, _⟩
    · cases e1
    · cases e1; exact hnc
  have holds : ∀ j u, xs[j]? = some u → w.cell? ((⟨g, 0, none⟩ : Addr).add j) = some u := hown.cells (g := g) rfl
  have hr' := run_append_grow (P := P) w t o.type e i0 z ht hi hz0 ⟨g, 0, none⟩ n cap xs (by rw [hz1]; exact hown.1) holds ad m c news hl' hnews (by omega) (by unfold maxLen at h63; omega) (growslice_fits (by omega) hbytes)
  rw [hr'] at hr
  simp only [Result.ok.injEq] at hr
  obtain ⟨e1, e2⟩ := hr
  unfold Oper.wp execOp
  simp only [ho, resolve, invoke, builtin, Sem.run_bind, Sem.run_pure, Result.andThen_ok, List.map_toArray, List.map_cons, List.map_nil, hs, hx, hr']
  refine h _ _ (by rw [e1, e2]; exact own_base hown' (fun k hk => by rw [← e1] at hk; cases hk; exact Nat.le_refl _)) ?_
  exact ((Below.refl w.heap.size w).drew).alloc (Nat.le_refl _) _
/-- append(s, y), y one value of one cell that has just been laid in a block of its own -/
theorem wp_pushL {o : Oper} {a : Act} {w0 : World} {K : Act → World → Prop} {Q : Exit → Act → World → Prop} (s x : Operand) (t : TypeId) (d : Nat) (hd : o.dst = some d)
    (ho : o.op = .call { callee := .builtin .append, args := #[s, x], argTypes := #[t, t] })
    (e : TypeId) (z : Value) (bytes : Nat) (ht : P.underlying t = some (.slice e))
    (hinfo : (P.info? e).map (fun i => (i.zero, i.size, i.bytes)) = some (some z, 1, bytes)) (hzs : z.cells.size = 1)
    (base : Nat) (y v : Value) (n : Nat) (xs : List Value) (hown : w0.ownsRow base e 1 v n xs) (hs : a.eval s = v)
    (b : Nat) (hx : a.eval x = .slice (some ⟨b, 0, none⟩) 1 1) (hbk : b = w0.heap.size) (h1 : y.oneCell' = true)
    (h63 : n + 1 ≤ maxLen) (hbytes : (n + 1) * bytes ≤ 140737488355328) (hbase : base ≤ w0.heap.size)
    (h : ∀ v' w', w'.ownsRow base e 1 v' (n + 1) (xs ++ [y]) → Grewn w0 v w' v' → K (a.put (some d) v') w') : Oper.wp P o a (w0.alloc (.cells #[y] e)) K Q := by
  subst hbk
  refine wp_appendL s x t d hd ho e z bytes ht hinfo hzs base v n xs (hown.alloc _) hs ⟨w0.heap.size, 0, none⟩ 1 1 [y] hx rfl (by decide) ?_ ?_ h63 hbytes (by simp; omega) ?_
  · intro j u hu
    match j with
    | 0 =>
      simp at hu; subst hu
      rw [addr_add0, World.cell?_alloc_at _ _ _ _ rfl]; rfl
    | j + 1 => simp at hu
  · intro u hu; simp at hu; subst hu; exact h1
  · intro v' w' hown' hg
    refine h v' w' hown' ⟨⟨hg.1.os, hg.1.tape, hg.1.output, Nat.le_trans (by simp) hg.1.size, fun k hk hne => ?_⟩, ?_⟩
    · rw [hg.1.block k (by simp; omega) hne, Below.heap_alloc _ _ _ hk]
    · rcases hg.2 with e | ⟨g, e, hg2⟩
      · exact .inl e
      · exact .inr ⟨g, e, by simp at hg2; omega⟩
/-- the same in a plain region -/
theorem wpList_pushL {ops : Array Oper} {rest : List Oper} {o : Oper} {a : Act} {w0 : World} {Q : Exit → Act → World → Prop} (hgd : o.guard = none) (s x : Operand) (t : TypeId) (d : Nat) (hd : o.dst = some d)
    (ho : o.op = .call { callee := .builtin .append, args := #[s, x], argTypes := #[t, t] })
    (e : TypeId) (z : Value) (bytes : Nat) (ht : P.underlying t = some (.slice e))
    (hinfo : (P.info? e).map (fun i => (i.zero, i.size, i.bytes)) = some (some z, 1, bytes)) (hzs : z.cells.size = 1)
    (base : Nat) (y v : Value) (n : Nat) (xs : List Value) (hown : w0.ownsRow base e 1 v n xs) (hs : a.eval s = v)
    (b : Nat) (hx : a.eval x = .slice (some ⟨b, 0, none⟩) 1 1) (hbk : b = w0.heap.size) (h1 : y.oneCell' = true)
    (h63 : n + 1 ≤ maxLen) (hbytes : (n + 1) * bytes ≤ 140737488355328) (hbase : base ≤ w0.heap.size)
    (h : ∀ v' w', w'.ownsRow base e 1 v' (n + 1) (xs ++ [y]) → Grewn w0 v w' v' → wpList P ops Q rest (a.put (some d) v') w') : wpList P ops Q (o :: rest) a (w0.alloc (.cells #[y] e)) :=
  wpList_plain hgd fun _ hK => wp_pushL s x t d hd ho e z bytes ht hinfo hzs base y v n xs hown hs b hx hbk h1 h63 hbytes hbase fun v' w' h2 h3 => hK _ _ (h v' w' h2 h3)
end

/-- an own row stays through a store into another block -/
theorem Ro.set {lo hi : Nat} {w : World} {e : TypeId} {v : Value} {xs : List Value} (h : Ro lo hi w e v xs) {b : Nat} (hb : b < lo ∨ hi ≤ b) (o : Nat) (u : Value) : Ro lo hi (w.setCell ⟨b, o, none⟩ u) e v xs := h.keeps (Keeps.setCell _ _ _ _ hb)
/-- rows that grow by a row that lies behind them -/
theorem Ioo.push {lo h1 h2 : Nat} {w w' : World} {bv v' u : Value} {vs : List Value} {ll : List (List Int)} {l : List Int} {n : Nat} (hb : Ioo lo h1 w bv vs ll) (hu : Io h1 h2 w u l) (h2s : h2 ≤ w.heap.size) (h1s : h1 ≤ h2) (hl : lo ≤ h1)
    (hown : w'.ownsRow lo 28 1 v' n (vs ++ [u])) (hg : Grewn w bv w' v') : Ioo lo w'.heap.size w' v' (vs ++ [u]) (ll ++ [l]) := by
  obtain ⟨r1, r2, r3⟩ := hb
  have hub : ∀ k, u.ownBlock = some k → h1 ≤ k ∧ k < h2 := fun k hk => ⟨(hu.1.lt k hk).1, hu.2 k hk⟩
  have hbb : ∀ k, bv.ownBlock = some k → lo ≤ k ∧ k < h1 := fun k hk => ⟨(r1.1.lt k hk).1, r1.2 k hk⟩
  have hub' : apart u bv := apart_symm (apart_lt (B := h1) (fun k hk => (hbb k hk).2) (fun k hk => (hub k hk).1))
  have hs := hg.size
  refine ⟨Ro.of_own hown, Rows'.snoc ⟨r2.1, fun j hj => ?_⟩ ?_, ?_⟩
  · have hmem : vs.getD j (.bool false) ∈ vs := by
      rw [List.getD_eq_getElem?_getD, List.getElem?_eq_getElem (by rw [r2.1]; exact hj)]
      exact List.getElem_mem _
    have ha : apart (vs.getD j (.bool false)) bv := apart_symm ((List.pairwise_cons.1 r3).1 _ hmem)
    exact Ro.wide (hg.ro (r2.2 j hj) ha) (Nat.le_refl _) (by omega)
  · exact Ro.wide (hg.ro hu hub') (by omega) (by omega)
  · have hvs : ∀ x ∈ vs, ∀ k, x.ownBlock = some k → lo ≤ k ∧ k < h1 := fun x hx k hk => by have := Rows'.blk r2 hx k hk; omega
    have hv' : ∀ x ∈ vs ++ [u], apart v' x := by
      intro x hx
      rw [List.mem_append, List.mem_singleton] at hx
      rcases hx with hx | rfl
      · exact apart_symm (apart_where hg (apart_symm ((List.pairwise_cons.1 r3).1 _ hx)) (fun k hk => by have := hvs x hx k hk; omega))
      · exact apart_symm (apart_where hg hub' (fun k hk => by have := hub k hk; omega))
    refine List.pairwise_cons.2 ⟨hv', ?_⟩
    rw [List.pairwise_append]
    refine ⟨(List.pairwise_cons.1 r3).2, List.pairwise_singleton _ _, fun x hx y hy => ?_⟩
    simp only [List.mem_singleton] at hy
    subst hy
    exact apart_lt (B := h1) (fun k hk => (hvs x hx k hk).2) (fun k hk => (hub k hk).1)
end Go.Proofs.YteahjnobnbafiaaDoor

/-
  A region that draws its order whose last operations write what the others read: the condition on the world need not hold behind those. Any program.
-/
namespace Go.Proofs.YteahjnobnbafiaaDoor
open Go.RowKit
open Go Go.Deep

section
variable {P : Program} {ops : Array Oper} {Q : Exit → Act → World → Prop} {md : Region.Mode} {S : World → Prop} {L : List Nat}
/-- whatever order is picked from here on, S holds behind each operation but those of L -/
def wpAnyL (P : Program) (md : Region.Mode) (ops : Array Oper) (Q : Exit → Act → World → Prop) (S : World → Prop) (L : List Nat) : Nat → Array Bool → Act → World → Prop
  | 0, listed, a, w => Region.ready md ops listed = [] ∧ Q .normal a w
  | fuel + 1, listed, a, w =>
    (Region.ready md ops listed = [] → Q .normal a w) ∧
    ∀ i ∈ Region.ready md ops listed, wpOp P ops Q i (fun a' w' => (i ∉ L → S w') ∧ wpAnyL P md ops Q S L fuel (listed.setIfInBounds i true) a' w') a w
theorem wpAny_of_L : ∀ (fuel : Nat) (listed : Array Bool) (a : Act) (w : World), wpAnyL P md ops Q S L fuel listed a w → wpAny P md ops Q fuel listed a w
  | 0, _, _, _, h => h
  | fuel + 1, _, _, _, h => ⟨h.1, fun i hi => wpOp_mono (fun a' w' h' => wpAny_of_L fuel _ a' w' h'.2) (h.2 i hi)⟩
theorem wpAnyL_first {i : Nat} {oi : Oper} {v : Value} (hi : ops[i]? = some oi) (hsel : ∀ (j : Nat) (o : Oper) cs b, ops[j]? = some o → o.op ≠ .select cs b)
    (hQ : ∀ c a w, Q (.panic c) (a.put oi.dst v) w → Q (.panic c) a w) (D : List Nat)
    (hD : ∀ j ∈ D, j ≠ i → ∀ oj, ops[j]? = some oj → ∃ e ∈ oj.after, Region.binds md e = true ∧ e.on ∈ D) (hL : ∀ j ∈ L, j ∈ D ∧ j ≠ i) :
    ∀ (fuel : Nat) (listed : Array Bool) (a : Act) (w : World),
      (∀ j oj, ops[j]? = some oj → j ≠ i → listed.getD j true = false → (∀ e ∈ oj.after, Region.binds md e = true → e.on ≠ i) → oi.apart ops oj = true) →
      i ∈ Region.ready md ops listed → (∀ j ∈ D, listed.getD j false = false) → YieldsIf P ops S oi v a → S w →
      wpAnyL P md ops Q S L fuel (listed.setIfInBounds i true) (a.put oi.dst v) w → wpAnyL P md ops Q S L (fuel + 1) listed a w := by
  intro fuel
  induction fuel with
  | zero =>
    intro listed a w _ hr _ hy hS H
    refine ⟨fun h => (by rw [h] at hr; cases hr), fun j hj => ?_⟩
    by_cases hji : j = i
    · subst hji; exact hy.wpOp hi hS ⟨fun _ => hS, H⟩
    · have := ready_mono hj hji
      rw [H.1] at this
      cases this
  | succ fuel ih =>
    intro listed a w hfree hr hun hy hS H
    refine ⟨fun h => (by rw [h] at hr; cases hr), fun j hj => ?_⟩
    by_cases hji : j = i
    · subst hji; exact hy.wpOp hi hS ⟨fun _ => hS, H⟩
    · have h1 := H.2 j (ready_mono hj hji)
      obtain ⟨hjun, oj, hoj, hall⟩ := mem_ready.1 hj
      have hjD : j ∉ D := fun hd => by
        obtain ⟨e, he, hb, hon⟩ := hD j hd hji oj hoj
        have h2 := hall e he hb
        have h3 := hun _ hon
        rw [h2] at h3; cases h3
      have hnot : ∀ e ∈ oj.after, Region.binds md e = true → e.on ≠ i := fun e he hb heq => by
        have h1 := hall e he hb
        have h0 := (mem_ready.1 hr).1
        rw [heq] at h1
        rcases Nat.lt_or_ge i listed.size with h' | h'
        · simp [h'] at h0 h1; rw [h0] at h1; cases h1
        · simp [Array.getElem?_eq_none h'] at h1
      have h2 := wpOp_putIf hoj (hfree j oj hoj hji hjun hnot) (fun cs b => hsel i oi cs b hi) (fun cs b => hsel j oj cs b hoj) hQ hy h1
      have hfree' : ∀ k ok, ops[k]? = some ok → k ≠ i → (listed.setIfInBounds j true).getD k true = false →
          (∀ e ∈ ok.after, Region.binds md e = true → e.on ≠ i) → oi.apart ops ok = true := fun k ok hk hki hun hno => by
        refine hfree k ok hk hki ?_ hno
        by_cases hjk : j = k
        · subst hjk; exact hjun
        · rw [getD_set_ne true hjk] at hun; exact hun
      have hun' : ∀ k ∈ D, (listed.setIfInBounds j true).getD k false = false := fun k hk => by
        have hjk : j ≠ k := fun e => hjD (e ▸ hk)
        rw [getD_set_ne false hjk]; exact hun k hk
      have hjL : j ∉ L := fun h => hjD (hL j h).1
      refine wpOp_mono (fun a' w' h3 => ⟨fun _ => h3.2.1 hjL, ih (listed.setIfInBounds j true) a' w' hfree' (ready_mono hr (Ne.symm hji)) hun' h3.1 (h3.2.1 hjL) ?_⟩) h2
      rw [Array.setIfInBounds_comm _ _ hji]
      exact h3.2.2
/-- D hangs together: each of D but i waits for another one of D -/
def chainB (md : Region.Mode) (ops : Array Oper) (D : List Nat) (i : Nat) : Bool := D.all fun j => j == i || ((ops[j]?).map (fun o => o.after.any fun e => Region.binds md e && D.contains e.on)).getD true
theorem chainB_spec {D : List Nat} {i : Nat} (h : chainB md ops D i = true) : ∀ j ∈ D, j ≠ i → ∀ oj, ops[j]? = some oj → ∃ e ∈ oj.after, Region.binds md e = true ∧ e.on ∈ D := by
  intro j hj hji oj ho
  have h1 := List.all_eq_true.1 h j hj
  rw [ho] at h1
  simp only [Option.map_some, Option.getD_some, Bool.or_eq_true, beq_iff_eq] at h1
  rcases h1 with h1 | h1
  · exact absurd h1 hji
  · rw [← Array.any_toList, List.any_eq_true] at h1
    obtain ⟨e, he, hb⟩ := h1
    have he := Array.mem_toList_iff.1 he
    rw [Bool.and_eq_true] at hb
    exact ⟨e, he, hb.1, by simpa using hb.2⟩
/-- an operation that yields in every world of S is taken first; the last operations L wait for it along D -/
theorem takeL {i : Nat} {oi : Oper} {v : Value} {fuel : Nat} {listed : Array Bool} {a : Act} {w : World} (d : Nat) (D : List Nat) (hi : ops[i]? = some oi) (hd : oi.dst = some d)
    (hs : Region.noSelect ops = true) (hf : Region.free md ops listed i = true) (hr : (Region.ready md ops listed).contains i = true)
    (hc : (chainB md ops D i && L.all (fun j => D.contains j && j != i) && D.all (fun j => !listed.getD j false)) = true)
    (hQ : ∀ c a w, Q (.panic c) (a.put oi.dst v) w → Q (.panic c) a w) (hy : YieldsIf P ops S oi v a) (hS : S w)
    (h : wpAnyL P md ops Q S L fuel (listed.setIfInBounds i true) (a.put (some d) v) w) : wpAnyL P md ops Q S L (fuel + 1) listed a w := by
  simp only [Bool.and_eq_true] at hc
  obtain ⟨⟨hc1, hc2⟩, hc3⟩ := hc
  refine wpAnyL_first hi (Region.noSelect_spec hs) hQ D (chainB_spec hc1) (fun j hj => ?_) fuel listed a w (Region.free_spec hi hf) (by simpa using hr) (fun j hj => ?_) hy hS (by rw [hd]; exact h)
  · have := List.all_eq_true.1 hc2 j hj
    simpa using this
  · have := List.all_eq_true.1 hc3 j hj
    simpa using this
/-- the operations that wait for i, and i -/
def depOn (md : Region.Mode) (ops : Array Oper) (i : Nat) : List Nat := (List.range ops.size).foldl (fun acc j => if ((ops[j]?).map (fun o => o.after.any fun e => Region.binds md e && acc.contains e.on)).getD false then j :: acc else acc) [i]
/-- the same, the chain reckoned -/
theorem takeA {i : Nat} {oi : Oper} {v : Value} {fuel : Nat} {listed : Array Bool} {a : Act} {w : World} (d : Nat) (hi : ops[i]? = some oi) (hd : oi.dst = some d)
    (hs : Region.noSelect ops = true) (hf : Region.free md ops listed i = true) (hr : (Region.ready md ops listed).contains i = true)
    (hc : (chainB md ops (depOn md ops i) i && L.all (fun j => (depOn md ops i).contains j && j != i) && (depOn md ops i).all (fun j => !listed.getD j false)) = true)
    (hQ : ∀ c a w, Q (.panic c) (a.put oi.dst v) w → Q (.panic c) a w) (hy : YieldsIf P ops S oi v a) (hS : S w)
    (h : wpAnyL P md ops Q S L fuel (listed.setIfInBounds i true) (a.put (some d) v) w) : wpAnyL P md ops Q S L (fuel + 1) listed a w :=
  takeL d (depOn md ops i) hi hd hs hf hr hc hQ hy hS h
theorem doneL {listed : Array Bool} {a : Act} {w : World} (hr : Region.ready md ops listed = []) (h : Q .normal a w) : ∀ fuel, wpAnyL P md ops Q S L fuel listed a w
  | 0 => ⟨hr, h⟩
  | _ + 1 => ⟨fun _ => h, by rw [hr]; simp⟩
theorem onlyL {i : Nat} {oi : Oper} {fuel : Nat} {listed : Array Bool} {a : Act} {w : World} (hr : Region.ready md ops listed = [i]) (hi : ops[i]? = some oi) (hw : Region.wanted oi (yielded ops a.tmps) = true)
    (h : ∀ K : Act → World → Prop, Shut (∀ a w, (i ∉ L → S w) → ((i ∉ L → S w) → wpAnyL P md ops Q S L fuel (listed.setIfInBounds i true) a w) → K a w) → Oper.wp P oi a w K Q) : wpAnyL P md ops Q S L (fuel + 1) listed a w := by
  refine ⟨fun h0 => (by rw [hr] at h0; cases h0), fun j hj => ?_⟩
  rw [hr] at hj
  simp only [List.mem_singleton] at hj
  subst hj
  exact wpOp_step hi (fun K hK => by rw [if_pos hw]; exact h K (fun a w hS hW => hK a w ⟨hS, hW hS⟩))
theorem twoL {i j : Nat} {oi oj : Oper} {fuel : Nat} {listed : Array Bool} {a : Act} {w : World} (hr : Region.ready md ops listed = [i, j]) (hi : ops[i]? = some oi) (hj : ops[j]? = some oj)
    (hwi : Region.wanted oi (yielded ops a.tmps) = true) (hwj : Region.wanted oj (yielded ops a.tmps) = true)
    (h1 : ∀ K : Act → World → Prop, Shut (∀ a w, (i ∉ L → S w) → ((i ∉ L → S w) → wpAnyL P md ops Q S L fuel (listed.setIfInBounds i true) a w) → K a w) → Oper.wp P oi a w K Q)
    (h2 : ∀ K : Act → World → Prop, Shut (∀ a w, (j ∉ L → S w) → ((j ∉ L → S w) → wpAnyL P md ops Q S L fuel (listed.setIfInBounds j true) a w) → K a w) → Oper.wp P oj a w K Q) : wpAnyL P md ops Q S L (fuel + 1) listed a w := by
  refine ⟨fun h0 => (by rw [hr] at h0; cases h0), fun k hk => ?_⟩
  rw [hr] at hk
  simp only [List.mem_cons, List.not_mem_nil, or_false] at hk
  rcases hk with rfl | rfl
  · exact wpOp_step hi (fun K hK => by rw [if_pos hwi]; exact h1 K (fun a w hS hW => hK a w ⟨hS, hW hS⟩))
  · exact wpOp_step hj (fun K hK => by rw [if_pos hwj]; exact h2 K (fun a w hS hW => hK a w ⟨hS, hW hS⟩))
/-- the beginning -/
theorem regionL {id : Nat} {a : Act} {w : World} (S : World → Prop) (L : List Nat) (hm : P.follows .mixedOrders = true) (hS : S w.drew)
    (h : S w.drew → wpAnyL P .any ops Q S L ops.size (Array.replicate ops.size false) a w.drew) : (Code.region id ops true).wp P Q a w :=
  wp_region_any hm (wpAny_of_L _ _ _ _ (h hS))
end
end Go.Proofs.YteahjnobnbafiaaDoor
