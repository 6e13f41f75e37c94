/-
  An append that tells where its row lies, at one operation of any region; rows of rows that grow by a row. Any program.
-/
import Derived.Test.YtegmoojjffkacaaIntS
import Derived.Test.YtegmoojjffkacaaMdm
import Derived.Test.YtegmoojjffkacaaReg
namespace Go.Proofs.Ytegmoojjffkacaa
open Go.RowKit
open Go Go.Deep

/-- where a row lies behind an append -/
def Where (w : World) (v v' : Value) : Prop := v'.ownBlock = v.ownBlock ∨ ∃ g, v'.ownBlock = some g ∧ w.heap.size ≤ g
/-- what an append to the row v has done to memory -/
def Grewn (w : World) (v : Value) (w' : World) (v' : Value) : Prop := w.grownBy w' v.ownBlock ∧ Where w v v'
theorem Grewn.below {w w' : World} {v v' : Value} {base : Nat} (h : Grewn w v w' v') (hb : base ≤ w.heap.size) (hv : ∀ k, v.ownBlock = some k → base ≤ k) : Below base w w' :=
  (Below.refl base w).grown h.1 hb hv
theorem Grewn.size {w w' : World} {v v' : Value} (h : Grewn w v w' v') : w.heap.size ≤ w'.heap.size := h.1.size
/-- a block that is not the row's is kept -/
theorem Grewn.block {w w' : World} {v v' : Value} (h : Grewn w v w' v') {b : Nat} (hb : b < w.heap.size) (hne : v.ownBlock ≠ some b) : w'.heap[b]? = w.heap[b]? :=
  h.1.block b hb (fun e => hne e.symm)
theorem Grewn.ro {lo hi : Nat} {w w' : World} {v v' u : Value} {e : TypeId} {xs : List Value} (h : Grewn w v w' v') (hu : Ro lo hi w e u xs) (ha : apart u v) : Ro lo hi w' e u xs := hu.keptBy h.1 ha
theorem Grewn.where_lo {w w' : World} {v v' : Value} {lo : Nat} (h : Grewn w v w' v') (hv : ∀ k, v.ownBlock = some k → lo ≤ k) (hw : lo ≤ w.heap.size) : ∀ k, v'.ownBlock = some k → lo ≤ k := by
  intro k hk
  rcases h.2 with e | ⟨g, e, hg⟩
  · exact hv k (by rw [← e]; exact hk)
  · rw [e] at hk; simp at hk; omega
theorem apart_where {w w' : World} {v v' u : Value} (h : Grewn w v w' v') (ha : apart u v) (hu : ∀ k, u.ownBlock = some k → k < w.heap.size) : apart u v' := by
  rcases h.2 with e | ⟨g, e, hg⟩
  · rcases ha with ha | ha
    · exact .inl ha
    · exact .inr (by rw [e]; exact ha)
  · cases hq : u.ownBlock with
    | none => exact .inl hq
    | some k => exact .inr (by rw [hq, e]; intro e2; simp at e2; have := hu k hq; omega)

section
variable {P : Program}
/-- append(s, x...), x a row of one-cell values that is not empty, s a row of the call's own -/
theorem wp_appendL {o : Oper} {a : Act} {w : World} {K : Act → World → Prop} {Q : Exit → Act → World → Prop} (s x : Operand) (t : TypeId) (d : Nat) (hd : o.dst = some d)
    (ho : o.op = .call { callee := .builtin .append, args := #[s, x], argTypes := #[t, t] })
    (e : TypeId) (z : Value) (bytes : Nat) (ht : P.underlying t = some (.slice e))
    (hinfo : (P.info? e).map (fun i => (i.zero, i.size, i.bytes)) = some (some z, 1, bytes)) (hzs : z.cells.size = 1)
    (base : Nat) (v : Value) (n : Nat) (xs : List Value) (hown : w.ownsRow base e 1 v n xs) (hs : a.eval s = v)
    (ad : Addr) (m c : Nat) (news : List Value) (hx : a.eval x = .slice (some ad) m c) (hl : news.length = m) (hm : 0 < m) (hnews : ∀ j u, news[j]? = some u → w.cell? (ad.add j) = some u) (h1 : ∀ u ∈ news, u.oneCell' = true)
    (h63 : n + m ≤ maxLen) (hbytes : (n + m) * bytes ≤ 140737488355328) (hbase : base ≤ w.heap.size)
    (h : ∀ v' w', w'.ownsRow base e 1 v' (n + m) (xs ++ news) → Grewn w v w' v' → K (a.put (some d) v') w') : Oper.wp P o a w K Q := by
  rw [← hd] at h
  obtain ⟨i0, hi, hz0, hz1, hz2⟩ := info_parts hinfo
  subst hz2
  have hl' : news.length = m * i0.size := by rw [hz1]; omega
  obtain ⟨v', w', hr, hown', hg, _⟩ := run_append_own (P := P) w base t o.type e i0 z 1 i0.bytes ht hi hz0 hz1 rfl hzs (by decide) v n xs hown ad m c news (by omega) hnews h1 h63 hbytes hbase
  have hloc : Where w v v' := by
    rcases hown.2 with ⟨rfl, rfl⟩ | ⟨g, cap, cur, rfl, hbg, hgg, hnc, hcm, hcs, htake⟩
    · have hr' := run_append_nil (P := P) w t o.type e i0 z ht hi hz0 ad m c news hl' hnews hm (by unfold maxLen at h63; omega) (by have hb := hbytes; rw [Nat.zero_add] at hb; omega)
      rw [hr'] at hr
      simp only [Result.ok.injEq] at hr
      rw [← hr.1]
      exact .inr ⟨_, rfl, Nat.le_refl _⟩
    · by_cases hroom : n + m ≤ cap
      · have hr' := run_append_room (P := P) w t o.type e i0 ht hi g n cap cur hgg ad m c news hl' hnews h1 hroom (by rw [hz1, hcs]; omega)
        rw [hr'] at hr
        simp only [Result.ok.injEq] at hr
        rw [← hr.1]
        exact .inl rfl
      · have holds : ∀ j u, xs[j]? = some u → w.cell? ((⟨g, 0, none⟩ : Addr).add j) = some u := hown.cells (g := g) rfl
        have hr' := run_append_grow (P := P) w t o.type e i0 z ht hi hz0 ⟨g, 0, none⟩ n cap xs (by rw [hz1]; exact hown.1) holds ad m c news hl' hnews (by omega) (by unfold maxLen at h63; omega) (growslice_fits (by omega) hbytes)
        rw [hr'] at hr
        simp only [Result.ok.injEq] at hr
        rw [← hr.1]
        exact .inr ⟨_, rfl, Nat.le_refl _⟩
  unfold Oper.wp execOp
  simp only [ho, resolve, invoke, builtin, Sem.run_bind, Sem.run_pure, Result.andThen_ok, List.map_toArray, List.map_cons, List.map_nil, hs, hx, hr]
  exact h v' w' hown' ⟨hg, hloc⟩
/-- an own row whose block lies higher -/
theorem own_base {w : World} {base base' : Nat} {e : TypeId} {size : Nat} {v : Value} {n : Nat} {xs : List Value} (h : w.ownsRow base e size v n xs) (hb : ∀ k, v.ownBlock = some k → base' ≤ k) : w.ownsRow base' e size v n xs := by
  refine ⟨h.1, ?_⟩
  rcases h.2 with hn | ⟨g, cap, cur, rfl, hbg, rest⟩
  · exact .inl hn
  · exact .inr ⟨g, cap, cur, rfl, hb g rfl, rest⟩
/-- append(s, x...) where there is no room: the row lies in a new block -/
theorem wp_appendF {o : Oper} {a : Act} {w : World} {K : Act → World → Prop} {Q : Exit → Act → World → Prop} (s x : Operand) (t : TypeId) (d : Nat) (hd : o.dst = some d)
    (ho : o.op = .call { callee := .builtin .append, args := #[s, x], argTypes := #[t, t] })
    (e : TypeId) (z : Value) (bytes : Nat) (ht : P.underlying t = some (.slice e))
    (hinfo : (P.info? e).map (fun i => (i.zero, i.size, i.bytes)) = some (some z, 1, bytes)) (hzs : z.cells.size = 1)
    (g n cap : Nat) (xs : List Value) (base : Nat) (hown : w.ownsRow base e 1 (.slice (some ⟨g, 0, none⟩) n cap) n xs) (hs : a.eval s = .slice (some ⟨g, 0, none⟩) n cap)
    (ad : Addr) (m c : Nat) (news : List Value) (hx : a.eval x = .slice (some ad) m c) (hl : news.length = m) (hroom : cap < n + m) (hnews : ∀ j u, news[j]? = some u → w.cell? (ad.add j) = some u) (h1 : ∀ u ∈ news, u.oneCell' = true)
    (h63 : n + m ≤ maxLen) (hbytes : (n + m) * bytes ≤ 140737488355328) (hbase : base ≤ w.heap.size)
    (h : ∀ v' w', w'.ownsRow w.heap.size e 1 v' (n + m) (xs ++ news) → Below w.heap.size w w' → K (a.put (some d) v') w') : Oper.wp P o a w K Q := by
  rw [← hd] at h
  obtain ⟨i0, hi, hz0, hz1, hz2⟩ := info_parts hinfo
  subst hz2
  have hl' : news.length = m * i0.size := by rw [hz1]; omega
  obtain ⟨v', w', hr, hown', hg, _⟩ := run_append_own (P := P) w base t o.type e i0 z 1 i0.bytes ht hi hz0 hz1 rfl hzs (by decide) (.slice (some ⟨g, 0, none⟩) n cap) n xs hown ad m c news (by omega) hnews h1 h63 hbytes hbase
  have hcap : n ≤ cap := by
    rcases hown.2 with ⟨e1, _⟩ | ⟨g', cap', cur, e1, _, _, hnc, _⟩
    · cases e1
    · cases e1; exact hnc
  have holds : ∀ j u, xs[j]? = some u → w.cell? ((⟨g, 0, none⟩ : Addr).add j) = some u := hown.cells (g := g) rfl
  have hr' := run_append_grow (P := P) w t o.type e i0 z ht hi hz0 ⟨g, 0, none⟩ n cap xs (by rw [hz1]; exact hown.1) holds ad m c news hl' hnews (by omega) (by unfold maxLen at h63; omega) (growslice_fits (by omega) hbytes)
  rw [hr'] at hr
  simp only [Result.ok.injEq] at hr
  obtain ⟨e1, e2⟩ := hr
  unfold Oper.wp execOp
  simp only [ho, resolve, invoke, builtin, Sem.run_bind, Sem.run_pure, Result.andThen_ok, List.map_toArray, List.map_cons, List.map_nil, hs, hx, hr']
  refine h _ _ (by rw [e1, e2]; exact own_base hown' (fun k hk => by rw [← e1] at hk; cases hk; exact Nat.le_refl _)) ?_
  exact ((Below.refl w.heap.size w).drew).alloc (Nat.le_refl _) _
/-- append(s, y), y one value of one cell that has just been laid in a block of its own -/
theorem wp_pushL {o : Oper} {a : Act} {w0 : World} {K : Act → World → Prop} {Q : Exit → Act → World → Prop} (s x : Operand) (t : TypeId) (d : Nat) (hd : o.dst = some d)
    (ho : o.op = .call { callee := .builtin .append, args := #[s, x], argTypes := #[t, t] })
    (e : TypeId) (z : Value) (bytes : Nat) (ht : P.underlying t = some (.slice e))
    (hinfo : (P.info? e).map (fun i => (i.zero, i.size, i.bytes)) = some (some z, 1, bytes)) (hzs : z.cells.size = 1)
    (base : Nat) (y v : Value) (n : Nat) (xs : List Value) (hown : w0.ownsRow base e 1 v n xs) (hs : a.eval s = v)
    (b : Nat) (hx : a.eval x = .slice (some ⟨b, 0, none⟩) 1 1) (hbk : b = w0.heap.size) (h1 : y.oneCell' = true)
    (h63 : n + 1 ≤ maxLen) (hbytes : (n + 1) * bytes ≤ 140737488355328) (hbase : base ≤ w0.heap.size)
    (h : ∀ v' w', w'.ownsRow base e 1 v' (n + 1) (xs ++ [y]) → Grewn w0 v w' v' → K (a.put (some d) v') w') : Oper.wp P o a (w0.alloc (.cells #[y] e)) K Q := by
  subst hbk
  refine wp_appendL s x t d hd ho e z bytes ht hinfo hzs base v n xs (hown.alloc _) hs ⟨w0.heap.size, 0, none⟩ 1 1 [y] hx rfl (by decide) ?_ ?_ h63 hbytes (by simp; omega) ?_
  · intro j u hu
    match j with
    | 0 =>
      simp at hu; subst hu
      rw [addr_add0, World.cell?_alloc_at _ _ _ _ rfl]; rfl
    | j + 1 => simp at hu
  · intro u hu; simp at hu; subst hu; exact h1
  · intro v' w' hown' hg
    refine h v' w' hown' ⟨⟨hg.1.os, hg.1.tape, hg.1.output, Nat.le_trans (by simp) hg.1.size, fun k hk hne => ?_⟩, ?_⟩
    · rw [hg.1.block k (by simp; omega) hne, Below.heap_alloc _ _ _ hk]
    · rcases hg.2 with e | ⟨g, e, hg2⟩
      · exact .inl e
      · exact .inr ⟨g, e, by simp at hg2; omega⟩
/-- the same in a plain region -/
theorem wpList_pushL {ops : Array Oper} {rest : List Oper} {o : Oper} {a : Act} {w0 : World} {Q : Exit → Act → World → Prop} (hgd : o.guard = none) (s x : Operand) (t : TypeId) (d : Nat) (hd : o.dst = some d)
    (ho : o.op = .call { callee := .builtin .append, args := #[s, x], argTypes := #[t, t] })
    (e : TypeId) (z : Value) (bytes : Nat) (ht : P.underlying t = some (.slice e))
    (hinfo : (P.info? e).map (fun i => (i.zero, i.size, i.bytes)) = some (some z, 1, bytes)) (hzs : z.cells.size = 1)
    (base : Nat) (y v : Value) (n : Nat) (xs : List Value) (hown : w0.ownsRow base e 1 v n xs) (hs : a.eval s = v)
    (b : Nat) (hx : a.eval x = .slice (some ⟨b, 0, none⟩) 1 1) (hbk : b = w0.heap.size) (h1 : y.oneCell' = true)
    (h63 : n + 1 ≤ maxLen) (hbytes : (n + 1) * bytes ≤ 140737488355328) (hbase : base ≤ w0.heap.size)
    (h : ∀ v' w', w'.ownsRow base e 1 v' (n + 1) (xs ++ [y]) → Grewn w0 v w' v' → wpList P ops Q rest (a.put (some d) v') w') : wpList P ops Q (o :: rest) a (w0.alloc (.cells #[y] e)) :=
  wpList_plain hgd fun _ hK => wp_pushL s x t d hd ho e z bytes ht hinfo hzs base y v n xs hown hs b hx hbk h1 h63 hbytes hbase fun v' w' h2 h3 => hK _ _ (h v' w' h2 h3)
end

/-- an own row stays through a store into another block -/
theorem Ro.set {lo hi : Nat} {w : World} {e : TypeId} {v : Value} {xs : List Value} (h : Ro lo hi w e v xs) {b : Nat} (hb : b < lo ∨ hi ≤ b) (o : Nat) (u : Value) : Ro lo hi (w.setCell ⟨b, o, none⟩ u) e v xs := h.keeps (Keeps.setCell _ _ _ _ hb)
/-- rows that grow by a row that lies behind them -/
theorem Ioo.push {lo h1 h2 : Nat} {w w' : World} {bv v' u : Value} {vs : List Value} {ll : List (List Int)} {l : List Int} {n : Nat} (hb : Ioo lo h1 w bv vs ll) (hu : Io h1 h2 w u l) (h2s : h2 ≤ w.heap.size) (h1s : h1 ≤ h2) (hl : lo ≤ h1)
    (hown : w'.ownsRow lo 22 1 v' n (vs ++ [u])) (hg : Grewn w bv w' v') : Ioo lo w'.heap.size w' v' (vs ++ [u]) (ll ++ [l]) := by
  obtain ⟨r1, r2, r3⟩ := hb
  have hub : ∀ k, u.ownBlock = some k → h1 ≤ k ∧ k < h2 := fun k hk => ⟨(hu.1.lt k hk).1, hu.2 k hk⟩
  have hbb : ∀ k, bv.ownBlock = some k → lo ≤ k ∧ k < h1 := fun k hk => ⟨(r1.1.lt k hk).1, r1.2 k hk⟩
  have hub' : apart u bv := apart_symm (apart_lt (B := h1) (fun k hk => (hbb k hk).2) (fun k hk => (hub k hk).1))
  have hs := hg.size
  refine ⟨Ro.of_own hown, Rows'.snoc ⟨r2.1, fun j hj => ?_⟩ ?_, ?_⟩
  · have hmem : vs.getD j (.bool false) ∈ vs := by
      rw [List.getD_eq_getElem?_getD, List.getElem?_eq_getElem (by rw [r2.1]; exact hj)]
      exact List.getElem_mem _
    have ha : apart (vs.getD j (.bool false)) bv := apart_symm ((List.pairwise_cons.1 r3).1 _ hmem)
    exact Ro.wide (hg.ro (r2.2 j hj) ha) (Nat.le_refl _) (by omega)
  · exact Ro.wide (hg.ro hu hub') (by omega) (by omega)
  · have hvs : ∀ x ∈ vs, ∀ k, x.ownBlock = some k → lo ≤ k ∧ k < h1 := fun x hx k hk => by have := Rows'.blk r2 hx k hk; omega
    have hv' : ∀ x ∈ vs ++ [u], apart v' x := by
      intro x hx
      rw [List.mem_append, List.mem_singleton] at hx
      rcases hx with hx | rfl
      · exact apart_symm (apart_where hg (apart_symm ((List.pairwise_cons.1 r3).1 _ hx)) (fun k hk => by have := hvs x hx k hk; omega))
      · exact apart_symm (apart_where hg hub' (fun k hk => by have := hub k hk; omega))
    refine List.pairwise_cons.2 ⟨hv', ?_⟩
    rw [List.pairwise_append]
    refine ⟨(List.pairwise_cons.1 r3).2, List.pairwise_singleton _ _, fun x hx y hy => ?_⟩
    simp only [List.mem_singleton] at hy
    subst hy
    exact apart_lt (B := h1) (fun k hk => (hvs x hx k hk).2) (fun k hk => (hub k hk).1)
end Go.Proofs.Ytegmoojjffkacaa
