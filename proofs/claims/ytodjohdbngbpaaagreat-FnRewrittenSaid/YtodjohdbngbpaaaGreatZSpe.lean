/-
  Several texts in one: SpecP SpecQ. Conditions: as each theorem says.
-/
import Derived.Test.YtodjohdbngbpaaaGreatZTmx
import Derived.Test.YtodjohdbngbpaaaGreatZForm
import Derived.Lib.SlBytesConst
/-
  Contracts of spec.l02Op; an append that tells where its row lies.
-/
namespace Go.Proofs.YtodjohdbngbpaaaGreat
open Go.RowKit
open Go Go.Deep

theorem cell_marked (w : World) (c : Array Value) (t : TypeId) (a b i : Nat) : (w.alloc (.cells c t (a, b))).cell? ⟨w.heap.size, i, none⟩ = c[i]? :=
  cell_of_row _ _ i c t (a, b) (heap_alloc_new w _)

set_option maxRecDepth 100000 in
set_option maxHeartbeats 4000000 in
theorem l02Op_any (c : UInt8) (w : World) : Calls Tryz.prog 148 #[.int .u8 (c.toNat : Int)] w fun e w' => e = .returned (.int .i64 (opB c)) ∧ Below w.heap.size w w' := by
  rcases opB_cases c with h0 | ⟨h1, ha, hb⟩ | ⟨hk, hc⟩ | ⟨hk, hc⟩ | ⟨hk, hc⟩ | ⟨hk, hc⟩ | ⟨hk, hc⟩ | ⟨hk, hc⟩ | ⟨hk, hc⟩ | ⟨hk, hc⟩
  · rw [h0]
    have hne : ∀ d : UInt8, opB d ≠ 0 → c.toNat ≠ d.toNat := fun d hd e => by
      have : c = d := by
        have := congrArg UInt8.ofNat e
        simpa using this
      subst this; exact hd h0
    have hr : ¬ (97 ≤ c.toNat ∧ c.toNat ≤ 100) := by
      intro h
      have h2 : c.toNat = 97 ∨ c.toNat = 98 ∨ c.toNat = 99 ∨ c.toNat = 100 := by omega
      rcases h2 with h2 | h2 | h2 | h2
      · exact hne 97 (by decide) h2
      · exact hne 98 (by decide) h2
      · exact hne 99 (by decide) h2
      · exact hne 100 (by decide) h2
    have n1 : ((c.toNat : Int) == 45) = false := by have : c.toNat ≠ 45 := hne 45 (by decide); simp; omega
    have n2 : ((c.toNat : Int) == 38) = false := by have : c.toNat ≠ 38 := hne 38 (by decide); simp; omega
    have n3 : ((c.toNat : Int) == 75) = false := by have : c.toNat ≠ 75 := hne 75 (by decide); simp; omega
    have n4 : ((c.toNat : Int) == 87) = false := by have : c.toNat ≠ 87 := hne 87 (by decide); simp; omega
    have n5 : ((c.toNat : Int) == 69) = false := by have : c.toNat ≠ 69 := hne 69 (by decide); simp; omega
    have n6 : ((c.toNat : Int) == 67) = false := by have : c.toNat ≠ 67 := hne 67 (by decide); simp; omega
    have n7 : ((c.toNat : Int) == 33) = false := by have : c.toNat ≠ 33 := hne 33 (by decide); simp; omega
    have n8 : ((c.toNat : Int) == 84) = false := by have : c.toNat ≠ 84 := hne 84 (by decide); simp; omega
    clear h0 hne
    by_cases hlo : 97 ≤ c.toNat
    · have hi1 : (97 : Int) ≤ (c.toNat : Int) := by omega
      have hi2 : (101 : Int) ≤ (c.toNat : Int) := by omega
      clear hr hlo
      generalize (c.toNat : Int) = x at *
      have hmk := cell_marked
      have hcv := fun (w : World) (C : Array Value) (n c : Nat) => Lib.run_convert_bytes_const (P := Tryz.prog) w 22 5 C n c Tryz.underlying22 Tryz.underlying5
      go_enter Tryz.func148, Tryz.ntmps148
      go_wp2
      refine wp_loop_rounds 8 ?_
      repeat (rw [rounds_succ]; go_wp2)
      go_ret
      exact ⟨rfl, (Below.refl _ _).alloc (Nat.le_refl _) _⟩
    · have hi1 : (c.toNat : Int) < (97 : Int) := by omega
      clear hr hlo
      generalize (c.toNat : Int) = x at *
      have hmk := cell_marked
      have hcv := fun (w : World) (C : Array Value) (n c : Nat) => Lib.run_convert_bytes_const (P := Tryz.prog) w 22 5 C n c Tryz.underlying22 Tryz.underlying5
      go_enter Tryz.func148, Tryz.ntmps148
      go_wp2
      refine wp_loop_rounds 8 ?_
      repeat (rw [rounds_succ]; go_wp2)
      go_ret
      exact ⟨rfl, (Below.refl _ _).alloc (Nat.le_refl _) _⟩
  · rw [h1]
    clear h1
    have hi1 : (97 : Int) ≤ (c.toNat : Int) := by omega
    have hi2 : (c.toNat : Int) < 101 := by omega
    have n1 : ((c.toNat : Int) == 45) = false := by simp; omega
    have n2 : ((c.toNat : Int) == 38) = false := by simp; omega
    have n3 : ((c.toNat : Int) == 75) = false := by simp; omega
    have n4 : ((c.toNat : Int) == 87) = false := by simp; omega
    have n5 : ((c.toNat : Int) == 69) = false := by simp; omega
    have n6 : ((c.toNat : Int) == 67) = false := by simp; omega
    have n7 : ((c.toNat : Int) == 33) = false := by simp; omega
    have n8 : ((c.toNat : Int) == 84) = false := by simp; omega
    clear ha hb
    generalize (c.toNat : Int) = x at *
    have hmk := cell_marked
    have hcv := fun (w : World) (C : Array Value) (n c : Nat) => Lib.run_convert_bytes_const (P := Tryz.prog) w 22 5 C n c Tryz.underlying22 Tryz.underlying5
    go_enter Tryz.func148, Tryz.ntmps148
    go_wp2
    refine wp_loop_rounds 8 ?_
    repeat (rw [rounds_succ]; go_wp2)
    go_ret
    exact ⟨rfl, (Below.refl _ _).alloc (Nat.le_refl _) _⟩
  all_goals
    rw [hk, hc]
    clear hk hc
    simp only [UInt8.reduceToNat]
    have hmk := cell_marked
    have hcv := fun (w : World) (C : Array Value) (n c : Nat) => Lib.run_convert_bytes_const (P := Tryz.prog) w 22 5 C n c Tryz.underlying22 Tryz.underlying5
    go_enter Tryz.func148, Tryz.ntmps148
    go_wp2
    refine wp_loop_rounds 8 ?_
    repeat (rw [rounds_succ]; go_wp2)
    go_ret
    exact ⟨rfl, (Below.refl _ _).alloc (Nat.le_refl _) _⟩

/-- where a row lies behind an append -/
def Loc (w : World) (v v' : Value) : Prop := v'.ownBlock = v.ownBlock ∨ ∃ g, v'.ownBlock = some g ∧ w.heap.size ≤ g
theorem Loc.trans {w w1 : World} {v v1 v2 : Value} (h : Loc w v v1) (hw : w.heap.size ≤ w1.heap.size) (k : Loc w1 v1 v2) : Loc w v v2 := by
  rcases k with k | ⟨g, k, hg⟩
  · rcases h with h | ⟨g, h, hg⟩
    · exact .inl (k.trans h)
    · exact .inr ⟨g, k.trans h, hg⟩
  · exact .inr ⟨g, k, Nat.le_trans hw hg⟩
/-- what a call that may append to the row v has done to memory -/
def Grew (w : World) (v : Value) (w' : World) (v' : Value) : Prop := w.grownBy w' v.ownBlock ∧ Loc w v v'
theorem Grew.trans {w w1 w2 : World} {v v1 v2 : Value} (h : Grew w v w1 v1) (k : Grew w1 v1 w2 v2) : Grew w v w2 v2 := by
  refine ⟨⟨k.1.os.trans h.1.os, k.1.tape.trans h.1.tape, k.1.output.trans h.1.output, Nat.le_trans h.1.size k.1.size, fun i hi hne => ?_⟩, h.2.trans h.1.size k.2⟩
  rw [k.1.block i (Nat.lt_of_lt_of_le hi h.1.size) (fun e => ?_)]
  · exact h.1.block i hi hne
  · rcases h.2 with h2 | ⟨g, h2, hg⟩
    · exact hne (e.trans h2)
    · rw [h2] at e
      simp at e
      omega
theorem Grew.of_below {w w' : World} (v : Value) (h : Below w.heap.size w w') : Grew w v w' v := ⟨⟨h.os, h.tape, h.output, h.size, fun k hk _ => h.block k hk⟩, .inl rfl⟩
theorem Grew.below {w w' : World} {v v' : Value} {base : Nat} (h : Grew w v w' v') (hb : base ≤ w.heap.size) (hv : ∀ k, v.ownBlock = some k → base ≤ k) : Below base w w' :=
  (Below.refl base w).grown h.1 hb hv
theorem Grew.ne {w w' : World} {v v' : Value} (h : Grew w v w' v') {b : Nat} (hb : b < w.heap.size) (hne : v.ownBlock ≠ some b) : v'.ownBlock ≠ some b := by
  rcases h.2 with e | ⟨g, e, hg⟩
  · rw [e]; exact hne
  · rw [e]; intro h'; simp at h'; omega

section
variable {P : Program}
/-- append(s, y), y one element of four cells, and where the row lies then -/
theorem wpList_push4W {ops : Array Oper} {rest : List Oper} {o : Oper} {a : Act} {Q : Exit → Act → World → Prop} (hgd : o.guard = none) (s x : Operand) (t : TypeId)
    (ho : o.op = .call { callee := .builtin .append, args := #[s, x], argTypes := #[t, t] })
    (e : TypeId) (z : Value) (bytes : Nat) (ht : P.underlying t = some (.slice e))
    (hinfo : (P.info? e).map (fun i => (i.zero, i.size, i.bytes)) = some (some z, 4, bytes)) (hzs : z.cells.size = 4)
    (base : Nat) (w0 : World) (y0 y1 y2 y3 v : Value) (n : Nat) (xs : List Value) (hown : w0.ownsRow base e 4 v n xs)
    (hs : a.eval s = v) (b : Nat) (hx : a.eval x = .slice (some ⟨b, 0, none⟩) 1 1) (hbk : b = w0.heap.size) (h0 : y0.oneCell' = true) (h1 : y1.oneCell' = true) (h2 : y2.oneCell' = true) (h3 : y3.oneCell' = true)
    (h63 : n + 1 ≤ maxLen) (hbytes : (n + 1) * bytes ≤ 140737488355328) (hbase : base ≤ w0.heap.size)
    (h : ∀ v' w', w'.ownsRow base e 4 v' (n + 1) (xs ++ [y0, y1, y2, y3]) → Grew w0 v w' v' → wpList P ops Q rest (a.put o.dst v') w') :
    wpList P ops Q (o :: rest) a (w0.alloc (.cells #[y0, y1, y2, y3] e)) := by
  subst hbk
  obtain ⟨i0, hi, hz0, hz1, hz2⟩ := info_parts hinfo
  have hnews : ∀ j u, [y0, y1, y2, y3][j]? = some u → (w0.alloc (.cells #[y0, y1, y2, y3] e)).cell? ((⟨w0.heap.size, 0, none⟩ : Addr).add j) = some u := by
    intro j u hu
    have hj : j < 4 := by
      rcases Nat.lt_or_ge j 4 with h | h
      · exact h
      · rw [List.getElem?_eq_none (by simpa using h)] at hu; cases hu
    rw [addr_add0, World.cell?_alloc_at _ _ _ _ rfl, Nat.zero_add]
    rw [← hu]
    have : j = 0 ∨ j = 1 ∨ j = 2 ∨ j = 3 := by omega
    rcases this with rfl | rfl | rfl | rfl <;> rfl
  have hone : ∀ u ∈ [y0, y1, y2, y3], u.oneCell' = true := by
    intro u hu
    simp at hu
    rcases hu with rfl | rfl | rfl | rfl <;> assumption
  have hl4 : ([y0, y1, y2, y3] : List Value).length = 1 * i0.size := by rw [hz1]; rfl
  subst hz2
  refine wpList_plain hgd fun K hK => ?_
  obtain ⟨v', w', hr, hown', hg, _⟩ := run_append_own (P := P) (w0.alloc (.cells #[y0, y1, y2, y3] e)) base t o.type e i0 z 4 i0.bytes ht hi hz0 hz1 rfl hzs (by decide) v n xs (hown.alloc _) ⟨w0.heap.size, 0, none⟩ 1 1 [y0, y1, y2, y3] rfl hnews hone h63 hbytes (by simp; omega)
  have hloc : Loc w0 v v' := by
    rcases hown.2 with ⟨rfl, rfl⟩ | ⟨g, cap, cur, rfl, hbg, hgg, hnc, hcm, hcs, htake⟩
    · have hr' := run_append_nil (P := P) (w0.alloc (.cells #[y0, y1, y2, y3] e)) t o.type e i0 z ht hi hz0 ⟨w0.heap.size, 0, none⟩ 1 1 [y0, y1, y2, y3] hl4 hnews (by decide) (by decide) (by have hb := hbytes; omega)
      rw [hr'] at hr
      simp only [Result.ok.injEq] at hr
      rw [← hr.1]
      exact .inr ⟨_, rfl, by simp⟩
    · by_cases hroom : n + 1 ≤ cap
      · have hr' := run_append_room (P := P) (w0.alloc (.cells #[y0, y1, y2, y3] e)) t o.type e i0 ht hi g n cap cur (by rw [Below.heap_alloc _ _ _ (Array.getElem?_eq_some_iff.1 hgg).1]; exact hgg) ⟨w0.heap.size, 0, none⟩ 1 1 [y0, y1, y2, y3] hl4 hnews hone hroom (by rw [hz1, hcs]; simp only [List.length_cons, List.length_nil]; omega)
        rw [hr'] at hr
        simp only [Result.ok.injEq] at hr
        rw [← hr.1]
        exact .inl rfl
      · have holds : ∀ j u, xs[j]? = some u → (w0.alloc (.cells #[y0, y1, y2, y3] e)).cell? ((⟨g, 0, none⟩ : Addr).add j) = some u := (hown.alloc _).cells (g := g) rfl
        have hr' := run_append_grow (P := P) (w0.alloc (.cells #[y0, y1, y2, y3] e)) t o.type e i0 z ht hi hz0 ⟨g, 0, none⟩ n cap xs (by rw [hz1]; exact hown.1) holds ⟨w0.heap.size, 0, none⟩ 1 1 [y0, y1, y2, y3] hl4 hnews (by omega) (by unfold maxLen at h63; omega) (growslice_fits (by omega) hbytes)
        rw [hr'] at hr
        simp only [Result.ok.injEq] at hr
        rw [← hr.1]
        exact .inr ⟨_, rfl, by simp⟩
  have hgrew : Grew w0 v w' v' := ⟨⟨hg.os, hg.tape, hg.output, Nat.le_trans (by simp) hg.size, fun k hk hne => by rw [hg.block k (by simp; omega) hne, Below.heap_alloc _ _ _ hk]⟩, hloc⟩
  unfold Oper.wp execOp
  simp only [ho, resolve, invoke, builtin, Sem.run_bind, Sem.run_pure, Result.andThen_ok, List.map_toArray, List.map_cons, List.map_nil, hs, hx, hr]
  exact hK _ _ (h v' w' hown' hgrew)
end
end Go.Proofs.YtodjohdbngbpaaaGreat

/-
  Contract of spec.l02Parse: it reads a formula from a place of a text of at most 80 bytes.
-/
namespace Go.Proofs.YtodjohdbngbpaaaGreat
open Go.RowKit
open Go Go.Deep

/-- a local node in its block -/
def NdRow (w : World) (b : Nat) (x : Nd) : Prop := w.rowIs b 112 4 (fun j => if j = 0 then .int .i64 x.op else if j = 1 then .int .i64 x.n else if j = 2 then .int .i64 x.a else .int .i64 x.b)
theorem NdRow.start (w : World) (x : Nd) : NdRow (w.alloc (.cells #[.int .i64 x.op, .int .i64 x.n, .int .i64 x.a, .int .i64 x.b] 112)) w.heap.size x :=
  World.rowIs_alloc w #[.int .i64 x.op, .int .i64 x.n, .int .i64 x.a, .int .i64 x.b] 112 _ (fun i hi => by
    have hi : i < 4 := hi
    have : i = 0 ∨ i = 1 ∨ i = 2 ∨ i = 3 := by omega
    rcases this with rfl | rfl | rfl | rfl <;> rfl)
theorem NdRow.cells {w : World} {b : Nat} {x : Nd} (h : NdRow w b x) : w.cell? ⟨b, 0, none⟩ = some (.int .i64 x.op) ∧ w.cell? ⟨b, 1, none⟩ = some (.int .i64 x.n) ∧ w.cell? ⟨b, 2, none⟩ = some (.int .i64 x.a) ∧ w.cell? ⟨b, 3, none⟩ = some (.int .i64 x.b) ∧
    w.frozen? ⟨b, 0, none⟩ = false ∧ w.frozen? ⟨b, 1, none⟩ = false ∧ w.frozen? ⟨b, 2, none⟩ = false ∧ w.frozen? ⟨b, 3, none⟩ = false :=
  ⟨World.rowIs.cell h (i := 0) (by decide), World.rowIs.cell h (i := 1) (by decide), World.rowIs.cell h (i := 2) (by decide), World.rowIs.cell h (i := 3) (by decide), World.rowIs.frozen h 0, World.rowIs.frozen h 1, World.rowIs.frozen h 2, World.rowIs.frozen h 3⟩
theorem NdRow.grew {w w' : World} {v v' : Value} {b : Nat} {x : Nd} (h : NdRow w b x) (hg : Grew w v w' v') (hne : v.ownBlock ≠ some b) : NdRow w' b x :=
  World.rowIs.of_block h (hg.1.block b (World.rowIs.lt h) (fun e => hne e.symm))
theorem NdRow.setA {w : World} {b : Nat} {x : Nd} (h : NdRow w b x) (a : Int) : NdRow (w.setCell ⟨b, 2, none⟩ (.int .i64 a)) b ⟨x.op, x.n, a, x.b⟩ :=
  (World.rowIs.set h 2 (.int .i64 a)).congr fun i hi => by
    have : i = 0 ∨ i = 1 ∨ i = 2 ∨ i = 3 := by omega
    rcases this with rfl | rfl | rfl | rfl <;> rfl
theorem NdRow.setB {w : World} {b : Nat} {x : Nd} (h : NdRow w b x) (c : Int) : NdRow (w.setCell ⟨b, 3, none⟩ (.int .i64 c)) b ⟨x.op, x.n, x.a, c⟩ :=
  (World.rowIs.set h 3 (.int .i64 c)).congr fun i hi => by
    have : i = 0 ∨ i = 1 ∨ i = 2 ∨ i = 3 := by omega
    rcases this with rfl | rfl | rfl | rfl <;> rfl
theorem own_setFar {w : World} {base : Nat} {e : TypeId} {size : Nat} {v : Value} {n : Nat} {xs : List Value} {b : Nat} (h : w.ownsRow base e size v n xs) (hne : v.ownBlock ≠ some b) (j : Nat) (u : Value) :
    (w.setCell ⟨b, j, none⟩ u).ownsRow base e size v n xs := by
  refine ⟨h.1, ?_⟩
  rcases h.2 with hn | ⟨g, cap, cur, rfl, hbg, hgg, rest⟩
  · exact .inl hn
  · refine .inr ⟨g, cap, cur, rfl, hbg, ?_, rest⟩
    rw [Below.heap_setCell _ _ _ _ (fun e => hne (by show some g = some b; rw [e]))]
    exact hgg
theorem grew_setFar {w w' : World} {v v' : Value} {b : Nat} (h : Grew w v w' v') (hb : w.heap.size ≤ b) (j : Nat) (u : Value) : Grew w v (w'.setCell ⟨b, j, none⟩ u) v' :=
  ⟨⟨h.1.os, h.1.tape, h.1.output, by simpa [World.setCell] using h.1.size, fun k hk hne => by rw [Below.heap_setCell _ _ _ _ (by show k ≠ b; omega)]; exact h.1.block k hk hne⟩, h.2⟩
theorem own_ne {w : World} {base : Nat} {e : TypeId} {size : Nat} {v : Value} {n : Nat} {xs : List Value} (h : w.ownsRow base e size v n xs) : v.ownBlock ≠ some w.heap.size := by
  intro e
  have := (h.lt _ e).2
  omega

/-- what follows the head of a node -/
def sTail (f : Nat) (xs : List Nd) (op n : Int) (r : List UInt8) : Option (List Nd × List UInt8) :=
  if usesI op = 0 then some (xs ++ [⟨op, n, 0, 0⟩], r)
  else match sP f xs r with
  | none => none
  | some (ys, r1) =>
    if usesI op = 1 then some (ys ++ [⟨op, n, (ys.length : Int) - 1, 0⟩], r1)
    else match sP f ys r1 with
    | none => none
    | some (zs, r2) => some (zs ++ [⟨op, n, (ys.length : Int) - 1, (zs.length : Int) - 1⟩], r2)
theorem sP_none {f : Nat} {xs : List Nd} {l : List UInt8} (h : headOf l = none) : sP (f + 1) xs l = none := by
  simp only [sP, h]; split <;> rfl
theorem sP_head {f : Nat} {xs : List Nd} {l r : List UInt8} {op n : Int} (h40 : ¬ 40 < xs.length) (h : headOf l = some (op, n, r)) : sP (f + 1) xs l = sTail f xs op n r := by
  simp only [sP, h]; rw [if_neg h40]; rfl
theorem sTail_0 {f : Nat} {xs : List Nd} {op n : Int} {r : List UInt8} (h : usesI op = 0) : sTail f xs op n r = some (xs ++ [⟨op, n, 0, 0⟩], r) := if_pos h
theorem sTail_n {f : Nat} {xs : List Nd} {op n : Int} {r : List UInt8} (h : ¬ usesI op = 0) (h1 : sP f xs r = none) : sTail f xs op n r = none := by
  unfold sTail; rw [if_neg h, h1]
theorem sTail_1 {f : Nat} {xs ys : List Nd} {op n : Int} {r r1 : List UInt8} (h : usesI op = 1) (h1 : sP f xs r = some (ys, r1)) : sTail f xs op n r = some (ys ++ [⟨op, n, (ys.length : Int) - 1, 0⟩], r1) := by
  unfold sTail; rw [if_neg (by omega), h1]; simp only []; rw [if_pos h]
theorem sTail_2n {f : Nat} {xs ys : List Nd} {op n : Int} {r r1 : List UInt8} (h : usesI op = 2) (h1 : sP f xs r = some (ys, r1)) (h2 : sP f ys r1 = none) : sTail f xs op n r = none := by
  unfold sTail; rw [if_neg (by omega), h1]; simp only []; rw [if_neg (by omega), h2]
theorem sTail_2 {f : Nat} {xs ys zs : List Nd} {op n : Int} {r r1 r2 : List UInt8} (h : usesI op = 2) (h1 : sP f xs r = some (ys, r1)) (h2 : sP f ys r1 = some (zs, r2)) : sTail f xs op n r = some (zs ++ [⟨op, n, (ys.length : Int) - 1, (zs.length : Int) - 1⟩], r2) := by
  unfold sTail; rw [if_neg (by omega), h1]; simp only []; rw [if_neg (by omega), h2]

/-- what l02Parse answers -/
def ParPost (S : ByteArray) (base : Nat) (w : World) (v : Value) (at0 m : Nat) (r : Option (List Nd × List UInt8)) (e : Ending) (w' : World) : Prop :=
  match r with
  | some (ys, l') => ∃ (v' : Value) (at' : Nat), e = .returned (.tuple #[v', .int .i64 (at' : Nat)]) ∧ S.data.toList.drop at' = l' ∧ at' ≤ S.size ∧ at0 < at' ∧ ys.length + at0 ≤ m + at' ∧ w'.ownsRow base 112 4 v' ys.length (ndCells ys) ∧ Grew w v w' v'
  | none => ∃ v', e = .returned (.tuple #[v', .int .i64 (-1)]) ∧ Below base w w'

theorem par_end {S : ByteArray} {base : Nat} {w w3 w9 : World} {v v3 v' : Value} {a0 a' m : Nat} {ys : List Nd} {x : Nd} {l' : List UInt8} {q : Int} (hq : q = (a' : Nat)) (hl : S.data.toList.drop a' = l') (h1 : a' ≤ S.size) (h2 : a0 < a') (h3 : ys.length + 1 + a0 ≤ m + a')
    (HO : w9.ownsRow base 112 4 v' (ys.length + 1) (ndCells ys ++ [.int .i64 x.op, .int .i64 x.n, .int .i64 x.a, .int .i64 x.b])) (G : Grew w v w3 v3) (GR : Grew w3 v3 w9 v') :
    ParPost S base w v a0 m (some (ys ++ [x], l')) (.returned (.tuple #[v', .int .i64 q])) w9 := by
  subst hq
  refine ⟨v', a', rfl, hl, h1, h2, by simp; omega, ?_, G.trans GR⟩
  rw [ndCells_app, show (ys ++ [x]).length = ys.length + 1 by simp]
  exact HO

set_option maxHeartbeats 1000000 in
theorem l02Next_of {S : ByteArray} {base : Nat} {w : World} {v : Value} {a m : Nat} {r : Option (List Nd × List UInt8)} (h : Calls Tryz.prog 117 #[v, .string S, .int .i64 (a : Nat)] w (ParPost S base w v a m r)) :
    Calls Tryz.prog 149 #[v, .string S, .int .i64 (a : Nat)] w (ParPost S base w v a m r) := by
  have H := Lib.hid h
  clear h
  go_enter Tryz.func149, Tryz.ntmps149
  go_wp2_with fail
  refine H.out.mono ?_
  intro e w1 h1
  cases r with
  | none =>
    obtain ⟨v', rfl, hb⟩ := h1
    have HB := Lib.hid hb
    clear hb
    go_wp2
    go_returns
    exact ⟨v', rfl, HB.out⟩
  | some p =>
    obtain ⟨ys, l'⟩ := p
    obtain ⟨v', at', rfl, h2⟩ := h1
    have HB := Lib.hid h2
    clear h2
    go_wp2
    go_returns
    exact ⟨v', at', rfl, HB.out⟩

theorem drop_head {S : ByteArray} {a : Nat} (h : a < S.size) : S.data.toList.drop a = S[a] :: S.data.toList.drop (a + 1) := by
  rw [List.drop_eq_getElem_cons (by simpa using h)]; rfl

set_option maxRecDepth 100000 in
set_option maxHeartbeats 16000000 in
theorem specParseAt_any (S : ByteArray) (hS : S.size ≤ 80) : ∀ (f a : Nat) (w : World) (v : Value) (xs : List Nd) (base : Nat), a ≤ S.size → S.size - a < f → xs.length ≤ a → w.ownsRow base 112 4 v xs.length (ndCells xs) → base ≤ w.heap.size →
    Calls Tryz.prog 117 #[v, .string S, .int .i64 (a : Nat)] w (ParPost S base w v a xs.length (sP f xs (S.data.toList.drop a))) := by
  intro f
  induction f with
  | zero => intro a w v xs base ha hf; omega
  | succ f ih =>
    intro a w v xs base ha hf hxa hown hbase
    obtain ⟨va, vc, rfl, _, _⟩ := own_shape' hown
    have HO := Lib.hid hown
    have hxn : xs.length ≤ 80 := by omega
    by_cases hend : a = S.size
    · have e : sP (f + 1) xs (S.data.toList.drop a) = none := by
        rw [List.drop_of_length_le (by show S.size ≤ a; omega)]
        simp [sP, headOf]
      rw [e]
      subst hend
      clear e ih hown ha hf hxa
      go_enter Tryz.func117, Tryz.ntmps117
      go_wp2
      go_returns
      exact ⟨_, rfl, Below.refl _ _⟩
    have hlt : a < S.size := by omega
    by_cases h40 : 40 < xs.length
    · have e : sP (f + 1) xs (S.data.toList.drop a) = none := by simp [sP, h40]
      rw [e]
      clear e ih hown ha hf hxa hend
      go_enter Tryz.func117, Tryz.ntmps117
      go_wp2
      go_returns
      exact ⟨_, rfl, Below.refl _ _⟩
    have hdr := drop_head hlt
    have KO := Lib.hid (fun W => l02Op_any S[a] W)
    rcases opB_cases S[a] with h0 | ⟨h1, hca, hcb⟩ | hrest
    · rw [sP_none (by rw [hdr]; simp [headOf, h0])]
      rw [h0] at KO
      clear h0 ih hown hdr
      go_enter Tryz.func117, Tryz.ntmps117
      go_wp2_with fail
      refine (KO.out _).mono ?_
      rintro e w1 ⟨rfl, hb1⟩
      have B1 := Lib.hid hb1; clear hb1
      have hz1 := B1.out.size
      go_wp2
      go_returns
      exact ⟨_, rfl, (B1.out.mono hbase).alloc (by omega) _⟩
    · rw [sP_head (op := 1) (n := (S[a].toNat : Int) - 97) (r := S.data.toList.drop (a + 1)) h40 (by rw [hdr]; simp [headOf, h1]), sTail_0 (by decide)]
      rw [h1] at KO
      have KU := Lib.hid (fun W => l02Uses_in 1 W (by decide) (by decide))
      rw [show usesI 1 = 0 from rfl] at KU
      have hc1 : (97 : Int) ≤ (S[a].toNat : Int) := by omega
      have hc2 : (S[a].toNat : Int) ≤ 100 := by omega
      clear h1 ih hown hdr hca hcb
      go_enter Tryz.func117, Tryz.ntmps117
      go_wp2_with fail
      refine (KO.out _).mono ?_
      rintro e w1 ⟨rfl, hb1⟩
      have B1 := Lib.hid hb1
      have O1 := Lib.hid (own_below HO.out hb1 (Nat.le_refl _)); clear hb1
      have hz1 := B1.out.size
      go_wp2
      refine wp_loop_rounds 1 ?_
      rw [rounds_succ]
      go_wp2_with fail
      refine (KU.out _).mono ?_
      rintro e w' ⟨rfl, rfl⟩
      go_wp2_with (at_builtin; refine wpList_push4W rfl _ _ 28 rfl 112 (.agg #[.int .i64 0, .int .i64 0, .int .i64 0, .int .i64 0]) 32 Tryz.underlying28 Tryz.infoNd rfl base _ _ _ _ _ (.slice va xs.length vc) _ _ (by exact own_below O1.out (by go_grown) (Nat.le_refl _)) rfl _ rfl (by simp) rfl rfl rfl rfl (by unfold maxLen; omega) (by omega) (by simp; omega) ?_; intro v' w9 hown9 hgr9; have HO9 := Lib.hid hown9; have GR9 := Lib.hid hgr9; clear hown9 hgr9)
      go_returns
      exact par_end (x := ⟨1, (S[a].toNat : Int) - 97, 0, 0⟩) (a' := a + 1) (by omega) rfl (by omega) (by omega) (by omega) HO9.out (Grew.of_below _ (B1.out.alloc hz1 _)) GR9.out
    · have hL : (∃ op, opB S[a] = op ∧ (op = 2 ∨ op = 3 ∨ op = 4 ∨ op = 7 ∨ op = 8 ∨ op = 9)) ∨ (opB S[a] = 5 ∨ opB S[a] = 6) := by
        rcases hrest with ⟨h, _⟩ | ⟨h, _⟩ | ⟨h, _⟩ | ⟨h, _⟩ | ⟨h, _⟩ | ⟨h, _⟩ | ⟨h, _⟩ | ⟨h, _⟩
        · exact .inl ⟨2, h, by decide⟩
        · exact .inl ⟨3, h, by decide⟩
        · exact .inl ⟨4, h, by decide⟩
        · exact .inr (.inl h)
        · exact .inr (.inr h)
        · exact .inl ⟨7, h, by decide⟩
        · exact .inl ⟨8, h, by decide⟩
        · exact .inl ⟨9, h, by decide⟩
      clear hrest
      rcases hL with ⟨op, hop, hset⟩ | hag
      · have hh : headOf (S.data.toList.drop a) = some (op, 0, S.data.toList.drop (a + 1)) := by
          rw [hdr]; simp only [headOf, hop]; rw [if_neg (by omega), if_neg (by omega), if_neg (by omega)]
        rw [sP_head h40 hh]
        rw [hop] at KO
        have KU := Lib.hid (fun W => l02Uses_in op W (by omega) (by omega))
        have e0 : (op == 0) = false := by simp; omega
        have e1 : (op == 1) = false := by simp; omega
        have e5 : (op == 5) = false := by simp; omega
        have e6 : (op == 6) = false := by simp; omega
        have HSET := Lib.hid hset
        clear hop hset hh hdr hown
        by_cases hu0 : usesI op = 0
        · rw [sTail_0 hu0]
          rw [hu0] at KU
          clear hu0 ih
          go_enter Tryz.func117, Tryz.ntmps117
          go_wp2_with fail
          refine (KO.out _).mono ?_
          rintro e w1 ⟨rfl, hb1⟩
          have B1 := Lib.hid hb1
          have O1 := Lib.hid (own_below HO.out hb1 (Nat.le_refl _)); clear hb1
          have hz1 := B1.out.size
          go_wp2
          refine wp_loop_rounds 1 ?_
          rw [rounds_succ]
          go_wp2_with fail
          refine (KU.out _).mono ?_
          rintro e w' ⟨rfl, rfl⟩
          go_wp2_with (at_builtin; refine wpList_push4W rfl _ _ 28 rfl 112 (.agg #[.int .i64 0, .int .i64 0, .int .i64 0, .int .i64 0]) 32 Tryz.underlying28 Tryz.infoNd rfl base _ _ _ _ _ (.slice va xs.length vc) _ _ (by exact own_below O1.out (by go_grown) (Nat.le_refl _)) rfl _ rfl (by simp) rfl rfl rfl rfl (by unfold maxLen; omega) (by omega) (by simp; omega) ?_; intro v' w9 hown9 hgr9; have HO9 := Lib.hid hown9; have GR9 := Lib.hid hgr9; clear hown9 hgr9)
          go_returns
          exact par_end (x := ⟨op, 0, 0, 0⟩) (a' := a + 1) (by omega) rfl (by omega) (by omega) (by omega) HO9.out (Grew.of_below _ (B1.out.alloc hz1 _)) GR9.out
        have KN := fun W (ho : W.ownsRow base 112 4 (.slice va xs.length vc) xs.length (ndCells xs)) hb => l02Next_of (ih (a + 1) W (.slice va xs.length vc) xs base (by omega) (by omega) (by omega) ho hb)
        rw [show ((a + 1 : Nat) : Int) = (a : Int) + 1 by omega] at KN
        by_cases hu1 : usesI op = 1
        · rw [hu1] at KU
          cases hr : sP f xs (S.data.toList.drop (a + 1)) with
          | none =>
            rw [hr] at KN
            rw [sTail_n hu0 hr]
            have KN := Lib.hid KN
            clear hu0 hu1 ih hr
            go_enter Tryz.func117, Tryz.ntmps117
            go_wp2_with fail
            refine (KO.out _).mono ?_
            rintro e w1 ⟨rfl, hb1⟩
            have B1 := Lib.hid hb1
            have O1 := Lib.hid (own_below HO.out hb1 (Nat.le_refl _)); clear hb1
            have hz1 := B1.out.size
            go_wp2
            refine wp_loop_rounds 2 ?_
            rw [rounds_succ]
            go_wp2_with fail
            refine (KU.out _).mono ?_
            rintro e w' ⟨rfl, rfl⟩
            have OA := Lib.hid (own_below O1.out ((Below.refl w1.heap.size w1).alloc (Nat.le_refl _) (.cells #[.int .i64 op, .int .i64 0, .int .i64 0, .int .i64 0] 112)) (Nat.le_refl _))
            have NA := Lib.hid (NdRow.start w1 ⟨op, 0, 0, 0⟩)
            have GA := Lib.hid (Grew.of_below (.slice va xs.length vc) (B1.out.alloc hz1 (.cells #[.int .i64 op, .int .i64 0, .int .i64 0, .int .i64 0] 112)))
            have hneA := own_ne O1.out
            go_wp2_with fail
            generalize hWA : w1.alloc (.cells #[.int .i64 op, .int .i64 0, .int .i64 0, .int .i64 0] 112) = wA at *
            have hzA : base ≤ wA.heap.size := by rw [← hWA]; simp; omega
            clear hWA
            refine (KN.out _ OA.out hzA).mono ?_
            intro e w2 h2
            obtain ⟨v2, rfl, hb2⟩ := h2
            have B2 := Lib.hid hb2; clear hb2
            go_wp2
            go_returns
            exact ⟨_, rfl, ((GA.out.below hbase (fun k hk => (HO.out.lt k hk).1)).trans B2.out)⟩
          | some p =>
            obtain ⟨ys, r1⟩ := p
            rw [hr] at KN
            rw [sTail_1 hu1 hr]
            have KN := Lib.hid KN
            clear hu0 hu1 ih hr
            go_enter Tryz.func117, Tryz.ntmps117
            go_wp2_with fail
            refine (KO.out _).mono ?_
            rintro e w1 ⟨rfl, hb1⟩
            have B1 := Lib.hid hb1
            have O1 := Lib.hid (own_below HO.out hb1 (Nat.le_refl _)); clear hb1
            have hz1 := B1.out.size
            go_wp2
            refine wp_loop_rounds 2 ?_
            rw [rounds_succ]
            go_wp2_with fail
            refine (KU.out _).mono ?_
            rintro e w' ⟨rfl, rfl⟩
            have OA := Lib.hid (own_below O1.out ((Below.refl w1.heap.size w1).alloc (Nat.le_refl _) (.cells #[.int .i64 op, .int .i64 0, .int .i64 0, .int .i64 0] 112)) (Nat.le_refl _))
            have NA := Lib.hid (NdRow.start w1 ⟨op, 0, 0, 0⟩)
            have GA := Lib.hid (Grew.of_below (.slice va xs.length vc) (B1.out.alloc hz1 (.cells #[.int .i64 op, .int .i64 0, .int .i64 0, .int .i64 0] 112)))
            have hneA := own_ne O1.out
            go_wp2_with fail
            generalize hWA : w1.alloc (.cells #[.int .i64 op, .int .i64 0, .int .i64 0, .int .i64 0] 112) = wA at *
            have hzA : base ≤ wA.heap.size := by rw [← hWA]; simp; omega
            clear hWA
            refine (KN.out _ OA.out hzA).mono ?_
            intro e w2 h2
            obtain ⟨v2, a2, rfl, hd2, ha2, hlt2, hys2, ho2, hg2⟩ := h2
            obtain ⟨va2, vc2, rfl, _, _⟩ := own_shape' ho2
            have G2 := Lib.hid (GA.out.trans hg2)
            have N2 := Lib.hid (NdRow.grew NA.out hg2 hneA)
            have hne2 := hg2.ne (World.rowIs.lt NA.out) hneA
            have O2 := Lib.hid ho2
            have HD2 := Lib.hid hd2
            obtain ⟨n0, n1, n2, n3, f0, f1, f2, f3⟩ := N2.out.cells
            have O3 := Lib.hid (own_setFar O2.out hne2 2 (.int .i64 ((ys.length : Int) - 1)))
            have N3 := Lib.hid (N2.out.setA ((ys.length : Int) - 1))
            have G3 := Lib.hid (grew_setFar G2.out hz1 2 (.int .i64 ((ys.length : Int) - 1)))
            have hyl : (ys.length : Int) ≤ 80 := by omega
            have hy0 : (0 : Int) ≤ (ys.length : Int) := Int.natCast_nonneg _
            have ha20 : (0 : Int) ≤ (a2 : Int) := Int.natCast_nonneg _
            clear hd2 ho2 hg2
            go_wp2
            clear n0 n1 n2 n3 f0 f1 f2 f3
            generalize w2.setCell ⟨w1.heap.size, 2, none⟩ (.int .i64 ((ys.length : Int) - 1)) = w3 at *
            obtain ⟨n0, n1, n2, n3, f0, f1, f2, f3⟩ := N3.out.cells
            rw [rounds_succ]
            go_wp2_with fail
            refine (KU.out _).mono ?_
            rintro e w' ⟨rfl, rfl⟩
            have hz3 : base ≤ w3.heap.size := Nat.le_trans hbase G3.out.1.size
            go_wp2_with (at_builtin; refine wpList_push4W rfl _ _ 28 rfl 112 (.agg #[.int .i64 0, .int .i64 0, .int .i64 0, .int .i64 0]) 32 Tryz.underlying28 Tryz.infoNd rfl base _ _ _ _ _ (.slice va2 ys.length vc2) _ _ O3.out rfl _ rfl rfl rfl rfl rfl rfl (by unfold maxLen; omega) (by omega) hz3 ?_; intro v' w9 hown9 hgr9; have HO9 := Lib.hid hown9; have GR9 := Lib.hid hgr9; clear hown9 hgr9)
            go_returns
            exact par_end (x := ⟨op, 0, (ys.length : Int) - 1, 0⟩) (a' := a2) rfl HD2.out ha2 (by omega) (by omega) HO9.out G3.out GR9.out
        · have hu2 : usesI op = 2 := by have := usesI_le op; omega
          rw [hu2] at KU
          cases hr : sP f xs (S.data.toList.drop (a + 1)) with
          | none =>
            rw [hr] at KN
            rw [sTail_n hu0 hr]
            have KN := Lib.hid KN
            clear hu0 hu1 hu2 ih hr
            go_enter Tryz.func117, Tryz.ntmps117
            go_wp2_with fail
            refine (KO.out _).mono ?_
            rintro e w1 ⟨rfl, hb1⟩
            have B1 := Lib.hid hb1
            have O1 := Lib.hid (own_below HO.out hb1 (Nat.le_refl _)); clear hb1
            have hz1 := B1.out.size
            go_wp2
            refine wp_loop_rounds 3 ?_
            rw [rounds_succ]
            go_wp2_with fail
            refine (KU.out _).mono ?_
            rintro e w' ⟨rfl, rfl⟩
            have OA := Lib.hid (own_below O1.out ((Below.refl w1.heap.size w1).alloc (Nat.le_refl _) (.cells #[.int .i64 op, .int .i64 0, .int .i64 0, .int .i64 0] 112)) (Nat.le_refl _))
            have NA := Lib.hid (NdRow.start w1 ⟨op, 0, 0, 0⟩)
            have GA := Lib.hid (Grew.of_below (.slice va xs.length vc) (B1.out.alloc hz1 (.cells #[.int .i64 op, .int .i64 0, .int .i64 0, .int .i64 0] 112)))
            have hneA := own_ne O1.out
            go_wp2_with fail
            generalize hWA : w1.alloc (.cells #[.int .i64 op, .int .i64 0, .int .i64 0, .int .i64 0] 112) = wA at *
            have hzA : base ≤ wA.heap.size := by rw [← hWA]; simp; omega
            clear hWA
            refine (KN.out _ OA.out hzA).mono ?_
            intro e w2 h2
            obtain ⟨v2, rfl, hb2⟩ := h2
            have B2 := Lib.hid hb2; clear hb2
            go_wp2
            go_returns
            exact ⟨_, rfl, ((GA.out.below hbase (fun k hk => (HO.out.lt k hk).1)).trans B2.out)⟩
          | some p =>
            obtain ⟨ys, r1⟩ := p
            rw [hr] at KN
            have KN := Lib.hid KN
            have KM := fun W v2 (a2 : Nat) (hd : S.data.toList.drop a2 = r1) (g1 : a2 ≤ S.size) (g2 : a + 1 < a2) (g3 : ys.length ≤ a2) (ho : W.ownsRow base 112 4 v2 ys.length (ndCells ys)) hb => (show Calls Tryz.prog 149 #[v2, .string S, .int .i64 (a2 : Nat)] W (ParPost S base W v2 a2 ys.length (sP f ys r1)) by
              have := l02Next_of (ih a2 W v2 ys base g1 (by omega) g3 ho hb)
              rw [hd] at this
              exact this)
            cases hr2 : sP f ys r1 with
            | none =>
              rw [hr2] at KM
              rw [sTail_2n hu2 hr hr2]
              have KM := Lib.hid KM
              clear hu0 hu1 hu2 ih hr hr2
              go_enter Tryz.func117, Tryz.ntmps117
              go_wp2_with fail
              refine (KO.out _).mono ?_
              rintro e w1 ⟨rfl, hb1⟩
              have B1 := Lib.hid hb1
              have O1 := Lib.hid (own_below HO.out hb1 (Nat.le_refl _)); clear hb1
              have hz1 := B1.out.size
              go_wp2
              refine wp_loop_rounds 3 ?_
              rw [rounds_succ]
              go_wp2_with fail
              refine (KU.out _).mono ?_
              rintro e w' ⟨rfl, rfl⟩
              have OA := Lib.hid (own_below O1.out ((Below.refl w1.heap.size w1).alloc (Nat.le_refl _) (.cells #[.int .i64 op, .int .i64 0, .int .i64 0, .int .i64 0] 112)) (Nat.le_refl _))
              have NA := Lib.hid (NdRow.start w1 ⟨op, 0, 0, 0⟩)
              have GA := Lib.hid (Grew.of_below (.slice va xs.length vc) (B1.out.alloc hz1 (.cells #[.int .i64 op, .int .i64 0, .int .i64 0, .int .i64 0] 112)))
              have hneA := own_ne O1.out
              go_wp2_with fail
              generalize hWA : w1.alloc (.cells #[.int .i64 op, .int .i64 0, .int .i64 0, .int .i64 0] 112) = wA at *
              have hzA : base ≤ wA.heap.size := by rw [← hWA]; simp; omega
              clear hWA
              refine (KN.out _ OA.out hzA).mono ?_
              intro e w2 h2
              obtain ⟨v2, a2, rfl, hd2, ha2, hlt2, hys2, ho2, hg2⟩ := h2
              obtain ⟨va2, vc2, rfl, _, _⟩ := own_shape' ho2
              have G2 := Lib.hid (GA.out.trans hg2)
              have N2 := Lib.hid (NdRow.grew NA.out hg2 hneA)
              have hne2 := hg2.ne (World.rowIs.lt NA.out) hneA
              have O2 := Lib.hid ho2
              have HD2 := Lib.hid hd2
              obtain ⟨n0, n1, n2, n3, f0, f1, f2, f3⟩ := N2.out.cells
              have O3 := Lib.hid (own_setFar O2.out hne2 2 (.int .i64 ((ys.length : Int) - 1)))
              have N3 := Lib.hid (N2.out.setA ((ys.length : Int) - 1))
              have G3 := Lib.hid (grew_setFar G2.out hz1 2 (.int .i64 ((ys.length : Int) - 1)))
              have hyl : (ys.length : Int) ≤ 80 := by omega
              have hy0 : (0 : Int) ≤ (ys.length : Int) := Int.natCast_nonneg _
              have ha20 : (0 : Int) ≤ (a2 : Int) := Int.natCast_nonneg _
              clear hd2 ho2 hg2
              go_wp2
              clear n0 n1 n2 n3 f0 f1 f2 f3
              generalize w2.setCell ⟨w1.heap.size, 2, none⟩ (.int .i64 ((ys.length : Int) - 1)) = w3 at *
              obtain ⟨n0, n1, n2, n3, f0, f1, f2, f3⟩ := N3.out.cells
              rw [rounds_succ]
              go_wp2_with fail
              refine (KU.out _).mono ?_
              rintro e w' ⟨rfl, rfl⟩
              have hz3 : base ≤ w3.heap.size := Nat.le_trans hbase G3.out.1.size
              go_wp2_with fail
              refine (KM.out _ _ a2 HD2.out ha2 hlt2 (by omega) O3.out hz3).mono ?_
              intro e w4 h4
              obtain ⟨v4, rfl, hb4⟩ := h4
              have B4 := Lib.hid hb4; clear hb4
              go_wp2
              go_returns
              exact ⟨_, rfl, ((G3.out.below hbase (fun k hk => (HO.out.lt k hk).1)).trans B4.out)⟩
            | some p =>
              obtain ⟨zs, r2⟩ := p
              rw [hr2] at KM
              rw [sTail_2 hu2 hr hr2]
              have KM := Lib.hid KM
              clear hu0 hu1 hu2 ih hr hr2
              go_enter Tryz.func117, Tryz.ntmps117
              go_wp2_with fail
              refine (KO.out _).mono ?_
              rintro e w1 ⟨rfl, hb1⟩
              have B1 := Lib.hid hb1
              have O1 := Lib.hid (own_below HO.out hb1 (Nat.le_refl _)); clear hb1
              have hz1 := B1.out.size
              go_wp2
              refine wp_loop_rounds 3 ?_
              rw [rounds_succ]
              go_wp2_with fail
              refine (KU.out _).mono ?_
              rintro e w' ⟨rfl, rfl⟩
              have OA := Lib.hid (own_below O1.out ((Below.refl w1.heap.size w1).alloc (Nat.le_refl _) (.cells #[.int .i64 op, .int .i64 0, .int .i64 0, .int .i64 0] 112)) (Nat.le_refl _))
              have NA := Lib.hid (NdRow.start w1 ⟨op, 0, 0, 0⟩)
              have GA := Lib.hid (Grew.of_below (.slice va xs.length vc) (B1.out.alloc hz1 (.cells #[.int .i64 op, .int .i64 0, .int .i64 0, .int .i64 0] 112)))
              have hneA := own_ne O1.out
              go_wp2_with fail
              generalize hWA : w1.alloc (.cells #[.int .i64 op, .int .i64 0, .int .i64 0, .int .i64 0] 112) = wA at *
              have hzA : base ≤ wA.heap.size := by rw [← hWA]; simp; omega
              clear hWA
              refine (KN.out _ OA.out hzA).mono ?_
              intro e w2 h2
              obtain ⟨v2, a2, rfl, hd2, ha2, hlt2, hys2, ho2, hg2⟩ := h2
              obtain ⟨va2, vc2, rfl, _, _⟩ := own_shape' ho2
              have G2 := Lib.hid (GA.out.trans hg2)
              have N2 := Lib.hid (NdRow.grew NA.out hg2 hneA)
              have hne2 := hg2.ne (World.rowIs.lt NA.out) hneA
              have O2 := Lib.hid ho2
              have HD2 := Lib.hid hd2
              obtain ⟨n0, n1, n2, n3, f0, f1, f2, f3⟩ := N2.out.cells
              have O3 := Lib.hid (own_setFar O2.out hne2 2 (.int .i64 ((ys.length : Int) - 1)))
              have N3 := Lib.hid (N2.out.setA ((ys.length : Int) - 1))
              have G3 := Lib.hid (grew_setFar G2.out hz1 2 (.int .i64 ((ys.length : Int) - 1)))
              have hyl : (ys.length : Int) ≤ 80 := by omega
              have hy0 : (0 : Int) ≤ (ys.length : Int) := Int.natCast_nonneg _
              have ha20 : (0 : Int) ≤ (a2 : Int) := Int.natCast_nonneg _
              clear hd2 ho2 hg2
              go_wp2
              clear n0 n1 n2 n3 f0 f1 f2 f3
              generalize w2.setCell ⟨w1.heap.size, 2, none⟩ (.int .i64 ((ys.length : Int) - 1)) = w3 at *
              obtain ⟨n0, n1, n2, n3, f0, f1, f2, f3⟩ := N3.out.cells
              rw [rounds_succ]
              go_wp2_with fail
              refine (KU.out _).mono ?_
              rintro e w' ⟨rfl, rfl⟩
              have hz3 : base ≤ w3.heap.size := Nat.le_trans hbase G3.out.1.size
              go_wp2_with fail
              refine (KM.out _ _ a2 HD2.out ha2 hlt2 (by omega) O3.out hz3).mono ?_
              intro e w4 h4
              obtain ⟨v4, a4, rfl, hd4, ha4, hlt4, hys4, ho4, hg4⟩ := h4
              obtain ⟨va4, vc4, rfl, _, _⟩ := own_shape' ho4
              have G4 := Lib.hid (G3.out.trans hg4)
              have N4 := Lib.hid (NdRow.grew N3.out hg4 hne2)
              have hne4 := hg4.ne (World.rowIs.lt N3.out) hne2
              have O4 := Lib.hid ho4
              have HD4 := Lib.hid hd4
              clear n0 n1 n2 n3 f0 f1 f2 f3
              obtain ⟨n0, n1, n2, n3, f0, f1, f2, f3⟩ := N4.out.cells
              have O5 := Lib.hid (own_setFar O4.out hne4 3 (.int .i64 ((zs.length : Int) - 1)))
              have N5 := Lib.hid (N4.out.setB ((zs.length : Int) - 1))
              have G5 := Lib.hid (grew_setFar G4.out hz1 3 (.int .i64 ((zs.length : Int) - 1)))
              have hzl : (zs.length : Int) ≤ 80 := by omega
              have hz0' : (0 : Int) ≤ (zs.length : Int) := Int.natCast_nonneg _
              have ha40 : (0 : Int) ≤ (a4 : Int) := Int.natCast_nonneg _
              clear hd4 ho4 hg4
              go_wp2
              clear n0 n1 n2 n3 f0 f1 f2 f3
              generalize w4.setCell ⟨w1.heap.size, 3, none⟩ (.int .i64 ((zs.length : Int) - 1)) = w5 at *
              obtain ⟨n0, n1, n2, n3, f0, f1, f2, f3⟩ := N5.out.cells
              rw [rounds_succ]
              go_wp2_with fail
              refine (KU.out _).mono ?_
              rintro e w' ⟨rfl, rfl⟩
              have hz5 : base ≤ w5.heap.size := Nat.le_trans hbase G5.out.1.size
              go_wp2_with (at_builtin; refine wpList_push4W rfl _ _ 28 rfl 112 (.agg #[.int .i64 0, .int .i64 0, .int .i64 0, .int .i64 0]) 32 Tryz.underlying28 Tryz.infoNd rfl base _ _ _ _ _ (.slice va4 zs.length vc4) _ _ O5.out rfl _ rfl rfl rfl rfl rfl rfl (by unfold maxLen; omega) (by omega) hz5 ?_; intro v' w9 hown9 hgr9; have HO9 := Lib.hid hown9; have GR9 := Lib.hid hgr9; clear hown9 hgr9)
              go_returns
              exact par_end (x := ⟨op, 0, (ys.length : Int) - 1, (zs.length : Int) - 1⟩) (a' := a4) rfl HD4.out ha4 (by omega) (by omega) HO9.out G5.out GR9.out
      · have hopc : ∃ op, opB S[a] = op ∧ (op = 5 ∨ op = 6) := ⟨_, rfl, hag⟩
        obtain ⟨op, hop, hset⟩ := hopc
        rw [hop] at KO
        have hstep : ∀ c r, opB c = op → headOf (c :: r) = (match r with | [] => none | d :: r' => if 48 ≤ d.toNat ∧ d.toNat ≤ 50 then some (op, (d.toNat : Int) - 48, r') else none) := by
          intro c r h
          simp only [headOf, h]; rw [if_neg (by omega), if_neg (by omega), if_pos hset]; cases r <;> rfl
        by_cases he : a + 1 = S.size
        · have hh : headOf (S.data.toList.drop a) = none := by
            rw [hdr, hstep _ _ hop, List.drop_of_length_le (by show S.size ≤ a + 1; omega)]
          rw [sP_none hh]
          have hle : (S.size : Int) ≤ (a : Int) + 1 := by omega
          clear hop hh hdr hown hstep hag ih
          rcases hset with rfl | rfl
          all_goals
            go_enter Tryz.func117, Tryz.ntmps117
            go_wp2_with fail
            refine (KO.out _).mono ?_
            rintro e w1 ⟨rfl, hb1⟩
            have B1 := Lib.hid hb1
            clear hb1
            have hz1 := B1.out.size
            go_wp2
            go_returns
            exact ⟨_, rfl, (B1.out.mono hbase).alloc (by omega) _⟩
        have hlt1 : a + 1 < S.size := by omega
        have hdr1 := drop_head hlt1
        have hli : (a : Int) + 1 < (S.size : Int) := by omega
        by_cases hd : 48 ≤ (S[a + 1]).toNat ∧ (S[a + 1]).toNat ≤ 50
        ·
          have hh : headOf (S.data.toList.drop a) = some (op, ((S[a + 1]).toNat : Int) - 48, S.data.toList.drop (a + 2)) := by
            rw [hdr, hstep _ _ hop, hdr1]; simp only []; rw [if_pos hd]
          rw [sP_head h40 hh]
          have KU := Lib.hid (fun W => l02Uses_in op W (by omega) (by omega))
          have hu1 : usesI op = 1 := usesI_1 (by omega)
          have hu0 : ¬ usesI op = 0 := by omega
          rw [hu1] at KU
          have e0 : (op == 0) = false := by simp; omega
          have e1 : (op == 1) = false := by simp; omega
          have d1 : (48 : Int) ≤ ((S[a + 1]).toNat : Int) := by omega
          have d2 : ((S[a + 1]).toNat : Int) < 51 := by omega
          have HSET := Lib.hid hset
          clear hop hh hdr hown hstep hag hdr1 hd
          have KN := fun W (ho : W.ownsRow base 112 4 (.slice va xs.length vc) xs.length (ndCells xs)) hb => l02Next_of (ih (a + 2) W (.slice va xs.length vc) xs base (by omega) (by omega) (by omega) ho hb)
          rw [show ((a + 2 : Nat) : Int) = (a : Int) + 1 + 1 by omega] at KN
          have h56 : ((op == 5) = true ∧ True) ∨ ((op == 5) = false ∧ (op == 6) = true) := by
            rcases hset with rfl | rfl
            · exact .inl ⟨rfl, trivial⟩
            · exact .inr ⟨rfl, rfl⟩
          clear hset
          have hcv : ∀ W : World, True := fun _ => trivial
          clear hcv
          cases hr : sP f xs (S.data.toList.drop (a + 2)) with
          | none =>
            rw [hr] at KN
            rw [sTail_n hu0 hr]
            have KN := Lib.hid KN
            clear hu0 hu1 ih hr
            rcases h56 with ⟨h5, _⟩ | ⟨h5, h6⟩
            all_goals
              go_enter Tryz.func117, Tryz.ntmps117
              go_wp2_with fail
              refine (KO.out _).mono ?_
              rintro e w1 ⟨rfl, hb1⟩
              have B1 := Lib.hid hb1
              have O1 := Lib.hid (own_below HO.out hb1 (Nat.le_refl _)); clear hb1
              have hz1 := B1.out.size
              go_wp2
              refine wp_loop_rounds 2 ?_
              rw [rounds_succ]
              go_wp2_with fail
              refine (KU.out _).mono ?_
              rintro e w' ⟨rfl, rfl⟩
              have OA := Lib.hid (own_below O1.out ((Below.refl w1.heap.size w1).alloc (Nat.le_refl _) (.cells #[.int .i64 op, .int .i64 (((S[a + 1]).toNat : Int) - 48), .int .i64 0, .int .i64 0] 112)) (Nat.le_refl _))
              have NA := Lib.hid (NdRow.start w1 ⟨op, (((S[a + 1]).toNat : Int) - 48), 0, 0⟩)
              have GA := Lib.hid (Grew.of_below (.slice va xs.length vc) (B1.out.alloc hz1 (.cells #[.int .i64 op, .int .i64 (((S[a + 1]).toNat : Int) - 48), .int .i64 0, .int .i64 0] 112)))
              have hneA := own_ne O1.out
              go_wp2_with fail
              generalize hWA : w1.alloc (.cells #[.int .i64 op, .int .i64 (((S[a + 1]).toNat : Int) - 48), .int .i64 0, .int .i64 0] 112) = wA at *
              have hzA : base ≤ wA.heap.size := by rw [← hWA]; simp; omega
              clear hWA
              refine (KN.out _ OA.out hzA).mono ?_
              intro e w2 h2
              obtain ⟨v2, rfl, hb2⟩ := h2
              have B2 := Lib.hid hb2; clear hb2
              go_wp2
              go_returns
              exact ⟨_, rfl, ((GA.out.below hbase (fun k hk => (HO.out.lt k hk).1)).trans B2.out)⟩
          | some p =>
            obtain ⟨ys, r1⟩ := p
            rw [hr] at KN
            rw [sTail_1 hu1 hr]
            have KN := Lib.hid KN
            clear hu0 hu1 ih hr
            rcases h56 with ⟨h5, _⟩ | ⟨h5, h6⟩
            all_goals
              go_enter Tryz.func117, Tryz.ntmps117
              go_wp2_with fail
              refine (KO.out _).mono ?_
              rintro e w1 ⟨rfl, hb1⟩
              have B1 := Lib.hid hb1
              have O1 := Lib.hid (own_below HO.out hb1 (Nat.le_refl _)); clear hb1
              have hz1 := B1.out.size
              go_wp2
              refine wp_loop_rounds 2 ?_
              rw [rounds_succ]
              go_wp2_with fail
              refine (KU.out _).mono ?_
              rintro e w' ⟨rfl, rfl⟩
              have OA := Lib.hid (own_below O1.out ((Below.refl w1.heap.size w1).alloc (Nat.le_refl _) (.cells #[.int .i64 op, .int .i64 (((S[a + 1]).toNat : Int) - 48), .int .i64 0, .int .i64 0] 112)) (Nat.le_refl _))
              have NA := Lib.hid (NdRow.start w1 ⟨op, (((S[a + 1]).toNat : Int) - 48), 0, 0⟩)
              have GA := Lib.hid (Grew.of_below (.slice va xs.length vc) (B1.out.alloc hz1 (.cells #[.int .i64 op, .int .i64 (((S[a + 1]).toNat : Int) - 48), .int .i64 0, .int .i64 0] 112)))
              have hneA := own_ne O1.out
              go_wp2_with fail
              generalize hWA : w1.alloc (.cells #[.int .i64 op, .int .i64 (((S[a + 1]).toNat : Int) - 48), .int .i64 0, .int .i64 0] 112) = wA at *
              have hzA : base ≤ wA.heap.size := by rw [← hWA]; simp; omega
              clear hWA
              refine (KN.out _ OA.out hzA).mono ?_
              intro e w2 h2
              obtain ⟨v2, a2, rfl, hd2, ha2, hlt2, hys2, ho2, hg2⟩ := h2
              obtain ⟨va2, vc2, rfl, _, _⟩ := own_shape' ho2
              have G2 := Lib.hid (GA.out.trans hg2)
              have N2 := Lib.hid (NdRow.grew NA.out hg2 hneA)
              have hne2 := hg2.ne (World.rowIs.lt NA.out) hneA
              have O2 := Lib.hid ho2
              have HD2 := Lib.hid hd2
              obtain ⟨n0, n1, n2, n3, f0, f1, f2, f3⟩ := N2.out.cells
              have O3 := Lib.hid (own_setFar O2.out hne2 2 (.int .i64 ((ys.length : Int) - 1)))
              have N3 := Lib.hid (N2.out.setA ((ys.length : Int) - 1))
              have G3 := Lib.hid (grew_setFar G2.out hz1 2 (.int .i64 ((ys.length : Int) - 1)))
              have hyl : (ys.length : Int) ≤ 80 := by omega
              have hy0 : (0 : Int) ≤ (ys.length : Int) := Int.natCast_nonneg _
              have ha20 : (0 : Int) ≤ (a2 : Int) := Int.natCast_nonneg _
              clear hd2 ho2 hg2
              go_wp2
              clear n0 n1 n2 n3 f0 f1 f2 f3
              generalize w2.setCell ⟨w1.heap.size, 2, none⟩ (.int .i64 ((ys.length : Int) - 1)) = w3 at *
              obtain ⟨n0, n1, n2, n3, f0, f1, f2, f3⟩ := N3.out.cells
              rw [rounds_succ]
              go_wp2_with fail
              refine (KU.out _).mono ?_
              rintro e w' ⟨rfl, rfl⟩
              have hz3 : base ≤ w3.heap.size := Nat.le_trans hbase G3.out.1.size
              go_wp2_with (at_builtin; refine wpList_push4W rfl _ _ 28 rfl 112 (.agg #[.int .i64 0, .int .i64 0, .int .i64 0, .int .i64 0]) 32 Tryz.underlying28 Tryz.infoNd rfl base _ _ _ _ _ (.slice va2 ys.length vc2) _ _ O3.out rfl _ rfl rfl rfl rfl rfl rfl (by unfold maxLen; omega) (by omega) hz3 ?_; intro v' w9 hown9 hgr9; have HO9 := Lib.hid hown9; have GR9 := Lib.hid hgr9; clear hown9 hgr9)
              go_returns
              exact par_end (x := ⟨op, (((S[a + 1]).toNat : Int) - 48), (ys.length : Int) - 1, 0⟩) (a' := a2) rfl HD2.out ha2 (by omega) (by omega) HO9.out G3.out GR9.out
        · have hh : headOf (S.data.toList.drop a) = none := by
            rw [hdr, hstep _ _ hop, hdr1]; simp only []; rw [if_neg hd]
          rw [sP_none hh]
          clear hop hh hdr hown hstep hag ih hdr1
          by_cases hlo : ((S[a + 1]).toNat : Int) < 48
          · clear hd
            rcases hset with rfl | rfl
            all_goals
              go_enter Tryz.func117, Tryz.ntmps117
              go_wp2_with fail
              refine (KO.out _).mono ?_
              rintro e w1 ⟨rfl, hb1⟩
              have B1 := Lib.hid hb1
              clear hb1
              have hz1 := B1.out.size
              go_wp2
              go_returns
              exact ⟨_, rfl, (B1.out.mono hbase).alloc (by omega) _⟩
          · have hhi : (51 : Int) ≤ ((S[a + 1]).toNat : Int) := by omega
            clear hd
            rcases hset with rfl | rfl
            all_goals
              go_enter Tryz.func117, Tryz.ntmps117
              go_wp2_with fail
              refine (KO.out _).mono ?_
              rintro e w1 ⟨rfl, hb1⟩
              have B1 := Lib.hid hb1
              clear hb1
              have hz1 := B1.out.size
              go_wp2
              go_returns
              exact ⟨_, rfl, (B1.out.mono hbase).alloc (by omega) _⟩
end Go.Proofs.YtodjohdbngbpaaaGreat
