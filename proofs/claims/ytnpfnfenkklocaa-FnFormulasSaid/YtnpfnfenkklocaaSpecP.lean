/-
  Contracts of spec.l02Op; an append that tells where its row lies.
-/
import Derived.Test.YtnpfnfenkklocaaZTmx
import Derived.Test.YtnpfnfenkklocaaZForm
import Derived.Lib.SlBytesConst
namespace Go.Proofs.Ytnpfnfenkklocaa
open Go.RowKit
open Go Go.Deep

theorem cell_marked (w : World) (c : Array Value) (t : TypeId) (a b i : Nat) : (w.alloc (.cells c t (a, b))).cell? ⟨w.heap.size, i, none⟩ = c[i]? :=
  cell_of_row _ _ i c t (a, b) (heap_alloc_new w _)

set_option maxRecDepth 100000 in
set_option maxHeartbeats 4000000 in
theorem l02Op_any (c : UInt8) (w : World) : Calls Try.prog 69 #[.int .u8 (c.toNat : Int)] w fun e w' => e = .returned (.int .i64 (opB c)) ∧ Below w.heap.size w w' := by
  rcases opB_cases c with h0 | ⟨h1, ha, hb⟩ | ⟨hk, hc⟩ | ⟨hk, hc⟩ | ⟨hk, hc⟩ | ⟨hk, hc⟩ | ⟨hk, hc⟩ | ⟨hk, hc⟩ | ⟨hk, hc⟩ | ⟨hk, hc⟩
  · rw [h0]
    have hne : ∀ d : UInt8, opB d ≠ 0 → c.toNat ≠ d.toNat := fun d hd e => by
      have : c = d := by
        have := congrArg UInt8.ofNat e
        simpa using this
      subst this; exact hd h0
    have hr : ¬ (97 ≤ c.toNat ∧ c.toNat ≤ 100) := by
      intro h
      have h2 : c.toNat = 97 ∨ c.toNat = 98 ∨ c.toNat = 99 ∨ c.toNat = 100 := by omega
      rcases h2 with h2 | h2 | h2 | h2
      · exact hne 97 (by decide) h2
      · exact hne 98 (by decide) h2
      · exact hne 99 (by decide) h2
      · exact hne 100 (by decide) h2
    have n1 : ((c.toNat : Int) == 45) = false := by have : c.toNat ≠ 45 := hne 45 (by decide); simp; omega
    have n2 : ((c.toNat : Int) == 38) = false := by have : c.toNat ≠ 38 := hne 38 (by decide); simp; omega
    have n3 : ((c.toNat : Int) == 75) = false := by have : c.toNat ≠ 75 := hne 75 (by decide); simp; omega
    have n4 : ((c.toNat : Int) == 87) = false := by have : c.toNat ≠ 87 := hne 87 (by decide); simp; omega
    have n5 : ((c.toNat : Int) == 69) = false := by have : c.toNat ≠ 69 := hne 69 (by decide); simp; omega
    have n6 : ((c.toNat : Int) == 67) = false := by have : c.toNat ≠ 67 := hne 67 (by decide); simp; omega
    have n7 : ((c.toNat : Int) == 33) = false := by have : c.toNat ≠ 33 := hne 33 (by decide); simp; omega
    have n8 : ((c.toNat : Int) == 84) = false := by have : c.toNat ≠ 84 := hne 84 (by decide); simp; omega
    clear h0 hne
    by_cases hlo : 97 ≤ c.toNat
    · have hi1 : (97 : Int) ≤ (c.toNat : Int) := by omega
      have hi2 : (101 : Int) ≤ (c.toNat : Int) := by omega
      clear hr hlo
      generalize (c.toNat : Int) = x at *
      have hmk := cell_marked
      have hcv := fun (w : World) (C : Array Value) (n c : Nat) => Lib.run_convert_bytes_const (P := Try.prog) w 33 5 C n c Try.underlying33 Try.underlying5
      go_enter Try.func69, Try.ntmps69
      go_wp2
      refine wp_loop_rounds 8 ?_
      repeat (rw [rounds_succ]; go_wp2)
      go_ret
      exact ⟨rfl, (Below.refl _ _).alloc (Nat.le_refl _) _⟩
    · have hi1 : (c.toNat : Int) < (97 : Int) := by omega
      clear hr hlo
      generalize (c.toNat : Int) = x at *
      have hmk := cell_marked
      have hcv := fun (w : World) (C : Array Value) (n c : Nat) => Lib.run_convert_bytes_const (P := Try.prog) w 33 5 C n c Try.underlying33 Try.underlying5
      go_enter Try.func69, Try.ntmps69
      go_wp2
      refine wp_loop_rounds 8 ?_
      repeat (rw [rounds_succ]; go_wp2)
      go_ret
      exact ⟨rfl, (Below.refl _ _).alloc (Nat.le_refl _) _⟩
  · rw [h1]
    clear h1
    have hi1 : (97 : Int) ≤ (c.toNat : Int) := by omega
    have hi2 : (c.toNat : Int) < 101 := by omega
    have n1 : ((c.toNat : Int) == 45) = false := by simp; omega
    have n2 : ((c.toNat : Int) == 38) = false := by simp; omega
    have n3 : ((c.toNat : Int) == 75) = false := by simp; omega
    have n4 : ((c.toNat : Int) == 87) = false := by simp; omega
    have n5 : ((c.toNat : Int) == 69) = false := by simp; omega
    have n6 : ((c.toNat : Int) == 67) = false := by simp; omega
    have n7 : ((c.toNat : Int) == 33) = false := by simp; omega
    have n8 : ((c.toNat : Int) == 84) = false := by simp; omega
    clear ha hb
    generalize (c.toNat : Int) = x at *
    have hmk := cell_marked
    have hcv := fun (w : World) (C : Array Value) (n c : Nat) => Lib.run_convert_bytes_const (P := Try.prog) w 33 5 C n c Try.underlying33 Try.underlying5
    go_enter Try.func69, Try.ntmps69
    go_wp2
    refine wp_loop_rounds 8 ?_
    repeat (rw [rounds_succ]; go_wp2)
    go_ret
    exact ⟨rfl, (Below.refl _ _).alloc (Nat.le_refl _) _⟩
  all_goals
    rw [hk, hc]
    clear hk hc
    simp only [UInt8.reduceToNat]
    have hmk := cell_marked
    have hcv := fun (w : World) (C : Array Value) (n c : Nat) => Lib.run_convert_bytes_const (P := Try.prog) w 33 5 C n c Try.underlying33 Try.underlying5
    go_enter Try.func69, Try.ntmps69
    go_wp2
    refine wp_loop_rounds 8 ?_
    repeat (rw [rounds_succ]; go_wp2)
    go_ret
    exact ⟨rfl, (Below.refl _ _).alloc (Nat.le_refl _) _⟩

/-- where a row lies behind an append -/
def Loc (w : World) (v v' : Value) : Prop := v'.ownBlock = v.ownBlock ∨ ∃ g, v'.ownBlock = some g ∧ w.heap.size ≤ g
theorem Loc.refl (w : World) (v : Value) : Loc w v v := .inl rfl
theorem Loc.trans {w w1 : World} {v v1 v2 : Value} (h : Loc w v v1) (hw : w.heap.size ≤ w1.heap.size) (k : Loc w1 v1 v2) : Loc w v v2 := by
  rcases k with k | ⟨g, k, hg⟩
  · rcases h with h | ⟨g, h, hg⟩
    · exact .inl (k.trans h)
    · exact .inr ⟨g, k.trans h, hg⟩
  · exact .inr ⟨g, k, Nat.le_trans hw hg⟩
/-- what a call that may append to the row v has done to memory -/
def Grew (w : World) (v : Value) (w' : World) (v' : Value) : Prop := w.grownBy w' v.ownBlock ∧ Loc w v v'
theorem Grew.trans {w w1 w2 : World} {v v1 v2 : Value} (h : Grew w v w1 v1) (k : Grew w1 v1 w2 v2) : Grew w v w2 v2 := by
  refine ⟨⟨k.1.os.trans h.1.os, k.1.tape.trans h.1.tape, k.1.output.trans h.1.output, Nat.le_trans h.1.size k.1.size, fun i hi hne => ?_⟩, h.2.trans h.1.size k.2⟩
  rw [k.1.block i (Nat.lt_of_lt_of_le hi h.1.size) (fun e => ?_)]
  · exact h.1.block i hi hne
  · rcases h.2 with h2 | ⟨g, h2, hg⟩
    · exact hne (e.trans h2)
    · rw [h2] at e
      simp at e
      omega
theorem Grew.of_below {w w' : World} (v : Value) (h : Below w.heap.size w w') : Grew w v w' v := ⟨⟨h.os, h.tape, h.output, h.size, fun k hk _ => h.block k hk⟩, .inl rfl⟩
theorem Grew.below {w w' : World} {v v' : Value} {base : Nat} (h : Grew w v w' v') (hb : base ≤ w.heap.size) (hv : ∀ k, v.ownBlock = some k → base ≤ k) : Below base w w' :=
  (Below.refl base w).grown h.1 hb hv
/-- a block that is not the row's is kept -/
theorem Grew.cell {w w' : World} {v v' : Value} (h : Grew w v w' v') {b : Nat} (hb : b < w.heap.size) (hne : v.ownBlock ≠ some b) (j : Nat) : w'.cell? ⟨b, j, none⟩ = w.cell? ⟨b, j, none⟩ :=
  World.cell?_of_block (w := w) (h.1.block b hb (fun e => hne e.symm))
theorem Grew.ne {w w' : World} {v v' : Value} (h : Grew w v w' v') {b : Nat} (hb : b < w.heap.size) (hne : v.ownBlock ≠ some b) : v'.ownBlock ≠ some b := by
  rcases h.2 with e | ⟨g, e, hg⟩
  · rw [e]; exact hne
  · rw [e]; intro h'; simp at h'; omega

section
variable {P : Program}
/-- append(s, y), y one element of four cells, and where the row lies then -/
theorem wpList_push4W {ops : Array Oper} {rest : List Oper} {o : Oper} {a : Act} {Q : Exit → Act → World → Prop} (hgd : o.guard = none) (s x : Operand) (t : TypeId)
    (ho : o.op = .call { callee := .builtin .append, args := #[s, x], argTypes := #[t, t] })
    (e : TypeId) (z : Value) (bytes : Nat) (ht : P.underlying t = some (.slice e))
    (hinfo : (P.info? e).map (fun i => (i.zero, i.size, i.bytes)) = some (some z, 4, bytes)) (hzs : z.cells.size = 4)
    (base : Nat) (w0 : World) (y0 y1 y2 y3 v : Value) (n : Nat) (xs : List Value) (hown : w0.ownsRow base e 4 v n xs)
    (hs : a.eval s = v) (b : Nat) (hx : a.eval x = .slice (some ⟨b, 0, none⟩) 1 1) (hbk : b = w0.heap.size) (h0 : y0.oneCell' = true) (h1 : y1.oneCell' = true) (h2 : y2.oneCell' = true) (h3 : y3.oneCell' = true)
    (h63 : n + 1 ≤ maxLen) (hbytes : (n + 1) * bytes ≤ 140737488355328) (hbase : base ≤ w0.heap.size)
    (h : ∀ v' w', w'.ownsRow base e 4 v' (n + 1) (xs ++ [y0, y1, y2, y3]) → Grew w0 v w' v' → wpList P ops Q rest (a.put o.dst v') w') :
    wpList P ops Q (o :: rest) a (w0.alloc (.cells #[y0, y1, y2, y3] e)) := by
  subst hbk
  obtain ⟨i0, hi, hz0, hz1, hz2⟩ := info_parts hinfo
  have hnews : ∀ j u, [y0, y1, y2, y3][j]? = some u → (w0.alloc (.cells #[y0, y1, y2, y3] e)).cell? ((⟨w0.heap.size, 0, none⟩ : Addr).add j) = some u := by
    intro j u hu
    have hj : j < 4 := by
      rcases Nat.lt_or_ge j 4 with h | h
      · exact h
      · rw [List.getElem?_eq_none (by simpa using h)] at hu; cases hu
    rw [addr_add0, World.cell?_alloc_at _ _ _ _ rfl, Nat.zero_add]
    rw [← hu]
    have : j = 0 ∨ j = 1 ∨ j = 2 ∨ j = 3 := by omega
    rcases this with rfl | rfl | rfl | rfl <;> rfl
  have hone : ∀ u ∈ [y0, y1, y2, y3], u.oneCell' = true := by
    intro u hu
    simp at hu
    rcases hu with rfl | rfl | rfl | rfl <;> assumption
  have hl4 : ([y0, y1, y2, y3] : List Value).length = 1 * i0.size := by rw [hz1]; rfl
  subst hz2
  refine wpList_plain hgd fun K hK => ?_
  obtain ⟨v', w', hr, hown', hg, _⟩ := run_append_own (P := P) (w0.alloc (.cells #[y0, y1, y2, y3] e)) base t o.type e i0 z 4 i0.bytes ht hi hz0 hz1 rfl hzs (by decide) v n xs (hown.alloc _) ⟨w0.heap.size, 0, none⟩ 1 1 [y0, y1, y2, y3] rfl hnews hone h63 hbytes (by simp; omega)
  have hloc : Loc w0 v v' := by
    rcases hown.2 with ⟨rfl, rfl⟩ | ⟨g, cap, cur, rfl, hbg, hgg, hnc, hcm, hcs, htake⟩
    · have hr' := run_append_nil (P := P) (w0.alloc (.cells #[y0, y1, y2, y3] e)) t o.type e i0 z ht hi hz0 ⟨w0.heap.size, 0, none⟩ 1 1 [y0, y1, y2, y3] hl4 hnews (by decide) (by decide) (by have hb := hbytes; omega)
      rw [hr'] at hr
      simp only [Result.ok.injEq] at hr
      rw [← hr.1]
      exact .inr ⟨_, rfl, by simp⟩
    · by_cases hroom : n + 1 ≤ cap
      · have hr' := run_append_room (P := P) (w0.alloc (.cells #[y0, y1, y2, y3] e)) t o.type e i0 ht hi g n cap cur (by rw [Below.heap_alloc _ _ _ (Array.getElem?_eq_some_iff.1 hgg).1]; exact hgg) ⟨w0.heap.size, 0, none⟩ 1 1 [y0, y1, y2, y3] hl4 hnews hone hroom (by rw [hz1, hcs]; simp only [List.length_cons, List.length_nil]; omega)
        rw [hr'] at hr
        simp only [Result.ok.injEq] at hr
        rw [← hr.1]
        exact .inl rfl
      · have holds : ∀ j u, xs[j]? = some u → (w0.alloc (.cells #[y0, y1, y2, y3] e)).cell? ((⟨g, 0, none⟩ : Addr).add j) = some u := (hown.alloc _).cells (g := g) rfl
        have hr' := run_append_grow (P := P) (w0.alloc (.cells #[y0, y1, y2, y3] e)) t o.type e i0 z ht hi hz0 ⟨g, 0, none⟩ n cap xs (by rw [hz1]; exact hown.1) holds ⟨w0.heap.size, 0, none⟩ 1 1 [y0, y1, y2, y3] hl4 hnews (by omega) (by unfold maxLen at h63; omega) (growslice_fits (by omega) hbytes)
        rw [hr'] at hr
        simp only [Result.ok.injEq] at hr
        rw [← hr.1]
        exact .inr ⟨_, rfl, by simp⟩
  have hgrew : Grew w0 v w' v' := ⟨⟨hg.os, hg.tape, hg.output, Nat.le_trans (by simp) hg.size, fun k hk hne => by rw [hg.block k (by simp; omega) hne, Below.heap_alloc _ _ _ hk]⟩, hloc⟩
  unfold Oper.wp execOp
  simp only [ho, resolve, invoke, builtin, Sem.run_bind, Sem.run_pure, Result.andThen_ok, List.map_toArray, List.map_cons, List.map_nil, hs, hx, hr]
  exact hK _ _ (h v' w' hown' hgrew)
end
end Go.Proofs.Ytnpfnfenkklocaa
