/-
  Contracts of spec.FreeModel and impl.FreeModel. No condition.
-/
import Derived.Test.YtegmoojjffkacaaMov
namespace Go.Proofs.Ytegmoojjffkacaa
open Go.RowKit Go.WideShapes
open Go Go.Deep
set_option linter.unusedSimpArgs false

section
variable {P : Program}
/-- make of a row -/
theorem wp_makeF {o : Oper} {a : Act} {w : World} {K : Act → World → Prop} {Q : Exit → Act → World → Prop} (x y : Operand) (t : TypeId) (d : Nat) (hd : o.dst = some d) (ho : o.op = .makeSlice t x y)
    (e : TypeId) (z : Value) (bytes : Nat) (ht : P.underlying t = some (.slice e)) (hinfo : (P.info? e).map (fun i => (i.zero, i.size, i.bytes)) = some (some z, 1, bytes)) (n : Nat) (kl kc : IntKind)
    (hx : a.eval x = .int kl n) (hy : a.eval y = .int kc n) (hb : bytes * n ≤ 281474976710656) (h63 : n ≤ maxLen)
    (h : ∀ w', w'.ownsRow w.heap.size e 1 (.slice (some ⟨w.heap.size, 0, none⟩) n n) n (madeCells z.cells n).toList → Below w.heap.size w w' → w.heap.size < w'.heap.size → K (a.put (some d) (.slice (some ⟨w.heap.size, 0, none⟩) n n)) w') : Oper.wp P o a w K Q := by
  obtain ⟨i0, hi, hz0, hz1, hz2⟩ := info_parts hinfo
  subst hz2
  obtain ⟨w', hr, hown, hg⟩ := run_make_full (P := P) w w.heap.size t e i0 z 1 ht hi hz0 hz1 kl kc n hb h63 (Nat.le_refl _)
  rw [Nat.mul_one] at hown
  have hlt : w.heap.size < w'.heap.size := by
    rcases hown.2 with ⟨e1, _⟩ | ⟨g, cap, cur, e1, _, hgg, _⟩
    · cases e1
    · cases e1; exact (Array.getElem?_eq_some_iff.1 hgg).1
  have hK := h w' hown ((Below.refl _ _).grown hg (Nat.le_refl _) (fun k hk => by cases hk)) hlt
  rw [← hd] at hK
  refine wp_run (.slice (some ⟨w.heap.size, 0, none⟩) n n) ?_ hK
  unfold execOp
  simp only [ho, hx, hy, Sem.run_bind, hr, Result.andThen_ok, Sem.run_pure]
end
/-- the free model -/
def freeM (N a : Nat) : Md := ⟨mrow 0 N, List.replicate a (List.replicate N 0), 0⟩
def freeR (f a : Int) : Option Md := if 0 ≤ f ∧ f ≤ 4 ∧ 1 ≤ a ∧ a ≤ 3 then some (freeM (2 ^ f.toNat) a.toNat) else none
theorem mrow_succ (N : Nat) : mrow 0 (N + 1) = mrow 0 N ++ [(N : Int)] := by unfold mrow; rw [List.range_succ, List.map_append]; simp
theorem rep_succ {α : Type} (k : Nat) (x : α) : List.replicate (k + 1) x = List.replicate k x ++ [x] := by rw [List.replicate_succ']
theorem madeZ (n : Nat) : (madeCells (Value.int .i64 0).cells n).toList = ints (List.replicate n 0) := madeI n

theorem own_form {w : World} {base : Nat} {e : TypeId} {v : Value} {n : Nat} {xs : List Value} (h : w.ownsRow base e 1 v n xs) : ∃ a c, v = .slice a n c := by
  rcases h.2 with ⟨rfl, rfl⟩ | ⟨g, cap, cur, rfl, _⟩
  · exact ⟨_, _, rfl⟩
  · exact ⟨_, _, rfl⟩
set_option maxRecDepth 100000 in
set_option maxHeartbeats 16000000 in
theorem specFree_0 (a : Nat) (w : World) (ha : 1 ≤ a) (ha3 : a ≤ 3) :
    Calls Try.prog 30 #[.int .i64 0, .int .i64 a] w (MdAns2 w (some (freeM 1 a))) := by
  have ha' : (1 : Int) ≤ (a : Int) := by omega
  have ha3' : (a : Int) ≤ 3 := by omega
  go_enter Try.func30, Try.ntmps30
  go_wp2_with (go_at_call 81; refine (inI_yes _ _ _ _ (by omega) (by omega)).mono ?_; rintro e w' ⟨rfl, rfl⟩)
  have m0 : Mcell ((w.alloc (.cells #[.slice none 0 0, .slice none 0 0, .int .i64 0] 27)).alloc (.cells #[.slice none 0 0, .slice none 0 0, .int .i64 0] 27)) w.heap.size (.slice none 0 0) (.slice none 0 0) 0 := (Mcell.new rfl).alloc _
  have d0 : Cm ((w.alloc (.cells #[.slice none 0 0, .slice none 0 0, .int .i64 0] 27)).alloc (.cells #[.slice none 0 0, .slice none 0 0, .int .i64 0] 27)) (w.heap.size + 1) 27 [.slice none 0 0, .slice none 0 0, .int .i64 0] := Cm.new (by simp)
  have b0 : Below w.heap.size w ((w.alloc (.cells #[.slice none 0 0, .slice none 0 0, .int .i64 0] 27)).alloc (.cells #[.slice none 0 0, .slice none 0 0, .int .i64 0] 27)) := by go_grown
  generalize (w.alloc (.cells #[.slice none 0 0, .slice none 0 0, .int .i64 0] 27)).alloc (.cells #[.slice none 0 0, .slice none 0 0, .int .i64 0] 27) = w0 at *
  have M0 := Lib.hid m0
  have D0 := Lib.hid d0
  have B0 := Lib.hid b0
  have hs0 : w.heap.size + 1 < w0.heap.size := d0.lt
  clear m0 d0 b0
  go_loopw [7] (fun iv wr => ∃ (k : Nat) (fv : Value), k ≤ 1 ∧ iv = .int .i64 k ∧ Hid (Cm wr (w.heap.size + 1) 27 [fv, .slice none 0 0, .int .i64 0]) ∧ Hid (wr.ownsRow w0.heap.size 3 1 fv k (ints (mrow 0 k))) ∧ Hid (Mcell wr w.heap.size (.slice none 0 0) (.slice none 0 0) 0) ∧ Hid (Below w.heap.size w wr) ∧ w0.heap.size ≤ wr.heap.size) (fun iv _ => 1 - (intOf iv).toNat)
  case atStart => exact ⟨0, _, Nat.zero_le _, rfl, D0, Lib.hid (World.ownsRow_nil _ _ _ _), M0, B0, Nat.le_refl _⟩
  case round =>
    clear M0 D0 B0
    obtain ⟨k, fv, hk, rfl, DR, OR, MR, BR, hwr⟩ := hrel
    by_cases hlt : k < 1
    · have hlt' : (k : Int) < 1 := by omega
      have c0 := DR.out.cell 0
      have hfb : ∀ q, fv.ownBlock = some q → w0.heap.size ≤ q := fun q hq => (OR.out.lt q hq).1
      have HFB := Lib.hid hfb
      clear hfb
      simp only [List.getElem?_cons_zero] at c0
      go_wp2_with (at_builtin; refine wpList_pushL rfl (.tmp 26) (.tmp 28) 22 29 rfl rfl 3 (.int .i64 0) 8 Try.underlying22 Try.infoI rfl w0.heap.size (.int .i64 k) fv k (ints (mrow 0 k)) OR.out rfl wr.heap.size rfl rfl rfl (by unfold maxLen; omega) (by omega) hwr ?_; intro v4 w4 hown hg; have O4 := Lib.hid hown; have D4 := Lib.hid (DR.out.of_block (hg.block DR.out.lt (fun e => by have := HFB.out _ e; omega))); have M4 := Lib.hid (MR.out.of_block (hg.block MR.out.lt (fun e => by have := HFB.out _ e; omega))); have B4 : Hid (Below w.heap.size w w4) := Lib.hid (BR.out.trans ((hg.below (Nat.le_trans hwr (Nat.le_refl _)) HFB.out).mono (by omega))); have hs4 : wr.heap.size ≤ w4.heap.size := hg.size; clear hown hg c0; have c0 := D4.out.cell 0; have f0 := D4.out.frozen 0; simp only [List.getElem?_cons_zero] at c0; obtain ⟨va, vc, e4⟩ := own_form O4.out; subst e4)
      go_roundw
      case rel =>
        refine ⟨k + 1, _, by omega, by go_num, Lib.hid (D4.out.set 0 _), Lib.hid ?_, Lib.hid (M4.out.other (by omega) _ _), Lib.hid (B4.out.setCell (by show _ ≤ w.heap.size + 1; omega) _), by simp [World.setCell]; omega⟩
        rw [mrow_succ, ints_app]
        exact own_keeps O4.out (fun q hq => (Keeps.setCell (lo := w0.heap.size) (hi := w4.heap.size) w4 (w.heap.size + 1) 0 _ (.inl hs0)).block q (O4.out.lt q hq).1 (O4.out.lt q hq).2 (O4.out.lt q hq).2)
      case measure => simp [intOf]; omega
    · have HKN : Hid (k = 1) := Lib.hid (by omega)
      obtain ⟨kk, hkk⟩ : ∃ x, x = k := ⟨_, rfl⟩
      subst hkk
      obtain ⟨w5, hw5⟩ : ∃ x, x = wr := ⟨_, rfl⟩
      subst hw5
      have I1 : Hid (Io w0.heap.size w5.heap.size w5 fv (mrow 0 1)) := Lib.hid (by rw [← HKN.out]; exact Ro.of_own OR.out)
      obtain ⟨fa, fc, ef⟩ := own_form OR.out
      subst ef
      have hi1 : w0.heap.size ≤ w5.heap.size := hwr
      clear OR
      go_wp2
      go_loopw [8] (fun iv W => ∃ (k : Nat) (bv : Value) (vs : List Value), k ≤ a ∧ iv = .int .i64 k ∧ Hid (Cm W (w.heap.size + 1) 27 [.slice fa kk fc, bv, .int .i64 0]) ∧ Hid (Ioo w5.heap.size W.heap.size W bv vs (List.replicate k (List.replicate 1 0))) ∧ Hid (Io w0.heap.size w5.heap.size W (.slice fa kk fc) (mrow 0 1)) ∧ Hid (Mcell W w.heap.size (.slice none 0 0) (.slice none 0 0) 0) ∧ Hid (Below w.heap.size w W) ∧ w5.heap.size ≤ W.heap.size) (fun iv _ => a - (intOf iv).toNat)
      case atStart => exact ⟨0, _, [], Nat.zero_le _, rfl, DR, Lib.hid ⟨Ro.nil _ _ _ _, ⟨rfl, fun j hj => by simp at hj⟩, List.pairwise_singleton _ _⟩, I1, MR, BR, Nat.le_refl _⟩
      case round =>
        clear DR I1 MR BR
        obtain ⟨k, bv, vs, hk, rfl, DR, OR, IR, MR, BR, hwW⟩ := hrel
        by_cases hlt : k < a
        · have hlt' : (k : Int) < a := by omega
          have hvl : vs.length = k := by rw [OR.out.2.1.1]; simp
          go_wp2
          refine regionL (fun V => Below w5.heap.size wr V) [8] (by kernel_rfl) (Below.refl _ _).drew (fun hHeld => ?_)
          have d0 : Hid (∀ V, Below w5.heap.size wr V → V.cell? ⟨w.heap.size + 1, 1, none⟩ = some bv) := Lib.hid (fun V hV => (DR.out.below hV (by omega)).cell 1)
          refine takeA (i := 0) (v := .pointer (some ⟨w.heap.size + 1, 1, none⟩)) 36 rfl rfl (by kernel_rfl) (by kernel_rfl) (by kernel_rfl) (by kernel_rfl) (fun _ _ _ h => h) (Or.inl ⟨by rfl, by intro W hSw; go_simp⟩) hHeld ?_
          simp only [Act.put, List.setIfInBounds_toArray, List.set_cons_zero, List.set_cons_succ]
          refine takeA (i := 1) (v := bv) 37 rfl rfl (by kernel_rfl) (by kernel_rfl) (by kernel_rfl) (by kernel_rfl) (fun _ _ _ h => h) (Or.inl ⟨by rfl, by intro W hSw; have d1 := d0.out _ hSw; go_simp⟩) hHeld ?_
          simp only [Act.put, List.setIfInBounds_toArray, List.set_cons_zero, List.set_cons_succ]
          refine takeA (i := 2) (v := .int .i64 0) 38 rfl rfl (by kernel_rfl) (by kernel_rfl) (by kernel_rfl) (by kernel_rfl) (fun _ _ _ h => h) (Or.inl ⟨by rfl, by intro W hSw; go_simp⟩) hHeld ?_
          simp only [Act.put, List.setIfInBounds_toArray, List.set_cons_zero, List.set_cons_succ]
          refine takeA (i := 3) (v := .int .i64 1) 39 rfl rfl (by kernel_rfl) (by kernel_rfl) (by kernel_rfl) (by kernel_rfl) (fun _ _ _ h => h) (Or.inl ⟨by rfl, by intro W hSw; first | (go_simp; done) | (go_simp; kernel_rfl)⟩) hHeld ?_
          simp only [Act.put, List.setIfInBounds_toArray, List.set_cons_zero, List.set_cons_succ]
          refine onlyL (i := 4) (by kernel_rfl) rfl (by rfl) (fun K hK => ?_)
          refine wp_makeF (.tmp 39) (.tmp 39) 22 40 rfl rfl 3 (.int .i64 0) 8 Try.underlying22 Try.infoI 1 .i64 .i64 rfl rfl (by decide) (by decide) ?_
          intro w6 hx6 hb6 hs6
          have t6 : Below wr.heap.size wr w6 := Below.trans (Below.refl _ _).drew hb6
          have hsd : wr.drew.heap.size ≤ wr.heap.size := Nat.le_refl _
          have hsd' : wr.heap.size ≤ wr.drew.heap.size := Nat.le_refl _
          rw [madeZ] at hx6
          have U6 : Hid (Io wr.heap.size w6.heap.size w6 (.slice (some ⟨wr.heap.size, 0, none⟩) 1 1) (List.replicate 1 0)) := Lib.hid (Ro.of_own hx6)
          have O6 := Lib.hid (OR.out.keeps (Keeps.of_all t6))
          have D6 := Lib.hid (DR.out.all t6)
          have I6 : Hid (Io w0.heap.size w5.heap.size w6 (.slice fa kk fc) (mrow 0 1)) := Lib.hid (IR.out.keeps (Keeps.of_all t6))
          have M6 := Lib.hid (MR.out.below t6)
          have B6 : Hid (Below w.heap.size w w6) := Lib.hid (BR.out.trans (t6.mono BR.out.size))
          have T6 := Lib.hid (t6.mono hwW)
          have hs6' : wr.heap.size ≤ w6.heap.size := t6.size
          clear hx6 hb6 hHeld
          refine hK.out _ _ (fun _ => t6.mono hwW) (fun _ => ?_)
          clear hK K t6 OR DR IR MR BR d0
          try simp only [Act.put, List.setIfInBounds_toArray, List.set_cons_zero, List.set_cons_succ]
          refine onlyL (i := 5) (by kernel_rfl) rfl (by rfl) (fun K hK => ?_)
          go_simp
          refine hK.out _ _ (fun _ => T6.out.alloc (by omega) _) (fun _ => ?_)
          clear hK K
          try simp only [Act.put, List.setIfInBounds_toArray, List.set_cons_zero, List.set_cons_succ]
          refine onlyL (i := 6) (by kernel_rfl) rfl (by rfl) (fun K hK => ?_)
          have hown : w6.ownsRow w5.heap.size 22 1 bv vs.length vs := O6.out.1.1
          refine wp_pushL (.tmp 37) (.tmp 41) 23 42 rfl rfl 22 (.slice none 0 0) 24 Try.underlying23 Try.infoL rfl w5.heap.size (.slice (some ⟨wr.heap.size, 0, none⟩) 1 1) bv vs.length vs hown rfl w6.heap.size rfl rfl rfl (by unfold maxLen; omega) (by omega) (by omega) ?_
          intro v7 w7 hown7 hg7
          have hbv : ∀ q, bv.ownBlock = some q → w5.heap.size ≤ q ∧ q < wr.heap.size := fun q hq => ⟨(O6.out.1.1.lt q hq).1, O6.out.1.2 q hq⟩
          have O7 := Lib.hid (Ioo.push O6.out U6.out (Nat.le_refl _) hs6' hwW hown7 hg7)
          have hne : ∀ q, q < w5.heap.size → bv.ownBlock ≠ some q := fun q hq e => by have := hbv q e; omega
          have D7 := Lib.hid (D6.out.of_block (hg7.block (by omega) (hne _ (by omega))))
          have M7 := Lib.hid (M6.out.of_block (hg7.block (by omega) (hne _ (by omega))))
          have I7 : Hid (Io w0.heap.size w5.heap.size w7 (.slice fa kk fc) (mrow 0 1)) := Lib.hid (hg7.ro I6.out (apart_lt (B := w5.heap.size) (fun q hq => I6.out.2 q hq) (fun q hq => (hbv q hq).1)))
          have t5 : Below w5.heap.size w6 w7 := hg7.below (by omega) (fun q hq => (hbv q hq).1)
          have B7 : Hid (Below w.heap.size w w7) := Lib.hid (B6.out.trans (t5.mono (by omega)))
          have hs7 : w6.heap.size ≤ w7.heap.size := t5.size
          have t7 : Below w5.heap.size wr w7 := T6.out.trans t5
          obtain ⟨v7a, v7c, e5⟩ := O7.out.1.form
          rw [show (vs ++ [Value.slice (some ⟨wr.heap.size, 0, none⟩) 1 1]).length = k + 1 by simp [hvl]] at e5
          have d5 := D7.out.cell 1
          have f5 := D7.out.frozen 1
          clear hown hown7 hbv hne t5 O6 D6 I6 M6 B6 hg7 T6
          refine hK.out _ _ (fun _ => t7) (fun hHeld => ?_)
          have hHeld := hHeld (by decide)
          clear hK K t7
          try simp only [Act.put, List.setIfInBounds_toArray, List.set_cons_zero, List.set_cons_succ]
          refine takeA (i := 7) (v := .pointer (some ⟨w.heap.size + 1, 1, none⟩)) 43 rfl rfl (by kernel_rfl) (by kernel_rfl) (by kernel_rfl) (by kernel_rfl) (fun _ _ _ h => h) (Or.inl ⟨by rfl, by intro W hSw; go_simp⟩) hHeld ?_
          simp only [Act.put, List.setIfInBounds_toArray, List.set_cons_zero, List.set_cons_succ]
          refine onlyL (i := 8) (by kernel_rfl) rfl (by rfl) (fun K hK => ?_)
          simp only [List.getElem?_cons_succ, List.getElem?_cons_zero] at d5
          subst e5
          go_simp
          refine hK.out _ _ (fun h => absurd (by decide) h) (fun _ => ?_)
          clear hK K hHeld
          refine doneL (by kernel_rfl) ?_ _
          clear d5 f5
          go_wp2
          go_roundw
          case rel =>
            refine ⟨k + 1, _, vs ++ [.slice (some ⟨wr.heap.size, 0, none⟩) 1 1], by omega, by go_num, Lib.hid (D7.out.set 1 _), Lib.hid ?_, Lib.hid (I7.out.keeps (Keeps.setCell _ _ _ _ (.inl (by omega)))), Lib.hid (M7.out.other (by omega) _ _), Lib.hid (B7.out.setCell (by show _ ≤ w.heap.size + 1; omega) _), by simp [World.setCell]; omega⟩
            rw [rep_succ]
            exact (O7.out.keeps (Keeps.setCell w7 (w.heap.size + 1) 1 (.slice v7a (k + 1) v7c) (.inl (by omega)))).wide (Nat.le_refl _) (Keeps.setCell (lo := 0) (hi := 0) w7 (w.heap.size + 1) 1 (.slice v7a (k + 1) v7c) (.inr (Nat.zero_le _))).size
          case measure => simp [intOf]; omega
        · obtain rfl : k = a := by omega
          obtain ⟨ba, bc, e5⟩ := OR.out.1.form
          have hvl : vs.length = k := by rw [OR.out.2.1.1]; simp
          rw [hvl] at e5
          subst e5
          obtain ⟨m0, m1, m2, m3, m4, m5⟩ := MR.out
          go_wp2_with (refine wpList_loadM rfl 27 _ rfl (w.heap.size + 1) 0 rfl 27 _ [.slice fa kk fc, .slice ba k bc, .int .i64 0] DR.out (fun j _ => by rw [Nat.zero_add]) _ Try.underlying27 rfl Try.sizeMd ?_)
          clear m0 m1 m2 m3 m4 m5
          have hO : Mo w0.heap.size wr.heap.size wr (.agg #[.slice fa kk fc, .slice ba k bc, .int .i64 (freeM 1 k).actual]) (freeM 1 k) := ⟨_, _, vs, rfl, IR.out.wide (Nat.le_refl _) hwW, OR.out.wide (by omega) (Nat.le_refl _), fun u hu => by
            refine apart_lt (B := w5.heap.size) (fun q hq => IR.out.2 q hq) (fun q hq => ?_)
            rcases List.mem_cons.1 hu with rfl | hu
            · exact (OR.out.1.1.lt q hq).1
            · exact (OR.out.2.1.blk hu q hq).1⟩
          obtain ⟨o6, b6, m6⟩ := ans_put MR.out hO (by omega) (Nat.le_refl _) (Nat.le_refl _) BR.out
          refine bodyPost_ret (results_mid2 Try.results30 _ _ w.heap.size _ _ (.bool true) rfl rfl m6.range Try.underlying27 rfl Try.sizeMd) rfl ?_
          exact ⟨_, rfl, o6, b6⟩
set_option maxRecDepth 100000 in
set_option maxHeartbeats 16000000 in
theorem specFree_1 (a : Nat) (w : World) (ha : 1 ≤ a) (ha3 : a ≤ 3) :
    Calls Try.prog 30 #[.int .i64 1, .int .i64 a] w (MdAns2 w (some (freeM 2 a))) := by
  have ha' : (1 : Int) ≤ (a : Int) := by omega
  have ha3' : (a : Int) ≤ 3 := by omega
  go_enter Try.func30, Try.ntmps30
  go_wp2_with (go_at_call 81; refine (inI_yes _ _ _ _ (by omega) (by omega)).mono ?_; rintro e w' ⟨rfl, rfl⟩)
  have m0 : Mcell ((w.alloc (.cells #[.slice none 0 0, .slice none 0 0, .int .i64 0] 27)).alloc (.cells #[.slice none 0 0, .slice none 0 0, .int .i64 0] 27)) w.heap.size (.slice none 0 0) (.slice none 0 0) 0 := (Mcell.new rfl).alloc _
  have d0 : Cm ((w.alloc (.cells #[.slice none 0 0, .slice none 0 0, .int .i64 0] 27)).alloc (.cells #[.slice none 0 0, .slice none 0 0, .int .i64 0] 27)) (w.heap.size + 1) 27 [.slice none 0 0, .slice none 0 0, .int .i64 0] := Cm.new (by simp)
  have b0 : Below w.heap.size w ((w.alloc (.cells #[.slice none 0 0, .slice none 0 0, .int .i64 0] 27)).alloc (.cells #[.slice none 0 0, .slice none 0 0, .int .i64 0] 27)) := by go_grown
  generalize (w.alloc (.cells #[.slice none 0 0, .slice none 0 0, .int .i64 0] 27)).alloc (.cells #[.slice none 0 0, .slice none 0 0, .int .i64 0] 27) = w0 at *
  have M0 := Lib.hid m0
  have D0 := Lib.hid d0
  have B0 := Lib.hid b0
  have hs0 : w.heap.size + 1 < w0.heap.size := d0.lt
  clear m0 d0 b0
  go_loopw [7] (fun iv wr => ∃ (k : Nat) (fv : Value), k ≤ 2 ∧ iv = .int .i64 k ∧ Hid (Cm wr (w.heap.size + 1) 27 [fv, .slice none 0 0, .int .i64 0]) ∧ Hid (wr.ownsRow w0.heap.size 3 1 fv k (ints (mrow 0 k))) ∧ Hid (Mcell wr w.heap.size (.slice none 0 0) (.slice none 0 0) 0) ∧ Hid (Below w.heap.size w wr) ∧ w0.heap.size ≤ wr.heap.size) (fun iv _ => 2 - (intOf iv).toNat)
  case atStart => exact ⟨0, _, Nat.zero_le _, rfl, D0, Lib.hid (World.ownsRow_nil _ _ _ _), M0, B0, Nat.le_refl _⟩
  case round =>
    clear M0 D0 B0
    obtain ⟨k, fv, hk, rfl, DR, OR, MR, BR, hwr⟩ := hrel
    by_cases hlt : k < 2
    · have hlt' : (k : Int) < 2 := by omega
      have c0 := DR.out.cell 0
      have hfb : ∀ q, fv.ownBlock = some q → w0.heap.size ≤ q := fun q hq => (OR.out.lt q hq).1
      have HFB := Lib.hid hfb
      clear hfb
      simp only [List.getElem?_cons_zero] at c0
      go_wp2_with (at_builtin; refine wpList_pushL rfl (.tmp 26) (.tmp 28) 22 29 rfl rfl 3 (.int .i64 0) 8 Try.underlying22 Try.infoI rfl w0.heap.size (.int .i64 k) fv k (ints (mrow 0 k)) OR.out rfl wr.heap.size rfl rfl rfl (by unfold maxLen; omega) (by omega) hwr ?_; intro v4 w4 hown hg; have O4 := Lib.hid hown; have D4 := Lib.hid (DR.out.of_block (hg.block DR.out.lt (fun e => by have := HFB.out _ e; omega))); have M4 := Lib.hid (MR.out.of_block (hg.block MR.out.lt (fun e => by have := HFB.out _ e; omega))); have B4 : Hid (Below w.heap.size w w4) := Lib.hid (BR.out.trans ((hg.below (Nat.le_trans hwr (Nat.le_refl _)) HFB.out).mono (by omega))); have hs4 : wr.heap.size ≤ w4.heap.size := hg.size; clear hown hg c0; have c0 := D4.out.cell 0; have f0 := D4.out.frozen 0; simp only [List.getElem?_cons_zero] at c0; obtain ⟨va, vc, e4⟩ := own_form O4.out; subst e4)
      go_roundw
      case rel =>
        refine ⟨k + 1, _, by omega, by go_num, Lib.hid (D4.out.set 0 _), Lib.hid ?_, Lib.hid (M4.out.other (by omega) _ _), Lib.hid (B4.out.setCell (by show _ ≤ w.heap.size + 1; omega) _), by simp [World.setCell]; omega⟩
        rw [mrow_succ, ints_app]
        exact own_keeps O4.out (fun q hq => (Keeps.setCell (lo := w0.heap.size) (hi := w4.heap.size) w4 (w.heap.size + 1) 0 _ (.inl hs0)).block q (O4.out.lt q hq).1 (O4.out.lt q hq).2 (O4.out.lt q hq).2)
      case measure => simp [intOf]; omega
    · have HKN : Hid (k = 2) := Lib.hid (by omega)
      obtain ⟨kk, hkk⟩ : ∃ x, x = k := ⟨_, rfl⟩
      subst hkk
      obtain ⟨w5, hw5⟩ : ∃ x, x = wr := ⟨_, rfl⟩
      subst hw5
      have I1 : Hid (Io w0.heap.size w5.heap.size w5 fv (mrow 0 2)) := Lib.hid (by rw [← HKN.out]; exact Ro.of_own OR.out)
      obtain ⟨fa, fc, ef⟩ := own_form OR.out
      subst ef
      have hi1 : w0.heap.size ≤ w5.heap.size := hwr
      clear OR
      go_wp2
      go_loopw [8] (fun iv W => ∃ (k : Nat) (bv : Value) (vs : List Value), k ≤ a ∧ iv = .int .i64 k ∧ Hid (Cm W (w.heap.size + 1) 27 [.slice fa kk fc, bv, .int .i64 0]) ∧ Hid (Ioo w5.heap.size W.heap.size W bv vs (List.replicate k (List.replicate 2 0))) ∧ Hid (Io w0.heap.size w5.heap.size W (.slice fa kk fc) (mrow 0 2)) ∧ Hid (Mcell W w.heap.size (.slice none 0 0) (.slice none 0 0) 0) ∧ Hid (Below w.heap.size w W) ∧ w5.heap.size ≤ W.heap.size) (fun iv _ => a - (intOf iv).toNat)
      case atStart => exact ⟨0, _, [], Nat.zero_le _, rfl, DR, Lib.hid ⟨Ro.nil _ _ _ _, ⟨rfl, fun j hj => by simp at hj⟩, List.pairwise_singleton _ _⟩, I1, MR, BR, Nat.le_refl _⟩
      case round =>
        clear DR I1 MR BR
        obtain ⟨k, bv, vs, hk, rfl, DR, OR, IR, MR, BR, hwW⟩ := hrel
        by_cases hlt : k < a
        · have hlt' : (k : Int) < a := by omega
          have hvl : vs.length = k := by rw [OR.out.2.1.1]; simp
          go_wp2
          refine regionL (fun V => Below w5.heap.size wr V) [8] (by kernel_rfl) (Below.refl _ _).drew (fun hHeld => ?_)
          have d0 : Hid (∀ V, Below w5.heap.size wr V → V.cell? ⟨w.heap.size + 1, 1, none⟩ = some bv) := Lib.hid (fun V hV => (DR.out.below hV (by omega)).cell 1)
          refine takeA (i := 0) (v := .pointer (some ⟨w.heap.size + 1, 1, none⟩)) 36 rfl rfl (by kernel_rfl) (by kernel_rfl) (by kernel_rfl) (by kernel_rfl) (fun _ _ _ h => h) (Or.inl ⟨by rfl, by intro W hSw; go_simp⟩) hHeld ?_
          simp only [Act.put, List.setIfInBounds_toArray, List.set_cons_zero, List.set_cons_succ]
          refine takeA (i := 1) (v := bv) 37 rfl rfl (by kernel_rfl) (by kernel_rfl) (by kernel_rfl) (by kernel_rfl) (fun _ _ _ h => h) (Or.inl ⟨by rfl, by intro W hSw; have d1 := d0.out _ hSw; go_simp⟩) hHeld ?_
          simp only [Act.put, List.setIfInBounds_toArray, List.set_cons_zero, List.set_cons_succ]
          refine takeA (i := 2) (v := .int .i64 1) 38 rfl rfl (by kernel_rfl) (by kernel_rfl) (by kernel_rfl) (by kernel_rfl) (fun _ _ _ h => h) (Or.inl ⟨by rfl, by intro W hSw; go_simp⟩) hHeld ?_
          simp only [Act.put, List.setIfInBounds_toArray, List.set_cons_zero, List.set_cons_succ]
          refine takeA (i := 3) (v := .int .i64 2) 39 rfl rfl (by kernel_rfl) (by kernel_rfl) (by kernel_rfl) (by kernel_rfl) (fun _ _ _ h => h) (Or.inl ⟨by rfl, by intro W hSw; first | (go_simp; done) | (go_simp; kernel_rfl)⟩) hHeld ?_
          simp only [Act.put, List.setIfInBounds_toArray, List.set_cons_zero, List.set_cons_succ]
          refine onlyL (i := 4) (by kernel_rfl) rfl (by rfl) (fun K hK => ?_)
          refine wp_makeF (.tmp 39) (.tmp 39) 22 40 rfl rfl 3 (.int .i64 0) 8 Try.underlying22 Try.infoI 2 .i64 .i64 rfl rfl (by decide) (by decide) ?_
          intro w6 hx6 hb6 hs6
          have t6 : Below wr.heap.size wr w6 := Below.trans (Below.refl _ _).drew hb6
          have hsd : wr.drew.heap.size ≤ wr.heap.size := Nat.le_refl _
          have hsd' : wr.heap.size ≤ wr.drew.heap.size := Nat.le_refl _
          rw [madeZ] at hx6
          have U6 : Hid (Io wr.heap.size w6.heap.size w6 (.slice (some ⟨wr.heap.size, 0, none⟩) 2 2) (List.replicate 2 0)) := Lib.hid (Ro.of_own hx6)
          have O6 := Lib.hid (OR.out.keeps (Keeps.of_all t6))
          have D6 := Lib.hid (DR.out.all t6)
          have I6 : Hid (Io w0.heap.size w5.heap.size w6 (.slice fa kk fc) (mrow 0 2)) := Lib.hid (IR.out.keeps (Keeps.of_all t6))
          have M6 := Lib.hid (MR.out.below t6)
          have B6 : Hid (Below w.heap.size w w6) := Lib.hid (BR.out.trans (t6.mono BR.out.size))
          have T6 := Lib.hid (t6.mono hwW)
          have hs6' : wr.heap.size ≤ w6.heap.size := t6.size
          clear hx6 hb6 hHeld
          refine hK.out _ _ (fun _ => t6.mono hwW) (fun _ => ?_)
          clear hK K t6 OR DR IR MR BR d0
          try simp only [Act.put, List.setIfInBounds_toArray, List.set_cons_zero, List.set_cons_succ]
          refine onlyL (i := 5) (by kernel_rfl) rfl (by rfl) (fun K hK => ?_)
          go_simp
          refine hK.out _ _ (fun _ => T6.out.alloc (by omega) _) (fun _ => ?_)
          clear hK K
          try simp only [Act.put, List.setIfInBounds_toArray, List.set_cons_zero, List.set_cons_succ]
          refine onlyL (i := 6) (by kernel_rfl) rfl (by rfl) (fun K hK => ?_)
          have hown : w6.ownsRow w5.heap.size 22 1 bv vs.length vs := O6.out.1.1
          refine wp_pushL (.tmp 37) (.tmp 41) 23 42 rfl rfl 22 (.slice none 0 0) 24 Try.underlying23 Try.infoL rfl w5.heap.size (.slice (some ⟨wr.heap.size, 0, none⟩) 2 2) bv vs.length vs hown rfl w6.heap.size rfl rfl rfl (by unfold maxLen; omega) (by omega) (by omega) ?_
          intro v7 w7 hown7 hg7
          have hbv : ∀ q, bv.ownBlock = some q → w5.heap.size ≤ q ∧ q < wr.heap.size := fun q hq => ⟨(O6.out.1.1.lt q hq).1, O6.out.1.2 q hq⟩
          have O7 := Lib.hid (Ioo.push O6.out U6.out (Nat.le_refl _) hs6' hwW hown7 hg7)
          have hne : ∀ q, q < w5.heap.size → bv.ownBlock ≠ some q := fun q hq e => by have := hbv q e; omega
          have D7 := Lib.hid (D6.out.of_block (hg7.block (by omega) (hne _ (by omega))))
          have M7 := Lib.hid (M6.out.of_block (hg7.block (by omega) (hne _ (by omega))))
          have I7 : Hid (Io w0.heap.size w5.heap.size w7 (.slice fa kk fc) (mrow 0 2)) := Lib.hid (hg7.ro I6.out (apart_lt (B := w5.heap.size) (fun q hq => I6.out.2 q hq) (fun q hq => (hbv q hq).1)))
          have t5 : Below w5.heap.size w6 w7 := hg7.below (by omega) (fun q hq => (hbv q hq).1)
          have B7 : Hid (Below w.heap.size w w7) := Lib.hid (B6.out.trans (t5.mono (by omega)))
          have hs7 : w6.heap.size ≤ w7.heap.size := t5.size
          have t7 : Below w5.heap.size wr w7 := T6.out.trans t5
          obtain ⟨v7a, v7c, e5⟩ := O7.out.1.form
          rw [show (vs ++ [Value.slice (some ⟨wr.heap.size, 0, none⟩) 2 2]).length = k + 1 by simp [hvl]] at e5
          have d5 := D7.out.cell 1
          have f5 := D7.out.frozen 1
          clear hown hown7 hbv hne t5 O6 D6 I6 M6 B6 hg7 T6
          refine hK.out _ _ (fun _ => t7) (fun hHeld => ?_)
          have hHeld := hHeld (by decide)
          clear hK K t7
          try simp only [Act.put, List.setIfInBounds_toArray, List.set_cons_zero, List.set_cons_succ]
          refine takeA (i := 7) (v := .pointer (some ⟨w.heap.size + 1, 1, none⟩)) 43 rfl rfl (by kernel_rfl) (by kernel_rfl) (by kernel_rfl) (by kernel_rfl) (fun _ _ _ h => h) (Or.inl ⟨by rfl, by intro W hSw; go_simp⟩) hHeld ?_
          simp only [Act.put, List.setIfInBounds_toArray, List.set_cons_zero, List.set_cons_succ]
          refine onlyL (i := 8) (by kernel_rfl) rfl (by rfl) (fun K hK => ?_)
          simp only [List.getElem?_cons_succ, List.getElem?_cons_zero] at d5
          subst e5
          go_simp
          refine hK.out _ _ (fun h => absurd (by decide) h) (fun _ => ?_)
          clear hK K hHeld
          refine doneL (by kernel_rfl) ?_ _
          clear d5 f5
          go_wp2
          go_roundw
          case rel =>
            refine ⟨k + 1, _, vs ++ [.slice (some ⟨wr.heap.size, 0, none⟩) 2 2], by omega, by go_num, Lib.hid (D7.out.set 1 _), Lib.hid ?_, Lib.hid (I7.out.keeps (Keeps.setCell _ _ _ _ (.inl (by omega)))), Lib.hid (M7.out.other (by omega) _ _), Lib.hid (B7.out.setCell (by show _ ≤ w.heap.size + 1; omega) _), by simp [World.setCell]; omega⟩
            rw [rep_succ]
            exact (O7.out.keeps (Keeps.setCell w7 (w.heap.size + 1) 1 (.slice v7a (k + 1) v7c) (.inl (by omega)))).wide (Nat.le_refl _) (Keeps.setCell (lo := 0) (hi := 0) w7 (w.heap.size + 1) 1 (.slice v7a (k + 1) v7c) (.inr (Nat.zero_le _))).size
          case measure => simp [intOf]; omega
        · obtain rfl : k = a := by omega
          obtain ⟨ba, bc, e5⟩ := OR.out.1.form
          have hvl : vs.length = k := by rw [OR.out.2.1.1]; simp
          rw [hvl] at e5
          subst e5
          obtain ⟨m0, m1, m2, m3, m4, m5⟩ := MR.out
          go_wp2_with (refine wpList_loadM rfl 27 _ rfl (w.heap.size + 1) 0 rfl 27 _ [.slice fa kk fc, .slice ba k bc, .int .i64 0] DR.out (fun j _ => by rw [Nat.zero_add]) _ Try.underlying27 rfl Try.sizeMd ?_)
          clear m0 m1 m2 m3 m4 m5
          have hO : Mo w0.heap.size wr.heap.size wr (.agg #[.slice fa kk fc, .slice ba k bc, .int .i64 (freeM 2 k).actual]) (freeM 2 k) := ⟨_, _, vs, rfl, IR.out.wide (Nat.le_refl _) hwW, OR.out.wide (by omega) (Nat.le_refl _), fun u hu => by
            refine apart_lt (B := w5.heap.size) (fun q hq => IR.out.2 q hq) (fun q hq => ?_)
            rcases List.mem_cons.1 hu with rfl | hu
            · exact (OR.out.1.1.lt q hq).1
            · exact (OR.out.2.1.blk hu q hq).1⟩
          obtain ⟨o6, b6, m6⟩ := ans_put MR.out hO (by omega) (Nat.le_refl _) (Nat.le_refl _) BR.out
          refine bodyPost_ret (results_mid2 Try.results30 _ _ w.heap.size _ _ (.bool true) rfl rfl m6.range Try.underlying27 rfl Try.sizeMd) rfl ?_
          exact ⟨_, rfl, o6, b6⟩
set_option maxRecDepth 100000 in
set_option maxHeartbeats 16000000 in
theorem specFree_2 (a : Nat) (w : World) (ha : 1 ≤ a) (ha3 : a ≤ 3) :
    Calls Try.prog 30 #[.int .i64 2, .int .i64 a] w (MdAns2 w (some (freeM 4 a))) := by
  have ha' : (1 : Int) ≤ (a : Int) := by omega
  have ha3' : (a : Int) ≤ 3 := by omega
  go_enter Try.func30, Try.ntmps30
  go_wp2_with (go_at_call 81; refine (inI_yes _ _ _ _ (by omega) (by omega)).mono ?_; rintro e w' ⟨rfl, rfl⟩)
  have m0 : Mcell ((w.alloc (.cells #[.slice none 0 0, .slice none 0 0, .int .i64 0] 27)).alloc (.cells #[.slice none 0 0, .slice none 0 0, .int .i64 0] 27)) w.heap.size (.slice none 0 0) (.slice none 0 0) 0 := (Mcell.new rfl).alloc _
  have d0 : Cm ((w.alloc (.cells #[.slice none 0 0, .slice none 0 0, .int .i64 0] 27)).alloc (.cells #[.slice none 0 0, .slice none 0 0, .int .i64 0] 27)) (w.heap.size + 1) 27 [.slice none 0 0, .slice none 0 0, .int .i64 0] := Cm.new (by simp)
  have b0 : Below w.heap.size w ((w.alloc (.cells #[.slice none 0 0, .slice none 0 0, .int .i64 0] 27)).alloc (.cells #[.slice none 0 0, .slice none 0 0, .int .i64 0] 27)) := by go_grown
  generalize (w.alloc (.cells #[.slice none 0 0, .slice none 0 0, .int .i64 0] 27)).alloc (.cells #[.slice none 0 0, .slice none 0 0, .int .i64 0] 27) = w0 at *
  have M0 := Lib.hid m0
  have D0 := Lib.hid d0
  have B0 := Lib.hid b0
  have hs0 : w.heap.size + 1 < w0.heap.size := d0.lt
  clear m0 d0 b0
  go_loopw [7] (fun iv wr => ∃ (k : Nat) (fv : Value), k ≤ 4 ∧ iv = .int .i64 k ∧ Hid (Cm wr (w.heap.size + 1) 27 [fv, .slice none 0 0, .int .i64 0]) ∧ Hid (wr.ownsRow w0.heap.size 3 1 fv k (ints (mrow 0 k))) ∧ Hid (Mcell wr w.heap.size (.slice none 0 0) (.slice none 0 0) 0) ∧ Hid (Below w.heap.size w wr) ∧ w0.heap.size ≤ wr.heap.size) (fun iv _ => 4 - (intOf iv).toNat)
  case atStart => exact ⟨0, _, Nat.zero_le _, rfl, D0, Lib.hid (World.ownsRow_nil _ _ _ _), M0, B0, Nat.le_refl _⟩
  case round =>
    clear M0 D0 B0
    obtain ⟨k, fv, hk, rfl, DR, OR, MR, BR, hwr⟩ := hrel
    by_cases hlt : k < 4
    · have hlt' : (k : Int) < 4 := by omega
      have c0 := DR.out.cell 0
      have hfb : ∀ q, fv.ownBlock = some q → w0.heap.size ≤ q := fun q hq => (OR.out.lt q hq).1
      have HFB := Lib.hid hfb
      clear hfb
      simp only [List.getElem?_cons_zero] at c0
      go_wp2_with (at_builtin; refine wpList_pushL rfl (.tmp 26) (.tmp 28) 22 29 rfl rfl 3 (.int .i64 0) 8 Try.underlying22 Try.infoI rfl w0.heap.size (.int .i64 k) fv k (ints (mrow 0 k)) OR.out rfl wr.heap.size rfl rfl rfl (by unfold maxLen; omega) (by omega) hwr ?_; intro v4 w4 hown hg; have O4 := Lib.hid hown; have D4 := Lib.hid (DR.out.of_block (hg.block DR.out.lt (fun e => by have := HFB.out _ e; omega))); have M4 := Lib.hid (MR.out.of_block (hg.block MR.out.lt (fun e => by have := HFB.out _ e; omega))); have B4 : Hid (Below w.heap.size w w4) := Lib.hid (BR.out.trans ((hg.below (Nat.le_trans hwr (Nat.le_refl _)) HFB.out).mono (by omega))); have hs4 : wr.heap.size ≤ w4.heap.size := hg.size; clear hown hg c0; have c0 := D4.out.cell 0; have f0 := D4.out.frozen 0; simp only [List.getElem?_cons_zero] at c0; obtain ⟨va, vc, e4⟩ := own_form O4.out; subst e4)
      go_roundw
      case rel =>
        refine ⟨k + 1, _, by omega, by go_num, Lib.hid (D4.out.set 0 _), Lib.hid ?_, Lib.hid (M4.out.other (by omega) _ _), Lib.hid (B4.out.setCell (by show _ ≤ w.heap.size + 1; omega) _), by simp [World.setCell]; omega⟩
        rw [mrow_succ, ints_app]
        exact own_keeps O4.out (fun q hq => (Keeps.setCell (lo := w0.heap.size) (hi := w4.heap.size) w4 (w.heap.size + 1) 0 _ (.inl hs0)).block q (O4.out.lt q hq).1 (O4.out.lt q hq).2 (O4.out.lt q hq).2)
      case measure => simp [intOf]; omega
    · have HKN : Hid (k = 4) := Lib.hid (by omega)
      obtain ⟨kk, hkk⟩ : ∃ x, x = k := ⟨_, rfl⟩
      subst hkk
      obtain ⟨w5, hw5⟩ : ∃ x, x = wr := ⟨_, rfl⟩
      subst hw5
      have I1 : Hid (Io w0.heap.size w5.heap.size w5 fv (mrow 0 4)) := Lib.hid (by rw [← HKN.out]; exact Ro.of_own OR.out)
      obtain ⟨fa, fc, ef⟩ := own_form OR.out
      subst ef
      have hi1 : w0.heap.size ≤ w5.heap.size := hwr
      clear OR
      go_wp2
      go_loopw [8] (fun iv W => ∃ (k : Nat) (bv : Value) (vs : List Value), k ≤ a ∧ iv = .int .i64 k ∧ Hid (Cm W (w.heap.size + 1) 27 [.slice fa kk fc, bv, .int .i64 0]) ∧ Hid (Ioo w5.heap.size W.heap.size W bv vs (List.replicate k (List.replicate 4 0))) ∧ Hid (Io w0.heap.size w5.heap.size W (.slice fa kk fc) (mrow 0 4)) ∧ Hid (Mcell W w.heap.size (.slice none 0 0) (.slice none 0 0) 0) ∧ Hid (Below w.heap.size w W) ∧ w5.heap.size ≤ W.heap.size) (fun iv _ => a - (intOf iv).toNat)
      case atStart => exact ⟨0, _, [], Nat.zero_le _, rfl, DR, Lib.hid ⟨Ro.nil _ _ _ _, ⟨rfl, fun j hj => by simp at hj⟩, List.pairwise_singleton _ _⟩, I1, MR, BR, Nat.le_refl _⟩
      case round =>
        clear DR I1 MR BR
        obtain ⟨k, bv, vs, hk, rfl, DR, OR, IR, MR, BR, hwW⟩ := hrel
        by_cases hlt : k < a
        · have hlt' : (k : Int) < a := by omega
          have hvl : vs.length = k := by rw [OR.out.2.1.1]; simp
          go_wp2
          refine regionL (fun V => Below w5.heap.size wr V) [8] (by kernel_rfl) (Below.refl _ _).drew (fun hHeld => ?_)
          have d0 : Hid (∀ V, Below w5.heap.size wr V → V.cell? ⟨w.heap.size + 1, 1, none⟩ = some bv) := Lib.hid (fun V hV => (DR.out.below hV (by omega)).cell 1)
          refine takeA (i := 0) (v := .pointer (some ⟨w.heap.size + 1, 1, none⟩)) 36 rfl rfl (by kernel_rfl) (by kernel_rfl) (by kernel_rfl) (by kernel_rfl) (fun _ _ _ h => h) (Or.inl ⟨by rfl, by intro W hSw; go_simp⟩) hHeld ?_
          simp only [Act.put, List.setIfInBounds_toArray, List.set_cons_zero, List.set_cons_succ]
          refine takeA (i := 1) (v := bv) 37 rfl rfl (by kernel_rfl) (by kernel_rfl) (by kernel_rfl) (by kernel_rfl) (fun _ _ _ h => h) (Or.inl ⟨by rfl, by intro W hSw; have d1 := d0.out _ hSw; go_simp⟩) hHeld ?_
          simp only [Act.put, List.setIfInBounds_toArray, List.set_cons_zero, List.set_cons_succ]
          refine takeA (i := 2) (v := .int .i64 2) 38 rfl rfl (by kernel_rfl) (by kernel_rfl) (by kernel_rfl) (by kernel_rfl) (fun _ _ _ h => h) (Or.inl ⟨by rfl, by intro W hSw; go_simp⟩) hHeld ?_
          simp only [Act.put, List.setIfInBounds_toArray, List.set_cons_zero, List.set_cons_succ]
          refine takeA (i := 3) (v := .int .i64 4) 39 rfl rfl (by kernel_rfl) (by kernel_rfl) (by kernel_rfl) (by kernel_rfl) (fun _ _ _ h => h) (Or.inl ⟨by rfl, by intro W hSw; first | (go_simp; done) | (go_simp; kernel_rfl)⟩) hHeld ?_
          simp only [Act.put, List.setIfInBounds_toArray, List.set_cons_zero, List.set_cons_succ]
          refine onlyL (i := 4) (by kernel_rfl) rfl (by rfl) (fun K hK => ?_)
          refine wp_makeF (.tmp 39) (.tmp 39) 22 40 rfl rfl 3 (.int .i64 0) 8 Try.underlying22 Try.infoI 4 .i64 .i64 rfl rfl (by decide) (by decide) ?_
          intro w6 hx6 hb6 hs6
          have t6 : Below wr.heap.size wr w6 := Below.trans (Below.refl _ _).drew hb6
          have hsd : wr.drew.heap.size ≤ wr.heap.size := Nat.le_refl _
          have hsd' : wr.heap.size ≤ wr.drew.heap.size := Nat.le_refl _
          rw [madeZ] at hx6
          have U6 : Hid (Io wr.heap.size w6.heap.size w6 (.slice (some ⟨wr.heap.size, 0, none⟩) 4 4) (List.replicate 4 0)) := Lib.hid (Ro.of_own hx6)
          have O6 := Lib.hid (OR.out.keeps (Keeps.of_all t6))
          have D6 := Lib.hid (DR.out.all t6)
          have I6 : Hid (Io w0.heap.size w5.heap.size w6 (.slice fa kk fc) (mrow 0 4)) := Lib.hid (IR.out.keeps (Keeps.of_all t6))
          have M6 := Lib.hid (MR.out.below t6)
          have B6 : Hid (Below w.heap.size w w6) := Lib.hid (BR.out.trans (t6.mono BR.out.size))
          have T6 := Lib.hid (t6.mono hwW)
          have hs6' : wr.heap.size ≤ w6.heap.size := t6.size
          clear hx6 hb6 hHeld
          refine hK.out _ _ (fun _ => t6.mono hwW) (fun _ => ?_)
          clear hK K t6 OR DR IR MR BR d0
          try simp only [Act.put, List.setIfInBounds_toArray, List.set_cons_zero, List.set_cons_succ]
          refine onlyL (i := 5) (by kernel_rfl) rfl (by rfl) (fun K hK => ?_)
          go_simp
          refine hK.out _ _ (fun _ => T6.out.alloc (by omega) _) (fun _ => ?_)
          clear hK K
          try simp only [Act.put, List.setIfInBounds_toArray, List.set_cons_zero, List.set_cons_succ]
          refine onlyL (i := 6) (by kernel_rfl) rfl (by rfl) (fun K hK => ?_)
          have hown : w6.ownsRow w5.heap.size 22 1 bv vs.length vs := O6.out.1.1
          refine wp_pushL (.tmp 37) (.tmp 41) 23 42 rfl rfl 22 (.slice none 0 0) 24 Try.underlying23 Try.infoL rfl w5.heap.size (.slice (some ⟨wr.heap.size, 0, none⟩) 4 4) bv vs.length vs hown rfl w6.heap.size rfl rfl rfl (by unfold maxLen; omega) (by omega) (by omega) ?_
          intro v7 w7 hown7 hg7
          have hbv : ∀ q, bv.ownBlock = some q → w5.heap.size ≤ q ∧ q < wr.heap.size := fun q hq => ⟨(O6.out.1.1.lt q hq).1, O6.out.1.2 q hq⟩
          have O7 := Lib.hid (Ioo.push O6.out U6.out (Nat.le_refl _) hs6' hwW hown7 hg7)
          have hne : ∀ q, q < w5.heap.size → bv.ownBlock ≠ some q := fun q hq e => by have := hbv q e; omega
          have D7 := Lib.hid (D6.out.of_block (hg7.block (by omega) (hne _ (by omega))))
          have M7 := Lib.hid (M6.out.of_block (hg7.block (by omega) (hne _ (by omega))))
          have I7 : Hid (Io w0.heap.size w5.heap.size w7 (.slice fa kk fc) (mrow 0 4)) := Lib.hid (hg7.ro I6.out (apart_lt (B := w5.heap.size) (fun q hq => I6.out.2 q hq) (fun q hq => (hbv q hq).1)))
          have t5 : Below w5.heap.size w6 w7 := hg7.below (by omega) (fun q hq => (hbv q hq).1)
          have B7 : Hid (Below w.heap.size w w7) := Lib.hid (B6.out.trans (t5.mono (by omega)))
          have hs7 : w6.heap.size ≤ w7.heap.size := t5.size
          have t7 : Below w5.heap.size wr w7 := T6.out.trans t5
          obtain ⟨v7a, v7c, e5⟩ := O7.out.1.form
          rw [show (vs ++ [Value.slice (some ⟨wr.heap.size, 0, none⟩) 4 4]).length = k + 1 by simp [hvl]] at e5
          have d5 := D7.out.cell 1
          have f5 := D7.out.frozen 1
          clear hown hown7 hbv hne t5 O6 D6 I6 M6 B6 hg7 T6
          refine hK.out _ _ (fun _ => t7) (fun hHeld => ?_)
          have hHeld := hHeld (by decide)
          clear hK K t7
          try simp only [Act.put, List.setIfInBounds_toArray, List.set_cons_zero, List.set_cons_succ]
          refine takeA (i := 7) (v := .pointer (some ⟨w.heap.size + 1, 1, none⟩)) 43 rfl rfl (by kernel_rfl) (by kernel_rfl) (by kernel_rfl) (by kernel_rfl) (fun _ _ _ h => h) (Or.inl ⟨by rfl, by intro W hSw; go_simp⟩) hHeld ?_
          simp only [Act.put, List.setIfInBounds_toArray, List.set_cons_zero, List.set_cons_succ]
          refine onlyL (i := 8) (by kernel_rfl) rfl (by rfl) (fun K hK => ?_)
          simp only [List.getElem?_cons_succ, List.getElem?_cons_zero] at d5
          subst e5
          go_simp
          refine hK.out _ _ (fun h => absurd (by decide) h) (fun _ => ?_)
          clear hK K hHeld
          refine doneL (by kernel_rfl) ?_ _
          clear d5 f5
          go_wp2
          go_roundw
          case rel =>
            refine ⟨k + 1, _, vs ++ [.slice (some ⟨wr.heap.size, 0, none⟩) 4 4], by omega, by go_num, Lib.hid (D7.out.set 1 _), Lib.hid ?_, Lib.hid (I7.out.keeps (Keeps.setCell _ _ _ _ (.inl (by omega)))), Lib.hid (M7.out.other (by omega) _ _), Lib.hid (B7.out.setCell (by show _ ≤ w.heap.size + 1; omega) _), by simp [World.setCell]; omega⟩
            rw [rep_succ]
            exact (O7.out.keeps (Keeps.setCell w7 (w.heap.size + 1) 1 (.slice v7a (k + 1) v7c) (.inl (by omega)))).wide (Nat.le_refl _) (Keeps.setCell (lo := 0) (hi := 0) w7 (w.heap.size + 1) 1 (.slice v7a (k + 1) v7c) (.inr (Nat.zero_le _))).size
          case measure => simp [intOf]; omega
        · obtain rfl : k = a := by omega
          obtain ⟨ba, bc, e5⟩ := OR.out.1.form
          have hvl : vs.length = k := by rw [OR.out.2.1.1]; simp
          rw [hvl] at e5
          subst e5
          obtain ⟨m0, m1, m2, m3, m4, m5⟩ := MR.out
          go_wp2_with (refine wpList_loadM rfl 27 _ rfl (w.heap.size + 1) 0 rfl 27 _ [.slice fa kk fc, .slice ba k bc, .int .i64 0] DR.out (fun j _ => by rw [Nat.zero_add]) _ Try.underlying27 rfl Try.sizeMd ?_)
          clear m0 m1 m2 m3 m4 m5
          have hO : Mo w0.heap.size wr.heap.size wr (.agg #[.slice fa kk fc, .slice ba k bc, .int .i64 (freeM 4 k).actual]) (freeM 4 k) := ⟨_, _, vs, rfl, IR.out.wide (Nat.le_refl _) hwW, OR.out.wide (by omega) (Nat.le_refl _), fun u hu => by
            refine apart_lt (B := w5.heap.size) (fun q hq => IR.out.2 q hq) (fun q hq => ?_)
            rcases List.mem_cons.1 hu with rfl | hu
            · exact (OR.out.1.1.lt q hq).1
            · exact (OR.out.2.1.blk hu q hq).1⟩
          obtain ⟨o6, b6, m6⟩ := ans_put MR.out hO (by omega) (Nat.le_refl _) (Nat.le_refl _) BR.out
          refine bodyPost_ret (results_mid2 Try.results30 _ _ w.heap.size _ _ (.bool true) rfl rfl m6.range Try.underlying27 rfl Try.sizeMd) rfl ?_
          exact ⟨_, rfl, o6, b6⟩
set_option maxRecDepth 100000 in
set_option maxHeartbeats 16000000 in
theorem specFree_3 (a : Nat) (w : World) (ha : 1 ≤ a) (ha3 : a ≤ 3) :
    Calls Try.prog 30 #[.int .i64 3, .int .i64 a] w (MdAns2 w (some (freeM 8 a))) := by
  have ha' : (1 : Int) ≤ (a : Int) := by omega
  have ha3' : (a : Int) ≤ 3 := by omega
  go_enter Try.func30, Try.ntmps30
  go_wp2_with (go_at_call 81; refine (inI_yes _ _ _ _ (by omega) (by omega)).mono ?_; rintro e w' ⟨rfl, rfl⟩)
  have m0 : Mcell ((w.alloc (.cells #[.slice none 0 0, .slice none 0 0, .int .i64 0] 27)).alloc (.cells #[.slice none 0 0, .slice none 0 0, .int .i64 0] 27)) w.heap.size (.slice none 0 0) (.slice none 0 0) 0 := (Mcell.new rfl).alloc _
  have d0 : Cm ((w.alloc (.cells #[.slice none 0 0, .slice none 0 0, .int .i64 0] 27)).alloc (.cells #[.slice none 0 0, .slice none 0 0, .int .i64 0] 27)) (w.heap.size + 1) 27 [.slice none 0 0, .slice none 0 0, .int .i64 0] := Cm.new (by simp)
  have b0 : Below w.heap.size w ((w.alloc (.cells #[.slice none 0 0, .slice none 0 0, .int .i64 0] 27)).alloc (.cells #[.slice none 0 0, .slice none 0 0, .int .i64 0] 27)) := by go_grown
  generalize (w.alloc (.cells #[.slice none 0 0, .slice none 0 0, .int .i64 0] 27)).alloc (.cells #[.slice none 0 0, .slice none 0 0, .int .i64 0] 27) = w0 at *
  have M0 := Lib.hid m0
  have D0 := Lib.hid d0
  have B0 := Lib.hid b0
  have hs0 : w.heap.size + 1 < w0.heap.size := d0.lt
  clear m0 d0 b0
  go_loopw [7] (fun iv wr => ∃ (k : Nat) (fv : Value), k ≤ 8 ∧ iv = .int .i64 k ∧ Hid (Cm wr (w.heap.size + 1) 27 [fv, .slice none 0 0, .int .i64 0]) ∧ Hid (wr.ownsRow w0.heap.size 3 1 fv k (ints (mrow 0 k))) ∧ Hid (Mcell wr w.heap.size (.slice none 0 0) (.slice none 0 0) 0) ∧ Hid (Below w.heap.size w wr) ∧ w0.heap.size ≤ wr.heap.size) (fun iv _ => 8 - (intOf iv).toNat)
  case atStart => exact ⟨0, _, Nat.zero_le _, rfl, D0, Lib.hid (World.ownsRow_nil _ _ _ _), M0, B0, Nat.le_refl _⟩
  case round =>
    clear M0 D0 B0
    obtain ⟨k, fv, hk, rfl, DR, OR, MR, BR, hwr⟩ := hrel
    by_cases hlt : k < 8
    · have hlt' : (k : Int) < 8 := by omega
      have c0 := DR.out.cell 0
      have hfb : ∀ q, fv.ownBlock = some q → w0.heap.size ≤ q := fun q hq => (OR.out.lt q hq).1
      have HFB := Lib.hid hfb
      clear hfb
      simp only [List.getElem?_cons_zero] at c0
      go_wp2_with (at_builtin; refine wpList_pushL rfl (.tmp 26) (.tmp 28) 22 29 rfl rfl 3 (.int .i64 0) 8 Try.underlying22 Try.infoI rfl w0.heap.size (.int .i64 k) fv k (ints (mrow 0 k)) OR.out rfl wr.heap.size rfl rfl rfl (by unfold maxLen; omega) (by omega) hwr ?_; intro v4 w4 hown hg; have O4 := Lib.hid hown; have D4 := Lib.hid (DR.out.of_block (hg.block DR.out.lt (fun e => by have := HFB.out _ e; omega))); have M4 := Lib.hid (MR.out.of_block (hg.block MR.out.lt (fun e => by have := HFB.out _ e; omega))); have B4 : Hid (Below w.heap.size w w4) := Lib.hid (BR.out.trans ((hg.below (Nat.le_trans hwr (Nat.le_refl _)) HFB.out).mono (by omega))); have hs4 : wr.heap.size ≤ w4.heap.size := hg.size; clear hown hg c0; have c0 := D4.out.cell 0; have f0 := D4.out.frozen 0; simp only [List.getElem?_cons_zero] at c0; obtain ⟨va, vc, e4⟩ := own_form O4.out; subst e4)
      go_roundw
      case rel =>
        refine ⟨k + 1, _, by omega, by go_num, Lib.hid (D4.out.set 0 _), Lib.hid ?_, Lib.hid (M4.out.other (by omega) _ _), Lib.hid (B4.out.setCell (by show _ ≤ w.heap.size + 1; omega) _), by simp [World.setCell]; omega⟩
        rw [mrow_succ, ints_app]
        exact own_keeps O4.out (fun q hq => (Keeps.setCell (lo := w0.heap.size) (hi := w4.heap.size) w4 (w.heap.size + 1) 0 _ (.inl hs0)).block q (O4.out.lt q hq).1 (O4.out.lt q hq).2 (O4.out.lt q hq).2)
      case measure => simp [intOf]; omega
    · have HKN : Hid (k = 8) := Lib.hid (by omega)
      obtain ⟨kk, hkk⟩ : ∃ x, x = k := ⟨_, rfl⟩
      subst hkk
      obtain ⟨w5, hw5⟩ : ∃ x, x = wr := ⟨_, rfl⟩
      subst hw5
      have I1 : Hid (Io w0.heap.size w5.heap.size w5 fv (mrow 0 8)) := Lib.hid (by rw [← HKN.out]; exact Ro.of_own OR.out)
      obtain ⟨fa, fc, ef⟩ := own_form OR.out
      subst ef
      have hi1 : w0.heap.size ≤ w5.heap.size := hwr
      clear OR
      go_wp2
      go_loopw [8] (fun iv W => ∃ (k : Nat) (bv : Value) (vs : List Value), k ≤ a ∧ iv = .int .i64 k ∧ Hid (Cm W (w.heap.size + 1) 27 [.slice fa kk fc, bv, .int .i64 0]) ∧ Hid (Ioo w5.heap.size W.heap.size W bv vs (List.replicate k (List.replicate 8 0))) ∧ Hid (Io w0.heap.size w5.heap.size W (.slice fa kk fc) (mrow 0 8)) ∧ Hid (Mcell W w.heap.size (.slice none 0 0) (.slice none 0 0) 0) ∧ Hid (Below w.heap.size w W) ∧ w5.heap.size ≤ W.heap.size) (fun iv _ => a - (intOf iv).toNat)
      case atStart => exact ⟨0, _, [], Nat.zero_le _, rfl, DR, Lib.hid ⟨Ro.nil _ _ _ _, ⟨rfl, fun j hj => by simp at hj⟩, List.pairwise_singleton _ _⟩, I1, MR, BR, Nat.le_refl _⟩
      case round =>
        clear DR I1 MR BR
        obtain ⟨k, bv, vs, hk, rfl, DR, OR, IR, MR, BR, hwW⟩ := hrel
        by_cases hlt : k < a
        · have hlt' : (k : Int) < a := by omega
          have hvl : vs.length = k := by rw [OR.out.2.1.1]; simp
          go_wp2
          refine regionL (fun V => Below w5.heap.size wr V) [8] (by kernel_rfl) (Below.refl _ _).drew (fun hHeld => ?_)
          have d0 : Hid (∀ V, Below w5.heap.size wr V → V.cell? ⟨w.heap.size + 1, 1, none⟩ = some bv) := Lib.hid (fun V hV => (DR.out.below hV (by omega)).cell 1)
          refine takeA (i := 0) (v := .pointer (some ⟨w.heap.size + 1, 1, none⟩)) 36 rfl rfl (by kernel_rfl) (by kernel_rfl) (by kernel_rfl) (by kernel_rfl) (fun _ _ _ h => h) (Or.inl ⟨by rfl, by intro W hSw; go_simp⟩) hHeld ?_
          simp only [Act.put, List.setIfInBounds_toArray, List.set_cons_zero, List.set_cons_succ]
          refine takeA (i := 1) (v := bv) 37 rfl rfl (by kernel_rfl) (by kernel_rfl) (by kernel_rfl) (by kernel_rfl) (fun _ _ _ h => h) (Or.inl ⟨by rfl, by intro W hSw; have d1 := d0.out _ hSw; go_simp⟩) hHeld ?_
          simp only [Act.put, List.setIfInBounds_toArray, List.set_cons_zero, List.set_cons_succ]
          refine takeA (i := 2) (v := .int .i64 3) 38 rfl rfl (by kernel_rfl) (by kernel_rfl) (by kernel_rfl) (by kernel_rfl) (fun _ _ _ h => h) (Or.inl ⟨by rfl, by intro W hSw; go_simp⟩) hHeld ?_
          simp only [Act.put, List.setIfInBounds_toArray, List.set_cons_zero, List.set_cons_succ]
          refine takeA (i := 3) (v := .int .i64 8) 39 rfl rfl (by kernel_rfl) (by kernel_rfl) (by kernel_rfl) (by kernel_rfl) (fun _ _ _ h => h) (Or.inl ⟨by rfl, by intro W hSw; first | (go_simp; done) | (go_simp; kernel_rfl)⟩) hHeld ?_
          simp only [Act.put, List.setIfInBounds_toArray, List.set_cons_zero, List.set_cons_succ]
          refine onlyL (i := 4) (by kernel_rfl) rfl (by rfl) (fun K hK => ?_)
          refine wp_makeF (.tmp 39) (.tmp 39) 22 40 rfl rfl 3 (.int .i64 0) 8 Try.underlying22 Try.infoI 8 .i64 .i64 rfl rfl (by decide) (by decide) ?_
          intro w6 hx6 hb6 hs6
          have t6 : Below wr.heap.size wr w6 := Below.trans (Below.refl _ _).drew hb6
          have hsd : wr.drew.heap.size ≤ wr.heap.size := Nat.le_refl _
          have hsd' : wr.heap.size ≤ wr.drew.heap.size := Nat.le_refl _
          rw [madeZ] at hx6
          have U6 : Hid (Io wr.heap.size w6.heap.size w6 (.slice (some ⟨wr.heap.size, 0, none⟩) 8 8) (List.replicate 8 0)) := Lib.hid (Ro.of_own hx6)
          have O6 := Lib.hid (OR.out.keeps (Keeps.of_all t6))
          have D6 := Lib.hid (DR.out.all t6)
          have I6 : Hid (Io w0.heap.size w5.heap.size w6 (.slice fa kk fc) (mrow 0 8)) := Lib.hid (IR.out.keeps (Keeps.of_all t6))
          have M6 := Lib.hid (MR.out.below t6)
          have B6 : Hid (Below w.heap.size w w6) := Lib.hid (BR.out.trans (t6.mono BR.out.size))
          have T6 := Lib.hid (t6.mono hwW)
          have hs6' : wr.heap.size ≤ w6.heap.size := t6.size
          clear hx6 hb6 hHeld
          refine hK.out _ _ (fun _ => t6.mono hwW) (fun _ => ?_)
          clear hK K t6 OR DR IR MR BR d0
          try simp only [Act.put, List.setIfInBounds_toArray, List.set_cons_zero, List.set_cons_succ]
          refine onlyL (i := 5) (by kernel_rfl) rfl (by rfl) (fun K hK => ?_)
          go_simp
          refine hK.out _ _ (fun _ => T6.out.alloc (by omega) _) (fun _ => ?_)
          clear hK K
          try simp only [Act.put, List.setIfInBounds_toArray, List.set_cons_zero, List.set_cons_succ]
          refine onlyL (i := 6) (by kernel_rfl) rfl (by rfl) (fun K hK => ?_)
          have hown : w6.ownsRow w5.heap.size 22 1 bv vs.length vs := O6.out.1.1
          refine wp_pushL (.tmp 37) (.tmp 41) 23 42 rfl rfl 22 (.slice none 0 0) 24 Try.underlying23 Try.infoL rfl w5.heap.size (.slice (some ⟨wr.heap.size, 0, none⟩) 8 8) bv vs.length vs hown rfl w6.heap.size rfl rfl rfl (by unfold maxLen; omega) (by omega) (by omega) ?_
          intro v7 w7 hown7 hg7
          have hbv : ∀ q, bv.ownBlock = some q → w5.heap.size ≤ q ∧ q < wr.heap.size := fun q hq => ⟨(O6.out.1.1.lt q hq).1, O6.out.1.2 q hq⟩
          have O7 := Lib.hid (Ioo.push O6.out U6.out (Nat.le_refl _) hs6' hwW hown7 hg7)
          have hne : ∀ q, q < w5.heap.size → bv.ownBlock ≠ some q := fun q hq e => by have := hbv q e; omega
          have D7 := Lib.hid (D6.out.of_block (hg7.block (by omega) (hne _ (by omega))))
          have M7 := Lib.hid (M6.out.of_block (hg7.block (by omega) (hne _ (by omega))))
          have I7 : Hid (Io w0.heap.size w5.heap.size w7 (.slice fa kk fc) (mrow 0 8)) := Lib.hid (hg7.ro I6.out (apart_lt (B := w5.heap.size) (fun q hq => I6.out.2 q hq) (fun q hq => (hbv q hq).1)))
          have t5 : Below w5.heap.size w6 w7 := hg7.below (by omega) (fun q hq => (hbv q hq).1)
          have B7 : Hid (Below w.heap.size w w7) := Lib.hid (B6.out.trans (t5.mono (by omega)))
          have hs7 : w6.heap.size ≤ w7.heap.size := t5.size
          have t7 : Below w5.heap.size wr w7 := T6.out.trans t5
          obtain ⟨v7a, v7c, e5⟩ := O7.out.1.form
          rw [show (vs ++ [Value.slice (some ⟨wr.heap.size, 0, none⟩) 8 8]).length = k + 1 by simp [hvl]] at e5
          have d5 := D7.out.cell 1
          have f5 := D7.out.frozen 1
          clear hown hown7 hbv hne t5 O6 D6 I6 M6 B6 hg7 T6
          refine hK.out _ _ (fun _ => t7) (fun hHeld => ?_)
          have hHeld := hHeld (by decide)
          clear hK K t7
          try simp only [Act.put, List.setIfInBounds_toArray, List.set_cons_zero, List.set_cons_succ]
          refine takeA (i := 7) (v := .pointer (some ⟨w.heap.size + 1, 1, none⟩)) 43 rfl rfl (by kernel_rfl) (by kernel_rfl) (by kernel_rfl) (by kernel_rfl) (fun _ _ _ h => h) (Or.inl ⟨by rfl, by intro W hSw; go_simp⟩) hHeld ?_
          simp only [Act.put, List.setIfInBounds_toArray, List.set_cons_zero, List.set_cons_succ]
          refine onlyL (i := 8) (by kernel_rfl) rfl (by rfl) (fun K hK => ?_)
          simp only [List.getElem?_cons_succ, List.getElem?_cons_zero] at d5
          subst e5
          go_simp
          refine hK.out _ _ (fun h => absurd (by decide) h) (fun _ => ?_)
          clear hK K hHeld
          refine doneL (by kernel_rfl) ?_ _
          clear d5 f5
          go_wp2
          go_roundw
          case rel =>
            refine ⟨k + 1, _, vs ++ [.slice (some ⟨wr.heap.size, 0, none⟩) 8 8], by omega, by go_num, Lib.hid (D7.out.set 1 _), Lib.hid ?_, Lib.hid (I7.out.keeps (Keeps.setCell _ _ _ _ (.inl (by omega)))), Lib.hid (M7.out.other (by omega) _ _), Lib.hid (B7.out.setCell (by show _ ≤ w.heap.size + 1; omega) _), by simp [World.setCell]; omega⟩
            rw [rep_succ]
            exact (O7.out.keeps (Keeps.setCell w7 (w.heap.size + 1) 1 (.slice v7a (k + 1) v7c) (.inl (by omega)))).wide (Nat.le_refl _) (Keeps.setCell (lo := 0) (hi := 0) w7 (w.heap.size + 1) 1 (.slice v7a (k + 1) v7c) (.inr (Nat.zero_le _))).size
          case measure => simp [intOf]; omega
        · obtain rfl : k = a := by omega
          obtain ⟨ba, bc, e5⟩ := OR.out.1.form
          have hvl : vs.length = k := by rw [OR.out.2.1.1]; simp
          rw [hvl] at e5
          subst e5
          obtain ⟨m0, m1, m2, m3, m4, m5⟩ := MR.out
          go_wp2_with (refine wpList_loadM rfl 27 _ rfl (w.heap.size + 1) 0 rfl 27 _ [.slice fa kk fc, .slice ba k bc, .int .i64 0] DR.out (fun j _ => by rw [Nat.zero_add]) _ Try.underlying27 rfl Try.sizeMd ?_)
          clear m0 m1 m2 m3 m4 m5
          have hO : Mo w0.heap.size wr.heap.size wr (.agg #[.slice fa kk fc, .slice ba k bc, .int .i64 (freeM 8 k).actual]) (freeM 8 k) := ⟨_, _, vs, rfl, IR.out.wide (Nat.le_refl _) hwW, OR.out.wide (by omega) (Nat.le_refl _), fun u hu => by
            refine apart_lt (B := w5.heap.size) (fun q hq => IR.out.2 q hq) (fun q hq => ?_)
            rcases List.mem_cons.1 hu with rfl | hu
            · exact (OR.out.1.1.lt q hq).1
            · exact (OR.out.2.1.blk hu q hq).1⟩
          obtain ⟨o6, b6, m6⟩ := ans_put MR.out hO (by omega) (Nat.le_refl _) (Nat.le_refl _) BR.out
          refine bodyPost_ret (results_mid2 Try.results30 _ _ w.heap.size _ _ (.bool true) rfl rfl m6.range Try.underlying27 rfl Try.sizeMd) rfl ?_
          exact ⟨_, rfl, o6, b6⟩
set_option maxRecDepth 100000 in
set_option maxHeartbeats 16000000 in
theorem specFree_4 (a : Nat) (w : World) (ha : 1 ≤ a) (ha3 : a ≤ 3) :
    Calls Try.prog 30 #[.int .i64 4, .int .i64 a] w (MdAns2 w (some (freeM 16 a))) := by
  have ha' : (1 : Int) ≤ (a : Int) := by omega
  have ha3' : (a : Int) ≤ 3 := by omega
  go_enter Try.func30, Try.ntmps30
  go_wp2_with (go_at_call 81; refine (inI_yes _ _ _ _ (by omega) (by omega)).mono ?_; rintro e w' ⟨rfl, rfl⟩)
  have m0 : Mcell ((w.alloc (.cells #[.slice none 0 0, .slice none 0 0, .int .i64 0] 27)).alloc (.cells #[.slice none 0 0, .slice none 0 0, .int .i64 0] 27)) w.heap.size (.slice none 0 0) (.slice none 0 0) 0 := (Mcell.new rfl).alloc _
  have d0 : Cm ((w.alloc (.cells #[.slice none 0 0, .slice none 0 0, .int .i64 0] 27)).alloc (.cells #[.slice none 0 0, .slice none 0 0, .int .i64 0] 27)) (w.heap.size + 1) 27 [.slice none 0 0, .slice none 0 0, .int .i64 0] := Cm.new (by simp)
  have b0 : Below w.heap.size w ((w.alloc (.cells #[.slice none 0 0, .slice none 0 0, .int .i64 0] 27)).alloc (.cells #[.slice none 0 0, .slice none 0 0, .int .i64 0] 27)) := by go_grown
  generalize (w.alloc (.cells #[.slice none 0 0, .slice none 0 0, .int .i64 0] 27)).alloc (.cells #[.slice none 0 0, .slice none 0 0, .int .i64 0] 27) = w0 at *
  have M0 := Lib.hid m0
  have D0 := Lib.hid d0
  have B0 := Lib.hid b0
  have hs0 : w.heap.size + 1 < w0.heap.size := d0.lt
  clear m0 d0 b0
  go_loopw [7] (fun iv wr => ∃ (k : Nat) (fv : Value), k ≤ 16 ∧ iv = .int .i64 k ∧ Hid (Cm wr (w.heap.size + 1) 27 [fv, .slice none 0 0, .int .i64 0]) ∧ Hid (wr.ownsRow w0.heap.size 3 1 fv k (ints (mrow 0 k))) ∧ Hid (Mcell wr w.heap.size (.slice none 0 0) (.slice none 0 0) 0) ∧ Hid (Below w.heap.size w wr) ∧ w0.heap.size ≤ wr.heap.size) (fun iv _ => 16 - (intOf iv).toNat)
  case atStart => exact ⟨0, _, Nat.zero_le _, rfl, D0, Lib.hid (World.ownsRow_nil _ _ _ _), M0, B0, Nat.le_refl _⟩
  case round =>
    clear M0 D0 B0
    obtain ⟨k, fv, hk, rfl, DR, OR, MR, BR, hwr⟩ := hrel
    by_cases hlt : k < 16
    · have hlt' : (k : Int) < 16 := by omega
      have c0 := DR.out.cell 0
      have hfb : ∀ q, fv.ownBlock = some q → w0.heap.size ≤ q := fun q hq => (OR.out.lt q hq).1
      have HFB := Lib.hid hfb
      clear hfb
      simp only [List.getElem?_cons_zero] at c0
      go_wp2_with (at_builtin; refine wpList_pushL rfl (.tmp 26) (.tmp 28) 22 29 rfl rfl 3 (.int .i64 0) 8 Try.underlying22 Try.infoI rfl w0.heap.size (.int .i64 k) fv k (ints (mrow 0 k)) OR.out rfl wr.heap.size rfl rfl rfl (by unfold maxLen; omega) (by omega) hwr ?_; intro v4 w4 hown hg; have O4 := Lib.hid hown; have D4 := Lib.hid (DR.out.of_block (hg.block DR.out.lt (fun e => by have := HFB.out _ e; omega))); have M4 := Lib.hid (MR.out.of_block (hg.block MR.out.lt (fun e => by have := HFB.out _ e; omega))); have B4 : Hid (Below w.heap.size w w4) := Lib.hid (BR.out.trans ((hg.below (Nat.le_trans hwr (Nat.le_refl _)) HFB.out).mono (by omega))); have hs4 : wr.heap.size ≤ w4.heap.size := hg.size; clear hown hg c0; have c0 := D4.out.cell 0; have f0 := D4.out.frozen 0; simp only [List.getElem?_cons_zero] at c0; obtain ⟨va, vc, e4⟩ := own_form O4.out; subst e4)
      go_roundw
      case rel =>
        refine ⟨k + 1, _, by omega, by go_num, Lib.hid (D4.out.set 0 _), Lib.hid ?_, Lib.hid (M4.out.other (by omega) _ _), Lib.hid (B4.out.setCell (by show _ ≤ w.heap.size + 1; omega) _), by simp [World.setCell]; omega⟩
        rw [mrow_succ, ints_app]
        exact own_keeps O4.out (fun q hq => (Keeps.setCell (lo := w0.heap.size) (hi := w4.heap.size) w4 (w.heap.size + 1) 0 _ (.inl hs0)).block q (O4.out.lt q hq).1 (O4.out.lt q hq).2 (O4.out.lt q hq).2)
      case measure => simp [intOf]; omega
    · have HKN : Hid (k = 16) := Lib.hid (by omega)
      obtain ⟨kk, hkk⟩ : ∃ x, x = k := ⟨_, rfl⟩
      subst hkk
      obtain ⟨w5, hw5⟩ : ∃ x, x = wr := ⟨_, rfl⟩
      subst hw5
      have I1 : Hid (Io w0.heap.size w5.heap.size w5 fv (mrow 0 16)) := Lib.hid (by rw [← HKN.out]; exact Ro.of_own OR.out)
      obtain ⟨fa, fc, ef⟩ := own_form OR.out
      subst ef
      have hi1 : w0.heap.size ≤ w5.heap.size := hwr
      clear OR
      go_wp2
      go_loopw [8] (fun iv W => ∃ (k : Nat) (bv : Value) (vs : List Value), k ≤ a ∧ iv = .int .i64 k ∧ Hid (Cm W (w.heap.size + 1) 27 [.slice fa kk fc, bv, .int .i64 0]) ∧ Hid (Ioo w5.heap.size W.heap.size W bv vs (List.replicate k (List.replicate 16 0))) ∧ Hid (Io w0.heap.size w5.heap.size W (.slice fa kk fc) (mrow 0 16)) ∧ Hid (Mcell W w.heap.size (.slice none 0 0) (.slice none 0 0) 0) ∧ Hid (Below w.heap.size w W) ∧ w5.heap.size ≤ W.heap.size) (fun iv _ => a - (intOf iv).toNat)
      case atStart => exact ⟨0, _, [], Nat.zero_le _, rfl, DR, Lib.hid ⟨Ro.nil _ _ _ _, ⟨rfl, fun j hj => by simp at hj⟩, List.pairwise_singleton _ _⟩, I1, MR, BR, Nat.le_refl _⟩
      case round =>
        clear DR I1 MR BR
        obtain ⟨k, bv, vs, hk, rfl, DR, OR, IR, MR, BR, hwW⟩ := hrel
        by_cases hlt : k < a
        · have hlt' : (k : Int) < a := by omega
          have hvl : vs.length = k := by rw [OR.out.2.1.1]; simp
          go_wp2
          refine regionL (fun V => Below w5.heap.size wr V) [8] (by kernel_rfl) (Below.refl _ _).drew (fun hHeld => ?_)
          have d0 : Hid (∀ V, Below w5.heap.size wr V → V.cell? ⟨w.heap.size + 1, 1, none⟩ = some bv) := Lib.hid (fun V hV => (DR.out.below hV (by omega)).cell 1)
          refine takeA (i := 0) (v := .pointer (some ⟨w.heap.size + 1, 1, none⟩)) 36 rfl rfl (by kernel_rfl) (by kernel_rfl) (by kernel_rfl) (by kernel_rfl) (fun _ _ _ h => h) (Or.inl ⟨by rfl, by intro W hSw; go_simp⟩) hHeld ?_
          simp only [Act.put, List.setIfInBounds_toArray, List.set_cons_zero, List.set_cons_succ]
          refine takeA (i := 1) (v := bv) 37 rfl rfl (by kernel_rfl) (by kernel_rfl) (by kernel_rfl) (by kernel_rfl) (fun _ _ _ h => h) (Or.inl ⟨by rfl, by intro W hSw; have d1 := d0.out _ hSw; go_simp⟩) hHeld ?_
          simp only [Act.put, List.setIfInBounds_toArray, List.set_cons_zero, List.set_cons_succ]
          refine takeA (i := 2) (v := .int .i64 4) 38 rfl rfl (by kernel_rfl) (by kernel_rfl) (by kernel_rfl) (by kernel_rfl) (fun _ _ _ h => h) (Or.inl ⟨by rfl, by intro W hSw; go_simp⟩) hHeld ?_
          simp only [Act.put, List.setIfInBounds_toArray, List.set_cons_zero, List.set_cons_succ]
          refine takeA (i := 3) (v := .int .i64 16) 39 rfl rfl (by kernel_rfl) (by kernel_rfl) (by kernel_rfl) (by kernel_rfl) (fun _ _ _ h => h) (Or.inl ⟨by rfl, by intro W hSw; first | (go_simp; done) | (go_simp; kernel_rfl)⟩) hHeld ?_
          simp only [Act.put, List.setIfInBounds_toArray, List.set_cons_zero, List.set_cons_succ]
          refine onlyL (i := 4) (by kernel_rfl) rfl (by rfl) (fun K hK => ?_)
          refine wp_makeF (.tmp 39) (.tmp 39) 22 40 rfl rfl 3 (.int .i64 0) 8 Try.underlying22 Try.infoI 16 .i64 .i64 rfl rfl (by decide) (by decide) ?_
          intro w6 hx6 hb6 hs6
          have t6 : Below wr.heap.size wr w6 := Below.trans (Below.refl _ _).drew hb6
          have hsd : wr.drew.heap.size ≤ wr.heap.size := Nat.le_refl _
          have hsd' : wr.heap.size ≤ wr.drew.heap.size := Nat.le_refl _
          rw [madeZ] at hx6
          have U6 : Hid (Io wr.heap.size w6.heap.size w6 (.slice (some ⟨wr.heap.size, 0, none⟩) 16 16) (List.replicate 16 0)) := Lib.hid (Ro.of_own hx6)
          have O6 := Lib.hid (OR.out.keeps (Keeps.of_all t6))
          have D6 := Lib.hid (DR.out.all t6)
          have I6 : Hid (Io w0.heap.size w5.heap.size w6 (.slice fa kk fc) (mrow 0 16)) := Lib.hid (IR.out.keeps (Keeps.of_all t6))
          have M6 := Lib.hid (MR.out.below t6)
          have B6 : Hid (Below w.heap.size w w6) := Lib.hid (BR.out.trans (t6.mono BR.out.size))
          have T6 := Lib.hid (t6.mono hwW)
          have hs6' : wr.heap.size ≤ w6.heap.size := t6.size
          clear hx6 hb6 hHeld
          refine hK.out _ _ (fun _ => t6.mono hwW) (fun _ => ?_)
          clear hK K t6 OR DR IR MR BR d0
          try simp only [Act.put, List.setIfInBounds_toArray, List.set_cons_zero, List.set_cons_succ]
          refine onlyL (i := 5) (by kernel_rfl) rfl (by rfl) (fun K hK => ?_)
          go_simp
          refine hK.out _ _ (fun _ => T6.out.alloc (by omega) _) (fun _ => ?_)
          clear hK K
          try simp only [Act.put, List.setIfInBounds_toArray, List.set_cons_zero, List.set_cons_succ]
          refine onlyL (i := 6) (by kernel_rfl) rfl (by rfl) (fun K hK => ?_)
          have hown : w6.ownsRow w5.heap.size 22 1 bv vs.length vs := O6.out.1.1
          refine wp_pushL (.tmp 37) (.tmp 41) 23 42 rfl rfl 22 (.slice none 0 0) 24 Try.underlying23 Try.infoL rfl w5.heap.size (.slice (some ⟨wr.heap.size, 0, none⟩) 16 16) bv vs.length vs hown rfl w6.heap.size rfl rfl rfl (by unfold maxLen; omega) (by omega) (by omega) ?_
          intro v7 w7 hown7 hg7
          have hbv : ∀ q, bv.ownBlock = some q → w5.heap.size ≤ q ∧ q < wr.heap.size := fun q hq => ⟨(O6.out.1.1.lt q hq).1, O6.out.1.2 q hq⟩
          have O7 := Lib.hid (Ioo.push O6.out U6.out (Nat.le_refl _) hs6' hwW hown7 hg7)
          have hne : ∀ q, q < w5.heap.size → bv.ownBlock ≠ some q := fun q hq e => by have := hbv q e; omega
          have D7 := Lib.hid (D6.out.of_block (hg7.block (by omega) (hne _ (by omega))))
          have M7 := Lib.hid (M6.out.of_block (hg7.block (by omega) (hne _ (by omega))))
          have I7 : Hid (Io w0.heap.size w5.heap.size w7 (.slice fa kk fc) (mrow 0 16)) := Lib.hid (hg7.ro I6.out (apart_lt (B := w5.heap.size) (fun q hq => I6.out.2 q hq) (fun q hq => (hbv q hq).1)))
          have t5 : Below w5.heap.size w6 w7 := hg7.below (by omega) (fun q hq => (hbv q hq).1)
          have B7 : Hid (Below w.heap.size w w7) := Lib.hid (B6.out.trans (t5.mono (by omega)))
          have hs7 : w6.heap.size ≤ w7.heap.size := t5.size
          have t7 : Below w5.heap.size wr w7 := T6.out.trans t5
          obtain ⟨v7a, v7c, e5⟩ := O7.out.1.form
          rw [show (vs ++ [Value.slice (some ⟨wr.heap.size, 0, none⟩) 16 16]).length = k + 1 by simp [hvl]] at e5
          have d5 := D7.out.cell 1
          have f5 := D7.out.frozen 1
          clear hown hown7 hbv hne t5 O6 D6 I6 M6 B6 hg7 T6
          refine hK.out _ _ (fun _ => t7) (fun hHeld => ?_)
          have hHeld := hHeld (by decide)
          clear hK K t7
          try simp only [Act.put, List.setIfInBounds_toArray, List.set_cons_zero, List.set_cons_succ]
          refine takeA (i := 7) (v := .pointer (some ⟨w.heap.size + 1, 1, none⟩)) 43 rfl rfl (by kernel_rfl) (by kernel_rfl) (by kernel_rfl) (by kernel_rfl) (fun _ _ _ h => h) (Or.inl ⟨by rfl, by intro W hSw; go_simp⟩) hHeld ?_
          simp only [Act.put, List.setIfInBounds_toArray, List.set_cons_zero, List.set_cons_succ]
          refine onlyL (i := 8) (by kernel_rfl) rfl (by rfl) (fun K hK => ?_)
          simp only [List.getElem?_cons_succ, List.getElem?_cons_zero] at d5
          subst e5
          go_simp
          refine hK.out _ _ (fun h => absurd (by decide) h) (fun _ => ?_)
          clear hK K hHeld
          refine doneL (by kernel_rfl) ?_ _
          clear d5 f5
          go_wp2
          go_roundw
          case rel =>
            refine ⟨k + 1, _, vs ++ [.slice (some ⟨wr.heap.size, 0, none⟩) 16 16], by omega, by go_num, Lib.hid (D7.out.set 1 _), Lib.hid ?_, Lib.hid (I7.out.keeps (Keeps.setCell _ _ _ _ (.inl (by omega)))), Lib.hid (M7.out.other (by omega) _ _), Lib.hid (B7.out.setCell (by show _ ≤ w.heap.size + 1; omega) _), by simp [World.setCell]; omega⟩
            rw [rep_succ]
            exact (O7.out.keeps (Keeps.setCell w7 (w.heap.size + 1) 1 (.slice v7a (k + 1) v7c) (.inl (by omega)))).wide (Nat.le_refl _) (Keeps.setCell (lo := 0) (hi := 0) w7 (w.heap.size + 1) 1 (.slice v7a (k + 1) v7c) (.inr (Nat.zero_le _))).size
          case measure => simp [intOf]; omega
        · obtain rfl : k = a := by omega
          obtain ⟨ba, bc, e5⟩ := OR.out.1.form
          have hvl : vs.length = k := by rw [OR.out.2.1.1]; simp
          rw [hvl] at e5
          subst e5
          obtain ⟨m0, m1, m2, m3, m4, m5⟩ := MR.out
          go_wp2_with (refine wpList_loadM rfl 27 _ rfl (w.heap.size + 1) 0 rfl 27 _ [.slice fa kk fc, .slice ba k bc, .int .i64 0] DR.out (fun j _ => by rw [Nat.zero_add]) _ Try.underlying27 rfl Try.sizeMd ?_)
          clear m0 m1 m2 m3 m4 m5
          have hO : Mo w0.heap.size wr.heap.size wr (.agg #[.slice fa kk fc, .slice ba k bc, .int .i64 (freeM 16 k).actual]) (freeM 16 k) := ⟨_, _, vs, rfl, IR.out.wide (Nat.le_refl _) hwW, OR.out.wide (by omega) (Nat.le_refl _), fun u hu => by
            refine apart_lt (B := w5.heap.size) (fun q hq => IR.out.2 q hq) (fun q hq => ?_)
            rcases List.mem_cons.1 hu with rfl | hu
            · exact (OR.out.1.1.lt q hq).1
            · exact (OR.out.2.1.blk hu q hq).1⟩
          obtain ⟨o6, b6, m6⟩ := ans_put MR.out hO (by omega) (Nat.le_refl _) (Nat.le_refl _) BR.out
          refine bodyPost_ret (results_mid2 Try.results30 _ _ w.heap.size _ _ (.bool true) rfl rfl m6.range Try.underlying27 rfl Try.sizeMd) rfl ?_
          exact ⟨_, rfl, o6, b6⟩

set_option maxRecDepth 100000 in
set_option maxHeartbeats 8000000 in
theorem specFree_no (f a : Int) (w : World) (h : f < 0 ∨ 4 < f ∨ (0 ≤ f ∧ f ≤ 4 ∧ a < 1) ∨ (0 ≤ f ∧ f ≤ 4 ∧ 3 < a)) :
    Calls Try.prog 30 #[.int .i64 f, .int .i64 a] w (MdAns2 w none) := by
  rcases h with h | h | ⟨h0, h1, h⟩ | ⟨h0, h1, h⟩
  all_goals
    go_enter Try.func30, Try.ntmps30
    go_wp2_with (go_at_call 81; (first | refine (inI_yes _ _ _ _ (by omega) (by omega)).mono ?_ | refine (inI_no _ _ _ _ (by omega)).mono ?_); rintro e w' ⟨rfl, rfl⟩)
    have M6 : Mcell (w.alloc (.cells #[.slice none 0 0, .slice none 0 0, .int .i64 0] 27)) w.heap.size (.slice none 0 0) (.slice none 0 0) 0 := Mcell.new rfl
    refine bodyPost_ret (results_mid2 Try.results30 _ _ w.heap.size _ _ (.bool false) rfl rfl M6.range Try.underlying27 rfl Try.sizeMd) rfl ?_
    exact ⟨_, rfl, Mo.none _ _ _, by go_grown⟩
set_option maxRecDepth 100000 in
set_option maxHeartbeats 8000000 in
theorem implFree_no (f a : Int) (w : World) (h : f < 0 ∨ 4 < f ∨ (0 ≤ f ∧ f ≤ 4 ∧ a < 1) ∨ (0 ≤ f ∧ f ≤ 4 ∧ 3 < a)) :
    Calls Try.prog 31 #[.int .i64 f, .int .i64 a] w (MdAns2 w none) := by
  rcases h with h | h | ⟨h0, h1, h⟩ | ⟨h0, h1, h⟩
  all_goals
    go_enter Try.func31, Try.ntmps31
    go_wp2
    have M6 : Mcell (w.alloc (.cells #[.slice none 0 0, .slice none 0 0, .int .i64 0] 27)) w.heap.size (.slice none 0 0) (.slice none 0 0) 0 := Mcell.new rfl
    refine bodyPost_ret (results_mid2 Try.results31 _ _ w.heap.size _ _ (.bool false) rfl rfl M6.range Try.underlying27 rfl Try.sizeMd) rfl ?_
    exact ⟨_, rfl, Mo.none _ _ _, by go_grown⟩

theorem pad_zeros (n : Nat) (h : n ≤ 16) : pad (List.replicate n 0) = List.replicate 16 0 := by
  unfold pad
  rw [List.length_replicate, List.replicate_append_replicate]
  congr 1; omega
theorem pad_zrow (a N k : Nat) (h : N ≤ 16) : pad ((List.replicate a (List.replicate N (0 : Int))).getD k []) = List.replicate 16 0 := by
  rw [List.getD_eq_getElem?_getD, List.getElem?_replicate]
  split
  · exact pad_zeros N h
  · rfl
theorem gL_zero (n c : Int) (a N : Nat) (f : List Int) (h : N ≤ 16) (x : Int) : gL n x f (List.replicate a (List.replicate N 0)) c = gL n x f [] c := by
  unfold gL
  rw [pad_zrow a N 0 h, pad_zrow a N 1 h, pad_zrow a N 2 h]
  rfl
theorem pad_set {l : List Int} {x : Int} (h : l.length < 16) : (pad l).set l.length x = pad (l ++ [x]) := by
  unfold pad
  rw [List.set_append_right _ _ (Nat.le_refl _), Nat.sub_self, show 16 - l.length = (16 - (l ++ [x]).length) + 1 by simp; omega, List.replicate_succ, List.set_cons_zero]
  simp
theorem gL_setf {n a c x : Int} {f : List Int} {rows : List (List Int)} {k : Nat} (hk : k = f.length) (h : f.length < 16) : (ints (gL n a f rows c)).set (2 + k) (.int .i64 x) = ints (gL n a (f ++ [x]) rows c) := by
  subst hk
  unfold gL
  rw [ints_set, List.set_append_right _ _ (by simp), show 2 + f.length - ([n, a] : List Int).length = f.length by simp, List.set_append_left _ _ (by rw [pad_len (by omega)]; exact h), pad_set h]
theorem free_fits (N a : Nat) (h : N ≤ 16) (ha : a ≤ 3) : fits (freeM N a) := by
  unfold freeM fits
  simp only [mrow_len, List.length_replicate]
  refine ⟨h, ha, fun k hk => ?_⟩
  rw [List.getD_eq_getElem?_getD, List.getElem?_replicate, if_pos hk]
  simp
set_option maxRecDepth 100000 in
set_option maxHeartbeats 8000000 in
theorem implFree_0 (a : Nat) (w : World) (ha : 1 ≤ a) (ha3 : a ≤ 3) :
    Calls Try.prog 31 #[.int .i64 0, .int .i64 a] w (MdAns2 w (some (freeM 1 a))) := by
  have ha' : (1 : Int) ≤ (a : Int) := by omega
  have ha3' : (a : Int) ≤ 3 := by omega
  have KM := Lib.hid (fun W => gridModel_any (freeM 1 a) (free_fits 1 a (by decide) ha3) W)
  simp only [freeM, mrow_len, List.length_replicate] at KM
  rw [gL_zero _ _ _ _ _ (by decide)] at KM
  have HLG : ∀ k, k ≤ 1 → (ints (gL 1 a (mrow 0 k) [] 0)).length = 67 := fun k hk => by rw [ints_len, gL_len ⟨by rw [mrow_len]; omega, fun _ => by simp⟩]
  have HST : ∀ k : Nat, k < 1 → (ints (gL 1 a (mrow 0 k) [] 0)).set (2 + k) (.int .i64 k) = ints (gL 1 a (mrow 0 (k + 1)) [] 0) := fun k hk => by
    rw [gL_setf (mrow_len 0 k).symm (by rw [mrow_len]; omega), mrow_succ]
  have HCE : ∀ k : Nat, k < 1 → ∀ (W : World) b, Cm W b 75 (ints (gL 1 a (mrow 0 k) [] 0)) → W.cell? ⟨b, 2 + k, none⟩ = some (.int .i64 0) := fun k hk W b h => by
    rw [h.gf ⟨by rw [mrow_len]; omega, fun _ => by simp⟩ (by omega), List.getD_eq_getElem?_getD, List.getElem?_eq_none (by rw [mrow_len]; exact Nat.le_refl _)]; rfl
  have HC0 : ∀ k (W : World) b, Cm W b 75 (ints (gL 1 a (mrow 0 k) [] 0)) → W.cell? ⟨b, 0, none⟩ = some (.int .i64 1) := fun k W b h => h.g0
  have HLO := fun v (hv : v ∈ ints (gL 1 a (mrow 0 0) [] 0)) => ints_one hv
  have HLG := Lib.hid HLG
  have HST := Lib.hid HST
  have HCE := Lib.hid HCE
  have HC0 := Lib.hid HC0
  have HLO := Lib.hid HLO
  have HBG := Lib.hid (fun W => Try.buildGridB W 1 a)
  rw [show ([] : List Int) = mrow 0 0 from rfl] at HBG
  go_enter Try.func31, Try.ntmps31
  go_wp2_with
    (first
      | (refine wpList_buildM rfl 75 _ rfl #[(0, .int .i64 1), (1, .int .i64 a)] (by simp only [List.map_toArray, List.map_cons, List.map_nil]; rfl) (ints (gL 1 a (mrow 0 0) [] 0)) (HBG.out _) ?_)
      | (refine wpList_allocM rfl 75 rfl (ints (gL 0 0 [] [] 0)) Try.allocGrid ?_
         intro w2 hc2 hb2 hs2
         have CC := Lib.hid hc2
         have BB : Hid (Below w.heap.size w w2) := Lib.hid (Below.trans (by go_grown) (hb2.mono (by simp)))
         have MM := Lib.hid (Mcell.below (b := w.heap.size) (Mcell.new rfl) hb2)
         clear hc2 hb2 hs2)
      | (refine wpList_storeM rfl 75 (.tmp 6) (.tmp 26) rfl _ 0 rfl (ints (gL 1 a (mrow 0 0) [] 0)) rfl 75 (ints (gL 0 0 [] [] 0)) CC.out (by rw [HLG.out 0 (Nat.zero_le _)]; exact Nat.le_refl _) (by rw [HLG.out 0 (Nat.zero_le _)]; exact Try.sizeGrid) HLO.out ?_
         intro w3 hc3 ha3
         rw [lay'_all (by rw [HLG.out 0 (Nat.zero_le _)]; rfl)] at hc3
         rw [show (w.alloc (.cells #[.slice none 0 0, .slice none 0 0, .int .i64 0] 27)).heap.size = w.heap.size + 1 by simp] at hc3 ha3
         have CC := Lib.hid hc3
         have BB : Hid (Below w.heap.size w w3) := Lib.hid (BB.out.trans (ha3.below (by omega)))
         have MM := Lib.hid (MM.out.of_block (ha3.block _ (by omega)))
         have c0 := HC0.out _ _ _ hc3
         clear hc3 ha3))
  clear c0
  go_loopw [29] (fun iv wr => ∃ k : Nat, k ≤ 1 ∧ iv = .int .i64 k ∧ Hid (Cm wr (w.heap.size + 1) 75 (ints (gL 1 a (mrow 0 k) [] 0))) ∧ Hid (Mcell wr w.heap.size (.slice none 0 0) (.slice none 0 0) 0) ∧ Hid (Below w.heap.size w wr)) (fun iv _ => 1 - (intOf iv).toNat)
  case atStart => exact ⟨0, Nat.zero_le _, rfl, CC, MM, BB⟩
  case round =>
    clear CC MM BB
    obtain ⟨k, hk, rfl, CC, MM, BB⟩ := hrel
    by_cases hlt : k < 1
    · have hlt' : (k : Int) < 1 := by omega
      have h16 : (k : Int) < 16 := by omega
      have k0 : (0 : Int) ≤ (k : Int) := Int.natCast_nonneg _
      have ck := HCE.out k hlt _ _ CC.out
      have fk := CC.out.frozen (2 + k)
      go_wp2
      clear ck fk
      go_roundw
      case rel => exact ⟨k + 1, by omega, by go_num, Lib.hid (by rw [← HST.out k hlt]; exact CC.out.set (2 + k) _), Lib.hid (MM.out.other (by omega) _ _), Lib.hid (BB.out.setCell (by show _ ≤ w.heap.size + 1; omega) _)⟩
      case measure => simp [intOf]; omega
    · have HKN : Hid (k = 1) := Lib.hid (by omega)
      go_wp2_with (refine wpList_loadM rfl 75 _ rfl (w.heap.size + 1) 0 rfl 75 (ints (gL 1 a (mrow 0 k) [] 0)) (ints (gL 1 a (mrow 0 k) [] 0)) CC.out (fun j _ => by rw [Nat.zero_add]) _ Try.underlying75 rfl (by rw [HLG.out k hk]; exact Try.sizeGrid) ?_)
      rw [show (ints (gL 1 a (mrow 0 k) [] 0)) = ints (gL 1 a (mrow 0 1) [] 0) by rw [HKN.out]]
      refine (KM.out _).mono ?_
      rintro e w5 ⟨v5, rfl, ho5, hb5⟩
      have M5 := Lib.hid (MM.out.below hb5)
      have B5 := Lib.hid (BB.out.trans (hb5.mono BB.out.size))
      have O5 := Lib.hid ho5
      have hz2 : w.heap.size < wr.heap.size := MM.out.lt
      obtain ⟨qa, qc, pa, pc, e3⟩ := ho5.read.form
      simp only [mrow_len, List.length_replicate] at e3
      subst e3
      clear ho5 hb5
      obtain ⟨mc0, mc1, mc2, mc3, mc4, mc5⟩ := M5.out
      go_wp2
      clear mc0 mc1 mc2 mc3 mc4 mc5
      obtain ⟨o6, b6, m6⟩ := ans_put (m := freeM 1 a) M5.out O5.out hz2 (Nat.le_refl _) (Nat.le_refl _) B5.out
      refine bodyPost_ret (results_mid2 Try.results31 _ _ w.heap.size _ _ (.bool true) rfl rfl m6.range Try.underlying27 rfl Try.sizeMd) rfl ?_
      exact ⟨_, rfl, o6, b6⟩
set_option maxRecDepth 100000 in
set_option maxHeartbeats 8000000 in
theorem implFree_1 (a : Nat) (w : World) (ha : 1 ≤ a) (ha3 : a ≤ 3) :
    Calls Try.prog 31 #[.int .i64 1, .int .i64 a] w (MdAns2 w (some (freeM 2 a))) := by
  have ha' : (1 : Int) ≤ (a : Int) := by omega
  have ha3' : (a : Int) ≤ 3 := by omega
  have KM := Lib.hid (fun W => gridModel_any (freeM 2 a) (free_fits 2 a (by decide) ha3) W)
  simp only [freeM, mrow_len, List.length_replicate] at KM
  rw [gL_zero _ _ _ _ _ (by decide)] at KM
  have HLG : ∀ k, k ≤ 2 → (ints (gL 2 a (mrow 0 k) [] 0)).length = 67 := fun k hk => by rw [ints_len, gL_len ⟨by rw [mrow_len]; omega, fun _ => by simp⟩]
  have HST : ∀ k : Nat, k < 2 → (ints (gL 2 a (mrow 0 k) [] 0)).set (2 + k) (.int .i64 k) = ints (gL 2 a (mrow 0 (k + 1)) [] 0) := fun k hk => by
    rw [gL_setf (mrow_len 0 k).symm (by rw [mrow_len]; omega), mrow_succ]
  have HCE : ∀ k : Nat, k < 2 → ∀ (W : World) b, Cm W b 75 (ints (gL 2 a (mrow 0 k) [] 0)) → W.cell? ⟨b, 2 + k, none⟩ = some (.int .i64 0) := fun k hk W b h => by
    rw [h.gf ⟨by rw [mrow_len]; omega, fun _ => by simp⟩ (by omega), List.getD_eq_getElem?_getD, List.getElem?_eq_none (by rw [mrow_len]; exact Nat.le_refl _)]; rfl
  have HC0 : ∀ k (W : World) b, Cm W b 75 (ints (gL 2 a (mrow 0 k) [] 0)) → W.cell? ⟨b, 0, none⟩ = some (.int .i64 2) := fun k W b h => h.g0
  have HLO := fun v (hv : v ∈ ints (gL 2 a (mrow 0 0) [] 0)) => ints_one hv
  have HLG := Lib.hid HLG
  have HST := Lib.hid HST
  have HCE := Lib.hid HCE
  have HC0 := Lib.hid HC0
  have HLO := Lib.hid HLO
  have HBG := Lib.hid (fun W => Try.buildGridB W 2 a)
  rw [show ([] : List Int) = mrow 0 0 from rfl] at HBG
  go_enter Try.func31, Try.ntmps31
  go_wp2_with
    (first
      | (refine wpList_buildM rfl 75 _ rfl #[(0, .int .i64 2), (1, .int .i64 a)] (by simp only [List.map_toArray, List.map_cons, List.map_nil]; rfl) (ints (gL 2 a (mrow 0 0) [] 0)) (HBG.out _) ?_)
      | (refine wpList_allocM rfl 75 rfl (ints (gL 0 0 [] [] 0)) Try.allocGrid ?_
         intro w2 hc2 hb2 hs2
         have CC := Lib.hid hc2
         have BB : Hid (Below w.heap.size w w2) := Lib.hid (Below.trans (by go_grown) (hb2.mono (by simp)))
         have MM := Lib.hid (Mcell.below (b := w.heap.size) (Mcell.new rfl) hb2)
         clear hc2 hb2 hs2)
      | (refine wpList_storeM rfl 75 (.tmp 6) (.tmp 26) rfl _ 0 rfl (ints (gL 2 a (mrow 0 0) [] 0)) rfl 75 (ints (gL 0 0 [] [] 0)) CC.out (by rw [HLG.out 0 (Nat.zero_le _)]; exact Nat.le_refl _) (by rw [HLG.out 0 (Nat.zero_le _)]; exact Try.sizeGrid) HLO.out ?_
         intro w3 hc3 ha3
         rw [lay'_all (by rw [HLG.out 0 (Nat.zero_le _)]; rfl)] at hc3
         rw [show (w.alloc (.cells #[.slice none 0 0, .slice none 0 0, .int .i64 0] 27)).heap.size = w.heap.size + 1 by simp] at hc3 ha3
         have CC := Lib.hid hc3
         have BB : Hid (Below w.heap.size w w3) := Lib.hid (BB.out.trans (ha3.below (by omega)))
         have MM := Lib.hid (MM.out.of_block (ha3.block _ (by omega)))
         have c0 := HC0.out _ _ _ hc3
         clear hc3 ha3))
  clear c0
  go_loopw [29] (fun iv wr => ∃ k : Nat, k ≤ 2 ∧ iv = .int .i64 k ∧ Hid (Cm wr (w.heap.size + 1) 75 (ints (gL 2 a (mrow 0 k) [] 0))) ∧ Hid (Mcell wr w.heap.size (.slice none 0 0) (.slice none 0 0) 0) ∧ Hid (Below w.heap.size w wr)) (fun iv _ => 2 - (intOf iv).toNat)
  case atStart => exact ⟨0, Nat.zero_le _, rfl, CC, MM, BB⟩
  case round =>
    clear CC MM BB
    obtain ⟨k, hk, rfl, CC, MM, BB⟩ := hrel
    by_cases hlt : k < 2
    · have hlt' : (k : Int) < 2 := by omega
      have h16 : (k : Int) < 16 := by omega
      have k0 : (0 : Int) ≤ (k : Int) := Int.natCast_nonneg _
      have ck := HCE.out k hlt _ _ CC.out
      have fk := CC.out.frozen (2 + k)
      go_wp2
      clear ck fk
      go_roundw
      case rel => exact ⟨k + 1, by omega, by go_num, Lib.hid (by rw [← HST.out k hlt]; exact CC.out.set (2 + k) _), Lib.hid (MM.out.other (by omega) _ _), Lib.hid (BB.out.setCell (by show _ ≤ w.heap.size + 1; omega) _)⟩
      case measure => simp [intOf]; omega
    · have HKN : Hid (k = 2) := Lib.hid (by omega)
      go_wp2_with (refine wpList_loadM rfl 75 _ rfl (w.heap.size + 1) 0 rfl 75 (ints (gL 2 a (mrow 0 k) [] 0)) (ints (gL 2 a (mrow 0 k) [] 0)) CC.out (fun j _ => by rw [Nat.zero_add]) _ Try.underlying75 rfl (by rw [HLG.out k hk]; exact Try.sizeGrid) ?_)
      rw [show (ints (gL 2 a (mrow 0 k) [] 0)) = ints (gL 2 a (mrow 0 2) [] 0) by rw [HKN.out]]
      refine (KM.out _).mono ?_
      rintro e w5 ⟨v5, rfl, ho5, hb5⟩
      have M5 := Lib.hid (MM.out.below hb5)
      have B5 := Lib.hid (BB.out.trans (hb5.mono BB.out.size))
      have O5 := Lib.hid ho5
      have hz2 : w.heap.size < wr.heap.size := MM.out.lt
      obtain ⟨qa, qc, pa, pc, e3⟩ := ho5.read.form
      simp only [mrow_len, List.length_replicate] at e3
      subst e3
      clear ho5 hb5
      obtain ⟨mc0, mc1, mc2, mc3, mc4, mc5⟩ := M5.out
      go_wp2
      clear mc0 mc1 mc2 mc3 mc4 mc5
      obtain ⟨o6, b6, m6⟩ := ans_put (m := freeM 2 a) M5.out O5.out hz2 (Nat.le_refl _) (Nat.le_refl _) B5.out
      refine bodyPost_ret (results_mid2 Try.results31 _ _ w.heap.size _ _ (.bool true) rfl rfl m6.range Try.underlying27 rfl Try.sizeMd) rfl ?_
      exact ⟨_, rfl, o6, b6⟩
set_option maxRecDepth 100000 in
set_option maxHeartbeats 8000000 in
theorem implFree_2 (a : Nat) (w : World) (ha : 1 ≤ a) (ha3 : a ≤ 3) :
    Calls Try.prog 31 #[.int .i64 2, .int .i64 a] w (MdAns2 w (some (freeM 4 a))) := by
  have ha' : (1 : Int) ≤ (a : Int) := by omega
  have ha3' : (a : Int) ≤ 3 := by omega
  have KM := Lib.hid (fun W => gridModel_any (freeM 4 a) (free_fits 4 a (by decide) ha3) W)
  simp only [freeM, mrow_len, List.length_replicate] at KM
  rw [gL_zero _ _ _ _ _ (by decide)] at KM
  have HLG : ∀ k, k ≤ 4 → (ints (gL 4 a (mrow 0 k) [] 0)).length = 67 := fun k hk => by rw [ints_len, gL_len ⟨by rw [mrow_len]; omega, fun _ => by simp⟩]
  have HST : ∀ k : Nat, k < 4 → (ints (gL 4 a (mrow 0 k) [] 0)).set (2 + k) (.int .i64 k) = ints (gL 4 a (mrow 0 (k + 1)) [] 0) := fun k hk => by
    rw [gL_setf (mrow_len 0 k).symm (by rw [mrow_len]; omega), mrow_succ]
  have HCE : ∀ k : Nat, k < 4 → ∀ (W : World) b, Cm W b 75 (ints (gL 4 a (mrow 0 k) [] 0)) → W.cell? ⟨b, 2 + k, none⟩ = some (.int .i64 0) := fun k hk W b h => by
    rw [h.gf ⟨by rw [mrow_len]; omega, fun _ => by simp⟩ (by omega), List.getD_eq_getElem?_getD, List.getElem?_eq_none (by rw [mrow_len]; exact Nat.le_refl _)]; rfl
  have HC0 : ∀ k (W : World) b, Cm W b 75 (ints (gL 4 a (mrow 0 k) [] 0)) → W.cell? ⟨b, 0, none⟩ = some (.int .i64 4) := fun k W b h => h.g0
  have HLO := fun v (hv : v ∈ ints (gL 4 a (mrow 0 0) [] 0)) => ints_one hv
  have HLG := Lib.hid HLG
  have HST := Lib.hid HST
  have HCE := Lib.hid HCE
  have HC0 := Lib.hid HC0
  have HLO := Lib.hid HLO
  have HBG := Lib.hid (fun W => Try.buildGridB W 4 a)
  rw [show ([] : List Int) = mrow 0 0 from rfl] at HBG
  go_enter Try.func31, Try.ntmps31
  go_wp2_with
    (first
      | (refine wpList_buildM rfl 75 _ rfl #[(0, .int .i64 4), (1, .int .i64 a)] (by simp only [List.map_toArray, List.map_cons, List.map_nil]; rfl) (ints (gL 4 a (mrow 0 0) [] 0)) (HBG.out _) ?_)
      | (refine wpList_allocM rfl 75 rfl (ints (gL 0 0 [] [] 0)) Try.allocGrid ?_
         intro w2 hc2 hb2 hs2
         have CC := Lib.hid hc2
         have BB : Hid (Below w.heap.size w w2) := Lib.hid (Below.trans (by go_grown) (hb2.mono (by simp)))
         have MM := Lib.hid (Mcell.below (b := w.heap.size) (Mcell.new rfl) hb2)
         clear hc2 hb2 hs2)
      | (refine wpList_storeM rfl 75 (.tmp 6) (.tmp 26) rfl _ 0 rfl (ints (gL 4 a (mrow 0 0) [] 0)) rfl 75 (ints (gL 0 0 [] [] 0)) CC.out (by rw [HLG.out 0 (Nat.zero_le _)]; exact Nat.le_refl _) (by rw [HLG.out 0 (Nat.zero_le _)]; exact Try.sizeGrid) HLO.out ?_
         intro w3 hc3 ha3
         rw [lay'_all (by rw [HLG.out 0 (Nat.zero_le _)]; rfl)] at hc3
         rw [show (w.alloc (.cells #[.slice none 0 0, .slice none 0 0, .int .i64 0] 27)).heap.size = w.heap.size + 1 by simp] at hc3 ha3
         have CC := Lib.hid hc3
         have BB : Hid (Below w.heap.size w w3) := Lib.hid (BB.out.trans (ha3.below (by omega)))
         have MM := Lib.hid (MM.out.of_block (ha3.block _ (by omega)))
         have c0 := HC0.out _ _ _ hc3
         clear hc3 ha3))
  clear c0
  go_loopw [29] (fun iv wr => ∃ k : Nat, k ≤ 4 ∧ iv = .int .i64 k ∧ Hid (Cm wr (w.heap.size + 1) 75 (ints (gL 4 a (mrow 0 k) [] 0))) ∧ Hid (Mcell wr w.heap.size (.slice none 0 0) (.slice none 0 0) 0) ∧ Hid (Below w.heap.size w wr)) (fun iv _ => 4 - (intOf iv).toNat)
  case atStart => exact ⟨0, Nat.zero_le _, rfl, CC, MM, BB⟩
  case round =>
    clear CC MM BB
    obtain ⟨k, hk, rfl, CC, MM, BB⟩ := hrel
    by_cases hlt : k < 4
    · have hlt' : (k : Int) < 4 := by omega
      have h16 : (k : Int) < 16 := by omega
      have k0 : (0 : Int) ≤ (k : Int) := Int.natCast_nonneg _
      have ck := HCE.out k hlt _ _ CC.out
      have fk := CC.out.frozen (2 + k)
      go_wp2
      clear ck fk
      go_roundw
      case rel => exact ⟨k + 1, by omega, by go_num, Lib.hid (by rw [← HST.out k hlt]; exact CC.out.set (2 + k) _), Lib.hid (MM.out.other (by omega) _ _), Lib.hid (BB.out.setCell (by show _ ≤ w.heap.size + 1; omega) _)⟩
      case measure => simp [intOf]; omega
    · have HKN : Hid (k = 4) := Lib.hid (by omega)
      go_wp2_with (refine wpList_loadM rfl 75 _ rfl (w.heap.size + 1) 0 rfl 75 (ints (gL 4 a (mrow 0 k) [] 0)) (ints (gL 4 a (mrow 0 k) [] 0)) CC.out (fun j _ => by rw [Nat.zero_add]) _ Try.underlying75 rfl (by rw [HLG.out k hk]; exact Try.sizeGrid) ?_)
      rw [show (ints (gL 4 a (mrow 0 k) [] 0)) = ints (gL 4 a (mrow 0 4) [] 0) by rw [HKN.out]]
      refine (KM.out _).mono ?_
      rintro e w5 ⟨v5, rfl, ho5, hb5⟩
      have M5 := Lib.hid (MM.out.below hb5)
      have B5 := Lib.hid (BB.out.trans (hb5.mono BB.out.size))
      have O5 := Lib.hid ho5
      have hz2 : w.heap.size < wr.heap.size := MM.out.lt
      obtain ⟨qa, qc, pa, pc, e3⟩ := ho5.read.form
      simp only [mrow_len, List.length_replicate] at e3
      subst e3
      clear ho5 hb5
      obtain ⟨mc0, mc1, mc2, mc3, mc4, mc5⟩ := M5.out
      go_wp2
      clear mc0 mc1 mc2 mc3 mc4 mc5
      obtain ⟨o6, b6, m6⟩ := ans_put (m := freeM 4 a) M5.out O5.out hz2 (Nat.le_refl _) (Nat.le_refl _) B5.out
      refine bodyPost_ret (results_mid2 Try.results31 _ _ w.heap.size _ _ (.bool true) rfl rfl m6.range Try.underlying27 rfl Try.sizeMd) rfl ?_
      exact ⟨_, rfl, o6, b6⟩
set_option maxRecDepth 100000 in
set_option maxHeartbeats 8000000 in
theorem implFree_3 (a : Nat) (w : World) (ha : 1 ≤ a) (ha3 : a ≤ 3) :
    Calls Try.prog 31 #[.int .i64 3, .int .i64 a] w (MdAns2 w (some (freeM 8 a))) := by
  have ha' : (1 : Int) ≤ (a : Int) := by omega
  have ha3' : (a : Int) ≤ 3 := by omega
  have KM := Lib.hid (fun W => gridModel_any (freeM 8 a) (free_fits 8 a (by decide) ha3) W)
  simp only [freeM, mrow_len, List.length_replicate] at KM
  rw [gL_zero _ _ _ _ _ (by decide)] at KM
  have HLG : ∀ k, k ≤ 8 → (ints (gL 8 a (mrow 0 k) [] 0)).length = 67 := fun k hk => by rw [ints_len, gL_len ⟨by rw [mrow_len]; omega, fun _ => by simp⟩]
  have HST : ∀ k : Nat, k < 8 → (ints (gL 8 a (mrow 0 k) [] 0)).set (2 + k) (.int .i64 k) = ints (gL 8 a (mrow 0 (k + 1)) [] 0) := fun k hk => by
    rw [gL_setf (mrow_len 0 k).symm (by rw [mrow_len]; omega), mrow_succ]
  have HCE : ∀ k : Nat, k < 8 → ∀ (W : World) b, Cm W b 75 (ints (gL 8 a (mrow 0 k) [] 0)) → W.cell? ⟨b, 2 + k, none⟩ = some (.int .i64 0) := fun k hk W b h => by
    rw [h.gf ⟨by rw [mrow_len]; omega, fun _ => by simp⟩ (by omega), List.getD_eq_getElem?_getD, List.getElem?_eq_none (by rw [mrow_len]; exact Nat.le_refl _)]; rfl
  have HC0 : ∀ k (W : World) b, Cm W b 75 (ints (gL 8 a (mrow 0 k) [] 0)) → W.cell? ⟨b, 0, none⟩ = some (.int .i64 8) := fun k W b h => h.g0
  have HLO := fun v (hv : v ∈ ints (gL 8 a (mrow 0 0) [] 0)) => ints_one hv
  have HLG := Lib.hid HLG
  have HST := Lib.hid HST
  have HCE := Lib.hid HCE
  have HC0 := Lib.hid HC0
  have HLO := Lib.hid HLO
  have HBG := Lib.hid (fun W => Try.buildGridB W 8 a)
  rw [show ([] : List Int) = mrow 0 0 from rfl] at HBG
  go_enter Try.func31, Try.ntmps31
  go_wp2_with
    (first
      | (refine wpList_buildM rfl 75 _ rfl #[(0, .int .i64 8), (1, .int .i64 a)] (by simp only [List.map_toArray, List.map_cons, List.map_nil]; rfl) (ints (gL 8 a (mrow 0 0) [] 0)) (HBG.out _) ?_)
      | (refine wpList_allocM rfl 75 rfl (ints (gL 0 0 [] [] 0)) Try.allocGrid ?_
         intro w2 hc2 hb2 hs2
         have CC := Lib.hid hc2
         have BB : Hid (Below w.heap.size w w2) := Lib.hid (Below.trans (by go_grown) (hb2.mono (by simp)))
         have MM := Lib.hid (Mcell.below (b := w.heap.size) (Mcell.new rfl) hb2)
         clear hc2 hb2 hs2)
      | (refine wpList_storeM rfl 75 (.tmp 6) (.tmp 26) rfl _ 0 rfl (ints (gL 8 a (mrow 0 0) [] 0)) rfl 75 (ints (gL 0 0 [] [] 0)) CC.out (by rw [HLG.out 0 (Nat.zero_le _)]; exact Nat.le_refl _) (by rw [HLG.out 0 (Nat.zero_le _)]; exact Try.sizeGrid) HLO.out ?_
         intro w3 hc3 ha3
         rw [lay'_all (by rw [HLG.out 0 (Nat.zero_le _)]; rfl)] at hc3
         rw [show (w.alloc (.cells #[.slice none 0 0, .slice none 0 0, .int .i64 0] 27)).heap.size = w.heap.size + 1 by simp] at hc3 ha3
         have CC := Lib.hid hc3
         have BB : Hid (Below w.heap.size w w3) := Lib.hid (BB.out.trans (ha3.below (by omega)))
         have MM := Lib.hid (MM.out.of_block (ha3.block _ (by omega)))
         have c0 := HC0.out _ _ _ hc3
         clear hc3 ha3))
  clear c0
  go_loopw [29] (fun iv wr => ∃ k : Nat, k ≤ 8 ∧ iv = .int .i64 k ∧ Hid (Cm wr (w.heap.size + 1) 75 (ints (gL 8 a (mrow 0 k) [] 0))) ∧ Hid (Mcell wr w.heap.size (.slice none 0 0) (.slice none 0 0) 0) ∧ Hid (Below w.heap.size w wr)) (fun iv _ => 8 - (intOf iv).toNat)
  case atStart => exact ⟨0, Nat.zero_le _, rfl, CC, MM, BB⟩
  case round =>
    clear CC MM BB
    obtain ⟨k, hk, rfl, CC, MM, BB⟩ := hrel
    by_cases hlt : k < 8
    · have hlt' : (k : Int) < 8 := by omega
      have h16 : (k : Int) < 16 := by omega
      have k0 : (0 : Int) ≤ (k : Int) := Int.natCast_nonneg _
      have ck := HCE.out k hlt _ _ CC.out
      have fk := CC.out.frozen (2 + k)
      go_wp2
      clear ck fk
      go_roundw
      case rel => exact ⟨k + 1, by omega, by go_num, Lib.hid (by rw [← HST.out k hlt]; exact CC.out.set (2 + k) _), Lib.hid (MM.out.other (by omega) _ _), Lib.hid (BB.out.setCell (by show _ ≤ w.heap.size + 1; omega) _)⟩
      case measure => simp [intOf]; omega
    · have HKN : Hid (k = 8) := Lib.hid (by omega)
      go_wp2_with (refine wpList_loadM rfl 75 _ rfl (w.heap.size + 1) 0 rfl 75 (ints (gL 8 a (mrow 0 k) [] 0)) (ints (gL 8 a (mrow 0 k) [] 0)) CC.out (fun j _ => by rw [Nat.zero_add]) _ Try.underlying75 rfl (by rw [HLG.out k hk]; exact Try.sizeGrid) ?_)
      rw [show (ints (gL 8 a (mrow 0 k) [] 0)) = ints (gL 8 a (mrow 0 8) [] 0) by rw [HKN.out]]
      refine (KM.out _).mono ?_
      rintro e w5 ⟨v5, rfl, ho5, hb5⟩
      have M5 := Lib.hid (MM.out.below hb5)
      have B5 := Lib.hid (BB.out.trans (hb5.mono BB.out.size))
      have O5 := Lib.hid ho5
      have hz2 : w.heap.size < wr.heap.size := MM.out.lt
      obtain ⟨qa, qc, pa, pc, e3⟩ := ho5.read.form
      simp only [mrow_len, List.length_replicate] at e3
      subst e3
      clear ho5 hb5
      obtain ⟨mc0, mc1, mc2, mc3, mc4, mc5⟩ := M5.out
      go_wp2
      clear mc0 mc1 mc2 mc3 mc4 mc5
      obtain ⟨o6, b6, m6⟩ := ans_put (m := freeM 8 a) M5.out O5.out hz2 (Nat.le_refl _) (Nat.le_refl _) B5.out
      refine bodyPost_ret (results_mid2 Try.results31 _ _ w.heap.size _ _ (.bool true) rfl rfl m6.range Try.underlying27 rfl Try.sizeMd) rfl ?_
      exact ⟨_, rfl, o6, b6⟩
set_option maxRecDepth 100000 in
set_option maxHeartbeats 8000000 in
theorem implFree_4 (a : Nat) (w : World) (ha : 1 ≤ a) (ha3 : a ≤ 3) :
    Calls Try.prog 31 #[.int .i64 4, .int .i64 a] w (MdAns2 w (some (freeM 16 a))) := by
  have ha' : (1 : Int) ≤ (a : Int) := by omega
  have ha3' : (a : Int) ≤ 3 := by omega
  have KM := Lib.hid (fun W => gridModel_any (freeM 16 a) (free_fits 16 a (by decide) ha3) W)
  simp only [freeM, mrow_len, List.length_replicate] at KM
  rw [gL_zero _ _ _ _ _ (by decide)] at KM
  have HLG : ∀ k, k ≤ 16 → (ints (gL 16 a (mrow 0 k) [] 0)).length = 67 := fun k hk => by rw [ints_len, gL_len ⟨by rw [mrow_len]; omega, fun _ => by simp⟩]
  have HST : ∀ k : Nat, k < 16 → (ints (gL 16 a (mrow 0 k) [] 0)).set (2 + k) (.int .i64 k) = ints (gL 16 a (mrow 0 (k + 1)) [] 0) := fun k hk => by
    rw [gL_setf (mrow_len 0 k).symm (by rw [mrow_len]; omega), mrow_succ]
  have HCE : ∀ k : Nat, k < 16 → ∀ (W : World) b, Cm W b 75 (ints (gL 16 a (mrow 0 k) [] 0)) → W.cell? ⟨b, 2 + k, none⟩ = some (.int .i64 0) := fun k hk W b h => by
    rw [h.gf ⟨by rw [mrow_len]; omega, fun _ => by simp⟩ (by omega), List.getD_eq_getElem?_getD, List.getElem?_eq_none (by rw [mrow_len]; exact Nat.le_refl _)]; rfl
  have HC0 : ∀ k (W : World) b, Cm W b 75 (ints (gL 16 a (mrow 0 k) [] 0)) → W.cell? ⟨b, 0, none⟩ = some (.int .i64 16) := fun k W b h => h.g0
  have HLO := fun v (hv : v ∈ ints (gL 16 a (mrow 0 0) [] 0)) => ints_one hv
  have HLG := Lib.hid HLG
  have HST := Lib.hid HST
  have HCE := Lib.hid HCE
  have HC0 := Lib.hid HC0
  have HLO := Lib.hid HLO
  have HBG := Lib.hid (fun W => Try.buildGridB W 16 a)
  rw [show ([] : List Int) = mrow 0 0 from rfl] at HBG
  go_enter Try.func31, Try.ntmps31
  go_wp2_with
    (first
      | (refine wpList_buildM rfl 75 _ rfl #[(0, .int .i64 16), (1, .int .i64 a)] (by simp only [List.map_toArray, List.map_cons, List.map_nil]; rfl) (ints (gL 16 a (mrow 0 0) [] 0)) (HBG.out _) ?_)
      | (refine wpList_allocM rfl 75 rfl (ints (gL 0 0 [] [] 0)) Try.allocGrid ?_
         intro w2 hc2 hb2 hs2
         have CC := Lib.hid hc2
         have BB : Hid (Below w.heap.size w w2) := Lib.hid (Below.trans (by go_grown) (hb2.mono (by simp)))
         have MM := Lib.hid (Mcell.below (b := w.heap.size) (Mcell.new rfl) hb2)
         clear hc2 hb2 hs2)
      | (refine wpList_storeM rfl 75 (.tmp 6) (.tmp 26) rfl _ 0 rfl (ints (gL 16 a (mrow 0 0) [] 0)) rfl 75 (ints (gL 0 0 [] [] 0)) CC.out (by rw [HLG.out 0 (Nat.zero_le _)]; exact Nat.le_refl _) (by rw [HLG.out 0 (Nat.zero_le _)]; exact Try.sizeGrid) HLO.out ?_
         intro w3 hc3 ha3
         rw [lay'_all (by rw [HLG.out 0 (Nat.zero_le _)]; rfl)] at hc3
         rw [show (w.alloc (.cells #[.slice none 0 0, .slice none 0 0, .int .i64 0] 27)).heap.size = w.heap.size + 1 by simp] at hc3 ha3
         have CC := Lib.hid hc3
         have BB : Hid (Below w.heap.size w w3) := Lib.hid (BB.out.trans (ha3.below (by omega)))
         have MM := Lib.hid (MM.out.of_block (ha3.block _ (by omega)))
         have c0 := HC0.out _ _ _ hc3
         clear hc3 ha3))
  clear c0
  go_loopw [29] (fun iv wr => ∃ k : Nat, k ≤ 16 ∧ iv = .int .i64 k ∧ Hid (Cm wr (w.heap.size + 1) 75 (ints (gL 16 a (mrow 0 k) [] 0))) ∧ Hid (Mcell wr w.heap.size (.slice none 0 0) (.slice none 0 0) 0) ∧ Hid (Below w.heap.size w wr)) (fun iv _ => 16 - (intOf iv).toNat)
  case atStart => exact ⟨0, Nat.zero_le _, rfl, CC, MM, BB⟩
  case round =>
    clear CC MM BB
    obtain ⟨k, hk, rfl, CC, MM, BB⟩ := hrel
    by_cases hlt : k < 16
    · have hlt' : (k : Int) < 16 := by omega
      have h16 : (k : Int) < 16 := by omega
      have k0 : (0 : Int) ≤ (k : Int) := Int.natCast_nonneg _
      have ck := HCE.out k hlt _ _ CC.out
      have fk := CC.out.frozen (2 + k)
      go_wp2
      clear ck fk
      go_roundw
      case rel => exact ⟨k + 1, by omega, by go_num, Lib.hid (by rw [← HST.out k hlt]; exact CC.out.set (2 + k) _), Lib.hid (MM.out.other (by omega) _ _), Lib.hid (BB.out.setCell (by show _ ≤ w.heap.size + 1; omega) _)⟩
      case measure => simp [intOf]; omega
    · have HKN : Hid (k = 16) := Lib.hid (by omega)
      go_wp2_with (refine wpList_loadM rfl 75 _ rfl (w.heap.size + 1) 0 rfl 75 (ints (gL 16 a (mrow 0 k) [] 0)) (ints (gL 16 a (mrow 0 k) [] 0)) CC.out (fun j _ => by rw [Nat.zero_add]) _ Try.underlying75 rfl (by rw [HLG.out k hk]; exact Try.sizeGrid) ?_)
      rw [show (ints (gL 16 a (mrow 0 k) [] 0)) = ints (gL 16 a (mrow 0 16) [] 0) by rw [HKN.out]]
      refine (KM.out _).mono ?_
      rintro e w5 ⟨v5, rfl, ho5, hb5⟩
      have M5 := Lib.hid (MM.out.below hb5)
      have B5 := Lib.hid (BB.out.trans (hb5.mono BB.out.size))
      have O5 := Lib.hid ho5
      have hz2 : w.heap.size < wr.heap.size := MM.out.lt
      obtain ⟨qa, qc, pa, pc, e3⟩ := ho5.read.form
      simp only [mrow_len, List.length_replicate] at e3
      subst e3
      clear ho5 hb5
      obtain ⟨mc0, mc1, mc2, mc3, mc4, mc5⟩ := M5.out
      go_wp2
      clear mc0 mc1 mc2 mc3 mc4 mc5
      obtain ⟨o6, b6, m6⟩ := ans_put (m := freeM 16 a) M5.out O5.out hz2 (Nat.le_refl _) (Nat.le_refl _) B5.out
      refine bodyPost_ret (results_mid2 Try.results31 _ _ w.heap.size _ _ (.bool true) rfl rfl m6.range Try.underlying27 rfl Try.sizeMd) rfl ?_
      exact ⟨_, rfl, o6, b6⟩

theorem freeR_no {f a : Int} (h : f < 0 ∨ 4 < f ∨ (0 ≤ f ∧ f ≤ 4 ∧ a < 1) ∨ (0 ≤ f ∧ f ≤ 4 ∧ 3 < a)) : freeR f a = none := by
  unfold freeR; rw [if_neg (by omega)]
theorem freeR_yes {f : Int} {N a : Nat} (h : f = 0 ∧ N = 1 ∨ f = 1 ∧ N = 2 ∨ f = 2 ∧ N = 4 ∨ f = 3 ∧ N = 8 ∨ f = 4 ∧ N = 16) (ha : 1 ≤ a) (ha3 : a ≤ 3) : freeR f a = some (freeM N a) := by
  unfold freeR
  rw [if_pos (by omega)]
  rcases h with ⟨rfl, rfl⟩ | ⟨rfl, rfl⟩ | ⟨rfl, rfl⟩ | ⟨rfl, rfl⟩ | ⟨rfl, rfl⟩ <;> rfl
theorem free_cases (f a : Int) : (f < 0 ∨ 4 < f ∨ (0 ≤ f ∧ f ≤ 4 ∧ a < 1) ∨ (0 ≤ f ∧ f ≤ 4 ∧ 3 < a)) ∨ ∃ n : Nat, a = n ∧ 1 ≤ n ∧ n ≤ 3 ∧ (f = 0 ∨ f = 1 ∨ f = 2 ∨ f = 3 ∨ f = 4) := by
  rcases Classical.em (0 ≤ f ∧ f ≤ 4 ∧ 1 ≤ a ∧ a ≤ 3) with h | h
  · refine .inr ⟨a.toNat, by omega, by omega, by omega, by omega⟩
  · exact .inl (by omega)
theorem specFree_any (f a : Int) (w : World) : Calls Try.prog 30 #[.int .i64 f, .int .i64 a] w (MdAns2 w (freeR f a)) := by
  rcases free_cases f a with h | ⟨n, rfl, h1, h3, h⟩
  · rw [freeR_no h]; exact specFree_no f a w h
  · rcases h with rfl | rfl | rfl | rfl | rfl
    · rw [freeR_yes (N := 1) (by decide) h1 h3]; exact specFree_0 n w h1 h3
    · rw [freeR_yes (N := 2) (by decide) h1 h3]; exact specFree_1 n w h1 h3
    · rw [freeR_yes (N := 4) (by decide) h1 h3]; exact specFree_2 n w h1 h3
    · rw [freeR_yes (N := 8) (by decide) h1 h3]; exact specFree_3 n w h1 h3
    · rw [freeR_yes (N := 16) (by decide) h1 h3]; exact specFree_4 n w h1 h3
theorem implFree_any (f a : Int) (w : World) : Calls Try.prog 31 #[.int .i64 f, .int .i64 a] w (MdAns2 w (freeR f a)) := by
  rcases free_cases f a with h | ⟨n, rfl, h1, h3, h⟩
  · rw [freeR_no h]; exact implFree_no f a w h
  · rcases h with rfl | rfl | rfl | rfl | rfl
    · rw [freeR_yes (N := 1) (by decide) h1 h3]; exact implFree_0 n w h1 h3
    · rw [freeR_yes (N := 2) (by decide) h1 h3]; exact implFree_1 n w h1 h3
    · rw [freeR_yes (N := 4) (by decide) h1 h3]; exact implFree_2 n w h1 h3
    · rw [freeR_yes (N := 8) (by decide) h1 h3]; exact implFree_3 n w h1 h3
    · rw [freeR_yes (N := 16) (by decide) h1 h3]; exact implFree_4 n w h1 h3
theorem tot_rep (a N : Nat) : tot (List.replicate a (List.replicate N (0 : Int))) = a * N := by
  induction a with
  | zero => simp [tot]
  | succ a ih => rw [List.replicate_succ, tot, ih, List.length_replicate, Nat.succ_mul, Nat.add_comm]
theorem free_size (f a : Int) : msize ((freeR f a).getD ⟨[], [], 0⟩) + ((freeR f a).getD ⟨[], [], 0⟩).blocks.length ≤ 1048576 := by
  rcases free_cases f a with h | ⟨n, rfl, h1, h3, h⟩
  · rw [freeR_no h]; decide
  · have hN : ∃ N, (f = 0 ∧ N = 1 ∨ f = 1 ∧ N = 2 ∨ f = 2 ∧ N = 4 ∨ f = 3 ∧ N = 8 ∨ f = 4 ∧ N = 16) ∧ N ≤ 16 := by
      rcases h with rfl | rfl | rfl | rfl | rfl
      · exact ⟨1, by decide, by decide⟩
      · exact ⟨2, by decide, by decide⟩
      · exact ⟨4, by decide, by decide⟩
      · exact ⟨8, by decide, by decide⟩
      · exact ⟨16, by decide, by decide⟩
    obtain ⟨N, hN, hN16⟩ := hN
    rw [freeR_yes hN h1 h3]
    unfold freeM msize
    simp only [Option.getD_some, mrow_len, tot_rep, List.length_replicate]
    have := Nat.mul_le_mul h3 hN16
    omega
end Go.Proofs.Ytegmoojjffkacaa
