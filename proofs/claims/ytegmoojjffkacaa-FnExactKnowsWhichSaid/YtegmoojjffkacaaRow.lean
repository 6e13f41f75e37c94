/-
  Contracts of the program's rows: slices.Index, slices.Clone at ints; rowOf, row.numbered, row.list.
-/
import Derived.Test.YtegmoojjffkacaaMdm
namespace Go.Proofs.Ytegmoojjffkacaa
open Go.RowKit Go.WideShapes
open Go Go.Deep

set_option maxRecDepth 100000 in
set_option maxHeartbeats 2000000 in
theorem index_any (lo hi : Nat) (v : Value) (l : List Int) (x : Int) (w : World) (hr : Iv lo hi w v l) (hx : x ∈ l) :
    Calls Try.prog 113 #[v, .int .i64 x] w fun e w' => e = .returned (.int .i64 (l.idxOf x : Nat)) ∧ w = w' := by
  obtain ⟨a, cap, rfl, h1, h2, h3⟩ := hr.parts
  unfold maxLen at h2
  have KEY := Lib.hid h3
  have hidx := List.idxOf_lt_length_of_mem hx
  have HG := Lib.hid (idx_get hx)
  have HM := Lib.hid (fun j => idx_min (l := l) (x := x) (j := j))
  clear h3 hr hx
  generalize l.idxOf x = q at *
  go_enter Try.func113, Try.ntmps113
  go_wp2
  go_loop [5, 8] (fun _ i => ∃ k : Nat, k ≤ q ∧ i = .int .i64 k) (fun _ i => l.length - (intOf i).toNat)
  case atStart => exact ⟨0, Nat.zero_le _, rfl⟩
  case round =>
    obtain ⟨k, hk, rfl⟩ := hrel
    obtain ⟨b, o, rfl, _, _, hb, c0⟩ := KEY.out k (by omega)
    have hlt : k < l.length := by omega
    by_cases e : k = q
    · subst e
      rw [HG.out] at c0
      go_wp2
      go_ret
      exact ⟨rfl, rfl⟩
    · have hne : ¬ l.getD k 0 = x := fun h => by have := HM.out k hlt h; omega
      have hne1 : (x == l.getD k 0) = false := by simp; exact fun h => hne h.symm
      generalize l.getD k 0 = y at *
      clear hne
      go_wp2
      go_round
      case rel => exact ⟨k + 1, by omega, by go_num⟩
      case measure => simp [intOf]; omega

theorem Try.sizeRow : (Try.prog.info? 72).map (·.size) = some 16 := by kernel_rfl
theorem ints_one {l : List Int} {v : Value} (h : v ∈ ints l) : v.oneCell' = true := by
  unfold ints at h
  obtain ⟨x, _, rfl⟩ := List.mem_map.1 h
  rfl
/-- a list filled up with zeros to 16 -/
def pad (l : List Int) : List Int := l ++ List.replicate (16 - l.length) 0
theorem pad_len {l : List Int} (h : l.length ≤ 16) : (pad l).length = 16 := by unfold pad; simp; omega

/-- a block of numbers, cut at n, reads as a list -/
theorem Cm.iv {w : World} {b : Nat} {T : TypeId} {r : List Int} (h : Cm w b T (ints r)) (n : Nat) (hn : n ≤ r.length) (hr : r.length ≤ maxLen) : Iv b (b + 1) w (.slice (some ⟨b, 0, none⟩) n r.length) (r.take n) := by
  have hl : (ints (r.take n)).length = n := by rw [ints_len, List.length_take]; omega
  refine ⟨_, _, by rw [hl], by rw [hl]; exact hn, hr, .inr ⟨b, 0, rfl, Nat.le_refl _, Nat.lt_succ_self _, h.lt, fun j x hx => ?_⟩⟩
  have hj : j < n := by
    rcases Nat.lt_or_ge j n with h' | h'
    · exact h'
    · rw [List.getElem?_eq_none (by rw [hl]; exact h')] at hx; cases hx
  rw [Nat.zero_add, h.cell, ints_at (by omega), ← hx, ints_at (by rw [List.length_take]; omega), List.getD_eq_getElem?_getD, List.getD_eq_getElem?_getD, List.getElem?_take_of_lt hj]
theorem zeros_ints (n : Nat) : List.replicate n (Value.int .i64 0) = ints (List.replicate n 0) := by simp [ints]
/-- what numbered has laid down after k elements -/
def numRow (l : List Int) (k : Nat) : List Int := (numS l k).1 ++ List.replicate (16 - k) 0
theorem numRow_len (l : List Int) (k : Nat) (h : k ≤ 16) : (numRow l k).length = 16 := by unfold numRow; simp [numS_len]; omega
theorem numRow_get (l : List Int) {k i : Nat} (h : i < k) : (numRow l k).getD i 0 = (numS l k).1.getD i 0 := by
  unfold numRow; rw [List.getD_eq_getElem?_getD, List.getElem?_append_left (by rw [numS_len]; exact h), List.getD_eq_getElem?_getD]
theorem numRow_set (l : List Int) (k : Nat) (y : Int) (p : List Int) (hp : p = (numS l k).1 ++ [y]) (h : k < 16) : (numRow l k).set k y = p ++ List.replicate (16 - (k + 1)) 0 := by
  subst hp
  unfold numRow
  rw [List.set_append_right _ _ (by rw [numS_len]; exact Nat.le_refl _), numS_len, Nat.sub_self, show 16 - k = (16 - (k + 1)) + 1 by omega, List.replicate_succ, List.set_cons_zero]
  simp

set_option maxRecDepth 100000 in
set_option maxHeartbeats 4000000 in
theorem numbered_any (r : List Int) (n : Nat) (w : World) (hr : r.length = 16) (hn : n ≤ 16) :
    Calls Try.prog 92 #[.agg (ints r).toArray, .int .i64 n] w fun e w' => e = .returned (.agg (ints (pad (num (r.take n)))).toArray) ∧ Below w.heap.size w w' := by
  have HR := Lib.hid hr
  have hll : (r.take n).length = n := by rw [List.length_take]; omega
  have HL := Lib.hid hll
  have hz0 : List.replicate 16 (Value.int .i64 0) = ints (List.replicate 16 0) := zeros_ints 16
  have HZ := Lib.hid hz0
  clear hr hll hz0
  go_enter Try.func92, Try.ntmps92
  go_wp2
  go_loopw [6, 10] (fun c i wr => ∃ k q : Nat, k ≤ n ∧ i = .int .i64 k ∧ c = .int .i64 q ∧ q ≤ k ∧ Hid (q = (numS (r.take n) k).2) ∧ Hid (Cm wr w.heap.size 72 (ints r)) ∧ Hid (Cm wr (w.heap.size + 1) 72 (ints (List.replicate 16 0))) ∧ Hid (Cm wr (w.heap.size + 1 + 1) 72 (ints (numRow (r.take n) k))) ∧ Hid (Below w.heap.size w wr)) (fun _ i _ => n - (intOf i).toNat)
  case atStart => exact ⟨0, 0, Nat.zero_le _, rfl, rfl, Nat.le_refl _, Lib.hid rfl, Lib.hid (((Cm.new rfl).alloc _).alloc _), Lib.hid ((Cm.new (w := w.alloc _) (cs := ints (List.replicate 16 0)) (by simp)).alloc _), Lib.hid (Cm.new (cs := ints (numRow (r.take n) 0)) (by simp)), Lib.hid (by go_grown)⟩
  case round =>
    obtain ⟨k, q, hk, rfl, rfl, hqk, HQ, C0, C1, C2, HB⟩ := hrel
    by_cases hlt : k < n
    · have hk16 : k < 16 := by omega
      have hxl : (r.take n).getD k 0 = r.getD k 0 := by
        rw [List.getD_eq_getElem?_getD, List.getD_eq_getElem?_getD, List.getElem?_take_of_lt hlt]
      have hxm : r.getD k 0 ∈ r.take n := by rw [← hxl]; exact getD_mem (by rw [HL.out]; exact hlt)
      have KI := Lib.hid (fun m => index_any _ _ _ (r.take n) (r.getD k 0) (wr.drewN m) (((C0.out.iv n (by rw [HR.out]; exact hn) (by rw [HR.out]; decide))).drewN m) hxm)
      rw [HR.out] at KI
      have hidx : (r.take n).idxOf (r.getD k 0) ≤ k := by rw [← hxl]; exact idx_le (by rw [HL.out]; exact hlt)
      have HS : Hid (numS (r.take n) (k + 1) = if (r.take n).idxOf (r.getD k 0) < k then ((numS (r.take n) k).1 ++ [(numS (r.take n) k).1.getD ((r.take n).idxOf (r.getD k 0)) 0], (numS (r.take n) k).2) else ((numS (r.take n) k).1 ++ [((numS (r.take n) k).2 : Int)], (numS (r.take n) k).2 + 1)) := Lib.hid (by rw [numS, hxl])
      have c0 : wr.cell? ⟨w.heap.size, k, none⟩ = some (.int .i64 (r.getD k 0)) := by rw [C0.out.cell, ints_at (by rw [HR.out]; exact hk16)]
      clear hxl hxm
      generalize r.getD k 0 = x at *
      generalize hf : (r.take n).idxOf x = f at *
      have HF := Lib.hid hf
      clear hf
      have hi0 : (0 : Int) ≤ (k : Int) := Int.natCast_nonneg _
      have hi1 : (k : Int) < 16 := by omega
      have hi2 : (n : Int) ≤ 16 := by omega
      have hi3 : (0 : Int) ≤ (n : Int) := Int.natCast_nonneg _
      go_wp2
      go_quiet ((go_at_call 113; exact quiet_eq (KI.out _)))
      have gk : wr.cell? ⟨w.heap.size + 1 + 1, k, none⟩ = some (.int .i64 ((numRow (r.take n) k).getD k 0)) := by rw [C2.out.cell, ints_at (by rw [numRow_len _ _ (by omega)]; exact hk16)]
      have fk : wr.frozen? ⟨w.heap.size + 1 + 1, k, none⟩ = false := C2.out.frozen _
      generalize (numRow (r.take n) k).getD k 0 = z at gk
      by_cases hfk : f < k
      · have gf : wr.cell? ⟨w.heap.size + 1 + 1, f, none⟩ = some (.int .i64 ((numS (r.take n) k).1.getD f 0)) := by rw [C2.out.cell, ints_at (by rw [numRow_len _ _ (by omega)]; omega), numRow_get _ hfk]
        have HS2 := Lib.hid HS.out
        rw [if_pos hfk] at HS2
        generalize hy : (numS (r.take n) k).1.getD f 0 = y at gf HS2
        clear hy
        have hf1 : (f : Int) < 16 := by omega
        go_wp2
        go_roundw
        case rel =>
          refine ⟨k + 1, q, by omega, by go_num, rfl, by omega, Lib.hid (by rw [HS2.out]; exact HQ.out), Lib.hid ((C0.out.other (by omega) _ _).drewN _), Lib.hid ((C1.out.other (by omega) _ _).drewN _), Lib.hid ?_, Lib.hid (below_drewN' (HB.out.setCell (by show _ ≤ w.heap.size + 1 + 1; omega) _) _)⟩
          have h := C2.out.set k (.int .i64 y)
          rw [ints_set, numRow_set _ _ _ (numS (r.take n) (k + 1)).1 (by rw [HS2.out]) hk16] at h
          exact h
        case measure => simp [intOf]; omega
      · have HS2 := Lib.hid HS.out
        rw [if_neg hfk] at HS2
        go_wp2
        go_roundw
        case rel =>
          refine ⟨k + 1, q + 1, by omega, by go_num, by go_num, by omega, Lib.hid (by rw [HS2.out, HQ.out]), Lib.hid ((C0.out.other (by omega) _ _).drewN _), Lib.hid ((C1.out.other (by omega) _ _).drewN _), Lib.hid ?_, Lib.hid (below_drewN' (HB.out.setCell (by show _ ≤ w.heap.size + 1 + 1; omega) _) _)⟩
          have h := C2.out.set k (.int .i64 q)
          rw [ints_set, numRow_set _ _ _ (numS (r.take n) (k + 1)).1 (by rw [HS2.out, HQ.out]) hk16] at h
          exact h
        case measure => simp [intOf]; omega
    · obtain rfl : k = n := by omega
      have hnl : (numRow (r.take k) k).length = 16 := numRow_len _ _ hn
      have HE : Hid (numRow (r.take k) k = pad (num (r.take k))) := Lib.hid (by unfold numRow pad num; rw [numS_len, HL.out])
      rw [HE.out] at C2 hnl
      have hil : (ints (pad (num (r.take k)))).length = 16 := by rw [ints_len]; exact hnl
      have HI := Lib.hid hil
      have HO := Lib.hid (fun v (hv : v ∈ ints (pad (num (r.take k)))) => ints_one hv)
      clear hnl hil HE
      generalize hRR : pad (num (r.take k)) = R at *
      have HRR := Lib.hid hRR
      clear hRR
      go_wp2_with (first
        | (refine wpList_load_mid rfl 72 _ rfl (w.heap.size + 1 + 1) 0 rfl (ints R) _ C2.out.whole Try.underlying72 rfl (by rw [HI.out]; exact Try.sizeRow) ?_)
        | (refine wpList_store_mid rfl 72 _ _ rfl (w.heap.size + 1) 0 (ints R).toArray rfl rfl (C1.out.there _ _ (by rw [List.size_toArray, HI.out, ints_len]; simp)) (by rw [List.size_toArray, HI.out]; exact Try.sizeRow) (all_oneCell_toArray HO.out) ?_))
      have C3 := C1.out.sets (ints R) 0
      rw [lay'_eq _ _ _ (by rw [HI.out, ints_len]; simp), List.take_zero, List.nil_append, List.drop_of_length_le (by rw [HI.out, ints_len]; simp), List.append_nil] at C3
      refine bodyPost_ret (results_mid1 Try.results92 _ _ _ (ints R) _ rfl C3.whole Try.underlying72 rfl (by rw [HI.out]; exact Try.sizeRow)) rfl ?_
      exact ⟨by rw [HRR.out], below_setCells HB.out (by omega) _ _⟩

set_option maxRecDepth 100000 in
set_option maxHeartbeats 2000000 in
theorem clone_any (lo hi b o cap : Nat) (l : List Int) (w : World) (hr : Iv lo hi w (.slice (some ⟨b, o, none⟩) l.length cap) l) (hn : l.length ≤ 1048576) :
    Calls Try.prog 114 #[.slice (some ⟨b, o, none⟩) l.length cap] w (IntsAns w l) := by
  obtain ⟨i0, hi, hz0, hz1, hz2⟩ := info_parts Try.infoI
  have HN : Hid (∀ W : World, Below w.heap.size w W → ∀ j u, (ints l)[j]? = some u → W.cell? ((⟨b, o, none⟩ : Addr).add j) = some u) := Lib.hid (fun W hW j u hu => by
    have hj : j < l.length := by
      rcases Nat.lt_or_ge j l.length with h' | h'
      · exact h'
      · rw [List.getElem?_eq_none (by rw [ints_len]; exact h')] at hu; cases hu
    obtain ⟨a, c, e, _, _, h3⟩ := hr.parts
    simp only [Value.slice.injEq, true_and] at e
    obtain ⟨e1, e2⟩ := e
    obtain ⟨b', o', e3, _, _, hb, hc⟩ := h3 j hj
    rw [← e1] at e3
    cases e3
    rw [addr_add0, hW.cell (p := ⟨b, o + j, none⟩) hb, hc, ← hu, ints_at hj])
  have H1 := Lib.hid (fun v (hv : v ∈ ints l) => ints_one hv)
  have HL := Lib.hid (ints_len l)
  clear hr
  generalize hLL : ints l = L at *
  have HLL := Lib.hid hLL
  clear hLL
  go_enter Try.func114, Try.ntmps114
  have hsl := fun W => Lib.run_eql_slice_nil (P := Try.prog) W 22
  go_wp2_with (at_builtin; refine wpList_append_own _ rfl (.tmp 5) (.tmp 6) 22 rfl w.heap.size 3 i0 (.int .i64 0) 1 8 Try.underlying22 hi hz0 hz1 hz2 rfl (by decide) (.slice (some ⟨w.heap.size, 0, none⟩) 0 0) 0 [] rfl (World.ownsRow_lit _ #[] 0 (Nat.le_refl _) (by decide) rfl) ⟨b, o, none⟩ l.length cap L rfl (by rw [HL.out, Nat.mul_one]) (HN.out _ (by go_grown)) H1.out (by unfold maxLen; omega) (by omega) (by simp) ?_; intro v1 w1 hown hg _; have HO := Lib.hid hown; have HG := Lib.hid hg; clear hown hg)
  go_ret
  refine ⟨v1, rfl, ?_, (Below.alloc (Below.refl _ _) (Nat.le_refl _) _).grown HG.out (by simp) (fun k hk => by cases hk; exact Nat.le_refl _)⟩
  have h := HO.out
  rw [List.nil_append, ← HLL.out] at h
  exact Ro.of_own h

set_option maxRecDepth 100000 in
set_option maxHeartbeats 2000000 in
theorem rowList_any (r : List Int) (n : Nat) (w : World) (hr : r.length = 16) (hn : n ≤ 16) :
    Calls Try.prog 93 #[.agg (ints r).toArray, .int .i64 n] w (IntsAns w (r.take n)) := by
  have HR := Lib.hid hr
  clear hr
  have hi2 : (n : Int) ≤ 16 := by omega
  have hi3 : (0 : Int) ≤ (n : Int) := Int.natCast_nonneg _
  go_enter Try.func93, Try.ntmps93
  go_wp2_with fail
  have C1 : Cm (w.alloc (.cells (ints r).toArray 72)) w.heap.size 72 (ints r) := Cm.new rfl
  have hiv := C1.iv n (by rw [HR.out]; exact hn) (by rw [HR.out]; decide)
  have hll : (r.take n).length = n := by rw [List.length_take, HR.out]; omega
  have hc := clone_any _ _ w.heap.size 0 16 (r.take n) _ (by rw [hll]; rw [HR.out] at hiv; exact hiv) (by omega)
  rw [hll] at hc
  clear hll
  refine hc.mono ?_
  rintro e w1 ⟨v1, rfl, hi1, hb1⟩
  have HI := Lib.hid hi1
  have HB := Lib.hid hb1
  clear hi1 hb1 hc hiv C1
  go_wp2
  go_ret
  exact ⟨v1, rfl, HI.out.wide (by simp) (Nat.le_refl _), Below.trans (by go_grown) (HB.out.mono (by simp))⟩

/-- copy of a list of numbers to the head of a block of one's own -/
theorem wpList_copyI {P : Program} {lo hi : Nat} {w : World} {ops : Array Oper} {rest : List Oper} {o : Oper} {a : Act} {Q : Exit → Act → World → Prop} (hgd : o.guard = none) (d s : Operand) (T E : TypeId)
    (ho : o.op = .call { callee := .builtin .copy, args := #[d, s], argTypes := #[T, T] }) (hu : P.underlying T = some (.slice E)) (hsz : (P.info? E).map (·.size) = some 1)
    (b dLen dCap : Nat) (hd : a.eval d = .slice (some ⟨b, 0, none⟩) dLen dCap) (v : Value) (l : List Int) (hs : a.eval s = v) (hv : Iv lo hi w v l) (hl : l.length ≤ dLen)
    (B : TypeId) (cs : List Value) (hc : Cm w b B cs) (hfit : l.length ≤ cs.length)
    (h : ∀ w', Cm w' b B (lay' cs 0 (ints l)) → At b w w' → wpList P ops Q rest (a.put o.dst (goInt l.length)) w') : wpList P ops Q (o :: rest) a w := by
  replace h := h _ (hc.sets (ints l) 0) (At.setCells w b 0 (ints l))
  obtain ⟨ad, cap, rfl, _, _, h3⟩ := hv.parts
  rcases Nat.eq_zero_or_pos l.length with h0 | h0
  · obtain rfl : l = [] := List.length_eq_zero_iff.1 h0
    exact wpList_copy_nothing hgd d s T T ho E hu hsz _ _ _ _ _ _ hd hs (by simp) h
  · obtain ⟨b', o', rfl, _⟩ := h3 0 h0
    have hmin : (ints l).length = Nat.min l.length dLen := by rw [ints_len]; exact (Nat.min_eq_left hl).symm
    have hrun := run_copy_cells (P := P) w T T o.type E b 0 dLen dCap ⟨b', o', none⟩ l.length cap (ints l) hu hsz hmin
      (fun j u hj => by
        have hj' : j < l.length := by
          rcases Nat.lt_or_ge j l.length with h' | h'
          · exact h'
          · rw [List.getElem?_eq_none (by rw [ints_len]; exact h')] at hj; cases hj
        obtain ⟨b2, o2, e, _, _, _, hcj⟩ := h3 j hj'
        cases e
        rw [addr_add0, hcj, ← hj, ints_at hj'])
      (fun j hj => (hc.there 0 l.length (by omega) j (by rw [← ints_len l]; exact hj)).1) (fun j hj => (hc.there 0 l.length (by omega) j (by rw [← ints_len l]; exact hj)).2) (fun u hu => ints_one hu)
    refine wpList_plain hgd fun K hK => ?_
    unfold Oper.wp
    simp [execOp, ho, resolve, invoke, builtin, hd, hs, hrun, Result.andThen]
    rw [ints_len]
    exact hK _ _ h
/-- what rowOf lays down -/
theorem pad_splice (l : List Int) (h : l.length ≤ 16) : lay' (ints (List.replicate 16 0)) 0 (ints l) = ints (pad l) := by
  rw [lay'_eq _ _ _ (by rw [ints_len, ints_len]; simpa using h)]
  unfold pad
  rw [ints_app, List.take_zero, List.nil_append, ints_len, Nat.zero_add]
  congr 1
  unfold ints
  rw [List.map_replicate, List.drop_replicate, List.map_replicate]
set_option maxRecDepth 100000 in
set_option maxHeartbeats 4000000 in
theorem rowOf_any (lo hi : Nat) (v : Value) (l : List Int) (w : World) (hr : Iv lo hi w v l) (hn : l.length ≤ 16) :
    Calls Try.prog 91 #[v] w fun e w' => e = .returned (.agg (ints (pad l)).toArray) ∧ Below w.heap.size w w' := by
  obtain ⟨a, cap, e0⟩ := hr.form
  subst e0
  have HP := Lib.hid (pad_splice l hn)
  have HPL : Hid ((ints (pad l)).length = 16) := Lib.hid (by rw [ints_len]; exact pad_len hn)
  have HV := Lib.hid hr
  have H1 := Lib.hid (fun v (hv : v ∈ ints (pad l)) => ints_one hv)
  clear hr
  generalize hRR : ints (pad l) = R at *
  have HRR := Lib.hid hRR
  clear hRR
  have hsz : (Try.prog.info? 3).map (·.size) = some 1 := by kernel_rfl
  have HSZ := Lib.hid hsz
  clear hsz
  go_enter Try.func91, Try.ntmps91
  go_wp2_with (refine wpList_copyI (lo := lo) (hi := hi) rfl (.tmp 4) (.tmp 5) 22 3 rfl Try.underlying22 HSZ.out (w.heap.size + 1) 16 16 rfl _ l rfl (HV.out.keeps (Keeps.of_all (by go_grown))) hn 72 (ints (List.replicate 16 0)) (Cm.new (by simp)) (by rw [ints_len]; simpa using hn) ?_; intro w1 hc1 ha1; have C1 := Lib.hid hc1; have C0 := Lib.hid (ha1.cm (b' := w.heap.size) (T := 72) (cs := ints (List.replicate 16 0)) ((Cm.new rfl).alloc _) (by omega)); have B1 : Hid (Below w.heap.size w w1) := Lib.hid (Below.trans (by go_grown) (ha1.below (by omega))); rw [HP.out] at C1; clear hc1 ha1; go_wp2_with (first | (refine wpList_loadM rfl 72 _ rfl (w.heap.size + 1) 0 rfl 72 R R C1.out (fun j _ => by rw [Nat.zero_add]) _ Try.underlying72 rfl (by rw [HPL.out]; exact Try.sizeRow) ?_) | (refine wpList_storeM rfl 72 _ _ rfl w.heap.size 0 rfl R rfl 72 _ C0.out (by rw [HPL.out, ints_len]; simp) (by rw [HPL.out]; exact Try.sizeRow) H1.out ?_; intro w2 hc2 ha2; have C2 := Lib.hid hc2; have A2 := Lib.hid ha2; clear hc2 ha2)))
  rw [lay'_all (by rw [HPL.out, ints_len]; simp)] at C2
  refine bodyPost_ret (results_mid1 Try.results91 _ _ w.heap.size R _ rfl C2.out.whole Try.underlying72 rfl (by rw [HPL.out]; exact Try.sizeRow)) rfl ?_
  exact ⟨rfl, B1.out.trans (A2.out.below (Nat.le_refl _))⟩
end Go.Proofs.Ytegmoojjffkacaa
