/-
  Contract of Deal.fitting. Conditions: a valid deal, hands from 0 to 127, at most 1048576 of them.
-/
import Derived.Test.YteahjnobnbafiaaCig
namespace Go.Proofs.Yteahjnobnbafiaa
open Go.RowKit Go.WideShapes
open Go Go.Deep
set_option linter.unusedSimpArgs false

/-- copy of a list of numbers to the head of a block of one's own -/
theorem wpList_copyL {P : Program} {lo hi : Nat} {w : World} {ops : Array Oper} {rest : List Oper} {o : Oper} {a : Act} {Q : Exit → Act → World → Prop} (hgd : o.guard = none) (d s : Operand) (T E : TypeId)
    (ho : o.op = .call { callee := .builtin .copy, args := #[d, s], argTypes := #[T, T] }) (hu : P.underlying T = some (.slice E)) (hsz : (P.info? E).map (·.size) = some 1)
    (b dLen dCap : Nat) (hd : a.eval d = .slice (some ⟨b, 0, none⟩) dLen dCap) (v : Value) (l : List Int) (hs : a.eval s = v) (hv : Iv lo hi w v l) (hl : l.length ≤ dLen)
    (B : TypeId) (cs : List Value) (hc : Cm w b B cs) (hfit : l.length ≤ cs.length)
    (h : ∀ w', Cm w' b B (lay' cs 0 (ints l)) → At b w w' → wpList P ops Q rest (a.put o.dst (goInt l.length)) w') : wpList P ops Q (o :: rest) a w := by
  replace h := h _ (hc.sets (ints l) 0) (At.setCells w b 0 (ints l))
  obtain ⟨ad, cap, rfl, _, _, h3⟩ := hv.parts
  rcases Nat.eq_zero_or_pos l.length with h0 | h0
  · obtain rfl : l = [] := List.length_eq_zero_iff.1 h0
    exact wpList_copy_nothing hgd d s T T ho E hu hsz _ _ _ _ _ _ hd hs (by simp) h
  · obtain ⟨b', o', rfl, _⟩ := h3 0 h0
    have hmin : (ints l).length = Nat.min l.length dLen := by rw [ints_len]; exact (Nat.min_eq_left hl).symm
    have hrun := run_copy_cells (P := P) w T T o.type E b 0 dLen dCap ⟨b', o', none⟩ l.length cap (ints l) hu hsz hmin
      (fun j u hj => by
        have hj' : j < l.length := by
          rcases Nat.lt_or_ge j l.length with h' | h'
          · exact h'
          · rw [List.getElem?_eq_none (by rw [ints_len]; exact h')] at hj; cases hj
        obtain ⟨b2, o2, e, _, _, _, hcj⟩ := h3 j hj'
        cases e
        rw [addr_add0, hcj, ← hj, ints_at hj'])
      (fun j hj => (hc.there 0 l.length (by omega) j (by rw [← ints_len l]; exact hj)).1) (fun j hj => (hc.there 0 l.length (by omega) j (by rw [← ints_len l]; exact hj)).2) (fun u hu => by obtain ⟨x, -, rfl⟩ := List.mem_map.1 hu; rfl)
    refine wpList_plain hgd fun K hK => ?_
    unfold Oper.wp
    simp [execOp, ho, resolve, invoke, builtin, hd, hs, hrun, Result.andThen]
    rw [ints_len]
    exact hK _ _ h
theorem own_whole {w : World} {base b n : Nat} {E : TypeId} {xs : List Value} (h : w.ownsRow base E 1 (.slice (some ⟨b, 0, none⟩) n n) n xs) : Cm w b E xs := by
  rcases h.2 with ⟨h0, -⟩ | ⟨g', cap', cur, hv, -, hg, -, -, hcs, htake⟩
  · cases h0
  cases hv
  rw [Nat.mul_one] at hcs htake
  unfold Cm
  rw [hg, ← htake, List.take_of_length_le (by simp [hcs])]
theorem ends_row {w0 w w' : World} {b cap : Nat} {m : List Int} (hb : Below w0.heap.size w0 w) (hg : w.grownBy w' (some b)) (hlt : w0.heap.size ≤ b) (hbw : b < w.heap.size) (ho : w'.ownsRow b 3 1 (.slice (some ⟨b, 0, none⟩) m.length cap) m.length (ints m)) : IntsAns w0 m (.returned (.slice (some ⟨b, 0, none⟩) m.length cap)) w' := by
  refine ⟨_, rfl, ⟨?_, ?_⟩, hb.grown hg hb.size (fun k hk => by cases hk; exact hlt)⟩
  · rcases ho.2 with ⟨h0, -⟩ | ⟨g', cap', cur, hv, _, h3, h4, h5, h6, h7⟩
    · cases h0
    cases hv
    rw [ints_len]
    exact ⟨by simp [ints], .inr ⟨b, _, cur, rfl, hlt, h3, h4, h5, h6, h7⟩⟩
  · intro k hk
    cases hk
    exact Nat.lt_of_lt_of_le hbw hg.size
set_option maxRecDepth 100000 in
set_option maxHeartbeats 4000000 in
theorem fitting_any (d : Dl) (hd : dealR d = true) (X : Nat) (hX : X < 128) (lo hi : Nat) (v : Value) (l : List Int) (w : World) (hr : Iv lo hi w v l) (hx : ∀ x ∈ l, 0 ≤ x ∧ x < 128) (hl : l.length ≤ 1048576) :
    Calls Try.prog 45 #[d.v, .int .i64 X, v] w (IntsAns w (fitP d X l)) := by
  obtain ⟨i0, hi0, hz0, hz1, hz2⟩ := info_parts Try.infoI
  have KC := Lib.hid (fun W => clashes_any d hd X hX W)
  have KD := Lib.hid (fun (lb : Array Value) (b lo hi : Nat) (W : World) hc hb hp => delete_any 66 entClash lb (clshD d X) lo hi l b W hc hb hx hp hl)
  have HR : Hid (fitP d X l = l.filter (fun x => !clshD d X x)) := Lib.hid rfl
  unfold ClshAns at KC
  obtain ⟨ad, cap, e0⟩ := hr.form
  subst e0
  have HV := Lib.hid hr
  have HB1 : Hid (i0.bytes * l.length ≤ 281474976710656) := Lib.hid (by rw [hz2]; omega)
  have hsz : (Try.prog.info? 3).map (·.size) = some 1 := by kernel_rfl
  have HSZ := Lib.hid hsz
  clear hr hx hsz hd
  generalize fitP d X l = R at *
  generalize clshD d X = t at *
  unfold Dl.v at *
  have HW1 := Lib.hid (And.intro (show Cm (w.alloc (.cells #[.int .i64 d.a, .int .i64 d.b, .int .i64 d.c] 25)) w.heap.size 25 [.int .i64 d.a, .int .i64 d.b, .int .i64 d.c] from Cm.new (cs := [.int .i64 d.a, .int .i64 d.b, .int .i64 d.c]) rfl) (show Below w.heap.size w (w.alloc (.cells #[.int .i64 d.a, .int .i64 d.b, .int .i64 d.c] 25)) from (Below.refl _ _).alloc (Nat.le_refl _) _))
  have hwz : (w.alloc (.cells #[.int .i64 d.a, .int .i64 d.b, .int .i64 d.c] 25)).heap.size = w.heap.size + 1 := by simp
  have HWZ := Lib.hid hwz
  clear hwz
  generalize d.a = da at *
  generalize d.b = db at *
  generalize d.c = dc at *
  go_enter Try.func45, Try.ntmps45
  go_wp2_with (first
    | (at_make
       generalize w.alloc (.cells #[.int .i64 da, .int .i64 db, .int .i64 dc] 25) = w1 at *
       refine wpList_make_full _ rfl _ _ 28 rfl w1.heap.size 3 i0 (.int .i64 0) 1 Try.underlying28 hi0 hz0 hz1 _ _ _ _ l.length rfl rfl rfl rfl HB1.out (by unfold maxLen; omega) (Nat.le_refl _) ?_
       intro w2 hown hg
       have C2 : Hid (Cm w2 w1.heap.size 3 (ints (List.replicate l.length 0))) := Lib.hid (own_whole (by have h := hown; rwa [Nat.mul_one, madeI] at h))
       have hb12 : Below w1.heap.size w1 w2 := (Below.refl _ _).grown hg (Nat.le_refl _) (fun k hk => by cases hk)
       have X2 := Lib.hid (HW1.out.1.all hb12)
       have B2 : Hid (Below w.heap.size w w2) := Lib.hid (HW1.out.2.trans (hb12.mono HW1.out.2.size))
       clear hb12 hown hg HW1 HB1)
    | (refine wpList_copyL (lo := lo) (hi := hi) rfl (.tmp 11) (.tmp 12) 28 3 rfl Try.underlying28 HSZ.out w1.heap.size l.length l.length rfl _ l rfl (HV.out.keeps (Keeps.of_all B2.out)) (Nat.le_refl _) 3 _ C2.out (by simp [ints]) ?_
       intro w3 hc3 ha3
       rw [lay'_all (by simp [ints])] at hc3
       have C3 := Lib.hid hc3
       have hX3 := ha3.cm X2.out (by have := HWZ.out; omega)
       have B3 : Hid (Below w.heap.size w w3) := Lib.hid (B2.out.trans (ha3.below (by have := HWZ.out; omega)))
       have c0 := hX3.cell 0
       have c1 := hX3.cell 1
       have c2 := hX3.cell 2
       simp only [List.getElem?_cons_zero, List.getElem?_cons_succ] at c0 c1 c2
       clear hc3 ha3 hX3 B2 C2 X2))
  refine (KC.out _).mono ?_
  rintro e w4 ⟨lb, rfl, hp4, hb4, hs4⟩
  have C4 := Lib.hid (C3.out.all hb4)
  have B4 := Lib.hid (B3.out.trans (hb4.mono B3.out.size))
  have P4 := Lib.hid hp4
  have Z3 := Lib.hid C3.out.lt
  have ZB := Lib.hid C4.out.lt
  clear hp4 hb4 hs4 B3 C3 c0 c1 c2
  go_wp2_with fail
  refine (KD.out lb w1.heap.size w3.heap.size (w3.heap.size + 2) w4 C4.out Z3.out P4.out).mono ?_
  rintro e w5 ⟨rfl, ho5, hg5⟩
  rw [← HR.out] at ho5 ⊢
  have H5 := Lib.hid (ends_row B4.out hg5 (by have := HWZ.out; omega) ZB.out ho5)
  clear ho5 hg5
  go_wp2
  go_ret
  exact H5.out
end Go.Proofs.Yteahjnobnbafiaa
