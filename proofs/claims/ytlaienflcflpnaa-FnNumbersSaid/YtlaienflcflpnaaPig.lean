/-
  person.consider, knowsOwn, answering. Conditions: the numbers are such as a machine has; at most 1048576 pairs; the person's map is empty.
-/
import Derived.Test.YtlaienflcflpnaaPif
namespace Go.Proofs.Ytlaienflcflpnaa
open Go.RowKit Go.WideShapes
open Go Go.Deep
set_option linter.unusedSimpArgs false

theorem ownB {w : World} {B B' n : Nat} {e : TypeId} {s : Nat} {v : Value} {xs : List Value} (h : w.ownsRow B e s v n xs) (hB : B' ≤ B) : w.ownsRow B' e s v n xs := by
  refine ⟨h.1, ?_⟩
  rcases h.2 with h1 | ⟨g, cap, cur, h1, h2, h3⟩
  · exact .inl h1
  · exact .inr ⟨g, cap, cur, h1, Nat.le_trans hB h2, h3⟩
theorem Grp.base {P : Program} {K E : TypeId} {W : World} {B B' b c : Nat} {D : DataW Value} {V : Int → Value} {g : Int → List Pr} (h : Grp P K E W B b c D V g) (hB : B' ≤ B) : Grp P K E W B' b c D V g := ⟨h.own, h.elt, fun k => ownB (h.row k) hB, h.apart⟩
theorem But.mono {T T' b : Nat} {x y : World} (h : But T b x y) (hT : T' ≤ T) : But T' b x y := ⟨h.os, h.tape, h.output, h.size, fun k hk hb => h.block k (by omega) hb⟩
/-- what is read stays where nothing but a map is written -/
theorem Ps.but {P : Program} {K : TypeId} {w w' : World} {v : Value} {xs : List Pr} {b c : Nat} {D : DataW Value} (h : Ps w v xs) (hm : w.ownsMap P K HeldP b c D) (hb : But w.heap.size b w w') : Ps w' v xs := by
  obtain ⟨a, cap, rfl, h1, h2, h3⟩ := h
  refine ⟨a, cap, rfl, h1, h2, ?_⟩
  rcases h3 with h3 | ⟨r, o, rfl, hlt, hc⟩
  · exact .inl h3
  · by_cases h0 : xs = []
    · exact .inl h0
    · refine .inr ⟨r, o, rfl, Nat.lt_of_lt_of_le hlt hb.size, fun j hj => ?_⟩
      have hne : r ≠ b := by
        intro e
        obtain ⟨es, clock, he, _⟩ := hm
        have := (hc j hj).1
        subst e
        simp [World.cell?, he] at this
      have e := hb.block r hlt hne
      exact ⟨(World.cell?_of_block (a := ⟨r, o + j * 2, none⟩) e).trans (hc j hj).1, (World.cell?_of_block (a := ⟨r, o + j * 2 + 1, none⟩) e).trans (hc j hj).2⟩
theorem map_but {P : Program} {K : TypeId} {w w' : World} {b T : Nat} {B : Nat} {cs : List Value} {U : TypeId} {c : Nat} {D : DataW Value} (h : Cm w T U cs) (hm : w.ownsMap P K HeldP b c D) (hb : But B b w w') (hT : T < B) : Cm w' T U cs := by
  refine h.of_block (hb.block T hT (fun e => ?_))
  obtain ⟨es, clock, he, _⟩ := hm
  subst e
  rw [show w.heap[T]? = _ from h] at he
  cases he
def ConP (f : Bool) (b : Nat) (xs : List Pr) (w : World) (e : Ending) (w' : World) : Prop :=
  e = .returned (.tuple #[]) ∧ ∃ c D V, c ≤ xs.length ∧ Grp Try.prog 3 25 w' w.heap.size b c D V (fun y => grpP f y xs) ∧ w.grownBy w' (some b)
theorem grp_next {f : Bool} {xs : List Pr} {k : Nat} (hk : k < xs.length) : (fun y => if y = keyP f (xs.getD k default) then grpStep (grpP f (keyP f (xs.getD k default)) (xs.take k)) (xs.getD k default) else grpP f y (xs.take k)) = fun y => grpP f y (xs.take (k + 1)) := by
  funext y
  rw [take_oneP hk, grpP_snoc]
  by_cases h : y = keyP f (xs.getD k default)
  · rw [if_pos h, if_pos h.symm, h]
  · rw [if_neg h, if_neg (fun e => h e.symm)]

set_option maxRecDepth 100000 in
set_option maxHeartbeats 8000000 in
theorem consider_any (f : Bool) (b : Nat) (v : Value) (xs : List Pr) (w : World) (hr : Ps w v xs) (hw : WfP xs) (hn : xs.length ≤ 1048576) (hm : w.ownsMap Try.prog 3 HeldP b 0 (.map [])) :
    Calls Try.prog 47 #[pv f b, v] w (ConP f b xs w) := by
  obtain ⟨a, cap, rfl, h1, h2, h3⟩ := hr.parts
  unfold maxLen at h2
  have hbl := hm.lt
  have KEY := Lib.hid (fun W' (hb : But w.heap.size b w W') => (hr.but hm hb).parts)
  have HM0 := Lib.hid hm
  have HN := Lib.hid hn
  have HWK := Lib.hid (fun k (hk : k < xs.length) => hw.key (x := xs.getD k default) (by rw [List.getD_eq_getElem?_getD, List.getElem?_eq_getElem hk]; exact List.getElem_mem hk) f)
  have HNX := Lib.hid (fun k hk => grp_next (f := f) (xs := xs) (k := k) hk)
  have HLE := Lib.hid (fun y k => grpP_le f y (xs.take k))
  have HEND : Hid (xs.take xs.length = xs) := Lib.hid (List.take_of_length_le (Nat.le_refl _))
  have HST : Hid ((fun y => grpP f y (xs.take 0)) = fun _ => []) := Lib.hid rfl
  clear hr hw hn hm h3
  unfold pv
  go_enter Try.func47, Try.ntmps47
  go_wp2
  have hC0 : Cm (w.alloc (.cells #[.bool f, .map (some b)] 60)) w.heap.size 60 [.bool f, .map (some b)] := Cm.new (cs := [.bool f, .map (some b)]) rfl
  have hb0 : Below w.heap.size w (w.alloc (.cells #[.bool f, .map (some b)] 60)) := (Below.refl _ _).alloc (Nat.le_refl _) _
  have hz0 : (w.alloc (.cells #[.bool f, .map (some b)] 60)).heap.size = w.heap.size + 1 := by simp
  have hm0 := HM0.out.alloc (.cells #[.bool f, .map (some b)] 60)
  generalize w.alloc (.cells #[.bool f, .map (some b)] 60) = w1 at *
  have G0 := Lib.hid (HST.out ▸ Grp.none (E := 25) hm0 (w.heap.size + 1))
  have C0 := Lib.hid hC0
  have HM1 := Lib.hid hm0
  have B0 := Lib.hid hb0
  have Z0 := Lib.hid hz0
  clear hC0 hb0 hz0 hm0
  go_loopw [8] (fun iv wr => ∃ k : Nat, k ≤ xs.length ∧ iv = .int .i64 k ∧ Hid (∃ c D V, c ≤ k ∧ Grp Try.prog 3 25 wr (w.heap.size + 1) b c D V (fun y => grpP f y (xs.take k))) ∧ Hid (But (w.heap.size + 1) b w1 wr)) (fun iv _ => xs.length - (intOf iv).toNat)
  case atStart => exact ⟨0, Nat.zero_le _, rfl, Lib.hid ⟨0, _, _, Nat.le_refl _, G0.out⟩, Lib.hid (But.refl _ _ _)⟩
  case round =>
    clear G0
    obtain ⟨k, hk, rfl, HG, HB⟩ := hrel
    by_cases hlt : k < xs.length
    · have hww : But w.heap.size b w wr := (But.of_below B0.out (Nat.le_refl _)).trans (HB.out.mono (Nat.le_succ _))
      have hsz1 := HB.out.size
      rw [Z0.out] at hsz1
      obtain ⟨a', cap', ea, e1, e2, e3⟩ := KEY.out wr hww
      obtain ⟨r, o, rfl, hrb, d0, d1⟩ := e3 k hlt
      cases ea
      clear e1 e2 e3 hww
      obtain ⟨cc, D, V, hcc, hG⟩ := HG.out
      have hkw := HWK.out k hlt
      have hle := HLE.out (keyP f (xs.getD k default)) k
      have HNk := Lib.hid (HNX.out k hlt)
      have hCP : Cm wr w.heap.size 60 [.bool f, .map (some b)] := map_but C0.out HM1.out HB.out (Nat.lt_succ_self _)
      have KS := Lib.hid (fun W' => sees_any f b (xs.getD k default) W')
      have KA := Lib.hid (fun W' (hb : Below wr.heap.size wr W') => add_any (w.heap.size + 1) b cc D V _ (keyP f (xs.getD k default)) (xs.getD k default) W' (hG.below hb (Nat.le_refl _)) hkw hle (by have := HN.out; omega) (by have := hb.size; omega))
      rw [HNk.out] at KA
      clear HNk hG hkw hle HG
      generalize keyP f (xs.getD k default) = kk at *
      generalize xs.getD k default = x at *
      obtain ⟨xa, xb⟩ := x
      simp only at d0 d1
      unfold Pr.v pv at KS
      unfold Pr.v AddP at KA
      simp only at KA KS
      have CP := Lib.hid hCP
      clear hCP
      have hi0 : (0 : Int) ≤ (k : Int) := Int.natCast_nonneg _
      have hi1 : (k : Int) < (xs.length : Int) := by omega
      go_wp2
      have hb2 : Below wr.heap.size wr (wr.alloc (.cells #[.int .i64 xa, .int .i64 xb] 25)) := (Below.refl _ _).alloc (Nat.le_refl _) _
      have hX2 : Cm (wr.alloc (.cells #[.int .i64 xa, .int .i64 xb] 25)) wr.heap.size 25 [.int .i64 xa, .int .i64 xb] := Cm.new (cs := [.int .i64 xa, .int .i64 xb]) rfl
      have hC2 := CP.out.all hb2
      generalize wr.alloc (.cells #[.int .i64 xa, .int .i64 xb] 25) = w2 at *
      have HP : Hid (∀ W', Below w2.heap.size w2 W' → Cm W' w.heap.size 60 [.bool f, .map (some b)] ∧ Cm W' wr.heap.size 25 [.int .i64 xa, .int .i64 xb]) := Lib.hid (fun W' hW => ⟨hC2.all hW, hX2.all hW⟩)
      have B2 := Lib.hid hb2
      clear hb2 hX2 hC2 d0 d1
      refine regionL (fun W' => Below w2.heap.size w2 W') [6] (by kernel_rfl) (Below.refl _ _).drew (fun hHeld => ?_)
      refine takeA (i := 0) (v := .pointer (some ⟨w.heap.size, 1, none⟩)) 12 rfl rfl (by kernel_rfl) (by kernel_rfl) (by kernel_rfl) (by kernel_rfl) (fun _ _ _ h => h) (Or.inl ⟨by rfl, by intro W hSw; go_simp⟩) hHeld ?_
      simp only [Act.put, List.setIfInBounds_toArray, List.set_cons_zero, List.set_cons_succ]
      refine takeA (i := 1) (v := .map (some b)) 13 rfl rfl (by kernel_rfl) (by kernel_rfl) (by kernel_rfl) (by kernel_rfl) (fun _ _ _ h => h) (Or.inl ⟨by rfl, by intro W hSw; have c1 := (HP.out _ hSw).1.cell 1; have c0 := (HP.out _ hSw).1.cell 0; go_simp⟩) hHeld ?_
      simp only [Act.put, List.setIfInBounds_toArray, List.set_cons_zero, List.set_cons_succ]
      refine takeA (i := 2) (v := .agg #[.bool f, .map (some b)]) 14 rfl rfl (by kernel_rfl) (by kernel_rfl) (by kernel_rfl) (by kernel_rfl) (fun _ _ _ h => h) (Or.inl ⟨by rfl, by intro W hSw; have c1 := (HP.out _ hSw).1.cell 1; have c0 := (HP.out _ hSw).1.cell 0; go_simp⟩) hHeld ?_
      simp only [Act.put, List.setIfInBounds_toArray, List.set_cons_zero, List.set_cons_succ]
      refine takeA (i := 3) (v := .agg #[.int .i64 xa, .int .i64 xb]) 15 rfl rfl (by kernel_rfl) (by kernel_rfl) (by kernel_rfl) (by kernel_rfl) (fun _ _ _ h => h) (Or.inl ⟨by rfl, by intro W hSw; have c1 := (HP.out _ hSw).2.cell 1; have c0 := (HP.out _ hSw).2.cell 0; go_simp⟩) hHeld ?_
      simp only [Act.put, List.setIfInBounds_toArray, List.set_cons_zero, List.set_cons_succ]
      refine takeA (i := 5) (v := .agg #[.int .i64 xa, .int .i64 xb]) 17 rfl rfl (by kernel_rfl) (by kernel_rfl) (by kernel_rfl) (by kernel_rfl) (fun _ _ _ h => h) (Or.inl ⟨by rfl, by intro W hSw; have c1 := (HP.out _ hSw).2.cell 1; have c0 := (HP.out _ hSw).2.cell 0; go_simp⟩) hHeld ?_
      simp only [Act.put, List.setIfInBounds_toArray, List.set_cons_zero, List.set_cons_succ]
      refine onlyL (i := 4) (by kernel_rfl) rfl (by rfl) (fun K hK => ?_)
      go_simp
      refine (KS.out _).mono ?_
      rintro e w3 ⟨rfl, hb3⟩
      have t3 : Below w2.heap.size w2 w3 := hHeld.trans (hb3.mono hHeld.size)
      clear hb3
      refine hK.out _ _ (fun _ => t3) (fun hHeld => ?_)
      clear hHeld hK K
      try simp only [Act.put, List.setIfInBounds_toArray, List.set_cons_zero, List.set_cons_succ]
      refine onlyL (i := 6) (by kernel_rfl) rfl (by rfl) (fun K hK => ?_)
      go_simp
      refine (KA.out _ (B2.out.trans (t3.mono B2.out.size))).mono ?_
      rintro e w4 ⟨rfl, c', D', V', hc', hG4, hb4⟩
      have G4 := Lib.hid hG4
      have B4 : Hid (But (w.heap.size + 1) b w1 w4) := Lib.hid (HB.out.trans ((But.of_below (B2.out.trans (t3.mono B2.out.size)) (by omega)).trans hb4))
      clear hG4 hb4
      refine hK.out _ _ (fun h => absurd (by decide) h) (fun _ => ?_)
      clear hK K t3 hHeld
      refine doneL (by kernel_rfl) ?_ _
      go_wp2
      go_roundw
      case rel => exact ⟨k + 1, by omega, by go_num, Lib.hid ⟨c', D', V', by omega, G4.out⟩, B4⟩
      case measure => simp [intOf]; omega
    · obtain rfl : k = xs.length := by omega
      obtain ⟨cc, D, V, hcc, hG⟩ := HG.out
      rw [HEND.out] at hG
      have HG2 := Lib.hid hG
      clear hG HG
      go_wp2
      go_returns
      exact ⟨rfl, cc, D, V, hcc, HG2.out.base (Nat.le_succ _), ((But.of_below B0.out (Nat.le_refl _)).trans (HB.out.mono (Nat.le_succ _))).grown⟩
end Go.Proofs.Ytlaienflcflpnaa
