/-
  person.knows (no condition), person.answering. Conditions of answering: the numbers that are seen are such as a machine has; at most 1048576 pairs; the person's map is empty.
-/
import Derived.Test.YtmcjimmebbkjcaaPig
import Derived.Test.YtmcjimmebbkjcaaPra
namespace Go.Proofs.Ytmcjimmebbkjcaa
open Go.RowKit Go.WideShapes
open Go Go.Deep
set_option linter.unusedSimpArgs false

theorem ownB {w : World} {B B' n : Nat} {e : TypeId} {s : Nat} {v : Value} {xs : List Value} (h : w.ownsRow B e s v n xs) (hB : B' ≤ B) : w.ownsRow B' e s v n xs := by
  refine ⟨h.1, ?_⟩
  rcases h.2 with h1 | ⟨g, cap, cur, h1, h2, h3⟩
  · exact .inl h1
  · exact .inr ⟨g, cap, cur, h1, Nat.le_trans hB h2, h3⟩
theorem Grp.base {P : Program} {K E : TypeId} {W : World} {B B' b c : Nat} {D : DataW Value} {V : Int → Value} {g : Int → List Pr} (h : Grp P K E W B b c D V g) (hB : B' ≤ B) : Grp P K E W B' b c D V g := ⟨h.own, h.elt, fun k => ownB (h.row k) hB, h.apart⟩
theorem But.mono {T T' b : Nat} {x y : World} (h : But T b x y) (hT : T' ≤ T) : But T' b x y := ⟨h.os, h.tape, h.output, h.size, fun k hk hb => h.block k (by omega) hb⟩
/-- what is read stays where nothing but a map is written -/
theorem Ps.but {P : Program} {K : TypeId} {w w' : World} {v : Value} {xs : List Pr} {b c : Nat} {D : DataW Value} (h : Ps w v xs) (hm : w.ownsMap P K HeldP b c D) (hb : But w.heap.size b w w') : Ps w' v xs := by
  obtain ⟨a, cap, rfl, h1, h2, h3⟩ := h
  refine ⟨a, cap, rfl, h1, h2, ?_⟩
  rcases h3 with h3 | ⟨r, o, rfl, hlt, hc⟩
  · exact .inl h3
  · by_cases h0 : xs = []
    · exact .inl h0
    · refine .inr ⟨r, o, rfl, Nat.lt_of_lt_of_le hlt hb.size, fun j hj => ?_⟩
      have hne : r ≠ b := by
        intro e
        obtain ⟨es, clock, he, _⟩ := hm
        have := (hc j hj).1
        subst e
        simp [World.cell?, he] at this
      have e := hb.block r hlt hne
      exact ⟨(World.cell?_of_block (a := ⟨r, o + j * 2, none⟩) e).trans (hc j hj).1, (World.cell?_of_block (a := ⟨r, o + j * 2 + 1, none⟩) e).trans (hc j hj).2⟩
theorem map_but {P : Program} {K : TypeId} {w w' : World} {b T : Nat} {B : Nat} {cs : List Value} {U : TypeId} {c : Nat} {D : DataW Value} (h : Cm w T U cs) (hm : w.ownsMap P K HeldP b c D) (hb : But B b w w') (hT : T < B) : Cm w' T U cs := by
  refine h.of_block (hb.block T hT (fun e => ?_))
  obtain ⟨es, clock, he, _⟩ := hm
  subst e
  rw [show w.heap[T]? = _ from h] at he
  cases he
theorem cm_grown {w w' : World} {T b : Nat} {U : TypeId} {cs : List Value} (h : Cm w T U cs) (hb : w.grownBy w' (some b)) (hne : T ≠ b) : Cm w' T U cs := h.of_block (hb.block T h.lt (fun e => hne (by injection e)))
theorem grown_all {x y z : World} {b : Nat} (h : x.grownBy y (some b)) (k : Below y.heap.size y z) : x.grownBy z (some b) := World.grownBy.trans h (gr_below k _)


set_option maxRecDepth 100000 in
set_option maxHeartbeats 8000000 in
theorem knows_any (n : FuncId) (κ : Pr → Int) (hs : SeesP n κ) (he : EntP n) (b : Nat) (v : Value) (xs : List Pr) (p : Pr) (w : World) (hr : Ps w v xs) :
    Calls Try.prog 52 #[pv n b, v, p.v] w fun e w' => e = .returned (.bool (uniqW κ xs p)) ∧ Below w.heap.size w w' := by
  have KC := Lib.hid (fun W (h : Below w.heap.size w W) => containsP_any v xs p W (hr.below h (Nat.le_refl _)))
  have KF := Lib.hid (fun bp bw W (h : Below w.heap.size w W) hbp hbw => containsF_any _ _ _ v xs W (hr.below h (Nat.le_refl _)) entDoubt (doubt_any n κ hs he p b bp bw W hbp hbw))
  have HR : Hid (uniqW κ xs p = (hasP xs p && !(xs.any (clashW κ p)))) := Lib.hid (by unfold uniqW; rw [Bool.and_comm])
  obtain ⟨a, cap, rfl⟩ := hr.form
  clear hr hs he
  generalize uniqW κ xs p = R at *
  generalize hasP xs p = hp at *
  generalize xs.any (clashW κ p) = an at *
  unfold pv Pr.v at *
  have hb1 : Below w.heap.size w ((w.alloc (.cells #[fv n, .map (some b)] 63)).alloc (.cells #[.int .i64 p.a, .int .i64 p.b] 33)) := by go_grown
  have hA : Cm ((w.alloc (.cells #[fv n, .map (some b)] 63)).alloc (.cells #[.int .i64 p.a, .int .i64 p.b] 33)) w.heap.size 63 [fv n, .map (some b)] := (Cm.new (cs := [fv n, .map (some b)]) rfl).alloc _
  have hB : Cm ((w.alloc (.cells #[fv n, .map (some b)] 63)).alloc (.cells #[.int .i64 p.a, .int .i64 p.b] 33)) (w.heap.size + 1) 33 [.int .i64 p.a, .int .i64 p.b] := Cm.new (cs := [.int .i64 p.a, .int .i64 p.b]) (by simp)
  have hz1 : ((w.alloc (.cells #[fv n, .map (some b)] 63)).alloc (.cells #[.int .i64 p.a, .int .i64 p.b] 33)).heap.size = w.heap.size + 2 := by simp
  unfold fv at *
  go_enter Try.func52, Try.ntmps52
  go_wp2_with fail
  generalize (w.alloc (.cells #[.func (.func n) #[] #[], .map (some b)] 63)).alloc (.cells #[.int .i64 p.a, .int .i64 p.b] 33) = w1 at *
  have d0 := hB.cell 0
  have d1 := hB.cell 1
  simp only [List.getElem?_cons_zero, List.getElem?_cons_succ] at d0 d1
  have A1 := Lib.hid hA
  have P1 := Lib.hid hB
  have B1 := Lib.hid hb1
  clear hA hB hb1
  refine (KC.out _ B1.out).mono ?_
  rintro e w2 ⟨rfl, hb2⟩
  have A2 := Lib.hid (A1.out.all hb2)
  have P2 := Lib.hid (P1.out.all hb2)
  have B2 := Lib.hid (B1.out.trans (hb2.mono B1.out.size))
  clear hb2 d0 d1 A1 P1 B1
  cases hp with
  | false =>
    go_wp2
    go_ret
    exact ⟨by rw [HR.out]; rfl, B2.out⟩
  | true =>
    go_wp2_with fail
    refine (KF.out _ _ _ B2.out P2.out A2.out).mono ?_
    rintro e w3 ⟨rfl, hb3⟩
    have B3 := Lib.hid (B2.out.trans (hb3.mono B2.out.size))
    clear hb3 A2 P2 B2
    go_wp2
    go_ret
    exact ⟨by rw [HR.out]; cases an <;> rfl, B3.out⟩
theorem grp_next {κ : Pr → Int} {xs : List Pr} {k : Nat} (hk : k < xs.length) : (fun y => if y = κ (xs.getD k default) then grpStep (grpP κ (κ (xs.getD k default)) (xs.take k)) (xs.getD k default) else grpP κ y (xs.take k)) = fun y => grpP κ y (xs.take (k + 1)) := by
  funext y
  rw [take_oneP hk, grpP_snoc]
  by_cases h : y = κ (xs.getD k default)
  · rw [if_pos h, if_pos h.symm, h]
  · rw [if_neg h, if_neg (fun e => h e.symm)]
theorem prD_mem {xs : List Pr} {k : Nat} (hk : k < xs.length) : xs.getD k default ∈ xs := by
  rw [List.getD_eq_getElem?_getD, List.getElem?_eq_getElem hk]; exact List.getElem_mem hk
def AnP (b : Nat) (r : List Pr) (w : World) (e : Ending) (w' : World) : Prop :=
  ∃ v, e = .returned v ∧ w'.ownsRow w.heap.size 33 2 v r.length (prCells r) ∧ w'.ownsMap Try.prog 3 HeldP b 0 (.map []) ∧ w.grownBy w' (some b)
set_option maxRecDepth 100000 in
set_option maxHeartbeats 8000000 in
theorem answering_any (n : FuncId) (κ : Pr → Int) (hs : SeesP n κ) (he : EntP n) (kn : Bool) (b : Nat) (v : Value) (xs : List Pr) (w : World) (hr : Ps w v xs) (hwk : ∀ x ∈ xs, (Lit.int .i64 (κ x)).wf = true) (hn : xs.length ≤ 1048576) (hm : w.ownsMap Try.prog 3 HeldP b 0 (.map [])) :
    Calls Try.prog 54 #[pv n b, v, .bool kn] w (AnP b (answK κ kn xs) w) := by
  obtain ⟨a, cap, rfl, h1, h2, h3⟩ := hr.parts
  unfold maxLen at h2
  have hbl := hm.lt
  have HENT := Lib.hid he
  have HSEE := Lib.hid hs
  have KEY := Lib.hid (fun W' (hb : But w.heap.size b w W') => (hr.but hm hb).parts)
  have HM0 := Lib.hid hm
  have HN := Lib.hid hn
  have HWK := Lib.hid (fun k (hk : k < xs.length) => hwk (xs.getD k default) (prD_mem hk))
  have HNX := Lib.hid (fun k hk => grp_next (κ := κ) (xs := xs) (k := k) hk)
  have HLE := Lib.hid (fun y k => grpP_le κ y (xs.take k))
  have HEND : Hid (xs.take xs.length = xs) := Lib.hid (List.take_of_length_le (Nat.le_refl _))
  have HST : Hid ((fun y => grpP κ y (xs.take 0)) = fun _ => []) := Lib.hid rfl
  have HY := Lib.hid (fun k hk h => fltW_yes (xs := xs) (t := fun p => uniqW κ xs p == kn) (k := k) hk h)
  have HNO := Lib.hid (fun k hk h => fltW_no (xs := xs) (t := fun p => uniqW κ xs p == kn) (k := k) hk h)
  have HE : Hid (fltW (fun p => uniqW κ xs p == kn) xs xs.length = answK κ kn xs) := Lib.hid fltW_end
  have HL := Lib.hid (fun k => fltW_len (xs := xs) (t := fun p => uniqW κ xs p == kn) (k := k))
  have HONE := Lib.hid (fun k (hk : k < xs.length) => grp_one (κ := κ) (prD_mem hk))
  clear hr hwk hn hm h3 he hs
  generalize answK κ kn xs = R at *
  unfold pv
  have hC0 : Cm (w.alloc (.cells #[fv n, .map (some b)] 63)) w.heap.size 63 [fv n, .map (some b)] := Cm.new (cs := [fv n, .map (some b)]) rfl
  have hb0 : Below w.heap.size w (w.alloc (.cells #[fv n, .map (some b)] 63)) := (Below.refl _ _).alloc (Nat.le_refl _) _
  have hz0 : (w.alloc (.cells #[fv n, .map (some b)] 63)).heap.size = w.heap.size + 1 := by simp
  have hm0 := HM0.out.alloc (.cells #[fv n, .map (some b)] 63)
  unfold fv at *
  go_enter Try.func54, Try.ntmps54
  go_wp2
  generalize w.alloc (.cells #[.func (.func n) #[] #[], .map (some b)] 63) = w1 at *
  have G0 := Lib.hid (HST.out ▸ Grp.none (E := 33) hm0 (w.heap.size + 1))
  have C0 := Lib.hid hC0
  have HM1 := Lib.hid hm0
  have B0 := Lib.hid hb0
  have Z0 := Lib.hid hz0
  clear hC0 hb0 hz0 hm0
  go_loopw [14] (fun iv wr => ∃ k : Nat, k ≤ xs.length ∧ iv = .int .i64 k ∧ Hid (∃ c D V, c ≤ k ∧ Grp Try.prog 3 33 wr (w.heap.size + 1) b c D V (fun y => grpP κ y (xs.take k))) ∧ Hid (But (w.heap.size + 1) b w1 wr)) (fun iv _ => xs.length - (intOf iv).toNat)
  case atStart => exact ⟨0, Nat.zero_le _, rfl, Lib.hid ⟨0, _, _, Nat.le_refl _, G0.out⟩, Lib.hid (But.refl _ _ _)⟩
  case round =>
    clear G0
    obtain ⟨k, hk, rfl, HG, HB⟩ := hrel
    by_cases hlt : k < xs.length
    · have hww : But w.heap.size b w wr := (But.of_below B0.out (Nat.le_refl _)).trans (HB.out.mono (Nat.le_succ _))
      have hsz1 := HB.out.size
      rw [Z0.out] at hsz1
      obtain ⟨a', cap', ea, e1, e2, e3⟩ := KEY.out wr hww
      obtain ⟨r, o, rfl, hrb, d0, d1⟩ := e3 k hlt
      cases ea
      clear e1 e2 e3 hww
      obtain ⟨cc, D, V, hcc, hG⟩ := HG.out
      have hkw := HWK.out k hlt
      have hle := HLE.out (κ (xs.getD k default)) k
      have HNk := Lib.hid (HNX.out k hlt)
      have hCP : Cm wr w.heap.size 63 [.func (.func n) #[] #[], .map (some b)] := map_but C0.out HM1.out HB.out (Nat.lt_succ_self _)
      have KS := Lib.hid (fun W' => HSEE.out (xs.getD k default) W')
      have KA := Lib.hid (fun W' (hb : Below wr.heap.size wr W') => add_any (w.heap.size + 1) b cc D V _ (κ (xs.getD k default)) (xs.getD k default) W' (hG.below hb (Nat.le_refl _)) hkw hle (by have := HN.out; omega) (by have := hb.size; omega))
      rw [HNk.out] at KA
      clear HNk hG hkw hle HG
      generalize κ (xs.getD k default) = kk at *
      generalize xs.getD k default = x at *
      obtain ⟨xa, xb⟩ := x
      simp only at d0 d1
      unfold Pr.v at KS
      unfold Pr.v AddP at KA
      simp only at KA KS
      have CP := Lib.hid hCP
      clear hCP
      have hent : ∀ args w, (callFunc n args).run Try.prog w = .ok (.enter n args) w := HENT.out
      have hi0 : (0 : Int) ≤ (k : Int) := Int.natCast_nonneg _
      have hi1 : (k : Int) < (xs.length : Int) := by omega
      go_wp2
      have hb2 : Below wr.heap.size wr (wr.alloc (.cells #[.int .i64 xa, .int .i64 xb] 33)) := (Below.refl _ _).alloc (Nat.le_refl _) _
      have hX2 : Cm (wr.alloc (.cells #[.int .i64 xa, .int .i64 xb] 33)) wr.heap.size 33 [.int .i64 xa, .int .i64 xb] := Cm.new (cs := [.int .i64 xa, .int .i64 xb]) rfl
      have hC2 := CP.out.all hb2
      generalize wr.alloc (.cells #[.int .i64 xa, .int .i64 xb] 33) = w2 at *
      have HP : Hid (∀ W', Below w2.heap.size w2 W' → Cm W' w.heap.size 63 [.func (.func n) #[] #[], .map (some b)] ∧ Cm W' wr.heap.size 33 [.int .i64 xa, .int .i64 xb]) := Lib.hid (fun W' hW => ⟨hC2.all hW, hX2.all hW⟩)
      have B2 := Lib.hid hb2
      clear hb2 hX2 hC2 d0 d1
      refine regionL (fun W' => Below w2.heap.size w2 W') [7] (by kernel_rfl) (Below.refl _ _).drew (fun hHeld => ?_)
      refine takeA (i := 0) (v := .pointer (some ⟨w.heap.size, 1, none⟩)) 18 rfl rfl (by kernel_rfl) (by kernel_rfl) (by kernel_rfl) (by kernel_rfl) (fun _ _ _ h => h) (Or.inl ⟨by rfl, by intro W hSw; go_simp⟩) hHeld ?_
      simp only [Act.put, List.setIfInBounds_toArray, List.set_cons_zero, List.set_cons_succ]
      refine takeA (i := 1) (v := .map (some b)) 19 rfl rfl (by kernel_rfl) (by kernel_rfl) (by kernel_rfl) (by kernel_rfl) (fun _ _ _ h => h) (Or.inl ⟨by rfl, by intro W hSw; have c1 := (HP.out _ hSw).1.cell 1; have c0 := (HP.out _ hSw).1.cell 0; go_simp⟩) hHeld ?_
      simp only [Act.put, List.setIfInBounds_toArray, List.set_cons_zero, List.set_cons_succ]
      refine takeA (i := 2) (v := .pointer (some ⟨w.heap.size, 0, none⟩)) 20 rfl rfl (by kernel_rfl) (by kernel_rfl) (by kernel_rfl) (by kernel_rfl) (fun _ _ _ h => h) (Or.inl ⟨by rfl, by intro W hSw; go_simp⟩) hHeld ?_
      simp only [Act.put, List.setIfInBounds_toArray, List.set_cons_zero, List.set_cons_succ]
      refine takeA (i := 3) (v := .func (.func n) #[] #[]) 21 rfl rfl (by kernel_rfl) (by kernel_rfl) (by kernel_rfl) (by kernel_rfl) (fun _ _ _ h => h) (Or.inl ⟨by rfl, by intro W hSw; have c1 := (HP.out _ hSw).1.cell 1; have c0 := (HP.out _ hSw).1.cell 0; go_simp⟩) hHeld ?_
      simp only [Act.put, List.setIfInBounds_toArray, List.set_cons_zero, List.set_cons_succ]
      refine takeA (i := 4) (v := .agg #[.int .i64 xa, .int .i64 xb]) 22 rfl rfl (by kernel_rfl) (by kernel_rfl) (by kernel_rfl) (by kernel_rfl) (fun _ _ _ h => h) (Or.inl ⟨by rfl, by intro W hSw; have c1 := (HP.out _ hSw).2.cell 1; have c0 := (HP.out _ hSw).2.cell 0; go_simp⟩) hHeld ?_
      simp only [Act.put, List.setIfInBounds_toArray, List.set_cons_zero, List.set_cons_succ]
      refine takeA (i := 6) (v := .agg #[.int .i64 xa, .int .i64 xb]) 24 rfl rfl (by kernel_rfl) (by kernel_rfl) (by kernel_rfl) (by kernel_rfl) (fun _ _ _ h => h) (Or.inl ⟨by rfl, by intro W hSw; have c1 := (HP.out _ hSw).2.cell 1; have c0 := (HP.out _ hSw).2.cell 0; go_simp⟩) hHeld ?_
      simp only [Act.put, List.setIfInBounds_toArray, List.set_cons_zero, List.set_cons_succ]
      refine onlyL (i := 5) (by kernel_rfl) rfl (by rfl) (fun K hK => ?_)
      go_simp
      refine (KS.out _).mono ?_
      rintro e w3 ⟨rfl, hb3⟩
      have t3 : Below w2.heap.size w2 w3 := hHeld.trans (hb3.mono hHeld.size)
      clear hb3
      refine hK.out _ _ (fun _ => t3) (fun hHeld => ?_)
      clear hHeld hK K
      try simp only [Act.put, List.setIfInBounds_toArray, List.set_cons_zero, List.set_cons_succ]
      refine onlyL (i := 7) (by kernel_rfl) rfl (by rfl) (fun K hK => ?_)
      go_simp
      refine (KA.out _ (B2.out.trans (t3.mono B2.out.size))).mono ?_
      rintro e w4 ⟨rfl, c', D', V', hc', hG4, hb4⟩
      have G4 := Lib.hid hG4
      have B4 : Hid (But (w.heap.size + 1) b w1 w4) := Lib.hid (HB.out.trans ((But.of_below (B2.out.trans (t3.mono B2.out.size)) (by omega)).trans hb4))
      clear hG4 hb4
      refine hK.out _ _ (fun h => absurd (by decide) h) (fun _ => ?_)
      clear hK K t3 hHeld
      refine doneL (by kernel_rfl) ?_ _
      go_wp2
      go_roundw
      case rel => exact ⟨k + 1, by omega, by go_num, Lib.hid ⟨c', D', V', by omega, G4.out⟩, B4⟩
      case measure => simp [intOf]; omega
    · obtain ⟨k', hk'⟩ : ∃ y, y = k := ⟨_, rfl⟩
      subst hk'
      obtain rfl : k' = xs.length := by omega
      obtain ⟨cc, D, V, hcc, hG⟩ := HG.out
      rw [HEND.out] at hG
      have G2 := Lib.hid hG
      have A2 := Lib.hid (map_but C0.out HM1.out HB.out (Nat.lt_succ_self _))
      have W2 : Hid (w.grownBy wr (some b)) := Lib.hid ((But.of_below B0.out (Nat.le_refl _)).trans (HB.out.mono (Nat.le_succ _))).grown
      have T2 : Hid (But w.heap.size b w wr) := Lib.hid ((But.of_below B0.out (Nat.le_refl _)).trans (HB.out.mono (Nat.le_succ _)))
      have lt2 : w.heap.size < wr.heap.size := A2.out.lt
      have bl2 : b < wr.heap.size := hG.own.lt
      clear hG HG HB
      obtain ⟨w2, hw2⟩ : ∃ y, y = wr := ⟨_, rfl⟩
      subst hw2
      have KI := Lib.hid (fun W' k (hk : k < xs.length) (hb : Below w2.heap.size w2 W') => hasOne_any _ b cc D V _ (κ (xs.getD k default)) W' (G2.out.below hb (Nat.le_refl _)) (HWK.out k hk))
      go_wp2
      go_loopw [9, 29] (fun lv iv wr => ∃ (k : Nat) (lv' : Value), k ≤ xs.length ∧ iv = .int .i64 k ∧ lv' = lv ∧ Hid (wr.ownsRow w2.heap.size 33 2 lv' (fltW (fun p => uniqW κ xs p == kn) xs k).length (prCells (fltW (fun p => uniqW κ xs p == kn) xs k))) ∧ Hid (Below w2.heap.size w2 wr)) (fun _ iv _ => xs.length - (intOf iv).toNat)
      case atStart => exact ⟨0, _, Nat.zero_le _, rfl, rfl, Lib.hid (World.ownsRow_nil _ _ _ _), Lib.hid (Below.refl _ _)⟩
      case round =>
        obtain ⟨k, lv, hk, rfl, rfl, HO, HB⟩ := hrel
        have hsz := HB.out.size
        by_cases hlt : k < xs.length
        · have hww : But w.heap.size b w wr := T2.out.trans (But.of_below HB.out (by omega))
          obtain ⟨a', cap', ea, e1, e2, e3⟩ := KEY.out wr hww
          obtain ⟨r, o, rfl, hrb, d0, d1⟩ := e3 k hlt
          cases ea
          clear e1 e2 e3 hww
          have HYk := Lib.hid (HY.out k hlt)
          have HNk := Lib.hid (HNO.out k hlt)
          have HLk := Lib.hid (HL.out k)
          have KS := Lib.hid (fun W' => HSEE.out (xs.getD k default) W')
          have KIk := Lib.hid (fun W' (hb : Below w2.heap.size w2 W') => KI.out W' k hlt hb)
          rw [← HONE.out k hlt] at KIk
          generalize κ (xs.getD k default) = kk at *
          generalize xs.getD k default = x at *
          obtain ⟨ow, how⟩ : ∃ ow, ow = uniqW κ xs x := ⟨_, rfl⟩
          simp only [← how] at HYk HNk KIk
          clear how
          obtain ⟨xa, xb⟩ := x
          simp only at d0 d1
          unfold Pr.v at KS
          have hent : ∀ args w, (callFunc n args).run Try.prog w = .ok (.enter n args) w := HENT.out
          have hi0 : (0 : Int) ≤ (k : Int) := Int.natCast_nonneg _
          have hi1 : (k : Int) < (xs.length : Int) := by omega
          have hA3 := A2.out.all HB.out
          go_wp2
          have hb3 : Below wr.heap.size wr (wr.alloc (.cells #[.int .i64 xa, .int .i64 xb] 33)) := (Below.refl _ _).alloc (Nat.le_refl _) _
          have hX3 : Cm (wr.alloc (.cells #[.int .i64 xa, .int .i64 xb] 33)) wr.heap.size 33 [.int .i64 xa, .int .i64 xb] := Cm.new (cs := [.int .i64 xa, .int .i64 xb]) rfl
          have hC3 := hA3.all hb3
          generalize wr.alloc (.cells #[.int .i64 xa, .int .i64 xb] 33) = w3 at *
          have HP : Hid (∀ W', Below w3.heap.size w3 W' → Cm W' w.heap.size 63 [.func (.func n) #[] #[], .map (some b)] ∧ Cm W' wr.heap.size 33 [.int .i64 xa, .int .i64 xb]) := Lib.hid (fun W' hW => ⟨hC3.all hW, hX3.all hW⟩)
          have B3 : Hid (Below w2.heap.size w2 w3) := Lib.hid (HB.out.trans (hb3.mono hsz))
          have O3 := Lib.hid (own_below HO.out hb3 (Nat.le_refl _))
          have l3 : wr.heap.size < w3.heap.size := hX3.lt
          clear hb3 hX3 hC3 hA3 d0 d1 HO HB
          refine regionL (fun W' => Below w3.heap.size w3 W') [] (by kernel_rfl) (Below.refl _ _).drew (fun hHeld => ?_)
          refine takeA (i := 0) (v := .pointer (some ⟨w.heap.size, 1, none⟩)) 33 rfl rfl (by kernel_rfl) (by kernel_rfl) (by kernel_rfl) (by kernel_rfl) (fun _ _ _ h => h) (Or.inl ⟨by rfl, by intro W hSw; go_simp⟩) hHeld ?_
          simp only [Act.put, List.setIfInBounds_toArray, List.set_cons_zero, List.set_cons_succ]
          refine takeA (i := 1) (v := .map (some b)) 34 rfl rfl (by kernel_rfl) (by kernel_rfl) (by kernel_rfl) (by kernel_rfl) (fun _ _ _ h => h) (Or.inl ⟨by rfl, by intro W hSw; have c1 := (HP.out _ hSw).1.cell 1; have c0 := (HP.out _ hSw).1.cell 0; go_simp⟩) hHeld ?_
          simp only [Act.put, List.setIfInBounds_toArray, List.set_cons_zero, List.set_cons_succ]
          refine takeA (i := 2) (v := .pointer (some ⟨w.heap.size, 0, none⟩)) 35 rfl rfl (by kernel_rfl) (by kernel_rfl) (by kernel_rfl) (by kernel_rfl) (fun _ _ _ h => h) (Or.inl ⟨by rfl, by intro W hSw; go_simp⟩) hHeld ?_
          simp only [Act.put, List.setIfInBounds_toArray, List.set_cons_zero, List.set_cons_succ]
          refine takeA (i := 3) (v := .func (.func n) #[] #[]) 36 rfl rfl (by kernel_rfl) (by kernel_rfl) (by kernel_rfl) (by kernel_rfl) (fun _ _ _ h => h) (Or.inl ⟨by rfl, by intro W hSw; have c1 := (HP.out _ hSw).1.cell 1; have c0 := (HP.out _ hSw).1.cell 0; go_simp⟩) hHeld ?_
          simp only [Act.put, List.setIfInBounds_toArray, List.set_cons_zero, List.set_cons_succ]
          refine takeA (i := 4) (v := .agg #[.int .i64 xa, .int .i64 xb]) 37 rfl rfl (by kernel_rfl) (by kernel_rfl) (by kernel_rfl) (by kernel_rfl) (fun _ _ _ h => h) (Or.inl ⟨by rfl, by intro W hSw; have c1 := (HP.out _ hSw).2.cell 1; have c0 := (HP.out _ hSw).2.cell 0; go_simp⟩) hHeld ?_
          simp only [Act.put, List.setIfInBounds_toArray, List.set_cons_zero, List.set_cons_succ]
          refine takeA (i := 7) (v := .bool kn) 40 rfl rfl (by kernel_rfl) (by kernel_rfl) (by kernel_rfl) (by kernel_rfl) (fun _ _ _ h => h) (Or.inl ⟨by rfl, by intro W hSw; go_simp⟩) hHeld ?_
          simp only [Act.put, List.setIfInBounds_toArray, List.set_cons_zero, List.set_cons_succ]
          refine onlyL (i := 5) (by kernel_rfl) rfl (by rfl) (fun K hK => ?_)
          go_simp
          refine (KS.out _).mono ?_
          rintro e w4 ⟨rfl, hb4⟩
          have t4 : Below w3.heap.size w3 w4 := hHeld.trans (hb4.mono hHeld.size)
          clear hb4
          refine hK.out _ _ (fun _ => t4) (fun hHeld => ?_)
          have hHeld := hHeld (by decide)
          clear hK K
          try simp only [Act.put, List.setIfInBounds_toArray, List.set_cons_zero, List.set_cons_succ]
          refine onlyL (i := 6) (by kernel_rfl) rfl (by rfl) (fun K hK => ?_)
          go_simp
          refine (KIk.out _ (B3.out.trans (t4.mono B3.out.size))).mono ?_
          rintro e w5 ⟨rfl, hb5⟩
          have t5 : Below w3.heap.size w3 w5 := t4.trans (hb5.mono t4.size)
          clear hb5
          refine hK.out _ _ (fun _ => t5) (fun hHeld => ?_)
          have hHeld := hHeld (by decide)
          clear hK K
          try simp only [Act.put, List.setIfInBounds_toArray, List.set_cons_zero, List.set_cons_succ]
          refine takeA (i := 8) (v := .bool (ow == kn)) 41 rfl rfl (by kernel_rfl) (by kernel_rfl) (by kernel_rfl) (by kernel_rfl) (fun _ _ _ h => h) (Or.inl ⟨by rfl, by intro W hSw; go_simp⟩) hHeld ?_
          simp only [Act.put, List.setIfInBounds_toArray, List.set_cons_zero, List.set_cons_succ]
          refine doneL (by kernel_rfl) ?_ _
          have HO5 := Lib.hid (own_below O3.out t5 (Nat.le_refl _))
          have HB5 := Lib.hid (B3.out.trans (t5.mono B3.out.size))
          have c0 := (HP.out _ t5).2.cell 0
          have c1 := (HP.out _ t5).2.cell 1
          simp only [List.getElem?_cons_zero, List.getElem?_cons_succ] at c0 c1
          have hwl : wr.heap.size < w5.heap.size := (HP.out _ t5).2.lt
          have hsz5 := HB5.out.size
          clear t4 t5 hHeld HP O3 B3 KS KIk
          by_cases hq : ow = kn
          · have HR := Lib.hid (HYk.out (by rw [hq]; exact beq_self_eq_true _))
            have hqb : (ow == kn) = true := by rw [hq]; exact beq_self_eq_true _
            rw [hqb]
            clear HYk HNk hqb hq
            go_wp2_with
              (at_builtin; refine wpList_push2 rfl (.tmp 42) (.tmp 44) 22 rfl 33 (.agg #[.int .i64 0, .int .i64 0]) 16 Try.underlying22 Try.infoPr rfl w2.heap.size w5 (.int .i64 xa) (.int .i64 xb) lv (fltW (fun p => uniqW κ xs p == kn) xs k).length (prCells (fltW (fun p => uniqW κ xs p == kn) xs k)) HO5.out rfl w5.heap.size rfl rfl rfl rfl (by unfold maxLen; have := HLk.out; have := HN.out; omega) (by have := HLk.out; have := HN.out; omega) hsz5 ?_; intro v6 w6 hown hb6 hg; have L6 := Lib.hid hown; have B6 := Lib.hid (HB5.out.trans hb6); clear hown hg hb6)
            clear c0 c1
            go_roundw
            case rel => exact ⟨k + 1, _, by omega, by go_num, rfl, Lib.hid (by rw [HR.out, prCells_app, List.length_append]; exact L6.out), B6⟩
            case measure => simp [intOf] <;> omega
          · have hqb : (ow == kn) = false := beq_eq_false_iff_ne.2 hq
            have HR := Lib.hid (HNk.out hqb)
            rw [hqb]
            clear HYk HNk hq hqb
            go_wp2
            clear c0 c1
            go_roundw
            case rel => exact ⟨k + 1, _, by omega, by go_num, rfl, Lib.hid (by rw [HR.out]; exact HO5.out), HB5⟩
            case measure => simp [intOf] <;> omega
        · obtain ⟨k', hk'⟩ : ∃ y, y = k := ⟨_, rfl⟩
          subst hk'
          have HR : Hid (fltW (fun p => uniqW κ xs p == kn) xs k' = R) := Lib.hid (by rw [show k' = xs.length by omega]; exact HE.out)
          have hA3 := A2.out.all HB.out
          have G3 := Lib.hid (G2.out.below HB.out (Nat.le_refl _))
          have W3 := Lib.hid (grown_all W2.out HB.out)
          have c0 := hA3.cell 0
          have c1 := hA3.cell 1
          simp only [List.getElem?_cons_zero, List.getElem?_cons_succ] at c0 c1
          have hwl0 : w.heap.size < wr.heap.size := by omega
          clear hA3
          go_wp2_with
            (refine wpList_clear_map _ rfl (.tmp 48) 61 22 rfl Try.underlying61 rfl G3.out.own ?_; intro w4 hm4 hg4 hs4; have M4 := Lib.hid hm4; have W4 := Lib.hid (World.grownBy.trans W3.out hg4); have O4 := Lib.hid (HO.out.kept hg4 (by rcases e : lv.ownBlock with _ | g; exact .inl rfl; exact .inr (fun e2 => by have := (HO.out.lt g e).1; injection e2 with e2; omega))); clear hm4 hg4)
          go_ret
          exact ⟨_, rfl, by rw [← HR.out]; exact ownB O4.out (by omega), M4.out, W4.out⟩
end Go.Proofs.Ytmcjimmebbkjcaa
