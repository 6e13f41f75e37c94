/-
  spec.l09Agent, spec.ChainAgents. Condition of the first: the model is valid, the worlds are its own.
-/
import Derived.Test.YthjfanhhindjlaaCha
import Derived.Test.YthjfanhhindjlaaWks
import Derived.Test.YthjfanhhindjlaaZMok
namespace Go.Proofs.Ythjfanhhindjlaa
open Go.RowKit Go.WideShapes
open Go Go.Deep
set_option linter.unusedSimpArgs false

/-- the first agent who confuses two worlds, or -1 -/
def agI (m : Md) (i j : Nat) : Int := if near m.blocks m.blocks.length i j then (fstA m.blocks m.blocks.length i j : Int) else -1
set_option maxRecDepth 100000 in
set_option maxHeartbeats 8000000 in
theorem specAgent_any (lo hi : Nat) (v : Value) (m : Md) (i j : Nat) (w : World) (hr : Mv lo hi w v m) (hm : mdOk m = true) (hi' : i < m.facts.length) (hj : j < m.facts.length) :
    Calls Try.prog 52 #[v, .int .i64 i, .int .i64 j] w fun e w' => e = .returned (.int .i64 (agI m i j)) ∧ Below w.heap.size w w' := by
  obtain ⟨hn1, hn2, p3, p4, p5, -, -, -⟩ := mdOk_parts hm
  have HLN := Lib.hid (fun k hk => (p5 k hk).1)
  have HIT : Hid (∀ k, k < m.blocks.length → near m.blocks k i j = false → ((m.blocks.getD k []).getD i 0 == (m.blocks.getD k []).getD j 0) = true → agI m i j = (k : Int)) := Lib.hid (fun k hk h hq => by
    have h1 : near m.blocks m.blocks.length i j = true := near_mono (a := k + 1) (by rw [near_succ, hq]; simp) (by omega)
    unfold agI; rw [if_pos h1, fstA_hit hk h hq])
  have HEND : Hid (near m.blocks m.blocks.length i j = false → agI m i j = -1) := Lib.hid (fun h => by unfold agI; rw [h]; rfl)
  have HNS := Lib.hid (fun k => near_succ m.blocks k i j)
  generalize agI m i j = R at *
  obtain ⟨fv, bv, rfl, hf, hb⟩ := hr
  obtain ⟨b, o, bc, rfl, q1, r1, hrow⟩ := hb.kept p3
  have HRW := Lib.hid hrow
  unfold maxLen at r1
  generalize m.facts.length = n at *
  generalize m.actual = act at *
  generalize han : m.blocks.length = an at *
  clear hf hb hm p5 hrow han
  go_enter Try.func52, Try.ntmps52
  go_wp2
  have B1 : Hid (Below w.heap.size w (w.alloc (.cells #[fv, .slice (some ⟨b, o, none⟩) an bc, .int .i64 act] 30))) := Lib.hid (by go_grown)
  generalize w.alloc (.cells #[fv, .slice (some ⟨b, o, none⟩) an bc, .int .i64 act] 30) = w1 at *
  go_loopw [12] (fun iv wr => ∃ k : Nat, k ≤ an ∧ iv = .int .i64 k ∧ Hid (near m.blocks k i j = false) ∧ Hid (Below w.heap.size w wr)) (fun iv _ => an - (intOf iv).toNat)
  case atStart => exact ⟨0, Nat.zero_le _, rfl, Lib.hid rfl, B1⟩
  case round =>
    clear B1
    obtain ⟨k, hk, rfl, HK, BR⟩ := hrel
    by_cases hlt : k < an
    · obtain ⟨u, cu, hu⟩ := HRW.out _ BR.out k hlt
      obtain ⟨ub, uo, uc, rfl, u1, u2, u3⟩ := hu.kept (by rw [HLN.out k hlt]; omega)
      rw [HLN.out k hlt] at u1 u3 cu
      have ci := u3 wr (Below.refl _ _) i hi'
      have cj := u3 wr (Below.refl _ _) j hj
      unfold maxLen at u2
      have HITk := Lib.hid (HIT.out k hlt HK.out)
      have HNk := Lib.hid (HNS.out k)
      rw [HK.out, Bool.false_or] at HNk
      obtain ⟨x, hx⟩ : ∃ x, x = (m.blocks.getD k []).getD i 0 := ⟨_, rfl⟩
      obtain ⟨y, hy⟩ : ∃ y, y = (m.blocks.getD k []).getD j 0 := ⟨_, rfl⟩
      rw [← hx] at ci HITk HNk
      rw [← hy] at cj HITk HNk
      clear hx hy hu u3
      have k0 : (0 : Int) ≤ (k : Int) := Int.natCast_nonneg _
      have kn : (k : Int) < (an : Int) := by omega
      have i0 : (0 : Int) ≤ (i : Int) := Int.natCast_nonneg _
      have i1 : (i : Int) < (n : Int) := by omega
      have j0 : (0 : Int) ≤ (j : Int) := Int.natCast_nonneg _
      have j1 : (j : Int) < (n : Int) := by omega
      obtain ⟨s, hs⟩ : ∃ s, s = (x == y) := ⟨_, rfl⟩
      rw [← hs] at HITk HNk
      have d5 := hs.symm
      clear hs
      cases s with
      | true =>
        have HQ : Hid (R = (k : Int)) := Lib.hid (HITk.out rfl)
        clear HITk HNk
        go_wp2
        go_quiet (fail)
        go_wp2
        go_ret
        exact ⟨by rw [HQ.out]; rfl, below_drewN' BR.out _⟩
      | false =>
        have HQ : Hid (near m.blocks (k + 1) i j = false) := HNk
        clear HITk HNk
        go_wp2
        go_quiet (fail)
        go_wp2
        go_roundw
        case rel => exact ⟨k + 1, by omega, by go_num, HQ, Lib.hid (below_drewN' BR.out _)⟩
        case measure => simp [intOf]; omega
    · obtain rfl : k = an := by omega
      have HQ := Lib.hid (HEND.out HK.out)
      go_wp2
      go_ret
      exact ⟨by rw [HQ.out]; rfl, BR.out⟩

set_option maxRecDepth 100000 in
set_option maxHeartbeats 32000000 in
theorem specChain_any (lo hi lo2 hi2 : Nat) (v v2 : Value) (m : Md) (l : List Int) (w : World) (hr : Mv lo hi w v m) (_hhi : hi ≤ w.heap.size) (hr2 : Iv lo2 hi2 w v2 l) (_hn : l.length ≤ 1048576) :
    Calls Try.prog 24 #[v, v2] w (IntsAns2 w (chR m l) (chOk m l)) := by
  have KS := Lib.hid (fun W (h : Below w.heap.size w W) => specOk_any lo hi v m W (hr.keeps (Keeps.of_all h)))
  rw [specOk_mdOk] at KS
  have KW := Lib.hid (fun x W (h : Below w.heap.size w W) => specWorld_any lo hi v m x W (hr.keeps (Keeps.of_all h)))
  have KA := Lib.hid (fun (hm : mdOk m = true) i j (hi' : i < m.facts.length) (hj : j < m.facts.length) W (h : Below w.heap.size w W) => specAgent_any lo hi v m i j W (hr.keeps (Keeps.of_all h)) hm hi' hj)
  have HKL := Lib.hid (fun h => hr2.kept h)
  obtain ⟨la, lc, rfl⟩ := hr2.form
  have HR : Hid (chOk m l = (mdOk m && inAll l m.facts.length && (List.range (l.length - 1)).all (nrA m l))) := Lib.hid rfl
  have HRL : Hid (chR m l = if chOk m l then nums ((List.range (l.length - 1)).map (agA m l)) else []) := Lib.hid rfl
  generalize chR m l = rl at *
  generalize chOk m l = R at *
  unfold IntsAns2
  obtain ⟨fv, bv, rfl, hf, hb⟩ := hr
  clear hf hb hr2
  cases hm : mdOk m with
  | false =>
    rw [hm] at KS
    have HR' : Hid (R = false) := Lib.hid (by rw [HR.out, hm]; rfl)
    have HL' : Hid (rl = []) := Lib.hid (by rw [HRL.out, HR'.out]; rfl)
    clear HR hm HRL HKL KW KA
    go_enter Try.func24, Try.ntmps24
    go_wp2_with fail
    refine (KS.out _ (by go_grown)).mono ?_
    rintro e w1 ⟨rfl, hb1⟩
    have B1 : Hid (Below w.heap.size w w1) := Lib.hid (Below.trans (by go_grown) (hb1.mono (by simp)))
    clear hb1
    go_wp2
    go_returns
    exact ⟨.slice none 0 0, by rw [HR'.out]; rfl, by rw [HL'.out]; exact Ro.of_own (World.ownsRow_nil _ _ _ _), B1.out⟩
  | true =>
    rw [hm] at KS HR
    have KA := Lib.hid (KA.out hm)
    have HNI : Hid (∀ k, k < l.length → inB (l.getD k 0) m.facts.length = false → R = false) := Lib.hid (fun k hk h => by rw [HR.out, show inAll l m.facts.length = false from all_no hk h]; rfl)
    have HN : Hid (∀ k, k < l.length - 1 → nrA m l k = false → R = false) := Lib.hid (fun k hk h => by rw [HR.out, all_no hk h]; simp)
    have HY : Hid ((∀ k, k < l.length → inB (l.getD k 0) m.facts.length = true) → (∀ k, k < l.length - 1 → nrA m l k = true) → R = true) := Lib.hid (fun h1 h => by rw [HR.out, all_yes h, show inAll l m.facts.length = true from all_yes h1]; rfl)
    have HRY : Hid (R = true → rl = nums ((List.range (l.length - 1)).map (agA m l))) := Lib.hid (fun h => by rw [HRL.out, h]; rfl)
    have HRN : Hid (R = false → rl = []) := Lib.hid (fun h => by rw [HRL.out, h]; rfl)
    have HNR : Hid (∀ k i j : Nat, l.getD k 0 = (i : Int) → l.getD (k + 1) 0 = (j : Int) → agI m i j = if nrA m l k then (agA m l k : Int) else -1) := Lib.hid (fun k i j h1 h2 => by unfold nrA agA agI; rw [h1, h2, Int.toNat_natCast, Int.toNat_natCast])
    have HMS := Lib.hid (fun k => mapR_succ (f := agA m l) k)
    have HIN := Lib.hid (fun x (h : inB x m.facts.length = true) => (by obtain ⟨h0, h1⟩ := inB_parts h; obtain ⟨i, hi⟩ := Int.eq_ofNat_of_zero_le h0; exact ⟨i, by omega, hi⟩ : ∃ i : Nat, i < m.facts.length ∧ x = (i : Int)))
    have p2 := (mdOk_parts hm).2.1
    have p4 := (mdOk_parts hm).2.2.2.1
    have HAB : Hid (∀ k, agA m l k < 4) := Lib.hid (fun k => by
      unfold agA fstA
      cases h : (List.range m.blocks.length).find? (fun k_1 => (m.blocks.getD k_1 []).getD ((l.getD k 0).toNat) 0 == (m.blocks.getD k_1 []).getD ((l.getD (k + 1) 0).toNat) 0) with
      | none => show 0 < 4; omega
      | some q => have := List.mem_range.1 (List.mem_of_find?_eq_some h); show q < 4; omega)
    generalize agA m l = ag at *
    generalize nrA m l = nr at *
    generalize m.facts.length = n at *
    generalize m.actual = act at *
    clear HR HRL hm
    go_enter Try.func24, Try.ntmps24
    go_wp2_with fail
    refine (KS.out _ (by go_grown)).mono ?_
    rintro e w1 ⟨rfl, hb1⟩
    have X1 := Lib.hid (Mcell.below (b := w.heap.size) (Mcell.new (fv := fv) (bv := bv) (n := act) rfl) hb1)
    have B1 : Hid (Below w.heap.size w w1) := Lib.hid (Below.trans (by go_grown) (hb1.mono (by simp)))
    have sb1 : w.heap.size ≤ w1.heap.size := B1.out.size
    have hlt1 := X1.out.lt
    clear hb1
    go_wp2
    go_loopw [6, 16] (fun lv iv wr => ∃ (k : Nat) (lv' : Value), k ≤ l.length ∧ iv = .int .i64 k ∧ lv' = lv ∧ Hid (wr.ownsRow w1.heap.size 3 1 lv' (k - 1) (ints (nums ((List.range (k - 1)).map ag)))) ∧ Hid (∀ j, j < k → inB (l.getD j 0) n = true) ∧ Hid (∀ j, j < k - 1 → nr j = true) ∧ Hid (Below w1.heap.size w1 wr)) (fun _ iv _ => l.length - (intOf iv).toNat)
    case atStart => exact ⟨0, _, Nat.zero_le _, rfl, rfl, Lib.hid (World.ownsRow_lit w1 #[] 0 (Nat.le_refl _) (Nat.zero_le _) rfl), Lib.hid (fun j h => absurd h (Nat.not_lt_zero _)), Lib.hid (fun j h => absurd h (Nat.not_lt_zero _)), Lib.hid (by go_grown)⟩
    case round =>
      obtain ⟨k, lv, hk, rfl, rfl, LR, HI, HJ, BR⟩ := hrel
      by_cases hlt : k < l.length
      · obtain ⟨b, o, c, e, q1, q2, q3⟩ := HKL.out (by omega)
        cases e
        unfold maxLen at q2
        have hszr : w1.heap.size ≤ wr.heap.size := BR.out.size
        have BB : Hid (Below w.heap.size w wr) := Lib.hid (B1.out.trans (BR.out.mono sb1))
        have X2 : Hid (Mcell wr w.heap.size fv bv act) := Lib.hid (X1.out.of_block (BR.out.block _ hlt1))
        have ck := q3 wr BB.out k hlt
        have HNIk := Lib.hid (HNI.out k hlt)
        have HINk := Lib.hid (HIN.out (l.getD k 0))
        have KWk := Lib.hid (KW.out (l.getD k 0))
        have HI2 : Hid (inB (l.getD k 0) n = true → ∀ j, j < k + 1 → inB (l.getD j 0) n = true) := Lib.hid (fun h j hj => by
          rcases Nat.lt_or_eq_of_le (Nat.le_of_lt_succ hj) with h1 | rfl
          · exact HI.out j h1
          · exact h)
        have hkk : l.getD k 0 = l.getD k 0 := rfl
        have HQK := Lib.hid q3
        obtain ⟨x, hx⟩ : ∃ x, x = l.getD k 0 := ⟨_, rfl⟩
        rw [← hx] at ck HNIk HINk KWk HI2
        have HX := Lib.hid hx
        clear hx hkk q3
        obtain ⟨bb, hbb⟩ : ∃ bb, bb = inB x n := ⟨_, rfl⟩
        rw [← hbb] at HNIk HINk KWk HI2
        clear hbb
        have k0 : (0 : Int) ≤ (k : Int) := Int.natCast_nonneg _
        have kn : (k : Int) < (l.length : Int) := by omega
        have k3 : (k : Int) < 1048576 := by omega
        obtain ⟨c0, c1, c2, c3, c4, c5⟩ := X2.out
        cases bb with
        | false =>
          have HQ : Hid (R = false) := Lib.hid (HNIk.out rfl)
          have HQL : Hid (rl = []) := Lib.hid (HRN.out HQ.out)
          clear HNIk HINk HI2
          go_wp2_with fail
          clear c0 c1 c2 c3 c4 c5 ck
          refine (KWk.out _ BB.out).mono ?_
          rintro e w4 ⟨rfl, hb4⟩
          have BB := Lib.hid (BB.out.trans (hb4.mono BB.out.size))
          clear hb4
          go_wp2
          go_returns
          exact ⟨.slice none 0 0, by rw [HQ.out]; rfl, by rw [HQL.out]; exact Ro.of_own (World.ownsRow_nil _ _ _ _), BB.out⟩
        | true =>
          have HI3 : Hid (∀ j, j < k + 1 → inB (l.getD j 0) n = true) := Lib.hid (HI2.out rfl)
          obtain ⟨j, hj, rfl⟩ := HINk.out rfl
          clear HNIk HINk HI2
          go_wp2_with fail
          clear c0 c1 c2 c3 c4 c5 ck
          refine (KWk.out _ BB.out).mono ?_
          rintro e w4 ⟨rfl, hb4⟩
          have LR := Lib.hid (own_keeps LR.out fun q hq => hb4.block q (LR.out.lt q hq).2)
          have BR := Lib.hid (BR.out.trans (hb4.mono hszr))
          have BB := Lib.hid (BB.out.trans (hb4.mono BB.out.size))
          have X2 := Lib.hid (X2.out.below hb4)
          have hsz4 : w1.heap.size ≤ w4.heap.size := BR.out.size
          clear hb4
          rcases Nat.eq_zero_or_pos k with hk0 | hkp
          · subst hk0
            go_wp2
            go_roundw
            case rel => exact ⟨1, _, by omega, by go_num, rfl, LR, HI3, Lib.hid (fun j h => absurd h (Nat.not_lt_zero _)), BR⟩
            case measure => simp [intOf]; omega
          · obtain ⟨k', rfl⟩ : ∃ k', k = k' + 1 := ⟨k - 1, by omega⟩
            rw [Nat.add_sub_cancel] at LR HJ
            obtain ⟨i, hi, hxi⟩ := HIN.out (l.getD k' 0) (HI.out k' (by omega))
            have ca := Lib.hid (fun W (h : Below w.heap.size w W) => (HQK.out W h k' (by omega)).trans (by rw [hxi]))
            have HA := Lib.hid (HNR.out k' i j hxi HX.out.symm)
            have HNk := Lib.hid (HN.out k' (by omega))
            have HMk := Lib.hid (HMS.out k')
            have hab := HAB.out k'
            have HJ2 : Hid (nr k' = true → ∀ j, j < k' + 1 → nr j = true) := Lib.hid (fun h j hj => by
              rcases Nat.lt_or_eq_of_le (Nat.le_of_lt_succ hj) with h1 | rfl
              · exact HJ.out j h1
              · exact h)
            have KAk := Lib.hid (KA.out i j hi hj)
            rw [HA.out] at KAk
            generalize ag k' = fa at *
            generalize nr k' = na at *
            have f0 : ¬ ((k' : Int) + 1 = 0) := by omega
            have f1 : IntKind.i64.wrap (k' : Int) = (k' : Int) := IntWalk.i64_in _ (by omega)
            have f2 : (0 : Int) ≤ (k' : Int) := Int.natCast_nonneg _
            have f3 : (k' : Int) < (l.length : Int) := by omega
            have hzw : w.heap.size ≤ w4.heap.size := BB.out.size
            clear HA hxi HX k0 kn k3
            go_wp2
            have HRG : Hid (∀ W, Below w4.heap.size w4 W → W.rangeAt w.heap.size 0 [fv, bv, .int .i64 act]) := Lib.hid (fun W h => (X2.out.below h).range)
            have HU : Try.prog.underlying 30 = some _ := Try.underlying30
            refine regionL (fun W => Below w4.heap.size w4 W) [] (by kernel_rfl) (Below.refl _ _).drew (fun hHeld => ?_)
            refine takeA (i := 0) (v := .agg #[fv, bv, .int .i64 act]) 27 rfl rfl (by kernel_rfl) (by kernel_rfl) (by kernel_rfl) (by kernel_rfl) (fun _ _ _ h => h) (yieldsIf_load_mid (by rfl) 30 _ rfl w.heap.size 0 rfl [fv, bv, .int .i64 act] _ HRG.out HU rfl Try.sizeMd) hHeld ?_
            simp only [Act.put, List.setIfInBounds_toArray, List.set_cons_zero, List.set_cons_succ]
            refine takeA (i := 1) (v := .slice (some ⟨b, o, none⟩) l.length lc) 28 rfl rfl (by kernel_rfl) (by kernel_rfl) (by kernel_rfl) (by kernel_rfl) (fun _ _ _ h => h) (Or.inl ⟨by rfl, by intro W hSw; go_simp⟩) hHeld ?_
            simp only [Act.put, List.setIfInBounds_toArray, List.set_cons_zero, List.set_cons_succ]
            refine takeA (i := 2) (v := .int .i64 ((k' + 1 : Nat) : Int)) 29 rfl rfl (by kernel_rfl) (by kernel_rfl) (by kernel_rfl) (by kernel_rfl) (fun _ _ _ h => h) (Or.inl ⟨by rfl, by intro W hSw; go_simp⟩) hHeld ?_
            simp only [Act.put, List.setIfInBounds_toArray, List.set_cons_zero, List.set_cons_succ]
            refine takeA (i := 6) (v := .int .i64 j) 33 rfl rfl (by kernel_rfl) (by kernel_rfl) (by kernel_rfl) (by kernel_rfl) (fun _ _ _ h => h) (Or.inl ⟨by rfl, by intro W hSw; go_simp⟩) hHeld ?_
            simp only [Act.put, List.setIfInBounds_toArray, List.set_cons_zero, List.set_cons_succ]
            refine takeA (i := 3) (v := .int .i64 k') 30 rfl rfl (by kernel_rfl) (by kernel_rfl) (by kernel_rfl) (by kernel_rfl) (fun _ _ _ h => h) (Or.inl ⟨by rfl, by intro W hSw; go_simp⟩) hHeld ?_
            simp only [Act.put, List.setIfInBounds_toArray, List.set_cons_zero, List.set_cons_succ]
            refine takeA (i := 4) (v := .pointer (some ⟨b, o + k', none⟩)) 31 rfl rfl (by kernel_rfl) (by kernel_rfl) (by kernel_rfl) (by kernel_rfl) (fun _ _ _ h => h) (Or.inl ⟨by rfl, by intro W hSw; go_simp⟩) hHeld ?_
            simp only [Act.put, List.setIfInBounds_toArray, List.set_cons_zero, List.set_cons_succ]
            refine takeA (i := 5) (v := .int .i64 i) 32 rfl rfl (by kernel_rfl) (by kernel_rfl) (by kernel_rfl) (by kernel_rfl) (fun _ _ _ h => h) (Or.inl ⟨by rfl, by intro W hSw; have c1 := ca.out _ (BB.out.trans (hSw.mono hzw)); go_simp⟩) hHeld ?_
            simp only [Act.put, List.setIfInBounds_toArray, List.set_cons_zero, List.set_cons_succ]
            refine onlyL (i := 7) (by kernel_rfl) rfl (by rfl) (fun K hK => ?_)
            go_simp
            refine (KAk.out _ (BB.out.trans (hHeld.mono hzw))).mono ?_
            rintro e w8 ⟨rfl, hb8⟩
            have t8 : Below w4.heap.size w4 w8 := hHeld.trans (hb8.mono hHeld.size)
            clear hb8 hHeld
            refine hK.out _ _ (fun _ => t8) (fun hHeld => ?_)
            have hHeld := hHeld (by decide)
            clear hK K
            try simp only [Act.put, List.setIfInBounds_toArray, List.set_cons_zero, List.set_cons_succ]
            refine takeA (i := 8) (v := .int .i64 (if na then (fa : Int) else -1)) 9 rfl rfl (by kernel_rfl) (by kernel_rfl) (by kernel_rfl) (by kernel_rfl) (fun _ _ _ h => h) (Or.inl ⟨by rfl, by intro W hSw; go_simp⟩) hHeld ?_
            simp only [Act.put, List.setIfInBounds_toArray, List.set_cons_zero, List.set_cons_succ]
            refine doneL (by kernel_rfl) ?_ _
            try simp only [List.getElem_toArray, List.getElem_cons_succ, List.getElem_cons_zero]
            have LR := Lib.hid (own_keeps LR.out fun q hq => t8.block q (LR.out.lt q hq).2)
            have BR := Lib.hid (BR.out.trans (t8.mono hsz4))
            have BB : Hid (Below w.heap.size w w8) := Lib.hid (BB.out.trans (t8.mono hzw))
            have hsz8 : w1.heap.size ≤ w8.heap.size := BR.out.size
            have HLB : Hid (∀ q, lv.ownBlock = some q → w1.heap.size ≤ q) := Lib.hid (fun q hq => (LR.out.lt q hq).1)
            clear t8 HRG KAk ca X2 f0
            cases na with
            | false =>
              have HQ : Hid (R = false) := Lib.hid (HNk.out rfl)
              have HQL : Hid (rl = []) := Lib.hid (HRN.out HQ.out)
              clear HNk HJ2
              simp only [Bool.false_eq_true, if_false]
              go_wp2
              go_returns
              exact ⟨.slice none 0 0, by rw [HQ.out]; rfl, by rw [HQL.out]; exact Ro.of_own (World.ownsRow_nil _ _ _ _), BB.out⟩
            | true =>
              have HQ : Hid (∀ j, j < k' + 1 → nr j = true) := Lib.hid (HJ2.out rfl)
              have fa0 : (0 : Int) ≤ (fa : Int) := Int.natCast_nonneg _
              clear HNk HJ2
              simp only [if_true]
              go_wp2_with (at_builtin; refine wpList_pushL rfl (.tmp 37) (.tmp 39) 22 40 rfl rfl 3 (.int .i64 0) 8 Try.underlying22 Try.infoI rfl w1.heap.size (.int .i64 fa) lv k' (ints (nums ((List.range k').map ag))) LR.out rfl w8.heap.size rfl rfl rfl (by unfold maxLen; omega) (by omega) hsz8 ?_; intro v6 w6 hown hg; have L6 := Lib.hid hown; have B6 : Hid (Below w1.heap.size w1 w6) := Lib.hid (BR.out.trans (hg.below hsz8 HLB.out)); clear hown hg)
              go_roundw
              case rel =>
                refine ⟨k' + 1 + 1, _, by omega, by go_num, rfl, Lib.hid ?_, HI3, HQ, B6⟩
                rw [Nat.add_sub_cancel, HMk.out, ints_app]
                exact L6.out
              case measure => simp [intOf]; omega
      · have hlen : k = l.length := by omega
        have HQ := Lib.hid (HY.out (fun j hj => HI.out j (by omega)) (fun j hj => HJ.out j (by omega)))
        have HQL : Hid (rl = nums ((List.range (k - 1)).map ag)) := Lib.hid (by rw [hlen]; exact HRY.out HQ.out)
        have k1 : (l.length : Int) ≤ (k : Int) := by omega
        clear hlen
        go_wp2
        go_returns
        exact ⟨lv, by rw [HQ.out]; rfl, by rw [HQL.out]; exact (Ro.of_own LR.out).wide sb1 (Nat.le_refl _), B1.out.trans (BR.out.mono sb1)⟩
end Go.Proofs.Ythjfanhhindjlaa
