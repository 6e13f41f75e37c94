/-
  impl.ChainAgents: the first agents who confuse the neighbours in a list. No condition but the readings.
-/
import Derived.Test.YthjfanhhindjlaaZRch
import Derived.Test.YthjfanhhindjlaaZSem
namespace Go.Proofs.Ythjfanhhindjlaa
open Go.RowKit Go.WideShapes
open Go Go.Deep
set_option linter.unusedSimpArgs false

/-- an answer: a new list of ints, and a bool -/
def IntsAns2 (w : World) (l : List Int) (ok : Bool) (e : Ending) (w' : World) : Prop := ∃ v, e = .returned (.tuple #[v, .bool ok]) ∧ Io w.heap.size w'.heap.size w' v l ∧ Below w.heap.size w w'
/-- the worlds at places i and i + 1 of a list are near -/
def nrA (m : Md) (l : List Int) (i : Nat) : Bool := near m.blocks m.blocks.length (l.getD i 0).toNat (l.getD (i + 1) 0).toNat
def agA (m : Md) (l : List Int) (i : Nat) : Nat := fstA m.blocks m.blocks.length (l.getD i 0).toNat (l.getD (i + 1) 0).toNat
def inAll (l : List Int) (n : Nat) : Bool := (List.range l.length).all fun i => inB (l.getD i 0) n
def chOk (m : Md) (l : List Int) : Bool := mdOk m && inAll l m.facts.length && (List.range (l.length - 1)).all (nrA m l)
def chR (m : Md) (l : List Int) : List Int := if chOk m l then nums ((List.range (l.length - 1)).map (agA m l)) else []
theorem chR_len (m : Md) (l : List Int) : (chR m l).length ≤ l.length := by
  unfold chR
  split
  · rw [nums_len, List.length_map, List.length_range]; omega
  · simp
theorem inAll_at {l : List Int} {n k : Nat} (h : inAll l n = true) (hk : k < l.length) : ∃ i : Nat, i < n ∧ l.getD k 0 = (i : Int) := by
  unfold inAll at h
  rw [List.all_eq_true] at h
  obtain ⟨h0, h1⟩ := inB_parts (h k (List.mem_range.2 hk))
  obtain ⟨i, hi⟩ := Int.eq_ofNat_of_zero_le h0
  exact ⟨i, by omega, hi⟩
theorem mapR_succ {f : Nat → Nat} (k : Nat) : nums ((List.range (k + 1)).map f) = nums ((List.range k).map f) ++ [(f k : Int)] := by
  rw [List.range_succ, List.map_append, nums_app]; rfl

set_option maxRecDepth 100000 in
set_option maxHeartbeats 8000000 in
theorem hasAll_any (n : Nat) (a c : Int) (f : List Int) (rows : List (List Int)) (hs : small f rows) (lo hi : Nat) (v : Value) (l : List Int) (w : World) (hr : Iv lo hi w v l) :
    Calls Try.prog 53 #[.agg (ints (gL n a f rows c)).toArray, v] w fun e w' => e = .returned (.bool (inAll l n)) ∧ Below w.heap.size w w' := by
  have KW := Lib.hid (fun x W => hasWorld_any n a c f rows x W)
  have HL : Hid ((ints (gL n a f rows c)).length = 67) := Lib.hid (by rw [ints_len]; exact gL_len hs)
  generalize gL n a f rows c = G at *
  obtain ⟨va, vc, rfl, h1, h2, h3⟩ := hr.parts
  unfold maxLen at h2
  have KEY := Lib.hid h3
  have HY : Hid ((∀ i, i < l.length → inB (l.getD i 0) n = true) → inAll l n = true) := Lib.hid (fun h => all_yes (fun i hi => h i hi))
  have HN : Hid (∀ i, i < l.length → inB (l.getD i 0) n = false → inAll l n = false) := Lib.hid (fun i hi h => all_no hi h)
  generalize inAll l n = R at *
  clear hr h3 hs
  go_enter Try.func53, Try.ntmps53
  have C0 : Hid (Cm (w.alloc (.cells (ints G).toArray 62)) w.heap.size 62 (ints G)) := Lib.hid (Cm.new rfl)
  have B0 : Hid (Below w.heap.size w (w.alloc (.cells (ints G).toArray 62))) := Lib.hid (by go_grown)
  go_wp2
  go_loopw [9] (fun iv wr => ∃ j : Nat, j ≤ l.length ∧ iv = .int .i64 j ∧ Hid (∀ i, i < j → inB (l.getD i 0) n = true) ∧ Hid (Cm wr w.heap.size 62 (ints G)) ∧ Hid (Below w.heap.size w wr)) (fun iv _ => l.length - (intOf iv).toNat)
  case atStart => exact ⟨0, Nat.zero_le _, rfl, Lib.hid (fun i h => absurd h (Nat.not_lt_zero _)), C0, B0⟩
  case round =>
    clear C0 B0
    obtain ⟨j, hj, rfl, HF, CG, BR⟩ := hrel
    by_cases hlt : j < l.length
    · obtain ⟨b, o, rfl, _, _, hb, c0⟩ := KEY.out j hlt
      rw [← BR.out.cell (p := ⟨b, o + j, none⟩) hb] at c0
      have HNj := Lib.hid (HN.out j hlt)
      have HF2 : Hid (inB (l.getD j 0) n = true → ∀ i, i < j + 1 → inB (l.getD i 0) n = true) := Lib.hid (fun h i hi => by
        rcases Nat.lt_or_eq_of_le (Nat.le_of_lt_succ hi) with h1 | rfl
        · exact HF.out i h1
        · exact h)
      obtain ⟨x, hx⟩ : ∃ x, x = l.getD j 0 := ⟨_, rfl⟩
      rw [← hx] at c0 HNj HF2
      clear hx
      have KWx := Lib.hid (KW.out x)
      obtain ⟨q, hq⟩ : ∃ q, q = inB x n := ⟨_, rfl⟩
      rw [← hq] at HNj HF2 KWx
      clear hq
      cases q with
      | true =>
        have HQ : Hid (∀ i, i < j + 1 → inB (l.getD i 0) n = true) := Lib.hid (HF2.out rfl)
        clear HF2 HNj
        have tk1 : True := trivial
        have tk2 : True := trivial
        go_wp2_with
          (first
            | (have _t := tk1; clear _t tk1; refine wpList_loadM rfl 62 _ rfl w.heap.size 0 rfl 62 (ints G) (ints G) CG.out (fun j _ => by rw [Nat.zero_add]) _ Try.underlying62 rfl (by rw [HL.out]; exact Try.sizeGrid) ?_)
            | (have _t := tk2; clear _t tk2; go_at_call 47; (with_reducible refine (KWx.out _).mono ?_); rintro e w4 ⟨rfl, hb4⟩; have CG := Lib.hid (CG.out.all hb4); have BR : Hid (Below w.heap.size w w4) := Lib.hid (BR.out.trans (hb4.mono BR.out.size)); clear hb4 c0))
        go_roundw
        case rel => exact ⟨j + 1, by omega, by go_num, HQ, CG, BR⟩
        case measure => simp [intOf]; omega
      | false =>
        have HQ : Hid (R = false) := Lib.hid (HNj.out rfl)
        clear HF2 HNj
        have tk3 : True := trivial
        have tk4 : True := trivial
        go_wp2_with
          (first
            | (have _t := tk3; clear _t tk3; refine wpList_loadM rfl 62 _ rfl w.heap.size 0 rfl 62 (ints G) (ints G) CG.out (fun j _ => by rw [Nat.zero_add]) _ Try.underlying62 rfl (by rw [HL.out]; exact Try.sizeGrid) ?_)
            | (have _t := tk4; clear _t tk4; go_at_call 47; (with_reducible refine (KWx.out _).mono ?_); rintro e w4 ⟨rfl, hb4⟩; have CG := Lib.hid (CG.out.all hb4); have BR : Hid (Below w.heap.size w w4) := Lib.hid (BR.out.trans (hb4.mono BR.out.size)); clear hb4 c0))
        go_ret
        exact ⟨ret_bool HQ.out.symm, BR.out⟩
    · have HQ := Lib.hid (HY.out (fun i hi => HF.out i (by omega)))
      go_wp2
      go_ret
      exact ⟨ret_bool HQ.out.symm, BR.out⟩

set_option maxRecDepth 100000 in
set_option maxHeartbeats 32000000 in
theorem implChain_any (lo hi lo2 hi2 : Nat) (v v2 : Value) (m : Md) (l : List Int) (w : World) (hr : Mv lo hi w v m) (hhi : hi ≤ w.heap.size) (hr2 : Iv lo2 hi2 w v2 l) (hn : l.length ≤ 1048576) :
    Calls Try.prog 26 #[v, v2] w (IntsAns2 w (chR m l) (chOk m l)) := by
  have KG := Lib.hid (fun W (h : Below w.heap.size w W) => gridOf_any lo hi v m W (hr.keeps (Keeps.of_all h)) (Nat.le_trans hhi h.size))
  have HIV := Lib.hid (fun W (h : Below w.heap.size w W) => hr2.keeps (Keeps.of_all h))
  have HKL := Lib.hid (fun h => hr2.kept h)
  obtain ⟨la, lc, rfl⟩ := hr2.form
  have HR : Hid (chOk m l = (mdOk m && inAll l m.facts.length && (List.range (l.length - 1)).all (nrA m l))) := Lib.hid rfl
  have HRL : Hid (chR m l = if chOk m l then nums ((List.range (l.length - 1)).map (agA m l)) else []) := Lib.hid rfl
  generalize chR m l = rl at *
  generalize chOk m l = R at *
  unfold IntsAns2
  obtain ⟨fv, bv, rfl, hf, hb⟩ := hr
  clear hf hb hhi hr2
  cases hm : mdOk m with
  | false =>
    simp only [hm, Bool.false_eq_true, if_false] at KG
    have HR' : Hid (R = false) := Lib.hid (by rw [HR.out, hm]; rfl)
    have HL' : Hid (rl = []) := Lib.hid (by rw [HRL.out, HR'.out]; rfl)
    clear HR hm HRL HIV HKL
    unfold GdAns at KG
    simp only [Option.getD_none, Option.isSome_none] at KG
    have HLG : Hid ((ints (gL 0 0 [] [] 0)).length = 67) := Lib.hid rfl
    have HLO := Lib.hid (fun v (hv : v ∈ ints (gL 0 0 [] [] 0)) => ints_one hv)
    obtain ⟨G, hG⟩ : ∃ G, G = gL 0 0 [] [] 0 := ⟨_, rfl⟩
    rw [← hG] at KG HLG HLO
    clear hG
    go_enter Try.func26, Try.ntmps26
    go_wp2_with fail
    refine (KG.out _ (by go_grown)).mono ?_
    rintro e w1 ⟨rfl, hb1⟩
    have B1 : Hid (Below w.heap.size w w1) := Lib.hid (Below.trans (by go_grown) (hb1.mono (by simp)))
    clear hb1
    have tk5 : True := trivial
    have tk6 : True := trivial
    go_wp2_with
      (first
        | (have _t := tk5; clear _t tk5; refine wpList_allocM rfl 62 rfl (ints (gL 0 0 [] [] 0)) Try.allocGrid ?_
           intro w2 hc2 hb2 hs2
           have CC := Lib.hid hc2
           have BB : Hid (Below w.heap.size w w2) := Lib.hid (B1.out.trans (hb2.mono B1.out.size))
           clear hc2 hb2 hs2)
        | (have _t := tk6; clear _t tk6; refine wpList_storeM rfl 62 _ _ rfl w1.heap.size 0 rfl (ints G) rfl 62 (ints (gL 0 0 [] [] 0)) CC.out (by rw [HLG.out]; exact Nat.le_refl _) (by rw [HLG.out]; exact Try.sizeGrid) HLO.out ?_
           intro w3 hc3 ha3
           have BB : Hid (Below w.heap.size w w3) := Lib.hid (BB.out.trans (ha3.below B1.out.size))
           clear hc3 ha3))
    go_returns
    exact ⟨.slice none 0 0, by rw [HR'.out]; rfl, by rw [HL'.out]; exact Ro.of_own (World.ownsRow_nil _ _ _ _), BB.out⟩
  | true =>
    simp only [hm, if_true] at KG
    have hs := md_small hm
    have HLG : Hid ((ints (gL m.facts.length m.blocks.length m.facts m.blocks m.actual)).length = 67) := Lib.hid (by rw [ints_len]; exact gL_len hs)
    have HLO := Lib.hid (fun v (hv : v ∈ ints (gL m.facts.length m.blocks.length m.facts m.blocks m.actual)) => ints_one hv)
    unfold GdAns at KG
    simp only [Option.getD_some, Option.isSome_some] at KG
    unfold gOf at KG
    obtain ⟨p1, p2, p3, p4, -, -, p7, p8⟩ := mdOk_parts hm
    have KA := Lib.hid (fun W h => hasAll_any m.facts.length m.blocks.length m.actual m.facts m.blocks hs lo2 hi2 (.slice la l.length lc) l W h)
    have KF := Lib.hid (fun i j (hi : i < m.facts.length) (hj : j < m.facts.length) W => firstConfused_any m.facts.length m.actual m.blocks.length m.facts m.blocks hs i j p4 (by omega) (by omega) W)
    rw [hm] at HR
    cases hia : inAll l m.facts.length with
    | false =>
      rw [hia] at KA HR
      have HR' : Hid (R = false) := Lib.hid (by rw [HR.out]; rfl)
      have HL' : Hid (rl = []) := Lib.hid (by rw [HRL.out, HR'.out]; rfl)
      generalize gL m.facts.length m.blocks.length m.facts m.blocks m.actual = G at *
      clear HR hia hs hm HRL KF HKL
      go_enter Try.func26, Try.ntmps26
      go_wp2_with fail
      refine (KG.out _ (by go_grown)).mono ?_
      rintro e w1 ⟨rfl, hb1⟩
      have B1 : Hid (Below w.heap.size w w1) := Lib.hid (Below.trans (by go_grown) (hb1.mono (by simp)))
      clear hb1
      have tk7 : True := trivial
      have tk8 : True := trivial
      have tk9 : True := trivial
      have tk10 : True := trivial
      go_wp2_with
        (first
          | (have _t := tk7; clear _t tk7; refine wpList_allocM rfl 62 rfl (ints (gL 0 0 [] [] 0)) Try.allocGrid ?_
             intro w2 hc2 hb2 hs2
             have CC := Lib.hid hc2
             have BB : Hid (Below w.heap.size w w2) := Lib.hid (B1.out.trans (hb2.mono B1.out.size))
             clear hc2 hb2 hs2)
          | (have _t := tk8; clear _t tk8; refine wpList_storeM rfl 62 _ _ rfl w1.heap.size 0 rfl (ints G) rfl 62 (ints (gL 0 0 [] [] 0)) CC.out (by rw [HLG.out]; exact Nat.le_refl _) (by rw [HLG.out]; exact Try.sizeGrid) HLO.out ?_
             intro w3 hc3 ha3
             rw [lay'_all (by rw [HLG.out]; rfl)] at hc3
             have CC := Lib.hid hc3
             have BB : Hid (Below w.heap.size w w3) := Lib.hid (BB.out.trans (ha3.below B1.out.size))
             clear hc3 ha3)
          | (have _t := tk9; clear _t tk9; refine wpList_loadMG rfl (by rfl) 62 _ rfl w1.heap.size 0 rfl 62 (ints G) (ints G) CC.out (fun j _ => by rw [Nat.zero_add]) _ Try.underlying62 rfl (by rw [HLG.out]; exact Try.sizeGrid) ?_)
          | (have _t := tk10; clear _t tk10; go_at_call 53; (with_reducible refine (KA.out _ (HIV.out _ BB.out)).mono ?_); rintro e w4 ⟨rfl, hb4⟩; have BB : Hid (Below w.heap.size w w4) := Lib.hid (BB.out.trans (hb4.mono BB.out.size)); clear hb4))
      go_returns
      exact ⟨.slice none 0 0, by rw [HR'.out]; rfl, by rw [HL'.out]; exact Ro.of_own (World.ownsRow_nil _ _ _ _), BB.out⟩
    | true =>
      rw [hia] at KA HR
      have HIN := Lib.hid (fun k hk => inAll_at (k := k) hia hk)
      have HN : Hid (∀ k, k < l.length - 1 → nrA m l k = false → R = false) := Lib.hid (fun k hk h => by rw [HR.out, all_no hk h]; rfl)
      have HY : Hid ((∀ k, k < l.length - 1 → nrA m l k = true) → R = true) := Lib.hid (fun h => by rw [HR.out, all_yes h]; rfl)
      have HRY : Hid (R = true → rl = nums ((List.range (l.length - 1)).map (agA m l))) := Lib.hid (fun h => by rw [HRL.out, h]; rfl)
      have HRN : Hid (R = false → rl = []) := Lib.hid (fun h => by rw [HRL.out, h]; rfl)
      have HNR : Hid (∀ k i j : Nat, l.getD k 0 = (i : Int) → l.getD (k + 1) 0 = (j : Int) → nrA m l k = near m.blocks m.blocks.length i j ∧ agA m l k = fstA m.blocks m.blocks.length i j) := Lib.hid (fun k i j h1 h2 => by unfold nrA agA; rw [h1, h2, Int.toNat_natCast, Int.toNat_natCast]; exact ⟨rfl, rfl⟩)
      have HMS := Lib.hid (fun k => mapR_succ (f := agA m l) k)
      generalize agA m l = ag at *
      generalize nrA m l = nr at *
      generalize gL m.facts.length m.blocks.length m.facts m.blocks m.actual = G at *
      clear HR HRL hia hs hm p1 p3 p7 p8
      go_enter Try.func26, Try.ntmps26
      go_wp2_with fail
      refine (KG.out _ (by go_grown)).mono ?_
      rintro e w1 ⟨rfl, hb1⟩
      have B1 : Hid (Below w.heap.size w w1) := Lib.hid (Below.trans (by go_grown) (hb1.mono (by simp)))
      clear hb1
      have tk11 : True := trivial
      have tk12 : True := trivial
      have tk13 : True := trivial
      have tk14 : True := trivial
      go_wp2_with
        (first
          | (have _t := tk11; clear _t tk11; refine wpList_allocM rfl 62 rfl (ints (gL 0 0 [] [] 0)) Try.allocGrid ?_
             intro w2 hc2 hb2 hs2
             have CC := Lib.hid hc2
             have BB : Hid (Below w.heap.size w w2) := Lib.hid (B1.out.trans (hb2.mono B1.out.size))
             clear hc2 hb2 hs2)
          | (have _t := tk12; clear _t tk12; refine wpList_storeM rfl 62 _ _ rfl w1.heap.size 0 rfl (ints G) rfl 62 (ints (gL 0 0 [] [] 0)) CC.out (by rw [HLG.out]; exact Nat.le_refl _) (by rw [HLG.out]; exact Try.sizeGrid) HLO.out ?_
             intro w3 hc3 ha3
             rw [lay'_all (by rw [HLG.out]; rfl)] at hc3
             have CC := Lib.hid hc3
             have BB : Hid (Below w.heap.size w w3) := Lib.hid (BB.out.trans (ha3.below B1.out.size))
             clear hc3 ha3)
          | (have _t := tk13; clear _t tk13; refine wpList_loadMG rfl (by rfl) 62 _ rfl w1.heap.size 0 rfl 62 (ints G) (ints G) CC.out (fun j _ => by rw [Nat.zero_add]) _ Try.underlying62 rfl (by rw [HLG.out]; exact Try.sizeGrid) ?_)
          | (have _t := tk14; clear _t tk14; go_at_call 53; (with_reducible refine (KA.out _ (HIV.out _ BB.out)).mono ?_); rintro e w4 ⟨rfl, hb4⟩; have CC := Lib.hid (CC.out.all hb4); have BB : Hid (Below w.heap.size w w4) := Lib.hid (BB.out.trans (hb4.mono BB.out.size)); have hz4 : w.heap.size ≤ w4.heap.size := BB.out.size; have hw14 : w1.heap.size < w4.heap.size := CC.out.lt; clear hb4))
      go_loopw [8, 9] (fun lv iv wr => ∃ (k : Nat) (lv' : Value), k ≤ l.length - 1 ∧ iv = .int .i64 ((k : Int) + 1) ∧ lv' = lv ∧ Hid (wr.ownsRow w4.heap.size 3 1 lv' k (ints (nums ((List.range k).map ag)))) ∧ Hid (∀ j, j < k → nr j = true) ∧ Hid (Cm wr w1.heap.size 62 (ints G)) ∧ Hid (Below w.heap.size w wr) ∧ Hid (w4.heap.size ≤ wr.heap.size)) (fun _ iv _ => l.length - (intOf iv).toNat)
      case atStart => exact ⟨0, _, Nat.zero_le _, rfl, rfl, Lib.hid (World.ownsRow_nil _ _ _ _), Lib.hid (fun j h => absurd h (Nat.not_lt_zero _)), CC, BB, Lib.hid (Nat.le_refl _)⟩
      case round =>
        clear CC BB
        obtain ⟨k, lv, hk, rfl, rfl, LR, HJ, CC, BB, Z4⟩ := hrel
        by_cases hlt : k < l.length - 1
        · obtain ⟨b, o, c, e, q1, q2, q3⟩ := HKL.out (by omega)
          cases e
          unfold maxLen at q2
          obtain ⟨i, hi, hxi⟩ := HIN.out k (by omega)
          obtain ⟨j, hj, hxj⟩ := HIN.out (k + 1) (by omega)
          obtain ⟨hnr, hag⟩ := HNR.out k i j hxi hxj
          have HNk := Lib.hid (HN.out k hlt)
          have HMk := Lib.hid (HMS.out k)
          rw [hag] at HMk
          have HJ2 : Hid (nr k = true → ∀ j, j < k + 1 → nr j = true) := Lib.hid (fun h j hj => by
            rcases Nat.lt_or_eq_of_le (Nat.le_of_lt_succ hj) with h1 | rfl
            · exact HJ.out j h1
            · exact h)
          have ca := Lib.hid (fun W (h : Below w.heap.size w W) => (q3 W h k (by omega)).trans (by rw [hxi]))
          have cb := Lib.hid (fun W (h : Below w.heap.size w W) => (q3 W h (k + 1) (by omega)).trans (by rw [hxj]))
          have KFk := Lib.hid (KF.out i j hi hj)
          rw [hnr] at HNk HJ2
          generalize fstA m.blocks m.blocks.length i j = fa at *
          generalize near m.blocks m.blocks.length i j = na at *
          have hz1 : w.heap.size ≤ wr.heap.size := BB.out.size
          have HRG : Hid (∀ W, Below wr.heap.size wr W → W.rangeAt w1.heap.size 0 (ints G)) := Lib.hid (fun W h => (CC.out.all h).whole)
          have HU : Try.prog.underlying 62 = some _ := Try.underlying62
          have k0 : (0 : Int) ≤ (k : Int) := Int.natCast_nonneg _
          have k1 : (k : Int) + 1 < (l.length : Int) := by omega
          have k2 : (k : Int) < (l.length : Int) := by omega
          have k3 : (k : Int) < 1048576 := by omega
          have k4 : ¬ ((k : Int) + 1 < 0) := by omega
          have k6 : IntKind.i64.wrap (k : Int) = (k : Int) := IntWalk.i64_in _ (by omega)
          have k5 : (0 : Int) ≤ (k : Int) + 1 := by omega
          clear q3 hxi hxj hnr hag
          go_wp2
          obtain ⟨wo, rfl⟩ : ∃ wo : World, wo = wr := ⟨_, rfl⟩
          refine regionL (fun W => Below wo.heap.size wo W) [] (by kernel_rfl) (Below.refl _ _).drew (fun hHeld => ?_)
          refine takeA (i := 0) (v := .agg (ints G).toArray) 32 rfl rfl (by kernel_rfl) (by kernel_rfl) (by kernel_rfl) (by kernel_rfl) (fun _ _ _ h => h) (yieldsIf_load_mid (by rfl) 62 _ rfl w1.heap.size 0 rfl (ints G) _ HRG.out HU rfl (by rw [HLG.out]; exact Try.sizeGrid)) hHeld ?_
          simp only [Act.put, List.setIfInBounds_toArray, List.set_cons_zero, List.set_cons_succ]
          refine takeA (i := 1) (v := .slice (some ⟨b, o, none⟩) l.length lc) 33 rfl rfl (by kernel_rfl) (by kernel_rfl) (by kernel_rfl) (by kernel_rfl) (fun _ _ _ h => h) (Or.inl ⟨by rfl, by intro W hSw; go_simp⟩) hHeld ?_
          simp only [Act.put, List.setIfInBounds_toArray, List.set_cons_zero, List.set_cons_succ]
          refine takeA (i := 2) (v := .int .i64 ((k : Int) + 1)) 34 rfl rfl (by kernel_rfl) (by kernel_rfl) (by kernel_rfl) (by kernel_rfl) (fun _ _ _ h => h) (Or.inl ⟨by rfl, by intro W hSw; go_simp⟩) hHeld ?_
          simp only [Act.put, List.setIfInBounds_toArray, List.set_cons_zero, List.set_cons_succ]
          refine takeA (i := 6) (v := .slice (some ⟨b, o, none⟩) l.length lc) 38 rfl rfl (by kernel_rfl) (by kernel_rfl) (by kernel_rfl) (by kernel_rfl) (fun _ _ _ h => h) (Or.inl ⟨by rfl, by intro W hSw; go_simp⟩) hHeld ?_
          simp only [Act.put, List.setIfInBounds_toArray, List.set_cons_zero, List.set_cons_succ]
          refine takeA (i := 7) (v := .int .i64 ((k : Int) + 1)) 39 rfl rfl (by kernel_rfl) (by kernel_rfl) (by kernel_rfl) (by kernel_rfl) (fun _ _ _ h => h) (Or.inl ⟨by rfl, by intro W hSw; go_simp⟩) hHeld ?_
          simp only [Act.put, List.setIfInBounds_toArray, List.set_cons_zero, List.set_cons_succ]
          refine takeA (i := 3) (v := .int .i64 k) 35 rfl rfl (by kernel_rfl) (by kernel_rfl) (by kernel_rfl) (by kernel_rfl) (fun _ _ _ h => h) (Or.inl ⟨by rfl, by intro W hSw; go_simp⟩) hHeld ?_
          simp only [Act.put, List.setIfInBounds_toArray, List.set_cons_zero, List.set_cons_succ]
          refine takeA (i := 8) (v := .pointer (some ⟨b, o + (k + 1), none⟩)) 40 rfl rfl (by kernel_rfl) (by kernel_rfl) (by kernel_rfl) (by kernel_rfl) (fun _ _ _ h => h) (Or.inl ⟨by rfl, by intro W hSw; go_simp⟩) hHeld ?_
          simp only [Act.put, List.setIfInBounds_toArray, List.set_cons_zero, List.set_cons_succ]
          refine takeA (i := 4) (v := .pointer (some ⟨b, o + k, none⟩)) 36 rfl rfl (by kernel_rfl) (by kernel_rfl) (by kernel_rfl) (by kernel_rfl) (fun _ _ _ h => h) (Or.inl ⟨by rfl, by intro W hSw; go_simp⟩) hHeld ?_
          simp only [Act.put, List.setIfInBounds_toArray, List.set_cons_zero, List.set_cons_succ]
          refine takeA (i := 9) (v := .int .i64 j) 41 rfl rfl (by kernel_rfl) (by kernel_rfl) (by kernel_rfl) (by kernel_rfl) (fun _ _ _ h => h) (Or.inl ⟨by rfl, by intro W hSw; have c1 := cb.out _ (BB.out.trans (hSw.mono hz1)); go_simp⟩) hHeld ?_
          simp only [Act.put, List.setIfInBounds_toArray, List.set_cons_zero, List.set_cons_succ]
          refine takeA (i := 5) (v := .int .i64 i) 37 rfl rfl (by kernel_rfl) (by kernel_rfl) (by kernel_rfl) (by kernel_rfl) (fun _ _ _ h => h) (Or.inl ⟨by rfl, by intro W hSw; have c1 := ca.out _ (BB.out.trans (hSw.mono hz1)); go_simp⟩) hHeld ?_
          simp only [Act.put, List.setIfInBounds_toArray, List.set_cons_zero, List.set_cons_succ]
          refine onlyL (i := 10) (by kernel_rfl) rfl (by rfl) (fun K hK => ?_)
          go_simp
          refine (KFk.out _).mono ?_
          rintro e w8 ⟨rfl, hb8⟩
          have t8 : Below wo.heap.size wo w8 := hHeld.trans (hb8.mono (Nat.le_refl _))
          clear hb8 hHeld
          refine hK.out _ _ (fun _ => t8) (fun hHeld => ?_)
          have hHeld := hHeld (by decide)
          clear hK K
          try simp only [Act.put, List.setIfInBounds_toArray, List.set_cons_zero, List.set_cons_succ]
          refine takeA (i := 11) (v := .tuple #[.int .i64 fa, .bool na]) 31 rfl rfl (by kernel_rfl) (by kernel_rfl) (by kernel_rfl) (by kernel_rfl) (fun _ _ _ h => h) (Or.inl ⟨by rfl, by intro W hSw; go_simp⟩) hHeld ?_
          simp only [Act.put, List.setIfInBounds_toArray, List.set_cons_zero, List.set_cons_succ]
          refine takeA (i := 12) (v := .int .i64 fa) 43 rfl rfl (by kernel_rfl) (by kernel_rfl) (by kernel_rfl) (by kernel_rfl) (fun _ _ _ h => h) (Or.inl ⟨by rfl, by intro W hSw; go_simp⟩) hHeld ?_
          simp only [Act.put, List.setIfInBounds_toArray, List.set_cons_zero, List.set_cons_succ]
          refine takeA (i := 13) (v := .bool na) 44 rfl rfl (by kernel_rfl) (by kernel_rfl) (by kernel_rfl) (by kernel_rfl) (fun _ _ _ h => h) (Or.inl ⟨by rfl, by intro W hSw; go_simp⟩) hHeld ?_
          simp only [Act.put, List.setIfInBounds_toArray, List.set_cons_zero, List.set_cons_succ]
          refine takeA (i := 14) (v := .int .i64 fa) 10 rfl rfl (by kernel_rfl) (by kernel_rfl) (by kernel_rfl) (by kernel_rfl) (fun _ _ _ h => h) (Or.inl ⟨by rfl, by intro W hSw; go_simp⟩) hHeld ?_
          simp only [Act.put, List.setIfInBounds_toArray, List.set_cons_zero, List.set_cons_succ]
          refine takeA (i := 15) (v := .bool na) 11 rfl rfl (by kernel_rfl) (by kernel_rfl) (by kernel_rfl) (by kernel_rfl) (fun _ _ _ h => h) (Or.inl ⟨by rfl, by intro W hSw; go_simp⟩) hHeld ?_
          simp only [Act.put, List.setIfInBounds_toArray, List.set_cons_zero, List.set_cons_succ]
          refine doneL (by kernel_rfl) ?_ _
          try simp only [List.getElem_toArray, List.getElem_cons_succ, List.getElem_cons_zero]
          have LR := Lib.hid (own_keeps LR.out fun q hq => t8.block q (LR.out.lt q hq).2)
          have CC := Lib.hid (CC.out.all t8)
          have BB : Hid (Below w.heap.size w w8) := Lib.hid (BB.out.trans (t8.mono hz1))
          have hz8 : w.heap.size ≤ w8.heap.size := BB.out.size
          have hz48 : w4.heap.size ≤ w8.heap.size := Nat.le_trans Z4.out t8.size
          have HLB : Hid (∀ q, lv.ownBlock = some q → w4.heap.size ≤ q) := Lib.hid (fun q hq => (LR.out.lt q hq).1)
          clear t8 HRG KFk ca cb
          cases na with
          | false =>
            have HQ : Hid (R = false) := Lib.hid (HNk.out rfl)
            have HQL : Hid (rl = []) := Lib.hid (HRN.out HQ.out)
            clear HNk HJ2
            go_wp2
            go_returns
            exact ⟨.slice none 0 0, by rw [HQ.out]; rfl, by rw [HQL.out]; exact Ro.of_own (World.ownsRow_nil _ _ _ _), BB.out⟩
          | true =>
            have HQ : Hid (∀ j, j < k + 1 → nr j = true) := Lib.hid (HJ2.out rfl)
            clear HNk HJ2
            go_wp2_with (at_builtin; refine wpList_pushL rfl (.tmp 47) (.tmp 49) 22 50 rfl rfl 3 (.int .i64 0) 8 Try.underlying22 Try.infoI rfl w4.heap.size (.int .i64 fa) lv k (ints (nums ((List.range k).map ag))) LR.out rfl w8.heap.size rfl rfl rfl (by unfold maxLen; omega) (by omega) hz48 ?_; intro v6 w6 hown hg; have L6 := Lib.hid hown; have B6 : Hid (Below w.heap.size w w6) := Lib.hid (BB.out.trans (hg.below hz8 (fun q hq => Nat.le_trans hz4 (HLB.out q hq)))); have C6 := Lib.hid (CC.out.below (hg.below hz48 HLB.out) hw14); have hg6 := hg.size; clear hown hg)
            go_roundw
            case rel =>
              refine ⟨k + 1, _, by omega, by go_num, rfl, Lib.hid ?_, HQ, C6, B6, Lib.hid (Nat.le_trans hz48 hg6)⟩
              rw [HMk.out, ints_app]
              exact L6.out
            case measure => simp [intOf]; omega
        · have hlen : k = l.length - 1 := by omega
          have HQ := Lib.hid (HY.out (fun j hj => HJ.out j (by omega)))
          have HQL : Hid (rl = nums ((List.range k).map ag)) := Lib.hid (by rw [hlen]; exact HRY.out HQ.out)
          have k1 : (l.length : Int) ≤ (k : Int) + 1 := by omega
          go_wp2
          go_returns
          exact ⟨lv, by rw [HQ.out]; rfl, by rw [HQL.out]; exact (Ro.of_own LR.out).wide hz4 (Nat.le_refl _), BB.out⟩
end Go.Proofs.Ythjfanhhindjlaa
