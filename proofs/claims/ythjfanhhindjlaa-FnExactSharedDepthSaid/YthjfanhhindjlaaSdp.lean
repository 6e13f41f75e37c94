/-
  SharedDepth of the program. No condition but the readings.
-/
import Derived.Test.YthjfanhhindjlaaDbt
namespace Go.Proofs.Ythjfanhhindjlaa
open Go.RowKit Go.WideShapes
open Go Go.Deep
set_option linter.unusedSimpArgs false

theorem wid_at {rows : List (List Int)} {n a : Nat} {p : Nat → Bool} {j : Nat} : wid rows n a p j = true ↔ j < n ∧ ∃ i, i < 16 ∧ p i = true ∧ near rows a i j = true := by
  unfold wid widK
  rw [Bool.and_eq_true, decide_eq_true_eq, List.any_eq_true]
  exact ⟨fun ⟨h, i, hi, hn⟩ => ⟨h, i, (mem_lst.1 hi).1, (mem_lst.1 hi).2, hn⟩, fun ⟨h, i, h1, h2, hn⟩ => ⟨h, i, mem_lst.2 ⟨h1, h2⟩, hn⟩⟩
/-- the levels around the worlds where p is false -/
theorem lev_every {m : Md} (hm : mdOk m = true) {p : Nat → Bool} : ∀ k u, u < m.facts.length → levP m.blocks m.facts.length m.blocks.length (cut m.facts.length fun i => !p i) k u = !(everyK m p k u)
  | 0, u, hu => by
    show cut m.facts.length (fun i => !p i) u = !(p u)
    unfold cut; rw [decide_eq_true hu, Bool.true_and]
  | k + 1, u, hu => by
    have ih := lev_every hm (p := p) k
    have h16 := (mdOk_parts hm).2.1
    show wid _ _ _ _ u = !(everyB m (everyK m p k) u)
    have hin := levP_in (rows := m.blocks) (a := m.blocks.length) (p := cut m.facts.length fun i => !p i) (fun i h => cut_in h) k
    rw [Bool.eq_iff_iff, wid_at, Bool.not_eq_true', ← Bool.not_eq_true, everyB_iff]
    constructor
    · rintro ⟨_, i, hi, hp, hn⟩ hall
      have hi' := hin i hp
      rw [ih i hi'] at hp
      rw [hall i hi' (nearM_symm hn)] at hp
      cases hp
    · intro hno
      refine ⟨hu, ?_⟩
      refine Classical.byContradiction fun hn => hno fun v hv hnv => ?_
      cases e : everyK m p k v with
      | true => rfl
      | false => exact absurd ⟨v, by omega, by rw [ih v hv, e]; rfl, nearM_symm hnv⟩ hn
theorem idx_false {m : Md} (hm : mdOk m = true) {xs : List Nd} {u : Nat} (hu : u < m.facts.length) : idxI (fun k => doubtP m xs k u) m.facts.length = match falseK m (evP m xs) u with | some k => (k : Int) | none => -1 := by
  unfold idxI falseK
  rw [show (fun k => doubtP m xs k u) = fun k => !(everyK m (evP m xs) k u) from funext fun k => lev_every hm k u hu]
  cases leastK (fun k => !everyK m (evP m xs) k u) m.facts.length <;> rfl
/-- how often all know that all know it -/
def sdR (m : Md) (xs : List Nd) : Int := if evOk m xs then depthK m (evP m xs) m.actual.toNat else -1

set_option maxRecDepth 100000 in
set_option maxHeartbeats 16000000 in
theorem implDepth_any (lo hi : Nat) (v v2 : Value) (m : Md) (xs : List Nd) (w : World) (hr : Mv lo hi w v m) (hhi : hi ≤ w.heap.size) (hr2 : Ns w v2 xs) :
    Calls Try.prog 13 #[v, v2] w fun e w' => e = .returned (.int .i64 (sdR m xs)) ∧ Below w.heap.size w w' := by
  have KN := Lib.hid (fun (hok : evOk m xs = false) W (h : Below w.heap.size w W) => doubts_no lo hi v v2 m xs W (hr.keeps (Keeps.of_all h)) (Nat.le_trans hhi h.size) (hr2.below h (Nat.le_refl _)) hok)
  have KY := Lib.hid (fun (hok : evOk m xs = true) W (h : Below w.heap.size w W) => doubts_yes lo hi v v2 m xs W (hr.keeps (Keeps.of_all h)) (Nat.le_trans hhi h.size) (hr2.below h (Nat.le_refl _)) hok)
  obtain ⟨fv, bv, rfl, hf, hb⟩ := hr
  obtain ⟨a2, c2, rfl, -⟩ := hr2.parts
  clear hf hb hr2
  cases hok : evOk m xs with
  | false =>
    have HR : Hid (sdR m xs = -1) := Lib.hid (by unfold sdR; rw [hok]; rfl)
    have KT := Lib.hid (KN.out hok)
    have HLG : Hid ((ints (gL 0 0 [] [] 0)).length = 67) := Lib.hid rfl
    obtain ⟨G, hG⟩ : ∃ G, G = gL 0 0 [] [] 0 := ⟨_, rfl⟩
    rw [← hG] at KT HLG
    clear hok hG KN KY
    go_enter Try.func13, Try.ntmps13
    go_wp2_with fail
    refine (KT.out _ (by go_grown)).mono ?_
    rintro e w1 ⟨rfl, hb1⟩
    have B1 : Hid (Below w.heap.size w w1) := Lib.hid (Below.trans (by go_grown) (hb1.mono (by simp)))
    have lt1 : w.heap.size ≤ w1.heap.size := B1.out.size
    clear hb1
    have tk1 : True := trivial
    have tk2 : True := trivial
    go_wp2_with
      (first
        | (have _t := tk1; clear _t tk1; refine wpList_allocM rfl 62 rfl (ints (gL 0 0 [] [] 0)) Try.allocGrid ?_
           intro w2 hc1 hb1 hs1
           have G1 := Lib.hid hc1
           have B1 := Lib.hid (B1.out.trans (hb1.mono B1.out.size))
           have lt2 : w1.heap.size < w2.heap.size := G1.out.lt
           clear hc1 hb1 hs1)
        | (have _t := tk2; clear _t tk2; refine wpList_storeM rfl 62 (.tmp 5) (.tmp 13) rfl w1.heap.size 0 rfl (ints G) rfl 62 (ints (gL 0 0 [] [] 0)) G1.out (by rw [HLG.out]; exact Nat.le_refl _) (by rw [HLG.out]; exact Try.sizeGrid) (fun v hv => ints_one hv) ?_
           intro w3 hc3 ha3
           rw [lay'_all (by rw [HLG.out]; rfl)] at hc3
           have G1 := Lib.hid hc3
           have B1 : Hid (Below w.heap.size w w3) := Lib.hid (B1.out.trans (ha3.below (by omega)))
           clear hc3 ha3
  ))
    go_wp2
    go_ret
    exact ⟨by rw [HR.out]; rfl, B1.out⟩
  | true =>
    have hm := (evOk_parts hok).1
    have hs := md_small hm
    obtain ⟨p1, p2, p3, p4, -, -, p7, p8⟩ := mdOk_parts hm
    obtain ⟨act, hact⟩ := Int.eq_ofNat_of_zero_le p7
    have hactn : act < m.facts.length := by omega
    have KT := Lib.hid (KY.out hok)
    have HLG : Hid ((ints (gM m)).length = 67) := Lib.hid (by rw [ints_len]; exact gL_len hs)
    have G66 : Hid ((ints (gM m))[66]? = some (.int .i64 act)) := Lib.hid (by unfold gM; rw [ints_get, gL_66 hs, hact]; rfl)
    have KS := Lib.hid (fun u W h => stepsTo_any u (doubtP m xs) m.facts.length p2 act (by omega) W h)
    rw [idx_false hm hactn] at KS
    have HR : Hid (sdR m xs = match falseK m (evP m xs) act with | some k => (k : Int) - 1 | none => 16) := Lib.hid (by unfold sdR depthK; rw [if_pos hok, hact, Int.toNat_natCast]; cases falseK m (evP m xs) act <;> rfl)
    have HKN : Hid (∀ k, falseK m (evP m xs) act = some k → k < 16) := Lib.hid (fun k h => by have := (falseK_some hm hactn h).2.2.1; omega)
    have HOS := Lib.hid (fun (W : World) base v (h : W.ownsRow base 76 16 v m.facts.length (setsV (doubtP m xs) m.facts.length)) => SetsV.of_own p1 h)
    generalize doubtP m xs = LP at *
    generalize gM m = G at *
    generalize m.facts.length = n at *
    generalize sdR m xs = R at *
    generalize falseK m (evP m xs) act = fk at *
    clear hok hm hs p1 p2 p3 p4 p7 p8 hact KN KY hactn
    go_enter Try.func13, Try.ntmps13
    go_wp2_with fail
    refine (KT.out _ (by go_grown)).mono ?_
    rintro e w1 ⟨u, rfl, ho1, hb1⟩
    have B1 : Hid (Below w.heap.size w w1) := Lib.hid (Below.trans (by go_grown) (hb1.mono (by simp)))
    have lt1 : w.heap.size ≤ w1.heap.size := B1.out.size
    have HSB : Hid (∀ q, u.ownBlock = some q → q < w1.heap.size) := Lib.hid (fun q hq => (ho1.lt q hq).2)
    have O1 := Lib.hid ho1
    clear hb1 ho1
    have tk3 : True := trivial
    have tk4 : True := trivial
    go_wp2_with
      (first
        | (have _t := tk3; clear _t tk3; refine wpList_allocM rfl 62 rfl (ints (gL 0 0 [] [] 0)) Try.allocGrid ?_
           intro w2 hc1 hb1 hs1
           have G1 := Lib.hid hc1
           have O1 := Lib.hid (own_below' O1.out hb1)
           have B1 := Lib.hid (B1.out.trans (hb1.mono B1.out.size))
           have lt2 : w1.heap.size < w2.heap.size := G1.out.lt
           clear hc1 hb1 hs1)
        | (have _t := tk4; clear _t tk4; refine wpList_storeM rfl 62 (.tmp 5) (.tmp 13) rfl w1.heap.size 0 rfl (ints G) rfl 62 (ints (gL 0 0 [] [] 0)) G1.out (by rw [HLG.out]; exact Nat.le_refl _) (by rw [HLG.out]; exact Try.sizeGrid) (fun v hv => ints_one hv) ?_
           intro w3 hc3 ha3
           rw [lay'_all (by rw [HLG.out]; rfl)] at hc3
           have G1 := Lib.hid hc3
           have O1 := Lib.hid (O1.out.kept (at_grown ha3) (.inr (fun e => by have := HSB.out _ e; omega)))
           have B1 : Hid (Below w.heap.size w w3) := Lib.hid (B1.out.trans (ha3.below (by omega)))
           clear hc3 ha3
           have c66 : w3.cell? ⟨w1.heap.size, 66, none⟩ = some (.int .i64 act) := (G1.out.cell 66).trans G66.out))
    clear c66
    refine (KS.out _ _ (HOS.out _ _ _ O1.out)).mono ?_
    cases fk with
    | none =>
      rintro e w4 ⟨rfl, hb4⟩
      have B4 : Hid (Below w.heap.size w w4) := Lib.hid (B1.out.trans (hb4.mono B1.out.size))
      clear hb4
      go_wp2
      go_ret
      exact ⟨by rw [HR.out]; rfl, B4.out⟩
    | some k =>
      have hk16 := HKN.out k rfl
      have k0 : (0 : Int) ≤ (k : Int) := Int.natCast_nonneg _
      rintro e w4 ⟨rfl, hb4⟩
      have B4 : Hid (Below w.heap.size w w4) := Lib.hid (B1.out.trans (hb4.mono B1.out.size))
      clear hb4
      go_wp2
      go_ret
      exact ⟨by rw [HR.out]; rfl, B4.out⟩
end Go.Proofs.Ythjfanhhindjlaa
