/-
  Contracts of spec.MakeHands and laws.ones. Conditions: the deal is one of those that are drawn; the code has at most 1048576 bytes; a hand below 128.
-/
import Derived.Test.YteahjnobnbafiaaDoorCdy
import Derived.Test.YteahjnobnbafiaaDoorCdj
import Derived.Test.YteahjnobnbafiaaDoorDrc
import Derived.Test.YteahjnobnbafiaaDoorDcl
namespace Go.Proofs.YteahjnobnbafiaaDoor
open Go.RowKit Go.WideShapes
open Go Go.Deep
set_option linter.unusedSimpArgs false

theorem deals_len : ∀ d ∈ dealsL, (handsR d).length ≤ 128 := by decide +kernel
theorem Keeps.of_gr {lo hi : Nat} {w w' : World} {row : Option Nat} (h : w.grownBy w' row) (hr : ∀ k, row = some k → k < lo ∨ hi ≤ k) : Keeps lo hi w w' :=
  ⟨h.size, fun k h1 h2 h3 => h.block k h3 (fun e => by have := hr k e.symm; omega)⟩
theorem Iv.first {lo hi : Nat} {w : World} {a : Option Addr} {n c : Nat} {l : List Int} (h : Iv lo hi w (.slice a n c) l) (h1 : 1 ≤ l.length) : Iv lo hi w (.slice a 1 c) (l.take 1) := by
  obtain ⟨a', cap, e, h2, h3, h4⟩ := h
  injection e with e1 e2 e3
  subst e1 e3
  rw [ints_len] at h2
  have hl : (l.take 1).length = 1 := by rw [List.length_take]; omega
  refine ⟨_, _, by rw [ints_len, hl], by rw [ints_len, hl]; omega, h3, ?_⟩
  rcases h4 with h4 | ⟨b, o, rfl, x1, x2, x3, x4⟩
  · have := congrArg List.length h4; rw [ints_len] at this; simp at this; subst this; simp at h1
  · refine .inr ⟨b, o, rfl, x1, x2, x3, fun j x hx => x4 j x ?_⟩
    unfold ints at *
    rw [List.map_take, List.getElem?_take] at hx
    split at hx
    · exact hx
    · cases hx
set_option maxHeartbeats 2000000 in
theorem ones_any (h : Nat) (hh : h < 128) (w : World) : Calls Tryd.prog 9 #[.int .i64 h] w fun e w' => e = .returned (.int .i64 (pop h)) ∧ w = w' := by
  have HP : Hid (pop h = popF 7 h) := Lib.hid rfl
  generalize pop h = R at *
  go_enter Tryd.func9, Tryd.ntmps9
  go_wp2
  go_loop [0, 3] (fun hv nv => ∃ f m n : Nat, f ≤ 7 ∧ hv = .int .i64 m ∧ nv = .int .i64 n ∧ m < 128 ∧ n ≤ 7 - f ∧ m < 2 ^ f ∧ Hid (R = n + popF f m)) (fun hv _ => (intOf hv).toNat)
  case atStart => exact ⟨7, h, 0, Nat.le_refl _, rfl, rfl, hh, Nat.zero_le _, hh, Lib.hid (by rw [HP.out, Nat.zero_add])⟩
  case round =>
    obtain ⟨f, m, n, hf, rfl, rfl, hm, hn, hmf, HR⟩ := hrel
    by_cases h0 : 0 < m
    · have h0i : (0 : Int) < (m : Int) := by omega
      obtain ⟨g, rfl⟩ : ∃ g, f = g + 1 := ⟨f - 1, by
        rcases Nat.eq_zero_or_pos f with e | e
        · subst e; simp at hmf; omega
        · omega⟩
      have HR2 : Hid (R = (n + m % 2) + popF g (m / 2)) := Lib.hid (by rw [HR.out]; show n + (m % 2 + popF g (m / 2)) = _; omega)
      have hdg : m / 2 < 2 ^ g := by rw [Nat.pow_succ] at hmf; omega
      have hqm : m / 2 < m := by omega
      have hrm : m % 2 < 2 := by omega
      have ht0 : (m : Int).tdiv 2 = ((m / 2 : Nat) : Int) := by rw [Int.tdiv_eq_ediv_of_nonneg (by omega)]; omega
      have e0 : (m : Int) % 2 = ((m % 2 : Nat) : Int) := by omega
      generalize m % 2 = r at *
      generalize m / 2 = q at *
      have hni : (n : Int) ≤ 7 := by omega
      have hmi : (m : Int) < 128 := by omega
      clear HR
      go_wp2
      go_round
      case rel => exact ⟨g, q, n + r, by omega, by go_num, by go_num, by omega, by omega, hdg, HR2⟩
      case measure => simp [intOf]; omega
    · obtain rfl : m = 0 := by omega
      have HR2 : Hid (R = n) := Lib.hid (by
        rw [HR.out]
        have : ∀ f, popF f 0 = 0 := by intro f; induction f with | zero => rfl | succ f ih => show 0 % 2 + popF f (0 / 2) = 0; simpa using ih
        rw [this]; rfl)
      clear HR
      go_wp2
      go_ret
      exact ⟨by rw [HR2.out]; rfl, rfl⟩

set_option maxRecDepth 100000 in
set_option maxHeartbeats 4000000 in
theorem makeHands_any (d : Dl) (hd : d ∈ dealsL) (n : Nat) (hn : n ≤ 1000) (W : World) (cv : Value) (hk : CodeOk W cv) :
    Calls Tryd.prog 8 #[cv, .int .i64 n, d.v] W fun e w' => ∃ v l, e = .returned v ∧ l.Sublist (handsR d) ∧ l ≠ [] ∧ Iv W.heap.size w'.heap.size w' v l ∧ Below W.heap.size W w' := by
  have hpos := deals_hands d hd
  have hlen := deals_len d hd
  have KH := Lib.hid (fun W => specHands_any d W)
  unfold IntsAns at KH
  generalize handsR d = al at *
  obtain ⟨dv, hdv⟩ : ∃ dv, dv = d.v := ⟨_, rfl⟩
  rw [← hdv] at KH ⊢
  obtain ⟨da, hda⟩ : ∃ da, da = d.a := ⟨_, rfl⟩
  obtain ⟨db, hdb⟩ : ∃ db, db = d.b := ⟨_, rfl⟩
  obtain ⟨dc, hdc⟩ : ∃ dc, dc = d.c := ⟨_, rfl⟩
  have hv : dv = .agg #[.int .i64 da, .int .i64 db, .int .i64 dc] := by rw [hdv, hda, hdb, hdc]; rfl
  rw [hv] at KH ⊢
  clear hdv hda hdb hdc hv hd
  have hX : Cm (W.alloc (.cells #[.int .i64 da, .int .i64 db, .int .i64 dc] 26)) W.heap.size 26 [.int .i64 da, .int .i64 db, .int .i64 dc] := Cm.new (cs := [.int .i64 da, .int .i64 db, .int .i64 dc]) rfl
  have hb0 : Below W.heap.size W (W.alloc (.cells #[.int .i64 da, .int .i64 db, .int .i64 dc] 26)) := (Below.refl _ _).alloc (Nat.le_refl _) _
  have HK := Lib.hid (hk.below hb0 (Nat.le_refl _))
  clear hk
  go_enter Tryd.func8, Tryd.ntmps8
  go_wp2_with fail
  generalize W.alloc (.cells #[.int .i64 da, .int .i64 db, .int .i64 dc] 26) = w0 at *
  have X0 := Lib.hid hX
  have B0 := Lib.hid hb0
  clear hX hb0
  refine (newAt_any w0 cv n hn HK.out).mono ?_
  rintro e w1 ⟨b, rfl, hc⟩
  have C1 := Lib.hid hc
  have X1 := Lib.hid (X0.out.all hc.1)
  have B1 := Lib.hid (B0.out.trans (hc.1.mono B0.out.size))
  have hbb : w0.heap.size ≤ b := hc.2.1
  have hbl : b < w1.heap.size := hc.lt
  have hW0 : W.heap.size < w0.heap.size := X0.out.lt
  clear hc X0 B0
  have hbz : Below w1.heap.size w1 (w1.alloc (.cells #[] 3)) := (Below.refl _ _).alloc (Nat.le_refl _) _
  have L2 := Lib.hid (nil_own w1)
  have X2 := Lib.hid (X1.out.all hbz)
  have c0 := X2.out.cell 0
  have c1 := X2.out.cell 1
  have c2 := X2.out.cell 2
  simp only [List.getElem?_cons_zero, List.getElem?_cons_succ] at c0 c1 c2
  have hs2 : (w1.alloc (.cells #[] 3)).heap.size = w1.heap.size + 1 := by simp
  have hbe := Lib.hid hbz
  clear hbz X1
  go_wp2_with fail
  generalize w1.alloc (.cells #[] 3) = w2 at *
  refine (KH.out _).mono ?_
  rintro e w3 ⟨v3, rfl, ho3, hb3⟩
  have C3 := Lib.hid ((C1.out.belowC hbe.out).belowC hb3)
  have B3 := Lib.hid (B1.out.trans ((hbe.out.trans (hb3.mono hbe.out.size)).mono B1.out.size))
  have L3 := Lib.hid (own_below L2.out hb3 (Nat.le_refl _))
  have A3 := Lib.hid ho3.read
  have hs3 : w2.heap.size ≤ w3.heap.size := hb3.size
  clear ho3 hb3 KH L2 B1 C1 X2 c0 c1 c2 hbe
  obtain ⟨a3, k3, e3, ha31, ha32, -⟩ := A3.out.parts
  subst e3
  unfold maxLen at ha32
  have KO := Lib.hid (fun w' hc' => once_any w0 w' b cv 3 (by decide) (by decide) HK.out hc')
  have HTK := Lib.hid (fun k (h : k < al.length) => take_snocI (l := al) h)
  go_wp2_with fail
  go_loopw [8, 20] (fun lv iv wr => ∃ (ix : Nat) (l : List Int) (lv' : Value), ix ≤ al.length ∧ iv = .int .i64 ix ∧ lv' = lv ∧ Hid (l.Sublist (al.take ix)) ∧ Hid (wr.ownsRow w1.heap.size 3 1 lv' l.length (ints l)) ∧ Hid (∀ q, lv'.ownBlock = some q → q = w1.heap.size ∨ w3.heap.size ≤ q) ∧ Hid (Cur w0 wr b cv) ∧ Hid (Iv w2.heap.size w3.heap.size wr (.slice a3 al.length k3) al) ∧ Hid (Below W.heap.size W wr) ∧ w3.heap.size ≤ wr.heap.size) (fun _ iv _ => al.length - (intOf iv).toNat)
  case atStart => exact ⟨0, [], _, Nat.zero_le _, rfl, rfl, Lib.hid (List.Sublist.refl _), L3, Lib.hid (fun q hq => by left; cases hq; rfl), C3, A3, B3, Nat.le_refl _⟩
  case round =>
    clear L3 A3 B3 C3
    obtain ⟨ix, l, lv, hix, rfl, rfl, HSU, HO, HQ, HC, HA, HB, hwr⟩ := hrel
    by_cases hlt : ix < al.length
    · obtain ⟨a', k', e', -, -, h3⟩ := HA.out.parts
      injection e' with e1 e2 e3
      subst e1 e3
      obtain ⟨bb, o, rfl, hb1, hb2, hb, q0⟩ := h3 ix hlt
      clear h3 e2
      have HT := Lib.hid (HTK.out ix hlt)
      have hll : l.length ≤ al.length := by have := HSU.out.length_le; rw [List.length_take] at this; omega
      have hi0 : (0 : Int) ≤ (ix : Int) := Int.natCast_nonneg _
      have hi1 : (ix : Int) < (al.length : Int) := by omega
      generalize al.getD ix 0 = y at *
      go_wp2_with fail
      refine (KO.out _ HC.out).mono ?_
      rintro e w4 ⟨x, rfl, hc4, hg4⟩
      have C4 := Lib.hid hc4
      have A4 := Lib.hid (HA.out.keeps (Keeps.of_gr hg4 (fun q hq => by cases hq; omega)))
      have B4 : Hid (Below W.heap.size W w4) := Lib.hid (HB.out.grown hg4 (by omega) (fun q hq => by cases hq; omega))
      have L4 := Lib.hid (HO.out.kept hg4 (.inr (fun e => by have := (HO.out.lt _ e).1; omega)))
      have hs4 : wr.heap.size ≤ w4.heap.size := hg4.size
      clear hc4 hg4 q0 HC HA HB HO
      cases x with
      | false =>
        go_wp2
        go_roundw
        case rel => exact ⟨ix + 1, l, lv, by omega, by go_num, rfl, Lib.hid (by rw [HT.out]; exact HSU.out.trans (List.sublist_append_left _ _)), L4, HQ, C4, A4, B4, by omega⟩
        case measure => simp [intOf]; omega
      | true =>
        have HLb : Hid (∀ q, lv.ownBlock = some q → W.heap.size ≤ q) := Lib.hid (fun q hq => by have := (L4.out.lt q hq).1; omega)
        go_wp2_with (at_builtin; refine wpList_pushL rfl (.tmp 26) (.tmp 28) 28 29 rfl rfl 3 (.int .i64 0) 8 Tryd.underlying28 Tryd.infoI rfl w1.heap.size (.int .i64 y) lv l.length (ints l) L4.out rfl w4.heap.size rfl rfl rfl (by unfold maxLen; omega) (by omega) (by omega) ?_; intro v6 w6 hown hg; have L6 := Lib.hid hown; have G6 := Lib.hid hg; have B6 : Hid (Below W.heap.size W w6) := Lib.hid (B4.out.trans (hg.below (by omega) HLb.out)); clear hown hg)
        have hs6 : w4.heap.size ≤ w6.heap.size := G6.out.size
        have A6 := Lib.hid (A4.out.keeps (Keeps.of_gr G6.out.1 (fun q hq => by have := HQ.out q hq; omega)))
        have C6 := Lib.hid (C4.out.push G6.out (fun q hq => by have := HQ.out q hq; omega))
        have Q6 : Hid (∀ q, v6.ownBlock = some q → q = w1.heap.size ∨ w3.heap.size ≤ q) := Lib.hid (fun q hq => by
          rcases G6.out.2 with e | ⟨g, e, hg⟩
          · exact HQ.out q (by rw [← e]; exact hq)
          · rw [e] at hq; simp at hq; omega)
        go_roundw
        case rel => exact ⟨ix + 1, l ++ [y], v6, by omega, by go_num, rfl, Lib.hid (by rw [HT.out]; exact HSU.out.append (List.Sublist.refl _)), Lib.hid (by rw [ints_snoc, List.length_append]; exact L6.out), Q6, C6, A6, B6, by omega⟩
        case measure => simp [intOf]; omega
    · obtain ⟨ix', hix'⟩ : ∃ y, y = ix := ⟨_, rfl⟩
      subst hix'
      have HSU2 : Hid (l.Sublist al) := Lib.hid (HSU.out.trans (List.take_sublist _ _))
      have hnl : ¬ (ix' : Int) < (al.length : Int) := by omega
      cases l with
      | nil =>
        have HF : Hid (Iv w2.heap.size w3.heap.size wr (.slice a3 1 k3) (al.take 1)) := Lib.hid (HA.out.first (by omega))
        have HN : Hid (al.take 1 ≠ []) := Lib.hid (fun e => by have := congrArg List.length e; rw [List.length_take, List.length_nil] at this; omega)
        obtain ⟨a', k', e', -, -, h3⟩ := HA.out.parts
        injection e' with e1 e2 e3
        subst e1 e3
        obtain ⟨bb, o, rfl, hb1, hb2, hb, q0⟩ := h3 0 (by omega)
        clear h3 e2 q0
        obtain ⟨a5, k5, e5, -, -, -⟩ := (Ro.of_own HO.out).read.parts
        have HE : Hid (lv = .slice a5 0 k5) := Lib.hid e5
        clear e5
        rw [HE.out] at ⊢
        have hk31 : 1 ≤ k3 := by omega
        go_wp2
        go_ret
        exact ⟨_, rfl, _, List.take_sublist _ _, HN.out, HF.out.wide (by omega) hwr, HB.out⟩
      | cons y r =>
        have hll : (y :: r).length ≤ al.length := HSU2.out.length_le
        have hl1 : ¬ ((y :: r).length : Int) = 0 := by simp; omega
        have HR : Hid (Iv W.heap.size wr.heap.size wr lv (y :: r)) := Lib.hid (Rv.wide (Ro.of_own HO.out).read (by omega) (Nat.le_refl _))
        obtain ⟨a', k', e', -, -, -⟩ := HR.out.parts
        have HE := Lib.hid e'
        clear e'
        generalize hm : (y :: r).length = m at *
        rw [HE.out] at HR ⊢
        go_wp2
        go_ret
        exact ⟨_, rfl, _, HSU2.out, by simp, HR.out, HB.out⟩
end Go.Proofs.YteahjnobnbafiaaDoor
