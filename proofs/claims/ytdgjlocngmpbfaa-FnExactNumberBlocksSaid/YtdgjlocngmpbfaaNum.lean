/-
  spec.l03Number, spec.NumberBlocks and impl.NumberBlocks, and the walk of the law FnExactNumberBlocks. Conditions of the contracts: bounds on the lengths, which the law checks.
-/
import Derived.Test.YtdgjlocngmpbfaaRow
namespace Go.Proofs.Ytdgjlocngmpbfaa
open Go.RowKit Go.WideShapes
open Go Go.Deep

set_option maxRecDepth 100000 in
set_option maxHeartbeats 8000000 in
theorem specNumber_any (lo hi : Nat) (v : Value) (l : List Int) (w : World) (hr : Iv lo hi w v l) (hn : l.length ≤ 1048576) :
    Calls Try.prog 69 #[v] w (IntsAns w (num l)) := by
  obtain ⟨a, cap, rfl, h1, h2, h3⟩ := hr.parts
  unfold maxLen at h2
  have KEY := Lib.hid h3
  clear h3 hr
  have HLE := Lib.hid (fun k (h : k < l.length) => look_end (l := l) (i := k))
  have HLS := Lib.hid (fun k j (h : k < l.length) (h' : j < k) => look_step (l := l) h h')
  have HNL := Lib.hid (numS_len l)
  have HND : Hid ((numS l l.length).1 = num l) := Lib.hid rfl
  go_enter Try.func69, Try.ntmps69
  go_wp2
  go_loopw [3, 4, 13] (fun vv qv iv wr => ∃ (k q : Nat) (v : Value), k ≤ l.length ∧ iv = .int .i64 k ∧ qv = .int .i64 q ∧ v = vv ∧ q ≤ k ∧ Hid (q = (numS l k).2) ∧ Hid (wr.ownsRow w.heap.size 3 1 v k (ints (numS l k).1)) ∧ Hid (Below w.heap.size w wr)) (fun _ _ iv _ => l.length - (intOf iv).toNat)
  case atStart => exact ⟨0, 0, _, Nat.zero_le _, rfl, rfl, rfl, Nat.le_refl _, Lib.hid rfl, Lib.hid (World.ownsRow_lit (w := w) #[] 0 (Nat.le_refl _) (by decide) rfl), Lib.hid (by go_grown)⟩
  case round =>
    obtain ⟨k, q, v, hk, rfl, rfl, rfl, hqk, HQ, HO, HB⟩ := hrel
    have hro : Ro w.heap.size wr.heap.size wr 3 v (ints (numS l k).1) := Ro.of_own HO.out
    obtain ⟨va, vc, e0, _, hvm, hcell⟩ := hro.read.parts
    rw [ints_len, HNL.out] at e0 hcell
    unfold maxLen at hvm
    have HCE : Hid (∀ j, j < k → ∃ g, va = some ⟨g, 0, none⟩ ∧ wr.cell? ⟨g, j, none⟩ = some (.int .i64 ((numS l k).1.getD j 0))) := Lib.hid (fun j hj => by
      rcases HO.out.2 with ⟨e1, h0⟩ | ⟨g, c, cur, e1, _⟩
      · omega
      · rw [e1] at e0
        simp only [Value.slice.injEq, true_and] at e0
        refine ⟨g, e0.1.symm, ?_⟩
        have h := HO.out
        rw [e1] at h
        rw [h.cellAt j (by omega), ints_at (by rw [HNL.out]; exact hj)])
    clear hcell hro
    subst e0
    by_cases hlt : k < l.length
    · obtain ⟨b, o, rfl, _, _, hb, c0⟩ := KEY.out k hlt
      rw [← HB.out.cell (p := ⟨b, o + k, none⟩) hb] at c0
      have HLE2 := Lib.hid (HLE.out k hlt)
      have HLS2 := Lib.hid (fun j h => HLS.out k j hlt h)
      have hcap : ¬ cap = 0 := by omega
      have hk0 : (0 : Int) ≤ (k : Int) := Int.natCast_nonneg _
      have hk1 : (k : Int) ≤ (cap : Int) := by omega
      have HL0 : Hid (look l k 0 = -1) := Lib.hid (by unfold look; rw [if_neg (by omega)])
      generalize hx : l.getD k 0 = x at *
      have HX := Lib.hid hx
      clear hx
      go_wp2
      go_loop [7, 22] (fun kv jv => ∃ j : Nat, j ≤ k ∧ jv = .int .i64 j ∧ kv = .int .i64 (look l k j)) (fun _ jv => k - (intOf jv).toNat)
      case atStart => exact ⟨0, Nat.zero_le _, rfl, by rw [HL0.out]⟩
      case round =>
        obtain ⟨j, hj, rfl, rfl⟩ := hrel
        by_cases hjk : j < k
        · obtain ⟨b', o', e3, _, _, hb', d0⟩ := KEY.out j (by omega)
          cases e3
          rw [← HB.out.cell (p := ⟨b, o + j, none⟩) hb'] at d0
          obtain ⟨g, rfl, g0⟩ := HCE.out j hjk
          have HST := Lib.hid (HLS2.out j hjk)
          generalize l.getD j 0 = y at *
          generalize (numS l k).1.getD j 0 = z at *
          generalize look l k j = u at *
          by_cases e : y = x
          · rw [if_pos e] at HST
            subst e
            go_wp2
            go_round
            case rel => exact ⟨j + 1, by omega, by go_num, by rw [HST.out]⟩
            case measure => simp [intOf]; omega
          · rw [if_neg e] at HST
            have e1 : (y == x) = false := by simpa using e
            go_wp2
            go_round
            case rel => exact ⟨j + 1, by omega, by go_num, by rw [HST.out]⟩
            case measure => simp [intOf]; omega
        · obtain rfl : j = k := by omega
          clear c0 HCE HLS2
          by_cases hneg : look l j j < 0
          · have HE : Hid (numS l (j + 1) = ((numS l j).1 ++ [((numS l j).2 : Int)], (numS l j).2 + 1)) := Lib.hid (by rw [HLE2.out, if_pos hneg])
            generalize look l j j = u at *
            go_wp2_with (at_builtin; refine wpList_push rfl _ _ 23 rfl 3 (.int .i64 0) 8 Try.underlying23 Try.infoI rfl w.heap.size wr (.int .i64 q) (.slice va j vc) j (ints (numS l j).1) HO.out rfl rfl rfl (by unfold maxLen; omega) (by omega) HB.out.size ?_; intro v' w4 hown hbp _; have HO4 := Lib.hid hown; have BP := Lib.hid hbp; clear hown hbp)
            go_roundw
            case rel => exact ⟨j + 1, q + 1, v', by omega, by go_num, by go_num, rfl, by omega, Lib.hid (by rw [HE.out, HQ.out]), Lib.hid (by have h := HO4.out; rw [HQ.out] at h; rw [HE.out, ints_app]; exact h), Lib.hid (HB.out.trans BP.out)⟩
            case measure => simp [intOf]; omega
          · have HE : Hid (numS l (j + 1) = ((numS l j).1 ++ [look l j j], (numS l j).2)) := Lib.hid (by rw [HLE2.out, if_neg hneg])
            generalize look l j j = u at *
            go_wp2_with (at_builtin; refine wpList_push rfl _ _ 23 rfl 3 (.int .i64 0) 8 Try.underlying23 Try.infoI rfl w.heap.size wr (.int .i64 u) (.slice va j vc) j (ints (numS l j).1) HO.out rfl rfl rfl (by unfold maxLen; omega) (by omega) HB.out.size ?_; intro v' w4 hown hbp _; have HO4 := Lib.hid hown; have BP := Lib.hid hbp; clear hown hbp)
            go_roundw
            case rel => exact ⟨j + 1, q, v', by omega, by go_num, rfl, rfl, by omega, Lib.hid (by rw [HE.out]; exact HQ.out), Lib.hid (by rw [HE.out, ints_app]; exact HO4.out), Lib.hid (HB.out.trans BP.out)⟩
            case measure => simp [intOf]; omega
    · obtain rfl : k = l.length := by omega
      go_wp2
      go_ret
      have h := HO.out
      rw [HND.out] at h
      exact ⟨_, rfl, Ro.of_own h, HB.out⟩

/-- what NumberBlocks answers -/
def nbL (l : List Int) : List Int := if 16 < l.length then [] else num l
theorem IntsAns.nil {w w' : World} (h : Below w.heap.size w w') : IntsAns w [] (.returned (.slice none 0 0)) w' := ⟨_, rfl, Ro.nil _ _ _ _, h⟩
theorem IntsAns.later {w w1 w' : World} {l : List Int} {e : Ending} (hb : Below w.heap.size w w1) (h : IntsAns w1 l e w') : IntsAns w l e w' := by
  obtain ⟨v, he, ho, hb'⟩ := h
  exact ⟨v, he, ho.wide hb.size (Nat.le_refl _), hb.trans (hb'.mono hb.size)⟩

set_option maxRecDepth 100000 in
set_option maxHeartbeats 4000000 in
theorem specNB_any (lo hi : Nat) (v : Value) (l : List Int) (w : World) (hr : Iv lo hi w v l) (hn : l.length ≤ 1048576) :
    Calls Try.prog 30 #[v] w (IntsAns w (nbL l)) := by
  obtain ⟨a, cap, rfl⟩ := hr.form
  by_cases h : 16 < l.length
  · rw [show nbL l = [] from if_pos h]
    clear hr
    have d1 : decide ((16 : Int) < (l.length : Int)) = true := decide_eq_true (by omega)
    go_enter Try.func30, Try.ntmps30
    go_wp2
    go_ret
    exact IntsAns.nil (Below.refl _ _)
  · rw [show nbL l = num l from if_neg h]
    have KN := Lib.hid (specNumber_any lo hi _ l w hr hn)
    clear hr
    have d1 : decide ((16 : Int) < (l.length : Int)) = false := decide_eq_false (by omega)
    go_enter Try.func30, Try.ntmps30
    go_wp2_with fail
    refine KN.out.mono ?_
    rintro e w1 ⟨v1, rfl, hi1, hb1⟩
    have HI := Lib.hid hi1
    have HB := Lib.hid hb1
    clear hi1 hb1
    go_wp2
    go_ret
    exact ⟨v1, rfl, HI.out, HB.out⟩

set_option maxRecDepth 100000 in
set_option maxHeartbeats 4000000 in
theorem implNB_any (lo hi : Nat) (v : Value) (l : List Int) (w : World) (hr : Iv lo hi w v l) :
    Calls Try.prog 24 #[v] w (IntsAns w (nbL l)) := by
  obtain ⟨a, cap, rfl⟩ := hr.form
  by_cases h : 16 < l.length
  · rw [show nbL l = [] from if_pos h]
    clear hr
    have d1 : decide ((16 : Int) < (l.length : Int)) = true := decide_eq_true (by omega)
    go_enter Try.func24, Try.ntmps24
    go_wp2
    go_ret
    exact IntsAns.nil (Below.refl _ _)
  · rw [show nbL l = num l from if_neg h]
    have hpl := pad_len (l := l) (by omega)
    have hpt : (pad l).take l.length = l := by unfold pad; simp
    have K1 := Lib.hid (rowOf_any lo hi _ l w hr (by omega))
    have K2 := Lib.hid (fun W => numbered_any (pad l) l.length W hpl (by omega))
    have hnl := num_len l
    have hpl2 := pad_len (l := num l) (by omega)
    have hpt2 : (pad (num l)).take l.length = num l := by rw [← hnl]; unfold pad; simp
    have K3 := Lib.hid (fun W => rowList_any (pad (num l)) l.length W hpl2 (by omega))
    rw [hpt] at K2
    rw [hpt2] at K3
    have HPT := Lib.hid hpt2
    clear hr hpl hpt hnl hpl2 hpt2
    generalize pad (num l) = P2 at *
    generalize pad l = P1 at *
    have d1 : decide ((16 : Int) < (l.length : Int)) = false := decide_eq_false (by omega)
    go_enter Try.func24, Try.ntmps24
    go_wp2_with fail
    refine K1.out.mono ?_
    rintro e w1 ⟨rfl, hb1⟩
    have B1 := Lib.hid hb1
    clear hb1
    go_wp2_with fail
    refine (K2.out _).mono ?_
    rintro e w2 ⟨rfl, hb2⟩
    have B2 := Lib.hid (B1.out.trans (hb2.mono B1.out.size))
    clear hb2
    go_wp2_with fail
    refine (K3.out _).mono ?_
    rintro e w3 ⟨v3, rfl, hi3, hb3⟩
    have HI := Lib.hid (hi3.wide B2.out.size (Nat.le_refl _))
    have B3 := Lib.hid (B2.out.trans (hb3.mono B2.out.size))
    clear hi3 hb3
    go_wp2
    go_ret
    exact ⟨v3, rfl, HI.out, B3.out⟩

set_option maxRecDepth 100000 in
set_option maxHeartbeats 8000000 in
theorem walk_FnExactNumberBlocks (v0 : Value) (l : List Int) (w : World) (h0 : Iv 0 w.heap.size w v0 l) :
    Calls Try.prog 6 #[v0] w fun e w' => e = .returned (.bool true) ∧ Below w.heap.size w w' := by
  obtain ⟨va, vc, rfl⟩ := h0.form
  by_cases hlen : 1048576 < l.length
  · have d1 : decide ((1048576 : Int) < (l.length : Int)) = true := decide_eq_true (by omega)
    clear h0
    go_enter Try.func6, Try.ntmps6
    go_wp2
    go_ret
    exact ⟨rfl, Below.refl _ _⟩
  have d1 : decide ((1048576 : Int) < (l.length : Int)) = false := decide_eq_false (by omega)
  have hn : l.length ≤ 1048576 := by omega
  have KT := Lib.hid (fun W (h : Below w.heap.size w W) => toIntS_any 0 w.heap.size _ l W (h0.keeps (Keeps.of_all h)) hn)
  have KS := Lib.hid (fun lo hi v W h => specNB_any lo hi v l W h hn)
  have KI := Lib.hid (fun lo hi v W h => implNB_any lo hi v l W h)
  have hrl : (nbL l).length ≤ 16 := by unfold nbL; split; · simp
                                       · rw [num_len]; omega
  clear h0
  generalize nbL l = r at *
  go_enter Try.func6, Try.ntmps6
  go_wp2_with fail
  refine (KT.out _ (Below.refl _ _)).mono ?_
  rintro e w1 ⟨v1, rfl, hi1, hb1⟩
  have I1 := Lib.hid hi1.read
  have B1 := Lib.hid hb1
  clear hi1 hb1
  go_wp2_with fail
  refine (KS.out _ _ _ _ I1.out).mono ?_
  rintro e w2 ⟨v2, rfl, hi2, hb2⟩
  have W2 := Lib.hid hi2.read
  have B2 := Lib.hid (B1.out.trans (hb2.mono B1.out.size))
  clear hi2 hb2 I1
  go_wp2_with fail
  refine (KT.out _ B2.out).mono ?_
  rintro e w3 ⟨v3, rfl, hi3, hb3⟩
  have X3 := Lib.hid hi3
  have W3 := Lib.hid (W2.out.keeps (Keeps.of_all hb3))
  have C3 := Lib.hid hb3
  have B3 := Lib.hid (B2.out.trans (hb3.mono B2.out.size))
  clear hi3 hb3 W2
  go_wp2_with fail
  refine (KI.out _ _ _ _ X3.out.read).mono ?_
  rintro e w4 ⟨v4, rfl, hi4, hb4⟩
  have G4 := Lib.hid hi4
  have X4 := Lib.hid (X3.out.keeps (Keeps.of_all hb4))
  have W4 := Lib.hid (W3.out.keeps (Keeps.of_all hb4))
  have B4 := Lib.hid (B3.out.trans (hb4.mono B3.out.size))
  clear hi4 hb4 X3 W3
  go_wp2_with fail
  refine (eqIntS_same _ _ _ _ _ _ _ _ G4.out.read W4.out).mono ?_
  rintro e w5 ⟨rfl, n5, rfl⟩
  have K5 : Below w4.heap.size w4 (w4.drewN n5) := below_drewN' (Below.refl _ _) n5
  have G5 := Lib.hid (G4.out.keeps (Keeps.of_all K5))
  have X5 := Lib.hid (X4.out.keeps (Keeps.of_all K5))
  have W5 := Lib.hid (W4.out.keeps (Keeps.of_all K5))
  have B5 := Lib.hid (below_drewN' B4.out n5)
  clear K5 G4 X4 W4
  go_wp2_with fail
  refine (KT.out _ B5.out).mono ?_
  rintro e w6 ⟨v6, rfl, hi6, hb6⟩
  have Y6 := Lib.hid hi6.read
  have G6 := Lib.hid (G5.out.keeps (Keeps.of_all hb6))
  have X6 := Lib.hid (X5.out.keeps (Keeps.of_all hb6))
  have W6 := Lib.hid (W5.out.keeps (Keeps.of_all hb6))
  have B6 := Lib.hid (B5.out.trans (hb6.mono B5.out.size))
  clear hi6 hb6 G5 X5 W5
  go_wp2_with fail
  refine (eqIntS_same _ _ _ _ _ _ _ _ X6.out.read Y6.out).mono ?_
  rintro e w7 ⟨rfl, n7, rfl⟩
  have K7 : Below w6.heap.size w6 (w6.drewN n7) := below_drewN' (Below.refl _ _) n7
  have G7 := Lib.hid (G6.out.keeps (Keeps.of_all K7))
  have X7 := Lib.hid (X6.out.keeps (Keeps.of_all K7))
  have W7 := Lib.hid (W6.out.keeps (Keeps.of_all K7))
  have B7 := Lib.hid (below_drewN' B6.out n7)
  clear K7 G6 X6 W6 Y6
  go_wp2_with fail
  refine (markIntS_row _ _ _ _ 1 _ (by omega) (by omega) X7.out).mono ?_
  rintro e w8 ⟨rfl, hi8, hg8⟩
  have T8 := Touch.of_grown (lo := w2.heap.size) (hi := w3.heap.size) hg8 (fun k hk => ⟨(X7.out.1.lt k hk).1, X7.out.2 k hk⟩)
  have G8 := Lib.hid (G7.out.keeps (T8.keeps (.inr (Nat.le_refl _))))
  have W8 := Lib.hid (W7.out.keeps (T8.keeps (.inl (Nat.le_refl _))))
  have B8 := Lib.hid (B7.out.trans (T8.below B2.out.size (by have := B7.out.size; omega)))
  clear hi8 hg8 T8 G7 X7 W7
  go_wp2_with fail
  refine (eqIntS_same _ _ _ _ _ _ _ _ G8.out.read W8.out).mono ?_
  rintro e w9 ⟨rfl, n9, rfl⟩
  have K9 : Below w8.heap.size w8 (w8.drewN n9) := below_drewN' (Below.refl _ _) n9
  have G9 := Lib.hid (G8.out.keeps (Keeps.of_all K9))
  have W9 := Lib.hid (W8.out.keeps (Keeps.of_all K9))
  have B9 := Lib.hid (below_drewN' B8.out n9)
  clear K9 G8 W8
  go_wp2_with fail
  refine (markIntS_row _ _ _ _ 1 _ (by omega) (by omega) G9.out).mono ?_
  rintro e w10 ⟨rfl, hi10, hg10⟩
  have T10 := Touch.of_grown (lo := w3.heap.size) (hi := w4.heap.size) hg10 (fun k hk => ⟨(G9.out.1.lt k hk).1, G9.out.2 k hk⟩)
  have G10 := Lib.hid hi10.read
  have W10 := Lib.hid (W9.out.keeps (T10.keeps (.inl (by have := C3.out.size; omega))))
  have B10 := Lib.hid (B9.out.trans (T10.below B3.out.size (by have := B9.out.size; omega)))
  clear hi10 hg10 T10 G9 W9
  go_wp2_with fail
  refine (heldIntS_any _ _ _ r.length 1 _ (by omega) (by omega) G10.out).mono ?_
  rintro e w11 ⟨rfl, rfl⟩
  go_wp2_with fail
  refine (KT.out _ B10.out).mono ?_
  rintro e w12 ⟨v12, rfl, hi12, hb12⟩
  have Y12 := Lib.hid hi12.read
  have G12 := Lib.hid (G10.out.keeps (Keeps.of_all hb12))
  have W12 := Lib.hid (W10.out.keeps (Keeps.of_all hb12))
  have B12 := Lib.hid (B10.out.trans (hb12.mono B10.out.size))
  clear hi12 hb12 G10 W10
  go_wp2_with fail
  refine (KI.out _ _ _ _ Y12.out).mono ?_
  rintro e w13 ⟨v13, rfl, hi13, hb13⟩
  have H13 := Lib.hid hi13.read
  have G13 := Lib.hid (G12.out.keeps (Keeps.of_all hb13))
  have W13 := Lib.hid (W12.out.keeps (Keeps.of_all hb13))
  have B13 := Lib.hid (B12.out.trans (hb13.mono B12.out.size))
  clear hi13 hb13 G12 W12 Y12
  go_wp2_with fail
  refine (eqIntS_same _ _ _ _ _ _ _ _ H13.out W13.out).mono ?_
  rintro e w14 ⟨rfl, n14, rfl⟩
  have K14 : Below w13.heap.size w13 (w13.drewN n14) := below_drewN' (Below.refl _ _) n14
  have G14 := Lib.hid (G13.out.keeps (Keeps.of_all K14))
  have B14 := Lib.hid (below_drewN' B13.out n14)
  clear K14 G13 W13 H13
  go_wp2_with fail
  refine (heldIntS_any _ _ _ r.length 1 _ (by omega) (by omega) G14.out).mono ?_
  rintro e w15 ⟨rfl, rfl⟩
  go_wp2
  go_ret
  exact ⟨rfl, B14.out⟩
end Go.Proofs.Ytdgjlocngmpbfaa
