/-
  The walk of the law FnNumbers: it returns true and writes nothing that was there. No condition.
-/
import Derived.Test.YtmcjimmebbkjcaaPrl
import Derived.Test.YtmcjimmebbkjcaaPnm
import Derived.Test.YtmcjimmebbkjcaaPnd
import Derived.Test.YtmcjimmebbkjcaaPim
namespace Go.Proofs.Ytmcjimmebbkjcaa
open Go.RowKit Go.WideShapes
open Go Go.Deep
set_option linter.unusedSimpArgs false

theorem leftF_wf : ∀ (bs : List Bool) (k : Nat) (xs : List Pr), WfP xs → WfP (leftF k xs bs)
  | [], _, _, h => h
  | _ :: bs, k, _, h => leftF_wf bs (k + 1) _ (h.after _ _)
theorem leftR_wf (x : Int) (bs : List Bool) : WfP (leftR x bs) := by
  unfold leftR; split
  · exact fun _ h => (by cases h)
  · exact leftF_wf _ _ _ (allR_wf x)
theorem Bv.takeB {lo hi : Nat} {w : World} {a : Option Addr} {c n M : Nat} {l : List Bool} (h : Bv lo hi w (.slice a n c) l) (hM : M ≤ l.length) : Bv lo hi w (.slice a M c) (l.take M) := by
  obtain ⟨a', c', e, h1, h2, h3⟩ := h
  cases e
  have hl : (bools (l.take M)).length = M := by rw [bools_len, List.length_take]; omega
  rw [bools_len] at h1
  refine ⟨a, c, by rw [hl], by rw [hl]; omega, h2, ?_⟩
  rcases h3 with h3 | ⟨b, o, rfl, x1, x2, x3, x4⟩
  · refine .inl ?_
    have : l = [] := by have := congrArg List.length h3; rw [bools_len] at this; exact List.length_eq_zero_iff.1 this
    subst this
    simp [bools]
  · refine .inr ⟨b, o, rfl, x1, x2, x3, fun j x hx => x4 j x ?_⟩
    unfold bools at hx ⊢
    rw [List.map_take, List.getElem?_take] at hx
    split at hx
    · exact hx
    · cases hx
theorem last_at {l : List Bool} {M i : Nat} (h : l = List.replicate M false ++ [true]) (hi : i < M) : l.getD i false = false := by
  rw [h, List.getD_eq_getElem?_getD, List.getElem?_append_left (by simpa using hi), List.getElem?_replicate]
  split <;> rfl
theorem last_end {l : List Bool} {M : Nat} (h : l = List.replicate M false ++ [true]) : l.getD M false = true := by
  rw [h, List.getD_eq_getElem?_getD, List.getElem?_append_right (by simp)]
  simp
theorem has_grow {xs : List Pr} {p : Pr} {k : Nat} (hk : k < xs.length) (hf : hasP (xs.take k) p = false) : hasP (xs.take (k + 1)) p = (xs.getD k default == p) := by
  rw [take_oneP hk]; unfold hasP at *; rw [List.any_append, hf]; simp
theorem has_stay {xs : List Pr} {p : Pr} {k : Nat} (hk : k < xs.length) (hf : hasP (xs.take k) p = true) : hasP (xs.take (k + 1)) p = true := by
  rw [take_oneP hk]; unfold hasP at *; rw [List.any_append, hf]; rfl

set_option maxRecDepth 100000 in
set_option maxHeartbeats 16000000 in
theorem walk_FnNumbers (v0 : Value) (len : Nat) (w : World) (h0 : InBytes w v0 len) :
    Calls Try.prog 13 #[v0] w fun e w' => e = .returned (.bool true) ∧ Below w.heap.size w w' := by
  obtain ⟨a0, cap0, rfl, hlc, hcm, -⟩ := id h0
  unfold maxLen at hcm
  by_cases hbig : 1048576 < len
  · clear h0
    go_enter Try.func13, Try.ntmps13
    go_wp2
    go_ret
    exact ⟨rfl, Below.refl _ _⟩
  have KM := Lib.hid (makePair_any w _ (h0.code (by omega)))
  clear h0
  go_enter Try.func13, Try.ntmps13
  go_wp2_with fail
  refine KM.out.mono ?_
  rintro e w1 ⟨n, p, rfl, n1, n12, hp, hb1⟩
  clear KM hbig
  obtain ⟨l, hl, l1, l2, l3, l4, l5, l6, l7, l8, l9, l10⟩ := nums_any n1 n12 hp
  obtain ⟨M, hM⟩ : ∃ M, l.length = M + 1 := ⟨l.length - 1, by omega⟩
  have hM1 : l.length - 1 = M := by omega
  rw [hM1] at l4 l5 l6 l9 l10
  rw [par2] at l5 l10
  have KA := Lib.hid (fun W => (implAnswers_any n p W).mono fun e w' h => h.bo)
  have KT := Lib.hid (fun W => implTurn_any n p W)
  have KP := Lib.hid (fun W => implPairP_any p W)
  have KAll := Lib.hid (fun W => (implAllP_any n W).mono fun e w' h => h.po)
  have hturn : turnR n p = M + 1 := by unfold turnR; rw [hl]; exact hM
  rw [hl] at KA
  rw [hturn] at KT
  rw [show ((M + 1 : Nat) : Int) = (M : Int) + 1 by omega] at KT
  rw [l3] at KP
  simp only [Option.getD_some, Option.isSome_some] at KA
  have hB1 : (leftR n (l.take M)).length ≤ 82 := leftR_len _ _
  have hB2 : (leftR n l).length ≤ 82 := leftR_len _ _
  have hWB : WfP (leftR n (l.take M)) := leftR_wf _ _
  have KL1 := Lib.hid (fun W {lo hi v} (h : Bv lo hi W v (l.take M)) => (implLeft_any lo hi n v (l.take M) W h (by rw [List.length_take]; omega)).mono fun e w' h => h.po)
  have KL2 := Lib.hid (fun W {lo hi v} (h : Bv lo hi W v l) => (implLeft_any lo hi n v l W h (by omega)).mono fun e w' h => h.po)
  have HLA := Lib.hid (fun i (h : i < M) => last_at l4 h)
  have HLE := Lib.hid (last_end l4)
  generalize leftR n (l.take M) = be at *
  generalize leftR n l = af at *
  obtain ⟨ff, hff⟩ : ∃ ff, ff = ((M : Int) % 2 == 0) := ⟨_, rfl⟩
  have KO := Lib.hid (fun W {v} x (hx : ownP be x ((M : Int) % 2 == 0) = true) (h : Ps W v be) => implOwnP_any v be x ((M : Int) % 2 == 0) W h hWB (hWB.key (ownP_iff.1 hx).1 _) (by omega))
  have KF := Lib.hid (fun W {v} (h : Ps W v be) => (implAfterP_any v be ((M : Int) % 2 == 0) false W h hWB (by omega)).mono fun e w' h => h.po)
  have HO1 := Lib.hid l5
  have HOX : Hid (∀ k, k < af.length → ownP be (af.getD k default) ((M : Int) % 2 == 0) = true) := Lib.hid (fun k hk => by
    rw [← par2]
    exact l9 _ (by rw [List.getD_eq_getElem?_getD, List.getElem?_eq_getElem hk]; exact List.getElem_mem hk))
  have HAL := Lib.hid l7
  have HHP : Hid (hasP (af.take af.length) p = true) := Lib.hid (by rw [List.take_of_length_le (Nat.le_refl _)]; exact l8)
  have HSUM := Lib.hid l10
  have HML := Lib.hid hM
  have HG := Lib.hid (fun k h hf => has_grow (xs := af) (p := p) (k := k) h hf)
  have HS := Lib.hid (fun k h hf => has_stay (xs := af) (p := p) (k := k) h hf)
  have hMn : M ≤ n := by omega
  have hni : (n : Int) ≤ 12 := by omega
  have hni1 : (1 : Int) ≤ (n : Int) := by omega
  have hMi0 : (0 : Int) ≤ (M : Int) := Int.natCast_nonneg _
  have hMi : (M : Int) ≤ 12 := by omega
  have hMni : (M : Int) ≤ (n : Int) := by omega
  clear hWB l1 l2 l3 l4 l5 l7 l8 l9 l10 hl hturn hM hM1 hp hff ff
  obtain ⟨pa, pb⟩ := p
  unfold Pr.v at KA KT KP KO ⊢
  simp only at KA KT KP ⊢
  have BB1 := Lib.hid hb1
  clear hb1
  have B0 : Hid (Below w.heap.size w w1) := BB1
  go_wp2_with fail
  have A0 := Lib.hid (Pcell.new w1 ⟨pa, pb⟩ 33)
  have hb2 : Below w1.heap.size w1 (w1.alloc (.cells #[.int .i64 pa, .int .i64 pb] 33)) := by go_grown
  generalize w1.alloc (.cells #[.int .i64 pa, .int .i64 pb] 33) = w2 at *
  have B1 : Hid (Below w.heap.size w w2) := Lib.hid (B0.out.trans (hb2.mono B0.out.size))
  clear B0
  clear hb2
  refine (KA.out _).mono ?_
  rintro e w3 ⟨v3, rfl, ho3, hb3⟩
  have B2 : Hid (Below w.heap.size w w3) := Lib.hid (B1.out.trans (hb3.mono B1.out.size))
  have A3 := Lib.hid (A0.out.below hb3)
  clear B1 A0
  have Z3 : Hid (w2.heap.size ≤ w3.heap.size) := Lib.hid hb3.size
  have L4 := Lib.hid ho3
  clear ho3 hb3
  obtain ⟨la, lc, el⟩ := L4.out.form
  subst el
  obtain ⟨_, _, eq0, hlc1, hlc2, -⟩ := L4.out.read.parts
  cases eq0
  unfold maxLen at hlc2
  obtain ⟨ac0, ac1, alt⟩ := A3.out
  go_wp2_with fail
  clear ac0 ac1 alt
  refine (KT.out _).mono ?_
  rintro e w4 ⟨rfl, hb4⟩
  have B5 : Hid (Below w.heap.size w w4) := Lib.hid (B2.out.trans (hb4.mono B2.out.size))
  have A6 := Lib.hid (A3.out.below hb4)
  have L7 := Lib.hid (L4.out.keeps (Keeps.of_all hb4))
  clear B2 A3 L4
  have Z4 : Hid (w3.heap.size ≤ w4.heap.size) := Lib.hid hb4.size
  clear hb4
  have hln : (l.length : Int) = (M : Int) + 1 := by have := HML.out; omega
  obtain ⟨ac0, ac1, alt⟩ := A6.out
  go_wp2_with fail
  clear ac0 ac1 alt
  refine (KP.out _).mono ?_
  rintro e w5 ⟨rfl, hb5⟩
  have B8 : Hid (Below w.heap.size w w5) := Lib.hid (B5.out.trans (hb5.mono B5.out.size))
  have A9 := Lib.hid (A6.out.below hb5)
  have L10 := Lib.hid (L7.out.keeps (Keeps.of_all hb5))
  clear B5 A6 L7
  have Z5 : Hid (w4.heap.size ≤ w5.heap.size) := Lib.hid hb5.size
  clear hb5
  go_wp2
  go_loop [57] (fun iv => ∃ i : Nat, i ≤ l.length ∧ iv = .int .i64 i) (fun iv => l.length - (intOf iv).toNat)
  case atStart => exact ⟨0, Nat.zero_le _, rfl⟩
  case round =>
    obtain ⟨i, hi, rfl⟩ := hrel
    by_cases hlt : i < l.length
    · obtain ⟨a', c', eq', -, -, hkey⟩ := L10.out.read.parts
      cases eq'
      obtain ⟨b, o, rfl, -, -, hbl, c0⟩ := hkey i hlt
      clear hkey
      have hi0 : (0 : Int) ≤ (i : Int) := Int.natCast_nonneg _
      by_cases hend : i < M
      · rw [HLA.out i hend] at c0
        have hcmp : ((i : Int) == (M : Int)) = false := beq_eq_false_iff_ne.2 (by omega)
        have hcmp2 : ¬ (i : Int) = (M : Int) := by omega
        go_wp2
        go_round
        case rel => exact ⟨i + 1, by omega, by go_num⟩
        case measure => simp [intOf]; omega
      · have hiM : i = M := by have := HML.out; omega
        rw [hiM, HLE.out] at c0
        subst hiM
        go_wp2
        go_round
        case rel => exact ⟨i + 1, by omega, by go_num⟩
        case measure => simp [intOf]; omega
    · obtain ⟨i', hi'⟩ : ∃ y, y = i := ⟨_, rfl⟩
      subst hi'
      have hil : i' = l.length := by omega
      have hMc : M ≤ lc := by have := HML.out; omega
      go_wp2_with fail
      refine (KL1.out _ (L10.out.read.takeB (by have := HML.out; omega))).mono ?_
      rintro e w6 ⟨v6, rfl, ho6, hb6⟩
      have B11 : Hid (Below w.heap.size w w6) := Lib.hid (B8.out.trans (hb6.mono B8.out.size))
      have A12 := Lib.hid (A9.out.below hb6)
      have L13 := Lib.hid (L10.out.keeps (Keeps.of_all hb6))
      clear B8 A9 L10
      have Z6 : Hid (w5.heap.size ≤ w6.heap.size) := Lib.hid hb6.size
      have P14 := Lib.hid ho6
      clear ho6 hb6
      obtain ⟨ba, bc, eb⟩ := P14.out.form
      subst eb
      go_wp2_with fail
      refine (KL2.out _ L13.out.read).mono ?_
      rintro e w7 ⟨v7, rfl, ho7, hb7⟩
      have B15 : Hid (Below w.heap.size w w7) := Lib.hid (B11.out.trans (hb7.mono B11.out.size))
      have A16 := Lib.hid (A12.out.below hb7)
      have L17 := Lib.hid (L13.out.keeps (Keeps.of_all hb7))
      have P18 := Lib.hid (P14.out.keeps (Keeps.of_all hb7))
      clear B11 A12 L13 P14
      have Z7 : Hid (w6.heap.size ≤ w7.heap.size) := Lib.hid hb7.size
      have Q19 := Lib.hid ho7
      clear ho7 hb7
      obtain ⟨fa, fc, ef⟩ := Q19.out.form
      subst ef
      obtain ⟨ac0, ac1, alt⟩ := A16.out
      go_wp2_with fail
      clear ac0 ac1 alt
      refine (KO.out _ ⟨pa, pb⟩ HO1.out P18.out.read).mono ?_
      rintro e w8 ⟨rfl, hb8⟩
      rw [HO1.out]
      have B20 : Hid (Below w.heap.size w w8) := Lib.hid (B15.out.trans (hb8.mono B15.out.size))
      have A21 := Lib.hid (A16.out.below hb8)
      have L22 := Lib.hid (L17.out.keeps (Keeps.of_all hb8))
      have P23 := Lib.hid (P18.out.keeps (Keeps.of_all hb8))
      have Q24 := Lib.hid (Q19.out.keeps (Keeps.of_all hb8))
      clear B15 A16 L17 P18 Q19
      have Z8 : Hid (w7.heap.size ≤ w8.heap.size) := Lib.hid hb8.size
      clear hb8
      have hle : ¬ (be.length : Int) < (af.length : Int) := by omega
      go_wp2_with fail
      refine (KAll.out _).mono ?_
      rintro e w9 ⟨v9, rfl, ho9, hb9⟩
      have B25 : Hid (Below w.heap.size w w9) := Lib.hid (B20.out.trans (hb9.mono B20.out.size))
      have A26 := Lib.hid (A21.out.below hb9)
      have L27 := Lib.hid (L22.out.keeps (Keeps.of_all hb9))
      have P28 := Lib.hid (P23.out.keeps (Keeps.of_all hb9))
      have Q29 := Lib.hid (Q24.out.keeps (Keeps.of_all hb9))
      clear B20 A21 L22 P23 Q24
      have Z9 : Hid (w8.heap.size ≤ w9.heap.size) := Lib.hid hb9.size
      have R30 := Lib.hid ho9
      clear ho9 hb9
      obtain ⟨ra, rc, er⟩ := R30.out.form
      subst er
      have hal : ((allR (n : Int)).length : Int) = 2 * (n : Int) := by have := HAL.out; omega
      have hwn : IntKind.i64.wrap (2 * (n : Int)) = 2 * (n : Int) := IntWalk.i64_in _ (by omega)
      generalize (allR (n : Int)).length = na at *
      clear R30
      go_wp2
      have hdec : ∀ inst : Decidable (be.length < af.length), @decide (be.length < af.length) inst = false := fun _ => decide_eq_false (by omega)
      simp only [hdec]
      clear hal hwn hle hdec
      have PP := Lib.hid (fun W (h : Below w9.heap.size w9 W) => P28.out.read.below h (Nat.le_refl _))
      have QQ := Lib.hid Q29.out.read
      have AA := Lib.hid (fun W (h : Below w9.heap.size w9 W) => A26.out.below h)
      have BB := B25
      clear l6 P28 Q29 A26 B25 L27
      go_loopw [12, 103] (fun fv iv wr => ∃ (k : Nat) (fd : Bool), k ≤ af.length ∧ iv = .int .i64 k ∧ fv = .bool fd ∧ Hid (fd = hasP (af.take k) ⟨pa, pb⟩) ∧ Hid (Below w9.heap.size w9 wr)) (fun _ iv _ => af.length - (intOf iv).toNat)
      case atStart => exact ⟨0, false, Nat.zero_le _, rfl, rfl, Lib.hid rfl, Lib.hid (Below.refl _ _)⟩
      case round =>
        obtain ⟨k, fd, hk, rfl, rfl, HF, HW⟩ := hrel
        have AR := Lib.hid (AA.out _ HW.out)
        have PR := Lib.hid (PP.out _ HW.out)
        by_cases hlk : k < af.length
        · obtain ⟨fa', fc', eq', hfc1, hfc2, hkey⟩ := (QQ.out.below HW.out (Nat.le_refl _)).parts
          cases eq'
          unfold maxLen at hfc2
          obtain ⟨b, o, rfl, hbl, c0, c1⟩ := hkey k hlk
          clear hkey
          have HXk := Lib.hid (HOX.out k hlk)
          have HGk := Lib.hid (HG.out k hlk)
          have HSk := Lib.hid (HS.out k hlk)
          generalize af.getD k default = x at *
          obtain ⟨xa, xb⟩ := x
          simp only at c0 c1
          have hnew : Below wr.heap.size wr (wr.alloc (.cells #[.int .i64 xa, .int .i64 xb] 33)) := (Below.refl _ _).alloc (Nat.le_refl _) _
          have HNW := Lib.hid (HW.out.trans (hnew.mono HW.out.size))
          have XC := Lib.hid (Pcell.new wr ⟨xa, xb⟩ 33)
          have PN := Lib.hid (PR.out.below hnew (Nat.le_refl _))
          clear hnew
          obtain ⟨ac0, ac1, alt⟩ := AR.out
          simp only at ac0 ac1
          cases fd with
          | true =>
            have HF2 : Hid (true = hasP (af.take (k + 1)) ⟨pa, pb⟩) := Lib.hid (HSk.out HF.out.symm).symm
            clear HF HGk HSk
            go_wp2_with fail
            refine (KO.out _ ⟨xa, xb⟩ HXk.out PN.out).mono ?_
            rintro e w9 ⟨rfl, hb9⟩
            rw [HXk.out]
            have HW9 := Lib.hid (HNW.out.trans (hb9.mono HNW.out.size))
            clear hb9 ac0 ac1 alt c0 c1
            go_wp2
            go_roundw
            case rel => exact ⟨k + 1, true, by omega, by go_num, rfl, HF2, HW9⟩
            case measure => simp [intOf] <;> omega
          | false =>
            have HG2 := Lib.hid (HGk.out HF.out.symm)
            clear HF HGk HSk
            by_cases hxa : xa = pa
            · by_cases hxb : xb = pb
              · have HF2 : Hid (true = hasP (af.take (k + 1)) ⟨pa, pb⟩) := Lib.hid (by rw [HG2.out, hxa, hxb]; exact (beq_self_eq_true _).symm)
                subst hxa hxb
                clear HG2
                go_wp2_with fail
                refine (KO.out _ ⟨xa, xb⟩ HXk.out PN.out).mono ?_
                rintro e w9 ⟨rfl, hb9⟩
                rw [HXk.out]
                have HW9 := Lib.hid (HNW.out.trans (hb9.mono HNW.out.size))
                clear hb9 ac0 ac1 alt c0 c1
                go_wp2
                go_roundw
                case rel => exact ⟨k + 1, true, by omega, by go_num, rfl, HF2, HW9⟩
                case measure => simp [intOf] <;> omega
              · have HF2 : Hid (false = hasP (af.take (k + 1)) ⟨pa, pb⟩) := Lib.hid (by rw [HG2.out]; exact (beq_eq_false_iff_ne.2 (fun e => hxb (by cases e; rfl))).symm)
                subst hxa
                clear HG2
                go_wp2_with fail
                refine (KO.out _ ⟨xa, xb⟩ HXk.out PN.out).mono ?_
                rintro e w9 ⟨rfl, hb9⟩
                rw [HXk.out]
                have HW9 := Lib.hid (HNW.out.trans (hb9.mono HNW.out.size))
                clear hb9 ac0 ac1 alt c0 c1
                go_wp2
                go_roundw
                case rel => exact ⟨k + 1, false, by omega, by go_num, rfl, HF2, HW9⟩
                case measure => simp [intOf] <;> omega
            · have HF2 : Hid (false = hasP (af.take (k + 1)) ⟨pa, pb⟩) := Lib.hid (by rw [HG2.out]; exact (beq_eq_false_iff_ne.2 (fun e => hxa (by cases e; rfl))).symm)
              clear HG2
              go_wp2_with fail
              refine (KO.out _ ⟨xa, xb⟩ HXk.out PN.out).mono ?_
              rintro e w9 ⟨rfl, hb9⟩
              rw [HXk.out]
              have HW9 := Lib.hid (HNW.out.trans (hb9.mono HNW.out.size))
              clear hb9 ac0 ac1 alt c0 c1
              go_wp2
              go_roundw
              case rel => exact ⟨k + 1, false, by omega, by go_num, rfl, HF2, HW9⟩
              case measure => simp [intOf] <;> omega
        · obtain ⟨k', hk'⟩ : ∃ y, y = k := ⟨_, rfl⟩
          subst hk'
          have hfd : fd = true := by rw [HF.out, show k' = af.length by omega]; exact HHP.out
          subst hfd
          have HBW := Lib.hid (BB.out.trans (HW.out.mono BB.out.size))
          go_wp2_with fail
          refine (KF.out _ PR.out).mono ?_
          rintro e w9 ⟨v9, rfl, ho9, hb9⟩
          have HB9 := Lib.hid (HBW.out.trans (hb9.mono HBW.out.size))
          obtain ⟨ga, gc, eg⟩ := ho9.form
          subst eg
          have hsum : ((afterP be ((M : Int) % 2 == 0) false).length : Int) + (af.length : Int) = (be.length : Int) := by have := HSUM.out; omega
          have hs82 : (afterP be ((M : Int) % 2 == 0) false).length ≤ 82 := Nat.le_trans (afterP_len _ _ _) hB1
          clear hb9 ho9
          generalize (afterP be ((M : Int) % 2 == 0) false).length = nz at *
          have hwz : IntKind.i64.wrap ((nz : Int) + (af.length : Int)) = (be.length : Int) := by rw [hsum]; exact IntWalk.i64_in _ (by omega)
          go_wp2
          go_ret
          exact ⟨ret_bool (by simp <;> omega), HB9.out⟩
end Go.Proofs.Ytmcjimmebbkjcaa
