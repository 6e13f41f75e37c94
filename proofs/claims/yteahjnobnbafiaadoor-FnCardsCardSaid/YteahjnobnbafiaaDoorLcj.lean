/-
  The walk of the law FnCards: it returns true and writes nothing that was there. The library's table is a premise.
-/
import Derived.Test.YteahjnobnbafiaaDoorCdz
import Derived.Test.YteahjnobnbafiaaDoorCdx
import Derived.Test.YteahjnobnbafiaaDoorNuc
import Derived.Test.YteahjnobnbafiaaDoorCin
import Derived.Test.YteahjnobnbafiaaDoorCio
namespace Go.Proofs.YteahjnobnbafiaaDoor
open Go.RowKit Go.WideShapes
open Go Go.Deep
set_option linter.unusedSimpArgs false

theorem tab_Cards {w : World} (hL : laidMetH Tryd.prog Rows.fnCardsRow.laid w) : Tab w :=
  Lib.tabIs_of_head (rest := []) (t := 81) gPow (by kernel_rfl) Tryd.underlying81 Tryd.underlying75 (by kernel_rfl) (by kernel_rfl) (hL.filter (fun x => x.1 == "internal/strconv.uint64pow10"))
theorem deals_n : ∀ d ∈ dealsL, d.a + d.b + d.c = (d.n : Int) ∧ d.n ≤ 6 ∧ (0 ≤ d.a ∧ d.a ≤ 7) ∧ (0 ≤ d.b ∧ d.b ≤ 7) ∧ (0 ≤ d.c ∧ d.c ≤ 7) ∧ d.b = (d.b.toNat : Int) ∧ d.a = (d.a.toNat : Int) := by decide +kernel
theorem hands_text : ∀ k < (128 : Nat), 0 < k → handB ((k : Nat) : Int) ≠ [] := by decide +kernel
theorem hand_text {h : Int} (h1 : 0 < h) (h2 : h ≤ 127) : handB h ≠ [] := by
  obtain ⟨k, rfl⟩ := Int.eq_ofNat_of_zero_le (show 0 ≤ h by omega)
  exact hands_text k (by omega) (by omega)
theorem bytes_ne {l : List UInt8} (h : l ≠ []) : ¬ (⟨l.toArray⟩ : ByteArray).toList = [] := by rw [ByteArray.toList_eq]; simpa using h

set_option maxRecDepth 100000 in
set_option maxHeartbeats 16000000 in
theorem walk_FnCards (v00 : Value) (len : Nat) (w : World) (h0 : InBytes w v00 len) (hL : laidMetH Tryd.prog Rows.fnCardsRow.laid w) :
    Calls Tryd.prog 4 #[v00] w fun e w' => e = .returned (.bool true) ∧ Below w.heap.size w w' := by
  have ht := Lib.hid (tab_Cards hL)
  clear hL
  obtain ⟨a0, cap0, e0, hlc, hcm, -⟩ := id h0
  subst e0
  unfold maxLen at hcm
  by_cases hbig : 1048576 < len
  · clear h0 ht
    go_enter Tryd.func4, Tryd.ntmps4
    go_wp2
    go_ret
    exact ⟨rfl, Below.refl _ _⟩
  have HK := Lib.hid (h0.code (by omega))
  have KD := Lib.hid (fun W (h : Below w.heap.size w W) => makeDeal_any W _ (HK.out.below h (Nat.le_refl _)))
  have KM := Lib.hid (fun d hd W (h : Below w.heap.size w W) => makeHands_any d hd 20 (by decide) W _ (HK.out.below h (Nat.le_refl _)))
  clear h0
  go_enter Tryd.func4, Tryd.ntmps4
  go_wp2_with fail
  refine (KD.out _ (Below.refl _ _)).mono ?_
  rintro e w1 ⟨d, hd, rfl, hb1⟩
  obtain ⟨hsum, hn6, ⟨ga0, ga7⟩, ⟨gb0, gb7⟩, ⟨gc0, gc7⟩, hbB, haA⟩ := deals_n d hd
  have HD1 := Lib.hid (deals_hands d hd)
  have hal := deals_len d hd
  have HOK := Lib.hid (deals_ok d hd)
  have HPO := Lib.hid (deals_pop d hd)
  have HAN := Lib.hid (fun l h1 h2 => told_ann hd (l := l) h1 h2)
  have HTO := Lib.hid (fun l h1 h2 => (told_iff hd (l := l) h1 h2).trans (toldTo_all d l).symm)
  have KMd := Lib.hid (KM.out d hd)
  have KA := Lib.hid (fun lo hi v l W hr hn => implAnn_any lo hi v l d W hr hn)
  have KT := Lib.hid (fun lo hi v l W hr hn => implTells_any lo hi v l d W hr hn)
  have KS := Lib.hid (fun lo hi v l W hr hn => implSafe_any lo hi v l d W hr hn)
  have KI := Lib.hid (fun lo hi v l W hr hn => implHides_any lo hi v l d W hr hn)
  have KH := Lib.hid (fun W => implHands_any d W)
  have KK := Lib.hid (fun W => implDeal_any d W)
  have T0 := Lib.hid (fun l b h => toldTo_no (d := d) (l := l) (b := b) h)
  have T1 := Lib.hid (fun l b h => toldTo_yes (d := d) (l := l) (b := b) h)
  have TZ : Hid (∀ l, toldTo d l 0 = true) := Lib.hid (fun l => rfl)
  have HSA : Hid (∀ l, safeR d l = (tellR d l && hidesR d l)) := Lib.hid (fun l => rfl)
  have KO := Lib.hid (fun h hh W => ones_any h hh W)
  have hpw := pow_le (show d.n ≤ 7 by omega)
  have hsh : (2 : Int) ^ d.n = ((2 ^ d.n : Nat) : Int) := by simp
  have B1 := Lib.hid hb1
  unfold IntsAns at KH
  clear hb1 hd KD KM
  generalize toldTo d = TS at *
  generalize d.b.toNat = nB at *
  generalize d.a.toNat = nA at *
  generalize handsR d = al at *
  obtain ⟨dv, hdv⟩ : ∃ dv, dv = d.v := ⟨_, rfl⟩
  rw [← hdv] at KMd KA KT KS KI KH KK ⊢
  obtain ⟨da, hda⟩ : ∃ da, da = d.a := ⟨_, rfl⟩
  obtain ⟨db, hdb⟩ : ∃ db, db = d.b := ⟨_, rfl⟩
  obtain ⟨dc, hdc⟩ : ∃ dc, dc = d.c := ⟨_, rfl⟩
  have hv : dv = .agg #[.int .i64 da, .int .i64 db, .int .i64 dc] := by rw [hdv, hda, hdb, hdc]; rfl
  rw [hv] at KMd KA KT KS KI KH KK ⊢
  rw [← hda, ← hdb, ← hdc] at hsum
  rw [← hda] at ga0 ga7 haA
  rw [← hdb] at gb0 gb7 hbB
  rw [← hdc] at gc0 gc7
  clear hdv hda hdb hdc hv
  generalize d.n = N at *
  subst haA hbB
  have HSUM := Lib.hid hsum
  clear hsum
  generalize 2 ^ N = T at *
  have hTi : (T : Int) ≤ 128 := by omega
  have hni0 : (0 : Int) ≤ (N : Int) := by omega
  have hni7 : (N : Int) ≤ 7 := by omega
  have hs1 := B1.out.size
  have hX : Cm (w1.alloc (.cells #[.int .i64 (nA : Int), .int .i64 (nB : Int), .int .i64 dc] 26)) w1.heap.size 26 [.int .i64 (nA : Int), .int .i64 (nB : Int), .int .i64 dc] := Cm.new (cs := [.int .i64 (nA : Int), .int .i64 (nB : Int), .int .i64 dc]) rfl
  have hb2 : Below w1.heap.size w1 (w1.alloc (.cells #[.int .i64 (nA : Int), .int .i64 (nB : Int), .int .i64 dc] 26)) := (Below.refl _ _).alloc (Nat.le_refl _) _
  go_wp2_with fail
  generalize w1.alloc (.cells #[.int .i64 (nA : Int), .int .i64 (nB : Int), .int .i64 dc] 26) = w2 at *
  have B2 := Lib.hid (B1.out.trans (hb2.mono hs1))
  have X2 := Lib.hid hX
  clear hX hb2
  refine (KMd.out _ B2.out).mono ?_
  rintro e w3 ⟨v3, l, rfl, hsu, hne, hA, hb3⟩
  have B3 := Lib.hid (B2.out.trans (hb3.mono B2.out.size))
  have X3 := Lib.hid (X2.out.all hb3)
  have A3 := Lib.hid hA
  obtain ⟨a3, k3, e3, ha31, ha32, ha33⟩ := A3.out.parts
  subst e3
  have KEY := Lib.hid ha33
  unfold maxLen at ha32
  have HANl := Lib.hid (HAN.out l hsu hne)
  have hll : l.length ≤ 128 := Nat.le_trans hsu.length_le hal
  have HTOl := Lib.hid (HTO.out l hsu hne)
  have HLN : Hid (∀ k, k < l.length → ∃ X : Nat, l.getD k 0 = (X : Int) ∧ X < 128) := Lib.hid (fun k hk => by
    have hm := HPO.out _ (hsu.subset (getD_mem (l := l) (i := k) hk))
    exact ⟨(l.getD k 0).toNat, by omega, by omega⟩)
  have c0 := X3.out.cell 0
  have c1 := X3.out.cell 1
  have c2 := X3.out.cell 2
  simp only [List.getElem?_cons_zero, List.getElem?_cons_succ] at c0 c1 c2
  have hl1w : w1.heap.size < w3.heap.size := X3.out.lt
  have TSl := Lib.hid (fun b => T0.out l b)
  have TSy := Lib.hid (fun b => T1.out l b)
  have TZl := Lib.hid (TZ.out l)
  have HF1 := Lib.hid (fun b k X hk hX => fitTo_step (l := l) (b := b) (k := k) (X := X) hk hX)
  have HFA := Lib.hid (fun b => fitTo_all l b)
  have HFL := Lib.hid (fun b k => fitTo_le l b k)
  have HFZ : Hid (∀ b, fitTo l b 0 = 0) := Lib.hid (fun b => rfl)
  generalize TS l = TL at *
  clear hA hb3 ha33 KMd HAN HTO T0 T1 TZ B2 X2 hsu
  go_wp2_with fail
  rw [HSUM.out]
  clear c0 c1 c2
  go_loopw [6, 7] (fun tv bv wr => ∃ b : Nat, b ≤ T ∧ bv = .int .i64 b ∧ tv = .bool (TL b) ∧ Hid (Below w3.heap.size w3 wr)) (fun _ bv _ => T - (intOf bv).toNat)
  case atStart => exact ⟨0, Nat.zero_le _, rfl, by rw [TZl.out], Lib.hid (Below.refl _ _)⟩
  case round =>
    obtain ⟨b, hbT, rfl, rfl, HB⟩ := hrel
    have hbi : (0 : Int) ≤ (b : Int) := Int.natCast_nonneg _
    by_cases hlt : b < T
    · have hlti : (b : Int) < (T : Int) := by omega
      have KOb := Lib.hid (fun W => KO.out b (by omega) W)
      have hXw := Lib.hid (fun W' (hW : Below wr.heap.size wr W') => (X3.out.all HB.out).all hW)
      have hlw : w1.heap.size < wr.heap.size := by have := HB.out.size; omega
      by_cases hp : pop b = nB
      · have HS := Lib.hid (TSy.out b hp)
        rw [hp] at KOb
        clear hp
        go_wp2
        refine regionL (fun W' => Below wr.heap.size wr W') [] (by kernel_rfl) (Below.refl _ _).drew (fun hHeld => ?_)
        refine takeA (i := 0) (v := .int .i64 b) 36 rfl rfl (by kernel_rfl) (by kernel_rfl) (by kernel_rfl) (by kernel_rfl) (fun _ _ _ h => h) (Or.inl ⟨by rfl, by intro W hSw; go_simp⟩) hHeld ?_
        simp only [Act.put, List.setIfInBounds_toArray, List.set_cons_zero, List.set_cons_succ]
        refine takeA (i := 2) (v := .pointer (some ⟨w1.heap.size, 1, none⟩)) 38 rfl rfl (by kernel_rfl) (by kernel_rfl) (by kernel_rfl) (by kernel_rfl) (fun _ _ _ h => h) (Or.inl ⟨by rfl, by intro W hSw; go_simp⟩) hHeld ?_
        simp only [Act.put, List.setIfInBounds_toArray, List.set_cons_zero, List.set_cons_succ]
        refine takeA (i := 3) (v := .int .i64 nB) 39 rfl rfl (by kernel_rfl) (by kernel_rfl) (by kernel_rfl) (by kernel_rfl) (fun _ _ _ h => h) (Or.inl ⟨by rfl, by intro W hSw; have c1 := (hXw.out _ hSw).cell 1; go_simp⟩) hHeld ?_
        simp only [Act.put, List.setIfInBounds_toArray, List.set_cons_zero, List.set_cons_succ]
        refine onlyL (i := 1) (by kernel_rfl) rfl (by rfl) (fun K hK => ?_)
        go_simp
        refine (KOb.out _).mono ?_
        rintro e w9 ⟨rfl, rfl⟩
        refine hK.out _ _ (fun _ => hHeld) (fun _ => ?_)
        clear hK K
        try simp only [Act.put, List.setIfInBounds_toArray, List.set_cons_zero, List.set_cons_succ]
        refine takeA (i := 4) (v := .bool false) 40 rfl rfl (by kernel_rfl) (by kernel_rfl) (by kernel_rfl) (by kernel_rfl) (fun _ _ _ h => h) (Or.inl ⟨by rfl, by intro W hSw; go_simp⟩) hHeld ?_
        simp only [Act.put, List.setIfInBounds_toArray, List.set_cons_zero, List.set_cons_succ]
        refine doneL (by kernel_rfl) ?_ _
        have HB9 := Lib.hid (HB.out.trans (hHeld.mono HB.out.size))
        clear hHeld hXw
        generalize wr.drew = w9 at *
        go_wp2
        go_loop [8, 43] (fun fv kv => ∃ k : Nat, k ≤ l.length ∧ kv = .int .i64 k ∧ fv = .int .i64 (fitTo l b k)) (fun _ kv => l.length - (intOf kv).toNat)
        case atStart => exact ⟨0, Nat.zero_le _, rfl, by rw [HFZ.out]; rfl⟩
        case round =>
          obtain ⟨k, hk, rfl, rfl⟩ := hrel
          have hki : (0 : Int) ≤ (k : Int) := Int.natCast_nonneg _
          have hfl := HFL.out b k
          by_cases hkl : k < l.length
          · obtain ⟨bb, o, rfl, -, -, hb, q0⟩ := KEY.out k hkl
            rw [← HB9.out.cell (p := ⟨bb, o + k, none⟩) hb] at q0
            have hki1 : (k : Int) < (l.length : Int) := by omega
            obtain ⟨X, hX, hX7⟩ := HLN.out k hkl
            have HF := Lib.hid (HF1.out b k X hkl hX)
            rw [hX] at q0
            have hand : bits .and .i64 (X : Int) (b : Int) = ((X &&& b : Nat) : Int) := bits_and_nat X b (by omega) (by omega)
            clear hX
            generalize X &&& b = Z at *
            generalize fitTo l b k = F at *
            by_cases hz : Z = 0
            · have HF2 : Hid (fitTo l b (k + 1) = F + 1) := Lib.hid (by rw [HF.out, if_pos hz])
              subst hz
              clear HF
              go_wp2
              go_round
              case rel => exact ⟨k + 1, by omega, by go_num, by rw [HF2.out]; go_num⟩
              case measure => simp [intOf]; omega
            · have HF2 : Hid (fitTo l b (k + 1) = F) := Lib.hid (by rw [HF.out, if_neg hz]; rfl)
              have hzb : ((Z : Int) == 0) = false := beq_eq_false_iff_ne.2 (by omega)
              clear HF
              go_wp2
              go_round
              case rel => exact ⟨k + 1, by omega, by go_num, by rw [HF2.out]⟩
              case measure => simp [intOf]; omega
          · have hkn : ¬ (k : Int) < (l.length : Int) := by omega
            have HFE : Hid (fitsN l b = fitTo l b k) := Lib.hid (by rw [show k = l.length by omega, HFA.out])
            have HS2 : Hid (TL (b + 1) = (TL b && decide (fitTo l b k ≤ 1))) := Lib.hid (by rw [HS.out, HFE.out])
            clear HS HFE
            generalize fitTo l b k = F at *
            generalize TL b = tv at *
            cases tv with
            | false =>
              have HS3 : Hid (TL (b + 1) = false) := Lib.hid (by rw [HS2.out]; rfl)
              go_wp2
              go_roundw
              case rel => exact ⟨b + 1, by omega, by go_num, by rw [HS3.out], HB9⟩
              case measure => simp [intOf]; omega
            | true =>
              by_cases hF : F ≤ 1
              · have HS3 : Hid (TL (b + 1) = true) := Lib.hid (by rw [HS2.out, decide_eq_true hF]; rfl)
                have hFi : (F : Int) ≤ 1 := by omega
                go_wp2
                go_roundw
                case rel => exact ⟨b + 1, by omega, by go_num, by rw [HS3.out], HB9⟩
                case measure => simp [intOf]; omega
              · have HS3 : Hid (TL (b + 1) = false) := Lib.hid (by rw [HS2.out, decide_eq_false hF]; rfl)
                have hFi : ¬ (F : Int) ≤ 1 := by omega
                go_wp2
                go_roundw
                case rel => exact ⟨b + 1, by omega, by go_num, by rw [HS3.out], HB9⟩
                case measure => simp [intOf]; omega
      · have HS := Lib.hid (TSl.out b hp)
        have hpb : ¬ (pop b : Int) = (nB : Int) := by omega
        clear hp
        generalize pop b = P at *
        go_wp2
        refine regionL (fun W' => Below wr.heap.size wr W') [] (by kernel_rfl) (Below.refl _ _).drew (fun hHeld => ?_)
        refine takeA (i := 0) (v := .int .i64 b) 36 rfl rfl (by kernel_rfl) (by kernel_rfl) (by kernel_rfl) (by kernel_rfl) (fun _ _ _ h => h) (Or.inl ⟨by rfl, by intro W hSw; go_simp⟩) hHeld ?_
        simp only [Act.put, List.setIfInBounds_toArray, List.set_cons_zero, List.set_cons_succ]
        refine takeA (i := 2) (v := .pointer (some ⟨w1.heap.size, 1, none⟩)) 38 rfl rfl (by kernel_rfl) (by kernel_rfl) (by kernel_rfl) (by kernel_rfl) (fun _ _ _ h => h) (Or.inl ⟨by rfl, by intro W hSw; go_simp⟩) hHeld ?_
        simp only [Act.put, List.setIfInBounds_toArray, List.set_cons_zero, List.set_cons_succ]
        refine takeA (i := 3) (v := .int .i64 nB) 39 rfl rfl (by kernel_rfl) (by kernel_rfl) (by kernel_rfl) (by kernel_rfl) (fun _ _ _ h => h) (Or.inl ⟨by rfl, by intro W hSw; have c1 := (hXw.out _ hSw).cell 1; go_simp⟩) hHeld ?_
        simp only [Act.put, List.setIfInBounds_toArray, List.set_cons_zero, List.set_cons_succ]
        refine onlyL (i := 1) (by kernel_rfl) rfl (by rfl) (fun K hK => ?_)
        go_simp
        refine (KOb.out _).mono ?_
        rintro e w9 ⟨rfl, rfl⟩
        refine hK.out _ _ (fun _ => hHeld) (fun _ => ?_)
        clear hK K
        try simp only [Act.put, List.setIfInBounds_toArray, List.set_cons_zero, List.set_cons_succ]
        refine takeA (i := 4) (v := .bool true) 40 rfl rfl (by kernel_rfl) (by kernel_rfl) (by kernel_rfl) (by kernel_rfl) (fun _ _ _ h => h) (Or.inl ⟨by rfl, by intro W hSw; go_simp⟩) hHeld ?_
        simp only [Act.put, List.setIfInBounds_toArray, List.set_cons_zero, List.set_cons_succ]
        refine doneL (by kernel_rfl) ?_ _
        have HB9 := Lib.hid (HB.out.trans (hHeld.mono HB.out.size))
        clear hHeld hXw
        generalize wr.drew = w9 at *
        go_wp2
        go_roundw
        case rel => exact ⟨b + 1, by omega, by go_num, by rw [HS.out], HB9⟩
        case measure => simp [intOf]; omega
    · have hbn : ¬ (b : Int) < (T : Int) := by omega
      have HTB : Hid (tellR d l = TL b) := Lib.hid (by rw [HTOl.out, show T = b by omega])
      have KAl := Lib.hid (fun W (h : Below w3.heap.size w3 W) => KA.out _ _ _ l W (A3.out.keeps (Keeps.of_all h)) (by omega))
      have KTl := Lib.hid (fun W (h : Below w3.heap.size w3 W) => KT.out _ _ _ l W (A3.out.keeps (Keeps.of_all h)) (by omega))
      have KSl := Lib.hid (fun W (h : Below w3.heap.size w3 W) => KS.out _ _ _ l W (A3.out.keeps (Keeps.of_all h)) (by omega))
      have KIl := Lib.hid (fun W (h : Below w3.heap.size w3 W) => KI.out _ _ _ l W (A3.out.keeps (Keeps.of_all h)) (by omega))
      rw [HANl.out] at KAl
      rw [HTB.out] at KTl
      rw [HSA.out, HTB.out] at KSl
      rw [HOK.out] at KK
      clear HTB HTOl HANl KA KT KS KI HSA TSl TSy TZl HF1 HFA HFL HFZ KEY
      generalize TL b = tv at *
      generalize hidesR d l = hd at *
      have X4 := Lib.hid (X3.out.all HB.out)
      have c0 := X4.out.cell 0
      have c1 := X4.out.cell 1
      have c2 := X4.out.cell 2
      simp only [List.getElem?_cons_zero, List.getElem?_cons_succ] at c0 c1 c2
      have hlw : w1.heap.size < wr.heap.size := X4.out.lt
      go_wp2_with fail
      refine (KAl.out _ HB.out).mono ?_
      rintro e w5 ⟨rfl, hb5⟩
      have B5 := Lib.hid (HB.out.trans (hb5.mono HB.out.size))
      have X5 := Lib.hid (X4.out.all hb5)
      clear hb5 c0 c1 c2 X4
      have c0 := X5.out.cell 0
      have c1 := X5.out.cell 1
      have c2 := X5.out.cell 2
      simp only [List.getElem?_cons_zero, List.getElem?_cons_succ] at c0 c1 c2
      have hlw5 : w1.heap.size < w5.heap.size := X5.out.lt
      go_wp2_with fail
      refine (KTl.out _ B5.out).mono ?_
      rintro e w6 ⟨rfl, hb6⟩
      have B6 := Lib.hid (B5.out.trans (hb6.mono B5.out.size))
      have X6 := Lib.hid (X5.out.all hb6)
      clear hb6 c0 c1 c2 X5
      have c0 := X6.out.cell 0
      have c1 := X6.out.cell 1
      have c2 := X6.out.cell 2
      simp only [List.getElem?_cons_zero, List.getElem?_cons_succ] at c0 c1 c2
      have hlw6 : w1.heap.size < w6.heap.size := X6.out.lt
      go_wp2_with fail
      refine (KSl.out _ B6.out).mono ?_
      rintro e w7 ⟨rfl, hb7⟩
      have B7 := Lib.hid (B6.out.trans (hb7.mono B6.out.size))
      have X7 := Lib.hid (X6.out.all hb7)
      clear hb7 c0 c1 c2 X6
      have c0 := X7.out.cell 0
      have c1 := X7.out.cell 1
      have c2 := X7.out.cell 2
      simp only [List.getElem?_cons_zero, List.getElem?_cons_succ] at c0 c1 c2
      have hlw7 : w1.heap.size < w7.heap.size := X7.out.lt
      clear KAl KTl KSl
      cases tv with
      | false =>
        obtain ⟨w8, hw8⟩ : ∃ w8, w8 = w7 := ⟨_, rfl⟩
        subst hw8
        have B8 := B7
        have X8 := X7
        clear KIl
        go_wp2_with fail
        refine (KH.out _).mono ?_
        rintro e w9 ⟨v9, rfl, ho9, hb9⟩
        have B9 := Lib.hid (B8.out.trans (hb9.mono B8.out.size))
        have X9 := Lib.hid (X8.out.all hb9)
        have A9 := Lib.hid ho9.read
        obtain ⟨a9, k9, e9, ha91, ha92, ha93⟩ := A9.out.parts
        subst e9
        have KEY9 := Lib.hid ha93
        unfold maxLen at ha92
        clear ho9 hb9 ha93 c0 c1 c2 X8
        go_wp2_with fail
        go_loopw [86] (fun iv wr => ∃ j : Nat, j ≤ al.length ∧ iv = .int .i64 j ∧ Hid (Below w9.heap.size w9 wr)) (fun iv _ => al.length - (intOf iv).toNat)
        case atStart => exact ⟨0, Nat.zero_le _, rfl, Lib.hid (Below.refl _ _)⟩
        case round =>
          obtain ⟨j, hj, rfl, HZ⟩ := hrel
          have hji : (0 : Int) ≤ (j : Int) := Int.natCast_nonneg _
          have hlz : w1.heap.size < wr.heap.size := by have := HZ.out.size; have := X9.out.lt; omega
          by_cases hjl : j < al.length
          · obtain ⟨bb, o, rfl, -, -, hb, q0⟩ := KEY9.out j hjl
            rw [← HZ.out.cell (p := ⟨bb, o + j, none⟩) hb] at q0
            have hji1 : (j : Int) < (al.length : Int) := by omega
            obtain ⟨hpY, hY0, hY7⟩ := HPO.out _ (getD_mem (l := al) (i := j) hjl)
            obtain ⟨Y, hY⟩ := Int.eq_ofNat_of_zero_le (show 0 ≤ al.getD j 0 by omega)
            rw [hY] at q0 hpY hY0 hY7
            have KOY := Lib.hid (fun W => KO.out Y (by omega) W)
            have KX := Lib.hid (fun W (h : Below w9.heap.size w9 W) => implHandText_any (Y : Int) W (ht.out.below (B3.out.trans ((B9.out.trans (h.mono B9.out.size)).mono B3.out.size)) (Nat.le_refl _)))
            rw [Int.toNat_natCast] at hpY
            rw [hpY] at KOY
            have hne := bytes_ne (hand_text hY0 hY7)
            clear hY hpY
            generalize (⟨(handB (Y : Int)).toArray⟩ : ByteArray) = S at *
            have hXz := Lib.hid (fun W' (hW : Below wr.heap.size wr W') => (X9.out.all HZ.out).all hW)
            go_wp2
            refine regionL (fun W' => Below wr.heap.size wr W') [] (by kernel_rfl) (Below.refl _ _).drew (fun hHeld => ?_)
            refine takeA (i := 0) (v := .int .i64 Y) 90 rfl rfl (by kernel_rfl) (by kernel_rfl) (by kernel_rfl) (by kernel_rfl) (fun _ _ _ h => h) (Or.inl ⟨by rfl, by intro W hSw; go_simp⟩) hHeld ?_
            simp only [Act.put, List.setIfInBounds_toArray, List.set_cons_zero, List.set_cons_succ]
            refine takeA (i := 2) (v := .pointer (some ⟨w1.heap.size, 0, none⟩)) 92 rfl rfl (by kernel_rfl) (by kernel_rfl) (by kernel_rfl) (by kernel_rfl) (fun _ _ _ h => h) (Or.inl ⟨by rfl, by intro W hSw; go_simp⟩) hHeld ?_
            simp only [Act.put, List.setIfInBounds_toArray, List.set_cons_zero, List.set_cons_succ]
            refine takeA (i := 3) (v := .int .i64 nA) 93 rfl rfl (by kernel_rfl) (by kernel_rfl) (by kernel_rfl) (by kernel_rfl) (fun _ _ _ h => h) (Or.inl ⟨by rfl, by intro W hSw; have c0 := (hXz.out _ hSw).cell 0; go_simp⟩) hHeld ?_
            simp only [Act.put, List.setIfInBounds_toArray, List.set_cons_zero, List.set_cons_succ]
            refine onlyL (i := 1) (by kernel_rfl) rfl (by rfl) (fun K hK => ?_)
            go_simp
            refine (KOY.out _).mono ?_
            rintro e wt ⟨rfl, rfl⟩
            refine hK.out _ _ (fun _ => hHeld) (fun _ => ?_)
            clear hK K
            try simp only [Act.put, List.setIfInBounds_toArray, List.set_cons_zero, List.set_cons_succ]
            refine takeA (i := 4) (v := .bool false) 94 rfl rfl (by kernel_rfl) (by kernel_rfl) (by kernel_rfl) (by kernel_rfl) (fun _ _ _ h => h) (Or.inl ⟨by rfl, by intro W hSw; go_simp⟩) hHeld ?_
            simp only [Act.put, List.setIfInBounds_toArray, List.set_cons_zero, List.set_cons_succ]
            refine takeA (i := 5) (v := .bool false) 95 rfl rfl (by kernel_rfl) (by kernel_rfl) (by kernel_rfl) (by kernel_rfl) (fun _ _ _ h => h) (Or.inl ⟨by rfl, by intro W hSw; go_simp⟩) hHeld ?_
            simp only [Act.put, List.setIfInBounds_toArray, List.set_cons_zero, List.set_cons_succ]
            refine takeA (i := 6) (v := .int .i64 Y) 96 rfl rfl (by kernel_rfl) (by kernel_rfl) (by kernel_rfl) (by kernel_rfl) (fun _ _ _ h => h) (Or.inl ⟨by rfl, by intro W hSw; go_simp⟩) hHeld ?_
            simp only [Act.put, List.setIfInBounds_toArray, List.set_cons_zero, List.set_cons_succ]
            refine onlyL (i := 7) (by kernel_rfl) rfl (by rfl) (fun K hK => ?_)
            go_simp
            refine (KX.out _ (HZ.out.trans (hHeld.mono HZ.out.size))).mono ?_
            rintro e wt ⟨rfl, hbt⟩
            have hHeld2 := hHeld.trans (hbt.mono hHeld.size)
            refine hK.out _ _ (fun _ => hHeld2) (fun _ => ?_)
            clear hK K hHeld
            have hHeld := hHeld2
            try simp only [Act.put, List.setIfInBounds_toArray, List.set_cons_zero, List.set_cons_succ]
            refine takeA (i := 8) (v := .bool false) 98 rfl rfl (by kernel_rfl) (by kernel_rfl) (by kernel_rfl) (by kernel_rfl) (fun _ _ _ h => h) (Or.inl ⟨by rfl, by intro W hSw; go_simp⟩) hHeld ?_
            simp only [Act.put, List.setIfInBounds_toArray, List.set_cons_zero, List.set_cons_succ]
            refine takeA (i := 9) (v := .bool false) 99 rfl rfl (by kernel_rfl) (by kernel_rfl) (by kernel_rfl) (by kernel_rfl) (fun _ _ _ h => h) (Or.inl ⟨by rfl, by intro W hSw; go_simp⟩) hHeld ?_
            simp only [Act.put, List.setIfInBounds_toArray, List.set_cons_zero, List.set_cons_succ]
            refine doneL (by kernel_rfl) ?_ _
            have HZ9 := Lib.hid (HZ.out.trans (hHeld.mono HZ.out.size))
            clear hHeld hHeld2 hbt hXz
            go_wp2
            go_roundw
            case rel => exact ⟨j + 1, by omega, by go_num, HZ9⟩
            case measure => simp [intOf]; omega
          · have hjn : ¬ (j : Int) < (al.length : Int) := by omega
            have hal1 : (0 : Int) < (al.length : Int) := by have := HD1.out; omega
            have hXz := X9.out.all HZ.out
            have c0 := hXz.cell 0
            have c1 := hXz.cell 1
            have c2 := hXz.cell 2
            simp only [List.getElem?_cons_zero, List.getElem?_cons_succ] at c0 c1 c2
            clear hXz
            go_wp2_with fail
            refine (KK.out _).mono ?_
            rintro e wq ⟨rfl, hbq⟩
            have BZ := Lib.hid (B9.out.trans (HZ.out.mono B9.out.size))
            have BQ := Lib.hid (B3.out.trans ((BZ.out.trans (hbq.mono BZ.out.size)).mono B3.out.size))
            clear hbq c0 c1 c2
            go_wp2
            go_ret
            exact ⟨rfl, BQ.out⟩
      | true =>
        go_wp2_with fail
        refine (KIl.out _ B7.out).mono ?_
        rintro e w8 ⟨rfl, hb8⟩
        have B8 := Lib.hid (B7.out.trans (hb8.mono B7.out.size))
        have X8 := Lib.hid (X7.out.all hb8)
        clear hb8 c0 c1 c2 X7 KIl
        have c0 := X8.out.cell 0
        have c1 := X8.out.cell 1
        have c2 := X8.out.cell 2
        simp only [List.getElem?_cons_zero, List.getElem?_cons_succ] at c0 c1 c2
        have hlw8 : w1.heap.size < w8.heap.size := X8.out.lt
        go_wp2_with fail
        refine (KH.out _).mono ?_
        rintro e w9 ⟨v9, rfl, ho9, hb9⟩
        have B9 := Lib.hid (B8.out.trans (hb9.mono B8.out.size))
        have X9 := Lib.hid (X8.out.all hb9)
        have A9 := Lib.hid ho9.read
        obtain ⟨a9, k9, e9, ha91, ha92, ha93⟩ := A9.out.parts
        subst e9
        have KEY9 := Lib.hid ha93
        unfold maxLen at ha92
        clear ho9 hb9 ha93 c0 c1 c2 X8
        go_wp2_with fail
        go_loopw [86] (fun iv wr => ∃ j : Nat, j ≤ al.length ∧ iv = .int .i64 j ∧ Hid (Below w9.heap.size w9 wr)) (fun iv _ => al.length - (intOf iv).toNat)
        case atStart => exact ⟨0, Nat.zero_le _, rfl, Lib.hid (Below.refl _ _)⟩
        case round =>
          obtain ⟨j, hj, rfl, HZ⟩ := hrel
          have hji : (0 : Int) ≤ (j : Int) := Int.natCast_nonneg _
          have hlz : w1.heap.size < wr.heap.size := by have := HZ.out.size; have := X9.out.lt; omega
          by_cases hjl : j < al.length
          · obtain ⟨bb, o, rfl, -, -, hb, q0⟩ := KEY9.out j hjl
            rw [← HZ.out.cell (p := ⟨bb, o + j, none⟩) hb] at q0
            have hji1 : (j : Int) < (al.length : Int) := by omega
            obtain ⟨hpY, hY0, hY7⟩ := HPO.out _ (getD_mem (l := al) (i := j) hjl)
            obtain ⟨Y, hY⟩ := Int.eq_ofNat_of_zero_le (show 0 ≤ al.getD j 0 by omega)
            rw [hY] at q0 hpY hY0 hY7
            have KOY := Lib.hid (fun W => KO.out Y (by omega) W)
            have KX := Lib.hid (fun W (h : Below w9.heap.size w9 W) => implHandText_any (Y : Int) W (ht.out.below (B3.out.trans ((B9.out.trans (h.mono B9.out.size)).mono B3.out.size)) (Nat.le_refl _)))
            rw [Int.toNat_natCast] at hpY
            rw [hpY] at KOY
            have hne := bytes_ne (hand_text hY0 hY7)
            clear hY hpY
            generalize (⟨(handB (Y : Int)).toArray⟩ : ByteArray) = S at *
            have hXz := Lib.hid (fun W' (hW : Below wr.heap.size wr W') => (X9.out.all HZ.out).all hW)
            go_wp2
            refine regionL (fun W' => Below wr.heap.size wr W') [] (by kernel_rfl) (Below.refl _ _).drew (fun hHeld => ?_)
            refine takeA (i := 0) (v := .int .i64 Y) 90 rfl rfl (by kernel_rfl) (by kernel_rfl) (by kernel_rfl) (by kernel_rfl) (fun _ _ _ h => h) (Or.inl ⟨by rfl, by intro W hSw; go_simp⟩) hHeld ?_
            simp only [Act.put, List.setIfInBounds_toArray, List.set_cons_zero, List.set_cons_succ]
            refine takeA (i := 2) (v := .pointer (some ⟨w1.heap.size, 0, none⟩)) 92 rfl rfl (by kernel_rfl) (by kernel_rfl) (by kernel_rfl) (by kernel_rfl) (fun _ _ _ h => h) (Or.inl ⟨by rfl, by intro W hSw; go_simp⟩) hHeld ?_
            simp only [Act.put, List.setIfInBounds_toArray, List.set_cons_zero, List.set_cons_succ]
            refine takeA (i := 3) (v := .int .i64 nA) 93 rfl rfl (by kernel_rfl) (by kernel_rfl) (by kernel_rfl) (by kernel_rfl) (fun _ _ _ h => h) (Or.inl ⟨by rfl, by intro W hSw; have c0 := (hXz.out _ hSw).cell 0; go_simp⟩) hHeld ?_
            simp only [Act.put, List.setIfInBounds_toArray, List.set_cons_zero, List.set_cons_succ]
            refine onlyL (i := 1) (by kernel_rfl) rfl (by rfl) (fun K hK => ?_)
            go_simp
            refine (KOY.out _).mono ?_
            rintro e wt ⟨rfl, rfl⟩
            refine hK.out _ _ (fun _ => hHeld) (fun _ => ?_)
            clear hK K
            try simp only [Act.put, List.setIfInBounds_toArray, List.set_cons_zero, List.set_cons_succ]
            refine takeA (i := 4) (v := .bool false) 94 rfl rfl (by kernel_rfl) (by kernel_rfl) (by kernel_rfl) (by kernel_rfl) (fun _ _ _ h => h) (Or.inl ⟨by rfl, by intro W hSw; go_simp⟩) hHeld ?_
            simp only [Act.put, List.setIfInBounds_toArray, List.set_cons_zero, List.set_cons_succ]
            refine takeA (i := 5) (v := .bool false) 95 rfl rfl (by kernel_rfl) (by kernel_rfl) (by kernel_rfl) (by kernel_rfl) (fun _ _ _ h => h) (Or.inl ⟨by rfl, by intro W hSw; go_simp⟩) hHeld ?_
            simp only [Act.put, List.setIfInBounds_toArray, List.set_cons_zero, List.set_cons_succ]
            refine takeA (i := 6) (v := .int .i64 Y) 96 rfl rfl (by kernel_rfl) (by kernel_rfl) (by kernel_rfl) (by kernel_rfl) (fun _ _ _ h => h) (Or.inl ⟨by rfl, by intro W hSw; go_simp⟩) hHeld ?_
            simp only [Act.put, List.setIfInBounds_toArray, List.set_cons_zero, List.set_cons_succ]
            refine onlyL (i := 7) (by kernel_rfl) rfl (by rfl) (fun K hK => ?_)
            go_simp
            refine (KX.out _ (HZ.out.trans (hHeld.mono HZ.out.size))).mono ?_
            rintro e wt ⟨rfl, hbt⟩
            have hHeld2 := hHeld.trans (hbt.mono hHeld.size)
            refine hK.out _ _ (fun _ => hHeld2) (fun _ => ?_)
            clear hK K hHeld
            have hHeld := hHeld2
            try simp only [Act.put, List.setIfInBounds_toArray, List.set_cons_zero, List.set_cons_succ]
            refine takeA (i := 8) (v := .bool false) 98 rfl rfl (by kernel_rfl) (by kernel_rfl) (by kernel_rfl) (by kernel_rfl) (fun _ _ _ h => h) (Or.inl ⟨by rfl, by intro W hSw; go_simp⟩) hHeld ?_
            simp only [Act.put, List.setIfInBounds_toArray, List.set_cons_zero, List.set_cons_succ]
            refine takeA (i := 9) (v := .bool false) 99 rfl rfl (by kernel_rfl) (by kernel_rfl) (by kernel_rfl) (by kernel_rfl) (fun _ _ _ h => h) (Or.inl ⟨by rfl, by intro W hSw; go_simp⟩) hHeld ?_
            simp only [Act.put, List.setIfInBounds_toArray, List.set_cons_zero, List.set_cons_succ]
            refine doneL (by kernel_rfl) ?_ _
            have HZ9 := Lib.hid (HZ.out.trans (hHeld.mono HZ.out.size))
            clear hHeld hHeld2 hbt hXz
            go_wp2
            go_roundw
            case rel => exact ⟨j + 1, by omega, by go_num, HZ9⟩
            case measure => simp [intOf]; omega
          · have hjn : ¬ (j : Int) < (al.length : Int) := by omega
            have hal1 : (0 : Int) < (al.length : Int) := by have := HD1.out; omega
            have hXz := X9.out.all HZ.out
            have c0 := hXz.cell 0
            have c1 := hXz.cell 1
            have c2 := hXz.cell 2
            simp only [List.getElem?_cons_zero, List.getElem?_cons_succ] at c0 c1 c2
            clear hXz
            go_wp2_with fail
            refine (KK.out _).mono ?_
            rintro e wq ⟨rfl, hbq⟩
            have BZ := Lib.hid (B9.out.trans (HZ.out.mono B9.out.size))
            have BQ := Lib.hid (B3.out.trans ((BZ.out.trans (hbq.mono BZ.out.size)).mono B3.out.size))
            clear hbq c0 c1 c2
            go_wp2
            go_ret
            exact ⟨rfl, BQ.out⟩
end Go.Proofs.YteahjnobnbafiaaDoor
