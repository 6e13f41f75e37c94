/-
  Contracts of spec.HidesAll and IsSafe. No condition.
-/
import Derived.Test.YteahjnobnbafiaaCdo
namespace Go.Proofs.Yteahjnobnbafiaa
open Go.RowKit Go.WideShapes
open Go Go.Deep
set_option linter.unusedSimpArgs false

theorem all_drop {α : Type} (l : List α) (f : α → Bool) {j : Nat} (hj : j < l.length) (d : α) : (l.drop j).all f = (f (l.getD j d) && (l.drop (j + 1)).all f) := by
  rw [List.drop_eq_getElem_cons hj]
  have e : l[j] = l.getD j d := by rw [List.getD_eq_getElem?_getD, List.getElem?_eq_getElem hj]; rfl
  rw [e, List.all_cons]
theorem handsN_nat {n k j : Nat} (hn : n ≤ 7) (hj : j < (handsN n k).length) : ∃ X : Nat, (handsN n k).getD j 0 = (X : Int) ∧ X < 128 := by
  have hm : (handsN n k).getD j 0 ∈ handsN n k := by rw [List.getD_eq_getElem?_getD, List.getElem?_eq_getElem hj]; exact List.getElem_mem hj
  have h1 := handsTo_in (show (handsN n k).getD j 0 ∈ handsTo k (2 ^ n) from hm)
  have h2 := pow_le hn
  exact ⟨((handsN n k).getD j 0).toNat, by omega, by omega⟩

set_option maxRecDepth 100000 in
set_option maxHeartbeats 16000000 in
theorem specHides_any (lo hi : Nat) (v : Value) (l : List Int) (d : Dl) (w : World) (hr : Iv lo hi w v l) :
    Calls Try.prog 24 #[d.v, v] w fun e w' => e = .returned (.bool (hidesR d l)) ∧ Below w.heap.size w w' := by
  have KA := Lib.hid (fun W (h : Below w.heap.size w W) => specAnn_any lo hi v l d W (hr.keeps (Keeps.of_all h)))
  have KN := Lib.hid (fun n k hn W => hands_any n k hn W)
  have KH := Lib.hid (fun hN all T W (h : Below w.heap.size w W) ha hT => specHidden_any lo hi v l all T W (hr.keeps (Keeps.of_all h)) hN ha hT)
  have HR : Hid (hidesR d l = (annR d l && (handsN d.n d.c.toNat).all (hiddenR l (2 ^ d.n - 1)))) := Lib.hid rfl
  obtain ⟨a, cap, rfl, h1, h2, h3⟩ := hr.parts
  have HNat := Lib.hid (fun (h : annR d l = true) k (hk : k < l.length) => ann_nat h hk)
  have HD := Lib.hid (fun (h : annR d l = true) => deal_facts (ann_mem h).1)
  clear hr h3
  unfold Dl.v at *
  unfold IntsAns at KN
  generalize hidesR d l = R at *
  generalize annR d l = ok at *
  obtain ⟨da, db, dc⟩ := d
  simp only at *
  generalize Dl.n ⟨da, db, dc⟩ = n at *
  have hX : Cm (w.alloc (.cells #[.int .i64 da, .int .i64 db, .int .i64 dc] 25)) w.heap.size 25 [.int .i64 da, .int .i64 db, .int .i64 dc] := Cm.new (cs := [.int .i64 da, .int .i64 db, .int .i64 dc]) rfl
  have hb1 : Below w.heap.size w (w.alloc (.cells #[.int .i64 da, .int .i64 db, .int .i64 dc] 25)) := (Below.refl _ _).alloc (Nat.le_refl _) _
  go_enter Try.func24, Try.ntmps24
  go_wp2_with fail
  generalize w.alloc (.cells #[.int .i64 da, .int .i64 db, .int .i64 dc] 25) = w1 at *
  refine (KA.out _ hb1).mono ?_
  rintro e w2 ⟨rfl, hb2⟩
  have B2 := Lib.hid (hb1.trans (hb2.mono hb1.size))
  have hX2 := hX.all hb2
  have c0 := hX2.cell 0
  have c1 := hX2.cell 1
  have c2 := hX2.cell 2
  simp only [List.getElem?_cons_zero, List.getElem?_cons_succ] at c0 c1 c2
  clear hb2 hX hb1 hX2
  cases ok with
  | false =>
    have HN : Hid (R = false) := Lib.hid HR.out
    clear HR
    go_wp2
    go_ret
    exact ⟨by rw [HN.out]; rfl, B2.out⟩
  | true =>
    obtain ⟨a1, a7, b1, b7, cc1, cc7, hs, hn, hsn⟩ := HD.out rfl
    obtain ⟨k, rfl⟩ := Int.eq_ofNat_of_zero_le cc1
    have HNT := Lib.hid (HNat.out rfl)
    have HN : Hid (R = ((handsN n k).drop 0).all (hiddenR l (2 ^ n - 1))) := Lib.hid (by rw [HR.out, Int.toNat_natCast]; rfl)
    have hsh : (2 : Int) ^ n = ((2 ^ n : Nat) : Int) := by simp
    have hT := pow_le hn
    have hT1 : 1 ≤ 2 ^ n := Nat.one_le_two_pow
    have HHN := Lib.hid (fun j hj => handsN_nat (n := n) (k := k) (j := j) hn hj)
    have KN1 := Lib.hid (fun W => KN.out n k hn W)
    have KH1 := Lib.hid (fun T W h hT' => KH.out HNT.out (2 ^ n - 1) T W h (by omega) hT')
    have HAD := Lib.hid (fun j hj => all_drop (handsN n k) (hiddenR l (2 ^ n - 1)) (j := j) hj 0)
    obtain ⟨A, hA⟩ : ∃ A, A = 2 ^ n - 1 := ⟨_, rfl⟩
    rw [← hA] at HN KH1 HAD
    have hAi : ((2 ^ n : Nat) : Int) - 1 = (A : Int) := by omega
    have hA7 : A < 128 := by omega
    clear HR HD HNat KN KH hA
    generalize 2 ^ n = T at *
    generalize handsN n k = hs' at *
    have hTi : (T : Int) ≤ 128 := by omega
    have hTi1 : (1 : Int) ≤ (T : Int) := by omega
    have hni0 : (0 : Int) ≤ (n : Int) := by omega
    have hni7 : (n : Int) ≤ 7 := by omega
    go_wp2_with fail
    refine (KN1.out _).mono ?_
    rintro e w3 ⟨v3, rfl, ho3, hb3⟩
    have H3 := Lib.hid ho3.read
    obtain ⟨a3, cp3, e3, h31, h32, h33⟩ := H3.out.parts
    subst e3
    have KEY3 := Lib.hid h33
    unfold maxLen at h32
    have B3 := Lib.hid (B2.out.trans (hb3.mono B2.out.size))
    clear ho3 hb3 c0 c1 c2 h33
    go_wp2
    go_loopw [25] (fun iv wr => ∃ j : Nat, j ≤ hs'.length ∧ iv = .int .i64 j ∧ Hid (R = (hs'.drop j).all (hiddenR l A)) ∧ Hid (w3 = wr)) (fun iv _ => hs'.length - (intOf iv).toNat)
    case atStart => exact ⟨0, Nat.zero_le _, rfl, HN, Lib.hid rfl⟩
    case round =>
      clear HN
      obtain ⟨j, hj, rfl, HR, HW⟩ := hrel
      obtain rfl := HW.out
      have hji0 : (0 : Int) ≤ (j : Int) := Int.natCast_nonneg _
      by_cases hlt : j < hs'.length
      · have hji1 : (j : Int) < (hs'.length : Int) := by omega
        obtain ⟨b, o, rfl, -, -, hb, q0⟩ := KEY3.out j hlt
        obtain ⟨X, hX, hX7⟩ := HHN.out j hlt
        have HAj := Lib.hid (HAD.out j hlt)
        rw [hX] at q0 HAj
        have KHj := Lib.hid (KH1.out X _ B3.out hX7)
        obtain ⟨q, hq⟩ : ∃ q, q = hiddenR l A (X : Int) := ⟨_, rfl⟩
        rw [← hq] at HAj KHj
        clear hX hq
        go_wp2_with fail
        refine KHj.out.mono ?_
        rintro e w5 ⟨rfl, rfl⟩
        cases q with
        | false =>
          have HF : Hid (R = false) := Lib.hid (by rw [HR.out, HAj.out]; rfl)
          clear HR HAj
          go_wp2
          go_ret
          exact ⟨by rw [HF.out]; rfl, B3.out⟩
        | true =>
          have HF : Hid (R = (hs'.drop (j + 1)).all (hiddenR l A)) := Lib.hid (by rw [HR.out, HAj.out]; rfl)
          clear HR HAj
          go_wp2
          go_roundw
          case rel => exact ⟨j + 1, by omega, by go_num, HF, Lib.hid trivial⟩
          case measure => simp [intOf] <;> omega
      · have HF : Hid (R = true) := Lib.hid (by rw [HR.out, List.drop_of_length_le (by omega)]; rfl)
        have hnl : ¬ (j : Int) < (hs'.length : Int) := by omega
        clear HR
        go_wp2
        go_ret
        exact ⟨by rw [HF.out]; rfl, B3.out⟩

set_option maxHeartbeats 2000000 in
theorem specSafe_any (lo hi : Nat) (v : Value) (l : List Int) (d : Dl) (w : World) (hr : Iv lo hi w v l) :
    Calls Try.prog 26 #[d.v, v] w fun e w' => e = .returned (.bool (safeR d l)) ∧ Below w.heap.size w w' := by
  have KT := Lib.hid (fun W (h : Below w.heap.size w W) => specTells_any lo hi v l d W (hr.keeps (Keeps.of_all h)))
  have KH := Lib.hid (fun W (h : Below w.heap.size w W) => specHides_any lo hi v l d W (hr.keeps (Keeps.of_all h)))
  have HR : Hid (safeR d l = (tellR d l && hidesR d l)) := Lib.hid rfl
  obtain ⟨a, cap, rfl⟩ := hr.form
  clear hr
  unfold Dl.v at *
  generalize safeR d l = R at *
  generalize tellR d l = t at *
  generalize hidesR d l = q at *
  obtain ⟨da, db, dc⟩ := d
  simp only at *
  have hX : Cm (w.alloc (.cells #[.int .i64 da, .int .i64 db, .int .i64 dc] 25)) w.heap.size 25 [.int .i64 da, .int .i64 db, .int .i64 dc] := Cm.new (cs := [.int .i64 da, .int .i64 db, .int .i64 dc]) rfl
  have hb1 : Below w.heap.size w (w.alloc (.cells #[.int .i64 da, .int .i64 db, .int .i64 dc] 25)) := (Below.refl _ _).alloc (Nat.le_refl _) _
  go_enter Try.func26, Try.ntmps26
  go_wp2_with fail
  generalize w.alloc (.cells #[.int .i64 da, .int .i64 db, .int .i64 dc] 25) = w1 at *
  refine (KT.out _ hb1).mono ?_
  rintro e w2 ⟨rfl, hb2⟩
  have B2 := Lib.hid (hb1.trans (hb2.mono hb1.size))
  have hX2 := hX.all hb2
  have c0 := hX2.cell 0
  have c1 := hX2.cell 1
  have c2 := hX2.cell 2
  simp only [List.getElem?_cons_zero, List.getElem?_cons_succ] at c0 c1 c2
  clear hb2 hX hb1 hX2
  cases t with
  | false =>
    have HN : Hid (R = false) := Lib.hid HR.out
    clear HR
    go_wp2
    go_ret
    exact ⟨by rw [HN.out]; rfl, B2.out⟩
  | true =>
    have HN : Hid (R = q) := Lib.hid HR.out
    clear HR
    go_wp2_with fail
    refine (KH.out _ B2.out).mono ?_
    rintro e w3 ⟨rfl, hb3⟩
    have B3 := Lib.hid (B2.out.trans (hb3.mono B2.out.size))
    clear hb3 c0 c1 c2
    go_wp2
    go_ret
    exact ⟨by rw [HN.out]; rfl, B3.out⟩
end Go.Proofs.Yteahjnobnbafiaa
