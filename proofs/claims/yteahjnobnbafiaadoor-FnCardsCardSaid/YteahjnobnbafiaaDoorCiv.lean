/-
  Contracts of Deal.hidesFrom and Deal.hides. Conditions: a valid deal, hands from 1 to 127.
-/
import Derived.Test.YteahjnobnbafiaaDoorCid
import Derived.Test.YteahjnobnbafiaaDoorCdp
namespace Go.Proofs.YteahjnobnbafiaaDoor
open Go.RowKit Go.WideShapes
open Go Go.Deep
set_option linter.unusedSimpArgs false

theorem or_fold_ge : ∀ (L : List Int) (s : Nat), s ≤ L.foldl (fun s h => s ||| h.toNat) s
  | [], _ => Nat.le_refl _
  | h :: r, s => Nat.le_trans Nat.left_le_or (or_fold_ge r (s ||| h.toNat))
theorem hid_some {third : Int} {l : List Int} {all k c s : Nat} {m : Bool} (hp : ∀ x ∈ l, 0 < x) (h : hidAt third l all k c s m) : m = !(s == 0) := by
  obtain ⟨-, rfl, rfl⟩ := h
  have hp2 : ∀ x ∈ fitL third (l.take k), 0 < x := fun x hx => hp x (List.mem_of_mem_take (List.mem_filter.1 hx).1)
  unfold someL
  cases hf : fitL third (l.take k) with
  | nil => rfl
  | cons x r =>
    rw [hf] at hp2
    have h1 := hp2 x (List.mem_cons_self ..)
    have h2 : x.toNat ≤ (x :: r).foldl (fun s h => s ||| h.toNat) 0 := Nat.le_trans (by simp) (or_fold_ge r (0 ||| x.toNat))
    have h3 : (((x :: r).foldl (fun s h => s ||| h.toNat) 0) == 0) = false := beq_eq_false_iff_ne.2 (by omega)
    rw [h3]; rfl

set_option maxRecDepth 100000 in
set_option maxHeartbeats 8000000 in
theorem hidesFrom_any (d : Dl) (hd : dealR d = true) (T : Nat) (hT : T < 128) (lo hi : Nat) (v : Value) (l : List Int) (w : World) (hr : Iv lo hi w v l) (hx : ∀ x ∈ l, 0 < x ∧ x < 128) :
    Calls Tryd.prog 41 #[d.v, .int .i64 T, v] w fun e w' => e = .returned (.bool (hiddenR l (2 ^ d.n - 1) (T : Int))) ∧ Below w.heap.size w w' := by
  obtain ⟨a, cap, rfl, h1, h2, h3⟩ := hr.parts
  have KEY := Lib.hid h3
  have hall : 2 ^ d.n - 1 < 128 := by have := pow_le (deal_facts hd).2.2.2.2.2.2.2.1; omega
  have KA := Lib.hid (fun W => allCards_any d hd W)
  unfold maxLen at h2
  have HN := Lib.hid (fun k (hk : k < l.length) => show ∃ X : Nat, l.getD k 0 = (X : Int) ∧ X < 128 from by
    have hm : l.getD k 0 ∈ l := by rw [List.getD_eq_getElem?_getD, List.getElem?_eq_getElem hk]; exact List.getElem_mem hk
    have := hx _ hm
    exact ⟨(l.getD k 0).toNat, by omega, by omega⟩)
  have HM := Lib.hid (fun k c s m => hid_some (third := (T : Int)) (l := l) (all := 2 ^ d.n - 1) (k := k) (c := c) (s := s) (m := m) (fun x h => (hx x h).1))
  have HY := Lib.hid (fun k c s m X hk hX h0 h => hid_yes (third := (T : Int)) (l := l) (all := 2 ^ d.n - 1) (k := k) (c := c) (s := s) (m := m) (X := X) hk hX h0 h)
  have HNo := Lib.hid (fun k c s m X hk hX h0 h => hid_no (third := (T : Int)) (l := l) (all := 2 ^ d.n - 1) (k := k) (c := c) (s := s) (m := m) (X := X) hk hX h0 h)
  have HE := Lib.hid (fun k c s m hk h => hid_end (third := (T : Int)) (l := l) (all := 2 ^ d.n - 1) (k := k) (c := c) (s := s) (m := m) rfl hk h)
  have H0 := Lib.hid (hid_0 (T : Int) l (2 ^ d.n - 1))
  clear hr h3 hd hx
  unfold Dl.v at *
  generalize hiddenR l (2 ^ d.n - 1) (T : Int) = R at *
  generalize 2 ^ d.n - 1 = all at *
  generalize d.a = da at *
  generalize d.b = db at *
  generalize d.c = dc at *
  have HW1 := Lib.hid (And.intro (show Cm (w.alloc (.cells #[.int .i64 da, .int .i64 db, .int .i64 dc] 26)) w.heap.size 26 [.int .i64 da, .int .i64 db, .int .i64 dc] from Cm.new (cs := [.int .i64 da, .int .i64 db, .int .i64 dc]) rfl) (show Below w.heap.size w (w.alloc (.cells #[.int .i64 da, .int .i64 db, .int .i64 dc] 26)) from (Below.refl _ _).alloc (Nat.le_refl _) _))
  go_enter Tryd.func41, Tryd.ntmps41
  go_wp2_with fail
  generalize w.alloc (.cells #[.int .i64 da, .int .i64 db, .int .i64 dc] 26) = w1 at *
  refine (KA.out _).mono ?_
  rintro e w2 ⟨rfl, hb2⟩
  have X2 := Lib.hid (HW1.out.1.all hb2)
  have B2 := Lib.hid (HW1.out.2.trans (hb2.mono HW1.out.2.size))
  clear hb2 HW1
  go_wp2
  go_loop [7, 8, 15] (fun cv sv iv => ∃ (k c s : Nat) (m : Bool), k ≤ l.length ∧ iv = .int .i64 k ∧ cv = .int .i64 c ∧ sv = .int .i64 s ∧ c < 128 ∧ s < 128 ∧ Hid (hidAt (T : Int) l all k c s m)) (fun _ _ iv => l.length - (intOf iv).toNat)
  case atStart => exact ⟨0, all, 0, false, Nat.zero_le _, rfl, rfl, rfl, hall, by decide, H0⟩
  case round =>
    clear H0
    obtain ⟨k, c, s, m, hk, rfl, rfl, rfl, hc, hs, HH⟩ := hrel
    have hki0 : (0 : Int) ≤ (k : Int) := Int.natCast_nonneg _
    by_cases hlt : k < l.length
    · have hki1 : (k : Int) < (l.length : Int) := by omega
      obtain ⟨b, o, rfl, -, -, hb, q0⟩ := KEY.out k hlt
      rw [← B2.out.cell (p := ⟨b, o + k, none⟩) hb] at q0
      obtain ⟨X, hX, hX7⟩ := HN.out k hlt
      have HYk := Lib.hid (fun h0 => HY.out k c s m X hlt hX h0 HH.out)
      have HNk := Lib.hid (fun h0 => HNo.out k c s m X hlt hX h0 HH.out)
      rw [hX] at q0
      have e : andI (X : Int) (T : Int) = X &&& T := by unfold andI; rw [Int.toNat_natCast, Int.toNat_natCast]
      rw [e] at HYk HNk
      have hand : bits .and .i64 (X : Int) (T : Int) = ((X &&& T : Nat) : Int) := bits_and_nat X T (by omega) (by omega)
      have hcand : bits .and .i64 (c : Int) (X : Int) = ((c &&& X : Nat) : Int) := bits_and_nat c X (by omega) (by omega)
      have hsor : bits .or .i64 (s : Int) (X : Int) = ((s ||| X : Nat) : Int) := bits_or_nat s X (by omega) (by omega)
      have hc2 : c &&& X < 128 := Nat.lt_of_le_of_lt Nat.and_le_left hc
      have hs2 : s ||| X < 128 := Nat.or_lt_two_pow (n := 7) hs hX7
      clear hX e HH
      generalize X &&& T = Z at *
      generalize c &&& X = c' at *
      generalize s ||| X = s' at *
      by_cases hz : Z = 0
      · have HR := Lib.hid (HYk.out hz)
        rw [hz] at hand
        clear HYk HNk hz
        go_wp2
        go_round
        case rel => exact ⟨k + 1, c', s', true, by omega, by go_num, rfl, rfl, hc2, hs2, HR⟩
        case measure => simp [intOf] <;> omega
      · have HR := Lib.hid (HNk.out hz)
        have hzb : ((Z : Int) == 0) = false := beq_eq_false_iff_ne.2 (by omega)
        clear HYk HNk hz
        go_wp2
        go_round
        case rel => exact ⟨k + 1, c, s, m, by omega, by go_num, rfl, rfl, hc, hs, HR⟩
        case measure => simp [intOf] <;> omega
    · have HF := Lib.hid (HE.out k c s m hlt HH.out)
      have HM2 := Lib.hid (HM.out k c s m HH.out)
      have hnl : ¬ (k : Int) < (l.length : Int) := by omega
      have hsor : bits .or .i64 (s : Int) (T : Int) = ((s ||| T : Nat) : Int) := bits_or_nat s T (by omega) (by omega)
      have c0 := X2.out.cell 0
      have c1 := X2.out.cell 1
      have c2 := X2.out.cell 2
      simp only [List.getElem?_cons_zero, List.getElem?_cons_succ] at c0 c1 c2
      clear HH
      generalize s ||| T = u at *
      by_cases hs0 : s = 0
      · have HF2 : Hid (R = true) := Lib.hid (by rw [HF.out, HM2.out, hs0]; rfl)
        subst hs0
        clear HF HM2
        go_wp2
        go_ret
        exact ⟨by rw [HF2.out]; rfl, B2.out⟩
      · have HG : Hid (R = (c == 0 && u == all)) := Lib.hid (by rw [HF.out, HM2.out, beq_eq_false_iff_ne.2 hs0]; rfl)
        have hsb : ((s : Int) == 0) = false := beq_eq_false_iff_ne.2 (by omega)
        clear HF HM2 hs0
        by_cases hc0 : c = 0
        · by_cases hu : u = all
          · have HF2 : Hid (R = true) := Lib.hid (by rw [HG.out, hc0, hu]; simp)
            subst hc0 hu
            clear HG
            go_wp2_with fail
            refine (KA.out _).mono ?_
            rintro e w3 ⟨rfl, hb3⟩
            have B3 := Lib.hid (B2.out.trans (hb3.mono B2.out.size))
            clear hb3
            go_wp2
            go_ret
            exact ⟨by rw [HF2.out]; rfl, B3.out⟩
          · have HF2 : Hid (R = false) := Lib.hid (by rw [HG.out, beq_eq_false_iff_ne.2 hu]; simp)
            have hub : ((u : Int) == (all : Int)) = false := beq_eq_false_iff_ne.2 (by omega)
            subst hc0
            clear HG hu
            go_wp2_with fail
            refine (KA.out _).mono ?_
            rintro e w3 ⟨rfl, hb3⟩
            have B3 := Lib.hid (B2.out.trans (hb3.mono B2.out.size))
            clear hb3
            go_wp2
            go_ret
            exact ⟨by rw [HF2.out]; rfl, B3.out⟩
        · have HF2 : Hid (R = false) := Lib.hid (by rw [HG.out, beq_eq_false_iff_ne.2 hc0]; simp)
          have hcb : ((c : Int) == 0) = false := beq_eq_false_iff_ne.2 (by omega)
          clear HG hc0
          go_wp2
          go_ret
          exact ⟨by rw [HF2.out]; rfl, B2.out⟩

set_option maxRecDepth 100000 in
set_option maxHeartbeats 8000000 in
theorem hidesI_any (d : Dl) (hd : dealR d = true) (lo hi : Nat) (v : Value) (l : List Int) (w : World) (hr : Iv lo hi w v l) (hx : ∀ x ∈ l, 0 < x ∧ x < 128) :
    Calls Tryd.prog 29 #[d.v, v] w fun e w' => e = .returned (.bool (hidesP d l)) ∧ Below w.heap.size w w' := by
  have HDF := deal_facts hd
  have KN := Lib.hid (fun k W => handsI_any d hd k W)
  have KH := Lib.hid (fun T hT W (h : Below w.heap.size w W) => hidesFrom_any d hd T hT lo hi v l W (hr.keeps (Keeps.of_all h)) hx)
  have HTh := Lib.hid (fun k j (hj : j < (handsN d.n k).length) => handsN_nat (n := d.n) (k := k) (j := j) HDF.2.2.2.2.2.2.2.1 hj)
  have HR : Hid (hidesP d l = ((handsN d.n d.c.toNat).drop 0).all (hiddenR l (2 ^ d.n - 1))) := Lib.hid rfl
  have HS : Hid (∀ j, j < (handsN d.n d.c.toNat).length → ((handsN d.n d.c.toNat).drop j).all (hiddenR l (2 ^ d.n - 1)) = (hiddenR l (2 ^ d.n - 1) ((handsN d.n d.c.toNat).getD j 0) && ((handsN d.n d.c.toNat).drop (j + 1)).all (hiddenR l (2 ^ d.n - 1)))) := Lib.hid (fun j hj => all_drop _ _ hj 0)
  have HEND : Hid (∀ j, ¬ j < (handsN d.n d.c.toNat).length → ((handsN d.n d.c.toNat).drop j).all (hiddenR l (2 ^ d.n - 1)) = true) := Lib.hid (fun j hj => by rw [List.drop_of_length_le (by omega)]; rfl)
  have hlen : (handsN d.n d.c.toNat).length ≤ 128 := Nat.le_trans (handsTo_len _ _) (pow_le HDF.2.2.2.2.2.2.2.1)
  have hc0 : 0 ≤ d.c := HDF.2.2.2.2.1
  obtain ⟨a, cap, rfl⟩ := hr.form
  clear hr hx hd HDF
  unfold IntsAns at KN
  obtain ⟨k, hk⟩ := Int.eq_ofNat_of_zero_le hc0
  have KNk := Lib.hid (KN.out k)
  have HThk := Lib.hid (HTh.out k)
  have hck : d.c.toNat = k := by omega
  rw [hck] at HR HS HEND hlen
  clear KN HTh hc0 hck
  unfold Dl.v at *
  generalize hidesP d l = R at *
  generalize hiddenR l (2 ^ d.n - 1) = f at *
  generalize handsN d.n k = L at *
  rw [hk] at *
  clear hk
  generalize d.a = da at *
  generalize d.b = db at *
  have HW1 := Lib.hid (And.intro (show Cm (w.alloc (.cells #[.int .i64 da, .int .i64 db, .int .i64 k] 26)) w.heap.size 26 [.int .i64 da, .int .i64 db, .int .i64 k] from Cm.new (cs := [.int .i64 da, .int .i64 db, .int .i64 k]) rfl) (show Below w.heap.size w (w.alloc (.cells #[.int .i64 da, .int .i64 db, .int .i64 k] 26)) from (Below.refl _ _).alloc (Nat.le_refl _) _))
  go_enter Tryd.func29, Tryd.ntmps29
  go_wp2_with fail
  generalize w.alloc (.cells #[.int .i64 da, .int .i64 db, .int .i64 k] 26) = w1 at *
  refine (KNk.out _).mono ?_
  rintro e w2 ⟨v2, rfl, ho2, hb2⟩
  obtain ⟨a2, c2', e2⟩ := ho2.form
  subst e2
  have A2 := Lib.hid ho2.read
  have X2 := Lib.hid (HW1.out.1.all hb2)
  have B2 := Lib.hid (HW1.out.2.trans (hb2.mono HW1.out.2.size))
  clear hb2 HW1 ho2
  obtain ⟨a3, c3, e3, h1, h2, h3⟩ := A2.out.parts
  injection e3 with e4 e5 e6
  subst e4 e6
  clear e5
  have KEY := Lib.hid h3
  unfold maxLen at h2
  clear h3
  go_wp2
  go_loopw [12] (fun iv wr => ∃ j : Nat, j ≤ L.length ∧ iv = .int .i64 j ∧ Hid (R = (L.drop j).all f) ∧ Hid (Below w2.heap.size w2 wr)) (fun iv _ => L.length - (intOf iv).toNat)
  case atStart => exact ⟨0, Nat.zero_le _, rfl, HR, Lib.hid (Below.refl _ _)⟩
  case round =>
    clear HR
    obtain ⟨j, hj, rfl, HR, HB⟩ := hrel
    have hji0 : (0 : Int) ≤ (j : Int) := Int.natCast_nonneg _
    by_cases hlt : j < L.length
    · have hji1 : (j : Int) < (L.length : Int) := by omega
      obtain ⟨b, o, rfl, -, -, hb, q0⟩ := KEY.out j hlt
      rw [← HB.out.cell (p := ⟨b, o + j, none⟩) hb] at q0
      obtain ⟨T, hT, hT7⟩ := HThk.out j hlt
      have HRj := Lib.hid (HS.out j hlt)
      rw [hT] at q0 HRj
      have HRR : Hid (R = (f (T : Int) && (L.drop (j + 1)).all f)) := Lib.hid (by rw [HR.out, HRj.out])
      have KHT := Lib.hid (fun W h => KH.out T hT7 W h)
      have hXr := X2.out.all HB.out
      have c0 := hXr.cell 0
      have c1 := hXr.cell 1
      have c2 := hXr.cell 2
      simp only [List.getElem?_cons_zero, List.getElem?_cons_succ] at c0 c1 c2
      clear hT HR HRj hXr
      obtain ⟨q, hq⟩ : ∃ q, q = f (T : Int) := ⟨_, rfl⟩
      rw [← hq] at HRR KHT
      clear hq
      go_wp2_with fail
      refine (KHT.out _ (B2.out.trans (HB.out.mono B2.out.size))).mono ?_
      rintro e w3 ⟨rfl, hb3⟩
      have B3 := Lib.hid (HB.out.trans (hb3.mono HB.out.size))
      clear hb3 c0 c1 c2
      cases q with
      | true =>
        go_wp2
        go_roundw
        case rel => exact ⟨j + 1, by omega, by go_num, Lib.hid (by rw [HRR.out]; rfl), B3⟩
        case measure => simp [intOf] <;> omega
      | false =>
        go_wp2
        go_ret
        exact ⟨by rw [HRR.out]; rfl, B2.out.trans (B3.out.mono B2.out.size)⟩
    · have HF : Hid (R = true) := Lib.hid (by rw [HR.out, HEND.out j hlt])
      have hnl : ¬ (j : Int) < (L.length : Int) := by omega
      go_wp2
      go_ret
      exact ⟨by rw [HF.out]; rfl, B2.out.trans (HB.out.mono B2.out.size)⟩
end Go.Proofs.YteahjnobnbafiaaDoor
