/-
  Contracts of spec.ParseInt and impl.ParseInt, and the walk of the law FnExactParseInt.
-/
import Derived.Test.YtmniigplfhmbjaaDoorParseM
import Derived.Test.YtmniigplfhmbjaaDoorNumB
import Derived.Lib.AtoiErrMem
import Derived.Stop.LaidErr
namespace Go.Proofs.YtmniigplfhmbjaaDoor
open Go.RowKit
open Go

/-- s begins with a sign -/
def isNeg (l : List UInt8) : Bool := match l with | [] => false | c :: _ => c == 45
def magOf (l : List UInt8) : List UInt8 := if isNeg l then l.drop 1 else l
theorem mag_itoa {m : Int} {l : List UInt8} (h : Lib.itoa m = l) (hr : InR m) : magOf l = Lib.decDigits m.natAbs ∧ (isNeg l = true ↔ m < 0) ∧ digB (magOf l) = true ∧ (magOf l).length ≤ 19 ∧ valA 0 (magOf l) = m.natAbs := by
  obtain ⟨h1, h2⟩ := hr
  have key : magOf l = Lib.decDigits m.natAbs ∧ (isNeg l = true ↔ m < 0) := by
    subst h
    by_cases hm : m < 0
    · rw [show Lib.itoa m = 45 :: Lib.decDigits m.natAbs from if_pos hm]
      exact ⟨by unfold magOf; rw [if_pos (by rfl)]; rfl, Iff.intro (fun _ => hm) (fun _ => rfl)⟩
    · rw [show Lib.itoa m = Lib.decDigits m.toNat from if_neg hm]
      obtain ⟨c, r, hcr, hc1, hc2⟩ := dec_head m.toNat
      have hn : isNeg (Lib.decDigits m.toNat) = false := by
        rw [hcr]
        show (c == 45) = false
        rw [beq_eq_false_iff_ne]; intro e; subst e
        simp at hc1
      refine ⟨?_, ?_⟩
      · unfold magOf; rw [hn, show m.natAbs = m.toNat by omega]; rfl
      · rw [hn]; exact Iff.intro (fun h => nomatch h) (fun h => absurd h hm)
  obtain ⟨k1, k2⟩ := key
  refine ⟨k1, k2, ?_, ?_, ?_⟩
  · rw [k1]; unfold digB; rw [dec_dig_all]
    have := dec_ne m.natAbs
    rw [Bool.true_and, decide_eq_true_eq]
    exact List.length_pos_iff.2 this
  · rw [k1]
    refine dec_len_le _ 18 ?_
    have : (10:Nat) ^ (18 + 1) = 10000000000000000000 := by decide
    rw [this]; omega
  · rw [k1, dec_val]

theorem neg_yes (s : ByteArray) (h0 : 0 < s.size) (h : s.data.toList.getD 0 0 = 45) : isNeg s.data.toList = true := by
  cases hl : s.data.toList with
  | nil => have : s.data.toList.length = s.size := by simp
           rw [hl] at this; simp at this; omega
  | cons c r => rw [hl] at h; show (c == 45) = true; simp at h; rw [h]; rfl
theorem neg_no (s : ByteArray) (h : ¬ (0 < s.size ∧ s.data.toList.getD 0 0 = 45)) : isNeg s.data.toList = false := by
  cases hl : s.data.toList with
  | nil => rfl
  | cons c r =>
    show (c == 45) = false
    rw [beq_eq_false_iff_ne]
    intro e
    apply h
    have h1 : s.data.toList.length = s.size := by simp
    rw [hl] at h1 ⊢
    exact ⟨by simp at h1; omega, by simpa using e⟩
theorem mag_neg (s : ByteArray) (h : isNeg s.data.toList = true) : (s.extract 1 s.size).data.toList = magOf s.data.toList := by
  unfold magOf; rw [if_pos h, Lib.extract_data, List.take_of_length_le (by simp)]
theorem mag_pos (s : ByteArray) (h : isNeg s.data.toList = false) : s.data.toList = magOf s.data.toList := by
  unfold magOf; rw [if_neg (by rw [h]; simp)]
def val (s : ByteArray) (k : Nat) : Nat := valA 0 (s.data.toList.take k)
theorem val_succ (s : ByteArray) (k : Nat) (h : k < s.size) : val s (k + 1) = 10 * val s k + (s[k].toNat - 48) := by
  unfold val
  have e : s.data.toList.take (k + 1) = s.data.toList.take k ++ [s[k]] := by
    rw [List.take_succ_eq_append_getElem (by simpa using h)]; rfl
  rw [e, valA_snoc]
theorem val_le (s : ByteArray) (k : Nat) : val s k ≤ valA 0 s.data.toList := valA_take _ _
theorem val_end (s : ByteArray) : val s s.size = valA 0 s.data.toList := by unfold val; rw [List.take_of_length_le (by simp)]
theorem dig_at {s : ByteArray} (h : digB s.data.toList = true) (k : Nat) (hk : k < s.size) : 48 ≤ s[k].toNat ∧ s[k].toNat ≤ 57 := by
  unfold digB allDig at h
  simp only [Bool.and_eq_true, List.all_eq_true] at h
  have hm := List.getElem_mem (l := s.data.toList) (n := k) (by simpa using hk)
  have h3 := h.1 _ hm
  have h4 : isDig s[k] = true := h3
  unfold isDig at h4
  simp only [Bool.and_eq_true, decide_eq_true_eq] at h4
  exact h4

/-- what can be known of s where ParseInt gives up -/
theorem pr_no (l : List UInt8) (h : ∀ m, InR m → Lib.itoa m ≠ l) : PR l 0 false := .inr ⟨rfl, rfl, h⟩
theorem no_dig {l m' : List UInt8} (hm : m' = magOf l) (h : digB m' = false) : PR l 0 false := pr_no l fun m hr he => by
  have := (mag_itoa he hr).2.2.1; rw [← hm, h] at this; cases this
theorem no_len {l m' : List UInt8} (hm : m' = magOf l) (h : 19 < m'.length) : PR l 0 false := pr_no l fun m hr he => by
  have := (mag_itoa he hr).2.2.2.1; rw [← hm] at this; omega
theorem no_over {l : List UInt8} {t : ByteArray} {k : Nat} (hm : t.data.toList = magOf l) (h : 9223372036854775808 < val t k) : PR l 0 false := pr_no l fun m hr he => by
  have h1 := (mag_itoa he hr).2.2.2.2
  have h2 := val_le t k
  obtain ⟨h3, h4⟩ := hr
  rw [hm, h1] at h2; omega
theorem no_min {l : List UInt8} {t : ByteArray} (hm : t.data.toList = magOf l) (hn : isNeg l = false) (h : val t t.size = 9223372036854775808) : PR l 0 false := pr_no l fun m hr he => by
  obtain ⟨_, h2, _, _, h1⟩ := mag_itoa he hr
  obtain ⟨h3, h4⟩ := hr
  rw [val_end, hm, h1] at h
  have : ¬ m < 0 := fun hh => by rw [h2.2 hh] at hn; cases hn
  omega
theorem no_ne {l : List UInt8} {t : ByteArray} (hm : t.data.toList = magOf l) (v : Int) (hv : v = if isNeg l then -(val t t.size : Int) else val t t.size) (hne : Lib.itoa v ≠ l) : PR l 0 false := pr_no l fun m hr he => by
  obtain ⟨_, h2, _, _, h1⟩ := mag_itoa he hr
  rw [val_end, hm, h1] at hv
  have e : v = m := by
    rw [hv]
    by_cases hh : isNeg l = true
    · have := h2.1 hh; rw [if_pos hh]; omega
    · have : ¬ m < 0 := fun h => hh (h2.2 h)
      rw [if_neg hh]; omega
  rw [e] at hne
  exact hne he
def ParsePost (l : List UInt8) (w : World) (e : Ending) (w' : World) : Prop := ∃ v ok, e = .returned (.tuple #[.int .i64 v, .bool ok]) ∧ PR l v ok ∧ Below w.heap.size w w'
theorem yes_eq {l : List UInt8} {v : Int} (h0 : InR v) (he : Lib.itoa v = l) : PR l v true := .inl ⟨rfl, h0, he⟩
theorem tq_over (d : Int) (h0 : 0 ≤ d) (h9 : d ≤ 9) : (-9223372036854775808 + d).tdiv 10 = -((9223372036854775808 - d) / 10) := by
  rw [show -9223372036854775808 + d = -(9223372036854775808 - d) by omega, Int.neg_tdiv, Int.tdiv_eq_ediv_of_nonneg (by omega)]

set_option maxHeartbeats 2000000 in
theorem specParse_any (s : ByteArray) (w : World) (hs : s.size ≤ 1048576) :
    Calls Tryd.prog 15 #[.string s] w (ParsePost s.data.toList w) := by
  by_cases hn : 0 < s.size ∧ s.data.toList.getD 0 0 = 45
  · obtain ⟨h0, h45⟩ := hn
    have HN : Hid (isNeg s.data.toList = true) := Lib.hid (neg_yes s h0 h45)
    rw [getD_at s 0 h0] at h45
    have hb : ((s[0].toNat : Int) == 45) = true := by rw [h45]; rfl
    have HT := Lib.hid (mag_neg s HN.out)
    have hts : (s.extract 1 s.size).size ≤ 1048576 := by rw [ByteArray.size_extract]; omega
    clear h45
    go_enter Tryd.func15, Tryd.ntmps15
    go_wp2_with fail
    generalize s.extract 1 s.size = t at HT hts ⊢
    by_cases hd : digB t.data.toList = false
    · refine (specDigits_any t _ (by unfold maxLen; omega)).mono ?_
      rintro e w' ⟨rfl, rfl⟩
      go_wp2
      go_ret2
      exact ⟨0, false, rfl, no_dig HT.out hd, Below.refl _ _⟩
    have hd' : digB t.data.toList = true := by simpa using hd
    by_cases hl : 19 < t.size
    · refine (specDigits_any t _ (by unfold maxLen; omega)).mono ?_
      rintro e w' ⟨rfl, rfl⟩
      go_wp2
      go_ret2
      exact ⟨0, false, rfl, no_len HT.out (by simpa using hl), Below.refl _ _⟩
    refine (specDigits_any t _ (by unfold maxLen; omega)).mono ?_
    rintro e w' ⟨rfl, rfl⟩
    go_wp2
    go_loop [6, 7] (fun n i => ∃ k p : Nat, k ≤ t.size ∧ i = .int .i64 k ∧ n = .int .i64 (-(p : Int)) ∧ p ≤ 9223372036854775808 ∧ Hid (p = val t k)) (fun _ i => t.size - (intOf i).toNat)
    case atStart => exact ⟨0, 0, Nat.zero_le _, rfl, rfl, Nat.zero_le _, Lib.hid rfl⟩
    case round =>
      obtain ⟨k, p, hk, rfl, rfl, hp, HP⟩ := hrel
      by_cases hlt : k < t.size
      · obtain ⟨d1, d2⟩ := dig_at hd' k hlt
        have HS := Lib.hid (val_succ t k hlt)
        have HQ := Lib.hid (tq_over ((t[k].toNat : Int) - 48) (by omega) (by omega))
        by_cases hov : 9223372036854775808 < 10 * p + (t[k].toNat - 48)
        · have ho : -(p : Int) < (-9223372036854775808 + ((t[k].toNat : Int) - 48)).tdiv 10 := by rw [HQ.out]; omega
          have HV : Hid (9223372036854775808 < val t (k + 1)) := Lib.hid (by rw [HS.out, ← HP.out]; exact hov)
          clear hov
          go_wp2
          go_ret2
          exact ⟨0, false, rfl, no_over HT.out HV.out, Below.refl _ _⟩
        · have ho : (-9223372036854775808 + ((t[k].toNat : Int) - 48)).tdiv 10 ≤ -(p : Int) := by rw [HQ.out]; omega
          have hp1 : (p : Int) * 10 ≤ 9223372036854775808 := by omega
          go_wp2
          go_round
          case rel => exact ⟨k + 1, 10 * p + (t[k].toNat - 48), by omega, by go_num, by go_num, by omega, Lib.hid (by rw [HS.out, ← HP.out])⟩
          case measure => simp [intOf]; omega
      · obtain rfl : k = t.size := by omega
        have HF := Lib.hid (fun W => specFormat_any (-(p : Int)) W (by omega) (by omega))
        by_cases he : Lib.itoa (-(p : Int)) = s.data.toList
        · have HR := Lib.hid (yes_eq (l := s.data.toList) (v := -(p : Int)) ⟨by omega, by omega⟩ he)
          rw [he] at HF
          have hq : (s.data.toList == s.toList) = true := by rw [ByteArray.toList_eq]; simp
          clear he
          go_wp2_with fail
          refine (HF.out _).mono ?_
          rintro e w2 ⟨rfl, hb2⟩
          have HB := Lib.hid hb2; clear hb2
          go_wp2
          go_ret2
          exact ⟨_, _, rfl, HR.out, HB.out⟩
        · have HR := Lib.hid (no_ne HT.out (-(p : Int)) (by rw [HN.out, ← HP.out]; rfl) he)
          have hq : (Lib.itoa (-(p : Int)) == s.toList) = false := by rw [ByteArray.toList_eq]; simpa using he
          clear he
          generalize Lib.itoa (-(p : Int)) = L at HF hq
          go_wp2_with fail
          refine (HF.out _).mono ?_
          rintro e w2 ⟨rfl, hb2⟩
          have HB := Lib.hid hb2; clear hb2
          go_wp2
          go_ret2
          exact ⟨_, _, rfl, HR.out, HB.out⟩
  · have HN : Hid (isNeg s.data.toList = false) := Lib.hid (neg_no s hn)
    have HT := Lib.hid (mag_pos s HN.out)
    have hc : s.size = 0 ∨ (0 < s.size ∧ ((s.data.toList.getD 0 0).toNat : Int) ≠ 45) := by
      by_cases h0 : 0 < s.size
      · refine .inr ⟨h0, fun h => hn ⟨h0, UInt8.toNat_inj.1 (by show _ = 45; omega)⟩⟩
      · exact .inl (by omega)
    rcases hc with h0 | ⟨h0, h45⟩
    · have hz : ¬ 0 < s.size := by omega
      clear hn h0
      go_enter Tryd.func15, Tryd.ntmps15
      go_wp2_with fail
      refine (specDigits_any s _ (by unfold maxLen; omega)).mono ?_
      rintro e w' ⟨rfl, rfl⟩
      have hd : digB s.data.toList = false := by
        unfold digB; rw [Bool.and_eq_false_iff]; right; simpa using hz
      go_wp2
      go_ret2
      exact ⟨0, false, rfl, no_dig HT.out hd, Below.refl _ _⟩
    · rw [getD_at s 0 h0] at h45
      have hb : ((s[0].toNat : Int) == 45) = false := by rw [beq_eq_false_iff_ne]; exact h45
      clear hn h45
      go_enter Tryd.func15, Tryd.ntmps15
      go_wp2_with fail
      by_cases hd : digB s.data.toList = false
      · refine (specDigits_any s _ (by unfold maxLen; omega)).mono ?_
        rintro e w' ⟨rfl, rfl⟩
        go_wp2
        go_ret2
        exact ⟨0, false, rfl, no_dig HT.out hd, Below.refl _ _⟩
      have hd' : digB s.data.toList = true := by simpa using hd
      by_cases hl : 19 < s.size
      · refine (specDigits_any s _ (by unfold maxLen; omega)).mono ?_
        rintro e w' ⟨rfl, rfl⟩
        go_wp2
        go_ret2
        exact ⟨0, false, rfl, no_len HT.out (by simpa using hl), Below.refl _ _⟩
      refine (specDigits_any s _ (by unfold maxLen; omega)).mono ?_
      rintro e w' ⟨rfl, rfl⟩
      go_wp2
      go_loop [6, 7] (fun n i => ∃ k p : Nat, k ≤ s.size ∧ i = .int .i64 k ∧ n = .int .i64 (-(p : Int)) ∧ p ≤ 9223372036854775808 ∧ Hid (p = val s k)) (fun _ i => s.size - (intOf i).toNat)
      case atStart => exact ⟨0, 0, Nat.zero_le _, rfl, rfl, Nat.zero_le _, Lib.hid rfl⟩
      case round =>
        obtain ⟨k, p, hk, rfl, rfl, hp, HP⟩ := hrel
        by_cases hlt : k < s.size
        · obtain ⟨d1, d2⟩ := dig_at hd' k hlt
          have HS := Lib.hid (val_succ s k hlt)
          have HQ := Lib.hid (tq_over ((s[k].toNat : Int) - 48) (by omega) (by omega))
          by_cases hov : 9223372036854775808 < 10 * p + (s[k].toNat - 48)
          · have ho : -(p : Int) < (-9223372036854775808 + ((s[k].toNat : Int) - 48)).tdiv 10 := by rw [HQ.out]; omega
            have HV : Hid (9223372036854775808 < val s (k + 1)) := Lib.hid (by rw [HS.out, ← HP.out]; exact hov)
            clear hov
            go_wp2
            go_ret2
            exact ⟨0, false, rfl, no_over HT.out HV.out, Below.refl _ _⟩
          · have ho : (-9223372036854775808 + ((s[k].toNat : Int) - 48)).tdiv 10 ≤ -(p : Int) := by rw [HQ.out]; omega
            have hp1 : (p : Int) * 10 ≤ 9223372036854775808 := by omega
            go_wp2
            go_round
            case rel => exact ⟨k + 1, 10 * p + (s[k].toNat - 48), by omega, by go_num, by go_num, by omega, Lib.hid (by rw [HS.out, ← HP.out])⟩
            case measure => simp [intOf]; omega
        · obtain rfl : k = s.size := by omega
          by_cases hmin : 9223372036854775808 ≤ p
          · have HR := Lib.hid (no_min HT.out HN.out (by rw [← HP.out]; omega))
            have hqm : (-(p : Int) == -9223372036854775808) = true := by rw [beq_iff_eq]; omega
            go_wp2
            go_ret2
            exact ⟨_, _, rfl, HR.out, Below.refl _ _⟩
          have hqm : (-(p : Int) == -9223372036854775808) = false := by rw [beq_eq_false_iff_ne]; omega
          have hmm : -(-(p : Int)) = p := by omega
          have hp7 : p ≤ 9223372036854775807 := by omega
          have HF := Lib.hid (fun W => specFormat_any (p : Int) W (by omega) (by omega))
          by_cases he : Lib.itoa (p : Int) = s.data.toList
          · have HR := Lib.hid (yes_eq (l := s.data.toList) (v := (p : Int)) ⟨by omega, by omega⟩ he)
            rw [he] at HF
            have hq : (s.data.toList == s.toList) = true := by rw [ByteArray.toList_eq]; simp
            clear he
            go_wp2_with fail
            refine (HF.out _).mono ?_
            rintro e w2 ⟨rfl, hb2⟩
            have HB := Lib.hid hb2; clear hb2
            go_wp2
            go_ret2
            exact ⟨_, _, rfl, HR.out, HB.out⟩
          · have HR := Lib.hid (no_ne HT.out (p : Int) (by rw [HN.out, ← HP.out]; rfl) he)
            have hq : (Lib.itoa (p : Int) == s.toList) = false := by rw [ByteArray.toList_eq]; simpa using he
            clear he
            generalize Lib.itoa (p : Int) = L at HF hq
            go_wp2_with fail
            refine (HF.out _).mono ?_
            rintro e w2 ⟨rfl, hb2⟩
            have HB := Lib.hid hb2; clear hb2
            go_wp2
            go_ret2
            exact ⟨_, _, rfl, HR.out, HB.out⟩

theorem atoi_range {l : List UInt8} {v : Int} (h : Lib.atoiAll l = .ok v) : InR v := by
  unfold Lib.atoiAll at h
  split at h
  · cases h
  · simp only at h
    split at h
    · cases h
    · cases h
    · rename_i c r u hu
      split at h
      · cases h
      · split at h
        · cases h
        · injection h with h
          subst h
          rename_i h1 h2
          unfold InR
          split
          · rename_i h3
            have : ¬ 9223372036854775808 < u := fun hh => h2 ⟨h3, hh⟩
            omega
          · rename_i h3
            have : ¬ 9223372036854775808 ≤ u := fun hh => h1 ⟨h3, hh⟩
            omega
theorem below_bytes {w w' : World} {T : TypeId} (h : w' = w ∨ ∃ t, w' = Lib.bytesWorld w T t) : Below w.heap.size w w' := by
  rcases h with rfl | ⟨t, rfl⟩
  · exact Below.refl _ _
  · exact Lib.bytesWorld_below _ _ _

set_option maxHeartbeats 2000000 in
theorem implParse_any (s : ByteArray) (w : World) (hs : s.size ≤ 1048576) (hT : Tab w) (ev : Value) (hv : w.cell? ⟨0, 0, none⟩ = some ev) (hev : ev = .nilIface ∨ ∃ te pe, ev = .iface te pe)
    (ev2 : Value) (hv2 : w.cell? ⟨1, 0, none⟩ = some ev2) (hev2 : ev2 = .nilIface ∨ ∃ te pe, ev2 = .iface te pe) :
    Calls Tryd.prog 7 #[.string s] w (ParsePost s.data.toList w) := by
  cases h : Lib.atoiAll s.data.toList with
  | ok v =>
    have H := Lib.hid (Tryd.strconv_Atoi_ok s (by omega) v h w)
    have hvr := atoi_range h
    have HI := Lib.hid (fun W hW => implFormat_any v W hvr.1 hvr.2 hW)
    have HT := Lib.hid hT
    clear hv hev hv2 hev2 hT
    by_cases he : Lib.itoa v = s.data.toList
    · have HR := Lib.hid (yes_eq hvr he)
      rw [he] at HI
      clear he hvr h
      go_enter Tryd.func7, Tryd.ntmps7
      go_wp2_with fail
      refine H.out.mono ?_
      rintro e w1 ⟨rfl, hw1⟩
      have HB : Hid (Below w.heap.size w w1) := Lib.hid (below_bytes hw1)
      clear hw1
      go_wp2_with fail
      refine (HI.out _ (HT.out.below HB.out (Nat.le_refl _))).mono ?_
      rintro e w2 ⟨rfl, hb2⟩
      have HB2 := Lib.hid hb2; clear hb2
      have hsz : w.heap.size ≤ w1.heap.size := HB.out.size
      go_wp2
      go_ret2
      exact ⟨_, _, rfl, HR.out, HB.out.trans (HB2.out.mono hsz)⟩
    · have HR : Hid (PR s.data.toList 0 false) := Lib.hid (pr_no _ fun m hr hm => by
        rw [← hm, atoi_itoa m hr] at h
        injection h with h
        exact he (by rw [← h]; exact hm))
      have hq : (Lib.itoa v == s.toList) = false := by rw [ByteArray.toList_eq]; simpa using he
      clear he hvr h
      generalize Lib.itoa v = L at HI hq
      go_enter Tryd.func7, Tryd.ntmps7
      go_wp2_with fail
      refine H.out.mono ?_
      rintro e w1 ⟨rfl, hw1⟩
      have HB : Hid (Below w.heap.size w w1) := Lib.hid (below_bytes hw1)
      clear hw1
      go_wp2_with fail
      refine (HI.out _ (HT.out.below HB.out (Nat.le_refl _))).mono ?_
      rintro e w2 ⟨rfl, hb2⟩
      have HB2 := Lib.hid hb2; clear hb2
      have hsz : w.heap.size ≤ w1.heap.size := HB.out.size
      go_wp2
      go_ret2
      exact ⟨_, _, rfl, HR.out, HB.out.trans (HB2.out.mono hsz)⟩
  | «syntax» =>
    have H := Lib.hid (Tryd.strconv_Atoi_syntax s (by omega) h ev w hv hev)
    have HR : Hid (PR s.data.toList 0 false) := Lib.hid (pr_no _ fun m hr he => by rw [← he, atoi_itoa m hr] at h; cases h)
    clear hv hev hv2 hev2 hT h
    go_enter Tryd.func7, Tryd.ntmps7
    go_wp2_with fail
    refine H.out.mono ?_
    rintro e w1 ⟨N, rfl, hN, hc, hb⟩
    have HB := Lib.hid hb; clear hb hc
    go_wp2
    go_ret2
    exact ⟨_, _, rfl, HR.out, HB.out⟩
  | range =>
    have H := Lib.hid (Tryd.strconv_Atoi_range s (by omega) h ev2 w hv2 hev2)
    have HR : Hid (PR s.data.toList 0 false) := Lib.hid (pr_no _ fun m hr he => by rw [← he, atoi_itoa m hr] at h; cases h)
    clear hv hev hv2 hev2 hT h
    generalize Lib.atoiSat s.data.toList = q at H
    go_enter Tryd.func7, Tryd.ntmps7
    go_wp2_with fail
    refine H.out.mono ?_
    rintro e w1 ⟨N, rfl, hN, hc, hb⟩
    have HB := Lib.hid hb; clear hb hc
    go_wp2
    go_ret2
    exact ⟨_, _, rfl, HR.out, HB.out⟩

theorem star_es : "*" ++ "errors.errorString" = "*errors.errorString" := by decide
theorem row_es (u : TypeId) (h : Tryd.prog.typeName? 3 u = some "*errors.errorString") : u = 78 :=
  typeName_ptr_named (nm := "errors.errorString") (by rw [star_es]; kernel_rfl) (by kernel_rfl) (by decide) u (by rw [star_es]; exact h)
/-- what the row's list gives: the table, and that each of the two sentinels holds an interface value -/
structure Laid3 (w : World) : Prop where
  tab : Tab w
  syn : ∃ ev, w.cell? ⟨0, 0, none⟩ = some ev ∧ (ev = .nilIface ∨ ∃ te pe, ev = .iface te pe)
  rng : ∃ ev, w.cell? ⟨1, 0, none⟩ = some ev ∧ (ev = .nilIface ∨ ∃ te pe, ev = .iface te pe)
theorem Laid3.below {w w' : World} {B : Nat} (h : Laid3 w) (hb : Below B w w') (hB : w.heap.size ≤ B) : Laid3 w' := by
  obtain ⟨h1, ⟨e1, c1, k1⟩, ⟨e2, c2, k2⟩⟩ := h
  have l1 := World.block_lt_of_cell? w _ c1
  have l2 := World.block_lt_of_cell? w _ c2
  exact ⟨h1.below hb hB, ⟨e1, by rw [hb.cell (Nat.lt_of_lt_of_le l1 hB)]; exact c1, k1⟩, ⟨e2, by rw [hb.cell (Nat.lt_of_lt_of_le l2 hB)]; exact c2, k2⟩⟩
theorem gSyn : Tryd.prog.globalNamed "strconv.ErrSyntax" = some 0 := by kernel_rfl
theorem gRng : Tryd.prog.globalNamed "strconv.ErrRange" = some 1 := by kernel_rfl
theorem laid3_of {laid : List (String × DataW Unit)} {w : World} (hL : laidMetH Tryd.prog laid w)
    (f1 : laid.filter (fun x => x.1 == "internal/strconv.uint64pow10") = [("internal/strconv.uint64pow10", Lib.tabData .u64 Lib.pow10Tab)])
    (f2 : laid.filter (fun x => x.1 == "strconv.ErrSyntax") = [("strconv.ErrSyntax", Rows.laid_strconv_ErrSyntax)])
    (f3 : laid.filter (fun x => x.1 == "strconv.ErrRange") = [("strconv.ErrRange", Rows.laid_strconv_ErrRange)]) : Laid3 w := by
  have h1 := hL.filter (fun x => x.1 == "internal/strconv.uint64pow10")
  have h2 := hL.filter (fun x => x.1 == "strconv.ErrSyntax")
  have h3 := hL.filter (fun x => x.1 == "strconv.ErrRange")
  rw [f1] at h1
  rw [f2] at h2
  rw [f3] at h3
  refine ⟨Lib.tabIs_of_head (rest := []) (t := 83) gPow (by kernel_rfl) Tryd.underlying83 Tryd.underlying64 (by kernel_rfl) (by kernel_rfl) h1, ?_, ?_⟩
  · obtain ⟨a, s, hv, _⟩ := laid_sentinel (ti := 39) (tp := 78) (te := 80) (ts := 9) h2 gSyn (by kernel_rfl) Tryd.underlying39 row_es Tryd.underlying78 Tryd.underlying80 rfl rfl Tryd.underlying9 (by kernel_rfl) (by kernel_rfl)
    exact ⟨_, by simpa using World.var?_cell gSyn hv 0, .inr ⟨_, _, rfl⟩⟩
  · obtain ⟨a, s, hv, _⟩ := laid_sentinel (ti := 39) (tp := 78) (te := 80) (ts := 9) h3 gRng (by kernel_rfl) Tryd.underlying39 row_es Tryd.underlying78 Tryd.underlying80 rfl rfl Tryd.underlying9 (by kernel_rfl) (by kernel_rfl)
    exact ⟨_, by simpa using World.var?_cell gRng hv 0, .inr ⟨_, _, rfl⟩⟩

set_option maxHeartbeats 400000 in
theorem walk_FnExactParseInt (a0 : ByteArray) (w : World) (_w0 : a0.size ≤ maxLen) (hL : laidMetH Tryd.prog Rows.fnExactParseIntRow.laid w) :
    Calls Tryd.prog 5 #[.string a0] w fun e w' => e = .returned (.bool true) ∧ Below w.heap.size w w' := by
  have HL := Lib.hid (laid3_of hL rfl rfl rfl)
  clear hL
  by_cases h : 1048576 < a0.size
  · go_enter Tryd.func5, Tryd.ntmps5
    go_wp2
    go_ret
    exact ⟨rfl, Below.refl _ _⟩
  have S := Lib.hid (fun W => specParse_any a0 W (by omega))
  have I : Hid (∀ W, Laid3 W → Calls Tryd.prog 7 #[.string a0] W (ParsePost a0.data.toList W)) := Lib.hid (fun W hW => by
    obtain ⟨h1, ⟨e1, c1, k1⟩, ⟨e2, c2, k2⟩⟩ := hW
    exact implParse_any a0 W (by omega) h1 e1 c1 k1 e2 c2 k2)
  go_enter Tryd.func5, Tryd.ntmps5
  go_wp2_with fail
  refine (S.out _).mono ?_
  rintro e w1 ⟨v, ok, rfl, hp, h1⟩
  have B1 := Lib.hid h1
  have P1 := Lib.hid hp
  clear h1 hp
  go_wp2_with fail
  refine (I.out _ (HL.out.below B1.out (Nat.le_refl _))).mono ?_
  rintro e w2 ⟨v', ok', rfl, hp2, h2⟩
  obtain ⟨rfl, rfl⟩ := PR_unique P1.out hp2
  have B2 := Lib.hid h2; clear h2 hp2
  have hsz : w.heap.size ≤ w1.heap.size := B1.out.size
  go_wp2
  go_ret
  exact ⟨rfl, B1.out.trans (B2.out.mono hsz)⟩
end Go.Proofs.YtmniigplfhmbjaaDoor
