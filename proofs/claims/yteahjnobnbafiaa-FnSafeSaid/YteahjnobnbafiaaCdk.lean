/-
  Contract of spec.AnnouncementOk. No condition.
-/
import Derived.Test.YteahjnobnbafiaaCdj
namespace Go.Proofs.Yteahjnobnbafiaa
open Go.RowKit Go.WideShapes
open Go Go.Deep
set_option linter.unusedSimpArgs false

def prevI (l : List Int) (i : Nat) : Option Int := if i = 0 then none else some (l.getD (i - 1) 0)
theorem ann_at {all l : List Int} {i : Nat} (hi : i < l.length) : annL all (prevI l i) (l.drop i) = (hasI all (l.getD i 0) && ((if i = 0 then true else decide (l.getD (i - 1) 0 < l.getD i 0)) && annL all (prevI l (i + 1)) (l.drop (i + 1)))) := by
  rw [List.drop_eq_getElem_cons hi]
  have e : l[i] = l.getD i 0 := by rw [List.getD_eq_getElem?_getD, List.getElem?_eq_getElem hi]; rfl
  rw [e]
  have p1 : prevI l (i + 1) = some (l.getD i 0) := by unfold prevI; rw [if_neg (by omega)]; rfl
  rw [p1]
  unfold prevI
  by_cases h0 : i = 0
  · subst h0; simp only [if_true, annL, Bool.true_and, Bool.and_true]
  · rw [if_neg h0, if_neg h0, ← Bool.and_assoc]; rfl
theorem ann_end {all l : List Int} {i : Nat} (hi : ¬ i < l.length) : annL all (prevI l i) (l.drop i) = true := by
  rw [List.drop_of_length_le (by omega)]
  cases prevI l i <;> rfl

set_option maxRecDepth 100000 in
set_option maxHeartbeats 8000000 in
theorem specAnn_any (lo hi : Nat) (v : Value) (l : List Int) (d : Dl) (w : World) (hr : Iv lo hi w v l) :
    Calls Try.prog 19 #[d.v, v] w fun e w' => e = .returned (.bool (annR d l)) ∧ Below w.heap.size w w' := by
  have KD := Lib.hid (fun W => specDeal_any d W)
  have KH := Lib.hid (fun W => specHands_any d W)
  have KHas := Lib.hid (fun lo hi v l x W (h : Iv lo hi W v l) => specHasI_any lo hi v l x W h)
  have HR : Hid (annR d l = (dealR d && (!l.isEmpty && annL (handsR d) none l))) := Lib.hid rfl
  obtain ⟨a, cap, rfl, h1, h2, h3⟩ := hr.parts
  have KEY := Lib.hid h3
  unfold maxLen at h2
  have HA := Lib.hid (fun (all : List Int) i hi => ann_at (all := all) (l := l) (i := i) hi)
  have HE := Lib.hid (fun (all : List Int) i hi => ann_end (all := all) (l := l) (i := i) hi)
  have HP0 : Hid (prevI l 0 = none) := Lib.hid rfl
  unfold IntsAns at KH
  clear hr h3
  unfold Dl.v at *
  generalize annR d l = R at *
  generalize dealR d = ok at *
  generalize handsR d = al at *
  obtain ⟨da, db, dc⟩ := d
  simp only at *
  have hX : Cm (w.alloc (.cells #[.int .i64 da, .int .i64 db, .int .i64 dc] 25)) w.heap.size 25 [.int .i64 da, .int .i64 db, .int .i64 dc] := Cm.new (cs := [.int .i64 da, .int .i64 db, .int .i64 dc]) rfl
  have hb1 : Below w.heap.size w (w.alloc (.cells #[.int .i64 da, .int .i64 db, .int .i64 dc] 25)) := (Below.refl _ _).alloc (Nat.le_refl _) _
  go_enter Try.func19, Try.ntmps19
  go_wp2_with fail
  generalize w.alloc (.cells #[.int .i64 da, .int .i64 db, .int .i64 dc] 25) = w1 at *
  have B1 := Lib.hid hb1
  have X1 := Lib.hid hX
  clear hb1 hX
  refine (KD.out _).mono ?_
  rintro e w2 ⟨rfl, hb2⟩
  have B2 := Lib.hid (B1.out.trans (hb2.mono B1.out.size))
  have hX2 := X1.out.all hb2
  have c0 := hX2.cell 0
  have c1 := hX2.cell 1
  have c2 := hX2.cell 2
  simp only [List.getElem?_cons_zero, List.getElem?_cons_succ] at c0 c1 c2
  clear hb2 hX2 X1
  cases ok with
  | false =>
    have HN : Hid (R = false) := Lib.hid HR.out
    clear HR
    go_wp2
    go_ret
    exact ⟨by rw [HN.out]; rfl, B2.out⟩
  | true =>
    by_cases hl0 : l.length = 0
    · have HN : Hid (R = false) := Lib.hid (by rw [HR.out, List.length_eq_zero_iff.1 hl0]; rfl)
      clear HR KEY HA HE HP0
      generalize l.length = n at *
      subst hl0
      go_wp2
      go_ret
      exact ⟨by rw [HN.out]; rfl, B2.out⟩
    · have HN : Hid (R = annL al (prevI l 0) (l.drop 0)) := Lib.hid (by
        rw [HR.out, HP0.out]
        have : l.isEmpty = false := by cases l; exact absurd rfl hl0; rfl
        rw [this]; rfl)
      have hlb : ((l.length : Int) == 0) = false := beq_eq_false_iff_ne.2 (by omega)
      clear HR hl0 HP0
      go_wp2_with fail
      refine (KH.out _).mono ?_
      rintro e w3 ⟨v3, rfl, ho3, hb3⟩
      have A3 := Lib.hid ho3.read
      obtain ⟨a3, c3, e3⟩ := A3.out.form
      subst e3
      have B3 := Lib.hid (B2.out.trans (hb3.mono B2.out.size))
      clear ho3 hb3 c0 c1 c2
      go_wp2
      go_loop [20] (fun iv => ∃ k : Nat, k ≤ l.length ∧ iv = .int .i64 k ∧ Hid (R = annL al (prevI l k) (l.drop k))) (fun iv => l.length - (intOf iv).toNat)
      case atStart => exact ⟨0, Nat.zero_le _, rfl, HN⟩
      case round =>
        clear HN
        obtain ⟨k, hk, rfl, HR⟩ := hrel
        by_cases hlt : k < l.length
        · obtain ⟨b, o, rfl, -, -, hb, q0⟩ := KEY.out k hlt
          rw [← B3.out.cell (p := ⟨b, o + k, none⟩) hb] at q0
          have hi0 : (0 : Int) ≤ (k : Int) := Int.natCast_nonneg _
          have hi1 : (k : Int) < (l.length : Int) := by omega
          have HAk := Lib.hid (HA.out al k hlt)
          by_cases hk0 : k = 0
          · subst hk0
            rw [Nat.add_zero] at q0
            generalize l.getD 0 0 = x at *
            obtain ⟨hh, hhe⟩ : ∃ hh, hh = hasI al x := ⟨_, rfl⟩
            rw [← hhe] at HAk
            go_wp2_with fail
            refine (KHas.out _ _ _ al x _ A3.out).mono ?_
            rintro e w5 ⟨rfl, rfl⟩
            rw [← hhe]
            clear hhe
            cases hh with
            | false =>
              have HF : Hid (R = false) := Lib.hid (by rw [HR.out, HAk.out]; rfl)
              clear HR HAk
              go_wp2
              go_ret
              exact ⟨by rw [HF.out]; rfl, B3.out⟩
            | true =>
              have HF : Hid (R = annL al (prevI l 1) (l.drop 1)) := Lib.hid (by rw [HR.out, HAk.out]; rfl)
              clear HR HAk
              go_wp2
              go_round
              case rel => exact ⟨1, by omega, by go_num, HF⟩
              case measure => simp [intOf] <;> omega
          · obtain ⟨m, hm⟩ : ∃ m, m = k - 1 := ⟨_, rfl⟩
            rw [← hm, if_neg hk0] at HAk
            have hml : m < l.length := by omega
            obtain ⟨b', o', e', -, -, hb', q1⟩ := KEY.out m hml
            cases e'
            rw [← B3.out.cell (p := ⟨b, o + m, none⟩) hb] at q1
            have hkm : (k : Int) - 1 = (m : Int) := by omega
            have hkp : (0 : Int) < (k : Int) := by omega
            have hm0 : (0 : Int) ≤ (m : Int) := by omega
            have hm1 : (m : Int) < (l.length : Int) := by omega
            have HK1 := Lib.hid (And.intro hk hm)
            clear hk0 hm
            generalize l.getD k 0 = x at *
            generalize l.getD m 0 = y at *
            obtain ⟨hh, hhe⟩ : ∃ hh, hh = hasI al x := ⟨_, rfl⟩
            rw [← hhe] at HAk
            go_wp2_with fail
            refine (KHas.out _ _ _ al x _ A3.out).mono ?_
            rintro e w5 ⟨rfl, rfl⟩
            rw [← hhe]
            clear hhe
            cases hh with
            | false =>
              have HF : Hid (R = false) := Lib.hid (by rw [HR.out, HAk.out]; rfl)
              clear HR HAk
              go_wp2
              go_ret
              exact ⟨by rw [HF.out]; rfl, B3.out⟩
            | true =>
              by_cases hyx : y < x
              · have HF : Hid (R = annL al (prevI l (k + 1)) (l.drop (k + 1))) := Lib.hid (by rw [HR.out, HAk.out, decide_eq_true hyx]; rfl)
                have hxy : ¬ x ≤ y := by omega
                clear HR HAk
                go_wp2
                go_round
                case rel => exact ⟨k + 1, by omega, by go_num, HF⟩
                case measure => simp [intOf] <;> omega
              · have HF : Hid (R = false) := Lib.hid (by rw [HR.out, HAk.out, decide_eq_false hyx]; rfl)
                have hxy : x ≤ y := by omega
                clear HR HAk hyx
                go_wp2
                go_ret
                exact ⟨by rw [HF.out]; rfl, B3.out⟩
        · have HF : Hid (R = true) := Lib.hid (by rw [HR.out, HE.out al k hlt])
          have hnl : ¬ (k : Int) < (l.length : Int) := by omega
          go_wp2
          go_ret
          exact ⟨by rw [HF.out]; rfl, B3.out⟩
end Go.Proofs.Yteahjnobnbafiaa
