/-
  Contracts of spec.FormulaOk and of what it calls.
-/
import Derived.Test.YtcdccdcalmnocaaFormI
namespace Go.Proofs.Ytcdccdcalmnocaa
open Go.RowKit
open Go Go.Deep

set_option maxHeartbeats 400000 in
theorem l01In_yes (x lo hi : Int) (w : World) (h1 : lo ≤ x) (h2 : x ≤ hi) : Calls Try.prog 38 #[.int .i64 x, .int .i64 lo, .int .i64 hi] w fun e w' => e = .returned (.bool true) ∧ w = w' := by
  go_enter Try.func38, Try.ntmps38
  go_wp2
  go_ret
  exact ⟨ret_bool (by simp <;> omega), rfl⟩
set_option maxHeartbeats 400000 in
theorem l01In_no (x lo hi : Int) (w : World) (h : x < lo ∨ hi < x) : Calls Try.prog 38 #[.int .i64 x, .int .i64 lo, .int .i64 hi] w fun e w' => e = .returned (.bool false) ∧ w = w' := by
  by_cases h1 : x < lo
  · clear h
    go_enter Try.func38, Try.ntmps38
    go_wp2
    go_ret
    exact ⟨rfl, rfl⟩
  · have h2 : lo ≤ x := by omega
    have h3 : hi < x := by omega
    clear h h1
    go_enter Try.func38, Try.ntmps38
    go_wp2
    go_ret
    exact ⟨ret_bool (by simp <;> omega), rfl⟩
theorem l01In_any (x lo hi : Int) (w : World) : Calls Try.prog 38 #[.int .i64 x, .int .i64 lo, .int .i64 hi] w fun e w' => e = .returned (.bool (decide (lo ≤ x) && decide (x ≤ hi))) ∧ w = w' := by
  by_cases h : x < lo ∨ hi < x
  · rw [show (decide (lo ≤ x) && decide (x ≤ hi)) = false by simp; omega]; exact l01In_no x lo hi w h
  · rw [show (decide (lo ≤ x) && decide (x ≤ hi)) = true by simp; omega]; exact l01In_yes x lo hi w (by omega) (by omega)

set_option maxHeartbeats 1000000 in
theorem l02Uses_in (op : Int) (w : World) (h1 : 1 ≤ op) (h9 : op ≤ 9) : Calls Try.prog 39 #[.int .i64 op] w fun e w' => e = .returned (.int .i64 (usesI op : Nat)) ∧ w = w' := by
  by_cases h0 : op = 1 ∨ op = 2
  · rw [usesI_0 h0]
    rcases h0 with rfl | rfl
    all_goals
      go_enter Try.func39, Try.ntmps39
      go_wp2
      go_ret
      exact ⟨rfl, rfl⟩
  · by_cases h4 : op = 4 ∨ op = 9
    · rw [usesI_2 h4]
      rcases h4 with rfl | rfl
      all_goals
        go_enter Try.func39, Try.ntmps39
        go_wp2
        go_ret
        exact ⟨rfl, rfl⟩
    · rw [usesI_1 (by omega)]
      have e1 : (op == 1) = false := by simp; omega
      have e2 : (op == 2) = false := by simp; omega
      have e4 : (op == 4) = false := by simp; omega
      have e9 : (op == 9) = false := by simp; omega
      have H := fun W => l01In_yes op 3 9 W (by omega) (by omega)
      have K := Lib.hid H
      clear h0 h4 H
      go_enter Try.func39, Try.ntmps39
      go_wp2_with (go_at_call 38; refine (K.out _).mono ?_; rintro e w' ⟨rfl, rfl⟩)
      go_ret
      exact ⟨rfl, rfl⟩
set_option maxHeartbeats 1000000 in
theorem l02Uses_out (op : Int) (w : World) (h : op < 1 ∨ 9 < op) : Calls Try.prog 39 #[.int .i64 op] w fun e w' => e = .returned (.int .i64 (-1)) ∧ w = w' := by
  have e1 : (op == 1) = false := by simp; omega
  have e2 : (op == 2) = false := by simp; omega
  have e4 : (op == 4) = false := by simp; omega
  have e9 : (op == 9) = false := by simp; omega
  have H := fun W => l01In_no op 3 9 W (by omega)
  have K := Lib.hid H
  clear h H
  go_enter Try.func39, Try.ntmps39
  go_wp2_with (go_at_call 38; refine (K.out _).mono ?_; rintro e w' ⟨rfl, rfl⟩)
  go_ret
  exact ⟨rfl, rfl⟩
set_option maxHeartbeats 1000000 in
theorem l02Most_any (op : Int) (w : World) : Calls Try.prog 40 #[.int .i64 op] w fun e w' => e = .returned (.int .i64 (limN op - 1)) ∧ w = w' := by
  by_cases h : op = 1 ∨ op = 5 ∨ op = 6
  · rcases h with rfl | rfl | rfl
    all_goals
      go_enter Try.func40, Try.ntmps40
      go_wp2
      go_ret
      exact ⟨rfl, rfl⟩
  · rw [show limN op - 1 = 0 by unfold limN; rw [if_neg (by omega), if_neg (by omega)]; rfl]
    have e1 : (op == 1) = false := by simp; omega
    have e5 : (op == 5) = false := by simp; omega
    have e6 : (op == 6) = false := by simp; omega
    clear h
    go_enter Try.func40, Try.ntmps40
    go_wp2
    go_ret
    exact ⟨rfl, rfl⟩

theorem Try.infoI : (Try.prog.info? 3).map (fun i => (i.zero, i.size, i.bytes)) = some (some (.int .i64 0), 1, 8) := by kernel_rfl
theorem UsRow.drewN {w : World} {B : Nat} {T : TypeId} {n : Nat} {us : List Nat} (h : UsRow w B T n us) (k : Nat) : UsRow (w.drewN k) B T n us := h
theorem UsRow.made (w : World) (n : Nat) (T : TypeId) : UsRow (w.alloc (.cells (madeCells #[.int .i64 0] n) T)) w.heap.size T n [] := World.rowIs_made w (.int .i64 0) n T
theorem okNo_op {op n a b : Int} {i : Nat} (h : op < 1 ∨ 9 < op) : okAt ⟨op, n, a, b⟩ i = false := by
  cases ho : okAt ⟨op, n, a, b⟩ i with
  | false => rfl
  | true => have := (okAt_parts ho).1; simp only [] at this; omega
theorem okNo_n {op n a b : Int} {i : Nat} (h : n < 0 ∨ limN op - 1 < n) : okAt ⟨op, n, a, b⟩ i = false := by
  cases ho : okAt ⟨op, n, a, b⟩ i with
  | false => rfl
  | true => have := (okAt_parts ho).1; simp only [] at this; omega
theorem okNo_a0 {op n a b : Int} {i : Nat} (hu : usesI op = 0) (h : a ≠ 0) : okAt ⟨op, n, a, b⟩ i = false := by
  cases ho : okAt ⟨op, n, a, b⟩ i with
  | false => rfl
  | true => exact absurd ((okAt_parts ho).2.2.2.1 hu) h
theorem okNo_b0 {op n a b : Int} {i : Nat} (hu : usesI op ≤ 1) (h : b ≠ 0) : okAt ⟨op, n, a, b⟩ i = false := by
  cases ho : okAt ⟨op, n, a, b⟩ i with
  | false => rfl
  | true => exact absurd ((okAt_parts ho).2.2.2.2 hu) h
theorem okNo_a {op n a b : Int} {i : Nat} (hu : 1 ≤ usesI op) (h : a < 0 ∨ (i : Int) - 1 < a) : okAt ⟨op, n, a, b⟩ i = false := by
  cases ho : okAt ⟨op, n, a, b⟩ i with
  | false => rfl
  | true => have := (okAt_parts ho).2.1 hu; simp only [] at this; omega
theorem okNo_b {op n a b : Int} {i : Nat} (hu : usesI op = 2) (h : b < 0 ∨ (i : Int) - 1 < b) : okAt ⟨op, n, a, b⟩ i = false := by
  cases ho : okAt ⟨op, n, a, b⟩ i with
  | false => rfl
  | true => have := (okAt_parts ho).2.2.1 hu; simp only [] at this; omega
theorem okYes {op n a b : Int} {i : Nat} (h1 : 1 ≤ op) (h2 : op ≤ 9) (h3 : 0 ≤ n) (h4 : n ≤ limN op - 1) (ha : if 1 ≤ usesI op then 0 ≤ a ∧ a < i else a = 0) (hb : if usesI op = 2 then 0 ≤ b ∧ b < i else b = 0) : okAt ⟨op, n, a, b⟩ i = true :=
  okAt_mk ⟨h1, h2, h3, by omega⟩ ha hb

set_option maxRecDepth 100000 in
set_option maxHeartbeats 8000000 in
theorem specOk_any (v : Value) (xs : List Nd) (w : World) (hr : Ns w v xs) :
    Calls Try.prog 14 #[v] w fun e w' => e = .returned (.bool (formOk xs)) ∧ Below w.heap.size w w' := by
  obtain ⟨i0, hi, hz0, hz1, hz2⟩ := info_parts Try.infoI
  obtain ⟨a, cap, rfl, h1, h2, h3⟩ := hr.parts
  have HR := Lib.hid hr
  have KEY := Lib.hid h3
  clear h3 hr
  unfold maxLen at h2
  by_cases hl : (xs.length : Int) < 1 ∨ 40 < (xs.length : Int)
  · rw [formNot_len (by omega)]
    have K := Lib.hid (fun W => l01In_no xs.length 1 40 W hl)
    clear hl
    go_enter Try.func14, Try.ntmps14
    go_wp2_with fail
    refine (K.out _).mono ?_
    rintro e w' ⟨rfl, rfl⟩
    go_wp2
    go_ret
    exact ⟨rfl, Below.refl _ _⟩
  have K := Lib.hid (fun W => l01In_yes xs.length 1 40 W (by omega) (by omega))
  have hl1 : 1 ≤ xs.length := by omega
  have hl2 : xs.length ≤ 40 := by omega
  clear hl
  generalize hfo : formOk xs = res
  have HF := Lib.hid hfo
  clear hfo
  have hb1 : i0.bytes * xs.length ≤ 281474976710656 := by rw [hz2]; omega
  have HB1 := Lib.hid hb1
  clear hb1
  go_enter Try.func14, Try.ntmps14
  go_wp2_with fail
  refine (K.out _).mono ?_
  rintro e w' ⟨rfl, rfl⟩
  go_wp2_with (at_make; refine wpList_make_row _ rfl _ _ 42 rfl 3 i0 (.int .i64 0) Try.underlying42 hi hz0 hz1 rfl _ _ xs.length rfl rfl HB1.out (by omega) ?_)
  go_loopw [18] (fun iv wr => ∃ k : Nat, k ≤ xs.length ∧ iv = .int .i64 k ∧ Hid (∀ j, j < k → okAt (xs.getD j default) j = true) ∧ Hid (UsRow wr w.heap.size 3 xs.length (allUsed (xs.take k))) ∧ Hid (Below w.heap.size w wr)) (fun iv _ => xs.length - (intOf iv).toNat)
  case atStart => exact ⟨0, Nat.zero_le _, rfl, Lib.hid (fun j hj => absurd hj (Nat.not_lt_zero _)), Lib.hid (by simpa [allUsed] using UsRow.made w xs.length 3), Lib.hid ((Below.refl _ _).alloc (Nat.le_refl _) _)⟩
  case round =>
    obtain ⟨k, hk, rfl, HK, HU, HB⟩ := hrel
    by_cases hlt : k < xs.length
    · obtain ⟨b, o, rfl, hb, c0, c1, c2, c3⟩ := KEY.out k hlt
      rw [← HB.out.cell (p := ⟨b, o + k * 4, none⟩) hb] at c0
      rw [← HB.out.cell (p := ⟨b, o + k * 4 + 1, none⟩) hb] at c1
      rw [← HB.out.cell (p := ⟨b, o + k * 4 + 2, none⟩) hb] at c2
      rw [← HB.out.cell (p := ⟨b, o + k * 4 + 3, none⟩) hb] at c3
      generalize hx : xs.getD k default = x at c0 c1 c2 c3
      have HX := Lib.hid hx
      clear hx
      obtain ⟨op, n, xa, xb⟩ := x
      have hg := HU.out.lt
      have hsz := HB.out.size
      simp only [] at c0 c1 c2 c3
      by_cases hop : op < 1 ∨ 9 < op
      · have HR0 : Hid (res = false) := Lib.hid (HF.out.symm.trans (formNot_at hlt (by rw [HX.out]; exact okNo_op hop)))
        have KU := Lib.hid (fun W => l02Uses_out op W hop)
        clear hop
        go_wp2_with fail
        refine (KU.out _).mono ?_
        rintro e w' ⟨rfl, rfl⟩
        go_wp2
        go_quiet (fail)
        go_wp2
        go_ret
        exact ⟨ret_bool HR0.out.symm, below_drewN' (HB.out.alloc hsz _) _⟩
      have KU := Lib.hid (fun W => l02Uses_in op W (by omega) (by omega))
      have hop1 : 1 ≤ op := by omega
      have hop9 : op ≤ 9 := by omega
      clear hop
      have hu3 := usesI_le op
      generalize huo : usesI op = u at KU hu3
      have hu' : u = 0 ∨ u = 1 ∨ u = 2 := by omega
      have HO := Lib.hid huo
      clear hu3 huo
      by_cases hn : n < 0 ∨ limN op - 1 < n
      · have HR0 : Hid (res = false) := Lib.hid (HF.out.symm.trans (formNot_at hlt (by rw [HX.out]; exact okNo_n hn)))
        have KN := Lib.hid (fun W => l01In_no n 0 (limN op - 1) W hn)
        clear hn
        rcases hu' with rfl | rfl | rfl
        all_goals
          go_wp2_with fail
          refine (KU.out _).mono ?_
          rintro e w' ⟨rfl, rfl⟩
          go_wp2
          go_quiet ((first | (go_at_call 40; exact quiet_eq (l02Most_any _ _)) | (go_at_call 38; exact quiet_eq (KN.out _))))
          go_wp2
          go_ret
          exact ⟨ret_bool HR0.out.symm, below_drewN' (HB.out.alloc hsz _) _⟩
      have KN := Lib.hid (fun W => l01In_yes n 0 (limN op - 1) W (by omega) (by omega))
      have hn1 : 0 ≤ n := by omega
      have hn2 : n ≤ limN op - 1 := by omega
      clear hn
      have HN1 := Lib.hid hn1
      have HN2 := Lib.hid hn2
      clear hn1 hn2
      have hal := allUsed_len (xs.take k)
      have htl : (xs.take k).length ≤ k := by rw [List.length_take]; omega
      rcases hu' with rfl | rfl | rfl
      · by_cases ha : xa = 0
        · subst ha
          by_cases hb0 : xb = 0
          · subst hb0
            have HOK : Hid (okAt ⟨op, n, 0, 0⟩ k = true) := Lib.hid (okYes hop1 hop9 HN1.out HN2.out (by rw [HO.out]; rfl) (by rw [HO.out]; rfl))
            have HUO : Hid (usedOf ⟨op, n, 0, 0⟩ = []) := Lib.hid (by unfold usedOf; rw [HO.out]; rfl)
            go_wp2_with fail
            refine (KU.out _).mono ?_
            rintro e w' ⟨rfl, rfl⟩
            go_wp2
            go_quiet ((first | (go_at_call 40; exact quiet_eq (l02Most_any _ _)) | (go_at_call 38; exact quiet_eq (KN.out _))))
            go_wp2
            go_roundw
            case rel =>
              refine ⟨k + 1, by omega, by go_num, Lib.hid (fun i hi => ?_), Lib.hid ?_, Lib.hid (below_drewN' (HB.out.alloc hsz _) _)⟩
              · rcases Nat.lt_or_ge i k with h | h
                · exact HK.out i h
                · obtain rfl : i = k := by omega
                  rw [HX.out]; exact HOK.out
              · rw [allUsed_take xs hlt, HX.out, HUO.out]
                rw [List.append_nil]; exact (HU.out.alloc _).drewN _
            case measure => simp [intOf]; omega
          · have HR0 : Hid (res = false) := Lib.hid (HF.out.symm.trans (formNot_at hlt (by rw [HX.out]; exact okNo_b0 (by rw [HO.out]; decide) hb0)))
            have e1 : (xb == 0) = false := by simpa using hb0
            have e2 : (xb != 0) = true := by simpa using hb0
            clear hb0
            go_wp2_with fail
            refine (KU.out _).mono ?_
            rintro e w' ⟨rfl, rfl⟩
            go_wp2
            go_quiet ((first | (go_at_call 40; exact quiet_eq (l02Most_any _ _)) | (go_at_call 38; exact quiet_eq (KN.out _))))
            go_wp2
            go_ret
            exact ⟨ret_bool HR0.out.symm, below_drewN' (HB.out.alloc hsz _) _⟩
        · have HR0 : Hid (res = false) := Lib.hid (HF.out.symm.trans (formNot_at hlt (by rw [HX.out]; exact okNo_a0 HO.out ha)))
          have e1 : (xa == 0) = false := by simpa using ha
          have e2 : (xa != 0) = true := by simpa using ha
          clear ha
          go_wp2_with fail
          refine (KU.out _).mono ?_
          rintro e w' ⟨rfl, rfl⟩
          go_wp2
          go_quiet ((first | (go_at_call 40; exact quiet_eq (l02Most_any _ _)) | (go_at_call 38; exact quiet_eq (KN.out _))))
          go_wp2
          go_ret
          exact ⟨ret_bool HR0.out.symm, below_drewN' (HB.out.alloc hsz _) _⟩
      · by_cases hb0 : xb = 0
        · subst hb0
          by_cases ha : xa < 0 ∨ (k : Int) - 1 < xa
          · have HR0 : Hid (res = false) := Lib.hid (HF.out.symm.trans (formNot_at hlt (by rw [HX.out]; exact okNo_a (by rw [HO.out]; decide) ha)))
            have KA := Lib.hid (fun W => l01In_no xa 0 ((k : Int) - 1) W ha)
            clear ha
            go_wp2_with fail
            refine (KU.out _).mono ?_
            rintro e w' ⟨rfl, rfl⟩
            go_wp2
            go_quiet ((first | (go_at_call 40; exact quiet_eq (l02Most_any _ _)) | (go_at_call 38; exact quiet_eq (KN.out _))))
            go_wp2_with fail
            refine (KA.out _).mono ?_
            rintro e w' ⟨rfl, rfl⟩
            go_wp2
            go_ret
            exact ⟨ret_bool HR0.out.symm, below_drewN' (HB.out.alloc hsz _) _⟩
          · have HOK : Hid (okAt ⟨op, n, xa, 0⟩ k = true) := Lib.hid (okYes hop1 hop9 HN1.out HN2.out (by rw [HO.out]; show 0 ≤ xa ∧ xa < k; omega) (by rw [HO.out]; rfl))
            have KA := Lib.hid (fun W => l01In_yes xa 0 ((k : Int) - 1) W (by omega) (by omega))
            have HUO : Hid (usedOf ⟨op, n, xa, 0⟩ = [xa.toNat]) := Lib.hid (by unfold usedOf; rw [HO.out]; rfl)
            obtain ⟨m, rfl⟩ : ∃ m : Nat, xa = m := ⟨xa.toNat, by omega⟩
            rw [Int.toNat_natCast] at HUO
            have hmk : m < k := by omega
            clear ha
            go_wp2_with fail
            refine (KU.out _).mono ?_
            rintro e w' ⟨rfl, rfl⟩
            go_wp2
            go_quiet ((first | (go_at_call 40; exact quiet_eq (l02Most_any _ _)) | (go_at_call 38; exact quiet_eq (KN.out _))))
            have HU2 := Lib.hid ((HU.out.alloc (.cells #[.int .i64 op, .int .i64 n, .int .i64 m, .int .i64 0] 44)).drewN nq)
            have hct := HU2.out.cell (i := m) (by omega)
            have hft := HU2.out.frozen m
            have hcnt : (allUsed (xs.take k)).count m ≤ 80 := by
              have h1 := List.count_le_length (a := m) (l := allUsed (xs.take k))
              omega
            have HPU := Lib.hid (HU2.out.push m)
            generalize (allUsed (xs.take k)).count m = cnt at hct hcnt HPU
            have hcnt0 : (0 : Int) ≤ (cnt : Int) := Int.natCast_nonneg _
            go_wp2_with fail
            refine (KA.out _).mono ?_
            rintro e w' ⟨rfl, rfl⟩
            go_wp2
            go_roundw
            case rel =>
              refine ⟨k + 1, by omega, by go_num, Lib.hid (fun i hi => ?_), Lib.hid ?_, Lib.hid ((below_drewN' (HB.out.alloc hsz _) _).setCell (Nat.le_refl _) _)⟩
              · rcases Nat.lt_or_ge i k with h | h
                · exact HK.out i h
                · obtain rfl : i = k := by omega
                  rw [HX.out]; exact HOK.out
              · rw [allUsed_take xs hlt, HX.out, HUO.out]
                exact HPU.out
            case measure => simp [intOf]; omega
        · have HR0 : Hid (res = false) := Lib.hid (HF.out.symm.trans (formNot_at hlt (by rw [HX.out]; exact okNo_b0 (by rw [HO.out]; decide) hb0)))
          have e1 : (xb == 0) = false := by simpa using hb0
          have e2 : (xb != 0) = true := by simpa using hb0
          clear hb0
          go_wp2_with fail
          refine (KU.out _).mono ?_
          rintro e w' ⟨rfl, rfl⟩
          go_wp2
          go_quiet ((first | (go_at_call 40; exact quiet_eq (l02Most_any _ _)) | (go_at_call 38; exact quiet_eq (KN.out _))))
          go_wp2
          go_ret
          exact ⟨ret_bool HR0.out.symm, below_drewN' (HB.out.alloc hsz _) _⟩
      · by_cases ha : xa < 0 ∨ (k : Int) - 1 < xa
        · have HR0 : Hid (res = false) := Lib.hid (HF.out.symm.trans (formNot_at hlt (by rw [HX.out]; exact okNo_a (by rw [HO.out]; decide) ha)))
          have KA := Lib.hid (fun W => l01In_no xa 0 ((k : Int) - 1) W ha)
          have KB := Lib.hid (fun W => l01In_any xb 0 ((k : Int) - 1) W)
          clear ha
          go_wp2_with fail
          refine (KU.out _).mono ?_
          rintro e w' ⟨rfl, rfl⟩
          go_wp2
          go_quiet ((first | (go_at_call 40; exact quiet_eq (l02Most_any _ _)) | (go_at_call 38; exact quiet_eq (KN.out _))))
          go_wp2_with fail
          refine (KA.out _).mono ?_
          rintro e w' ⟨rfl, rfl⟩
          go_wp2
          go_ret
          exact ⟨ret_bool HR0.out.symm, below_drewN' (HB.out.alloc hsz _) _⟩
        · have KA := Lib.hid (fun W => l01In_yes xa 0 ((k : Int) - 1) W (by omega) (by omega))
          by_cases hb0 : xb < 0 ∨ (k : Int) - 1 < xb
          · have HR0 : Hid (res = false) := Lib.hid (HF.out.symm.trans (formNot_at hlt (by rw [HX.out]; exact okNo_b HO.out hb0)))
            have KB := Lib.hid (fun W => l01In_no xb 0 ((k : Int) - 1) W hb0)
            clear ha hb0
            go_wp2_with fail
            refine (KU.out _).mono ?_
            rintro e w' ⟨rfl, rfl⟩
            go_wp2
            go_quiet ((first | (go_at_call 40; exact quiet_eq (l02Most_any _ _)) | (go_at_call 38; exact quiet_eq (KN.out _))))
            go_wp2_with fail
            refine (KA.out _).mono ?_
            rintro e w' ⟨rfl, rfl⟩
            go_wp2_with fail
            refine (KB.out _).mono ?_
            rintro e w' ⟨rfl, rfl⟩
            go_wp2
            go_ret
            exact ⟨ret_bool HR0.out.symm, below_drewN' (HB.out.alloc hsz _) _⟩
          · have HOK : Hid (okAt ⟨op, n, xa, xb⟩ k = true) := Lib.hid (okYes hop1 hop9 HN1.out HN2.out (by rw [HO.out]; show 0 ≤ xa ∧ xa < k; omega) (by rw [HO.out]; show 0 ≤ xb ∧ xb < k; omega))
            have KB := Lib.hid (fun W => l01In_yes xb 0 ((k : Int) - 1) W (by omega) (by omega))
            have HUO : Hid (usedOf ⟨op, n, xa, xb⟩ = [xa.toNat, xb.toNat]) := Lib.hid (by unfold usedOf; rw [HO.out]; rfl)
            obtain ⟨m, rfl⟩ : ∃ m : Nat, xa = m := ⟨xa.toNat, by omega⟩
            obtain ⟨m', rfl⟩ : ∃ m : Nat, xb = m := ⟨xb.toNat, by omega⟩
            rw [Int.toNat_natCast, Int.toNat_natCast] at HUO
            have hmk : m < k := by omega
            have hmk' : m' < k := by omega
            clear ha hb0
            go_wp2_with fail
            refine (KU.out _).mono ?_
            rintro e w' ⟨rfl, rfl⟩
            go_wp2
            go_quiet ((first | (go_at_call 40; exact quiet_eq (l02Most_any _ _)) | (go_at_call 38; exact quiet_eq (KN.out _))))
            have HU2 := Lib.hid ((HU.out.alloc (.cells #[.int .i64 op, .int .i64 n, .int .i64 m, .int .i64 m'] 44)).drewN nq)
            have hct := HU2.out.cell (i := m) (by omega)
            have hft := HU2.out.frozen m
            have hcnt : (allUsed (xs.take k)).count m ≤ 80 := by
              have h1 := List.count_le_length (a := m) (l := allUsed (xs.take k))
              omega
            have HPU := Lib.hid (HU2.out.push m)
            have hcnt' : (allUsed (xs.take k) ++ [m]).count m' ≤ 81 := by
              have h1 := List.count_le_length (a := m') (l := allUsed (xs.take k) ++ [m])
              rw [List.length_append] at h1; simp only [List.length_cons, List.length_nil] at h1
              omega
            generalize (allUsed (xs.take k)).count m = cnt at hct hcnt HPU
            have hct' := HPU.out.cell (i := m') (by omega)
            have hft' := HPU.out.frozen m'
            have HPU' := Lib.hid (HPU.out.push m')
            generalize (allUsed (xs.take k) ++ [m]).count m' = cnt' at hct' hcnt' HPU'
            have hcnt0 : (0 : Int) ≤ (cnt : Int) := Int.natCast_nonneg _
            have hcnt0' : (0 : Int) ≤ (cnt' : Int) := Int.natCast_nonneg _
            go_wp2_with fail
            refine (KA.out _).mono ?_
            rintro e w' ⟨rfl, rfl⟩
            go_wp2_with fail
            refine (KB.out _).mono ?_
            rintro e w' ⟨rfl, rfl⟩
            go_wp2
            go_roundw
            case rel =>
              refine ⟨k + 1, by omega, by go_num, Lib.hid (fun i hi => ?_), Lib.hid ?_, Lib.hid (((below_drewN' (HB.out.alloc hsz _) _).setCell (Nat.le_refl _) _).setCell (Nat.le_refl _) _)⟩
              · rcases Nat.lt_or_ge i k with h | h
                · exact HK.out i h
                · obtain rfl : i = k := by omega
                  rw [HX.out]; exact HOK.out
              · rw [allUsed_take xs hlt, HX.out, HUO.out]
                rw [show [m, m'] = [m] ++ [m'] from rfl, ← List.append_assoc]; exact HPU'.out
            case measure => simp [intOf]; omega
    · obtain rfl : k = xs.length := by omega
      rw [List.take_of_length_le (Nat.le_refl _)] at HU
      have hal := allUsed_len xs
      go_wp2
      go_loop [98] (fun iv => ∃ j : Nat, j ≤ xs.length ∧ iv = .int .i64 j ∧ Hid (∀ i, i < j → i < xs.length - 1 → (allUsed xs).count i = 1)) (fun iv => xs.length - (intOf iv).toNat)
      case atStart => exact ⟨0, Nat.zero_le _, rfl, Lib.hid (fun j hj => absurd hj (Nat.not_lt_zero _))⟩
      case round =>
        obtain ⟨j, hj, rfl, HJ⟩ := hrel
        by_cases hlj : j < xs.length
        · have hct := HU.out.cell (i := j) (by omega)
          generalize hcn : (allUsed xs).count j = cnt at hct
          have HCN := Lib.hid hcn
          clear hcn
          by_cases hc1 : cnt = 1
          · subst hc1
            go_wp2
            go_round
            case rel =>
              refine ⟨j + 1, by omega, by go_num, Lib.hid (fun i hi hi' => ?_)⟩
              rcases Nat.lt_or_ge i j with h | h
              · exact HJ.out i h hi'
              · obtain rfl : i = j := by omega
                exact HCN.out
            case measure => simp [intOf]; omega
          · have hne : ((cnt : Int) == 1) = false := by simp; omega
            have hne' : ((cnt : Int) != 1) = true := by simp; omega
            by_cases hlast : j < xs.length - 1
            · have HR0 : Hid (res = false) := Lib.hid (HF.out.symm.trans (formNot_once hlast (by rw [HCN.out]; exact hc1)))
              have hli : (j : Int) < (xs.length : Int) - 1 := by omega
              clear hc1
              go_wp2
              go_ret
              exact ⟨ret_bool HR0.out.symm, HB.out⟩
            · have hli : ¬ (j : Int) < (xs.length : Int) - 1 := by omega
              have hli' : (xs.length : Int) - 1 ≤ (j : Int) := by omega
              clear hc1
              go_wp2
              go_round
              case rel =>
                refine ⟨j + 1, by omega, by go_num, Lib.hid (fun i hi hi' => ?_)⟩
                rcases Nat.lt_or_ge i j with h | h
                · exact HJ.out i h hi'
                · omega
              case measure => simp [intOf]; omega
        · have HR1 : Hid (res = true) := Lib.hid (HF.out.symm.trans (formYes (by omega) (by omega) HK.out (fun i hi => HJ.out i (by omega) hi)))
          obtain rfl : j = xs.length := by omega
          go_wp2
          go_ret
          exact ⟨ret_bool HR1.out.symm, HB.out⟩
end Go.Proofs.Ytcdccdcalmnocaa
