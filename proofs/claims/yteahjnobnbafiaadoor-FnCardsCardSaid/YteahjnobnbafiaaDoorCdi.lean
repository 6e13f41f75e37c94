/-
  Contracts of spec.l13Hands, HandsOf, l13Has. Condition: at most 7 cards.
-/
import Derived.Test.YteahjnobnbafiaaDoorCdh
namespace Go.Proofs.YteahjnobnbafiaaDoor
open Go.RowKit Go.WideShapes
open Go Go.Deep
set_option linter.unusedSimpArgs false

theorem handsTo_in {k : Nat} : ∀ {m : Nat} {x : Int}, x ∈ handsTo k m → 0 ≤ x ∧ x < m
  | 0, _, h => by cases h
  | m + 1, x, h => by
    rcases List.mem_append.1 (show x ∈ handsTo k m ++ _ from h) with h | h
    · have := handsTo_in h; omega
    · split at h
      · rw [List.mem_singleton] at h; omega
      · cases h
theorem handsTo_len (k : Nat) : ∀ m, (handsTo k m).length ≤ m
  | 0 => Nat.le_refl _
  | m + 1 => by
    have := handsTo_len k m
    show (handsTo k m ++ _).length ≤ _
    rw [List.length_append]; split <;> simp <;> omega
theorem pow_le {n : Nat} (h : n ≤ 7) : 2 ^ n ≤ 128 := by
  have := Nat.pow_le_pow_right (n := 2) (by omega) h
  simpa using this
theorem ints_snoc (l : List Int) (x : Int) : ints (l ++ [x]) = ints l ++ [.int .i64 x] := by simp [ints]
theorem nil_own (w : World) : World.ownsRow (w.alloc (.cells #[] 3)) w.heap.size 3 1 (.slice (some ⟨w.heap.size, 0, none⟩) 0 0) 0 (ints []) := by
  have h := World.ownsRow_lit (base := w.heap.size) (e := 3) (size := 1) w #[] 0 (by simp) (by decide) rfl
  simpa [ints] using h
set_option maxRecDepth 100000 in
set_option maxHeartbeats 4000000 in
theorem hands_any (n : Nat) (k : Nat) (hn : n ≤ 7) (w : World) : Calls Tryd.prog 36 #[.int .i64 n, .int .i64 k] w (IntsAns w (handsN n k)) := by
  have HR : Hid (handsN n k = handsTo k (2 ^ n)) := Lib.hid rfl
  have hsh : (2 : Int) ^ n = ((2 ^ n : Nat) : Int) := by simp
  have hT := pow_le hn
  have HLN := Lib.hid (handsTo_len k)
  have KC := Lib.hid (fun h hh W => count_any h hh W)
  generalize handsN n k = R at *
  generalize 2 ^ n = T at *
  have hTi : (T : Int) ≤ 128 := by omega
  have hni0 : (0 : Int) ≤ (n : Int) := by omega
  have hni7 : (n : Int) ≤ 7 := by omega
  go_enter Tryd.func36, Tryd.ntmps36
  go_wp2
  have O0 := Lib.hid (nil_own w)
  have hb0 : Below w.heap.size w (w.alloc (.cells #[] 3)) := (Below.refl _ _).alloc (Nat.le_refl _) _
  have B0 := Lib.hid hb0
  generalize w.alloc (.cells #[] 3) = w1 at *
  clear hb0
  go_loopw [5, 6] (fun lv iv wr => ∃ (ix : Nat) (lv' : Value), ix ≤ T ∧ iv = .int .i64 ix ∧ lv' = lv ∧ Hid (wr.ownsRow w.heap.size 3 1 lv' (handsTo k ix).length (ints (handsTo k ix))) ∧ Hid (Below w.heap.size w wr)) (fun _ iv _ => T - (intOf iv).toNat)
  case atStart => exact ⟨0, _, Nat.zero_le _, rfl, rfl, O0, B0⟩
  case round =>
    clear O0 B0
    obtain ⟨ix, lv, hix, rfl, rfl, HO, HB⟩ := hrel
    have hhi : (0 : Int) ≤ (ix : Int) := Int.natCast_nonneg _
    by_cases hlt : ix < T
    · have hlti : (ix : Int) < (T : Int) := by omega
      have HS : Hid (handsTo k (ix + 1) = handsTo k ix ++ (if pop ix = k then [(ix : Int)] else [])) := Lib.hid rfl
      have HLb : Hid (∀ q, lv.ownBlock = some q → w.heap.size ≤ q) := Lib.hid (fun q hq => (HO.out.lt q hq).1)
      have HLe := Lib.hid (HLN.out ix)
      have hsz := HB.out.size
      go_wp2_with fail
      refine (KC.out ix (by omega) _).mono ?_
      rintro e w2 ⟨rfl, rfl⟩
      by_cases hp : pop ix = k
      · have HJ : Hid (handsTo k (ix + 1) = handsTo k ix ++ [(ix : Int)]) := Lib.hid (by rw [HS.out, if_pos hp])
        rw [hp]
        clear HS hp
        have hll : (handsTo k ix).length ≤ 128 := by have := HLe.out; omega
        go_wp2_with (at_builtin; refine wpList_pushL rfl (.tmp 18) (.tmp 20) 28 21 rfl rfl 3 (.int .i64 0) 8 Tryd.underlying28 Tryd.infoI rfl w.heap.size (.int .i64 ix) lv (handsTo k ix).length (ints (handsTo k ix)) HO.out rfl wr.heap.size rfl rfl rfl (by unfold maxLen; omega) (by omega) hsz ?_; intro v6 w6 hown hg; have L6 := Lib.hid hown; have B6 : Hid (Below w.heap.size w w6) := Lib.hid (HB.out.trans (hg.below hsz HLb.out)); clear hown hg)
        go_roundw
        case rel => exact ⟨ix + 1, _, by omega, by go_num, rfl, Lib.hid (by rw [HJ.out, ints_snoc, List.length_append]; exact L6.out), B6⟩
        case measure => simp [intOf] <;> omega
      · have HJ : Hid (handsTo k (ix + 1) = handsTo k ix) := Lib.hid (by rw [HS.out, if_neg hp, List.append_nil])
        have hpb : ((pop ix : Int) == (k : Int)) = false := beq_eq_false_iff_ne.2 (by omega)
        clear HS
        generalize pop ix = ph at *
        go_wp2
        go_roundw
        case rel => exact ⟨ix + 1, _, by omega, by go_num, rfl, Lib.hid (by rw [HJ.out]; exact HO.out), HB⟩
        case measure => simp [intOf] <;> omega
    · obtain ⟨ix', hix'⟩ : ∃ y, y = ix := ⟨_, rfl⟩
      subst hix'
      have HN : Hid (R = handsTo k ix') := Lib.hid (by rw [HR.out, show T = ix' by omega])
      have hnl : ¬ (ix' : Int) < (T : Int) := by omega
      go_wp2
      go_ret
      exact ⟨_, rfl, by rw [HN.out]; exact Ro.of_own HO.out, HB.out⟩
end Go.Proofs.YteahjnobnbafiaaDoor
