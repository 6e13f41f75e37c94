/-
  Contract of spec.SumPairs. No condition.
-/
import Derived.Test.YtmcjimmebbkjcaaPsm
import Derived.Test.YtmcjimmebbkjcaaPra
namespace Go.Proofs.Ytmcjimmebbkjcaa
open Go.RowKit Go.WideShapes
open Go Go.Deep
set_option linter.unusedSimpArgs false

def partS (M x y : Nat) : List Pr := sumTo M (x - 2) ++ (rowS M x).take (y - x)
theorem part_first (M : Nat) : partS M 2 2 = [] := by unfold partS; simp [sumTo]
theorem part_add {M x y : Nat} (h : x ≤ y) (h2 : x + y ≤ M) : partS M x (y + 1) = partS M x y ++ [⟨(x : Int), (y : Int)⟩] := by
  unfold partS
  rw [show y + 1 - x = (y - x) + 1 by omega, List.take_add_one, List.append_assoc]
  have : (rowS M x)[y - x]? = some ⟨(x : Int), (y : Int)⟩ := by
    unfold rowS
    rw [List.getElem?_map, List.getElem?_range (by omega)]
    simp
    omega
  rw [this]; rfl
theorem part_next {M x : Nat} (h : 2 ≤ x) (h2 : 2 * x ≤ M) : partS M x (M + 1 - x) = partS M (x + 1) (x + 1) := by
  unfold partS
  rw [Nat.sub_self, List.take_zero, List.append_nil, List.take_of_length_le (by rw [rowS_len]; omega), show x + 1 - 2 = (x - 2) + 1 by omega, sumTo_succ, show x - 2 + 2 = x by omega]
theorem part_end (M : Nat) : partS M (M / 2 + 1) (M / 2 + 1) = sumTo M (M / 2 - 1) := by
  unfold partS
  rw [Nat.sub_self, List.take_zero, List.append_nil, show M / 2 + 1 - 2 = M / 2 - 1 by omega]
theorem part_len {M : Nat} (x y : Nat) (h : M ≤ 100) : (partS M x y).length ≤ 100 * x + 101 := by
  unfold partS
  rw [List.length_append, List.length_take, rowS_len]
  have := sumTo_len M (x - 2) h
  omega

set_option maxRecDepth 100000 in
set_option maxHeartbeats 8000000 in
theorem specSumPairs_any (x : Int) (w : World) :
    Calls Try.prog 14 #[.int .i64 x] w (PrsAns w (sumR x)) := by
  have KI := Lib.hid (fun W => lin_any x 4 100 W)
  by_cases hx : 4 ≤ x ∧ x ≤ 100
  · rw [decide_eq_true hx] at KI
    have HR : Hid (sumR x = sumTo x.toNat (x.toNat / 2 - 1)) := Lib.hid (if_pos hx)
    generalize sumR x = R at *
    obtain ⟨M, rfl⟩ := Int.eq_ofNat_of_zero_le (show 0 ≤ x by omega)
    rw [Int.toNat_natCast, ← part_end] at HR
    have hM1 : 4 ≤ M := by omega
    have hM100 : M ≤ 100 := by omega
    have hMi : (M : Int) ≤ 100 := by omega
    have hMi1 : (4 : Int) ≤ (M : Int) := by omega
    clear hx
    have HL := Lib.hid (fun a b => part_len (M := M) a b hM100)
    have H0 := Lib.hid (part_first M)
    have HA := Lib.hid (fun a b h h2 => part_add (M := M) (x := a) (y := b) h h2)
    have HN := Lib.hid (fun a h h2 => part_next (M := M) (x := a) h h2)
    go_enter Try.func14, Try.ntmps14
    go_wp2_with (go_at_call 47; with_reducible refine (KI.out _).mono ?_; rintro e w' ⟨rfl, rfl⟩)
    have O0 := Lib.hid (prs_nil w)
    have hb0 : Below w.heap.size w (w.alloc (.cells #[] 33)) := (Below.refl _ _).alloc (Nat.le_refl _) _
    have B0 := Lib.hid hb0
    generalize w.alloc (.cells #[] 33) = w1 at *
    clear hb0 KI
    go_loopw [3, 4] (fun lv iv wr => ∃ (a : Nat) (lv' : Value), 2 ≤ a ∧ a ≤ M / 2 + 1 ∧ iv = .int .i64 a ∧ lv' = lv ∧ Hid (wr.ownsRow w.heap.size 33 2 lv' (partS M a a).length (prCells (partS M a a))) ∧ Hid (Below w.heap.size w wr)) (fun _ iv _ => M / 2 + 1 - (intOf iv).toNat)
    case atStart => exact ⟨2, _, Nat.le_refl _, by omega, rfl, rfl, Lib.hid (by rw [H0.out]; exact O0.out), B0⟩
    case round =>
      clear O0 B0
      obtain ⟨a, lv, ha2, ha, rfl, rfl, HO, HB⟩ := hrel
      have hai : (2 : Int) ≤ (a : Int) := by omega
      have hai2 : (a : Int) ≤ 51 := by omega
      by_cases hlt : 2 * a ≤ M
      · have hlti : 2 * (a : Int) ≤ (M : Int) := by omega
        go_wp2
        go_loopw [3, 5] (fun lv2 iv wx => ∃ (b : Nat) (lv' : Value), a ≤ b ∧ a + b ≤ M + 1 ∧ iv = .int .i64 b ∧ lv' = lv2 ∧ Hid (wx.ownsRow w.heap.size 33 2 lv' (partS M a b).length (prCells (partS M a b))) ∧ Hid (Below w.heap.size w wx)) (fun _ iv _ => M + 1 - (intOf iv).toNat)
        case atStart => exact ⟨a, _, Nat.le_refl _, by omega, rfl, rfl, HO, HB⟩
        case round =>
          clear HO HB
          obtain ⟨b, lv2, hab, hb1, rfl, rfl, HO, HB⟩ := hrel
          have hbi : (a : Int) ≤ (b : Int) := by omega
          have hbi2 : (b : Int) ≤ 101 := by omega
          by_cases hlb : a + b ≤ M
          · have hlbi : (a : Int) + (b : Int) ≤ (M : Int) := by omega
            have HLk := Lib.hid (HL.out a b)
            have HR2 := Lib.hid (HA.out a b hab hlb)
            have hsz := HB.out.size
            go_wp2_with
              (at_builtin; refine wpList_push2 rfl (.tmp 24) (.tmp 28) 22 rfl 33 (.agg #[.int .i64 0, .int .i64 0]) 16 Try.underlying22 Try.infoPr rfl w.heap.size wr (.int .i64 a) (.int .i64 b) lv2 (partS M a b).length (prCells (partS M a b)) HO.out rfl wr.heap.size rfl rfl rfl rfl (by unfold maxLen; have := HLk.out; omega) (by have := HLk.out; omega) hsz ?_; intro v6 w6 hown hb6 hg; have L6 := Lib.hid hown; have B6 := Lib.hid (HB.out.trans hb6); clear hown hg hb6)
            go_roundw
            case rel => exact ⟨b + 1, _, by omega, by omega, by go_num, rfl, Lib.hid (by rw [HR2.out, prCells_app, List.length_append]; exact L6.out), B6⟩
            case measure => simp [intOf]; omega
          · have hlbi : ¬ (a : Int) + (b : Int) ≤ (M : Int) := by omega
            have HR2 := Lib.hid (HN.out a ha2 hlt)
            obtain ⟨b', hb'⟩ : ∃ y, y = b := ⟨_, rfl⟩
            subst hb'
            have hbe : b' = M + 1 - a := by omega
            go_wp2
            go_roundw
            case rel => exact ⟨a + 1, _, by omega, by omega, by go_num, rfl, Lib.hid (by rw [← HR2.out, ← hbe]; exact HO.out), HB⟩
            case measure => simp [intOf]; omega
      · have hlti : ¬ 2 * (a : Int) ≤ (M : Int) := by omega
        have hae : a = M / 2 + 1 := by omega
        have HR2 : Hid (R = partS M a a) := Lib.hid (by rw [HR.out, hae])
        clear hae
        go_wp2
        go_ret
        exact ⟨_, rfl, by rw [HR2.out]; exact HO.out, HB.out⟩
  · rw [decide_eq_false hx] at KI
    have HR : Hid (sumR x = []) := Lib.hid (if_neg hx)
    generalize sumR x = R at *
    clear hx
    go_enter Try.func14, Try.ntmps14
    go_wp2_with (go_at_call 47; with_reducible refine (KI.out _).mono ?_; rintro e w' ⟨rfl, rfl⟩)
    go_ret
    rw [HR.out]
    exact PrsAns.none_of (Below.refl _ _)
end Go.Proofs.Ytmcjimmebbkjcaa
