/-
  impl.isNumber, PairOk, AllPairs, newPerson, KnowsOwn, AfterAnswer. Conditions of the last two: numbers such as a machine has, at most 1048576 pairs.
-/
import Derived.Test.YtmcjimmebbkjcaaPih
namespace Go.Proofs.Ytmcjimmebbkjcaa
open Go.RowKit Go.WideShapes
open Go Go.Deep
set_option linter.unusedSimpArgs false

theorem isNum_any (x : Int) (w : World) : Calls Try.prog 62 #[.int .i64 x] w fun e w' => e = .returned (.bool (decide (0 ≤ x ∧ x ≤ 40))) ∧ w = w' := by
  by_cases h1 : 0 ≤ x
  · by_cases h2 : x ≤ 40
    · rw [decide_eq_true ⟨h1, h2⟩]
      go_enter Try.func62, Try.ntmps62
      go_wp2
      go_ret
      exact ⟨ret_bool (by simp <;> omega), rfl⟩
    · rw [decide_eq_false (by omega)]
      go_enter Try.func62, Try.ntmps62
      go_wp2
      go_ret
      exact ⟨ret_bool (by simp <;> omega), rfl⟩
  · rw [decide_eq_false (by omega)]
    go_enter Try.func62, Try.ntmps62
    go_wp2
    go_ret
    exact ⟨ret_bool (by simp <;> omega), rfl⟩

set_option maxHeartbeats 4000000 in
theorem implPairP_any (p : Pr) (w : World) : Calls Try.prog 45 #[p.v] w fun e w' => e = .returned (.bool (prOk p)) ∧ Below w.heap.size w w' := by
  obtain ⟨a, b⟩ := p
  have HK : Hid (prOk ⟨a, b⟩ = (decide (0 ≤ a ∧ a ≤ 40) && (decide (0 ≤ b ∧ b ≤ 40) && (decide (a - b = 1) || decide (b - a = 1))))) := Lib.hid rfl
  generalize prOk ⟨a, b⟩ = R at *
  unfold Pr.v
  have KA := Lib.hid (fun W => isNum_any a W)
  have KB := Lib.hid (fun W => isNum_any b W)
  by_cases ha : 0 ≤ a ∧ a ≤ 40
  · rw [decide_eq_true ha] at HK KA
    by_cases hb : 0 ≤ b ∧ b ≤ 40
    · rw [decide_eq_true hb] at HK KB
      obtain ⟨a0, a1⟩ := ha
      obtain ⟨b0, b1⟩ := hb
      have w1 : IntKind.i64.wrap (a + 1) = a + 1 := IntWalk.i64_in _ (by omega)
      have w2 : IntKind.i64.wrap (b + 1) = b + 1 := IntWalk.i64_in _ (by omega)
      by_cases h1 : a + 1 = b
      · have HR : Hid (R = true) := Lib.hid (by rw [HK.out]; simp; omega)
        have h1b : (a + 1 == b) = true := by rw [h1]; exact beq_self_eq_true b
        clear h1
        go_enter Try.func45, Try.ntmps45
        go_wp2_with (go_at_call 62; (first | with_reducible refine (KA.out _).mono ?_ | with_reducible refine (KB.out _).mono ?_); rintro e w' ⟨rfl, rfl⟩)
        go_ret
        exact ⟨by rw [HR.out]; rfl, by go_grown⟩
      · have h1b : (a + 1 == b) = false := beq_eq_false_iff_ne.2 h1
        by_cases h2 : b + 1 = a
        · have HR : Hid (R = true) := Lib.hid (by rw [HK.out]; simp; omega)
          have h2b : (b + 1 == a) = true := by rw [h2]; exact beq_self_eq_true a
          clear h1 h2
          go_enter Try.func45, Try.ntmps45
          go_wp2_with (go_at_call 62; (first | with_reducible refine (KA.out _).mono ?_ | with_reducible refine (KB.out _).mono ?_); rintro e w' ⟨rfl, rfl⟩)
          go_ret
          exact ⟨by rw [HR.out]; rfl, by go_grown⟩
        · have h2b : (b + 1 == a) = false := beq_eq_false_iff_ne.2 h2
          have HR : Hid (R = false) := Lib.hid (by rw [HK.out]; simp; omega)
          clear h1 h2
          go_enter Try.func45, Try.ntmps45
          go_wp2_with (go_at_call 62; (first | with_reducible refine (KA.out _).mono ?_ | with_reducible refine (KB.out _).mono ?_); rintro e w' ⟨rfl, rfl⟩)
          go_ret
          exact ⟨by rw [HR.out]; rfl, by go_grown⟩
    · rw [decide_eq_false hb] at HK KB
      have HR : Hid (R = false) := Lib.hid HK.out
      clear ha hb
      go_enter Try.func45, Try.ntmps45
      go_wp2_with (go_at_call 62; (first | with_reducible refine (KA.out _).mono ?_ | with_reducible refine (KB.out _).mono ?_); rintro e w' ⟨rfl, rfl⟩)
      go_ret
      exact ⟨by rw [HR.out]; rfl, by go_grown⟩
  · rw [decide_eq_false ha] at HK KA
    have HR : Hid (R = false) := Lib.hid HK.out
    clear ha
    go_enter Try.func45, Try.ntmps45
    go_wp2_with (go_at_call 62; with_reducible refine (KA.out _).mono ?_; rintro e w' ⟨rfl, rfl⟩)
    go_ret
    exact ⟨by rw [HR.out]; rfl, by go_grown⟩

def inRow (a : Nat) : Nat → List Pr
  | 0 => []
  | j + 1 => inRow a j ++ (if prOk ⟨a, j⟩ then [⟨a, j⟩] else [])
set_option maxRecDepth 100000 in
theorem inRow_all : ∀ M, M < 41 → ∀ a, a < M + 1 → allAt M a = inRow a (M + 1) := by decide +kernel
theorem allTo_row {M a : Nat} (hM : M ≤ 40) (ha : a ≤ M) : allTo M (a + 1) = allTo M a ++ inRow a (M + 1) := by
  show allTo M a ++ allAt M a = _
  rw [inRow_all M (by omega) a (by omega)]
theorem inRow_len (a : Nat) : ∀ j, (inRow a j).length ≤ j
  | 0 => Nat.le_refl _
  | j + 1 => by
    have := inRow_len a j
    show (inRow a j ++ _).length ≤ _
    rw [List.length_append]
    split <;> simp <;> omega

set_option maxRecDepth 100000 in
set_option maxHeartbeats 8000000 in
theorem implAllP_any (x : Int) (w : World) :
    Calls Try.prog 46 #[.int .i64 x] w (PrsAns w (allR x)) := by
  by_cases hx : 1 ≤ x ∧ x ≤ 40
  · have HR : Hid (allR x = allTo x.toNat (x.toNat + 1)) := Lib.hid (if_pos hx)
    generalize allR x = R at *
    obtain ⟨M, rfl⟩ := Int.eq_ofNat_of_zero_le (show 0 ≤ x by omega)
    rw [Int.toNat_natCast] at HR
    have hM1 : 1 ≤ M := by omega
    have hM40 : M ≤ 40 := by omega
    have hMi : (M : Int) ≤ 40 := by omega
    have hMi1 : (1 : Int) ≤ (M : Int) := by omega
    clear hx
    have HL := Lib.hid (fun a => allTo_len M a)
    have HI := Lib.hid (fun a j => inRow_len a j)
    have HT := Lib.hid (fun a h => allTo_row (M := M) (a := a) hM40 h)
    have KP := Lib.hid (fun p W => implPairP_any p W)
    go_enter Try.func46, Try.ntmps46
    go_wp2
    go_loopw [3, 15] (fun lv iv wr => ∃ (a : Nat) (lv' : Value), a ≤ M + 1 ∧ iv = .int .i64 a ∧ lv' = lv ∧ Hid (wr.ownsRow w.heap.size 33 2 lv' (allTo M a).length (prCells (allTo M a))) ∧ Hid (Below w.heap.size w wr)) (fun _ iv _ => M + 1 - (intOf iv).toNat)
    case atStart => exact ⟨0, _, Nat.zero_le _, rfl, rfl, Lib.hid (World.ownsRow_nil _ _ _ _), Lib.hid (Below.refl _ _)⟩
    case round =>
      obtain ⟨a, lv, ha, rfl, rfl, HO, HB⟩ := hrel
      have hai : (0 : Int) ≤ (a : Int) := Int.natCast_nonneg _
      by_cases hlt : a ≤ M
      · have hlti : (a : Int) < (M : Int) + 1 := by omega
        have HTa := Lib.hid (HT.out a hlt)
        have HLa := Lib.hid (HL.out a)
        obtain ⟨wo, rfl⟩ : ∃ wo : World, wo = wr := ⟨_, rfl⟩
        go_wp2
        go_loopw [3, 20] (fun lv iv wr => ∃ (j : Nat) (lv' : Value), j ≤ M + 1 ∧ iv = .int .i64 j ∧ lv' = lv ∧ Hid (wr.ownsRow w.heap.size 33 2 lv' (allTo M a ++ inRow a j).length (prCells (allTo M a ++ inRow a j))) ∧ Hid (Below w.heap.size w wr)) (fun _ iv _ => M + 1 - (intOf iv).toNat)
        case atStart => exact ⟨0, _, Nat.zero_le _, rfl, rfl, Lib.hid (by show wo.ownsRow _ _ _ _ (allTo M a ++ []).length (prCells (allTo M a ++ [])); rw [List.append_nil]; exact HO.out), HB⟩
        case round =>
          clear HO HB
          obtain ⟨j, lv, hj, rfl, rfl, HO, HB⟩ := hrel
          have hji : (0 : Int) ≤ (j : Int) := Int.natCast_nonneg _
          by_cases hjt : j ≤ M
          · have hjti : (j : Int) < (M : Int) + 1 := by omega
            have HSj : Hid (inRow a (j + 1) = inRow a j ++ (if prOk ⟨a, j⟩ then [⟨a, j⟩] else [])) := Lib.hid rfl
            have KPj := Lib.hid (fun W => KP.out ⟨a, j⟩ W)
            have hnl : (allTo M a ++ inRow a j).length ≤ 200 := by have := HLa.out; have := HI.out a j; rw [List.length_append]; omega
            have HNL := Lib.hid hnl
            unfold Pr.v at KPj
            simp only at KPj
            obtain ⟨ok, hok⟩ : ∃ ok, ok = prOk ⟨a, j⟩ := ⟨_, rfl⟩
            rw [← hok] at HSj KPj
            clear hok
            have hsz := HB.out.size
            have hb2 : Below wr.heap.size wr (wr.alloc (.cells #[.int .i64 a, .int .i64 j] 33)) := (Below.refl _ _).alloc (Nat.le_refl _) _
            have hx0 : (wr.alloc (.cells #[.int .i64 a, .int .i64 j] 33)).cell? ⟨wr.heap.size, 0, none⟩ = some (.int .i64 a) := (World.cell?_alloc_at _ _ _ _ rfl).trans rfl
            have hx1 : (wr.alloc (.cells #[.int .i64 a, .int .i64 j] 33)).cell? ⟨wr.heap.size, 1, none⟩ = some (.int .i64 j) := (World.cell?_alloc_at _ _ _ _ rfl).trans rfl
            have hz2 : (wr.alloc (.cells #[.int .i64 a, .int .i64 j] 33)).heap.size = wr.heap.size + 1 := by simp
            have B2 := Lib.hid hb2
            have X2 := Lib.hid (And.intro hx0 hx1)
            have Z2 := Lib.hid hz2
            clear hb2 hx0 hx1 hz2 hnl
            go_wp2_with fail
            refine (KPj.out _).mono ?_
            rintro e w5 ⟨rfl, hb5⟩
            have HO5 := Lib.hid (own_below HO.out (B2.out.trans (hb5.mono B2.out.size)) (Nat.le_refl _))
            have HB5 := Lib.hid (HB.out.trans ((B2.out.trans (hb5.mono B2.out.size)).mono hsz))
            have x0 : w5.cell? ⟨wr.heap.size, 0, none⟩ = some (.int .i64 a) := (hb5.cell (p := ⟨wr.heap.size, 0, none⟩) (by show wr.heap.size < _; have := Z2.out; omega)).trans X2.out.1
            have x1 : w5.cell? ⟨wr.heap.size, 1, none⟩ = some (.int .i64 j) := (hb5.cell (p := ⟨wr.heap.size, 1, none⟩) (by show wr.heap.size < _; have := Z2.out; omega)).trans X2.out.2
            have hwl : wr.heap.size < w5.heap.size := by have := hb5.size; have := Z2.out; omega
            have hsz5 := HB5.out.size
            clear hb5 B2 X2 Z2 HO HB
            cases ok with
            | true =>
              have HJ : Hid (allTo M a ++ inRow a (j + 1) = (allTo M a ++ inRow a j) ++ [⟨a, j⟩]) := Lib.hid (by rw [HSj.out, if_pos rfl, List.append_assoc])
              clear HSj
              generalize allTo M a ++ inRow a j = cr at *
              have hnl := HNL.out
              go_wp2_with
                (at_builtin; refine wpList_push2 rfl (.tmp 28) (.tmp 30) 22 rfl 33 (.agg #[.int .i64 0, .int .i64 0]) 16 Try.underlying22 Try.infoPr rfl w.heap.size w5 (.int .i64 a) (.int .i64 j) lv cr.length (prCells cr) HO5.out rfl w5.heap.size rfl rfl rfl rfl (by unfold maxLen; omega) (by omega) hsz5 ?_; intro v6 w6 hown hb6 hg; have L6 := Lib.hid hown; have B6 := Lib.hid (HB5.out.trans hb6); clear hown hg hb6)
              clear x0 x1
              go_roundw
              case rel => exact ⟨j + 1, _, by omega, by go_num, rfl, Lib.hid (by rw [HJ.out, prCells_app, List.length_append]; exact L6.out), B6⟩
              case measure => simp [intOf] <;> omega
            | false =>
              have HJ : Hid (allTo M a ++ inRow a (j + 1) = allTo M a ++ inRow a j) := Lib.hid (by rw [HSj.out, if_neg (by decide), List.append_nil])
              clear HSj
              generalize allTo M a ++ inRow a j = cr at *
              go_wp2
              clear x0 x1
              go_roundw
              case rel => exact ⟨j + 1, _, by omega, by go_num, rfl, Lib.hid (by rw [HJ.out]; exact HO5.out), HB5⟩
              case measure => simp [intOf] <;> omega
          · obtain ⟨j', hj'⟩ : ∃ y, y = j := ⟨_, rfl⟩
            subst hj'
            have HO9 : Hid (wr.ownsRow w.heap.size 33 2 lv (allTo M (a + 1)).length (prCells (allTo M (a + 1)))) := Lib.hid (by rw [HTa.out, show M + 1 = j' by omega]; exact HO.out)
            have hjn : ¬ (j' : Int) < (M : Int) + 1 := by omega
            clear HO
            go_wp2
            go_roundw
            case rel => exact ⟨a + 1, _, by omega, by go_num, rfl, HO9, HB⟩
            case measure => simp [intOf] <;> omega
      · obtain ⟨a', ha'⟩ : ∃ y, y = a := ⟨_, rfl⟩
        subst ha'
        have han : ¬ (a' : Int) < (M : Int) + 1 := by omega
        have HN : Hid (R = allTo M a') := Lib.hid (by rw [HR.out, show M + 1 = a' by omega])
        go_wp2
        go_ret
        exact ⟨_, rfl, by rw [HN.out]; exact HO.out, HB.out⟩
  · have HR : Hid (allR x = []) := Lib.hid (if_neg hx)
    generalize allR x = R at *
    by_cases h1 : x < 1
    · clear hx
      go_enter Try.func46, Try.ntmps46
      go_wp2
      go_ret
      rw [HR.out]
      exact PrsAns.none_of (Below.refl _ _)
    · have h2 : 40 < x := by omega
      clear hx
      go_enter Try.func46, Try.ntmps46
      go_wp2
      go_ret
      rw [HR.out]
      exact PrsAns.none_of (Below.refl _ _)
end Go.Proofs.Ytmcjimmebbkjcaa
