/-
  Contracts of grid.widened and grid.reached, and of worldSet comparison. Condition: the grid's lists are small.
-/
import Derived.Test.YtegmoojjffkacaaRst
import Derived.Test.YtegmoojjffkacaaRch
namespace Go.Proofs.Ytegmoojjffkacaa
open Go.RowKit Go.WideShapes
open Go Go.Deep
set_option linter.unusedSimpArgs false

/-- the first n worlds that are near to one of ws -/
def widK (rows : List (List Int)) (n a : Nat) (ws : List Nat) : Nat → Bool := fun j => decide (j < n) && ws.any fun i => near rows a i j
def widJ (rows : List (List Int)) (n a : Nat) (ws : List Nat) (v k : Nat) : Nat → Bool := fun j => decide (j < n) && (ws.any (fun i => near rows a i j) || (decide (j < k) && near rows a v j))
def wid (rows : List (List Int)) (n a : Nat) (p : Nat → Bool) : Nat → Bool := widK rows n a (lst p 16)
theorem widJ_0 (rows : List (List Int)) (n a : Nat) (ws : List Nat) (v : Nat) : widJ rows n a ws v 0 = widK rows n a ws := by
  funext j; simp [widJ, widK]
theorem widJ_at {rows : List (List Int)} {n a : Nat} {ws : List Nat} {v k : Nat} (h : k < n) : widJ rows n a ws v k k = ws.any (fun i => near rows a i k) := by
  simp [widJ, h]
theorem widJ_upd {rows : List (List Int)} {n a : Nat} {ws : List Nat} {v k : Nat} (h : k < n) : upd (widJ rows n a ws v k) k (ws.any (fun i => near rows a i k) || near rows a v k) = widJ rows n a ws v (k + 1) := by
  funext j
  unfold upd widJ
  by_cases e : j = k
  · subst e; simp [h]
  · rw [if_neg e]
    have : decide (j < k + 1) = decide (j < k) := by rw [decide_eq_decide]; omega
    rw [this]
theorem widJ_end {rows : List (List Int)} {n a : Nat} {ws : List Nat} {k : Nat} (h : k < ws.length) : widJ rows n a (ws.take k) ws[k] n = widK rows n a (ws.take (k + 1)) := by
  funext j
  unfold widJ widK
  rw [take_snocN h, List.any_append]
  by_cases e : j < n <;> simp [e]

set_option maxRecDepth 100000 in
set_option maxHeartbeats 16000000 in
theorem widened_any (n a : Nat) (c : Int) (f : List Int) (rows : List (List Int)) (hs : small f rows) (hn : n ≤ 16) (ha : a ≤ 3) (p : Nat → Bool) (hp : ∀ i, p i = true → i < n) (w : World) :
    Calls Try.prog 108 #[.agg (ints (gL n a f rows c)).toArray, .agg (bL p).toArray] w fun e w' => e = .returned (.agg (bL (wid rows n a p)).toArray) ∧ Below w.heap.size w w' := by
  have KN := Lib.hid (fun i j hi hj W => isNear_any n c a f rows hs i j ha hi hj W)
  have KL := Lib.hid (fun W => setList_any p W)
  have HL : Hid ((ints (gL n a f rows c)).length = 67) := Lib.hid (by rw [ints_len]; exact gL_len hs)
  have HC : Hid (∀ (W : World) b T, Cm W b T (ints (gL n a f rows c)) → W.cell? ⟨b, 0, none⟩ = some (.int .i64 n)) := Lib.hid (fun W b T h => h.g0)
  have HZ : Hid (bL (fun _ => false) = bL (widK rows n a ((lst p 16).take 0))) := Lib.hid (bL_congr fun i _ => by simp [widK])
  have HWN : Hid (∀ k (h : k < (lst p 16).length), (lst p 16)[k] < n) := Lib.hid (fun k h => hp _ (mem_lst.1 (List.getElem_mem h)).2)
  have HE := Lib.hid (fun k (h : k < (lst p 16).length) => widJ_end (rows := rows) (n := n) (a := a) h)
  have hwl := lst_len p 16
  unfold wid
  generalize gL n a f rows c = G at *
  have HVL := Lib.hid (bL_len p)
  generalize bL p = V at *
  generalize lst p 16 = ws at *
  clear hs hp
  go_enter Try.func108, Try.ntmps108
  go_wp2_with
    (first
      | (refine wpList_allocM (o := ⟨some 4, _, _, _, _, _⟩) rfl 83 rfl (bL (fun _ => false)) Try.allocSet ?_
         intro w1 hc1 hb1 hs1
         have C0 := Lib.hid (Cm.all ((Cm.new (w := w) (T := 75) (cs := ints G) rfl).alloc _) hb1)
         have S0 : Hid (Cm w1 (w.heap.size + 1) 83 V) := Lib.hid (Cm.all (Cm.new (by simp)) hb1)
         have R0 : Hid (Cm w1 (w.heap.size + 1 + 1) 83 (bL (fun _ => false))) := Lib.hid (by simpa using hc1)
         have B0 : Hid (Below w.heap.size w w1) := Lib.hid (Below.trans (by go_grown) (hb1.mono (by simp; omega)))
         have hq1 : w.heap.size + 1 + 1 < w1.heap.size := R0.out.lt
         clear hc1 hb1 hs1)
      | (refine wpList_allocM (o := ⟨some 5, _, _, _, _, _⟩) rfl 83 rfl (bL (fun _ => false)) Try.allocSet ?_
         intro w3 hc2 hb2 hs2
         rw [HZ.out] at hc2
         have Z0 := Lib.hid hc2
         have C0 := Lib.hid (C0.out.all hb2)
         have S0 := Lib.hid (S0.out.all hb2)
         have R0 := Lib.hid (R0.out.all hb2)
         have B0 : Hid (Below w.heap.size w w3) := Lib.hid (B0.out.trans (hb2.mono B0.out.size))
         clear hc2 hb2 hs2)
      | (refine wpList_loadM rfl 83 _ rfl (w.heap.size + 1) 0 rfl 83 V V S0.out (fun j _ => by rw [Nat.zero_add]) _ Try.underlying83 rfl (by rw [HVL.out]; exact Try.sizeSet) ?_))
  have hz3 : w1.heap.size < w3.heap.size := Z0.out.lt
  clear S0 HZ
  refine (KL.out _).mono ?_
  rintro e w4 ⟨v4, rfl, ho4, hb4⟩
  have C4 := Lib.hid (C0.out.all hb4)
  have R4 := Lib.hid (R0.out.all hb4)
  have Z4 := Lib.hid (Z0.out.all hb4)
  have B4 := Lib.hid (B0.out.trans (hb4.mono B0.out.size))
  have hq4 : w3.heap.size ≤ w4.heap.size := hb4.size
  obtain ⟨la, lc, e4⟩ := ho4.form
  have I4 : Hid (Iv w3.heap.size w4.heap.size w4 (.slice la ws.length lc) (nums ws)) := Lib.hid (by have h := ho4.read; rw [e4, nums_len] at h; exact h)
  rw [nums_len] at e4
  subst e4
  clear ho4 hb4 C0 R0 Z0 B0
  go_wp2
  go_loopw [12] (fun iv wr => ∃ k : Nat, k ≤ ws.length ∧ iv = .int .i64 k ∧ Hid (Cm wr w1.heap.size 83 (bL (widK rows n a (ws.take k)))) ∧ Hid (Cm wr (w.heap.size + 1 + 1) 83 (bL (fun _ => false))) ∧ Hid (Cm wr w.heap.size 75 (ints G)) ∧ Hid (Iv w3.heap.size w4.heap.size wr (.slice la ws.length lc) (nums ws)) ∧ Hid (Below w.heap.size w wr)) (fun iv _ => ws.length - (intOf iv).toNat)
  case atStart => exact ⟨0, Nat.zero_le _, rfl, Z4, R4, C4, I4, B4⟩
  case round =>
    clear Z4 R4 C4 I4 B4
    obtain ⟨k, hk, rfl, ZR, RR, CR, IR, BR⟩ := hrel
    by_cases hlt : k < ws.length
    · obtain ⟨a', cap', e, hcp, hcm, hpt⟩ := IR.out.parts
      rw [nums_len] at e hcp hpt
      cases e
      obtain ⟨b, o, rfl, _, _, hbl, hc⟩ := hpt k hlt
      unfold maxLen at hcm
      rw [nums_getD hlt] at hc
      have hvn := HWN.out k hlt
      have HE' := Lib.hid (HE.out k hlt)
      obtain ⟨v, hv⟩ : ∃ v, v = ws[k] := ⟨_, rfl⟩
      rw [← hv] at hc hvn HE'
      clear hv hpt
      have g0 := HC.out _ _ _ CR.out
      have hz5 := CR.out.lt
      go_wp2
      clear hc g0
      go_loopw [18] (fun iv wr => ∃ j : Nat, j ≤ n ∧ iv = .int .i64 j ∧ Hid (Cm wr w1.heap.size 83 (bL (widJ rows n a (ws.take k) v j))) ∧ Hid (Cm wr (w.heap.size + 1 + 1) 83 (bL (fun _ => false))) ∧ Hid (Cm wr w.heap.size 75 (ints G)) ∧ Hid (Iv w3.heap.size w4.heap.size wr (.slice (some ⟨b, o, none⟩) ws.length lc) (nums ws)) ∧ Hid (Below w.heap.size w wr)) (fun iv _ => n - (intOf iv).toNat)
      case atStart => exact ⟨0, Nat.zero_le _, rfl, by rw [widJ_0]; exact ZR, RR, CR, IR, BR⟩
      case round =>
        clear ZR RR CR IR BR
        obtain ⟨j, hj, rfl, ZR, RR, CR, IR, BR⟩ := hrel
        by_cases hjn : j < n
        · have hj16 : j < 16 := by omega
          have hj0 : (0 : Int) ≤ (j : Int) := Int.natCast_nonneg _
          have hj16' : (j : Int) < 16 := by omega
          have HAT := Lib.hid (widJ_at (rows := rows) (n := n) (a := a) (ws := ws.take k) (v := v) hjn)
          have HUP := Lib.hid (widJ_upd (rows := rows) (n := n) (a := a) (ws := ws.take k) (v := v) hjn)
          have KN' := Lib.hid (KN.out v j (by omega) hj16)
          have ck := set_store _ hj16 ZR.out
          have fk := ZR.out.frozen j
          rw [HAT.out] at ck
          obtain ⟨q, hq⟩ : ∃ q, q = (ws.take k).any (fun i => near rows a i j) := ⟨_, rfl⟩
          rw [← hq] at ck HUP
          clear hq
          cases q with
          | true =>
            rw [Bool.true_or] at HUP
            go_wp2
            go_roundw
            case rel => exact ⟨j + 1, by omega, by go_num, Lib.hid (by rw [← HUP.out, ← bL_set]; exact ZR.out.set j _), Lib.hid (RR.out.other (by omega) _ _), Lib.hid (CR.out.other (by omega) _ _), Lib.hid (IR.out.keeps (Keeps.setCell _ _ _ _ (.inl (by omega)))), Lib.hid (BR.out.setCell (by show _ ≤ w1.heap.size; omega) _)⟩
            case measure => simp [intOf]; omega
          | false =>
            rw [Bool.false_or] at HUP
            go_wp2_with
              (first
                | (refine wpList_loadMG rfl (by rfl) 75 _ rfl w.heap.size 0 rfl 75 (ints G) (ints G) CR.out (fun j _ => by rw [Nat.zero_add]) _ Try.underlying75 rfl (by rw [HL.out]; exact Try.sizeGrid) ?_)
                | (go_at_call 122; (with_reducible refine (KN'.out _).mono ?_); rintro e w5 ⟨rfl, hb5⟩; have ZR := Lib.hid (ZR.out.all hb5); have RR := Lib.hid (RR.out.all hb5); have CR := Lib.hid (CR.out.all hb5); have IR := Lib.hid (IR.out.keeps (Keeps.of_all hb5)); have BR : Hid (Below w.heap.size w w5) := Lib.hid (BR.out.trans (hb5.mono BR.out.size)); clear hb5 ck fk; have ck := set_store _ hj16 ZR.out; have fk := ZR.out.frozen j))
            clear ck fk
            go_roundw
            case rel => exact ⟨j + 1, by omega, by go_num, Lib.hid (by rw [← HUP.out, ← bL_set]; exact ZR.out.set j _), Lib.hid (RR.out.other (by omega) _ _), Lib.hid (CR.out.other (by omega) _ _), Lib.hid (IR.out.keeps (Keeps.setCell _ _ _ _ (.inl (by omega)))), Lib.hid (BR.out.setCell (by show _ ≤ w1.heap.size; omega) _)⟩
            case measure => simp [intOf]; omega
        · obtain ⟨j', hj'⟩ : ∃ y, y = j := ⟨_, rfl⟩
          subst hj'
          have HJ : Hid (widJ rows n a (ws.take k) v j' = widK rows n a (ws.take (k + 1))) := Lib.hid (by rw [show j' = n by omega]; exact HE'.out)
          go_wp2
          go_roundw
          case rel => exact ⟨k + 1, by omega, by go_num, by rw [← HJ.out]; exact ZR, RR, CR, IR, BR⟩
          case measure => simp [intOf]; omega
    · have HK : Hid (ws.take k = ws) := Lib.hid (List.take_of_length_le (by omega))
      have ZF : Hid (Cm wr w1.heap.size 83 (bL (widK rows n a ws))) := Lib.hid (by have h := ZR.out; rw [HK.out] at h; exact h)
      clear ZR
      obtain ⟨PF, hPF⟩ : ∃ PF, PF = widK rows n a ws := ⟨_, rfl⟩
      rw [← hPF] at ZF
      have HPF := Lib.hid hPF
      clear hPF
      go_wp2_with
        (first
          | (refine wpList_loadM rfl 83 _ rfl w1.heap.size 0 rfl 83 (bL PF) (bL PF) ZF.out (fun j _ => by rw [Nat.zero_add]) _ Try.underlying83 rfl (by rw [bL_len]; exact Try.sizeSet) ?_)
          | (refine wpList_storeM rfl 83 (.tmp 4) (.tmp 34) rfl (w.heap.size + 1 + 1) 0 rfl (bL PF) rfl 83 _ RR.out (by rw [bL_len, bL_len]; exact Nat.le_refl _) (by rw [bL_len]; exact Try.sizeSet) (fun v hv => bL_one hv) ?_
             intro w5 hc5 ha5
             rw [lay'_all (by rw [bL_len, bL_len])] at hc5
             have R5 := Lib.hid hc5
             have B5 : Hid (Below w.heap.size w w5) := Lib.hid (BR.out.trans (ha5.below (by omega)))
             clear hc5 ha5))
      refine bodyPost_ret (results_mid1 Try.results108 _ _ (w.heap.size + 1 + 1) (bL PF) _ rfl R5.out.whole Try.underlying83 rfl (by rw [bL_len]; exact Try.sizeSet)) rfl ?_
      exact ⟨by rw [HPF.out], B5.out⟩
end Go.Proofs.Ytegmoojjffkacaa
