/-
  Several texts in one: Rch Wid Rea Fv Fw Rfi. Conditions: as each theorem says.
-/
import Derived.WalkKit
import Derived.Test.YtodjohdbngbpaaaGreatZSet
import Derived.Deep.LoopGhost
import Derived.Shelf.Abstract
/-
  What is reached by steps of a relation, in mathematics. No program.
-/
namespace Go.Proofs.YtodjohdbngbpaaaGreat

/-- j is reached from i by steps of r whose stations between are among the first k -/
def wsh (r : Nat → Nat → Bool) : Nat → Nat → Nat → Bool
  | 0, i, j => i == j || r i j
  | k + 1, i, j => wsh r k i j || (wsh r k i k && wsh r k k j)
theorem wsh_le {r : Nat → Nat → Bool} {i j : Nat} : ∀ {k l : Nat}, k ≤ l → wsh r k i j = true → wsh r l i j = true
  | k, 0, h, e => by obtain rfl : k = 0 := by omega
                     exact e
  | k, l + 1, h, e => by
    rcases Nat.lt_or_eq_of_le h with h1 | h1
    · rw [wsh, wsh_le (Nat.le_of_lt_succ h1) e, Bool.true_or]
    · subst h1; exact e
theorem wsh_refl (r : Nat → Nat → Bool) (k i : Nat) : wsh r k i i = true := wsh_le (Nat.zero_le _) (by simp [wsh])
theorem wsh_step {r : Nat → Nat → Bool} {i j : Nat} (k : Nat) (h : r i j = true) : wsh r k i j = true := wsh_le (Nat.zero_le _) (by simp [wsh, h])
theorem wsh_trans {r : Nat → Nat → Bool} : ∀ {k i j l : Nat}, j < k → wsh r k i j = true → wsh r k j l = true → wsh r k i l = true
  | 0, _, _, _, h, _, _ => absurd h (by omega)
  | k + 1, i, j, l, h, a, b => by
    rw [wsh, Bool.or_eq_true, Bool.and_eq_true] at a b ⊢
    rcases Nat.lt_or_eq_of_le (Nat.le_of_lt_succ h) with hj | hj
    · rcases a with a | ⟨a1, a2⟩
      · rcases b with b | ⟨b1, b2⟩
        · exact .inl (wsh_trans hj a b)
        · exact .inr ⟨wsh_trans hj a b1, b2⟩
      · rcases b with b | ⟨b1, b2⟩
        · exact .inr ⟨a1, wsh_trans hj a2 b⟩
        · exact .inr ⟨a1, b2⟩
    · subst hj
      have a' : wsh r j i j = true := by rcases a with a | ⟨a1, _⟩ <;> assumption
      have b' : wsh r j j l = true := by rcases b with b | ⟨_, b2⟩ <;> assumption
      exact .inr ⟨a', b'⟩
/-- what is closed under r and has i has all that is reached from i -/
theorem wsh_least {r : Nat → Nat → Bool} {T : Nat → Bool} (hT : ∀ i j, T i = true → r i j = true → T j = true) : ∀ {k i j : Nat}, T i = true → wsh r k i j = true → T j = true
  | 0, i, j, h, e => by
    rw [wsh, Bool.or_eq_true, beq_iff_eq] at e
    rcases e with e | e
    · subst e; exact h
    · exact hT _ _ h e
  | k + 1, i, j, h, e => by
    rw [wsh, Bool.or_eq_true, Bool.and_eq_true] at e
    rcases e with e | ⟨e1, e2⟩
    · exact wsh_least hT h e
    · exact wsh_least hT (wsh_least hT h e1) e2
/-- the least set that has i and is closed under r, r within the first n -/
theorem wsh_unique {r : Nat → Nat → Bool} {n i : Nat} {S : Nat → Bool} (h0 : S i = true) (hc : ∀ i j, S i = true → r i j = true → S j = true) (hl : ∀ j, S j = true → wsh r n i j = true) : ∀ j, S j = wsh r n i j := by
  intro j
  rw [Bool.eq_iff_iff]
  exact ⟨hl j, fun h => wsh_least hc h0 h⟩
/-- one step more -/
theorem wsh_more {r : Nat → Nat → Bool} {n i j l : Nat} (hr : ∀ i j, r i j = true → i < n ∧ j < n) (h : wsh r n i j = true) (e : r j l = true) : wsh r n i l = true :=
  wsh_trans (hr _ _ e).1 h (wsh_step n e)
/-- what is reached lies within the first n -/
theorem wsh_in {r : Nat → Nat → Bool} {n i j : Nat} (hr : ∀ i j, r i j = true → i < n ∧ j < n) (hi : i < n) (h : wsh r n i j = true) : j < n := by
  have := wsh_least (r := r) (T := fun j => decide (j < n)) (fun i j _ e => decide_eq_true (hr i j e).2) (i := i) (j := j) (k := n) (decide_eq_true hi) h
  exact of_decide_eq_true this
end Go.Proofs.YtodjohdbngbpaaaGreat

/-
  Contracts of grid.widened and grid.reached, and of worldSet comparison. Condition: the grid's lists are small.
-/
namespace Go.Proofs.YtodjohdbngbpaaaGreat
open Go.RowKit Go.WideShapes
open Go Go.Deep
set_option linter.unusedSimpArgs false

/-- the first n worlds that are near to one of ws -/
def widK (rows : List (List Int)) (n a : Nat) (ws : List Nat) : Nat → Bool := fun j => decide (j < n) && ws.any fun i => near rows a i j
def widJ (rows : List (List Int)) (n a : Nat) (ws : List Nat) (v k : Nat) : Nat → Bool := fun j => decide (j < n) && (ws.any (fun i => near rows a i j) || (decide (j < k) && near rows a v j))
def wid (rows : List (List Int)) (n a : Nat) (p : Nat → Bool) : Nat → Bool := widK rows n a (lst p 16)
theorem widJ_0 (rows : List (List Int)) (n a : Nat) (ws : List Nat) (v : Nat) : widJ rows n a ws v 0 = widK rows n a ws := by
  funext j; simp [widJ, widK]
theorem widJ_at {rows : List (List Int)} {n a : Nat} {ws : List Nat} {v k : Nat} (h : k < n) : widJ rows n a ws v k k = ws.any (fun i => near rows a i k) := by
  simp [widJ, h]
theorem widJ_upd {rows : List (List Int)} {n a : Nat} {ws : List Nat} {v k : Nat} (h : k < n) : upd (widJ rows n a ws v k) k (ws.any (fun i => near rows a i k) || near rows a v k) = widJ rows n a ws v (k + 1) := by
  funext j
  unfold upd widJ
  by_cases e : j = k
  · subst e; simp [h]
  · rw [if_neg e]
    have : decide (j < k + 1) = decide (j < k) := by rw [decide_eq_decide]; omega
    rw [this]
theorem widJ_end {rows : List (List Int)} {n a : Nat} {ws : List Nat} {k : Nat} (h : k < ws.length) : widJ rows n a (ws.take k) ws[k] n = widK rows n a (ws.take (k + 1)) := by
  funext j
  unfold widJ widK
  rw [take_snocN h, List.any_append]
  by_cases e : j < n <;> simp [e]

set_option maxRecDepth 100000 in
set_option maxHeartbeats 16000000 in
theorem widened_any (n a : Nat) (c : Int) (f : List Int) (rows : List (List Int)) (hs : small f rows) (hn : n ≤ 16) (ha : a ≤ 3) (p : Nat → Bool) (hp : ∀ i, p i = true → i < n) (w : World) :
    Calls Tryz.prog 202 #[.agg (ints (gL n a f rows c)).toArray, .agg (bL p).toArray] w fun e w' => e = .returned (.agg (bL (wid rows n a p)).toArray) ∧ Below w.heap.size w w' := by
  have KN := Lib.hid (fun i j hi hj W => isNear_any n c a f rows hs i j ha hi hj W)
  have KL := Lib.hid (fun W => setList_any p W)
  have HL : Hid ((ints (gL n a f rows c)).length = 67) := Lib.hid (by rw [ints_len]; exact gL_len hs)
  have HC : Hid (∀ (W : World) b T, Cm W b T (ints (gL n a f rows c)) → W.cell? ⟨b, 0, none⟩ = some (.int .i64 n)) := Lib.hid (fun W b T h => h.g0)
  have HZ : Hid (bL (fun _ => false) = bL (widK rows n a ((lst p 16).take 0))) := Lib.hid (bL_congr fun i _ => by simp [widK])
  have HWN : Hid (∀ k (h : k < (lst p 16).length), (lst p 16)[k] < n) := Lib.hid (fun k h => hp _ (mem_lst.1 (List.getElem_mem h)).2)
  have HE := Lib.hid (fun k (h : k < (lst p 16).length) => widJ_end (rows := rows) (n := n) (a := a) h)
  have hwl := lst_len p 16
  unfold wid
  generalize gL n a f rows c = G at *
  have HVL := Lib.hid (bL_len p)
  generalize bL p = V at *
  generalize lst p 16 = ws at *
  clear hs hp
  go_enter Tryz.func202, Tryz.ntmps202
  go_wp2_with
    (first
      | (refine wpList_allocM (o := ⟨some 4, _, _, _, _, _⟩) rfl 89 rfl (bL (fun _ => false)) Tryz.allocSet ?_
         intro w1 hc1 hb1 hs1
         have C0 := Lib.hid (Cm.all ((Cm.new (w := w) (T := 85) (cs := ints G) rfl).alloc _) hb1)
         have S0 : Hid (Cm w1 (w.heap.size + 1) 89 V) := Lib.hid (Cm.all (Cm.new (by simp)) hb1)
         have R0 : Hid (Cm w1 (w.heap.size + 1 + 1) 89 (bL (fun _ => false))) := Lib.hid (by simpa using hc1)
         have B0 : Hid (Below w.heap.size w w1) := Lib.hid (Below.trans (by go_grown) (hb1.mono (by simp; omega)))
         have hq1 : w.heap.size + 1 + 1 < w1.heap.size := R0.out.lt
         clear hc1 hb1 hs1)
      | (refine wpList_allocM (o := ⟨some 5, _, _, _, _, _⟩) rfl 89 rfl (bL (fun _ => false)) Tryz.allocSet ?_
         intro w3 hc2 hb2 hs2
         rw [HZ.out] at hc2
         have Z0 := Lib.hid hc2
         have C0 := Lib.hid (C0.out.all hb2)
         have S0 := Lib.hid (S0.out.all hb2)
         have R0 := Lib.hid (R0.out.all hb2)
         have B0 : Hid (Below w.heap.size w w3) := Lib.hid (B0.out.trans (hb2.mono B0.out.size))
         clear hc2 hb2 hs2)
      | (refine wpList_loadM rfl 89 _ rfl (w.heap.size + 1) 0 rfl 89 V V S0.out (fun j _ => by rw [Nat.zero_add]) _ Tryz.underlying89 rfl (by rw [HVL.out]; exact Tryz.sizeSet) ?_))
  have hz3 : w1.heap.size < w3.heap.size := Z0.out.lt
  clear S0 HZ
  refine (KL.out _).mono ?_
  rintro e w4 ⟨v4, rfl, ho4, hb4⟩
  have C4 := Lib.hid (C0.out.all hb4)
  have R4 := Lib.hid (R0.out.all hb4)
  have Z4 := Lib.hid (Z0.out.all hb4)
  have B4 := Lib.hid (B0.out.trans (hb4.mono B0.out.size))
  have hq4 : w3.heap.size ≤ w4.heap.size := hb4.size
  obtain ⟨la, lc, e4⟩ := ho4.form
  have I4 : Hid (Iv w3.heap.size w4.heap.size w4 (.slice la ws.length lc) (nums ws)) := Lib.hid (by have h := ho4.read; rw [e4, nums_len] at h; exact h)
  rw [nums_len] at e4
  subst e4
  clear ho4 hb4 C0 R0 Z0 B0
  go_wp2
  go_loopw [12] (fun iv wr => ∃ k : Nat, k ≤ ws.length ∧ iv = .int .i64 k ∧ Hid (Cm wr w1.heap.size 89 (bL (widK rows n a (ws.take k)))) ∧ Hid (Cm wr (w.heap.size + 1 + 1) 89 (bL (fun _ => false))) ∧ Hid (Cm wr w.heap.size 85 (ints G)) ∧ Hid (Iv w3.heap.size w4.heap.size wr (.slice la ws.length lc) (nums ws)) ∧ Hid (Below w.heap.size w wr)) (fun iv _ => ws.length - (intOf iv).toNat)
  case atStart => exact ⟨0, Nat.zero_le _, rfl, Z4, R4, C4, I4, B4⟩
  case round =>
    clear Z4 R4 C4 I4 B4
    obtain ⟨k, hk, rfl, ZR, RR, CR, IR, BR⟩ := hrel
    by_cases hlt : k < ws.length
    · obtain ⟨a', cap', e, hcp, hcm, hpt⟩ := IR.out.parts
      rw [nums_len] at e hcp hpt
      cases e
      obtain ⟨b, o, rfl, _, _, hbl, hc⟩ := hpt k hlt
      unfold maxLen at hcm
      rw [nums_getD hlt] at hc
      have hvn := HWN.out k hlt
      have HE' := Lib.hid (HE.out k hlt)
      obtain ⟨v, hv⟩ : ∃ v, v = ws[k] := ⟨_, rfl⟩
      rw [← hv] at hc hvn HE'
      clear hv hpt
      have g0 := HC.out _ _ _ CR.out
      have hz5 := CR.out.lt
      go_wp2
      clear hc g0
      go_loopw [18] (fun iv wr => ∃ j : Nat, j ≤ n ∧ iv = .int .i64 j ∧ Hid (Cm wr w1.heap.size 89 (bL (widJ rows n a (ws.take k) v j))) ∧ Hid (Cm wr (w.heap.size + 1 + 1) 89 (bL (fun _ => false))) ∧ Hid (Cm wr w.heap.size 85 (ints G)) ∧ Hid (Iv w3.heap.size w4.heap.size wr (.slice (some ⟨b, o, none⟩) ws.length lc) (nums ws)) ∧ Hid (Below w.heap.size w wr)) (fun iv _ => n - (intOf iv).toNat)
      case atStart => exact ⟨0, Nat.zero_le _, rfl, by rw [widJ_0]; exact ZR, RR, CR, IR, BR⟩
      case round =>
        clear ZR RR CR IR BR
        obtain ⟨j, hj, rfl, ZR, RR, CR, IR, BR⟩ := hrel
        by_cases hjn : j < n
        · have hj16 : j < 16 := by omega
          have hj0 : (0 : Int) ≤ (j : Int) := Int.natCast_nonneg _
          have hj16' : (j : Int) < 16 := by omega
          have HAT := Lib.hid (widJ_at (rows := rows) (n := n) (a := a) (ws := ws.take k) (v := v) hjn)
          have HUP := Lib.hid (widJ_upd (rows := rows) (n := n) (a := a) (ws := ws.take k) (v := v) hjn)
          have KN' := Lib.hid (KN.out v j (by omega) hj16)
          have ck := set_store _ hj16 ZR.out
          have fk := ZR.out.frozen j
          rw [HAT.out] at ck
          obtain ⟨q, hq⟩ : ∃ q, q = (ws.take k).any (fun i => near rows a i j) := ⟨_, rfl⟩
          rw [← hq] at ck HUP
          clear hq
          cases q with
          | true =>
            rw [Bool.true_or] at HUP
            go_wp2
            go_roundw
            case rel => exact ⟨j + 1, by omega, by go_num, Lib.hid (by rw [← HUP.out, ← bL_set]; exact ZR.out.set j _), Lib.hid (RR.out.other (by omega) _ _), Lib.hid (CR.out.other (by omega) _ _), Lib.hid (IR.out.keeps (Keeps.setCell _ _ _ _ (.inl (by omega)))), Lib.hid (BR.out.setCell (by show _ ≤ w1.heap.size; omega) _)⟩
            case measure => simp [intOf]; omega
          | false =>
            rw [Bool.false_or] at HUP
            go_wp2_with
              (first
                | (refine wpList_loadMG rfl (by rfl) 85 _ rfl w.heap.size 0 rfl 85 (ints G) (ints G) CR.out (fun j _ => by rw [Nat.zero_add]) _ Tryz.underlying85 rfl (by rw [HL.out]; exact Tryz.sizeGrid) ?_)
                | (go_at_call 201; (with_reducible refine (KN'.out _).mono ?_); rintro e w5 ⟨rfl, hb5⟩; have ZR := Lib.hid (ZR.out.all hb5); have RR := Lib.hid (RR.out.all hb5); have CR := Lib.hid (CR.out.all hb5); have IR := Lib.hid (IR.out.keeps (Keeps.of_all hb5)); have BR : Hid (Below w.heap.size w w5) := Lib.hid (BR.out.trans (hb5.mono BR.out.size)); clear hb5 ck fk; have ck := set_store _ hj16 ZR.out; have fk := ZR.out.frozen j))
            clear ck fk
            go_roundw
            case rel => exact ⟨j + 1, by omega, by go_num, Lib.hid (by rw [← HUP.out, ← bL_set]; exact ZR.out.set j _), Lib.hid (RR.out.other (by omega) _ _), Lib.hid (CR.out.other (by omega) _ _), Lib.hid (IR.out.keeps (Keeps.setCell _ _ _ _ (.inl (by omega)))), Lib.hid (BR.out.setCell (by show _ ≤ w1.heap.size; omega) _)⟩
            case measure => simp [intOf]; omega
        · obtain ⟨j', hj'⟩ : ∃ y, y = j := ⟨_, rfl⟩
          subst hj'
          have HJ : Hid (widJ rows n a (ws.take k) v j' = widK rows n a (ws.take (k + 1))) := Lib.hid (by rw [show j' = n by omega]; exact HE'.out)
          go_wp2
          go_roundw
          case rel => exact ⟨k + 1, by omega, by go_num, by rw [← HJ.out]; exact ZR, RR, CR, IR, BR⟩
          case measure => simp [intOf]; omega
    · have HK : Hid (ws.take k = ws) := Lib.hid (List.take_of_length_le (by omega))
      have ZF : Hid (Cm wr w1.heap.size 89 (bL (widK rows n a ws))) := Lib.hid (by have h := ZR.out; rw [HK.out] at h; exact h)
      clear ZR
      obtain ⟨PF, hPF⟩ : ∃ PF, PF = widK rows n a ws := ⟨_, rfl⟩
      rw [← hPF] at ZF
      have HPF := Lib.hid hPF
      clear hPF
      go_wp2_with
        (first
          | (refine wpList_loadM rfl 89 _ rfl w1.heap.size 0 rfl 89 (bL PF) (bL PF) ZF.out (fun j _ => by rw [Nat.zero_add]) _ Tryz.underlying89 rfl (by rw [bL_len]; exact Tryz.sizeSet) ?_)
          | (refine wpList_storeM rfl 89 (.tmp 4) (.tmp 34) rfl (w.heap.size + 1 + 1) 0 rfl (bL PF) rfl 89 _ RR.out (by rw [bL_len, bL_len]; exact Nat.le_refl _) (by rw [bL_len]; exact Tryz.sizeSet) (fun v hv => bL_one hv) ?_
             intro w5 hc5 ha5
             rw [lay'_all (by rw [bL_len, bL_len])] at hc5
             have R5 := Lib.hid hc5
             have B5 : Hid (Below w.heap.size w w5) := Lib.hid (BR.out.trans (ha5.below (by omega)))
             clear hc5 ha5))
      refine bodyPost_ret (results_mid1 Tryz.results202 _ _ (w.heap.size + 1 + 1) (bL PF) _ rfl R5.out.whole Tryz.underlying89 rfl (by rw [bL_len]; exact Tryz.sizeSet)) rfl ?_
      exact ⟨by rw [HPF.out], B5.out⟩
end Go.Proofs.YtodjohdbngbpaaaGreat

/-
  Contract of grid.reached. Condition: the grid's lists are small, it has an agent and the world.
-/
namespace Go.Proofs.YtodjohdbngbpaaaGreat
open Go.RowKit Go.WideShapes
open Go Go.Deep
set_option linter.unusedSimpArgs false

def boolEq : Value → Value → Bool
  | .bool x, .bool y => x == y
  | _, _ => false
/-- two sets have the same worlds -/
def eqB (p q : Nat → Bool) : Bool := (List.range 16).all fun i => p i == q i
theorem eqB_iff {p q : Nat → Bool} : eqB p q = true ↔ bL p = bL q := by
  unfold eqB
  rw [List.all_eq_true]
  exact ⟨fun h => bL_congr fun i hi => by simpa using h i (List.mem_range.2 hi), fun h i hi => by simpa using bL_inj h i (List.mem_range.1 hi)⟩
theorem run_set_eq (p q : Nat → Bool) (w : World) (b : Bool) (hb : b = eqB p q) :
    (Op.equalIn 10000 89 (.agg (bL p).toArray) (.agg (bL q).toArray)).run Tryz.prog w = .ok b w := by
  obtain ⟨i0, hi, _⟩ := info_parts Tryz.infoB
  obtain ⟨r, hr, hiff⟩ := equalIn_arr (P := Tryz.prog) 9999 (bL p) (bL q) Tryz.underlying89 hi (by kernel_rfl) (by kernel_rfl) (bL_len p) (bL_len q) boolEq
    (fun a b ha hb W => by
      unfold bL at ha hb
      obtain ⟨x, _, rfl⟩ := List.mem_map.1 ha
      obtain ⟨y, _, rfl⟩ := List.mem_map.1 hb
      exact run_equalIn_bool W 9998 4 _ _ Tryz.underlying4)
    (fun a b ha hb => by
      unfold bL at ha hb
      obtain ⟨x, _, rfl⟩ := List.mem_map.1 ha
      obtain ⟨y, _, rfl⟩ := List.mem_map.1 hb
      simp [boolEq]) w
  refine hr.trans ?_
  subst hb
  cases r with
  | true => rw [eqB_iff.2 (hiff.1 rfl)]
  | false =>
    have h : eqB p q = false := by
      cases h : eqB p q with
      | false => rfl
      | true => have := hiff.2 (eqB_iff.1 h); cases this
    rw [h]
section
variable {P : Program}
/-- two structs or arrays are compared -/
theorem wpList_eqA {ops : Array Oper} {rest : List Oper} {o : Oper} {a : Act} {w : World} {Q : Exit → Act → World → Prop} (hgd : o.guard = none) (T : TypeId) (x y : Operand) (R : TypeId) (ho : o.op = .binOp .eql T x y R)
    (xs ys : Array Value) (hx : a.eval x = .agg xs) (hy : a.eval y = .agg ys) (hg : P.eqGuardType P.depth T = false) (b : Bool) (hr : (Op.equalIn 10000 T (.agg xs) (.agg ys)).run P w = .ok b w)
    (h : wpList P ops Q rest (a.put o.dst (.bool b)) w) : wpList P ops Q (o :: rest) a w := by
  refine wpList_op hgd (.bool b) ?_ h
  unfold execOp
  simp only [ho, hx, hy, Sem.run_bind, run_eqGuard_agg w _ _ _ _ _ _ hg, run_eql_struct, hr, Result.andThen_ok, Sem.run_pure]
end
/-- a step of any agent -/
def stepP (rows : List (List Int)) (n a : Nat) : Nat → Nat → Bool := fun i j => decide (i < n) && decide (j < n) && near rows a i j
theorem stepP_in {rows : List (List Int)} {n a i j : Nat} (h : stepP rows n a i j = true) : i < n ∧ j < n := by
  unfold stepP at h
  simp only [Bool.and_eq_true, decide_eq_true_eq] at h
  exact h.1
/-- what is reached from x -/
def reachB (rows : List (List Int)) (n a x : Nat) : Nat → Bool := wsh (stepP rows n a) n x
theorem near_refl {rows : List (List Int)} {a j : Nat} (ha : 1 ≤ a) : near rows a j j = true := by
  unfold near
  rw [List.any_eq_true]
  exact ⟨0, List.mem_range.2 ha, by simp⟩
theorem wid_iff {rows : List (List Int)} {n a j : Nat} {p : Nat → Bool} (hn : n ≤ 16) (hp : ∀ i, p i = true → i < n) : wid rows n a p j = true ↔ j < n ∧ ∃ i, p i = true ∧ near rows a i j = true := by
  unfold wid widK
  simp only [Bool.and_eq_true, decide_eq_true_eq, List.any_eq_true]
  constructor
  · rintro ⟨h, i, hi, e⟩
    exact ⟨h, i, (mem_lst.1 hi).2, e⟩
  · rintro ⟨h, i, hi, e⟩
    exact ⟨h, i, mem_lst.2 ⟨by have := hp i hi; omega, hi⟩, e⟩
theorem filter_le {α : Type} {p q : α → Bool} : ∀ {l : List α}, (∀ x ∈ l, p x = true → q x = true) → (l.filter p).length ≤ (l.filter q).length
  | [], _ => Nat.le_refl _
  | x :: l, h => by
    have ih := filter_le (l := l) (fun y hy => h y (List.mem_cons_of_mem _ hy))
    rw [List.filter_cons, List.filter_cons]
    cases hp : p x with
    | true => rw [h x (List.mem_cons_self ..) hp]; simp; exact ih
    | false =>
      cases hq : q x with
      | true => simp; omega
      | false => simpa using ih
theorem filter_lt {α : Type} {p q : α → Bool} : ∀ {l : List α}, (∀ x ∈ l, p x = true → q x = true) → (∃ x ∈ l, p x = false ∧ q x = true) → (l.filter p).length < (l.filter q).length
  | [], _, h => by obtain ⟨x, hx, _⟩ := h; cases hx
  | x :: l, h, h2 => by
    have hl : ∀ y ∈ l, p y = true → q y = true := fun y hy => h y (List.mem_cons_of_mem _ hy)
    rw [List.filter_cons, List.filter_cons]
    obtain ⟨y, hy, e1, e2⟩ := h2
    cases hp : p x with
    | true =>
      rw [h x (List.mem_cons_self ..) hp]
      rcases List.mem_cons.1 hy with e | e
      · subst e; rw [hp] at e1; cases e1
      · have := filter_lt hl ⟨y, e, e1, e2⟩; simp; exact this
    | false =>
      cases hq : q x with
      | true => have := filter_le hl; simp; omega
      | false =>
        rcases List.mem_cons.1 hy with e | e
        · subst e; rw [hq] at e2; cases e2
        · simpa using filter_lt hl ⟨y, e, e1, e2⟩
/-- what the loop keeps of its set -/
def grows (rows : List (List Int)) (n a x : Nat) (S : Nat → Bool) : Prop := S x = true ∧ (∀ j, S j = true → j < n) ∧ ∀ j, S j = true → reachB rows n a x j = true
theorem grows_0 {rows : List (List Int)} {n a x : Nat} (hx : x < n) : grows rows n a x (upd (fun _ => false) x true) := by
  refine ⟨by simp [upd], fun j h => ?_, fun j h => ?_⟩ <;> (unfold upd at h; by_cases e : j = x <;> simp [e] at h; subst e)
  · exact hx
  · exact wsh_refl _ _ _
theorem grows_wid {rows : List (List Int)} {n a x : Nat} {S : Nat → Bool} (h : grows rows n a x S) (hn : n ≤ 16) (ha : 1 ≤ a) : grows rows n a x (wid rows n a S) := by
  obtain ⟨h1, h2, h3⟩ := h
  refine ⟨(wid_iff hn h2).2 ⟨h2 x h1, x, h1, near_refl ha⟩, fun j hj => ((wid_iff hn h2).1 hj).1, fun j hj => ?_⟩
  obtain ⟨hjn, i, hi, e⟩ := (wid_iff hn h2).1 hj
  exact wsh_more (fun _ _ => stepP_in) (h3 i hi) (by unfold stepP; simp [hjn, h2 i hi, e])
theorem grows_more {rows : List (List Int)} {n a x : Nat} {S : Nat → Bool} (h : grows rows n a x S) (hn : n ≤ 16) (ha : 1 ≤ a) (hne : bL (wid rows n a S) ≠ bL S) : (lst S 16).length < (lst (wid rows n a S) 16).length := by
  obtain ⟨h1, h2, h3⟩ := h
  have hsub : ∀ j, S j = true → wid rows n a S j = true := fun j hj => (wid_iff hn h2).2 ⟨h2 j hj, j, hj, near_refl ha⟩
  refine filter_lt (fun j _ => hsub j) (Classical.byContradiction fun hno => hne (bL_congr fun j hj => ?_))
  rw [Bool.eq_iff_iff]
  refine ⟨fun e => Classical.byContradiction fun hs => hno ⟨j, List.mem_range.2 hj, by simpa using hs, e⟩, hsub j⟩
theorem grows_end {rows : List (List Int)} {n a x : Nat} {S : Nat → Bool} (h : grows rows n a x S) (hn : n ≤ 16) (he : bL (wid rows n a S) = bL S) : bL S = bL (reachB rows n a x) := by
  obtain ⟨h1, h2, h3⟩ := h
  have hi := bL_inj he
  refine bL_congr fun j _ => wsh_unique h1 (fun i j hs hr => ?_) h3 j
  have hr' := stepP_in hr
  rw [← hi j (by omega)]
  unfold stepP at hr
  simp only [Bool.and_eq_true, decide_eq_true_eq] at hr
  exact (wid_iff hn h2).2 ⟨hr.1.2, i, hs, hr.2⟩

set_option maxRecDepth 100000 in
set_option maxHeartbeats 16000000 in
theorem reached_any (n a : Nat) (c : Int) (f : List Int) (rows : List (List Int)) (hs : small f rows) (hn : n ≤ 16) (ha1 : 1 ≤ a) (ha : a ≤ 3) (x : Nat) (hx : x < n) (w : World) :
    Calls Tryz.prog 191 #[.agg (ints (gL n a f rows c)).toArray, .int .i64 x] w fun e w' => e = .returned (.agg (bL (reachB rows n a x)).toArray) ∧ Below w.heap.size w w' := by
  have KW := Lib.hid (fun p hp W => widened_any n a c f rows hs hn ha p hp W)
  have HL : Hid ((ints (gL n a f rows c)).length = 67) := Lib.hid (by rw [ints_len]; exact gL_len hs)
  have G0 := Lib.hid (grows_0 (rows := rows) (a := a) hx)
  have GW := Lib.hid (fun S h => grows_wid (rows := rows) (n := n) (a := a) (x := x) (S := S) h hn ha1)
  have GM := Lib.hid (fun S h => grows_more (rows := rows) (n := n) (a := a) (x := x) (S := S) h hn ha1)
  have GE := Lib.hid (fun S h => grows_end (rows := rows) (n := n) (a := a) (x := x) (S := S) h hn)
  have hx16 : x < 16 := by omega
  have hx0 : (0 : Int) ≤ (x : Int) := Int.natCast_nonneg _
  have hx16' : (x : Int) < 16 := by omega
  generalize gL n a f rows c = G at *
  clear hs
  go_enter Tryz.func191, Tryz.ntmps191
  go_wp2_with
    (first
      | (refine wpList_allocM (o := ⟨some 4, _, _, _, _, _⟩) rfl 89 rfl (bL (fun _ => false)) Tryz.allocSet ?_
         intro w1 hc1 hb1 hs1
         have C0 : Hid (Cm w1 w.heap.size 85 (ints G)) := Lib.hid (Cm.all (Cm.new rfl) hb1)
         have R0 : Hid (Cm w1 (w.heap.size + 1) 89 (bL (fun _ => false))) := Lib.hid (by simpa using hc1)
         have B0 : Hid (Below w.heap.size w w1) := Lib.hid (Below.trans (by go_grown) (hb1.mono (by simp)))
         have hq1 : w.heap.size + 1 < w1.heap.size := R0.out.lt
         clear hc1 hb1 hs1)
      | (refine wpList_allocM (o := ⟨some 5, _, _, _, _, _⟩) rfl 89 rfl (bL (fun _ => false)) Tryz.allocSet ?_
         intro w3 hc2 hb2 hs2
         have Z0 := Lib.hid hc2
         have C0 := Lib.hid (C0.out.all hb2)
         have R0 := Lib.hid (R0.out.all hb2)
         have B0 : Hid (Below w.heap.size w w3) := Lib.hid (B0.out.trans (hb2.mono B0.out.size))
         have ck := set_store _ hx16 Z0.out
         have fk := Z0.out.frozen x
         clear hc2 hb2 hs2))
  clear ck fk
  have Z1 : Hid (Cm (w3.setCell ⟨w1.heap.size, x, none⟩ (.bool true)) w1.heap.size 89 (bL (upd (fun _ => false) x true))) := Lib.hid (by rw [← bL_set]; exact Z0.out.set x _)
  have C1 := Lib.hid (C0.out.other (b' := w1.heap.size) (by omega) x (.bool true))
  have R1 := Lib.hid (R0.out.other (b' := w1.heap.size) (by omega) x (.bool true))
  have B1 : Hid (Below w.heap.size w (w3.setCell ⟨w1.heap.size, x, none⟩ (.bool true))) := Lib.hid (B0.out.setCell (by show _ ≤ w1.heap.size; omega) _)
  clear Z0 C0 R0 B0
  generalize w3.setCell ⟨w1.heap.size, x, none⟩ (.bool true) = w4 at *
  go_loopg [6] (16 - (lst (upd (fun _ => false) x true) 16).length) (fun g _ wr => ∃ S : Nat → Bool, Hid (grows rows n a x S) ∧ g = 16 - (lst S 16).length ∧ Hid (Cm wr w1.heap.size 89 (bL S)) ∧ Hid (Cm wr (w.heap.size + 1) 89 (bL (fun _ => false))) ∧ Hid (Cm wr w.heap.size 85 (ints G)) ∧ Hid (Below w.heap.size w wr))
  case atStart => exact ⟨_, G0, rfl, Z1, R1, C1, B1⟩
  case round =>
    clear Z1 C1 R1 B1 G0
    obtain ⟨S, GS, hg, ZR, RR, CR, BR⟩ := hrel
    have HG := Lib.hid hg
    clear hg
    have KW' := Lib.hid (KW.out S GS.out.2.1)
    have GS2 := Lib.hid (GW.out S GS.out)
    have GM2 := Lib.hid (GM.out S GS.out)
    have GE2 := Lib.hid (GE.out S GS.out)
    have HLE := lst_len (wid rows n a S) 16
    have HEQ := Lib.hid (fun W b hb => run_set_eq (wid rows n a S) S W b hb)
    generalize wid rows n a S = T at *
    go_wp2_with
      (first
        | (refine wpList_loadM rfl 85 _ rfl w.heap.size 0 rfl 85 (ints G) (ints G) CR.out (fun j _ => by rw [Nat.zero_add]) _ Tryz.underlying85 rfl (by rw [HL.out]; exact Tryz.sizeGrid) ?_)
        | (refine wpList_loadM (o := ⟨some 10, _, _, _, _, _⟩) rfl 89 _ rfl w1.heap.size 0 rfl 89 (bL S) (bL S) ZR.out (fun j _ => by rw [Nat.zero_add]) _ Tryz.underlying89 rfl (by rw [bL_len]; exact Tryz.sizeSet) ?_))
    refine (KW'.out _).mono ?_
    rintro e w5 ⟨rfl, hb5⟩
    have Z5 := Lib.hid (ZR.out.all hb5)
    have R5 := Lib.hid (RR.out.all hb5)
    have C5 := Lib.hid (CR.out.all hb5)
    have B5 := Lib.hid (BR.out.trans (hb5.mono BR.out.size))
    have hq5 : w1.heap.size < w5.heap.size := Z5.out.lt
    clear hb5 ZR RR CR BR
    obtain ⟨q, hq⟩ : ∃ q, q = eqB T S := ⟨_, rfl⟩
    have hEq := Lib.hid (fun W => HEQ.out W q hq)
    have HQ := Lib.hid hq
    clear hq
    cases q with
    | true =>
      have HE := Lib.hid (GE2.out (eqB_iff.1 HQ.out.symm))
      have tk1 : True := trivial
      have tk2 : True := trivial
      have tk3 : True := trivial
      have tk4 : True := trivial
      have tk5 : True := trivial
      have tk6 : True := trivial
      have tk7 : True := trivial
      go_wp2_with
        (first
          | (have _t := tk1; clear _t tk1; refine wpList_allocM (o := ⟨some 6, _, _, _, _, _⟩) rfl 89 rfl (bL (fun _ => false)) Tryz.allocSet ?_
             intro w6 hc6 hb6 hs6
             have T6 := Lib.hid hc6
             have Z6 := Lib.hid (Z5.out.all hb6)
             have R6 := Lib.hid (R5.out.all hb6)
             have B6 := Lib.hid (B5.out.trans (hb6.mono B5.out.size))
             clear hc6 hb6 hs6)
          | (have _t := tk2; clear _t tk2; refine wpList_storeM rfl 89 (.tmp 6) (.tmp 11) rfl w5.heap.size 0 rfl (bL T) rfl 89 _ T6.out (by rw [bL_len, bL_len]; exact Nat.le_refl _) (by rw [bL_len]; exact Tryz.sizeSet) (fun v hv => bL_one hv) ?_
             intro w7 hc7 ha7
             rw [lay'_all (by rw [bL_len, bL_len])] at hc7
             have T7 := Lib.hid hc7
             have Z7 := Lib.hid (ha7.cm Z6.out (by omega))
             have R7 := Lib.hid (ha7.cm R6.out (by omega))
             have B7 : Hid (Below w.heap.size w w7) := Lib.hid (B6.out.trans (ha7.below (by omega)))
             clear hc7 ha7)
          | (have _t := tk3; clear _t tk3; refine wpList_loadM (o := ⟨some 12, _, _, _, _, _⟩) rfl 89 _ rfl w5.heap.size 0 rfl 89 (bL T) (bL T) T7.out (fun j _ => by rw [Nat.zero_add]) _ Tryz.underlying89 rfl (by rw [bL_len]; exact Tryz.sizeSet) ?_)
          | (have _t := tk4; clear _t tk4; refine wpList_loadM (o := ⟨some 13, _, _, _, _, _⟩) rfl 89 _ rfl w1.heap.size 0 rfl 89 (bL S) (bL S) Z7.out (fun j _ => by rw [Nat.zero_add]) _ Tryz.underlying89 rfl (by rw [bL_len]; exact Tryz.sizeSet) ?_)
          | (have _t := tk5; clear _t tk5; refine wpList_eqA rfl 89 (.tmp 12) (.tmp 13) 89 rfl (bL T).toArray (bL S).toArray rfl rfl (by kernel_rfl) _ (hEq.out _) ?_)
          | (have _t := tk6; clear _t tk6; refine wpList_loadM (o := ⟨some 15, _, _, _, _, _⟩) rfl 89 _ rfl w1.heap.size 0 rfl 89 (bL S) (bL S) Z7.out (fun j _ => by rw [Nat.zero_add]) _ Tryz.underlying89 rfl (by rw [bL_len]; exact Tryz.sizeSet) ?_)
          | (have _t := tk7; clear _t tk7; refine wpList_storeM rfl 89 (.tmp 4) (.tmp 15) rfl (w.heap.size + 1) 0 rfl (bL S) rfl 89 _ R7.out (by rw [bL_len, bL_len]; exact Nat.le_refl _) (by rw [bL_len]; exact Tryz.sizeSet) (fun v hv => bL_one hv) ?_
             intro w8 hc8 ha8
             rw [lay'_all (by rw [bL_len, bL_len])] at hc8
             have R8 := Lib.hid hc8
             have B8 : Hid (Below w.heap.size w w8) := Lib.hid (B7.out.trans (ha8.below (by omega)))
             clear hc8 ha8))
      refine bodyPost_ret (results_mid1 Tryz.results191 _ _ (w.heap.size + 1) (bL S) _ rfl R8.out.whole Tryz.underlying89 rfl (by rw [bL_len]; exact Tryz.sizeSet)) rfl ?_
      exact ⟨by rw [HE.out], B8.out⟩
    | false =>
      have HM := GM2.out (fun e => by have h := eqB_iff.2 e; rw [← HQ.out] at h; cases h)
      have tk8 : True := trivial
      have tk9 : True := trivial
      have tk10 : True := trivial
      have tk11 : True := trivial
      have tk12 : True := trivial
      have tk13 : True := trivial
      have tk14 : True := trivial
      go_wp2_with
        (first
          | (have _t := tk8; clear _t tk8; refine wpList_allocM (o := ⟨some 6, _, _, _, _, _⟩) rfl 89 rfl (bL (fun _ => false)) Tryz.allocSet ?_
             intro w6 hc6 hb6 hs6
             have T6 := Lib.hid hc6
             have Z6 := Lib.hid (Z5.out.all hb6)
             have R6 := Lib.hid (R5.out.all hb6)
             have C6 := Lib.hid (C5.out.all hb6)
             have B6 := Lib.hid (B5.out.trans (hb6.mono B5.out.size))
             clear hc6 hb6 hs6)
          | (have _t := tk9; clear _t tk9; refine wpList_storeM rfl 89 (.tmp 6) (.tmp 11) rfl w5.heap.size 0 rfl (bL T) rfl 89 _ T6.out (by rw [bL_len, bL_len]; exact Nat.le_refl _) (by rw [bL_len]; exact Tryz.sizeSet) (fun v hv => bL_one hv) ?_
             intro w7 hc7 ha7
             rw [lay'_all (by rw [bL_len, bL_len])] at hc7
             have T7 := Lib.hid hc7
             have Z7 := Lib.hid (ha7.cm Z6.out (by omega))
             have R7 := Lib.hid (ha7.cm R6.out (by omega))
             have C7 := Lib.hid (ha7.cm C6.out (by omega))
             have B7 : Hid (Below w.heap.size w w7) := Lib.hid (B6.out.trans (ha7.below (by omega)))
             clear hc7 ha7)
          | (have _t := tk10; clear _t tk10; refine wpList_loadM (o := ⟨some 12, _, _, _, _, _⟩) rfl 89 _ rfl w5.heap.size 0 rfl 89 (bL T) (bL T) T7.out (fun j _ => by rw [Nat.zero_add]) _ Tryz.underlying89 rfl (by rw [bL_len]; exact Tryz.sizeSet) ?_)
          | (have _t := tk11; clear _t tk11; refine wpList_loadM (o := ⟨some 13, _, _, _, _, _⟩) rfl 89 _ rfl w1.heap.size 0 rfl 89 (bL S) (bL S) Z7.out (fun j _ => by rw [Nat.zero_add]) _ Tryz.underlying89 rfl (by rw [bL_len]; exact Tryz.sizeSet) ?_)
          | (have _t := tk12; clear _t tk12; refine wpList_eqA rfl 89 (.tmp 12) (.tmp 13) 89 rfl (bL T).toArray (bL S).toArray rfl rfl (by kernel_rfl) _ (hEq.out _) ?_)
          | (have _t := tk13; clear _t tk13; refine wpList_loadM (o := ⟨some 16, _, _, _, _, _⟩) rfl 89 _ rfl w5.heap.size 0 rfl 89 (bL T) (bL T) T7.out (fun j _ => by rw [Nat.zero_add]) _ Tryz.underlying89 rfl (by rw [bL_len]; exact Tryz.sizeSet) ?_)
          | (have _t := tk14; clear _t tk14; refine wpList_storeM rfl 89 (.tmp 5) (.tmp 16) rfl w1.heap.size 0 rfl (bL T) rfl 89 _ Z7.out (by rw [bL_len, bL_len]; exact Nat.le_refl _) (by rw [bL_len]; exact Tryz.sizeSet) (fun v hv => bL_one hv) ?_
             intro w8 hc8 ha8
             rw [lay'_all (by rw [bL_len, bL_len])] at hc8
             have Z8 := Lib.hid hc8
             have R8 := Lib.hid (ha8.cm R7.out (by omega))
             have C8 := Lib.hid (ha8.cm C7.out (by omega))
             have B8 : Hid (Below w.heap.size w w8) := Lib.hid (B7.out.trans (ha8.below (by omega)))
             clear hc8 ha8))
      go_roundg (16 - (lst T 16).length)
      case measure => rw [HG.out]; omega
      case rel => exact ⟨T, GS2, rfl, Z8, R8, C8, B8⟩
end Go.Proofs.YtodjohdbngbpaaaGreat

/-
  Calls of function values; contracts of grid.where, worldSet.isWithin, grid.others, grid.block, grid.near. Condition: the grid's lists are small.
-/
namespace Go.Proofs.YtodjohdbngbpaaaGreat
open Go.RowKit Go.WideShapes
open Go Go.Deep
set_option linter.unusedSimpArgs false

/-- in every world that keeps what w has, the function k with what it has captured tells of each world below n whether it is in q -/
def Test (w : World) (k : FuncId) (caps : Array Value) (n : Nat) (q : Nat → Bool) : Prop :=
  Enters Tryz.prog k ∧ ∀ i, i < n → ∀ W, Below w.heap.size w W → Calls Tryz.prog k (#[.int .i64 i] ++ caps) W fun e W' => e = .returned (.bool (q i)) ∧ Below W.heap.size W W'
/-- the worlds below n of a set -/
def cut (n : Nat) (q : Nat → Bool) : Nat → Bool := fun i => decide (i < n) && q i
def cutK (n k : Nat) (q : Nat → Bool) : Nat → Bool := fun i => decide (i < n) && (decide (i < k) && q i)
theorem cutK_upd {n k : Nat} {q : Nat → Bool} (h : k < n) : upd (cutK n k q) k (q k) = cutK n (k + 1) q := by
  funext j
  unfold upd cutK
  by_cases e : j = k
  · subst e; simp [h]
  · rw [if_neg e]
    have : decide (j < k + 1) = decide (j < k) := by rw [decide_eq_decide]; omega
    rw [this]
theorem cutK_end {n : Nat} {q : Nat → Bool} : cutK n n q = cut n q := by
  funext j; unfold cutK cut; by_cases h : j < n <;> simp [h]

set_option maxRecDepth 100000 in
set_option maxHeartbeats 16000000 in
theorem where_any (n : Nat) (a c : Int) (f : List Int) (rows : List (List Int)) (hs : small f rows) (hn : n ≤ 16) (k : FuncId) (caps : Array Value) (q : Nat → Bool) (w : World) (ht : Test w k caps n q) :
    Calls Tryz.prog 176 #[.agg (ints (gL n a f rows c)).toArray, .func (.func k) #[] caps] w fun e w' => e = .returned (.agg (bL (cut n q)).toArray) ∧ Below w.heap.size w w' := by
  have HL : Hid ((ints (gL n a f rows c)).length = 67) := Lib.hid (by rw [ints_len]; exact gL_len hs)
  have HC : Hid (∀ (W : World) b T, Cm W b T (ints (gL n a f rows c)) → W.cell? ⟨b, 0, none⟩ = some (.int .i64 n)) := Lib.hid (fun W b T h => h.g0)
  have HZ : Hid (bL (fun _ => false) = bL (cutK n 0 q)) := Lib.hid (bL_congr fun i _ => by simp [cutK])
  have HE := Lib.hid ht.1
  have HT := Lib.hid ht.2
  generalize gL n a f rows c = G at *
  clear hs ht
  have hz := cutK_end (n := n) (q := q)
  rw [← hz]
  clear hz
  go_enter Tryz.func176, Tryz.ntmps176
  have tk1 : True := trivial
  have tk2 : True := trivial
  go_wp2_with
    (first
      | (have _t := tk1; clear _t tk1; refine wpList_allocM rfl 89 rfl (bL (fun _ => false)) Tryz.allocSet ?_
         intro w1 hc1 hb1 hs1
         have C0 : Hid (Cm w1 w.heap.size 85 (ints G)) := Lib.hid (Cm.all (Cm.new rfl) hb1)
         have R0 : Hid (Cm w1 (w.heap.size + 1) 89 (bL (fun _ => false))) := Lib.hid (by simpa using hc1)
         have B0 : Hid (Below w.heap.size w w1) := Lib.hid (Below.trans (by go_grown) (hb1.mono (by simp)))
         have hq1 : w.heap.size + 1 < w1.heap.size := R0.out.lt
         clear hc1 hb1 hs1)
      | (have _t := tk2; clear _t tk2; refine wpList_allocM rfl 89 rfl (bL (fun _ => false)) Tryz.allocSet ?_
         intro w3 hc2 hb2 hs2
         rw [HZ.out] at hc2
         have Z0 := Lib.hid hc2
         have C0 := Lib.hid (C0.out.all hb2)
         have R0 := Lib.hid (R0.out.all hb2)
         have B0 : Hid (Below w.heap.size w w3) := Lib.hid (B0.out.trans (hb2.mono B0.out.size))
         have g0 := HC.out _ _ _ C0.out
         clear hc2 hb2 hs2 HZ))
  clear g0
  go_loopw [9] (fun iv wr => ∃ j : Nat, j ≤ n ∧ iv = .int .i64 j ∧ Hid (Cm wr w1.heap.size 89 (bL (cutK n j q))) ∧ Hid (Cm wr (w.heap.size + 1) 89 (bL (fun _ => false))) ∧ Hid (Below w.heap.size w wr)) (fun iv _ => n - (intOf iv).toNat)
  case atStart => exact ⟨0, Nat.zero_le _, rfl, Z0, R0, B0⟩
  case round =>
    clear Z0 C0 R0 B0
    obtain ⟨j, hj, rfl, ZR, RR, BR⟩ := hrel
    by_cases hlt : j < n
    · have hj16 : j < 16 := by omega
      have hj0 : (0 : Int) ≤ (j : Int) := Int.natCast_nonneg _
      have hj16' : (j : Int) < 16 := by omega
      have HUP := Lib.hid (cutK_upd (q := q) hlt)
      have KT := Lib.hid (HT.out j hlt)
      have hent : ∀ args w, (callFunc k args).run Tryz.prog w = .ok (.enter k args) w := HE.out
      have tk3 : True := trivial
      go_wp2_with
        (first
          | (have _t := tk3; clear _t tk3; with_reducible refine (KT.out _ BR.out).mono ?_
             rintro e w5 ⟨rfl, hb5⟩
             have ZR := Lib.hid (ZR.out.all hb5)
             have RR := Lib.hid (RR.out.all hb5)
             have BR : Hid (Below w.heap.size w w5) := Lib.hid (BR.out.trans (hb5.mono BR.out.size))
             have ck := set_store _ hj16 ZR.out
             have fk := ZR.out.frozen j
             clear hb5))
      clear ck fk
      go_roundw
      case rel => exact ⟨j + 1, by omega, by go_num, Lib.hid (by rw [← HUP.out, ← bL_set]; exact ZR.out.set j _), Lib.hid (RR.out.other (by omega) _ _), Lib.hid (BR.out.setCell (by show _ ≤ w1.heap.size; omega) _)⟩
      case measure => simp [intOf]; omega
    · obtain rfl : j = n := by omega
      obtain ⟨PF, hPF⟩ : ∃ PF, PF = cutK j j q := ⟨_, rfl⟩
      rw [← hPF] at ZR
      have HPF := Lib.hid hPF
      clear hPF
      have tk4 : True := trivial
      have tk5 : True := trivial
      go_wp2_with
        (first
          | (have _t := tk4; clear _t tk4; refine wpList_loadM rfl 89 _ rfl w1.heap.size 0 rfl 89 (bL PF) (bL PF) ZR.out (fun j _ => by rw [Nat.zero_add]) _ Tryz.underlying89 rfl (by rw [bL_len]; exact Tryz.sizeSet) ?_)
          | (have _t := tk5; clear _t tk5; refine wpList_storeM rfl 89 (.tmp 4) (.tmp 18) rfl (w.heap.size + 1) 0 rfl (bL PF) rfl 89 _ RR.out (by rw [bL_len, bL_len]; exact Nat.le_refl _) (by rw [bL_len]; exact Tryz.sizeSet) (fun v hv => bL_one hv) ?_
             intro w5 hc5 ha5
             rw [lay'_all (by rw [bL_len, bL_len])] at hc5
             have R5 := Lib.hid hc5
             have B5 : Hid (Below w.heap.size w w5) := Lib.hid (BR.out.trans (ha5.below (by omega)))
             clear hc5 ha5))
      refine bodyPost_ret (results_mid1 Tryz.results176 _ _ (w.heap.size + 1) (bL PF) _ rfl R5.out.whole Tryz.underlying89 rfl (by rw [bL_len]; exact Tryz.sizeSet)) rfl ?_
      exact ⟨by rw [HPF.out], B5.out⟩
end Go.Proofs.YtodjohdbngbpaaaGreat

/-
  Contracts of worldSet.isWithin, grid.others, grid.block, grid.near. Condition: the grid's lists are small.
-/
namespace Go.Proofs.YtodjohdbngbpaaaGreat
open Go.RowKit Go.WideShapes
open Go Go.Deep
set_option linter.unusedSimpArgs false

/-- all of p lies in q -/
def subB (p q : Nat → Bool) : Bool := (List.range 16).all fun i => !p i || q i
theorem subB_no {p q : Nat → Bool} {k : Nat} (hk : k < 16) (h1 : p k = true) (h2 : q k = false) : subB p q = false := by
  unfold subB; rw [List.all_eq_false]
  exact ⟨k, List.mem_range.2 hk, by rw [h1, h2]; decide⟩
theorem subB_yes {p q : Nat → Bool} (h : ∀ i, i < 16 → p i = true → q i = true) : subB p q = true := by
  unfold subB; rw [List.all_eq_true]
  intro i hi
  have := h i (List.mem_range.1 hi)
  cases hp : p i with
  | false => rfl
  | true => rw [this hp]; rfl

set_option maxRecDepth 100000 in
set_option maxHeartbeats 8000000 in
theorem isWithin_any (p q : Nat → Bool) (w : World) :
    Calls Tryz.prog 189 #[.agg (bL p).toArray, .agg (bL q).toArray] w fun e w' => e = .returned (.bool (subB p q)) ∧ Below w.heap.size w w' := by
  obtain ⟨i0, hi, _, hi1, _⟩ := info_parts Tryz.infoB
  have HX := Lib.hid (fun k (h : k < 16) => bL_get p h)
  have HL := Lib.hid (bL_len p)
  have HQ : Hid (∀ k, k < 16 → ∀ (W : World) b T, Cm W b T (bL q) → W.cell? ⟨b, k, none⟩ = some (.bool (q k))) := Lib.hid (fun k h W b T hc => set_store q h hc)
  generalize bL p = V at *
  generalize hU : bL q = U at *
  clear hU
  obtain ⟨R, hR⟩ : ∃ R, R = subB p q := ⟨_, rfl⟩
  rw [← hR]
  have HR := Lib.hid hR
  clear hR
  go_enter Tryz.func189, Tryz.ntmps189
  go_wp2_with (refine wpList_loadM rfl 89 _ rfl w.heap.size 0 rfl 89 V V ((Cm.new rfl).alloc _) (fun j _ => by rw [Nat.zero_add]) _ Tryz.underlying89 rfl (by rw [HL.out]; exact Tryz.sizeSet) ?_)
  have b1 : Below w.heap.size w ((w.alloc (.cells V.toArray 89)).alloc (.cells U.toArray 89)) := by go_grown
  have u1 : Cm ((w.alloc (.cells V.toArray 89)).alloc (.cells U.toArray 89)) (w.heap.size + 1) 89 U := Cm.new (by simp)
  generalize (w.alloc (.cells V.toArray 89)).alloc (.cells U.toArray 89) = w1 at *
  have B1 := Lib.hid b1
  have U1 := Lib.hid u1
  clear b1 u1
  go_loop [8] (fun iv => ∃ k : Nat, k ≤ 16 ∧ iv = .int .i64 k ∧ Hid (∀ i, i < k → p i = true → q i = true)) (fun iv => 16 - (intOf iv).toNat)
  case atStart => exact ⟨0, Nat.zero_le _, rfl, Lib.hid (fun i hi => by omega)⟩
  case round =>
    obtain ⟨k, hk, rfl, HK⟩ := hrel
    by_cases hlt : k < 16
    · have HKP := Lib.hid (HX.out k hlt)
      have cq := HQ.out k hlt _ _ _ U1.out
      have hk0 : (0 : Int) ≤ (k : Int) := Int.natCast_nonneg _
      have hk16 : (k : Int) < 16 := by omega
      obtain ⟨x, hx⟩ : ∃ b, b = p k := ⟨_, rfl⟩
      obtain ⟨y, hy⟩ : ∃ b, b = q k := ⟨_, rfl⟩
      rw [← hx] at HKP
      rw [← hy] at cq
      have HN : Hid (y = true ∨ x = false → ∀ i, i < k + 1 → p i = true → q i = true) := Lib.hid (fun h i hi e => by
        rcases Nat.lt_or_eq_of_le (Nat.le_of_lt_succ hi) with h1 | h1
        · exact HK.out i h1 e
        · subst h1
          rcases h with h | h
          · rw [← hy, h]
          · rw [← hx, h] at e; cases e)
      have HF : Hid (x = true → y = false → R = false) := Lib.hid (fun h1 h2 => by rw [HR.out]; exact subB_no hlt (by rw [← hx, h1]) (by rw [← hy, h2]))
      clear hx hy
      cases x with
      | false =>
        go_wp2_with (refine wpList_indexM rfl 89 (.tmp 7) (.tmp 8) rfl V rfl .i64 k rfl 16 4 Tryz.underlying89 (by kernel_rfl) i0 hi hi1 hlt _ HKP.out ?_)
        go_round
        case rel => exact ⟨k + 1, by omega, by go_num, Lib.hid (HN.out (.inr rfl))⟩
        case measure => simp [intOf]; omega
      | true =>
        cases y with
        | true =>
          go_wp2_with (refine wpList_indexM rfl 89 (.tmp 7) (.tmp 8) rfl V rfl .i64 k rfl 16 4 Tryz.underlying89 (by kernel_rfl) i0 hi hi1 hlt _ HKP.out ?_)
          go_round
          case rel => exact ⟨k + 1, by omega, by go_num, Lib.hid (HN.out (.inl rfl))⟩
          case measure => simp [intOf]; omega
        | false =>
          have HF' := Lib.hid (HF.out rfl rfl)
          go_wp2_with (refine wpList_indexM rfl 89 (.tmp 7) (.tmp 8) rfl V rfl .i64 k rfl 16 4 Tryz.underlying89 (by kernel_rfl) i0 hi hi1 hlt _ HKP.out ?_)
          go_ret
          exact ⟨ret_bool HF'.out.symm, B1.out⟩
    · obtain rfl : k = 16 := by omega
      go_wp2
      go_ret
      exact ⟨ret_bool (by rw [HR.out, subB_yes HK.out]), B1.out⟩

set_option maxRecDepth 100000 in
set_option maxHeartbeats 2000000 in
theorem others_test (w : World) (b : Nat) (p : Nat → Bool) (n : Nat) (hn : n ≤ 16) (hc : Cm w b 89 (bL p)) : Test w 195 #[.pointer (some ⟨b, 0, none⟩)] n (fun i => !p i) := by
  refine ⟨enters_of Tryz.func195 (by kernel_rfl) rfl, fun i hi W hW => ?_⟩
  show Calls Tryz.prog 195 #[.int .i64 i, .pointer (some ⟨b, 0, none⟩)] W _
  have ck := set_store p (show i < 16 by omega) (hc.all hW)
  have hi0 : (0 : Int) ≤ (i : Int) := Int.natCast_nonneg _
  have hi16 : (i : Int) < 16 := by omega
  generalize hx : p i = x at *
  have HX := Lib.hid hx
  clear hc hW hx
  go_enter Tryz.func195, Tryz.ntmps195
  go_wp2
  go_ret
  exact ⟨ret_bool (by rw [HX.out]), Below.refl _ _⟩
set_option maxRecDepth 100000 in
set_option maxHeartbeats 8000000 in
theorem others_any (n : Nat) (a c : Int) (f : List Int) (rows : List (List Int)) (hs : small f rows) (hn : n ≤ 16) (p : Nat → Bool) (w : World) :
    Calls Tryz.prog 181 #[.agg (ints (gL n a f rows c)).toArray, .agg (bL p).toArray] w fun e w' => e = .returned (.agg (bL (cut n fun i => !p i)).toArray) ∧ Below w.heap.size w w' := by
  have HL : Hid ((ints (gL n a f rows c)).length = 67) := Lib.hid (by rw [ints_len]; exact gL_len hs)
  have KW := Lib.hid (fun caps W h => where_any n a c f rows hs hn 195 caps (fun i => !p i) W h)
  have KT := Lib.hid (fun W b hc => others_test W b p n hn hc)
  have hmf : ∀ (fn : Fn) (first cap : Array Value) (w : World), (Instr.makeFunc fn first cap).run Tryz.prog w = .ok (.func fn first cap) w := fun _ _ _ _ => rfl
  generalize gL n a f rows c = G at *
  obtain ⟨PF, hPF⟩ : ∃ PF, PF = cut n fun i => !p i := ⟨_, rfl⟩
  rw [← hPF] at KW ⊢
  clear hs hPF
  go_enter Tryz.func181, Tryz.ntmps181
  have tk1 : True := trivial
  have tk2 : True := trivial
  have tk3 : True := trivial
  have tk4 : True := trivial
  go_wp2_with
    (first
      | (have _t := tk1; clear _t tk1; refine wpList_allocM rfl 89 rfl (bL (fun _ => false)) Tryz.allocSet ?_
         intro w1 hc1 hb1 hs1
         have C0 : Hid (Cm w1 w.heap.size 85 (ints G)) := Lib.hid (Cm.all ((Cm.new rfl).alloc _) hb1)
         have S0 : Hid (Cm w1 (w.heap.size + 1) 89 (bL p)) := Lib.hid (Cm.all (Cm.new (by simp)) hb1)
         have R0 : Hid (Cm w1 (w.heap.size + 1 + 1) 89 (bL (fun _ => false))) := Lib.hid (by simpa using hc1)
         have B0 : Hid (Below w.heap.size w w1) := Lib.hid (Below.trans (by go_grown) (hb1.mono (by simp; omega)))
         clear hc1 hb1 hs1)
      | (have _t := tk2; clear _t tk2; refine wpList_loadM rfl 85 _ rfl w.heap.size 0 rfl 85 (ints G) (ints G) C0.out (fun j _ => by rw [Nat.zero_add]) _ Tryz.underlying85 rfl (by rw [HL.out]; exact Tryz.sizeGrid) ?_)
      | (have _t := tk3; clear _t tk3; go_at_call 176; (with_reducible refine (KW.out _ _ (KT.out _ _ S0.out)).mono ?_); rintro e w2 ⟨rfl, hb2⟩; have R2 := Lib.hid (R0.out.all hb2); have B2 := Lib.hid (B0.out.trans (hb2.mono B0.out.size)); clear hb2)
      | (have _t := tk4; clear _t tk4; refine wpList_storeM rfl 89 (.tmp 4) (.tmp 7) rfl (w.heap.size + 1 + 1) 0 rfl (bL PF) rfl 89 _ R2.out (by rw [bL_len, bL_len]; exact Nat.le_refl _) (by rw [bL_len]; exact Tryz.sizeSet) (fun v hv => bL_one hv) ?_
         intro w5 hc5 ha5
         rw [lay'_all (by rw [bL_len, bL_len])] at hc5
         have R5 := Lib.hid hc5
         have B5 : Hid (Below w.heap.size w w5) := Lib.hid (B2.out.trans (ha5.below (by omega)))
         clear hc5 ha5))
  refine bodyPost_ret (results_mid1 Tryz.results181 _ _ (w.heap.size + 1 + 1) (bL PF) _ rfl R5.out.whole Tryz.underlying89 rfl (by rw [bL_len]; exact Tryz.sizeSet)) rfl ?_
  exact ⟨rfl, B5.out⟩

/-- a cell of its own -/
theorem Cm.one {w : World} {b : Nat} {T : TypeId} {v : Value} (h : Cm w b T [v]) : w.cell? ⟨b, 0, none⟩ = some v := h.cell 0
set_option maxRecDepth 100000 in
set_option maxHeartbeats 4000000 in
theorem block_test (w : World) (bg ba bi : Nat) (n : Nat) (a c : Int) (f : List Int) (rows : List (List Int)) (hs : small f rows) (hn : n ≤ 16) (k i : Nat) (hk : k < 3) (hi : i < 16)
    (hg : Cm w bg 85 (ints (gL n a f rows c))) (ha : Cm w ba 3 [.int .i64 k]) (hb : Cm w bi 3 [.int .i64 i]) :
    Test w 198 #[.pointer (some ⟨bg, 0, none⟩), .pointer (some ⟨ba, 0, none⟩), .pointer (some ⟨bi, 0, none⟩)] n (fun j => (rows.getD k []).getD i 0 == (rows.getD k []).getD j 0) := by
  refine ⟨enters_of Tryz.func198 (by kernel_rfl) rfl, fun j hj W hW => ?_⟩
  show Calls Tryz.prog 198 #[.int .i64 j, .pointer (some ⟨bg, 0, none⟩), .pointer (some ⟨ba, 0, none⟩), .pointer (some ⟨bi, 0, none⟩)] W _
  have KC := Lib.hid (fun W => confuses_any n a c f rows hs k i j hk hi (by omega) W)
  have HL : Hid ((ints (gL n a f rows c)).length = 67) := Lib.hid (by rw [ints_len]; exact gL_len hs)
  have CG := Lib.hid (hg.all hW)
  have c1 := (ha.all hW).one
  have c2 := (hb.all hW).one
  generalize gL n a f rows c = G at *
  generalize hR : ((rows.getD k []).getD i 0 == (rows.getD k []).getD j 0) = R at *
  have HR := Lib.hid hR
  clear hs hg ha hb hW hR
  go_enter Tryz.func198, Tryz.ntmps198
  have tk5 : True := trivial
  have tk6 : True := trivial
  go_wp2_with
    (first
      | (have _t := tk5; clear _t tk5; refine wpList_loadM rfl 85 _ rfl bg 0 rfl 85 (ints G) (ints G) CG.out (fun j _ => by rw [Nat.zero_add]) _ Tryz.underlying85 rfl (by rw [HL.out]; exact Tryz.sizeGrid) ?_)
      | (have _t := tk6; clear _t tk6; go_at_call 199; (with_reducible refine (KC.out _).mono ?_); rintro e w2 ⟨rfl, hb2⟩; have B2 := Lib.hid hb2; clear hb2 c1 c2))
  go_ret
  exact ⟨ret_bool (by rw [HR.out]), B2.out⟩
set_option maxRecDepth 100000 in
set_option maxHeartbeats 4000000 in
theorem near_test (w : World) (bg bi : Nat) (n a : Nat) (c : Int) (f : List Int) (rows : List (List Int)) (hs : small f rows) (hn : n ≤ 16) (ha : a ≤ 3) (i : Nat) (hi : i < 16)
    (hg : Cm w bg 85 (ints (gL n a f rows c))) (hb : Cm w bi 3 [.int .i64 i]) :
    Test w 200 #[.pointer (some ⟨bg, 0, none⟩), .pointer (some ⟨bi, 0, none⟩)] n (fun j => near rows a i j) := by
  refine ⟨enters_of Tryz.func200 (by kernel_rfl) rfl, fun j hj W hW => ?_⟩
  show Calls Tryz.prog 200 #[.int .i64 j, .pointer (some ⟨bg, 0, none⟩), .pointer (some ⟨bi, 0, none⟩)] W _
  have KC := Lib.hid (fun W => isNear_any n c a f rows hs i j ha hi (by omega) W)
  have HL : Hid ((ints (gL n a f rows c)).length = 67) := Lib.hid (by rw [ints_len]; exact gL_len hs)
  have CG := Lib.hid (hg.all hW)
  have c2 := (hb.all hW).one
  generalize gL n a f rows c = G at *
  generalize hR : near rows a i j = R at *
  have HR := Lib.hid hR
  clear hs hg hb hW hR
  go_enter Tryz.func200, Tryz.ntmps200
  have tk7 : True := trivial
  have tk8 : True := trivial
  go_wp2_with
    (first
      | (have _t := tk7; clear _t tk7; refine wpList_loadM rfl 85 _ rfl bg 0 rfl 85 (ints G) (ints G) CG.out (fun j _ => by rw [Nat.zero_add]) _ Tryz.underlying85 rfl (by rw [HL.out]; exact Tryz.sizeGrid) ?_)
      | (have _t := tk8; clear _t tk8; go_at_call 201; (with_reducible refine (KC.out _).mono ?_); rintro e w2 ⟨rfl, hb2⟩; have B2 := Lib.hid hb2; clear hb2 c2))
  go_ret
  exact ⟨ret_bool (by rw [HR.out]), B2.out⟩
/-- the block of i for an agent; the worlds near to i -/
def blkB (rows : List (List Int)) (n k i : Nat) : Nat → Bool := cut n fun j => (rows.getD k []).getD i 0 == (rows.getD k []).getD j 0
def nearB (rows : List (List Int)) (n a i : Nat) : Nat → Bool := cut n fun j => near rows a i j
set_option maxRecDepth 100000 in
set_option maxHeartbeats 8000000 in
theorem block_any (n : Nat) (a c : Int) (f : List Int) (rows : List (List Int)) (hs : small f rows) (hn : n ≤ 16) (k i : Nat) (hk : k < 3) (hi : i < 16) (w : World) :
    Calls Tryz.prog 186 #[.agg (ints (gL n a f rows c)).toArray, .int .i64 k, .int .i64 i] w fun e w' => e = .returned (.agg (bL (blkB rows n k i)).toArray) ∧ Below w.heap.size w w' := by
  have HL : Hid ((ints (gL n a f rows c)).length = 67) := Lib.hid (by rw [ints_len]; exact gL_len hs)
  have KW := Lib.hid (fun caps W h => where_any n a c f rows hs hn 198 caps (fun j => (rows.getD k []).getD i 0 == (rows.getD k []).getD j 0) W h)
  have KT := Lib.hid (fun W bg ba bi h1 h2 h3 => block_test W bg ba bi n a c f rows hs hn k i hk hi h1 h2 h3)
  have hmf : ∀ (fn : Fn) (first cap : Array Value) (w : World), (Instr.makeFunc fn first cap).run Tryz.prog w = .ok (.func fn first cap) w := fun _ _ _ _ => rfl
  unfold blkB
  generalize gL n a f rows c = G at *
  obtain ⟨PF, hPF⟩ : ∃ PF, PF = cut n fun j => (rows.getD k []).getD i 0 == (rows.getD k []).getD j 0 := ⟨_, rfl⟩
  rw [← hPF] at KW ⊢
  clear hs hPF
  go_enter Tryz.func186, Tryz.ntmps186
  have tk9 : True := trivial
  have tk10 : True := trivial
  have tk11 : True := trivial
  have tk12 : True := trivial
  go_wp2_with
    (first
      | (have _t := tk9; clear _t tk9; refine wpList_allocM rfl 89 rfl (bL (fun _ => false)) Tryz.allocSet ?_
         intro w1 hc1 hb1 hs1
         have C0 : Hid (Cm w1 w.heap.size 85 (ints G)) := Lib.hid (Cm.all (((Cm.new rfl).alloc _).alloc _) hb1)
         have S0 : Hid (Cm w1 (w.heap.size + 1) 3 [.int .i64 k]) := Lib.hid (Cm.all ((Cm.new (by simp)).alloc _) hb1)
         have T0 : Hid (Cm w1 (w.heap.size + 1 + 1) 3 [.int .i64 i]) := Lib.hid (Cm.all (Cm.new (by simp)) hb1)
         have R0 : Hid (Cm w1 (w.heap.size + 1 + 1 + 1) 89 (bL (fun _ => false))) := Lib.hid (by simpa using hc1)
         have B0 : Hid (Below w.heap.size w w1) := Lib.hid (Below.trans (by go_grown) (hb1.mono (by simp; omega)))
         clear hc1 hb1 hs1)
      | (have _t := tk10; clear _t tk10; refine wpList_loadM rfl 85 _ rfl w.heap.size 0 rfl 85 (ints G) (ints G) C0.out (fun j _ => by rw [Nat.zero_add]) _ Tryz.underlying85 rfl (by rw [HL.out]; exact Tryz.sizeGrid) ?_)
      | (have _t := tk11; clear _t tk11; go_at_call 176; (with_reducible refine (KW.out _ _ (KT.out _ _ _ _ C0.out S0.out T0.out)).mono ?_); rintro e w2 ⟨rfl, hb2⟩; have R2 := Lib.hid (R0.out.all hb2); have B2 := Lib.hid (B0.out.trans (hb2.mono B0.out.size)); clear hb2)
      | (have _t := tk12; clear _t tk12; refine wpList_storeM rfl 89 (.tmp 6) (.tmp 9) rfl (w.heap.size + 1 + 1 + 1) 0 rfl (bL PF) rfl 89 _ R2.out (by rw [bL_len, bL_len]; exact Nat.le_refl _) (by rw [bL_len]; exact Tryz.sizeSet) (fun v hv => bL_one hv) ?_
         intro w5 hc5 ha5
         rw [lay'_all (by rw [bL_len, bL_len])] at hc5
         have R5 := Lib.hid hc5
         have B5 : Hid (Below w.heap.size w w5) := Lib.hid (B2.out.trans (ha5.below (by omega)))
         clear hc5 ha5))
  refine bodyPost_ret (results_mid1 Tryz.results186 _ _ (w.heap.size + 1 + 1 + 1) (bL PF) _ rfl R5.out.whole Tryz.underlying89 rfl (by rw [bL_len]; exact Tryz.sizeSet)) rfl ?_
  exact ⟨rfl, B5.out⟩
set_option maxRecDepth 100000 in
set_option maxHeartbeats 8000000 in
theorem near_any (n a : Nat) (c : Int) (f : List Int) (rows : List (List Int)) (hs : small f rows) (hn : n ≤ 16) (ha : a ≤ 3) (i : Nat) (hi : i < 16) (w : World) :
    Calls Tryz.prog 190 #[.agg (ints (gL n a f rows c)).toArray, .int .i64 i] w fun e w' => e = .returned (.agg (bL (nearB rows n a i)).toArray) ∧ Below w.heap.size w w' := by
  have HL : Hid ((ints (gL n a f rows c)).length = 67) := Lib.hid (by rw [ints_len]; exact gL_len hs)
  have KW := Lib.hid (fun caps W h => where_any n a c f rows hs hn 200 caps (fun j => near rows a i j) W h)
  have KT := Lib.hid (fun W bg bi h1 h3 => near_test W bg bi n a c f rows hs hn ha i hi h1 h3)
  have hmf : ∀ (fn : Fn) (first cap : Array Value) (w : World), (Instr.makeFunc fn first cap).run Tryz.prog w = .ok (.func fn first cap) w := fun _ _ _ _ => rfl
  unfold nearB
  generalize gL n a f rows c = G at *
  obtain ⟨PF, hPF⟩ : ∃ PF, PF = cut n fun j => near rows a i j := ⟨_, rfl⟩
  rw [← hPF] at KW ⊢
  clear hs hPF
  go_enter Tryz.func190, Tryz.ntmps190
  have tk13 : True := trivial
  have tk14 : True := trivial
  have tk15 : True := trivial
  have tk16 : True := trivial
  go_wp2_with
    (first
      | (have _t := tk13; clear _t tk13; refine wpList_allocM rfl 89 rfl (bL (fun _ => false)) Tryz.allocSet ?_
         intro w1 hc1 hb1 hs1
         have C0 : Hid (Cm w1 w.heap.size 85 (ints G)) := Lib.hid (Cm.all ((Cm.new rfl).alloc _) hb1)
         have T0 : Hid (Cm w1 (w.heap.size + 1) 3 [.int .i64 i]) := Lib.hid (Cm.all (Cm.new (by simp)) hb1)
         have R0 : Hid (Cm w1 (w.heap.size + 1 + 1) 89 (bL (fun _ => false))) := Lib.hid (by simpa using hc1)
         have B0 : Hid (Below w.heap.size w w1) := Lib.hid (Below.trans (by go_grown) (hb1.mono (by simp; omega)))
         clear hc1 hb1 hs1)
      | (have _t := tk14; clear _t tk14; refine wpList_loadM rfl 85 _ rfl w.heap.size 0 rfl 85 (ints G) (ints G) C0.out (fun j _ => by rw [Nat.zero_add]) _ Tryz.underlying85 rfl (by rw [HL.out]; exact Tryz.sizeGrid) ?_)
      | (have _t := tk15; clear _t tk15; go_at_call 176; (with_reducible refine (KW.out _ _ (KT.out _ _ _ C0.out T0.out)).mono ?_); rintro e w2 ⟨rfl, hb2⟩; have R2 := Lib.hid (R0.out.all hb2); have B2 := Lib.hid (B0.out.trans (hb2.mono B0.out.size)); clear hb2)
      | (have _t := tk16; clear _t tk16; refine wpList_storeM rfl 89 (.tmp 4) (.tmp 7) rfl (w.heap.size + 1 + 1) 0 rfl (bL PF) rfl 89 _ R2.out (by rw [bL_len, bL_len]; exact Nat.le_refl _) (by rw [bL_len]; exact Tryz.sizeSet) (fun v hv => bL_one hv) ?_
         intro w5 hc5 ha5
         rw [lay'_all (by rw [bL_len, bL_len])] at hc5
         have R5 := Lib.hid hc5
         have B5 : Hid (Below w.heap.size w w5) := Lib.hid (B2.out.trans (ha5.below (by omega)))
         clear hc5 ha5))
  refine bodyPost_ret (results_mid1 Tryz.results190 _ _ (w.heap.size + 1 + 1) (bL PF) _ rfl R5.out.whole Tryz.underlying89 rfl (by rw [bL_len]; exact Tryz.sizeSet)) rfl ?_
  exact ⟨rfl, B5.out⟩
end Go.Proofs.YtodjohdbngbpaaaGreat

/-
  Contract of impl.ReachedFrom. No condition.
-/
namespace Go.Proofs.YtodjohdbngbpaaaGreat
open Go.RowKit Go.WideShapes
open Go Go.Deep
set_option linter.unusedSimpArgs false

end Go.Proofs.YtodjohdbngbpaaaGreat
