/-
  Contract of grid.reached. Condition: the grid's lists are small, it has an agent and the world.
-/
import Derived.Test.YtegmoojjffkacaaWid
import Derived.Deep.LoopGhost
namespace Go.Proofs.Ytegmoojjffkacaa
open Go.RowKit Go.WideShapes
open Go Go.Deep
set_option linter.unusedSimpArgs false

def boolEq : Value → Value → Bool
  | .bool x, .bool y => x == y
  | _, _ => false
/-- two sets have the same worlds -/
def eqB (p q : Nat → Bool) : Bool := (List.range 16).all fun i => p i == q i
theorem eqB_iff {p q : Nat → Bool} : eqB p q = true ↔ bL p = bL q := by
  unfold eqB
  rw [List.all_eq_true]
  exact ⟨fun h => bL_congr fun i hi => by simpa using h i (List.mem_range.2 hi), fun h i hi => by simpa using bL_inj h i (List.mem_range.1 hi)⟩
theorem run_set_eq (p q : Nat → Bool) (w : World) (b : Bool) (hb : b = eqB p q) :
    (Op.equalIn 10000 83 (.agg (bL p).toArray) (.agg (bL q).toArray)).run Try.prog w = .ok b w := by
  obtain ⟨i0, hi, _⟩ := info_parts Try.infoB
  obtain ⟨r, hr, hiff⟩ := equalIn_arr (P := Try.prog) 9999 (bL p) (bL q) Try.underlying83 hi (by kernel_rfl) (by kernel_rfl) (bL_len p) (bL_len q) boolEq
    (fun a b ha hb W => by
      unfold bL at ha hb
      obtain ⟨x, _, rfl⟩ := List.mem_map.1 ha
      obtain ⟨y, _, rfl⟩ := List.mem_map.1 hb
      exact run_equalIn_bool W 9998 4 _ _ Try.underlying4)
    (fun a b ha hb => by
      unfold bL at ha hb
      obtain ⟨x, _, rfl⟩ := List.mem_map.1 ha
      obtain ⟨y, _, rfl⟩ := List.mem_map.1 hb
      simp [boolEq]) w
  refine hr.trans ?_
  subst hb
  cases r with
  | true => rw [eqB_iff.2 (hiff.1 rfl)]
  | false =>
    have h : eqB p q = false := by
      cases h : eqB p q with
      | false => rfl
      | true => have := hiff.2 (eqB_iff.1 h); cases this
    rw [h]
section
variable {P : Program}
/-- two structs or arrays are compared -/
theorem wpList_eqA {ops : Array Oper} {rest : List Oper} {o : Oper} {a : Act} {w : World} {Q : Exit → Act → World → Prop} (hgd : o.guard = none) (T : TypeId) (x y : Operand) (R : TypeId) (ho : o.op = .binOp .eql T x y R)
    (xs ys : Array Value) (hx : a.eval x = .agg xs) (hy : a.eval y = .agg ys) (hg : P.eqGuardType P.depth T = false) (b : Bool) (hr : (Op.equalIn 10000 T (.agg xs) (.agg ys)).run P w = .ok b w)
    (h : wpList P ops Q rest (a.put o.dst (.bool b)) w) : wpList P ops Q (o :: rest) a w := by
  refine wpList_op hgd (.bool b) ?_ h
  unfold execOp
  simp only [ho, hx, hy, Sem.run_bind, run_eqGuard_agg w _ _ _ _ _ _ hg, run_eql_struct, hr, Result.andThen_ok, Sem.run_pure]
end
/-- a step of any agent -/
def stepP (rows : List (List Int)) (n a : Nat) : Nat → Nat → Bool := fun i j => decide (i < n) && decide (j < n) && near rows a i j
theorem stepP_in {rows : List (List Int)} {n a i j : Nat} (h : stepP rows n a i j = true) : i < n ∧ j < n := by
  unfold stepP at h
  simp only [Bool.and_eq_true, decide_eq_true_eq] at h
  exact h.1
/-- what is reached from x -/
def reachB (rows : List (List Int)) (n a x : Nat) : Nat → Bool := wsh (stepP rows n a) n x
theorem near_refl {rows : List (List Int)} {a j : Nat} (ha : 1 ≤ a) : near rows a j j = true := by
  unfold near
  rw [List.any_eq_true]
  exact ⟨0, List.mem_range.2 ha, by simp⟩
theorem wid_iff {rows : List (List Int)} {n a j : Nat} {p : Nat → Bool} (hn : n ≤ 16) (hp : ∀ i, p i = true → i < n) : wid rows n a p j = true ↔ j < n ∧ ∃ i, p i = true ∧ near rows a i j = true := by
  unfold wid widK
  simp only [Bool.and_eq_true, decide_eq_true_eq, List.any_eq_true]
  constructor
  · rintro ⟨h, i, hi, e⟩
    exact ⟨h, i, (mem_lst.1 hi).2, e⟩
  · rintro ⟨h, i, hi, e⟩
    exact ⟨h, i, mem_lst.2 ⟨by have := hp i hi; omega, hi⟩, e⟩
theorem filter_le {α : Type} {p q : α → Bool} : ∀ {l : List α}, (∀ x ∈ l, p x = true → q x = true) → (l.filter p).length ≤ (l.filter q).length
  | [], _ => Nat.le_refl _
  | x :: l, h => by
    have ih := filter_le (l := l) (fun y hy => h y (List.mem_cons_of_mem _ hy))
    rw [List.filter_cons, List.filter_cons]
    cases hp : p x with
    | true => rw [h x (List.mem_cons_self ..) hp]; simp; exact ih
    | false =>
      cases hq : q x with
      | true => simp; omega
      | false => simpa using ih
theorem filter_lt {α : Type} {p q : α → Bool} : ∀ {l : List α}, (∀ x ∈ l, p x = true → q x = true) → (∃ x ∈ l, p x = false ∧ q x = true) → (l.filter p).length < (l.filter q).length
  | [], _, h => by obtain ⟨x, hx, _⟩ := h; cases hx
  | x :: l, h, h2 => by
    have hl : ∀ y ∈ l, p y = true → q y = true := fun y hy => h y (List.mem_cons_of_mem _ hy)
    rw [List.filter_cons, List.filter_cons]
    obtain ⟨y, hy, e1, e2⟩ := h2
    cases hp : p x with
    | true =>
      rw [h x (List.mem_cons_self ..) hp]
      rcases List.mem_cons.1 hy with e | e
      · subst e; rw [hp] at e1; cases e1
      · have := filter_lt hl ⟨y, e, e1, e2⟩; simp; exact this
    | false =>
      cases hq : q x with
      | true => have := filter_le hl; simp; omega
      | false =>
        rcases List.mem_cons.1 hy with e | e
        · subst e; rw [hq] at e2; cases e2
        · simpa using filter_lt hl ⟨y, e, e1, e2⟩
/-- what the loop keeps of its set -/
def grows (rows : List (List Int)) (n a x : Nat) (S : Nat → Bool) : Prop := S x = true ∧ (∀ j, S j = true → j < n) ∧ ∀ j, S j = true → reachB rows n a x j = true
theorem grows_0 {rows : List (List Int)} {n a x : Nat} (hx : x < n) : grows rows n a x (upd (fun _ => false) x true) := by
  refine ⟨by simp [upd], fun j h => ?_, fun j h => ?_⟩ <;> (unfold upd at h; by_cases e : j = x <;> simp [e] at h; subst e)
  · exact hx
  · exact wsh_refl _ _ _
theorem grows_wid {rows : List (List Int)} {n a x : Nat} {S : Nat → Bool} (h : grows rows n a x S) (hn : n ≤ 16) (ha : 1 ≤ a) : grows rows n a x (wid rows n a S) := by
  obtain ⟨h1, h2, h3⟩ := h
  refine ⟨(wid_iff hn h2).2 ⟨h2 x h1, x, h1, near_refl ha⟩, fun j hj => ((wid_iff hn h2).1 hj).1, fun j hj => ?_⟩
  obtain ⟨hjn, i, hi, e⟩ := (wid_iff hn h2).1 hj
  exact wsh_more (fun _ _ => stepP_in) (h3 i hi) (by unfold stepP; simp [hjn, h2 i hi, e])
theorem grows_more {rows : List (List Int)} {n a x : Nat} {S : Nat → Bool} (h : grows rows n a x S) (hn : n ≤ 16) (ha : 1 ≤ a) (hne : bL (wid rows n a S) ≠ bL S) : (lst S 16).length < (lst (wid rows n a S) 16).length := by
  obtain ⟨h1, h2, h3⟩ := h
  have hsub : ∀ j, S j = true → wid rows n a S j = true := fun j hj => (wid_iff hn h2).2 ⟨h2 j hj, j, hj, near_refl ha⟩
  refine filter_lt (fun j _ => hsub j) (Classical.byContradiction fun hno => hne (bL_congr fun j hj => ?_))
  rw [Bool.eq_iff_iff]
  refine ⟨fun e => Classical.byContradiction fun hs => hno ⟨j, List.mem_range.2 hj, by simpa using hs, e⟩, hsub j⟩
theorem grows_end {rows : List (List Int)} {n a x : Nat} {S : Nat → Bool} (h : grows rows n a x S) (hn : n ≤ 16) (he : bL (wid rows n a S) = bL S) : bL S = bL (reachB rows n a x) := by
  obtain ⟨h1, h2, h3⟩ := h
  have hi := bL_inj he
  refine bL_congr fun j _ => wsh_unique h1 (fun i j hs hr => ?_) h3 j
  have hr' := stepP_in hr
  rw [← hi j (by omega)]
  unfold stepP at hr
  simp only [Bool.and_eq_true, decide_eq_true_eq] at hr
  exact (wid_iff hn h2).2 ⟨hr.1.2, i, hs, hr.2⟩

set_option maxRecDepth 100000 in
set_option maxHeartbeats 16000000 in
theorem reached_any (n a : Nat) (c : Int) (f : List Int) (rows : List (List Int)) (hs : small f rows) (hn : n ≤ 16) (ha1 : 1 ≤ a) (ha : a ≤ 3) (x : Nat) (hx : x < n) (w : World) :
    Calls Try.prog 79 #[.agg (ints (gL n a f rows c)).toArray, .int .i64 x] w fun e w' => e = .returned (.agg (bL (reachB rows n a x)).toArray) ∧ Below w.heap.size w w' := by
  have KW := Lib.hid (fun p hp W => widened_any n a c f rows hs hn ha p hp W)
  have HL : Hid ((ints (gL n a f rows c)).length = 67) := Lib.hid (by rw [ints_len]; exact gL_len hs)
  have G0 := Lib.hid (grows_0 (rows := rows) (a := a) hx)
  have GW := Lib.hid (fun S h => grows_wid (rows := rows) (n := n) (a := a) (x := x) (S := S) h hn ha1)
  have GM := Lib.hid (fun S h => grows_more (rows := rows) (n := n) (a := a) (x := x) (S := S) h hn ha1)
  have GE := Lib.hid (fun S h => grows_end (rows := rows) (n := n) (a := a) (x := x) (S := S) h hn)
  have hx16 : x < 16 := by omega
  have hx0 : (0 : Int) ≤ (x : Int) := Int.natCast_nonneg _
  have hx16' : (x : Int) < 16 := by omega
  generalize gL n a f rows c = G at *
  clear hs
  go_enter Try.func79, Try.ntmps79
  go_wp2_with
    (first
      | (refine wpList_allocM (o := ⟨some 4, _, _, _, _, _⟩) rfl 83 rfl (bL (fun _ => false)) Try.allocSet ?_
         intro w1 hc1 hb1 hs1
         have C0 : Hid (Cm w1 w.heap.size 75 (ints G)) := Lib.hid (Cm.all (Cm.new rfl) hb1)
         have R0 : Hid (Cm w1 (w.heap.size + 1) 83 (bL (fun _ => false))) := Lib.hid (by simpa using hc1)
         have B0 : Hid (Below w.heap.size w w1) := Lib.hid (Below.trans (by go_grown) (hb1.mono (by simp)))
         have hq1 : w.heap.size + 1 < w1.heap.size := R0.out.lt
         clear hc1 hb1 hs1)
      | (refine wpList_allocM (o := ⟨some 5, _, _, _, _, _⟩) rfl 83 rfl (bL (fun _ => false)) Try.allocSet ?_
         intro w3 hc2 hb2 hs2
         have Z0 := Lib.hid hc2
         have C0 := Lib.hid (C0.out.all hb2)
         have R0 := Lib.hid (R0.out.all hb2)
         have B0 : Hid (Below w.heap.size w w3) := Lib.hid (B0.out.trans (hb2.mono B0.out.size))
         have ck := set_store _ hx16 Z0.out
         have fk := Z0.out.frozen x
         clear hc2 hb2 hs2))
  clear ck fk
  have Z1 : Hid (Cm (w3.setCell ⟨w1.heap.size, x, none⟩ (.bool true)) w1.heap.size 83 (bL (upd (fun _ => false) x true))) := Lib.hid (by rw [← bL_set]; exact Z0.out.set x _)
  have C1 := Lib.hid (C0.out.other (b' := w1.heap.size) (by omega) x (.bool true))
  have R1 := Lib.hid (R0.out.other (b' := w1.heap.size) (by omega) x (.bool true))
  have B1 : Hid (Below w.heap.size w (w3.setCell ⟨w1.heap.size, x, none⟩ (.bool true))) := Lib.hid (B0.out.setCell (by show _ ≤ w1.heap.size; omega) _)
  clear Z0 C0 R0 B0
  generalize w3.setCell ⟨w1.heap.size, x, none⟩ (.bool true) = w4 at *
  go_loopg [6] (16 - (lst (upd (fun _ => false) x true) 16).length) (fun g _ wr => ∃ S : Nat → Bool, Hid (grows rows n a x S) ∧ g = 16 - (lst S 16).length ∧ Hid (Cm wr w1.heap.size 83 (bL S)) ∧ Hid (Cm wr (w.heap.size + 1) 83 (bL (fun _ => false))) ∧ Hid (Cm wr w.heap.size 75 (ints G)) ∧ Hid (Below w.heap.size w wr))
  case atStart => exact ⟨_, G0, rfl, Z1, R1, C1, B1⟩
  case round =>
    clear Z1 C1 R1 B1 G0
    obtain ⟨S, GS, hg, ZR, RR, CR, BR⟩ := hrel
    have HG := Lib.hid hg
    clear hg
    have KW' := Lib.hid (KW.out S GS.out.2.1)
    have GS2 := Lib.hid (GW.out S GS.out)
    have GM2 := Lib.hid (GM.out S GS.out)
    have GE2 := Lib.hid (GE.out S GS.out)
    have HLE := lst_len (wid rows n a S) 16
    have HEQ := Lib.hid (fun W b hb => run_set_eq (wid rows n a S) S W b hb)
    generalize wid rows n a S = T at *
    go_wp2_with
      (first
        | (refine wpList_loadM rfl 75 _ rfl w.heap.size 0 rfl 75 (ints G) (ints G) CR.out (fun j _ => by rw [Nat.zero_add]) _ Try.underlying75 rfl (by rw [HL.out]; exact Try.sizeGrid) ?_)
        | (refine wpList_loadM (o := ⟨some 10, _, _, _, _, _⟩) rfl 83 _ rfl w1.heap.size 0 rfl 83 (bL S) (bL S) ZR.out (fun j _ => by rw [Nat.zero_add]) _ Try.underlying83 rfl (by rw [bL_len]; exact Try.sizeSet) ?_))
    refine (KW'.out _).mono ?_
    rintro e w5 ⟨rfl, hb5⟩
    have Z5 := Lib.hid (ZR.out.all hb5)
    have R5 := Lib.hid (RR.out.all hb5)
    have C5 := Lib.hid (CR.out.all hb5)
    have B5 := Lib.hid (BR.out.trans (hb5.mono BR.out.size))
    have hq5 : w1.heap.size < w5.heap.size := Z5.out.lt
    clear hb5 ZR RR CR BR
    obtain ⟨q, hq⟩ : ∃ q, q = eqB T S := ⟨_, rfl⟩
    have hEq := Lib.hid (fun W => HEQ.out W q hq)
    have HQ := Lib.hid hq
    clear hq
    cases q with
    | true =>
      have HE := Lib.hid (GE2.out (eqB_iff.1 HQ.out.symm))
      have tk1 : True := trivial
      have tk2 : True := trivial
      have tk3 : True := trivial
      have tk4 : True := trivial
      have tk5 : True := trivial
      have tk6 : True := trivial
      have tk7 : True := trivial
      go_wp2_with
        (first
          | (have _t := tk1; clear _t tk1; refine wpList_allocM (o := ⟨some 6, _, _, _, _, _⟩) rfl 83 rfl (bL (fun _ => false)) Try.allocSet ?_
             intro w6 hc6 hb6 hs6
             have T6 := Lib.hid hc6
             have Z6 := Lib.hid (Z5.out.all hb6)
             have R6 := Lib.hid (R5.out.all hb6)
             have B6 := Lib.hid (B5.out.trans (hb6.mono B5.out.size))
             clear hc6 hb6 hs6)
          | (have _t := tk2; clear _t tk2; refine wpList_storeM rfl 83 (.tmp 6) (.tmp 11) rfl w5.heap.size 0 rfl (bL T) rfl 83 _ T6.out (by rw [bL_len, bL_len]; exact Nat.le_refl _) (by rw [bL_len]; exact Try.sizeSet) (fun v hv => bL_one hv) ?_
             intro w7 hc7 ha7
             rw [lay'_all (by rw [bL_len, bL_len])] at hc7
             have T7 := Lib.hid hc7
             have Z7 := Lib.hid (ha7.cm Z6.out (by omega))
             have R7 := Lib.hid (ha7.cm R6.out (by omega))
             have B7 : Hid (Below w.heap.size w w7) := Lib.hid (B6.out.trans (ha7.below (by omega)))
             clear hc7 ha7)
          | (have _t := tk3; clear _t tk3; refine wpList_loadM (o := ⟨some 12, _, _, _, _, _⟩) rfl 83 _ rfl w5.heap.size 0 rfl 83 (bL T) (bL T) T7.out (fun j _ => by rw [Nat.zero_add]) _ Try.underlying83 rfl (by rw [bL_len]; exact Try.sizeSet) ?_)
          | (have _t := tk4; clear _t tk4; refine wpList_loadM (o := ⟨some 13, _, _, _, _, _⟩) rfl 83 _ rfl w1.heap.size 0 rfl 83 (bL S) (bL S) Z7.out (fun j _ => by rw [Nat.zero_add]) _ Try.underlying83 rfl (by rw [bL_len]; exact Try.sizeSet) ?_)
          | (have _t := tk5; clear _t tk5; refine wpList_eqA rfl 83 (.tmp 12) (.tmp 13) 83 rfl (bL T).toArray (bL S).toArray rfl rfl (by kernel_rfl) _ (hEq.out _) ?_)
          | (have _t := tk6; clear _t tk6; refine wpList_loadM (o := ⟨some 15, _, _, _, _, _⟩) rfl 83 _ rfl w1.heap.size 0 rfl 83 (bL S) (bL S) Z7.out (fun j _ => by rw [Nat.zero_add]) _ Try.underlying83 rfl (by rw [bL_len]; exact Try.sizeSet) ?_)
          | (have _t := tk7; clear _t tk7; refine wpList_storeM rfl 83 (.tmp 4) (.tmp 15) rfl (w.heap.size + 1) 0 rfl (bL S) rfl 83 _ R7.out (by rw [bL_len, bL_len]; exact Nat.le_refl _) (by rw [bL_len]; exact Try.sizeSet) (fun v hv => bL_one hv) ?_
             intro w8 hc8 ha8
             rw [lay'_all (by rw [bL_len, bL_len])] at hc8
             have R8 := Lib.hid hc8
             have B8 : Hid (Below w.heap.size w w8) := Lib.hid (B7.out.trans (ha8.below (by omega)))
             clear hc8 ha8))
      refine bodyPost_ret (results_mid1 Try.results79 _ _ (w.heap.size + 1) (bL S) _ rfl R8.out.whole Try.underlying83 rfl (by rw [bL_len]; exact Try.sizeSet)) rfl ?_
      exact ⟨by rw [HE.out], B8.out⟩
    | false =>
      have HM := GM2.out (fun e => by have h := eqB_iff.2 e; rw [← HQ.out] at h; cases h)
      have tk8 : True := trivial
      have tk9 : True := trivial
      have tk10 : True := trivial
      have tk11 : True := trivial
      have tk12 : True := trivial
      have tk13 : True := trivial
      have tk14 : True := trivial
      go_wp2_with
        (first
          | (have _t := tk8; clear _t tk8; refine wpList_allocM (o := ⟨some 6, _, _, _, _, _⟩) rfl 83 rfl (bL (fun _ => false)) Try.allocSet ?_
             intro w6 hc6 hb6 hs6
             have T6 := Lib.hid hc6
             have Z6 := Lib.hid (Z5.out.all hb6)
             have R6 := Lib.hid (R5.out.all hb6)
             have C6 := Lib.hid (C5.out.all hb6)
             have B6 := Lib.hid (B5.out.trans (hb6.mono B5.out.size))
             clear hc6 hb6 hs6)
          | (have _t := tk9; clear _t tk9; refine wpList_storeM rfl 83 (.tmp 6) (.tmp 11) rfl w5.heap.size 0 rfl (bL T) rfl 83 _ T6.out (by rw [bL_len, bL_len]; exact Nat.le_refl _) (by rw [bL_len]; exact Try.sizeSet) (fun v hv => bL_one hv) ?_
             intro w7 hc7 ha7
             rw [lay'_all (by rw [bL_len, bL_len])] at hc7
             have T7 := Lib.hid hc7
             have Z7 := Lib.hid (ha7.cm Z6.out (by omega))
             have R7 := Lib.hid (ha7.cm R6.out (by omega))
             have C7 := Lib.hid (ha7.cm C6.out (by omega))
             have B7 : Hid (Below w.heap.size w w7) := Lib.hid (B6.out.trans (ha7.below (by omega)))
             clear hc7 ha7)
          | (have _t := tk10; clear _t tk10; refine wpList_loadM (o := ⟨some 12, _, _, _, _, _⟩) rfl 83 _ rfl w5.heap.size 0 rfl 83 (bL T) (bL T) T7.out (fun j _ => by rw [Nat.zero_add]) _ Try.underlying83 rfl (by rw [bL_len]; exact Try.sizeSet) ?_)
          | (have _t := tk11; clear _t tk11; refine wpList_loadM (o := ⟨some 13, _, _, _, _, _⟩) rfl 83 _ rfl w1.heap.size 0 rfl 83 (bL S) (bL S) Z7.out (fun j _ => by rw [Nat.zero_add]) _ Try.underlying83 rfl (by rw [bL_len]; exact Try.sizeSet) ?_)
          | (have _t := tk12; clear _t tk12; refine wpList_eqA rfl 83 (.tmp 12) (.tmp 13) 83 rfl (bL T).toArray (bL S).toArray rfl rfl (by kernel_rfl) _ (hEq.out _) ?_)
          | (have _t := tk13; clear _t tk13; refine wpList_loadM (o := ⟨some 16, _, _, _, _, _⟩) rfl 83 _ rfl w5.heap.size 0 rfl 83 (bL T) (bL T) T7.out (fun j _ => by rw [Nat.zero_add]) _ Try.underlying83 rfl (by rw [bL_len]; exact Try.sizeSet) ?_)
          | (have _t := tk14; clear _t tk14; refine wpList_storeM rfl 83 (.tmp 5) (.tmp 16) rfl w1.heap.size 0 rfl (bL T) rfl 83 _ Z7.out (by rw [bL_len, bL_len]; exact Nat.le_refl _) (by rw [bL_len]; exact Try.sizeSet) (fun v hv => bL_one hv) ?_
             intro w8 hc8 ha8
             rw [lay'_all (by rw [bL_len, bL_len])] at hc8
             have Z8 := Lib.hid hc8
             have R8 := Lib.hid (ha8.cm R7.out (by omega))
             have C8 := Lib.hid (ha8.cm C7.out (by omega))
             have B8 : Hid (Below w.heap.size w w8) := Lib.hid (B7.out.trans (ha8.below (by omega)))
             clear hc8 ha8))
      go_roundg (16 - (lst T 16).length)
      case measure => rw [HG.out]; omega
      case rel => exact ⟨T, GS2, rfl, Z8, R8, C8, B8⟩
end Go.Proofs.Ytegmoojjffkacaa
