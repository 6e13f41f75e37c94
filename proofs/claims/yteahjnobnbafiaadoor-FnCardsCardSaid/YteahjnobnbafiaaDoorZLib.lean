/-
  Several texts in one: Lib Mod Iv IntS Mdl. Conditions: as each theorem says.
-/
import Derived.WalkKit
import Derived.ProofKit
import Derived.Lib.Hide
import Derived.Laws.OwnMore
import Derived.Laws.MakeOwn
import Derived.Laws.AppendOwn
import Derived.WalkSmall
import Derived.OneCell
import Derived.Below
import Derived.BigQuiet
import Derived.Deep.QuietTactic
import Derived.OwnWalk
import Derived.Laws.BytesString
import Derived.Laws.Cells
import Derived.Test.YteahjnobnbafiaaDoorRows
import Derived.Handy
import Derived.Deep.OwnRows
import Derived.Deep.RegionHeld3
import Derived.WalkSpells
import Derived.Deep.Slices
import Derived.ChangeSame
import Derived.WideShapes
/-
  Small laws over any program, for the walks of this seat: an append of one element to a row of the call's own; draws.
-/
namespace Go.Proofs.YteahjnobnbafiaaDoor
open Go.RowKit
open Go

theorem ret_eq {a b : Value} (h : a = b) : Ending.returned a = .returned b := by rw [h]
theorem ret_bool {a b : Bool} (h : a = b) : Ending.returned (.bool a) = .returned (.bool b) := by rw [h]
theorem ret_int {k : IntKind} {a b : Int} (h : a = b) : Ending.returned (.int k a) = .returned (.int k b) := by rw [h]
theorem ret_str {a b : ByteArray} (h : a = b) : Ending.returned (.string a) = .returned (.string b) := by rw [h]

theorem own_drewN {w : World} {base : Nat} {e : TypeId} {size : Nat} {v : Value} {n : Nat} {xs : List Value} (h : w.ownsRow base e size v n xs) (k : Nat) : (w.drewN k).ownsRow base e size v n xs := h
theorem own_drew {w : World} {base : Nat} {e : TypeId} {size : Nat} {v : Value} {n : Nat} {xs : List Value} (h : w.ownsRow base e size v n xs) : w.drew.ownsRow base e size v n xs := h
theorem below_drewN' {B : Nat} {a w : World} (h : Below B a w) (n : Nat) : Below B a (w.drewN n) := below_drewN h n
/-- an owned row whose block is at B or later stays through a world that kept all below ... here: through 'Below' at a number past its block -/
theorem own_below {w w' : World} {base : Nat} {e : TypeId} {size : Nat} {v : Value} {n : Nat} {xs : List Value} {B : Nat} (h : w.ownsRow base e size v n xs) (hb : Below B w w') (hB : w.heap.size ≤ B) : w'.ownsRow base e size v n xs := by
  refine ⟨h.1, ?_⟩
  rcases h.2 with hn | ⟨g, cap, cur, rfl, hbg, hgg, rest⟩
  · exact .inl hn
  · refine .inr ⟨g, cap, cur, rfl, hbg, ?_, rest⟩
    rw [hb.block g (by have := (Array.getElem?_eq_some_iff.1 hgg).1; omega)]
    exact hgg
theorem own_mono {w : World} {base base' : Nat} {e : TypeId} {size : Nat} {v : Value} {n : Nat} {xs : List Value} (h : w.ownsRow base e size v n xs) (hb : base' ≤ base) : w.ownsRow base' e size v n xs := by
  refine ⟨h.1, ?_⟩
  rcases h.2 with hn | ⟨g, cap, cur, rfl, hbg, rest⟩
  · exact .inl hn
  · exact .inr ⟨g, cap, cur, rfl, by omega, rest⟩

theorem ByteArray.mk_append_lists (x : UInt8) (l : List UInt8) : (ByteArray.mk #[x] ++ ByteArray.mk l.toArray) = ByteArray.mk (x :: l).toArray := by
  have h := ByteArray.mk_append_mk [x] l
  simpa using h

section
variable {P : Program}
/-- append(s, y): y one cell, just laid in a block of its own by the walk; s a row of the call's own (or nil) -/
theorem wpList_push {ops : Array Oper} {rest : List Oper} {o : Oper} {a : Act} {Q : Exit → Act → World → Prop} (hgd : o.guard = none) (s x : Operand) (t : TypeId)
    (ho : o.op = .call { callee := .builtin .append, args := #[s, x], argTypes := #[t, t] })
    (e : TypeId) (z : Value) (bytes : Nat) (ht : P.underlying t = some (.slice e))
    (hinfo : (P.info? e).map (fun i => (i.zero, i.size, i.bytes)) = some (some z, 1, bytes)) (hzs : z.cells.size = 1)
    (base : Nat) (w0 : World) (y v : Value) (n : Nat) (xs : List Value) (hown : w0.ownsRow base e 1 v n xs)
    (hs : a.eval s = v) (hx : a.eval x = .slice (some ⟨w0.heap.size, 0, none⟩) 1 1) (h1 : y.oneCell' = true)
    (h63 : n + 1 ≤ maxLen) (hbytes : (n + 1) * bytes ≤ 140737488355328) (hbase : base ≤ w0.heap.size)
    (h : ∀ v' w', w'.ownsRow base e 1 v' (n + 1) (xs ++ [y]) → Below base w0 w' → w0.grownBy w' v.ownBlock → wpList P ops Q rest (a.put o.dst v') w') :
    wpList P ops Q (o :: rest) a (w0.alloc (.cells #[y] e)) := by
  obtain ⟨i0, hi, hz0, hz1, hz2⟩ := info_parts hinfo
  refine wpList_append_own _ hgd s x t ho base e i0 z 1 bytes ht hi hz0 hz1 hz2 hzs (by decide) v n xs hs (hown.alloc _) ⟨w0.heap.size, 0, none⟩ 1 1 [y] hx rfl ?_ ?_ h63 hbytes (by simp; omega) ?_
  · intro j u hu
    match j with
    | 0 =>
      simp at hu; subst hu
      rw [show ((⟨w0.heap.size, 0, none⟩ : Addr).add 0) = ⟨w0.heap.size, 0, none⟩ by unfold Addr.add; split <;> simp_all]
      rw [World.cell?_alloc_at _ _ _ _ rfl]; rfl
    | j + 1 => simp at hu
  · intro u hu; simp at hu; subst hu; exact h1
  · intro v' w' hown' hg _
    have hb : ∀ k, v.ownBlock = some k → base ≤ k := fun k hk => (hown.lt k hk).1
    refine h v' w' hown' (((Below.refl base w0).alloc hbase _).grown hg (by simp; omega) hb) ⟨hg.os, hg.tape, hg.output, Nat.le_trans (by simp) hg.size, fun k hk hne => ?_⟩
    rw [hg.block k (by simp; omega) hne, Below.heap_alloc _ _ _ hk]

theorem wpList_op {ops : Array Oper} {rest : List Oper} {o : Oper} {a : Act} {w w' : World} {Q : Exit → Act → World → Prop} (hgd : o.guard = none) (v : Value)
    (hr : (execOp a.eval o).run P w = .ok (.value v) w') (h : wpList P ops Q rest (a.put o.dst v) w') : wpList P ops Q (o :: rest) a w :=
  wpList_plain hgd fun _ hK => by unfold Oper.wp; rw [hr]; exact hK _ _ h
/-- a local variable of type T that is laid in memory: its run as one closed fact -/
theorem wpList_alloc {ops : Array Oper} {rest : List Oper} {o : Oper} {a : Act} {w w' : World} {Q : Exit → Act → World → Prop} (hgd : o.guard = none) (T : TypeId) (ho : o.op = .alloc T) (v : Value)
    (hr : (Instr.alloc T true (.tuple #[])).run P w = .ok v w') (h : wpList P ops Q rest (a.put o.dst v) w') : wpList P ops Q (o :: rest) a w := by
  refine wpList_op hgd v ?_ h
  unfold execOp
  simp only [ho, Sem.run_bind, hr, Result.andThen_ok, Sem.run_pure]

theorem addr_add0 (b o j : Nat) : ((⟨b, o, none⟩ : Addr).add j) = ⟨b, o + j, none⟩ := by unfold Addr.add; split <;> simp_all
/-- string([]byte{n}), the slice just laid -/
theorem run_bytes_one {src dst e : TypeId} (hs : P.underlying src = some (.slice e)) (he : P.underlying e = some (.int .u8)) (hd : P.underlying dst = some .string) (W : World) (n : Int) :
    (convert src dst (.slice (some ⟨W.heap.size, 0, none⟩) 1 1)).run P (W.alloc (.cells #[.int .u8 n] e)) = .ok (.string ⟨#[UInt8.ofNat n.toNat]⟩) (W.alloc (.cells #[.int .u8 n] e)) := by
  have hl := run_loadCells_list (P := P) (w := W.alloc (.cells #[.int .u8 n] e)) ⟨W.heap.size, 0, none⟩ [.int .u8 n] (fun j v h => by
    match j with
    | 0 =>
      simp at h; subst h
      rw [addr_add0, World.cell?_alloc_at _ _ _ _ rfl]; rfl
    | j + 1 => simp at h)
  rw [run_convert_bytes_string _ src dst e _ _ _ hs he hd, run_bytesToString _ ⟨W.heap.size, 0, none⟩ 1 1 [n] hl]
  rfl

/-- string([]byte{n}) of a slice whose one cell is known -/
theorem run_bytes_cell {src dst e : TypeId} (hs : P.underlying src = some (.slice e)) (he : P.underlying e = some (.int .u8)) (hd : P.underlying dst = some .string) (W : World) (b : Nat) (n : Int)
    (hc : W.cell? ⟨b, 0, none⟩ = some (.int .u8 n)) :
    (convert src dst (.slice (some ⟨b, 0, none⟩) 1 1)).run P W = .ok (.string ⟨#[UInt8.ofNat n.toNat]⟩) W := by
  have hl := run_loadCells_list (P := P) (w := W) ⟨b, 0, none⟩ [.int .u8 n] (fun j v h => by
    match j with
    | 0 =>
      simp at h; subst h
      rw [addr_add0]; exact hc
    | j + 1 => simp at h)
  rw [run_convert_bytes_string _ src dst e _ _ _ hs he hd, run_bytesToString _ ⟨b, 0, none⟩ 1 1 [n] hl]
  rfl
/-- a callee that leaves the world as it is, inside a quiet region -/
theorem quiet_eq {f : FuncId} {args : Array Value} {w : World} {n : Nat} {v : Value}
    (h : Calls P f args (w.drewN n) fun e w' => e = .returned v ∧ w.drewN n = w') : Calls P f args (w.drewN n) fun e w'' => e = .returned v ∧ ∃ m, w'' = w.drewN m :=
  h.mono fun _ _ ⟨he, hm⟩ => ⟨he, n, hm.symm⟩
end
end Go.Proofs.YteahjnobnbafiaaDoor

/-
  The mathematics of models: lists of numbers numbered in the order in which they are met. No program.
-/
namespace Go.Proofs.YteahjnobnbafiaaDoor

structure Md where
  facts : List Int
  blocks : List (List Int)
  actual : Int
instance : Inhabited Md := ⟨⟨[], [], 0⟩⟩

/-- the numbers of the first k elements, and how many numbers there are -/
def numS (l : List Int) : Nat → List Int × Nat
  | 0 => ([], 0)
  | k + 1 => if l.idxOf (l.getD k 0) < k then ((numS l k).1 ++ [(numS l k).1.getD (l.idxOf (l.getD k 0)) 0], (numS l k).2) else ((numS l k).1 ++ [((numS l k).2 : Int)], (numS l k).2 + 1)
def num (l : List Int) : List Int := (numS l l.length).1

theorem numS_len (l : List Int) : ∀ k, (numS l k).1.length = k
  | 0 => rfl
  | k + 1 => by unfold numS; have := numS_len l k; split <;> simp [this]
theorem num_len (l : List Int) : (num l).length = l.length := numS_len l _
theorem numS_cnt (l : List Int) : ∀ k, (numS l k).2 ≤ k
  | 0 => Nat.le_refl _
  | k + 1 => by unfold numS; have := numS_cnt l k; split <;> simp <;> omega
theorem numS_bd (l : List Int) : ∀ k y, y ∈ (numS l k).1 → 0 ≤ y ∧ y < (numS l k).2
  | 0, y, h => by simp [numS] at h
  | k + 1, y, h => by
    unfold numS at h ⊢
    split at h
    · rename_i hlt
      rw [if_pos hlt]
      rw [List.mem_append] at h
      rcases h with h | h
      · exact numS_bd l k y h
      · simp only [List.mem_singleton] at h
        subst h
        apply numS_bd l k
        rw [List.getD_eq_getElem?_getD, List.getElem?_eq_getElem (by rw [numS_len]; exact hlt)]
        exact List.getElem_mem _
    · rename_i hlt
      rw [if_neg hlt]
      rw [List.mem_append] at h
      rcases h with h | h
      · have := numS_bd l k y h; simp; omega
      · simp only [List.mem_singleton] at h
        subst h
        simp; omega
theorem getD_app {l : List Int} {y : Int} {i : Nat} (h : i < l.length) : (l ++ [y]).getD i 0 = l.getD i 0 := by
  rw [List.getD_eq_getElem?_getD, List.getElem?_append_left h, List.getD_eq_getElem?_getD]
theorem getD_last {l : List Int} {y : Int} {i : Nat} (h : i = l.length) : (l ++ [y]).getD i 0 = y := by
  rw [List.getD_eq_getElem?_getD, List.getElem?_append_right (by omega)]; simp [h]
theorem getD_mem {l : List Int} {i : Nat} (h : i < l.length) : l.getD i 0 ∈ l := by
  rw [List.getD_eq_getElem?_getD, List.getElem?_eq_getElem h]; exact List.getElem_mem _
theorem idx_le {l : List Int} {k : Nat} (h : k < l.length) : l.idxOf (l.getD k 0) ≤ k := by
  rw [List.getD_eq_getElem?_getD, List.getElem?_eq_getElem h]
  simp only [Option.getD_some]
  rcases Nat.lt_or_ge k (l.idxOf l[k]) with h' | h'
  · exact absurd (List.not_of_lt_findIdx h') (by simp)
  · exact h'
theorem idx_get {l : List Int} {x : Int} (h : x ∈ l) : l.getD (l.idxOf x) 0 = x := by
  have := List.idxOf_lt_length_of_mem h
  rw [List.getD_eq_getElem?_getD, List.getElem?_eq_getElem this]
  simp
theorem idx_min {l : List Int} {x : Int} {j : Nat} (hj : j < l.length) (h : l.getD j 0 = x) : l.idxOf x ≤ j := by subst h; exact idx_le hj

theorem numS_pre1 (l : List Int) {k i : Nat} (hi : i < k) : (numS l (k + 1)).1.getD i 0 = (numS l k).1.getD i 0 := by
  have L := numS_len l k
  by_cases h : l.idxOf (l.getD k 0) < k
  · rw [numS, if_pos h]; exact getD_app (by omega)
  · rw [numS, if_neg h]; exact getD_app (by omega)
/-- two elements are equal exactly if their numbers are -/
theorem numS_same (l : List Int) : ∀ k, k ≤ l.length → ∀ i j, i < k → j < k → (l.getD i 0 = l.getD j 0 ↔ (numS l k).1.getD i 0 = (numS l k).1.getD j 0)
  | 0, _, i, _, h, _ => by omega
  | k + 1, hk, i, j, hi, hj => by
    have IH := numS_same l k (by omega)
    have L := numS_len l k
    have key : ∀ i, i < k → (l.getD i 0 = l.getD k 0 ↔ (numS l (k + 1)).1.getD i 0 = (numS l (k + 1)).1.getD k 0) := by
      intro i hi
      unfold numS
      split
      · rename_i hlt
        simp only
        rw [getD_app (by omega), getD_last L.symm, ← IH i _ hi hlt, idx_get (getD_mem (by omega))]
      · rename_i hlt
        simp only
        rw [getD_app (by omega), getD_last L.symm]
        constructor
        · intro h
          have := idx_min (l := l) (x := l.getD k 0) (j := i) (by omega) h
          omega
        · intro h
          have := numS_bd l k _ (getD_mem (l := (numS l k).1) (i := i) (by omega))
          omega
    have pre : ∀ i, i < k → (numS l (k + 1)).1.getD i 0 = (numS l k).1.getD i 0 := fun i hi => numS_pre1 l hi
    rcases Nat.lt_or_eq_of_le (Nat.le_of_lt_succ hi) with h1 | h1
    · rcases Nat.lt_or_eq_of_le (Nat.le_of_lt_succ hj) with h2 | h2
      · rw [pre i h1, pre j h2]; exact IH i j h1 h2
      · subst h2; exact key i h1
    · subst h1
      rcases Nat.lt_or_eq_of_le (Nat.le_of_lt_succ hj) with h2 | h2
      · rw [eq_comm, key j h2, eq_comm]
      · subst h2; simp

/-- the spec's way to look for an earlier equal element: what is found among the first j -/
def look (l : List Int) (i j : Nat) : Int := if l.idxOf (l.getD i 0) < j then (numS l i).1.getD (l.idxOf (l.getD i 0)) 0 else -1
theorem look_step {l : List Int} {i j : Nat} (hi : i < l.length) (hj : j < i) : look l i (j + 1) = if l.getD j 0 = l.getD i 0 then (numS l i).1.getD j 0 else look l i j := by
  unfold look
  split
  · rename_i hlt
    by_cases e : l.getD j 0 = l.getD i 0
    · rw [if_pos e]
      rw [← numS_same l i (by omega) _ j (by omega) hj, idx_get (getD_mem hi), e]
    · rw [if_neg e, if_pos]
      rcases Nat.lt_or_eq_of_le (Nat.le_of_lt_succ hlt) with h | h
      · exact h
      · subst h; exact absurd (idx_get (getD_mem hi)) e
  · rename_i hlt
    have e : l.getD j 0 ≠ l.getD i 0 := fun e => hlt (Nat.lt_succ_of_le (idx_min (by omega) e))
    rw [if_neg e, if_neg (by omega)]
theorem look_end {l : List Int} {i : Nat} : numS l (i + 1) = if look l i i < 0 then ((numS l i).1 ++ [((numS l i).2 : Int)], (numS l i).2 + 1) else ((numS l i).1 ++ [look l i i], (numS l i).2) := by
  unfold look
  by_cases h : l.idxOf (l.getD i 0) < i
  · have := numS_bd l i _ (getD_mem (l := (numS l i).1) (i := l.idxOf (l.getD i 0)) (by rw [numS_len]; exact h))
    rw [if_pos h, if_neg (by omega)]
    rw [numS, if_pos h]
  · rw [if_neg h, if_pos (by decide), numS, if_neg h]

/-- the greatest of the first k numbers, or -1 -/
def mostOf (l : List Int) : Nat → Int
  | 0 => -1
  | k + 1 => max (mostOf l k) (l.getD k 0)
/-- the first k blocks are numbered in the order in which they are met -/
def ordTo (l : List Int) (k : Nat) : Prop := ∀ i, i < k → 0 ≤ l.getD i 0 ∧ l.getD i 0 ≤ mostOf l i + 1
instance (l : List Int) (k : Nat) : Decidable (ordTo l k) := by unfold ordTo; exact inferInstance
def ordOk (l : List Int) : Bool := decide (ordTo l l.length)
theorem ordTo_succ {l : List Int} {k : Nat} : ordTo l (k + 1) ↔ ordTo l k ∧ 0 ≤ l.getD k 0 ∧ l.getD k 0 ≤ mostOf l k + 1 := by
  constructor
  · intro h; exact ⟨fun i hi => h i (by omega), h k (by omega)⟩
  · intro ⟨h, h'⟩ i hi
    rcases Nat.lt_or_eq_of_le (Nat.le_of_lt_succ hi) with h1 | h1
    · exact h i h1
    · subst h1; exact h'
theorem take_snocI {l : List Int} {k : Nat} (h : k < l.length) : l.take (k + 1) = l.take k ++ [l.getD k 0] := by
  rw [List.take_add_one, List.getElem?_eq_getElem h, List.getD_eq_getElem?_getD, List.getElem?_eq_getElem h]; rfl
theorem ord_num (l : List Int) : ∀ k, k ≤ l.length → (ordTo l k ↔ (numS l k).1 = l.take k) ∧ (ordTo l k → mostOf l k = (numS l k).2 - 1 ∧ ∀ v : Int, 0 ≤ v → v < (numS l k).2 → ∃ i, i < k ∧ l.getD i 0 = v)
  | 0, _ => ⟨⟨fun _ => rfl, fun _ i hi => by omega⟩, fun _ => ⟨rfl, fun v h0 h1 => by simp [numS] at h1; omega⟩⟩
  | k + 1, hk => by
    obtain ⟨IH, IH2⟩ := ord_num l k (by omega)
    have hx := getD_mem (l := l) (i := k) (by omega)
    by_cases ho : ordTo l k
    · obtain ⟨hm, hv⟩ := IH2 ho
      have he := IH.1 ho
      rw [ordTo_succ, take_snocI (by omega), hm]
      by_cases hlt : l.idxOf (l.getD k 0) < k
      · have hg : (numS l k).1.getD (l.idxOf (l.getD k 0)) 0 = l.getD k 0 := by
          rw [he, List.getD_eq_getElem?_getD, List.getElem?_take_of_lt hlt, ← List.getD_eq_getElem?_getD, idx_get hx]
        have hb := numS_bd l k _ (getD_mem (l := (numS l k).1) (i := l.idxOf (l.getD k 0)) (by rw [numS_len]; exact hlt))
        rw [hg] at hb
        rw [numS, if_pos hlt, hg]
        refine ⟨⟨fun _ => by rw [he], fun _ => ⟨ho, hb.1, by omega⟩⟩, fun _ => ⟨by rw [mostOf, hm]; simp only; omega, fun v h0 h1 => ?_⟩⟩
        obtain ⟨i, hi, e⟩ := hv v h0 h1
        exact ⟨i, by omega, e⟩
      · rw [numS, if_neg hlt]
        have hne : ¬ (0 ≤ l.getD k 0 ∧ l.getD k 0 < (numS l k).2) := fun ⟨a, b⟩ => by
          obtain ⟨i, hi, e⟩ := hv _ a b
          have := idx_min (l := l) (j := i) (by omega) e
          omega
        refine ⟨⟨fun ⟨_, a, b⟩ => ?_, fun h => ?_⟩, fun ⟨_, a, b⟩ => ?_⟩
        · rw [he, show l.getD k 0 = ((numS l k).2 : Int) by omega]
        · have h2 := List.append_inj_right' h rfl
          simp only [List.cons.injEq, and_true] at h2
          exact ⟨ho, by omega, by omega⟩
        · have hx2 : l.getD k 0 = ((numS l k).2 : Int) := by omega
          refine ⟨by rw [mostOf, hm, hx2]; simp only; omega, fun v h0 h1 => ?_⟩
          rcases Int.lt_or_le v ((numS l k).2) with h3 | h3
          · obtain ⟨i, hi, e⟩ := hv v h0 h3
            exact ⟨i, by omega, e⟩
          · exact ⟨k, by omega, by simp only [Int.natCast_add] at h1; omega⟩
    · have hn : ¬ (numS l k).1 = l.take k := fun h => ho (IH.2 h)
      refine ⟨⟨fun h => absurd (ordTo_succ.1 h).1 ho, fun h => ?_⟩, fun h => absurd (ordTo_succ.1 h).1 ho⟩
      exfalso
      rw [take_snocI (by omega)] at h
      unfold numS at h
      split at h <;> exact hn (List.append_inj_left' h rfl)
theorem ordOk_num (l : List Int) : ordOk l = decide (num l = l) := by
  have := (ord_num l l.length (Nat.le_refl _)).1
  rw [List.take_of_length_le (Nat.le_refl _)] at this
  unfold ordOk num
  rw [Bool.eq_iff_iff, decide_eq_true_iff, decide_eq_true_iff]
  exact this

/-- numbering numbers changes nothing -/
theorem num_num (l : List Int) : num (num l) = num l := by
  have key : ∀ k, k ≤ l.length → ordTo (num l) k ∧ mostOf (num l) k = (numS l k).2 - 1 := by
    have pre : ∀ m k, k ≤ m → ∀ i, i < k → (numS l m).1.getD i 0 = (numS l k).1.getD i 0 := by
      intro m
      induction m with
      | zero => intro k hk i hi; omega
      | succ m ih =>
        intro k hk i hi
        rcases Nat.lt_or_eq_of_le hk with h | h
        · rw [← ih k (by omega) i hi]
          exact numS_pre1 l (by omega)
        · subst h; rfl
    intro k
    induction k with
    | zero => intro _; exact ⟨fun i hi => by omega, rfl⟩
    | succ k ih =>
      intro hk
      obtain ⟨h1, h2⟩ := ih (by omega)
      have L := numS_len l k
      have e : (num l).getD k 0 = (numS l (k + 1)).1.getD k 0 := pre _ _ hk _ (by omega)
      rw [ordTo_succ, mostOf, h2, e]
      by_cases hlt : l.idxOf (l.getD k 0) < k
      · rw [numS, if_pos hlt]
        simp only
        rw [getD_last L.symm]
        have hb := numS_bd l k _ (getD_mem (l := (numS l k).1) (i := l.idxOf (l.getD k 0)) (by omega))
        exact ⟨⟨h1, by omega, by omega⟩, by omega⟩
      · rw [numS, if_neg hlt]
        simp only
        rw [getD_last L.symm]
        exact ⟨⟨h1, by omega, by omega⟩, by omega⟩
  have h := (key l.length (Nat.le_refl _)).1
  have h2 := ordOk_num (num l)
  unfold ordOk at h2
  rw [num_len, decide_eq_true h] at h2
  exact of_decide_eq_true h2.symm
theorem num_ord (l : List Int) : ordOk (num l) = true := by rw [ordOk_num, num_num]; simp
theorem num_bd {l : List Int} {y : Int} (h : y ∈ num l) : 0 ≤ y ∧ y < l.length := by
  have := numS_bd l _ y h; have := numS_cnt l l.length; omega
theorem num_same (l : List Int) {i j : Nat} (hi : i < l.length) (hj : j < l.length) : l.getD i 0 = l.getD j 0 ↔ (num l).getD i 0 = (num l).getD j 0 := numS_same l _ (Nat.le_refl _) i j hi hj
theorem ord_bd {l : List Int} (h : ordOk l = true) {y : Int} (hy : y ∈ l) : 0 ≤ y ∧ y < l.length := by
  rw [ordOk_num] at h
  have e := of_decide_eq_true h
  rw [← e] at hy
  exact num_bd hy
end Go.Proofs.YteahjnobnbafiaaDoor

/-
  Slices of numbers, slices of such slices, and models in memory: what reads as a list (Rv, Iv, Ivv, Mv), what is owned (Io, Ioo, Mo), within blocks from lo to hi. No program but its types' numbers.
-/
namespace Go.Proofs.YteahjnobnbafiaaDoor
open Go.RowKit Go.WideShapes
open Go Go.Deep

/-- the blocks from lo to hi are as they were -/
structure Keeps (lo hi : Nat) (w w' : World) : Prop where
  size : w.heap.size ≤ w'.heap.size
  block : ∀ k, lo ≤ k → k < hi → k < w.heap.size → w'.heap[k]? = w.heap[k]?
theorem Keeps.refl (lo hi : Nat) (w : World) : Keeps lo hi w w := ⟨Nat.le_refl _, fun _ _ _ _ => rfl⟩
theorem Keeps.trans {lo hi : Nat} {a b c : World} (h : Keeps lo hi a b) (k : Keeps lo hi b c) : Keeps lo hi a c :=
  ⟨Nat.le_trans h.size k.size, fun i h1 h2 h3 => (k.block i h1 h2 (Nat.lt_of_lt_of_le h3 h.size)).trans (h.block i h1 h2 h3)⟩
theorem Keeps.of_below {lo hi B : Nat} {w w' : World} (h : Below B w w') (hB : hi ≤ B) : Keeps lo hi w w' := ⟨h.size, fun k _ h2 _ => h.block k (by omega)⟩
theorem Keeps.of_all {lo hi : Nat} {w w' : World} (h : Below w.heap.size w w') : Keeps lo hi w w' := ⟨h.size, fun k _ _ h3 => h.block k h3⟩
/-- but for the blocks from lo to hi the world is as it was -/
structure Touch (lo hi : Nat) (w w' : World) : Prop where
  os : w'.os = w.os
  tape : w'.tape = w.tape
  output : w'.output = w.output
  size : w.heap.size ≤ w'.heap.size
  block : ∀ k, k < w.heap.size → (k < lo ∨ hi ≤ k) → w'.heap[k]? = w.heap[k]?
theorem Touch.refl (lo hi : Nat) (w : World) : Touch lo hi w w := ⟨rfl, rfl, rfl, Nat.le_refl _, fun _ _ _ => rfl⟩
theorem Touch.trans {lo hi : Nat} {a b c : World} (h : Touch lo hi a b) (k : Touch lo hi b c) : Touch lo hi a c :=
  ⟨k.os.trans h.os, k.tape.trans h.tape, k.output.trans h.output, Nat.le_trans h.size k.size, fun i h1 h2 => (k.block i (Nat.lt_of_lt_of_le h1 h.size) h2).trans (h.block i h1 h2)⟩
theorem Touch.of_all {lo hi : Nat} {w w' : World} (h : Below w.heap.size w w') : Touch lo hi w w' := ⟨h.os, h.tape, h.output, h.size, fun k h1 _ => h.block k h1⟩
theorem Touch.below {lo hi B : Nat} {w w' : World} (h : Touch lo hi w w') (hB : B ≤ lo) (hs : B ≤ w.heap.size) : Below B w w' :=
  ⟨h.os, h.tape, h.output, h.size, fun k hk => h.block k (by omega) (.inl (by omega))⟩
theorem Touch.keeps {lo hi lo' hi' : Nat} {w w' : World} (h : Touch lo hi w w') (ha : hi' ≤ lo ∨ hi ≤ lo') : Keeps lo' hi' w w' :=
  ⟨h.size, fun k h1 h2 h3 => h.block k h3 (by omega)⟩
theorem Touch.of_grown {lo hi : Nat} {w w' : World} {row : Option Nat} (h : w.grownBy w' row) (hr : ∀ k, row = some k → lo ≤ k ∧ k < hi) : Touch lo hi w w' :=
  ⟨h.os, h.tape, h.output, h.size, fun k h1 h2 => h.block k h1 (fun e => by have := hr k e.symm; omega)⟩

/-- the slice v reads, in w, as the one-cell values xs, in a block from lo to hi -/
def Rv (lo hi : Nat) (w : World) (v : Value) (xs : List Value) : Prop :=
  ∃ a cap, v = .slice a xs.length cap ∧ xs.length ≤ cap ∧ cap ≤ maxLen ∧ (xs = [] ∨ ∃ b o, a = some ⟨b, o, none⟩ ∧ lo ≤ b ∧ b < hi ∧ b < w.heap.size ∧ ∀ j x, xs[j]? = some x → w.cell? ⟨b, o + j, none⟩ = some x)
theorem Rv.keeps {lo hi : Nat} {w w' : World} {v : Value} {xs : List Value} (h : Rv lo hi w v xs) (k : Keeps lo hi w w') : Rv lo hi w' v xs := by
  obtain ⟨a, cap, rfl, h1, h2, h3⟩ := h
  refine ⟨a, cap, rfl, h1, h2, ?_⟩
  rcases h3 with h3 | ⟨b, o, rfl, hl, hh, hlt, hc⟩
  · exact .inl h3
  · exact .inr ⟨b, o, rfl, hl, hh, Nat.lt_of_lt_of_le hlt k.size, fun j x hx => by rw [World.cell?_of_block (w := w) (k.block b hl hh hlt)]; exact hc j x hx⟩
theorem Rv.wide {lo hi lo' hi' : Nat} {w : World} {v : Value} {xs : List Value} (h : Rv lo hi w v xs) (h1 : lo' ≤ lo) (h2 : hi ≤ hi') : Rv lo' hi' w v xs := by
  obtain ⟨a, cap, rfl, c1, c2, h3⟩ := h
  refine ⟨a, cap, rfl, c1, c2, ?_⟩
  rcases h3 with h3 | ⟨b, o, rfl, hl, hh, hlt, hc⟩
  · exact .inl h3
  · exact .inr ⟨b, o, rfl, by omega, by omega, hlt, hc⟩
theorem Rv.nil (lo hi : Nat) (w : World) : Rv lo hi w (.slice none 0 0) [] := ⟨none, 0, rfl, Nat.le_refl _, by decide, .inl rfl⟩
theorem Rv.of_own {hi base : Nat} {w : World} {e : TypeId} {v : Value} {n : Nat} {xs : List Value} (h : w.ownsRow base e 1 v n xs) (hk : ∀ k, v.ownBlock = some k → k < hi) : Rv base hi w v xs := by
  have hl : xs.length = n := by have := h.1; omega
  rcases h.2 with ⟨rfl, h0⟩ | ⟨g, cap, cur, rfl, hb, hg, hn, hm, hc, ht⟩
  · have : xs = [] := by cases xs with
      | nil => rfl
      | cons a t => simp at hl; omega
    subst this
    exact .nil _ _ _
  · subst hl
    refine ⟨_, cap, rfl, hn, hm, .inr ⟨g, 0, rfl, hb, hk g rfl, (Array.getElem?_eq_some_iff.1 hg).1, fun j x hx => ?_⟩⟩
    have hj : j < xs.length := by
      rcases Nat.lt_or_ge j xs.length with h' | h'
      · exact h'
      · rw [List.getElem?_eq_none h'] at hx; cases hx
    rw [Nat.zero_add, h.cellAt j (by omega), hx]
theorem getD_some {α : Type} {xs : List α} {j : Nat} (d : α) (h : j < xs.length) : xs[j]? = some (xs.getD j d) := by
  rw [List.getD_eq_getElem?_getD, List.getElem?_eq_getElem h]; rfl
theorem Rv.parts {lo hi : Nat} {w : World} {v : Value} {xs : List Value} (h : Rv lo hi w v xs) : ∃ a cap, v = .slice a xs.length cap ∧ xs.length ≤ cap ∧ cap ≤ maxLen ∧
    ∀ j, j < xs.length → ∃ b o, a = some ⟨b, o, none⟩ ∧ lo ≤ b ∧ b < hi ∧ b < w.heap.size ∧ w.cell? ⟨b, o + j, none⟩ = some (xs.getD j (.bool false)) := by
  obtain ⟨a, cap, rfl, h1, h2, h3⟩ := h
  refine ⟨a, cap, rfl, h1, h2, fun j hj => ?_⟩
  rcases h3 with h3 | ⟨b, o, rfl, hl, hh, hlt, h3⟩
  · subst h3; simp at hj
  · exact ⟨b, o, rfl, hl, hh, hlt, h3 j _ (getD_some _ hj)⟩

def ints (l : List Int) : List Value := l.map (Value.int .i64)
theorem ints_len (l : List Int) : (ints l).length = l.length := by simp [ints]
theorem ints_at {l : List Int} {j : Nat} (h : j < l.length) : (ints l)[j]? = some (.int .i64 (l.getD j 0)) := by
  unfold ints; rw [List.getElem?_map, getD_some 0 h]; rfl
theorem ints_app (l m : List Int) : ints (l ++ m) = ints l ++ ints m := by simp [ints]
/-- the slice v reads as the numbers l -/
def Iv (lo hi : Nat) (w : World) (v : Value) (l : List Int) : Prop := Rv lo hi w v (ints l)
theorem Iv.keeps {lo hi : Nat} {w w' : World} {v : Value} {l : List Int} (h : Iv lo hi w v l) (k : Keeps lo hi w w') : Iv lo hi w' v l := Rv.keeps h k
theorem Iv.wide {lo hi lo' hi' : Nat} {w : World} {v : Value} {l : List Int} (h : Iv lo hi w v l) (h1 : lo' ≤ lo) (h2 : hi ≤ hi') : Iv lo' hi' w v l := Rv.wide h h1 h2
theorem Iv.parts {lo hi : Nat} {w : World} {v : Value} {l : List Int} (h : Iv lo hi w v l) : ∃ a cap, v = .slice a l.length cap ∧ l.length ≤ cap ∧ cap ≤ maxLen ∧
    ∀ j, j < l.length → ∃ b o, a = some ⟨b, o, none⟩ ∧ lo ≤ b ∧ b < hi ∧ b < w.heap.size ∧ w.cell? ⟨b, o + j, none⟩ = some (.int .i64 (l.getD j 0)) := by
  obtain ⟨a, cap, rfl, h1, h2, h3⟩ := h
  rw [ints_len] at *
  refine ⟨a, cap, rfl, h1, h2, fun j hj => ?_⟩
  rcases h3 with h3 | ⟨b, o, rfl, hl, hh, hlt, h3⟩
  · have := congrArg List.length h3; rw [ints_len] at this; simp at this; subst this; simp at hj
  · exact ⟨b, o, rfl, hl, hh, hlt, h3 j _ (ints_at hj)⟩
/-- the slice v reads as the rows ll -/
def Ivv (lo hi : Nat) (w : World) (v : Value) (ll : List (List Int)) : Prop :=
  ∃ vs, vs.length = ll.length ∧ Rv lo hi w v vs ∧ ∀ j, j < ll.length → Iv lo hi w (vs.getD j (.bool false)) (ll.getD j [])
theorem Ivv.keeps {lo hi : Nat} {w w' : World} {v : Value} {ll : List (List Int)} (h : Ivv lo hi w v ll) (k : Keeps lo hi w w') : Ivv lo hi w' v ll := by
  obtain ⟨vs, h1, h2, h3⟩ := h
  exact ⟨vs, h1, h2.keeps k, fun j hj => (h3 j hj).keeps k⟩
theorem Ivv.wide {lo hi lo' hi' : Nat} {w : World} {v : Value} {ll : List (List Int)} (h : Ivv lo hi w v ll) (a : lo' ≤ lo) (b : hi ≤ hi') : Ivv lo' hi' w v ll := by
  obtain ⟨vs, h1, h2, h3⟩ := h
  exact ⟨vs, h1, h2.wide a b, fun j hj => (h3 j hj).wide a b⟩
theorem Ivv.parts {lo hi : Nat} {w : World} {v : Value} {ll : List (List Int)} (h : Ivv lo hi w v ll) : ∃ a cap, v = .slice a ll.length cap ∧ ll.length ≤ cap ∧ cap ≤ maxLen ∧
    ∀ j, j < ll.length → ∃ b o u, a = some ⟨b, o, none⟩ ∧ lo ≤ b ∧ b < hi ∧ b < w.heap.size ∧ w.cell? ⟨b, o + j, none⟩ = some u ∧ Iv lo hi w u (ll.getD j []) := by
  obtain ⟨vs, h1, h2, h3⟩ := h
  obtain ⟨a, cap, rfl, c1, c2, c3⟩ := h2.parts
  refine ⟨a, cap, by rw [h1], by omega, c2, fun j hj => ?_⟩
  obtain ⟨b, o, e, l1, l2, l3, l4⟩ := c3 j (by omega)
  exact ⟨b, o, _, e, l1, l2, l3, l4, h3 j hj⟩
/-- the j-th row -/
theorem Ivv.row {lo hi : Nat} {w : World} {v : Value} {ll : List (List Int)} {a : Option Addr} {n cap : Nat} (h : Ivv lo hi w v ll) (hv : v = .slice a n cap) (j : Nat) (hj : j < ll.length) :
    ∃ b o u, a = some ⟨b, o, none⟩ ∧ lo ≤ b ∧ b < hi ∧ b < w.heap.size ∧ w.cell? ⟨b, o + j, none⟩ = some u ∧ Iv lo hi w u (ll.getD j []) := by
  obtain ⟨a', cap', e, _, _, h4⟩ := h.parts
  rw [hv] at e
  cases e
  exact h4 j hj
theorem Iv.form {lo hi : Nat} {w : World} {v : Value} {l : List Int} (h : Iv lo hi w v l) : ∃ a c, v = .slice a l.length c := by
  obtain ⟨a, c, e, _⟩ := h.parts
  exact ⟨a, c, e⟩
theorem Iv.drewN {lo hi : Nat} {w : World} {v : Value} {l : List Int} (h : Iv lo hi w v l) (n : Nat) : Iv lo hi (w.drewN n) v l := h.keeps (Keeps.of_all (below_drewN' (Below.refl _ _) n))
/-- the value v reads as the model m -/
def Mv (lo hi : Nat) (w : World) (v : Value) (m : Md) : Prop :=
  ∃ fv bv, v = .agg #[fv, bv, .int .i64 m.actual] ∧ Iv lo hi w fv m.facts ∧ Ivv lo hi w bv m.blocks
theorem Mv.keeps {lo hi : Nat} {w w' : World} {v : Value} {m : Md} (h : Mv lo hi w v m) (k : Keeps lo hi w w') : Mv lo hi w' v m := by
  obtain ⟨fv, bv, e, h1, h2⟩ := h
  exact ⟨fv, bv, e, h1.keeps k, h2.keeps k⟩
theorem Mv.wide {lo hi lo' hi' : Nat} {w : World} {v : Value} {m : Md} (h : Mv lo hi w v m) (a : lo' ≤ lo) (b : hi ≤ hi') : Mv lo' hi' w v m := by
  obtain ⟨fv, bv, e, h1, h2⟩ := h
  exact ⟨fv, bv, e, h1.wide a b, h2.wide a b⟩

theorem own_keeps {w w' : World} {base : Nat} {e : TypeId} {size : Nat} {v : Value} {n : Nat} {xs : List Value} (h : w.ownsRow base e size v n xs) (hk : ∀ k, v.ownBlock = some k → w'.heap[k]? = w.heap[k]?) : w'.ownsRow base e size v n xs := by
  refine ⟨h.1, ?_⟩
  rcases h.2 with hn | ⟨g, cap, cur, rfl, hbg, hgg, rest⟩
  · exact .inl hn
  · refine .inr ⟨g, cap, cur, rfl, hbg, ?_, rest⟩
    rw [hk g rfl]; exact hgg
/-- v owns its one-cell values xs, in a block from lo to hi -/
def Ro (lo hi : Nat) (w : World) (e : TypeId) (v : Value) (xs : List Value) : Prop := w.ownsRow lo e 1 v xs.length xs ∧ ∀ k, v.ownBlock = some k → k < hi
theorem Ro.keeps {lo hi : Nat} {w w' : World} {e : TypeId} {v : Value} {xs : List Value} (h : Ro lo hi w e v xs) (k : Keeps lo hi w w') : Ro lo hi w' e v xs :=
  ⟨own_keeps h.1 fun q hq => k.block q (h.1.lt q hq).1 (h.2 q hq) (h.1.lt q hq).2, h.2⟩
theorem Ro.wide {lo hi lo' hi' : Nat} {w : World} {e : TypeId} {v : Value} {xs : List Value} (h : Ro lo hi w e v xs) (a : lo' ≤ lo) (b : hi ≤ hi') : Ro lo' hi' w e v xs :=
  ⟨own_mono h.1 a, fun k hk => by have := h.2 k hk; omega⟩
theorem Ro.read {lo hi : Nat} {w : World} {e : TypeId} {v : Value} {xs : List Value} (h : Ro lo hi w e v xs) : Rv lo hi w v xs := Rv.of_own h.1 h.2
theorem Ro.nil (lo hi : Nat) (w : World) (e : TypeId) : Ro lo hi w e (.slice none 0 0) [] := ⟨World.ownsRow_nil _ _ _ _, fun k hk => by cases hk⟩
theorem Ro.of_own {lo : Nat} {w : World} {e : TypeId} {v : Value} {n : Nat} {xs : List Value} (h : w.ownsRow lo e 1 v n xs) : Ro lo w.heap.size w e v xs := by
  obtain rfl : n = xs.length := by have := h.1; omega
  exact ⟨h, fun k hk => (h.lt k hk).2⟩
theorem Ro.keptBy {lo hi : Nat} {w w' : World} {e : TypeId} {v : Value} {xs : List Value} {row : Option Nat} (h : Ro lo hi w e v xs) (hg : w.grownBy w' row) (hne : v.ownBlock = none ∨ v.ownBlock ≠ row) : Ro lo hi w' e v xs := ⟨h.1.kept hg hne, h.2⟩
/-- v owns the numbers l -/
def Io (lo hi : Nat) (w : World) (v : Value) (l : List Int) : Prop := Ro lo hi w 3 v (ints l)
theorem Io.read {lo hi : Nat} {w : World} {v : Value} {l : List Int} (h : Io lo hi w v l) : Iv lo hi w v l := Ro.read h
theorem Io.keeps {lo hi : Nat} {w w' : World} {v : Value} {l : List Int} (h : Io lo hi w v l) (k : Keeps lo hi w w') : Io lo hi w' v l := Ro.keeps h k
theorem Io.wide {lo hi lo' hi' : Nat} {w : World} {v : Value} {l : List Int} (h : Io lo hi w v l) (a : lo' ≤ lo) (b : hi ≤ hi') : Io lo' hi' w v l := Ro.wide h a b
theorem Ro.form {lo hi : Nat} {w : World} {e : TypeId} {v : Value} {xs : List Value} (h : Ro lo hi w e v xs) : ∃ a c, v = .slice a xs.length c := by
  rcases h.1.2 with ⟨rfl, h0⟩ | ⟨g, cap, cur, rfl, _⟩
  · exact ⟨none, 0, by rw [h0]⟩
  · exact ⟨_, _, rfl⟩
theorem Io.form {lo hi : Nat} {w : World} {v : Value} {l : List Int} (h : Io lo hi w v l) : ∃ a c, v = .slice a l.length c := by
  obtain ⟨a, c, e⟩ := Ro.form h
  exact ⟨a, c, by rw [e, ints_len]⟩
/-- two rows do not share their memory -/
def apart (u v : Value) : Prop := u.ownBlock = none ∨ u.ownBlock ≠ v.ownBlock
theorem apart_symm {u v : Value} (h : apart u v) : apart v u := by
  rcases h with h | h
  · cases hv : v.ownBlock with
    | none => exact .inl hv
    | some k => exact .inr (by rw [h, hv]; exact fun e => by cases e)
  · exact .inr (Ne.symm h)
/-- rows of rows: the rows vs hold the lists ll -/
def Rows' (lo hi : Nat) (w : World) (vs : List Value) (ll : List (List Int)) : Prop := vs.length = ll.length ∧ ∀ j, j < ll.length → Io lo hi w (vs.getD j (.bool false)) (ll.getD j [])
theorem Rows'.keeps {lo hi : Nat} {w w' : World} {vs : List Value} {ll : List (List Int)} (h : Rows' lo hi w vs ll) (k : Keeps lo hi w w') : Rows' lo hi w' vs ll := ⟨h.1, fun j hj => (h.2 j hj).keeps k⟩
theorem Rows'.wide {lo hi lo' hi' : Nat} {w : World} {vs : List Value} {ll : List (List Int)} (h : Rows' lo hi w vs ll) (a : lo' ≤ lo) (b : hi ≤ hi') : Rows' lo' hi' w vs ll := ⟨h.1, fun j hj => (h.2 j hj).wide a b⟩
/-- v owns its rows ll, each row its own -/
def Ioo (lo hi : Nat) (w : World) (v : Value) (vs : List Value) (ll : List (List Int)) : Prop :=
  Ro lo hi w 28 v vs ∧ Rows' lo hi w vs ll ∧ (v :: vs).Pairwise apart
theorem Ioo.read {lo hi : Nat} {w : World} {v : Value} {vs : List Value} {ll : List (List Int)} (h : Ioo lo hi w v vs ll) : Ivv lo hi w v ll := ⟨vs, h.2.1.1, h.1.read, fun j hj => (h.2.1.2 j hj).read⟩
theorem Ioo.keeps {lo hi : Nat} {w w' : World} {v : Value} {vs : List Value} {ll : List (List Int)} (h : Ioo lo hi w v vs ll) (k : Keeps lo hi w w') : Ioo lo hi w' v vs ll := ⟨h.1.keeps k, h.2.1.keeps k, h.2.2⟩
theorem Ioo.wide {lo hi lo' hi' : Nat} {w : World} {v : Value} {vs : List Value} {ll : List (List Int)} (h : Ioo lo hi w v vs ll) (a : lo' ≤ lo) (b : hi ≤ hi') : Ioo lo' hi' w v vs ll := ⟨h.1.wide a b, h.2.1.wide a b, h.2.2⟩
/-- v owns the model m -/
def Mo (lo hi : Nat) (w : World) (v : Value) (m : Md) : Prop :=
  ∃ fv bv vs, v = .agg #[fv, bv, .int .i64 m.actual] ∧ Io lo hi w fv m.facts ∧ Ioo lo hi w bv vs m.blocks ∧ ∀ u ∈ bv :: vs, apart fv u
theorem Mo.read {lo hi : Nat} {w : World} {v : Value} {m : Md} (h : Mo lo hi w v m) : Mv lo hi w v m := by
  obtain ⟨fv, bv, vs, e, h1, h2, _⟩ := h
  exact ⟨fv, bv, e, h1.read, h2.read⟩
theorem Mo.keeps {lo hi : Nat} {w w' : World} {v : Value} {m : Md} (h : Mo lo hi w v m) (k : Keeps lo hi w w') : Mo lo hi w' v m := by
  obtain ⟨fv, bv, vs, e, h1, h2, h3⟩ := h
  exact ⟨fv, bv, vs, e, h1.keeps k, h2.keeps k, h3⟩
theorem Mo.wide {lo hi lo' hi' : Nat} {w : World} {v : Value} {m : Md} (h : Mo lo hi w v m) (a : lo' ≤ lo) (b : hi ≤ hi') : Mo lo' hi' w v m := by
  obtain ⟨fv, bv, vs, e, h1, h2, h3⟩ := h
  exact ⟨fv, bv, vs, e, h1.wide a b, h2.wide a b, h3⟩

/-- a row in an earlier block than another is apart from it -/
theorem apart_lt {u v : Value} {B : Nat} (hu : ∀ k, u.ownBlock = some k → k < B) (hv : ∀ k, v.ownBlock = some k → B ≤ k) : apart u v := by
  cases h : u.ownBlock with
  | none => exact .inl h
  | some k => exact .inr fun e => by have h1 := hu k h; have h2 := hv k (by rw [← e, h]); omega
theorem apart_nil (v : Value) : apart (.slice none 0 0) v := .inl rfl

/-- an answer: a new row of numbers -/
def IntsAns (w : World) (l : List Int) (e : Ending) (w' : World) : Prop := ∃ v, e = .returned v ∧ Io w.heap.size w'.heap.size w' v l ∧ Below w.heap.size w w'
/-- an answer: a new model -/
def MdAns (w : World) (m : Md) (e : Ending) (w' : World) : Prop := ∃ v, e = .returned v ∧ Mo w.heap.size w'.heap.size w' v m ∧ Below w.heap.size w w'
/-- an answer: a new model and a bool -/
def MdAns2 (w : World) (r : Option Md) (e : Ending) (w' : World) : Prop := ∃ v, e = .returned (.tuple #[v, .bool r.isSome]) ∧ Mo w.heap.size w'.heap.size w' v (r.getD ⟨[], [], 0⟩) ∧ Below w.heap.size w w'
theorem Mo.none (lo hi : Nat) (w : World) : Mo lo hi w (.agg #[.slice none 0 0, .slice none 0 0, .int .i64 0]) ⟨[], [], 0⟩ :=
  ⟨_, _, [], rfl, Ro.nil _ _ _ _, ⟨Ro.nil _ _ _ _, ⟨rfl, fun j hj => by simp at hj⟩, List.pairwise_singleton _ _⟩, fun u _ => apart_nil u⟩

/-- the marks of a row, from k on -/
def mrow (k n : Nat) : List Int := (List.range n).map fun i => ((k + i : Nat) : Int)
def mrows : Nat → List (List Int) → List (List Int)
  | _, [] => []
  | k, l :: ls => mrow k l.length :: mrows (k + l.length) ls
def tot : List (List Int) → Nat
  | [] => 0
  | l :: ls => l.length + tot ls
theorem mrow_len (k n : Nat) : (mrow k n).length = n := by simp [mrow]
theorem mrow_get {k n i : Nat} (h : i < n) : (mrow k n).getD i 0 = ((k + i : Nat) : Int) := by
  unfold mrow; rw [List.getD_eq_getElem?_getD, List.getElem?_map, List.getElem?_range h]; rfl
theorem mrow_set {k i : Nat} {l : List Int} (hi : i < l.length) : (mrow k i ++ l.drop i).set i ((k + i : Nat) : Int) = mrow k (i + 1) ++ l.drop (i + 1) := by
  rw [List.set_append_right _ _ (by rw [mrow_len]; exact Nat.le_refl _), mrow_len, Nat.sub_self, List.drop_eq_getElem_cons hi, List.set_cons_zero]
  unfold mrow
  rw [List.range_succ, List.map_append]; simp
theorem tot_app : ∀ (a b : List (List Int)), tot (a ++ b) = tot a + tot b
  | [], b => by simp [tot]
  | x :: a, b => by rw [List.cons_append, tot, tot, tot_app a b]; omega
theorem mrows_len : ∀ (k : Nat) (ls : List (List Int)), (mrows k ls).length = ls.length
  | _, [] => rfl
  | k, l :: ls => by rw [mrows, List.length_cons, List.length_cons, mrows_len]
theorem mrows_app : ∀ (k : Nat) (a b : List (List Int)), mrows k (a ++ b) = mrows k a ++ mrows (k + tot a) b
  | k, [], b => by simp [mrows, tot]
  | k, x :: a, b => by rw [List.cons_append, mrows, mrows, mrows_app _ a b, tot, List.cons_append, show k + x.length + tot a = k + (x.length + tot a) by omega]
theorem tot_mrows : ∀ (k : Nat) (ls : List (List Int)), tot (mrows k ls) = tot ls
  | _, [] => rfl
  | k, l :: ls => by rw [mrows, tot, tot, tot_mrows, mrow_len]
theorem take_snocL {ls : List (List Int)} {k : Nat} (h : k < ls.length) : ls.take (k + 1) = ls.take k ++ [ls.getD k []] := by
  rw [List.take_add_one, getD_some [] h]; rfl
theorem tot_take {ls : List (List Int)} {k : Nat} (h : k < ls.length) : tot (ls.take (k + 1)) = tot (ls.take k) + (ls.getD k []).length := by
  rw [take_snocL h, tot_app]; simp [tot]
theorem tot_take_le (ls : List (List Int)) (k : Nat) : tot (ls.take k) ≤ tot ls := by
  have := tot_app (ls.take k) (ls.drop k); rw [List.take_append_drop] at this; omega
theorem tot_get_le {ls : List (List Int)} {k : Nat} (h : k < ls.length) : tot (ls.take k) + (ls.getD k []).length ≤ tot ls := by
  rw [← tot_take h]; exact tot_take_le _ _
theorem mrows_get : ∀ (k : Nat) (ls : List (List Int)) (j : Nat), j < ls.length → (mrows k ls).getD j [] = mrow (k + tot (ls.take j)) (ls.getD j []).length
  | k, l :: ls, 0, _ => by simp [mrows, tot]
  | k, l :: ls, j + 1, h => by
    have := mrows_get (k + l.length) ls j (by simpa using h)
    rw [mrows, List.getD_cons_succ, this, List.take_succ_cons, tot, List.getD_cons_succ, show k + l.length + tot (ls.take j) = k + (l.length + tot (ls.take j)) by omega]
/-- the marks of a model -/
def mmod (k : Nat) (m : Md) : Md := ⟨mrow k m.facts.length, mrows (k + m.facts.length) m.blocks, m.actual⟩
def msize (m : Md) : Nat := m.facts.length + tot m.blocks
end Go.Proofs.YteahjnobnbafiaaDoor

/-
  Contracts of the laws' helpers over []int and [][]int: toIntS, szIntS, eqIntS, markIntS, heldIntS, toIntSS, szIntSS, eqIntSS, markIntSS, heldIntSS. Conditions: bounds on the lengths, which the laws check.
-/
namespace Go.Proofs.YteahjnobnbafiaaDoor
open Go.RowKit Go.WideShapes
open Go Go.Deep

theorem Tryd.infoI : (Tryd.prog.info? 3).map (fun i => (i.zero, i.size, i.bytes)) = some (some (.int .i64 0), 1, 8) := by kernel_rfl
theorem Tryd.infoL : (Tryd.prog.info? 28).map (fun i => (i.zero, i.size, i.bytes)) = some (some (.slice none 0 0), 1, 24) := by kernel_rfl

theorem set_takeL {α : Type} (xs : List α) (k n : Nat) (d x : α) (hk : k < xs.length) (hn : k < n) (hx : xs[k]? = some x) : (xs.take k ++ List.replicate (n - k) d).set k x = xs.take (k + 1) ++ List.replicate (n - (k + 1)) d := by
  have hl : (xs.take k).length = k := by rw [List.length_take]; omega
  rw [List.set_append_right _ _ (by omega), hl, Nat.sub_self, show n - k = (n - (k + 1)) + 1 by omega, List.replicate_succ, List.set_cons_zero, List.take_add_one, hx]
  simp
/-- what a store into an own row of one-cell values asks -/
theorem own_one {w : World} {base g cap n k : Nat} {e : TypeId} {xs : List Value} (h : w.ownsRow base e 1 (.slice (some ⟨g, 0, none⟩) n cap) n xs) (hk : k < n) :
    w.frozen? ⟨g, k, none⟩ = false ∧ ∃ z, w.cell? ⟨g, k, none⟩ = some z := by
  refine ⟨h.frozenAt _, ?_⟩
  rw [h.cellAt k (by omega)]
  exact ⟨_, List.getElem?_eq_getElem (by rw [h.1]; omega)⟩
theorem madeI (n : Nat) : (madeCells (Value.int .i64 0).cells n).toList = ints (List.replicate n 0) := by
  rw [show (Value.int .i64 0).cells = #[Value.int .i64 0] from rfl, toList_madeCells_one]; simp [ints]
theorem ints_set (l : List Int) (k : Nat) (x : Int) : (ints l).set k (.int .i64 x) = ints (l.set k x) := by simp [ints, List.map_set]

/-- what is left of a budget -/
def budget (left : Int) (n : Nat) : Int := if left - n < 0 then -1 else left - n
theorem madeL (n : Nat) : (madeCells (Value.slice none 0 0).cells n).toList = List.replicate n (Value.slice none 0 0) := by
  rw [show (Value.slice none 0 0).cells = #[Value.slice none 0 0] from rfl, toList_madeCells_one]
/-- rows that lie in turn: each in a block of its own -/
theorem pair_snoc {v u : Value} {vs : List Value} (h : (v :: vs).Pairwise apart) (hu : ∀ x ∈ v :: vs, apart x u) : (v :: (vs ++ [u])).Pairwise apart := by
  rw [show v :: (vs ++ [u]) = (v :: vs) ++ [u] from rfl, List.pairwise_append]
  exact ⟨h, List.pairwise_singleton _ _, fun x hx y hy => by simp only [List.mem_singleton] at hy; subst hy; exact hu x hx⟩
theorem Rows'.snoc {lo hi : Nat} {w : World} {vs : List Value} {ll : List (List Int)} {u : Value} {l : List Int} (h : Rows' lo hi w vs ll) (hu : Io lo hi w u l) : Rows' lo hi w (vs ++ [u]) (ll ++ [l]) := by
  refine ⟨by simp [h.1], fun j hj => ?_⟩
  rcases Nat.lt_or_ge j ll.length with h1 | h1
  · have e1 : (vs ++ [u]).getD j (.bool false) = vs.getD j (.bool false) := by
      rw [List.getD_eq_getElem?_getD, List.getElem?_append_left (by rw [h.1]; exact h1), List.getD_eq_getElem?_getD]
    have e2 : (ll ++ [l]).getD j [] = ll.getD j [] := by
      rw [List.getD_eq_getElem?_getD, List.getElem?_append_left h1, List.getD_eq_getElem?_getD]
    rw [e1, e2]; exact h.2 j h1
  · have hj' : j = ll.length := by simp at hj; omega
    have e1 : (vs ++ [u]).getD j (.bool false) = u := by
      rw [List.getD_eq_getElem?_getD, List.getElem?_append_right (by rw [h.1]; omega), h.1, hj']; simp
    have e2 : (ll ++ [l]).getD j [] = l := by
      rw [List.getD_eq_getElem?_getD, List.getElem?_append_right (by omega), hj']; simp
    rw [e1, e2]; exact hu
theorem Rows'.blk {lo hi : Nat} {w : World} {vs : List Value} {ll : List (List Int)} (h : Rows' lo hi w vs ll) {x : Value} (hx : x ∈ vs) : ∀ k, x.ownBlock = some k → lo ≤ k ∧ k < hi ∧ k < w.heap.size := by
  obtain ⟨j, hj, rfl⟩ := List.getElem_of_mem hx
  have hr := h.2 j (by rw [← h.1]; exact hj)
  rw [List.getD_eq_getElem?_getD, List.getElem?_eq_getElem hj] at hr
  intro k hk
  exact ⟨(hr.1.lt k hk).1, hr.2 k hk, (hr.1.lt k hk).2⟩

theorem budget_add (left : Int) (a b : Nat) : budget left (a + b) = if left - a < 0 then -1 else budget (left - a) b := by
  unfold budget
  by_cases h1 : left - (a : Int) < 0
  · rw [if_pos h1, if_pos (by omega)]
  · rw [if_neg h1]
    by_cases h2 : left - (a : Int) - b < 0
    · rw [if_pos h2, if_pos (by omega)]
    · rw [if_neg h2, if_neg (by omega)]; omega
end Go.Proofs.YteahjnobnbafiaaDoor

/-
  Contracts of the laws' helpers over [][]int and models: eqIntSS, markIntSS, heldIntSS, toModel, szModel, eqModel, markModel, heldModel; what an argument that is a model is. Conditions: bounds on the lengths, which the laws check.
-/
namespace Go.Proofs.YteahjnobnbafiaaDoor
open Go.RowKit Go.WideShapes
open Go Go.Deep

theorem quiet_drawn {P : Program} {f : FuncId} {args : Array Value} {w : World} {v : Value} (h : ∀ m, Calls P f args (w.drewN m) fun e w' => e = .returned v ∧ ∃ n, w' = (w.drewN m).drewN n) (m : Nat) :
    Calls P f args (w.drewN m) fun e w' => e = .returned v ∧ ∃ n, w' = w.drewN n := (h m).mono fun _ _ ⟨he, n, hw⟩ => ⟨he, m + n, by rw [hw, World.drewN_drewN]⟩

theorem apart_at {v : Value} {vs : List Value} (h : (v :: vs).Pairwise apart) {i j : Nat} (hi : i < vs.length) (hj : j < vs.length) (hij : i ≠ j) : apart (vs.getD j (.bool false)) (vs.getD i (.bool false)) := by
  have h2 := List.pairwise_iff_getElem.1 (List.pairwise_cons.1 h).2
  rw [List.getD_eq_getElem?_getD, List.getElem?_eq_getElem hj, List.getD_eq_getElem?_getD, List.getElem?_eq_getElem hi]
  rcases Nat.lt_or_gt_of_ne hij with h1 | h1
  · exact apart_symm (h2 i j hi hj h1)
  · exact h2 j i hj hi h1
/-- one row of an owned table is written -/
theorem Ioo.step {lo hi : Nat} {w w' : World} {v : Value} {vs : List Value} {ll : List (List Int)} (h : Ioo lo hi w v vs ll) {i : Nat} (hi0 : i < ll.length) {l' : List Int}
    (hg : w.grownBy w' (vs.getD i (.bool false)).ownBlock) (hl : Io lo hi w' (vs.getD i (.bool false)) l') : Ioo lo hi w' v vs (ll.set i l') := by
  have hlen := h.2.1.1
  have hm : vs.getD i (.bool false) ∈ vs := by
    rw [List.getD_eq_getElem?_getD, List.getElem?_eq_getElem (by omega)]; exact List.getElem_mem _
  refine ⟨h.1.keptBy hg ((List.pairwise_cons.1 h.2.2).1 _ hm), ⟨by rw [List.length_set]; exact hlen, fun j hj => ?_⟩, h.2.2⟩
  rw [List.length_set] at hj
  by_cases e : j = i
  · subst e
    rw [List.getD_eq_getElem?_getD (l := ll.set j l'), List.getElem?_set_self (by omega)]
    exact hl
  · rw [List.getD_eq_getElem?_getD (l := ll.set i l'), List.getElem?_set_ne (Ne.symm e), ← List.getD_eq_getElem?_getD]
    exact Ro.keptBy (h.2.1.2 j hj) hg (apart_at h.2.2 (by omega) (by omega) (Ne.symm e))
/-- only the rows vs are written -/
def Only (vs : List Value) (w w' : World) : Prop := w.heap.size ≤ w'.heap.size ∧ ∀ b, b < w.heap.size → (∀ u ∈ vs, u.ownBlock ≠ some b) → w'.heap[b]? = w.heap[b]?
theorem Only.refl (vs : List Value) (w : World) : Only vs w w := ⟨Nat.le_refl _, fun _ _ _ => rfl⟩
theorem Only.grown {vs : List Value} {w w1 w2 : World} (h : Only vs w w1) {u : Value} (hu : u ∈ vs) (hg : w1.grownBy w2 u.ownBlock) : Only vs w w2 :=
  ⟨Nat.le_trans h.1 hg.size, fun b hb hne => (hg.block b (Nat.lt_of_lt_of_le hb h.1) (fun e => hne u hu e.symm)).trans (h.2 b hb hne)⟩
theorem Only.io {vs : List Value} {w w' : World} (h : Only vs w w') {lo hi : Nat} {x : Value} {l : List Int} (hx : Io lo hi w x l) (ha : ∀ u ∈ vs, apart x u) : Io lo hi w' x l :=
  ⟨own_keeps hx.1 fun q hq => h.2 q (hx.1.lt q hq).2 fun u hu e => by
    rcases ha u hu with h1 | h1
    · rw [h1] at hq; cases hq
    · exact h1 (by rw [hq, e]), hx.2⟩
theorem marks_setL (k : Nat) (ll : List (List Int)) (i : Nat) (h : i < ll.length) :
    (mrows k (ll.take i) ++ ll.drop i).set i (mrow (k + tot (ll.take i)) (ll.getD i []).length) = mrows k (ll.take (i + 1)) ++ ll.drop (i + 1) := by
  have hl : (mrows k (ll.take i)).length = i := by rw [mrows_len, List.length_take]; omega
  rw [List.set_append_right _ _ (by omega), hl, Nat.sub_self, List.drop_eq_getElem_cons h, List.set_cons_zero, take_snocL h, mrows_app, mrows, mrows, List.append_assoc]
  rfl
theorem marks_getL (k : Nat) (ll : List (List Int)) (i : Nat) (h : i < ll.length) : (mrows k (ll.take i) ++ ll.drop i).getD i [] = ll.getD i [] := by
  have hl : (mrows k (ll.take i)).length = i := by rw [mrows_len, List.length_take]; omega
  rw [List.getD_eq_getElem?_getD, List.getElem?_append_right (by omega), hl, Nat.sub_self, List.getElem?_drop, Nat.add_zero, ← List.getD_eq_getElem?_getD]

end Go.Proofs.YteahjnobnbafiaaDoor
