/-
  Several texts in one: Bit Num Tel Set Rst Bol. Conditions: as each theorem says.
-/
import Derived.Test.YtodjohdbngbpaaaGreatZMok
import Derived.IntWalk
import Derived.Test.YtodjohdbngbpaaaGreatZArr
/-
  Contracts of spec.l03Bit and grid.told. Conditions: the numbers are those of a valid model.
-/
namespace Go.Proofs.YtodjohdbngbpaaaGreat
open Go.RowKit Go.WideShapes
open Go Go.Deep
set_option linter.unusedSimpArgs false

/-- a fact of a world -/
def bitI (x : Int) (f : Nat) : Int := x / 2 ^ f % 2
theorem bit_cases {f : Nat} (h : f < 4) : f = 0 ∨ f = 1 ∨ f = 2 ∨ f = 3 := by omega
theorem nib_cases {x : Int} (h0 : 0 ≤ x) (h1 : x < 16) : x = 0 ∨ x = 1 ∨ x = 2 ∨ x = 3 ∨ x = 4 ∨ x = 5 ∨ x = 6 ∨ x = 7 ∨ x = 8 ∨ x = 9 ∨ x = 10 ∨ x = 11 ∨ x = 12 ∨ x = 13 ∨ x = 14 ∨ x = 15 := by omega

theorem Tryz.shrInt (p q : Operand) (x : Int) (f : Nat) (h0 : 0 ≤ x) (h1 : x < 16) (hf : f < 4) (w : World) : (do eqGuard .shr 3 p q (.int .i64 x) (.int .i64 f); binOp .shr 3 (.int .i64 x) (.int .i64 f) : Sem Value).run Tryz.prog w = .ok (.int .i64 (x / 2 ^ f)) w := by
  rcases bit_cases hf with rfl | rfl | rfl | rfl <;> rcases nib_cases h0 h1 with rfl | rfl | rfl | rfl | rfl | rfl | rfl | rfl | rfl | rfl | rfl | rfl | rfl | rfl | rfl | rfl <;> kernel_rfl
theorem Tryz.andInt (p q : Operand) (x : Int) (h0 : 0 ≤ x) (h1 : x < 16) (w : World) : (do eqGuard .and 3 p q (.int .i64 x) (.int .i64 1); binOp .and 3 (.int .i64 x) (.int .i64 1) : Sem Value).run Tryz.prog w = .ok (.int .i64 (x % 2)) w := by
  rcases nib_cases h0 h1 with rfl | rfl | rfl | rfl | rfl | rfl | rfl | rfl | rfl | rfl | rfl | rfl | rfl | rfl | rfl | rfl <;> kernel_rfl
section
variable {P : Program} {ops : Array Oper} {S : World → Prop}
/-- an operation on two numbers whose run is known -/
theorem yields_bin {o : Oper} {a : Act} (hw : Region.wanted o (yielded ops a.tmps) = true) (bop : BinOp) (T R : TypeId) (x y : Operand) (u v r : Value) (ho : o.op = .binOp bop T x y R) (hx : a.eval x = u) (hy : a.eval y = v)
    (hr : ∀ W, (do eqGuard bop T x y u v; binOp bop T u v : Sem Value).run P W = .ok r W) : YieldsIf P ops S o r a :=
  .inl ⟨hw, fun W _ => by unfold execOp; simp only [ho, hx, hy]; rw [Sem.run_bind, hr]; rfl⟩
end

theorem set_getD_same {α : Type} {l : List α} {a : Nat} {x d : α} (h : a < l.length) : (l.set a x).getD a d = x := by
  rw [List.getD_eq_getElem?_getD, List.getElem?_set_self h]; rfl
theorem set_getD_ne {α : Type} {l : List α} {a k : Nat} {x d : α} (h : k ≠ a) : (l.set a x).getD k d = l.getD k d := by
  rw [List.getD_eq_getElem?_getD, List.getElem?_set_ne (Ne.symm h), List.getD_eq_getElem?_getD]
end Go.Proofs.YtodjohdbngbpaaaGreat

/-
  spec.l03Number, spec.NumberBlocks and impl.NumberBlocks, and the walk of the law FnExactNumberBlocks. Conditions of the contracts: bounds on the lengths, which the law checks.
-/
namespace Go.Proofs.YtodjohdbngbpaaaGreat
open Go.RowKit Go.WideShapes
open Go Go.Deep

set_option maxRecDepth 100000 in
set_option maxHeartbeats 8000000 in
theorem specNumber_any (lo hi : Nat) (v : Value) (l : List Int) (w : World) (hr : Iv lo hi w v l) (hn : l.length ≤ 1048576) :
    Calls Tryz.prog 99 #[v] w (IntsAns w (num l)) := by
  obtain ⟨a, cap, rfl, h1, h2, h3⟩ := hr.parts
  unfold maxLen at h2
  have KEY := Lib.hid h3
  clear h3 hr
  have HLE := Lib.hid (fun k (h : k < l.length) => look_end (l := l) (i := k))
  have HLS := Lib.hid (fun k j (h : k < l.length) (h' : j < k) => look_step (l := l) h h')
  have HNL := Lib.hid (numS_len l)
  have HND : Hid ((numS l l.length).1 = num l) := Lib.hid rfl
  go_enter Tryz.func99, Tryz.ntmps99
  go_wp2
  go_loopw [3, 4, 13] (fun vv qv iv wr => ∃ (k q : Nat) (v : Value), k ≤ l.length ∧ iv = .int .i64 k ∧ qv = .int .i64 q ∧ v = vv ∧ q ≤ k ∧ Hid (q = (numS l k).2) ∧ Hid (wr.ownsRow w.heap.size 3 1 v k (ints (numS l k).1)) ∧ Hid (Below w.heap.size w wr)) (fun _ _ iv _ => l.length - (intOf iv).toNat)
  case atStart => exact ⟨0, 0, _, Nat.zero_le _, rfl, rfl, rfl, Nat.le_refl _, Lib.hid rfl, Lib.hid (World.ownsRow_lit (w := w) #[] 0 (Nat.le_refl _) (by decide) rfl), Lib.hid (by go_grown)⟩
  case round =>
    obtain ⟨k, q, v, hk, rfl, rfl, rfl, hqk, HQ, HO, HB⟩ := hrel
    have hro : Ro w.heap.size wr.heap.size wr 3 v (ints (numS l k).1) := Ro.of_own HO.out
    obtain ⟨va, vc, e0, _, hvm, hcell⟩ := hro.read.parts
    rw [ints_len, HNL.out] at e0 hcell
    unfold maxLen at hvm
    have HCE : Hid (∀ j, j < k → ∃ g, va = some ⟨g, 0, none⟩ ∧ wr.cell? ⟨g, j, none⟩ = some (.int .i64 ((numS l k).1.getD j 0))) := Lib.hid (fun j hj => by
      rcases HO.out.2 with ⟨e1, h0⟩ | ⟨g, c, cur, e1, _⟩
      · omega
      · rw [e1] at e0
        simp only [Value.slice.injEq, true_and] at e0
        refine ⟨g, e0.1.symm, ?_⟩
        have h := HO.out
        rw [e1] at h
        rw [h.cellAt j (by omega), ints_at (by rw [HNL.out]; exact hj)])
    clear hcell hro
    subst e0
    by_cases hlt : k < l.length
    · obtain ⟨b, o, rfl, _, _, hb, c0⟩ := KEY.out k hlt
      rw [← HB.out.cell (p := ⟨b, o + k, none⟩) hb] at c0
      have HLE2 := Lib.hid (HLE.out k hlt)
      have HLS2 := Lib.hid (fun j h => HLS.out k j hlt h)
      have hcap : ¬ cap = 0 := by omega
      have hk0 : (0 : Int) ≤ (k : Int) := Int.natCast_nonneg _
      have hk1 : (k : Int) ≤ (cap : Int) := by omega
      have HL0 : Hid (look l k 0 = -1) := Lib.hid (by unfold look; rw [if_neg (by omega)])
      generalize hx : l.getD k 0 = x at *
      have HX := Lib.hid hx
      clear hx
      go_wp2
      go_loop [7, 22] (fun kv jv => ∃ j : Nat, j ≤ k ∧ jv = .int .i64 j ∧ kv = .int .i64 (look l k j)) (fun _ jv => k - (intOf jv).toNat)
      case atStart => exact ⟨0, Nat.zero_le _, rfl, by rw [HL0.out]⟩
      case round =>
        obtain ⟨j, hj, rfl, rfl⟩ := hrel
        by_cases hjk : j < k
        · obtain ⟨b', o', e3, _, _, hb', d0⟩ := KEY.out j (by omega)
          cases e3
          rw [← HB.out.cell (p := ⟨b, o + j, none⟩) hb'] at d0
          obtain ⟨g, rfl, g0⟩ := HCE.out j hjk
          have HST := Lib.hid (HLS2.out j hjk)
          generalize l.getD j 0 = y at *
          generalize (numS l k).1.getD j 0 = z at *
          generalize look l k j = u at *
          by_cases e : y = x
          · rw [if_pos e] at HST
            subst e
            go_wp2
            go_round
            case rel => exact ⟨j + 1, by omega, by go_num, by rw [HST.out]⟩
            case measure => simp [intOf]; omega
          · rw [if_neg e] at HST
            have e1 : (y == x) = false := by simpa using e
            go_wp2
            go_round
            case rel => exact ⟨j + 1, by omega, by go_num, by rw [HST.out]⟩
            case measure => simp [intOf]; omega
        · obtain rfl : j = k := by omega
          clear c0 HCE HLS2
          by_cases hneg : look l j j < 0
          · have HE : Hid (numS l (j + 1) = ((numS l j).1 ++ [((numS l j).2 : Int)], (numS l j).2 + 1)) := Lib.hid (by rw [HLE2.out, if_pos hneg])
            generalize look l j j = u at *
            go_wp2_with (at_builtin; refine wpList_push rfl _ _ 23 rfl 3 (.int .i64 0) 8 Tryz.underlying23 Tryz.infoI rfl w.heap.size wr (.int .i64 q) (.slice va j vc) j (ints (numS l j).1) HO.out rfl rfl rfl (by unfold maxLen; omega) (by omega) HB.out.size ?_; intro v' w4 hown hbp _; have HO4 := Lib.hid hown; have BP := Lib.hid hbp; clear hown hbp)
            go_roundw
            case rel => exact ⟨j + 1, q + 1, v', by omega, by go_num, by go_num, rfl, by omega, Lib.hid (by rw [HE.out, HQ.out]), Lib.hid (by have h := HO4.out; rw [HQ.out] at h; rw [HE.out, ints_app]; exact h), Lib.hid (HB.out.trans BP.out)⟩
            case measure => simp [intOf]; omega
          · have HE : Hid (numS l (j + 1) = ((numS l j).1 ++ [look l j j], (numS l j).2)) := Lib.hid (by rw [HLE2.out, if_neg hneg])
            generalize look l j j = u at *
            go_wp2_with (at_builtin; refine wpList_push rfl _ _ 23 rfl 3 (.int .i64 0) 8 Tryz.underlying23 Tryz.infoI rfl w.heap.size wr (.int .i64 u) (.slice va j vc) j (ints (numS l j).1) HO.out rfl rfl rfl (by unfold maxLen; omega) (by omega) HB.out.size ?_; intro v' w4 hown hbp _; have HO4 := Lib.hid hown; have BP := Lib.hid hbp; clear hown hbp)
            go_roundw
            case rel => exact ⟨j + 1, q, v', by omega, by go_num, rfl, rfl, by omega, Lib.hid (by rw [HE.out]; exact HQ.out), Lib.hid (by rw [HE.out, ints_app]; exact HO4.out), Lib.hid (HB.out.trans BP.out)⟩
            case measure => simp [intOf]; omega
    · obtain rfl : k = l.length := by omega
      go_wp2
      go_ret
      have h := HO.out
      rw [HND.out] at h
      exact ⟨_, rfl, Ro.of_own h, HB.out⟩

end Go.Proofs.YtodjohdbngbpaaaGreat

/-
  Contracts of spec.TellFact and impl.TellFact. No condition.
-/
namespace Go.Proofs.YtodjohdbngbpaaaGreat
open Go.RowKit Go.WideShapes
open Go Go.Deep
set_option linter.unusedSimpArgs false

end Go.Proofs.YtodjohdbngbpaaaGreat

/-
  The program's sets of worlds: sixteen bools; contracts of worldSet.list and grid.setOf. No condition.
-/
namespace Go.Proofs.YtodjohdbngbpaaaGreat
open Go.RowKit Go.WideShapes
open Go Go.Deep
set_option linter.unusedSimpArgs false

/-- the cells of a set -/
def bL (p : Nat → Bool) : List Value := (List.range 16).map fun i => Value.bool (p i)
theorem bL_len (p : Nat → Bool) : (bL p).length = 16 := by simp [bL]
theorem bL_get (p : Nat → Bool) {i : Nat} (h : i < 16) : (bL p)[i]? = some (.bool (p i)) := by
  unfold bL; rw [List.getElem?_map, List.getElem?_range h]; rfl
theorem bL_one {p : Nat → Bool} {v : Value} (h : v ∈ bL p) : v.oneCell' = true := by
  unfold bL at h
  obtain ⟨i, _, rfl⟩ := List.mem_map.1 h
  rfl
def upd (p : Nat → Bool) (i : Nat) (b : Bool) : Nat → Bool := fun j => if j = i then b else p j
theorem bL_set (p : Nat → Bool) {i : Nat} (b : Bool) : (bL p).set i (.bool b) = bL (upd p i b) := by
  apply List.ext_getElem?
  intro j
  rcases Nat.lt_or_ge j 16 with h | h
  · rw [bL_get _ h]
    by_cases e : i = j
    · subst e; rw [List.getElem?_set_self (by rw [bL_len]; exact h)]; simp [upd]
    · rw [List.getElem?_set_ne e, bL_get _ h]; simp [upd, Ne.symm e]
  · rw [List.getElem?_eq_none (by rw [List.length_set, bL_len]; exact h), List.getElem?_eq_none (by rw [bL_len]; exact h)]
theorem bL_congr {p q : Nat → Bool} (h : ∀ i, i < 16 → p i = q i) : bL p = bL q := by
  unfold bL
  exact List.map_congr_left fun i hi => by rw [h i (List.mem_range.1 hi)]
theorem bL_inj {p q : Nat → Bool} (h : bL p = bL q) : ∀ i, i < 16 → p i = q i := by
  intro i hi
  have := congrArg (·[i]?) h
  simp only [bL_get _ hi, Option.some.injEq, Value.bool.injEq] at this
  exact this
/-- the members among the first k, ascending -/
def lst (p : Nat → Bool) (k : Nat) : List Nat := (List.range k).filter p
def nums (l : List Nat) : List Int := l.map fun i => Int.ofNat i
theorem lst_succ (p : Nat → Bool) (k : Nat) : lst p (k + 1) = lst p k ++ (if p k then [k] else []) := by
  unfold lst; rw [List.range_succ, List.filter_append]; cases h : p k <;> simp [h]
theorem lst_len (p : Nat → Bool) (k : Nat) : (lst p k).length ≤ k := by
  have := List.length_filter_le p (List.range k); rw [List.length_range] at this; exact this
theorem nums_len (l : List Nat) : (nums l).length = l.length := by simp [nums]
theorem nums_app (a b : List Nat) : nums (a ++ b) = nums a ++ nums b := by simp [nums]
theorem mem_lst {p : Nat → Bool} {k i : Nat} : i ∈ lst p k ↔ i < k ∧ p i = true := by unfold lst; rw [List.mem_filter, List.mem_range]
theorem lst_congr {p q : Nat → Bool} {k : Nat} (h : ∀ i, i < k → p i = q i) : lst p k = lst q k := List.filter_congr fun i hi => h i (List.mem_range.1 hi)
theorem Tryz.allocSet (w : World) : (Instr.alloc 89 true (.tuple #[])).run Tryz.prog w = .ok (.pointer (some ⟨w.heap.size, 0, none⟩)) (w.alloc (.cells (bL (fun _ => false)).toArray 89)) := by kernel_rfl
theorem Tryz.buildSet (w : World) : (Instr.build 89 #[]).run Tryz.prog w = .ok (.agg (bL (fun _ => false)).toArray) w := by kernel_rfl
theorem Tryz.sizeSet : (Tryz.prog.info? 89).map (·.size) = some 16 := by kernel_rfl
theorem Tryz.infoB : (Tryz.prog.info? 4).map (fun i => (i.zero, i.size, i.bytes)) = some (some (.bool false), 1, 1) := by kernel_rfl

set_option maxRecDepth 100000 in
set_option maxHeartbeats 8000000 in
theorem setList_any (p : Nat → Bool) (w : World) :
    Calls Tryz.prog 61 #[.agg (bL p).toArray] w (IntsAns w (nums (lst p 16))) := by
  obtain ⟨i0, hi, _, hi1, _⟩ := info_parts Tryz.infoB
  have HX := Lib.hid (fun k (h : k < 16) => bL_get p h)
  have HL := Lib.hid (bL_len p)
  have HLL := Lib.hid (fun k => lst_len p k)
  have HLS := Lib.hid (fun k => lst_succ p k)
  generalize bL p = V at *
  go_enter Tryz.func61, Tryz.ntmps61
  go_wp2_with (refine wpList_loadM rfl 89 _ rfl w.heap.size 0 rfl 89 V V (Cm.new rfl) (fun j _ => by rw [Nat.zero_add]) _ Tryz.underlying89 rfl (by rw [HL.out]; exact Tryz.sizeSet) ?_)
  have b1 : Below w.heap.size w (w.alloc (.cells V.toArray 89)) := by go_grown
  have z1 : w.heap.size ≤ (w.alloc (.cells V.toArray 89)).heap.size := b1.size
  generalize w.alloc (.cells V.toArray 89) = w1 at *
  have B1 := Lib.hid b1
  clear b1
  go_loopw [3, 7] (fun lv iv wr => ∃ (k : Nat) (lv' : Value), k ≤ 16 ∧ iv = .int .i64 k ∧ lv' = lv ∧ Hid (wr.ownsRow w.heap.size 3 1 lv' (lst p k).length (ints (nums (lst p k)))) ∧ Hid (Below w.heap.size w wr)) (fun _ iv _ => 16 - (intOf iv).toNat)
  case atStart => exact ⟨0, _, Nat.zero_le _, rfl, rfl, Lib.hid (World.ownsRow_nil _ _ _ _), B1⟩
  case round =>
    clear B1 z1
    obtain ⟨k, lv, hk, rfl, rfl, LR, BR⟩ := hrel
    by_cases hlt : k < 16
    · have HK := Lib.hid (HX.out k hlt)
      have HS := Lib.hid (HLS.out k)
      have hlk := HLL.out k
      have hsz : w.heap.size ≤ wr.heap.size := BR.out.size
      have HLB : Hid (∀ q, lv.ownBlock = some q → w.heap.size ≤ q) := Lib.hid (fun q hq => (LR.out.lt q hq).1)
      obtain ⟨b, hb⟩ : ∃ b, b = p k := ⟨_, rfl⟩
      rw [← hb] at HK HS
      clear hb
      cases b with
      | true =>
        go_wp2_with
          (first
            | (refine wpList_indexM rfl 89 (.tmp 6) (.tmp 7) rfl V rfl .i64 k rfl 16 4 Tryz.underlying89 (by kernel_rfl) i0 hi hi1 hlt _ HK.out ?_)
            | (at_builtin; refine wpList_pushL rfl (.tmp 12) (.tmp 14) 23 15 rfl rfl 3 (.int .i64 0) 8 Tryz.underlying23 Tryz.infoI rfl w.heap.size (.int .i64 k) lv (lst p k).length (ints (nums (lst p k))) LR.out rfl wr.heap.size rfl rfl rfl (by unfold maxLen; omega) (by omega) hsz ?_; intro v6 w6 hown hg; have L6 := Lib.hid hown; have B6 : Hid (Below w.heap.size w w6) := Lib.hid (BR.out.trans (hg.below hsz HLB.out)); clear hown hg))
        go_roundw
        case rel =>
          refine ⟨k + 1, _, by omega, by go_num, rfl, Lib.hid ?_, B6⟩
          rw [HS.out, if_pos rfl, nums_app, ints_app, List.length_append]
          exact L6.out
        case measure => simp [intOf]; omega
      | false =>
        go_wp2_with (refine wpList_indexM rfl 89 (.tmp 6) (.tmp 7) rfl V rfl .i64 k rfl 16 4 Tryz.underlying89 (by kernel_rfl) i0 hi hi1 hlt _ HK.out ?_)
        go_roundw
        case rel =>
          refine ⟨k + 1, _, by omega, by go_num, rfl, Lib.hid ?_, BR⟩
          rw [HS.out, if_neg (by decide), List.append_nil]
          exact LR.out
        case measure => simp [intOf]; omega
    · obtain rfl : k = 16 := by omega
      go_wp2
      go_ret
      exact ⟨_, rfl, Ro.of_own LR.out, BR.out⟩

/-- what an element is held against: the one before it -/
def bef (l : List Int) (k : Nat) : Int := if k = 0 then -1 else l.getD (k - 1) 0
/-- the first k are ascending worlds -/
def okTo (l : List Int) (n : Int) (k : Nat) : Prop := ∀ i, i < k → bef l i < l.getD i 0 ∧ l.getD i 0 < n
instance (l : List Int) (n : Int) (k : Nat) : Decidable (okTo l n k) := by unfold okTo; exact inferInstance
def ascOk (l : List Int) (n : Int) : Bool := decide (okTo l n l.length)
def memP (l : List Int) : Nat → Bool := fun i => decide ((i : Int) ∈ l)
theorem bef_succ (l : List Int) (k : Nat) : bef l (k + 1) = l.getD k 0 := by unfold bef; rw [if_neg (by omega)]; rfl
theorem bef_low {l : List Int} {n : Int} : ∀ {k : Nat}, okTo l n k → -1 ≤ bef l k
  | 0, _ => by unfold bef; simp
  | k + 1, h => by
    have h1 := bef_low (k := k) (fun i hi => h i (by omega))
    have h2 := h k (by omega)
    rw [bef_succ]; omega
theorem okTo_succ {l : List Int} {n : Int} {k : Nat} (h : okTo l n k) (h1 : bef l k < l.getD k 0) (h2 : l.getD k 0 < n) : okTo l n (k + 1) := by
  intro i hi
  rcases Nat.lt_or_eq_of_le (Nat.le_of_lt_succ hi) with h3 | h3
  · exact h i h3
  · subst h3; exact ⟨h1, h2⟩
theorem ascOk_no {l : List Int} {n : Int} {k : Nat} (hk : k < l.length) (h : ¬ (bef l k < l.getD k 0 ∧ l.getD k 0 < n)) : ascOk l n = false :=
  decide_eq_false fun e => h (e k hk)
theorem memP_succ {l : List Int} {k x : Nat} (hk : k < l.length) (hx : l.getD k 0 = x) : upd (memP (l.take k)) x true = memP (l.take (k + 1)) := by
  funext j
  unfold upd memP
  rw [take_snocI hk, hx]
  by_cases e : j = x
  · subst e; simp
  · have e' : ¬ ((j : Int) = (x : Int)) := by omega
    simp [e, e']
theorem set_store (p : Nat → Bool) {i : Nat} (h : i < 16) {w : World} {b : Nat} {T : TypeId} (hc : Cm w b T (bL p)) : w.cell? ⟨b, i, none⟩ = some (.bool (p i)) := by rw [hc.cell, bL_get _ h]
/-- what setOf answers -/
def SoAns (w : World) (ok : Bool) (p : Nat → Bool) (e : Ending) (w' : World) : Prop := e = .returned (.tuple #[.agg (bL p).toArray, .bool ok]) ∧ Below w.heap.size w w'

set_option maxRecDepth 100000 in
set_option maxHeartbeats 16000000 in
theorem setOf_any (lo hi : Nat) (v : Value) (l : List Int) (m : Md) (w : World) (hr : Iv lo hi w v l) (hn : l.length ≤ 1048576) (hm : mdOk m = true) :
    Calls Tryz.prog 113 #[.agg (ints (gL m.facts.length m.blocks.length m.facts m.blocks m.actual)).toArray, v] w (SoAns w (ascOk l m.facts.length) (if ascOk l m.facts.length then memP l else fun _ => false)) := by
  obtain ⟨p1, p2, p3, p4, _⟩ := mdOk_parts hm
  have hs := md_small hm
  obtain ⟨a, cap, rfl, h1, h2, h3⟩ := hr.parts
  unfold maxLen at h2
  have KEY := Lib.hid h3
  clear h3 hr
  have HL : Hid ((ints (gL m.facts.length m.blocks.length m.facts m.blocks m.actual)).length = 67) := Lib.hid (by rw [ints_len]; exact gL_len hs)
  have KW := Lib.hid (fun x W => hasWorld_any m.facts.length m.blocks.length m.actual m.facts m.blocks x W)
  have HZ : Hid (bL (fun _ => false) = bL (memP (l.take 0))) := Lib.hid (bL_congr fun i _ => by simp [memP])
  have HBS := Lib.hid (bef_succ l)
  have HB0 : Hid (bef l 0 = -1) := Lib.hid rfl
  have HNO := Lib.hid (fun k hk h => ascOk_no (l := l) (n := m.facts.length) (k := k) hk h)
  generalize gL m.facts.length m.blocks.length m.facts m.blocks m.actual = G at *
  obtain ⟨ok, hok⟩ : ∃ ok, ok = ascOk l m.facts.length := ⟨_, rfl⟩
  have HOKD : Hid (ok = decide (okTo l m.facts.length l.length)) := Lib.hid hok
  rw [← hok] at HNO ⊢
  obtain ⟨R, hR⟩ : ∃ R, R = if ok then memP l else fun _ => false := ⟨_, rfl⟩
  rw [← hR]
  have HRT : Hid (ok = true → R = memP l) := Lib.hid (fun h => by rw [hR, if_pos h])
  have HRF : Hid (ok = false → R = fun _ => false) := Lib.hid (fun h => by rw [hR, h]; rfl)
  clear hok hs hm hR
  go_enter Tryz.func113, Tryz.ntmps113
  go_wp2
  have z0 : Cm (((w.alloc (.cells (ints G).toArray 85)).alloc (.cells (bL (fun _ => false)).toArray 89)).alloc (.cells (bL (fun _ => false)).toArray 89)) (w.heap.size + 1 + 1) 89 (bL (memP (l.take 0))) := by rw [← HZ.out]; exact Cm.new (by simp)
  have r0 : Cm (((w.alloc (.cells (ints G).toArray 85)).alloc (.cells (bL (fun _ => false)).toArray 89)).alloc (.cells (bL (fun _ => false)).toArray 89)) (w.heap.size + 1) 89 (bL (fun _ => false)) := (Cm.new (by simp)).alloc _
  have c0 : Cm (((w.alloc (.cells (ints G).toArray 85)).alloc (.cells (bL (fun _ => false)).toArray 89)).alloc (.cells (bL (fun _ => false)).toArray 89)) w.heap.size 85 (ints G) := ((Cm.new rfl).alloc _).alloc _
  have b0 : Below w.heap.size w (((w.alloc (.cells (ints G).toArray 85)).alloc (.cells (bL (fun _ => false)).toArray 89)).alloc (.cells (bL (fun _ => false)).toArray 89)) := by go_grown
  have Z0 := Lib.hid z0
  have R0 := Lib.hid r0
  have C0 := Lib.hid c0
  have B0 := Lib.hid b0
  clear z0 r0 c0 b0 HZ
  go_loopw [7, 12] (fun bv iv wr => ∃ k : Nat, k ≤ l.length ∧ iv = .int .i64 k ∧ bv = .int .i64 (bef l k) ∧ Hid (okTo l m.facts.length k) ∧ Hid (Cm wr (w.heap.size + 1 + 1) 89 (bL (memP (l.take k)))) ∧ Hid (Cm wr (w.heap.size + 1) 89 (bL (fun _ => false))) ∧ Hid (Cm wr w.heap.size 85 (ints G)) ∧ Hid (Below w.heap.size w wr)) (fun _ iv _ => l.length - (intOf iv).toNat)
  case atStart => exact ⟨0, Nat.zero_le _, rfl, by rw [HB0.out], Lib.hid (fun i hi => by omega), Z0, R0, C0, B0⟩
  case round =>
    clear Z0 R0 C0 B0
    obtain ⟨k, hk, rfl, rfl, HOK, ZR, RR, CR, BR⟩ := hrel
    by_cases hlt : k < l.length
    · obtain ⟨b, o, rfl, _, _, hb, c0⟩ := KEY.out k hlt
      rw [← BR.out.cell (p := ⟨b, o + k, none⟩) hb] at c0
      have hlow := bef_low HOK.out
      have HN := Lib.hid (HNO.out k hlt)
      have HB := Lib.hid (HBS.out k)
      obtain ⟨x, hx⟩ : ∃ x, x = l.getD k 0 := ⟨_, rfl⟩
      obtain ⟨q, hq⟩ : ∃ q, q = bef l k := ⟨_, rfl⟩
      have HX := Lib.hid hx
      have HQ := Lib.hid hq
      rw [← hx] at c0 HN HB
      rw [← hq] at hlow HN ⊢
      clear hx hq
      rcases Int.lt_or_le q x with hqx | hqx
      · have hdx : decide (x ≤ q) = false := decide_eq_false (by omega)
        rcases Int.lt_or_le x m.facts.length with hxn | hxn
        · obtain ⟨i, rfl⟩ := Int.eq_ofNat_of_zero_le (show 0 ≤ x by omega)
          have KWx := Lib.hid (KW.out i)
          rw [inB_yes (by omega) hxn] at KWx
          have hi16 : i < 16 := by omega
          have hi16' : (i : Int) < 16 := by omega
          have hi0 : (0 : Int) ≤ (i : Int) := Int.natCast_nonneg _
          have HMS := Lib.hid (memP_succ hlt HX.out.symm)
          have HO2 := Lib.hid (okTo_succ HOK.out (by rw [← HQ.out, ← HX.out]; exact hqx) (by rw [← HX.out]; exact hxn))
          go_wp2_with
            (first
              | (refine wpList_loadMG rfl (by rfl) 85 _ rfl w.heap.size 0 rfl 85 (ints G) (ints G) CR.out (fun j _ => by rw [Nat.zero_add]) _ Tryz.underlying85 rfl (by rw [HL.out]; exact Tryz.sizeGrid) ?_)
              | (go_at_call 142; (with_reducible refine (KWx.out _).mono ?_); rintro e w4 ⟨rfl, hb4⟩; have ZR := Lib.hid (ZR.out.all hb4); have RR := Lib.hid (RR.out.all hb4); have CR := Lib.hid (CR.out.all hb4); have BR : Hid (Below w.heap.size w w4) := Lib.hid (BR.out.trans (hb4.mono BR.out.size)); clear hb4 c0; have ck := set_store _ hi16 ZR.out; have fk := ZR.out.frozen i))
          clear ck fk
          go_roundw
          case rel => exact ⟨k + 1, by omega, by go_num, by rw [HB.out], HO2, Lib.hid (by rw [← HMS.out, ← bL_set]; exact ZR.out.set i _), Lib.hid (RR.out.other (by omega) _ _), Lib.hid (CR.out.other (by omega) _ _), Lib.hid (BR.out.setCell (by show _ ≤ w.heap.size + 1 + 1; omega) _)⟩
          case measure => simp [intOf]; omega
        · have KWx := Lib.hid (KW.out x)
          rw [inB_high hxn] at KWx
          have HF : Hid (ok = false) := Lib.hid (HN.out (by omega))
          go_wp2_with
            (first
              | (refine wpList_loadMG rfl (by rfl) 85 _ rfl w.heap.size 0 rfl 85 (ints G) (ints G) CR.out (fun j _ => by rw [Nat.zero_add]) _ Tryz.underlying85 rfl (by rw [HL.out]; exact Tryz.sizeGrid) ?_)
              | (go_at_call 142; (with_reducible refine (KWx.out _).mono ?_); rintro e w4 ⟨rfl, hb4⟩; have RR := Lib.hid (RR.out.all hb4); have BR : Hid (Below w.heap.size w w4) := Lib.hid (BR.out.trans (hb4.mono BR.out.size)); clear hb4 c0)
              | (refine wpList_buildM rfl 89 _ rfl #[] (by simp) (bL (fun _ => false)) (Tryz.buildSet _) ?_)
              | (refine wpList_storeM rfl 89 (.tmp 4) (.tmp 25) rfl (w.heap.size + 1) 0 rfl (bL (fun _ => false)) rfl 89 _ RR.out (by rw [bL_len]; exact Nat.le_refl _) (by rw [bL_len]; exact Tryz.sizeSet) (fun v hv => bL_one hv) ?_
                 intro w5 hc5 ha5
                 rw [lay'_all rfl] at hc5
                 have R5 := Lib.hid hc5
                 have B5 : Hid (Below w.heap.size w w5) := Lib.hid (BR.out.trans (ha5.below (by omega)))
                 clear hc5 ha5))
          refine bodyPost_ret (results_mid2 Tryz.results113 _ _ (w.heap.size + 1) (bL (fun _ => false)) _ (.bool false) rfl rfl R5.out.whole Tryz.underlying89 rfl (by rw [bL_len]; exact Tryz.sizeSet)) rfl ?_
          rw [HRF.out HF.out, HF.out]
          exact ⟨rfl, B5.out⟩
      · have HF : Hid (ok = false) := Lib.hid (HN.out (by omega))
        go_wp2_with
          (first
            | (refine wpList_buildM rfl 89 _ rfl #[] (by simp) (bL (fun _ => false)) (Tryz.buildSet _) ?_)
            | (refine wpList_storeM rfl 89 (.tmp 4) (.tmp 25) rfl (w.heap.size + 1) 0 rfl (bL (fun _ => false)) rfl 89 _ RR.out (by rw [bL_len]; exact Nat.le_refl _) (by rw [bL_len]; exact Tryz.sizeSet) (fun v hv => bL_one hv) ?_
               intro w5 hc5 ha5
               rw [lay'_all rfl] at hc5
               have R5 := Lib.hid hc5
               have B5 : Hid (Below w.heap.size w w5) := Lib.hid (BR.out.trans (ha5.below (by omega)))
               clear hc5 ha5))
        refine bodyPost_ret (results_mid2 Tryz.results113 _ _ (w.heap.size + 1) (bL (fun _ => false)) _ (.bool false) rfl rfl R5.out.whole Tryz.underlying89 rfl (by rw [bL_len]; exact Tryz.sizeSet)) rfl ?_
        rw [HRF.out HF.out, HF.out]
        exact ⟨rfl, B5.out⟩
    · have HT : Hid (ok = true) := Lib.hid (by
        rw [HOKD.out]
        refine decide_eq_true (fun i hi => HOK.out i (by omega)))
      have HLT : Hid (l.take k = l) := Lib.hid (List.take_of_length_le (by omega))
      have ZL : Hid (Cm wr (w.heap.size + 1 + 1) 89 (bL (memP l))) := Lib.hid (by rw [← HLT.out]; rw [HLT.out]; have := ZR.out; rw [HLT.out] at this; exact this)
      go_wp2_with
        (first
          | (refine wpList_loadM rfl 89 _ rfl (w.heap.size + 1 + 1) 0 rfl 89 (bL (memP l)) (bL (memP l)) ZL.out (fun j _ => by rw [Nat.zero_add]) _ Tryz.underlying89 rfl (by rw [bL_len]; exact Tryz.sizeSet) ?_)
          | (refine wpList_storeM rfl 89 (.tmp 4) (.tmp 30) rfl (w.heap.size + 1) 0 rfl (bL (memP l)) rfl 89 _ RR.out (by rw [bL_len, bL_len]; exact Nat.le_refl _) (by rw [bL_len]; exact Tryz.sizeSet) (fun v hv => bL_one hv) ?_
             intro w5 hc5 ha5
             rw [lay'_all (by rw [bL_len, bL_len])] at hc5
             have R5 := Lib.hid hc5
             have B5 : Hid (Below w.heap.size w w5) := Lib.hid (BR.out.trans (ha5.below (by omega)))
             clear hc5 ha5))
      refine bodyPost_ret (results_mid2 Tryz.results113 _ _ (w.heap.size + 1) (bL (memP l)) _ (.bool true) rfl rfl R5.out.whole Tryz.underlying89 rfl (by rw [bL_len]; exact Tryz.sizeSet)) rfl ?_
      rw [HRT.out HT.out, HT.out]
      exact ⟨rfl, B5.out⟩
end Go.Proofs.YtodjohdbngbpaaaGreat

/-
  The model of some worlds of a model, in mathematics, and the contract of grid.restricted. Condition: the model is valid.
-/
namespace Go.Proofs.YtodjohdbngbpaaaGreat
open Go.RowKit Go.WideShapes
open Go Go.Deep
set_option linter.unusedSimpArgs false

/-- the elements of a row at some worlds -/
def pick (b : List Int) (ws : List Nat) : List Int := ws.map fun w => b.getD w 0
theorem pick_len (b : List Int) (ws : List Nat) : (pick b ws).length = ws.length := by simp [pick]
theorem pick_app (b : List Int) (u v : List Nat) : pick b (u ++ v) = pick b u ++ pick b v := by simp [pick]
def rawRows (m : Md) (ws : List Nat) : List (List Int) := m.blocks.map fun b => pick b ws
theorem rawRows_len (m : Md) (ws : List Nat) : (rawRows m ws).length = m.blocks.length := by simp [rawRows]
theorem rawRows_get (m : Md) (ws : List Nat) {k : Nat} (h : k < m.blocks.length) : (rawRows m ws).getD k [] = pick (m.blocks.getD k []) ws := by
  unfold rawRows
  rw [List.getD_eq_getElem?_getD, List.getElem?_map, List.getD_eq_getElem?_getD, List.getElem?_eq_getElem h]; rfl
/-- the place of the actual world; 0 if it is not there -/
def actIn (a : Int) (ws : List Nat) : Int := if (nums ws).contains a then ((nums ws).idxOf a : Nat) else 0
def restM (m : Md) (ws : List Nat) : Md := ⟨pick m.facts ws, (rawRows m ws).map num, actIn m.actual ws⟩
theorem take_snocN {ws : List Nat} {k : Nat} (h : k < ws.length) : ws.take (k + 1) = ws.take k ++ [ws[k]] := by
  rw [List.take_add_one, List.getElem?_eq_getElem h]; rfl
/-- rows of which the first j have been given one element more -/
def mix (m : Md) (ws : List Nat) (k j : Nat) : List (List Int) := (rawRows m (ws.take (k + 1))).take j ++ (rawRows m (ws.take k)).drop j
theorem mix_0 (m : Md) (ws : List Nat) (k : Nat) : mix m ws k 0 = rawRows m (ws.take k) := by simp [mix]
theorem mix_end (m : Md) (ws : List Nat) (k : Nat) : mix m ws k m.blocks.length = rawRows m (ws.take (k + 1)) := by
  unfold mix
  rw [List.take_of_length_le (by rw [rawRows_len]; exact Nat.le_refl _), List.drop_of_length_le (by rw [rawRows_len]; exact Nat.le_refl _), List.append_nil]
theorem mix_get (m : Md) (ws : List Nat) {k j : Nat} (h : j < m.blocks.length) : (mix m ws k j).getD j [] = pick (m.blocks.getD j []) (ws.take k) := by
  unfold mix
  have hl : ((rawRows m (ws.take (k + 1))).take j).length = j := by rw [List.length_take, rawRows_len]; omega
  rw [List.getD_eq_getElem?_getD, List.getElem?_append_right (by omega), hl, Nat.sub_self, List.getElem?_drop, Nat.add_zero, ← List.getD_eq_getElem?_getD, rawRows_get m _ h]
theorem mix_len (m : Md) (ws : List Nat) (k : Nat) {j : Nat} (h : j ≤ m.blocks.length) : (mix m ws k j).length = m.blocks.length := by
  unfold mix
  rw [List.length_append, List.length_take, List.length_drop, rawRows_len, rawRows_len]; omega
theorem mix_set (m : Md) (ws : List Nat) {k j : Nat} (hk : k < ws.length) (h : j < m.blocks.length) : (mix m ws k j).set j (pick (m.blocks.getD j []) (ws.take k) ++ [(m.blocks.getD j []).getD ws[k] 0]) = mix m ws k (j + 1) := by
  have e : pick (m.blocks.getD j []) (ws.take k) ++ [(m.blocks.getD j []).getD ws[k] 0] = (rawRows m (ws.take (k + 1))).getD j [] := by
    rw [rawRows_get m _ h, take_snocN hk, pick_app]; rfl
  rw [e]
  unfold mix
  have hl : ((rawRows m (ws.take (k + 1))).take j).length = j := by rw [List.length_take, rawRows_len]; omega
  have hd : j < (rawRows m (ws.take k)).length := by rw [rawRows_len]; exact h
  have hd2 : j < (rawRows m (ws.take (k + 1))).length := by rw [rawRows_len]; exact h
  generalize rawRows m (ws.take (k + 1)) = A at *
  generalize rawRows m (ws.take k) = B at *
  rw [List.set_append_right _ _ (by omega), hl, Nat.sub_self, List.drop_eq_getElem_cons hd, List.set_cons_zero, List.getD_eq_getElem?_getD, List.getElem?_eq_getElem hd2]
  simp only [Option.getD_some]
  rw [List.take_succ_eq_append_getElem hd2, List.append_assoc]; rfl
/-- rows of which the first j have been numbered -/
def nmix (rows : List (List Int)) (j : Nat) : List (List Int) := (rows.map num).take j ++ rows.drop j
theorem nmix_0 (rows : List (List Int)) : nmix rows 0 = rows := by simp [nmix]
theorem nmix_end (rows : List (List Int)) : nmix rows rows.length = rows.map num := by
  unfold nmix
  rw [List.take_of_length_le (by simp), List.drop_of_length_le (Nat.le_refl _), List.append_nil]
theorem nmix_get (rows : List (List Int)) {j : Nat} (h : j < rows.length) : (nmix rows j).getD j [] = rows.getD j [] := by
  unfold nmix
  have hl : ((rows.map num).take j).length = j := by rw [List.length_take, List.length_map]; omega
  rw [List.getD_eq_getElem?_getD, List.getElem?_append_right (by omega), hl, Nat.sub_self, List.getElem?_drop, Nat.add_zero, ← List.getD_eq_getElem?_getD]
theorem nmix_succ (rows : List (List Int)) {j : Nat} (h : j < rows.length) : (nmix rows (j + 1)).getD j [] = num (rows.getD j []) := by
  unfold nmix
  rw [List.getD_eq_getElem?_getD, List.getElem?_append_left (by rw [List.length_take, List.length_map]; omega), List.getElem?_take_of_lt (by omega), List.getElem?_map, List.getD_eq_getElem?_getD, List.getElem?_eq_getElem h]; rfl
theorem nmix_other (rows : List (List Int)) {i j : Nat} (h : j < rows.length) (e : i ≠ j) : (nmix rows (j + 1)).getD i [] = (nmix rows j).getD i [] := by
  unfold nmix
  have hl : ((rows.map num).take j).length = j := by rw [List.length_take, List.length_map]; omega
  have hl1 : ((rows.map num).take (j + 1)).length = j + 1 := by rw [List.length_take, List.length_map]; omega
  rw [List.getD_eq_getElem?_getD, List.getD_eq_getElem?_getD]
  rcases Nat.lt_or_ge i j with hi | hi
  · rw [List.getElem?_append_left (by omega), List.getElem?_append_left (by omega), List.getElem?_take_of_lt (by omega), List.getElem?_take_of_lt hi]
  · rw [List.getElem?_append_right (by omega), List.getElem?_append_right (by omega), hl, hl1, List.getElem?_drop, List.getElem?_drop]
    congr 2; omega
theorem gL_setr {n a c x : Int} {f : List Int} {rows : List (List Int)} {j k : Nat} (hs : small f rows) (hj : j < 3) (hjr : j < rows.length) (hk : (rows.getD j []).length = k) (hk16 : k < 16) :
    (ints (gL n a f rows c)).set (18 + j * 16 + k) (.int .i64 x) = ints (gL n a f (rows.set j (rows.getD j [] ++ [x])) c) := by
  have hps := pad_set (l := rows.getD j []) (x := x) (by omega)
  rw [hk] at hps
  rw [ints_set, ← gL_set (n := n) (a := a) (c := c) (rows := rows) (rows' := rows.set j (rows.getD j [] ++ [x])) (r := rows.getD j [] ++ [x]) (k := j) hs (by rw [List.length_append, hk]; simp; omega) hj (set_getD_same hjr) (fun i hi => set_getD_ne hi), ← hps]
  have hl := gL_len (n := n) (a := a) (c := c) hs
  have hpl : ((pad (rows.getD j [])).set k x).length = 16 := by rw [List.length_set, pad_len (hs.2 j)]
  rw [lay'_eq _ _ _ (by rw [ints_len, ints_len, hpl, hl]; omega)]
  apply List.ext_getElem?
  intro i
  rw [ints_get]
  have hlt : ((ints (gL n a f rows c)).take (18 + j * 16)).length = 18 + j * 16 := by rw [List.length_take, ints_len, hl]; omega
  rcases Nat.lt_or_ge i (18 + j * 16) with h1 | h1
  · rw [List.getElem?_set_ne (by omega), List.append_assoc, List.getElem?_append_left (by omega), List.getElem?_take_of_lt h1, ints_get]
  · rcases Nat.lt_or_ge i (18 + j * 16 + 16) with h2 | h2
    · rw [List.append_assoc, List.getElem?_append_right (by omega), hlt, List.getElem?_append_left (by rw [ints_len, hpl]; omega), ints_get]
      obtain ⟨t, rfl⟩ : ∃ t, i = 18 + j * 16 + t := ⟨i - (18 + j * 16), by omega⟩
      rw [Nat.add_sub_cancel_left]
      by_cases e : k = t
      · subst e
        rw [List.getElem?_set_self (by omega), List.getElem?_set_self (by rw [pad_len (hs.2 j)]; omega)]
      · rw [List.getElem?_set_ne (by omega), List.getElem?_set_ne e, gL_r hs hj (by omega)]
    · rw [List.getElem?_set_ne (by omega), List.getElem?_append_right (by rw [List.length_append, hlt, ints_len, hpl]; omega), List.length_append, hlt, ints_len, hpl, List.getElem?_drop, ints_get]
      congr 2; omega
theorem raw_small {m : Md} (ws : List Nat) (f : List Int) (hw : ws.length ≤ 16) (hf : f.length ≤ 16) : small f (rawRows m ws) := by
  refine ⟨hf, fun k => ?_⟩
  rcases Nat.lt_or_ge k m.blocks.length with h | h
  · rw [rawRows_get m ws h, pick_len]; exact hw
  · rw [List.getD_eq_getElem?_getD, List.getElem?_eq_none (by rw [rawRows_len]; exact h)]; simp
theorem mix_small {m : Md} (ws : List Nat) (f : List Int) {k j : Nat} (hj : j ≤ m.blocks.length) (hw : ws.length ≤ 16) (hf : f.length ≤ 16) : small f (mix m ws k j) := by
  refine ⟨hf, fun i => ?_⟩
  have ha : ∀ i, ((rawRows m (ws.take (k + 1))).getD i []).length ≤ 16 := (raw_small (m := m) (ws.take (k + 1)) f (by rw [List.length_take]; omega) hf).2
  have hb : ∀ i, ((rawRows m (ws.take k)).getD i []).length ≤ 16 := (raw_small (m := m) (ws.take k) f (by rw [List.length_take]; omega) hf).2
  unfold mix
  have hl : ((rawRows m (ws.take (k + 1))).take j).length = j := by rw [List.length_take, rawRows_len]; omega
  rw [List.getD_eq_getElem?_getD]
  rcases Nat.lt_or_ge i j with hi | hi
  · rw [List.getElem?_append_left (by omega), List.getElem?_take_of_lt hi, ← List.getD_eq_getElem?_getD]; exact ha i
  · rw [List.getElem?_append_right (by omega), hl, List.getElem?_drop, ← List.getD_eq_getElem?_getD]; exact hb _
theorem nmix_small (rows : List (List Int)) (f : List Int) (j : Nat) (h : small f rows) : small f (nmix rows j) := by
  refine ⟨h.1, fun i => ?_⟩
  unfold nmix
  rw [List.getD_eq_getElem?_getD]
  rcases Nat.lt_or_ge i ((rows.map num).take j).length with hi | hi
  · rw [List.getElem?_append_left hi]
    have hi' : i < j ∧ i < rows.length := by rw [List.length_take, List.length_map] at hi; omega
    rw [List.getElem?_take_of_lt hi'.1, List.getElem?_map]
    have := h.2 i
    rw [List.getD_eq_getElem?_getD] at this
    rw [List.getElem?_eq_getElem hi'.2] at this ⊢
    simp only [Option.map_some, Option.getD_some] at this ⊢
    rw [num_len]; exact this
  · rw [List.getElem?_append_right hi, List.getElem?_drop, ← List.getD_eq_getElem?_getD]; exact h.2 _

theorem nums_contains {ws : List Nat} {a : Int} : (nums ws).contains a = true ↔ ∃ i ∈ ws, (i : Int) = a := by
  unfold nums
  rw [List.contains_iff_mem, List.mem_map]
  exact Iff.rfl
theorem actIn_succ {a : Int} {ws : List Nat} {k : Nat} (hk : k < ws.length) (hnd : ws.Nodup) : actIn a (ws.take (k + 1)) = if (ws[k] : Int) = a then (k : Int) else actIn a (ws.take k) := by
  have hlk : (nums (ws.take k)).length = k := by rw [nums_len, List.length_take]; omega
  rw [take_snocN hk]
  unfold actIn
  rw [nums_app, List.contains_append]
  by_cases e : (ws[k] : Int) = a
  · rw [if_pos e]
    have hno : (nums (ws.take k)).contains a = false := by
      rw [Bool.eq_false_iff]
      intro h
      obtain ⟨i, hi, he⟩ := nums_contains.1 h
      have hik : i = ws[k] := by omega
      subst hik
      obtain ⟨j, hj, hje⟩ := List.getElem_of_mem hi
      rw [List.length_take] at hj
      rw [List.getElem_take] at hje
      have := (List.getElem_inj hnd).1 hje
      omega
    have hyes : (nums [ws[k]]).contains a = true := nums_contains.2 ⟨ws[k], by simp, e⟩
    have hnm : a ∉ nums (ws.take k) := by rw [← List.contains_iff_mem, hno]; decide
    rw [hno, hyes]
    simp only [Bool.false_or, if_true]
    rw [List.idxOf_append, if_neg hnm, hlk]
    have : (nums [ws[k]]).idxOf a = 0 := by unfold nums; simp only [List.map_cons, List.map_nil]; rw [← e]; simp
    rw [this]; simp
  · rw [if_neg e]
    have hno : (nums [ws[k]]).contains a = false := by
      rw [Bool.eq_false_iff]
      intro h
      obtain ⟨i, hi, he⟩ := nums_contains.1 h
      simp only [List.mem_singleton] at hi
      subst hi
      exact e he
    rw [hno, Bool.or_false]
    cases h : (nums (ws.take k)).contains a with
    | true =>
      simp only [if_true]
      have hm : a ∈ nums (ws.take k) := by rw [← List.contains_iff_mem, h]
      rw [List.idxOf_append, if_pos hm]
    | false => rfl
theorem lst_nodup (p : Nat → Bool) (k : Nat) : (lst p k).Nodup := List.Nodup.sublist List.filter_sublist List.nodup_range
theorem nums_getD {ws : List Nat} {k : Nat} (h : k < ws.length) : (nums ws).getD k 0 = (ws[k] : Int) := by
  unfold nums
  rw [List.getD_eq_getElem?_getD, List.getElem?_map, List.getElem?_eq_getElem h]; rfl

end Go.Proofs.YtodjohdbngbpaaaGreat

/-
  Slices of bools in memory: what reads as a list of bools (Bv), what is owned (Bo); spec.l03All, spec.l03List. Condition: the length.
-/
namespace Go.Proofs.YtodjohdbngbpaaaGreat
open Go.RowKit Go.WideShapes
open Go Go.Deep
set_option linter.unusedSimpArgs false

/-- a row that has no room to spare is known whole -/
theorem own_cm {w : World} {base : Nat} {e : TypeId} {g n : Nat} {xs : List Value} (h : w.ownsRow base e 1 (.slice (some ⟨g, 0, none⟩) n n) n xs) : Cm w g e xs := by
  rcases h.2 with ⟨e1, _⟩ | ⟨g', cap, cur, e1, hb, hg, hnc, hcm, hcs, ht⟩
  · cases e1
  · cases e1
    unfold Cm
    rw [hg]
    have : cur.toList = xs := by rw [← ht, List.take_of_length_le (by rw [Array.length_toList, hcs]; exact Nat.le_refl _)]
    rw [← this]
section
variable {P : Program}
/-- make of a row of one-cell values -/
theorem wpList_makeM {ops : Array Oper} {rest : List Oper} {o : Oper} {a : Act} {w : World} {Q : Exit → Act → World → Prop} (hgd : o.guard = none) (x y : Operand) (t : TypeId) (d : Nat) (hd : o.dst = some d) (ho : o.op = .makeSlice t x y)
    (e : TypeId) (z : Value) (bytes : Nat) (ht : P.underlying t = some (.slice e)) (hinfo : (P.info? e).map (fun i => (i.zero, i.size, i.bytes)) = some (some z, 1, bytes)) (n : Nat) (kl kc : IntKind)
    (hx : a.eval x = .int kl n) (hy : a.eval y = .int kc n) (hb : bytes * n ≤ 281474976710656) (h63 : n ≤ maxLen) (zs : List Value) (hz : (madeCells z.cells n).toList = zs)
    (h : ∀ w', Cm w' w.heap.size e zs → Below w.heap.size w w' → wpList P ops Q rest (a.put (some d) (.slice (some ⟨w.heap.size, 0, none⟩) n n)) w') : wpList P ops Q (o :: rest) a w :=
  wpList_plain hgd fun _ hK => wp_makeF x y t d hd ho e z bytes ht hinfo n kl kc hx hy hb h63 fun w' h1 h2 _ => hK _ _ (h w' (by rw [← hz]; exact own_cm h1) h2)
end
end Go.Proofs.YtodjohdbngbpaaaGreat
