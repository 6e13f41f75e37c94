/- ZSet -/
import Derived.Test.YtnpfnfenkklocaaGreatDoorZMok
import Derived.IntWalk
set_option maxRecDepth 100000
set_option maxHeartbeats 64000000
namespace Go.Proofs.YtnpfnfenkklocaaGreatDoor
open Go.RowKit Go.WideShapes
open Go Go.Deep
set_option linter.unusedSimpArgs false
def bitI (x : Int) (f : Nat) : Int := x / 2 ^ f % 2
theorem bit_cases {f : Nat} (h : f < 4) : f = 0 ∨ f = 1 ∨ f = 2 ∨ f = 3 := by omega
theorem nib_cases {x : Int} (h0 : 0 ≤ x) (h1 : x < 16) : x = 0 ∨ x = 1 ∨ x = 2 ∨ x = 3 ∨ x = 4 ∨ x = 5 ∨ x = 6 ∨ x = 7 ∨ x = 8 ∨ x = 9 ∨ x = 10 ∨ x = 11 ∨ x = 12 ∨ x = 13 ∨ x = 14 ∨ x = 15 := by omega
theorem l03Bit_any (x : Int) (f : Nat) (w : World) (h0 : 0 ≤ x) (h1 : x < 16) (hf : f < 4) :
    Calls Tryz.prog 56 #[.int .i64 x, .int .i64 f] w fun e w' => e = .returned (.int .i64 (bitI x f)) ∧ w = w' := by
  rcases bit_cases hf with rfl | rfl | rfl | rfl
  all_goals
    go_enter Tryz.func56, Tryz.ntmps56
    go_wp2
    refine wp_loop_rounds 4 ?_
    repeat (rw [rounds_succ]; go_wp2)
    go_ret
    exact ⟨ret_int (by unfold bitI; omega), rfl⟩
theorem Tryz.shrInt (p q : Operand) (x : Int) (f : Nat) (h0 : 0 ≤ x) (h1 : x < 16) (hf : f < 4) (w : World) : (do eqGuard .shr 3 p q (.int .i64 x) (.int .i64 f); binOp .shr 3 (.int .i64 x) (.int .i64 f) : Sem Value).run Tryz.prog w = .ok (.int .i64 (x / 2 ^ f)) w := by
  rcases bit_cases hf with rfl | rfl | rfl | rfl <;> rcases nib_cases h0 h1 with rfl | rfl | rfl | rfl | rfl | rfl | rfl | rfl | rfl | rfl | rfl | rfl | rfl | rfl | rfl | rfl <;> kernel_rfl
theorem Tryz.andInt (p q : Operand) (x : Int) (h0 : 0 ≤ x) (h1 : x < 16) (w : World) : (do eqGuard .and 3 p q (.int .i64 x) (.int .i64 1); binOp .and 3 (.int .i64 x) (.int .i64 1) : Sem Value).run Tryz.prog w = .ok (.int .i64 (x % 2)) w := by
  rcases nib_cases h0 h1 with rfl | rfl | rfl | rfl | rfl | rfl | rfl | rfl | rfl | rfl | rfl | rfl | rfl | rfl | rfl | rfl <;> kernel_rfl
section
variable {P : Program} {ops : Array Oper} {S : World → Prop}
theorem yields_bin {o : Oper} {a : Act} (hw : Region.wanted o (yielded ops a.tmps) = true) (bop : BinOp) (T R : TypeId) (x y : Operand) (u v r : Value) (ho : o.op = .binOp bop T x y R) (hx : a.eval x = u) (hy : a.eval y = v)
    (hr : ∀ W, (do eqGuard bop T x y u v; binOp bop T u v : Sem Value).run P W = .ok r W) : YieldsIf P ops S o r a :=
  .inl ⟨hw, fun W _ => by unfold execOp; simp only [ho, hx, hy]; rw [Sem.run_bind, hr]; rfl⟩
end
theorem set_getD_same {α : Type} {l : List α} {a : Nat} {x d : α} (h : a < l.length) : (l.set a x).getD a d = x := by
  rw [List.getD_eq_getElem?_getD, List.getElem?_set_self h]; rfl
theorem set_getD_ne {α : Type} {l : List α} {a k : Nat} {x d : α} (h : k ≠ a) : (l.set a x).getD k d = l.getD k d := by
  rw [List.getD_eq_getElem?_getD, List.getElem?_set_ne (Ne.symm h), List.getD_eq_getElem?_getD]
theorem specNumber_any (lo hi : Nat) (v : Value) (l : List Int) (w : World) (hr : Iv lo hi w v l) (hn : l.length ≤ 1048576) :
    Calls Tryz.prog 51 #[v] w (IntsAns w (num l)) := by
  obtain ⟨a, cap, rfl, h1, h2, h3⟩ := hr.parts
  unfold maxLen at h2
  have KEY := hid h3
  clear h3 hr
  have HLE := hid (fun k (h : k < l.length) => look_end (l := l) (i := k))
  have HLS := hid (fun k j (h : k < l.length) (h' : j < k) => look_step (l := l) h h')
  have HNL := hid (numS_len l)
  have HND : Hid ((numS l l.length).1 = num l) := hid rfl
  go_enter Tryz.func51, Tryz.ntmps51
  go_wp2
  go_loopw [3, 4, 13] (fun vv qv iv wr => ∃ (k q : Nat) (v : Value), k ≤ l.length ∧ iv = .int .i64 k ∧ qv = .int .i64 q ∧ v = vv ∧ q ≤ k ∧ Hid (q = (numS l k).2) ∧ Hid (wr.ownsRow w.heap.size 3 1 v k (ints (numS l k).1)) ∧ Hid (Below w.heap.size w wr)) (fun _ _ iv _ => l.length - (intOf iv).toNat)
  case atStart => exact ⟨0, 0, _, Nat.zero_le _, rfl, rfl, rfl, Nat.le_refl _, hid rfl, hid (World.ownsRow_lit (w := w) #[] 0 (Nat.le_refl _) (by decide) rfl), hid (by go_grown)⟩
  case round =>
    obtain ⟨k, q, v, hk, rfl, rfl, rfl, hqk, HQ, HO, HB⟩ := hrel
    have hro : Ro w.heap.size wr.heap.size wr 3 v (ints (numS l k).1) := Ro.of_own HO.out
    obtain ⟨va, vc, e0, _, hvm, hcell⟩ := hro.read.parts
    rw [ints_len, HNL.out] at e0 hcell
    unfold maxLen at hvm
    have HCE : Hid (∀ j, j < k → ∃ g, va = some ⟨g, 0, none⟩ ∧ wr.cell? ⟨g, j, none⟩ = some (.int .i64 ((numS l k).1.getD j 0))) := hid (fun j hj => by
      rcases HO.out.2 with ⟨e1, h0⟩ | ⟨g, c, cur, e1, _⟩
      · omega
      · rw [e1] at e0
        simp only [Value.slice.injEq, true_and] at e0
        refine ⟨g, e0.1.symm, ?_⟩
        have h := HO.out
        rw [e1] at h
        rw [h.cellAt j (by omega), ints_at (by rw [HNL.out]; exact hj)])
    clear hcell hro
    subst e0
    by_cases hlt : k < l.length
    · obtain ⟨b, o, rfl, _, _, hb, c0⟩ := KEY.out k hlt
      rw [← HB.out.cell (p := ⟨b, o + k, none⟩) hb] at c0
      have HLE2 := hid (HLE.out k hlt)
      have HLS2 := hid (fun j h => HLS.out k j hlt h)
      have hcap : ¬ cap = 0 := by omega
      have hk0 : (0 : Int) ≤ (k : Int) := Int.natCast_nonneg _
      have hk1 : (k : Int) ≤ (cap : Int) := by omega
      have HL0 : Hid (look l k 0 = -1) := hid (by unfold look; rw [if_neg (by omega)])
      generalize hx : l.getD k 0 = x at *
      have HX := hid hx
      clear hx
      go_wp2
      go_loop [7, 22] (fun kv jv => ∃ j : Nat, j ≤ k ∧ jv = .int .i64 j ∧ kv = .int .i64 (look l k j)) (fun _ jv => k - (intOf jv).toNat)
      case atStart => exact ⟨0, Nat.zero_le _, rfl, by rw [HL0.out]⟩
      case round =>
        obtain ⟨j, hj, rfl, rfl⟩ := hrel
        by_cases hjk : j < k
        · obtain ⟨b', o', e3, _, _, hb', d0⟩ := KEY.out j (by omega)
          cases e3
          rw [← HB.out.cell (p := ⟨b, o + j, none⟩) hb'] at d0
          obtain ⟨g, rfl, g0⟩ := HCE.out j hjk
          have HST := hid (HLS2.out j hjk)
          generalize l.getD j 0 = y at *
          generalize (numS l k).1.getD j 0 = z at *
          generalize look l k j = u at *
          by_cases e : y = x
          · rw [if_pos e] at HST
            subst e
            go_wp2
            go_round
            case rel => exact ⟨j + 1, by omega, by go_num, by rw [HST.out]⟩
            case measure => simp [intOf]; omega
          · rw [if_neg e] at HST
            have e1 : (y == x) = false := by simpa using e
            go_wp2
            go_round
            case rel => exact ⟨j + 1, by omega, by go_num, by rw [HST.out]⟩
            case measure => simp [intOf]; omega
        · obtain rfl : j = k := by omega
          clear c0 HCE HLS2
          by_cases hneg : look l j j < 0
          · have HE : Hid (numS l (j + 1) = ((numS l j).1 ++ [((numS l j).2 : Int)], (numS l j).2 + 1)) := hid (by rw [HLE2.out, if_pos hneg])
            generalize look l j j = u at *
            go_wp2_with (at_builtin; refine wpList_push rfl _ _ 22 rfl 3 (.int .i64 0) 8 Tryz.underlying22 Tryz.infoI rfl w.heap.size wr (.int .i64 q) (.slice va j vc) j (ints (numS l j).1) HO.out rfl rfl rfl (by unfold maxLen; omega) (by omega) HB.out.size ?_; intro v' w4 hown hbp _; have HO4 := hid hown; have BP := hid hbp; clear hown hbp)
            go_roundw
            case rel => exact ⟨j + 1, q + 1, v', by omega, by go_num, by go_num, rfl, by omega, hid (by rw [HE.out, HQ.out]), hid (by have h := HO4.out; rw [HQ.out] at h; rw [HE.out, ints_app]; exact h), hid (HB.out.trans BP.out)⟩
            case measure => simp [intOf]; omega
          · have HE : Hid (numS l (j + 1) = ((numS l j).1 ++ [look l j j], (numS l j).2)) := hid (by rw [HLE2.out, if_neg hneg])
            generalize look l j j = u at *
            go_wp2_with (at_builtin; refine wpList_push rfl _ _ 22 rfl 3 (.int .i64 0) 8 Tryz.underlying22 Tryz.infoI rfl w.heap.size wr (.int .i64 u) (.slice va j vc) j (ints (numS l j).1) HO.out rfl rfl rfl (by unfold maxLen; omega) (by omega) HB.out.size ?_; intro v' w4 hown hbp _; have HO4 := hid hown; have BP := hid hbp; clear hown hbp)
            go_roundw
            case rel => exact ⟨j + 1, q, v', by omega, by go_num, rfl, rfl, by omega, hid (by rw [HE.out]; exact HQ.out), hid (by rw [HE.out, ints_app]; exact HO4.out), hid (HB.out.trans BP.out)⟩
            case measure => simp [intOf]; omega
    · obtain rfl : k = l.length := by omega
      go_wp2
      go_ret
      have h := HO.out
      rw [HND.out] at h
      exact ⟨_, rfl, Ro.of_own h, HB.out⟩
def bL (p : Nat → Bool) : List Value := (List.range 16).map fun i => Value.bool (p i)
theorem bL_len (p : Nat → Bool) : (bL p).length = 16 := by simp [bL]
theorem bL_get (p : Nat → Bool) {i : Nat} (h : i < 16) : (bL p)[i]? = some (.bool (p i)) := by
  unfold bL; rw [List.getElem?_map, List.getElem?_range h]; rfl
theorem bL_one {p : Nat → Bool} {v : Value} (h : v ∈ bL p) : v.oneCell' = true := by
  unfold bL at h
  obtain ⟨i, _, rfl⟩ := List.mem_map.1 h
  rfl
def upd (p : Nat → Bool) (i : Nat) (b : Bool) : Nat → Bool := fun j => if j = i then b else p j
theorem bL_set (p : Nat → Bool) {i : Nat} (b : Bool) : (bL p).set i (.bool b) = bL (upd p i b) := by
  apply List.ext_getElem?
  intro j
  rcases Nat.lt_or_ge j 16 with h | h
  · rw [bL_get _ h]
    by_cases e : i = j
    · subst e; rw [List.getElem?_set_self (by rw [bL_len]; exact h)]; simp [upd]
    · rw [List.getElem?_set_ne e, bL_get _ h]; simp [upd, Ne.symm e]
  · rw [List.getElem?_eq_none (by rw [List.length_set, bL_len]; exact h), List.getElem?_eq_none (by rw [bL_len]; exact h)]
theorem bL_congr {p q : Nat → Bool} (h : ∀ i, i < 16 → p i = q i) : bL p = bL q := by
  unfold bL
  exact List.map_congr_left fun i hi => by rw [h i (List.mem_range.1 hi)]
theorem bL_inj {p q : Nat → Bool} (h : bL p = bL q) : ∀ i, i < 16 → p i = q i := by
  intro i hi
  have := congrArg (·[i]?) h
  simp only [bL_get _ hi, Option.some.injEq, Value.bool.injEq] at this
  exact this
def lst (p : Nat → Bool) (k : Nat) : List Nat := (List.range k).filter p
def nums (l : List Nat) : List Int := l.map fun i => Int.ofNat i
theorem lst_succ (p : Nat → Bool) (k : Nat) : lst p (k + 1) = lst p k ++ (if p k then [k] else []) := by
  unfold lst; rw [List.range_succ, List.filter_append]; cases h : p k <;> simp [h]
theorem lst_len (p : Nat → Bool) (k : Nat) : (lst p k).length ≤ k := by
  have := List.length_filter_le p (List.range k); rw [List.length_range] at this; exact this
theorem nums_len (l : List Nat) : (nums l).length = l.length := by simp [nums]
theorem nums_app (a b : List Nat) : nums (a ++ b) = nums a ++ nums b := by simp [nums]
theorem mem_lst {p : Nat → Bool} {k i : Nat} : i ∈ lst p k ↔ i < k ∧ p i = true := by unfold lst; rw [List.mem_filter, List.mem_range]
theorem lst_congr {p q : Nat → Bool} {k : Nat} (h : ∀ i, i < k → p i = q i) : lst p k = lst q k := List.filter_congr fun i hi => h i (List.mem_range.1 hi)
theorem Tryz.allocSet (w : World) : (Instr.alloc 79 true (.tuple #[])).run Tryz.prog w = .ok (.pointer (some ⟨w.heap.size, 0, none⟩)) (w.alloc (.cells (bL (fun _ => false)).toArray 79)) := by kernel_rfl
theorem Tryz.buildSet (w : World) : (Instr.build 79 #[]).run Tryz.prog w = .ok (.agg (bL (fun _ => false)).toArray) w := by kernel_rfl
theorem Tryz.sizeSet : (Tryz.prog.info? 79).map (·.size) = some 16 := by kernel_rfl
theorem Tryz.infoB : (Tryz.prog.info? 4).map (fun i => (i.zero, i.size, i.bytes)) = some (some (.bool false), 1, 1) := by kernel_rfl
theorem setList_any (p : Nat → Bool) (w : World) :
    Calls Tryz.prog 46 #[.agg (bL p).toArray] w (IntsAns w (nums (lst p 16))) := by
  obtain ⟨i0, hi, _, hi1, _⟩ := info_parts Tryz.infoB
  have HX := hid (fun k (h : k < 16) => bL_get p h)
  have HL := hid (bL_len p)
  have HLL := hid (fun k => lst_len p k)
  have HLS := hid (fun k => lst_succ p k)
  generalize bL p = V at *
  go_enter Tryz.func46, Tryz.ntmps46
  go_wp2_with (refine wpList_loadM rfl 79 _ rfl w.heap.size 0 rfl 79 V V (Cm.new rfl) (fun j _ => by rw [Nat.zero_add]) _ Tryz.underlying79 rfl (by rw [HL.out]; exact Tryz.sizeSet) ?_)
  have b1 : Below w.heap.size w (w.alloc (.cells V.toArray 79)) := by go_grown
  have z1 : w.heap.size ≤ (w.alloc (.cells V.toArray 79)).heap.size := b1.size
  generalize w.alloc (.cells V.toArray 79) = w1 at *
  have B1 := hid b1
  clear b1
  go_loopw [3, 7] (fun lv iv wr => ∃ (k : Nat) (lv' : Value), k ≤ 16 ∧ iv = .int .i64 k ∧ lv' = lv ∧ Hid (wr.ownsRow w.heap.size 3 1 lv' (lst p k).length (ints (nums (lst p k)))) ∧ Hid (Below w.heap.size w wr)) (fun _ iv _ => 16 - (intOf iv).toNat)
  case atStart => exact ⟨0, _, Nat.zero_le _, rfl, rfl, hid (World.ownsRow_nil _ _ _ _), B1⟩
  case round =>
    clear B1 z1
    obtain ⟨k, lv, hk, rfl, rfl, LR, BR⟩ := hrel
    by_cases hlt : k < 16
    · have HK := hid (HX.out k hlt)
      have HS := hid (HLS.out k)
      have hlk := HLL.out k
      have hsz : w.heap.size ≤ wr.heap.size := BR.out.size
      have HLB : Hid (∀ q, lv.ownBlock = some q → w.heap.size ≤ q) := hid (fun q hq => (LR.out.lt q hq).1)
      obtain ⟨b, hb⟩ : ∃ b, b = p k := ⟨_, rfl⟩
      rw [← hb] at HK HS
      clear hb
      cases b with
      | true =>
        go_wp2_with
          (first
            | (refine wpList_indexM rfl 79 (.tmp 6) (.tmp 7) rfl V rfl .i64 k rfl 16 4 Tryz.underlying79 (by kernel_rfl) i0 hi hi1 hlt _ HK.out ?_)
            | (at_builtin; refine wpList_pushL rfl (.tmp 12) (.tmp 14) 22 15 rfl rfl 3 (.int .i64 0) 8 Tryz.underlying22 Tryz.infoI rfl w.heap.size (.int .i64 k) lv (lst p k).length (ints (nums (lst p k))) LR.out rfl wr.heap.size rfl rfl rfl (by unfold maxLen; omega) (by omega) hsz ?_; intro v6 w6 hown hg; have L6 := hid hown; have B6 : Hid (Below w.heap.size w w6) := hid (BR.out.trans (hg.below hsz HLB.out)); clear hown hg))
        go_roundw
        case rel =>
          refine ⟨k + 1, _, by omega, by go_num, rfl, hid ?_, B6⟩
          rw [HS.out, if_pos rfl, nums_app, ints_app, List.length_append]
          exact L6.out
        case measure => simp [intOf]; omega
      | false =>
        go_wp2_with (refine wpList_indexM rfl 79 (.tmp 6) (.tmp 7) rfl V rfl .i64 k rfl 16 4 Tryz.underlying79 (by kernel_rfl) i0 hi hi1 hlt _ HK.out ?_)
        go_roundw
        case rel =>
          refine ⟨k + 1, _, by omega, by go_num, rfl, hid ?_, BR⟩
          rw [HS.out, if_neg (by decide), List.append_nil]
          exact LR.out
        case measure => simp [intOf]; omega
    · obtain rfl : k = 16 := by omega
      go_wp2
      go_ret
      exact ⟨_, rfl, Ro.of_own LR.out, BR.out⟩
def bef (l : List Int) (k : Nat) : Int := if k = 0 then -1 else l.getD (k - 1) 0
def okTo (l : List Int) (n : Int) (k : Nat) : Prop := ∀ i, i < k → bef l i < l.getD i 0 ∧ l.getD i 0 < n
instance (l : List Int) (n : Int) (k : Nat) : Decidable (okTo l n k) := by unfold okTo; exact inferInstance
theorem set_store (p : Nat → Bool) {i : Nat} (h : i < 16) {w : World} {b : Nat} {T : TypeId} (hc : Cm w b T (bL p)) : w.cell? ⟨b, i, none⟩ = some (.bool (p i)) := by rw [hc.cell, bL_get _ h]
def pick (b : List Int) (ws : List Nat) : List Int := ws.map fun w => b.getD w 0
theorem pick_len (b : List Int) (ws : List Nat) : (pick b ws).length = ws.length := by simp [pick]
theorem pick_app (b : List Int) (u v : List Nat) : pick b (u ++ v) = pick b u ++ pick b v := by simp [pick]
def rawRows (m : Md) (ws : List Nat) : List (List Int) := m.blocks.map fun b => pick b ws
theorem rawRows_len (m : Md) (ws : List Nat) : (rawRows m ws).length = m.blocks.length := by simp [rawRows]
theorem rawRows_get (m : Md) (ws : List Nat) {k : Nat} (h : k < m.blocks.length) : (rawRows m ws).getD k [] = pick (m.blocks.getD k []) ws := by
  unfold rawRows
  rw [List.getD_eq_getElem?_getD, List.getElem?_map, List.getD_eq_getElem?_getD, List.getElem?_eq_getElem h]; rfl
def actIn (a : Int) (ws : List Nat) : Int := if (nums ws).contains a then ((nums ws).idxOf a : Nat) else 0
def restM (m : Md) (ws : List Nat) : Md := ⟨pick m.facts ws, (rawRows m ws).map num, actIn m.actual ws⟩
theorem take_snocN {ws : List Nat} {k : Nat} (h : k < ws.length) : ws.take (k + 1) = ws.take k ++ [ws[k]] := by
  rw [List.take_add_one, List.getElem?_eq_getElem h]; rfl
def mix (m : Md) (ws : List Nat) (k j : Nat) : List (List Int) := (rawRows m (ws.take (k + 1))).take j ++ (rawRows m (ws.take k)).drop j
theorem mix_0 (m : Md) (ws : List Nat) (k : Nat) : mix m ws k 0 = rawRows m (ws.take k) := by simp [mix]
theorem mix_end (m : Md) (ws : List Nat) (k : Nat) : mix m ws k m.blocks.length = rawRows m (ws.take (k + 1)) := by
  unfold mix
  rw [List.take_of_length_le (by rw [rawRows_len]; exact Nat.le_refl _), List.drop_of_length_le (by rw [rawRows_len]; exact Nat.le_refl _), List.append_nil]
theorem mix_get (m : Md) (ws : List Nat) {k j : Nat} (h : j < m.blocks.length) : (mix m ws k j).getD j [] = pick (m.blocks.getD j []) (ws.take k) := by
  unfold mix
  have hl : ((rawRows m (ws.take (k + 1))).take j).length = j := by rw [List.length_take, rawRows_len]; omega
  rw [List.getD_eq_getElem?_getD, List.getElem?_append_right (by omega), hl, Nat.sub_self, List.getElem?_drop, Nat.add_zero, ← List.getD_eq_getElem?_getD, rawRows_get m _ h]
theorem mix_len (m : Md) (ws : List Nat) (k : Nat) {j : Nat} (h : j ≤ m.blocks.length) : (mix m ws k j).length = m.blocks.length := by
  unfold mix
  rw [List.length_append, List.length_take, List.length_drop, rawRows_len, rawRows_len]; omega
theorem mix_set (m : Md) (ws : List Nat) {k j : Nat} (hk : k < ws.length) (h : j < m.blocks.length) : (mix m ws k j).set j (pick (m.blocks.getD j []) (ws.take k) ++ [(m.blocks.getD j []).getD ws[k] 0]) = mix m ws k (j + 1) := by
  have e : pick (m.blocks.getD j []) (ws.take k) ++ [(m.blocks.getD j []).getD ws[k] 0] = (rawRows m (ws.take (k + 1))).getD j [] := by
    rw [rawRows_get m _ h, take_snocN hk, pick_app]; rfl
  rw [e]
  unfold mix
  have hl : ((rawRows m (ws.take (k + 1))).take j).length = j := by rw [List.length_take, rawRows_len]; omega
  have hd : j < (rawRows m (ws.take k)).length := by rw [rawRows_len]; exact h
  have hd2 : j < (rawRows m (ws.take (k + 1))).length := by rw [rawRows_len]; exact h
  generalize rawRows m (ws.take (k + 1)) = A at *
  generalize rawRows m (ws.take k) = B at *
  rw [List.set_append_right _ _ (by omega), hl, Nat.sub_self, List.drop_eq_getElem_cons hd, List.set_cons_zero, List.getD_eq_getElem?_getD, List.getElem?_eq_getElem hd2]
  simp only [Option.getD_some]
  rw [List.take_succ_eq_append_getElem hd2, List.append_assoc]; rfl
def nmix (rows : List (List Int)) (j : Nat) : List (List Int) := (rows.map num).take j ++ rows.drop j
theorem nmix_0 (rows : List (List Int)) : nmix rows 0 = rows := by simp [nmix]
theorem nmix_end (rows : List (List Int)) : nmix rows rows.length = rows.map num := by
  unfold nmix
  rw [List.take_of_length_le (by simp), List.drop_of_length_le (Nat.le_refl _), List.append_nil]
theorem nmix_get (rows : List (List Int)) {j : Nat} (h : j < rows.length) : (nmix rows j).getD j [] = rows.getD j [] := by
  unfold nmix
  have hl : ((rows.map num).take j).length = j := by rw [List.length_take, List.length_map]; omega
  rw [List.getD_eq_getElem?_getD, List.getElem?_append_right (by omega), hl, Nat.sub_self, List.getElem?_drop, Nat.add_zero, ← List.getD_eq_getElem?_getD]
theorem nmix_succ (rows : List (List Int)) {j : Nat} (h : j < rows.length) : (nmix rows (j + 1)).getD j [] = num (rows.getD j []) := by
  unfold nmix
  rw [List.getD_eq_getElem?_getD, List.getElem?_append_left (by rw [List.length_take, List.length_map]; omega), List.getElem?_take_of_lt (by omega), List.getElem?_map, List.getD_eq_getElem?_getD, List.getElem?_eq_getElem h]; rfl
theorem nmix_other (rows : List (List Int)) {i j : Nat} (h : j < rows.length) (e : i ≠ j) : (nmix rows (j + 1)).getD i [] = (nmix rows j).getD i [] := by
  unfold nmix
  have hl : ((rows.map num).take j).length = j := by rw [List.length_take, List.length_map]; omega
  have hl1 : ((rows.map num).take (j + 1)).length = j + 1 := by rw [List.length_take, List.length_map]; omega
  rw [List.getD_eq_getElem?_getD, List.getD_eq_getElem?_getD]
  rcases Nat.lt_or_ge i j with hi | hi
  · rw [List.getElem?_append_left (by omega), List.getElem?_append_left (by omega), List.getElem?_take_of_lt (by omega), List.getElem?_take_of_lt hi]
  · rw [List.getElem?_append_right (by omega), List.getElem?_append_right (by omega), hl, hl1, List.getElem?_drop, List.getElem?_drop]
    congr 2; omega
theorem gL_setr {n a c x : Int} {f : List Int} {rows : List (List Int)} {j k : Nat} (hs : small f rows) (hj : j < 3) (hjr : j < rows.length) (hk : (rows.getD j []).length = k) (hk16 : k < 16) :
    (ints (gL n a f rows c)).set (18 + j * 16 + k) (.int .i64 x) = ints (gL n a f (rows.set j (rows.getD j [] ++ [x])) c) := by
  have hps := pad_set (l := rows.getD j []) (x := x) (by omega)
  rw [hk] at hps
  rw [ints_set, ← gL_set (n := n) (a := a) (c := c) (rows := rows) (rows' := rows.set j (rows.getD j [] ++ [x])) (r := rows.getD j [] ++ [x]) (k := j) hs (by rw [List.length_append, hk]; simp; omega) hj (set_getD_same hjr) (fun i hi => set_getD_ne hi), ← hps]
  have hl := gL_len (n := n) (a := a) (c := c) hs
  have hpl : ((pad (rows.getD j [])).set k x).length = 16 := by rw [List.length_set, pad_len (hs.2 j)]
  rw [lay'_eq _ _ _ (by rw [ints_len, ints_len, hpl, hl]; omega)]
  apply List.ext_getElem?
  intro i
  rw [ints_get]
  have hlt : ((ints (gL n a f rows c)).take (18 + j * 16)).length = 18 + j * 16 := by rw [List.length_take, ints_len, hl]; omega
  rcases Nat.lt_or_ge i (18 + j * 16) with h1 | h1
  · rw [List.getElem?_set_ne (by omega), List.append_assoc, List.getElem?_append_left (by omega), List.getElem?_take_of_lt h1, ints_get]
  · rcases Nat.lt_or_ge i (18 + j * 16 + 16) with h2 | h2
    · rw [List.append_assoc, List.getElem?_append_right (by omega), hlt, List.getElem?_append_left (by rw [ints_len, hpl]; omega), ints_get]
      obtain ⟨t, rfl⟩ : ∃ t, i = 18 + j * 16 + t := ⟨i - (18 + j * 16), by omega⟩
      rw [Nat.add_sub_cancel_left]
      by_cases e : k = t
      · subst e
        rw [List.getElem?_set_self (by omega), List.getElem?_set_self (by rw [pad_len (hs.2 j)]; omega)]
      · rw [List.getElem?_set_ne (by omega), List.getElem?_set_ne e, gL_r hs hj (by omega)]
    · rw [List.getElem?_set_ne (by omega), List.getElem?_append_right (by rw [List.length_append, hlt, ints_len, hpl]; omega), List.length_append, hlt, ints_len, hpl, List.getElem?_drop, ints_get]
      congr 2; omega
theorem raw_small {m : Md} (ws : List Nat) (f : List Int) (hw : ws.length ≤ 16) (hf : f.length ≤ 16) : small f (rawRows m ws) := by
  refine ⟨hf, fun k => ?_⟩
  rcases Nat.lt_or_ge k m.blocks.length with h | h
  · rw [rawRows_get m ws h, pick_len]; exact hw
  · rw [List.getD_eq_getElem?_getD, List.getElem?_eq_none (by rw [rawRows_len]; exact h)]; simp
theorem mix_small {m : Md} (ws : List Nat) (f : List Int) {k j : Nat} (hj : j ≤ m.blocks.length) (hw : ws.length ≤ 16) (hf : f.length ≤ 16) : small f (mix m ws k j) := by
  refine ⟨hf, fun i => ?_⟩
  have ha : ∀ i, ((rawRows m (ws.take (k + 1))).getD i []).length ≤ 16 := (raw_small (m := m) (ws.take (k + 1)) f (by rw [List.length_take]; omega) hf).2
  have hb : ∀ i, ((rawRows m (ws.take k)).getD i []).length ≤ 16 := (raw_small (m := m) (ws.take k) f (by rw [List.length_take]; omega) hf).2
  unfold mix
  have hl : ((rawRows m (ws.take (k + 1))).take j).length = j := by rw [List.length_take, rawRows_len]; omega
  rw [List.getD_eq_getElem?_getD]
  rcases Nat.lt_or_ge i j with hi | hi
  · rw [List.getElem?_append_left (by omega), List.getElem?_take_of_lt hi, ← List.getD_eq_getElem?_getD]; exact ha i
  · rw [List.getElem?_append_right (by omega), hl, List.getElem?_drop, ← List.getD_eq_getElem?_getD]; exact hb _
theorem nmix_small (rows : List (List Int)) (f : List Int) (j : Nat) (h : small f rows) : small f (nmix rows j) := by
  refine ⟨h.1, fun i => ?_⟩
  unfold nmix
  rw [List.getD_eq_getElem?_getD]
  rcases Nat.lt_or_ge i ((rows.map num).take j).length with hi | hi
  · rw [List.getElem?_append_left hi]
    have hi' : i < j ∧ i < rows.length := by rw [List.length_take, List.length_map] at hi; omega
    rw [List.getElem?_take_of_lt hi'.1, List.getElem?_map]
    have := h.2 i
    rw [List.getD_eq_getElem?_getD] at this
    rw [List.getElem?_eq_getElem hi'.2] at this ⊢
    simp only [Option.map_some, Option.getD_some] at this ⊢
    rw [num_len]; exact this
  · rw [List.getElem?_append_right hi, List.getElem?_drop, ← List.getD_eq_getElem?_getD]; exact h.2 _
theorem nums_contains {ws : List Nat} {a : Int} : (nums ws).contains a = true ↔ ∃ i ∈ ws, (i : Int) = a := by
  unfold nums
  rw [List.contains_iff_mem, List.mem_map]
  exact Iff.rfl
theorem actIn_succ {a : Int} {ws : List Nat} {k : Nat} (hk : k < ws.length) (hnd : ws.Nodup) : actIn a (ws.take (k + 1)) = if (ws[k] : Int) = a then (k : Int) else actIn a (ws.take k) := by
  have hlk : (nums (ws.take k)).length = k := by rw [nums_len, List.length_take]; omega
  rw [take_snocN hk]
  unfold actIn
  rw [nums_app, List.contains_append]
  by_cases e : (ws[k] : Int) = a
  · rw [if_pos e]
    have hno : (nums (ws.take k)).contains a = false := by
      rw [Bool.eq_false_iff]
      intro h
      obtain ⟨i, hi, he⟩ := nums_contains.1 h
      have hik : i = ws[k] := by omega
      subst hik
      obtain ⟨j, hj, hje⟩ := List.getElem_of_mem hi
      rw [List.length_take] at hj
      rw [List.getElem_take] at hje
      have := (List.getElem_inj hnd).1 hje
      omega
    have hyes : (nums [ws[k]]).contains a = true := nums_contains.2 ⟨ws[k], by simp, e⟩
    have hnm : a ∉ nums (ws.take k) := by rw [← List.contains_iff_mem, hno]; decide
    rw [hno, hyes]
    simp only [Bool.false_or, if_true]
    rw [List.idxOf_append, if_neg hnm, hlk]
    have : (nums [ws[k]]).idxOf a = 0 := by unfold nums; simp only [List.map_cons, List.map_nil]; rw [← e]; simp
    rw [this]; simp
  · rw [if_neg e]
    have hno : (nums [ws[k]]).contains a = false := by
      rw [Bool.eq_false_iff]
      intro h
      obtain ⟨i, hi, he⟩ := nums_contains.1 h
      simp only [List.mem_singleton] at hi
      subst hi
      exact e he
    rw [hno, Bool.or_false]
    cases h : (nums (ws.take k)).contains a with
    | true =>
      simp only [if_true]
      have hm : a ∈ nums (ws.take k) := by rw [← List.contains_iff_mem, h]
      rw [List.idxOf_append, if_pos hm]
    | false => rfl
theorem lst_nodup (p : Nat → Bool) (k : Nat) : (lst p k).Nodup := List.Nodup.sublist List.filter_sublist List.nodup_range
theorem nums_getD {ws : List Nat} {k : Nat} (h : k < ws.length) : (nums ws).getD k 0 = (ws[k] : Int) := by
  unfold nums
  rw [List.getD_eq_getElem?_getD, List.getElem?_map, List.getElem?_eq_getElem h]; rfl
def bools (l : List Bool) : List Value := l.map Value.bool
theorem bools_len (l : List Bool) : (bools l).length = l.length := by simp [bools]
theorem bools_at {l : List Bool} {j : Nat} (h : j < l.length) : (bools l)[j]? = some (.bool (l.getD j false)) := by
  unfold bools; rw [List.getElem?_map, getD_some false h]; rfl
theorem bools_set (l : List Bool) (j : Nat) (b : Bool) : (bools l).set j (.bool b) = bools (l.set j b) := by unfold bools; rw [List.map_set]
def Bv (lo hi : Nat) (w : World) (v : Value) (l : List Bool) : Prop := Rv lo hi w v (bools l)
theorem Bv.parts {lo hi : Nat} {w : World} {v : Value} {l : List Bool} (h : Bv lo hi w v l) : ∃ a cap, v = .slice a l.length cap ∧ l.length ≤ cap ∧ cap ≤ maxLen ∧
    ∀ j, j < l.length → ∃ b o, a = some ⟨b, o, none⟩ ∧ lo ≤ b ∧ b < hi ∧ b < w.heap.size ∧ w.cell? ⟨b, o + j, none⟩ = some (.bool (l.getD j false)) := by
  obtain ⟨a, cap, rfl, h1, h2, h3⟩ := h
  rw [bools_len] at *
  refine ⟨a, cap, rfl, h1, h2, fun j hj => ?_⟩
  rcases h3 with h3 | ⟨b, o, rfl, hl, hh, hlt, h3⟩
  · have := congrArg List.length h3; rw [bools_len] at this; simp at this; subst this; simp at hj
  · exact ⟨b, o, rfl, hl, hh, hlt, h3 j _ (bools_at hj)⟩
theorem Bv.cells {lo hi : Nat} {w : World} {v : Value} {l : List Bool} (h : Bv lo hi w v l) (h0 : 0 < l.length) : ∃ b o c, v = .slice (some ⟨b, o, none⟩) l.length c ∧ l.length ≤ c ∧ c ≤ maxLen ∧ lo ≤ b ∧ b < hi ∧ b < w.heap.size ∧ ∀ j, j < l.length → w.cell? ⟨b, o + j, none⟩ = some (.bool (l.getD j false)) := by
  obtain ⟨a, c, rfl, h1, h2, h3⟩ := h.parts
  obtain ⟨b, o, rfl, q1, q2, q3, _⟩ := h3 0 h0
  refine ⟨b, o, c, rfl, h1, h2, q1, q2, q3, fun j hj => ?_⟩
  obtain ⟨b', o', e, _, _, _, hc⟩ := h3 j hj
  cases e; exact hc
def Bo (lo hi : Nat) (w : World) (v : Value) (l : List Bool) : Prop := Ro lo hi w 4 v (bools l)
theorem Bo.read {lo hi : Nat} {w : World} {v : Value} {l : List Bool} (h : Bo lo hi w v l) : Bv lo hi w v l := Ro.read h
theorem Bo.keeps {lo hi : Nat} {w w' : World} {v : Value} {l : List Bool} (h : Bo lo hi w v l) (k : Keeps lo hi w w') : Bo lo hi w' v l := Ro.keeps h k
def BoolsAns (w : World) (l : List Bool) (e : Ending) (w' : World) : Prop := ∃ v, e = .returned v ∧ Bo w.heap.size w'.heap.size w' v l ∧ Below w.heap.size w w'
theorem own_cm {w : World} {base : Nat} {e : TypeId} {g n : Nat} {xs : List Value} (h : w.ownsRow base e 1 (.slice (some ⟨g, 0, none⟩) n n) n xs) : Cm w g e xs := by
  rcases h.2 with ⟨e1, _⟩ | ⟨g', cap, cur, e1, hb, hg, hnc, hcm, hcs, ht⟩
  · cases e1
  · cases e1
    unfold Cm
    rw [hg]
    have : cur.toList = xs := by rw [← ht, List.take_of_length_le (by rw [Array.length_toList, hcs]; exact Nat.le_refl _)]
    rw [← this]
theorem cm_own {w : World} {e : TypeId} {g n : Nat} {xs : List Value} (h : Cm w g e xs) (hl : xs.length = n) (hn : n ≤ maxLen) : w.ownsRow g e 1 (.slice (some ⟨g, 0, none⟩) n n) n xs :=
  ⟨by omega, .inr ⟨g, n, xs.toArray, rfl, Nat.le_refl _, h, Nat.le_refl _, hn, by simp [hl], by simp [← hl]⟩⟩
section
variable {P : Program}
theorem wpList_makeM {ops : Array Oper} {rest : List Oper} {o : Oper} {a : Act} {w : World} {Q : Exit → Act → World → Prop} (hgd : o.guard = none) (x y : Operand) (t : TypeId) (d : Nat) (hd : o.dst = some d) (ho : o.op = .makeSlice t x y)
    (e : TypeId) (z : Value) (bytes : Nat) (ht : P.underlying t = some (.slice e)) (hinfo : (P.info? e).map (fun i => (i.zero, i.size, i.bytes)) = some (some z, 1, bytes)) (n : Nat) (kl kc : IntKind)
    (hx : a.eval x = .int kl n) (hy : a.eval y = .int kc n) (hb : bytes * n ≤ 281474976710656) (h63 : n ≤ maxLen) (zs : List Value) (hz : (madeCells z.cells n).toList = zs)
    (h : ∀ w', Cm w' w.heap.size e zs → Below w.heap.size w w' → wpList P ops Q rest (a.put (some d) (.slice (some ⟨w.heap.size, 0, none⟩) n n)) w') : wpList P ops Q (o :: rest) a w :=
  wpList_plain hgd fun _ hK => wp_makeF x y t d hd ho e z bytes ht hinfo n kl kc hx hy hb h63 fun w' h1 h2 _ => hK _ _ (h w' (by rw [← hz]; exact own_cm h1) h2)
end
theorem madeB (n : Nat) : (madeCells (Value.bool false).cells n).toList = bools (List.replicate n false) := by
  have h : (Value.bool false).cells = #[.bool false] := rfl
  rw [h]
  apply List.ext_getElem?
  intro j
  simp only [madeCells, bools]
  rcases Nat.lt_or_ge j n with hj | hj
  · simp [hj, Nat.mod_one]
  · simp [hj]
end Go.Proofs.YtnpfnfenkklocaaGreatDoor
