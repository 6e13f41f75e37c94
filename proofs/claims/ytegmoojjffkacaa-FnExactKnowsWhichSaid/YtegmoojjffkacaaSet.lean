/-
  The program's sets of worlds: sixteen bools; contracts of worldSet.list and grid.setOf. No condition.
-/
import Derived.Test.YtegmoojjffkacaaTel
namespace Go.Proofs.Ytegmoojjffkacaa
open Go.RowKit Go.WideShapes
open Go Go.Deep
set_option linter.unusedSimpArgs false

/-- the cells of a set -/
def bL (p : Nat → Bool) : List Value := (List.range 16).map fun i => Value.bool (p i)
theorem bL_len (p : Nat → Bool) : (bL p).length = 16 := by simp [bL]
theorem bL_get (p : Nat → Bool) {i : Nat} (h : i < 16) : (bL p)[i]? = some (.bool (p i)) := by
  unfold bL; rw [List.getElem?_map, List.getElem?_range h]; rfl
theorem bL_one {p : Nat → Bool} {v : Value} (h : v ∈ bL p) : v.oneCell' = true := by
  unfold bL at h
  obtain ⟨i, _, rfl⟩ := List.mem_map.1 h
  rfl
def upd (p : Nat → Bool) (i : Nat) (b : Bool) : Nat → Bool := fun j => if j = i then b else p j
theorem bL_set (p : Nat → Bool) {i : Nat} (b : Bool) : (bL p).set i (.bool b) = bL (upd p i b) := by
  apply List.ext_getElem?
  intro j
  rcases Nat.lt_or_ge j 16 with h | h
  · rw [bL_get _ h]
    by_cases e : i = j
    · subst e; rw [List.getElem?_set_self (by rw [bL_len]; exact h)]; simp [upd]
    · rw [List.getElem?_set_ne e, bL_get _ h]; simp [upd, Ne.symm e]
  · rw [List.getElem?_eq_none (by rw [List.length_set, bL_len]; exact h), List.getElem?_eq_none (by rw [bL_len]; exact h)]
theorem bL_congr {p q : Nat → Bool} (h : ∀ i, i < 16 → p i = q i) : bL p = bL q := by
  unfold bL
  exact List.map_congr_left fun i hi => by rw [h i (List.mem_range.1 hi)]
theorem bL_inj {p q : Nat → Bool} (h : bL p = bL q) : ∀ i, i < 16 → p i = q i := by
  intro i hi
  have := congrArg (·[i]?) h
  simp only [bL_get _ hi, Option.some.injEq, Value.bool.injEq] at this
  exact this
/-- the members among the first k, ascending -/
def lst (p : Nat → Bool) (k : Nat) : List Nat := (List.range k).filter p
def nums (l : List Nat) : List Int := l.map fun i => Int.ofNat i
theorem lst_succ (p : Nat → Bool) (k : Nat) : lst p (k + 1) = lst p k ++ (if p k then [k] else []) := by
  unfold lst; rw [List.range_succ, List.filter_append]; cases h : p k <;> simp [h]
theorem lst_len (p : Nat → Bool) (k : Nat) : (lst p k).length ≤ k := by
  have := List.length_filter_le p (List.range k); rw [List.length_range] at this; exact this
theorem nums_len (l : List Nat) : (nums l).length = l.length := by simp [nums]
theorem nums_app (a b : List Nat) : nums (a ++ b) = nums a ++ nums b := by simp [nums]
theorem mem_lst {p : Nat → Bool} {k i : Nat} : i ∈ lst p k ↔ i < k ∧ p i = true := by unfold lst; rw [List.mem_filter, List.mem_range]
theorem lst_congr {p q : Nat → Bool} {k : Nat} (h : ∀ i, i < k → p i = q i) : lst p k = lst q k := List.filter_congr fun i hi => h i (List.mem_range.1 hi)
theorem Try.allocSet (w : World) : (Instr.alloc 83 true (.tuple #[])).run Try.prog w = .ok (.pointer (some ⟨w.heap.size, 0, none⟩)) (w.alloc (.cells (bL (fun _ => false)).toArray 83)) := by kernel_rfl
theorem Try.buildSet (w : World) : (Instr.build 83 #[]).run Try.prog w = .ok (.agg (bL (fun _ => false)).toArray) w := by kernel_rfl
theorem Try.sizeSet : (Try.prog.info? 83).map (·.size) = some 16 := by kernel_rfl
theorem Try.infoB : (Try.prog.info? 4).map (fun i => (i.zero, i.size, i.bytes)) = some (some (.bool false), 1, 1) := by kernel_rfl

set_option maxRecDepth 100000 in
set_option maxHeartbeats 8000000 in
theorem setList_any (p : Nat → Bool) (w : World) :
    Calls Try.prog 80 #[.agg (bL p).toArray] w (IntsAns w (nums (lst p 16))) := by
  obtain ⟨i0, hi, _, hi1, _⟩ := info_parts Try.infoB
  have HX := Lib.hid (fun k (h : k < 16) => bL_get p h)
  have HL := Lib.hid (bL_len p)
  have HLL := Lib.hid (fun k => lst_len p k)
  have HLS := Lib.hid (fun k => lst_succ p k)
  generalize bL p = V at *
  go_enter Try.func80, Try.ntmps80
  go_wp2_with (refine wpList_loadM rfl 83 _ rfl w.heap.size 0 rfl 83 V V (Cm.new rfl) (fun j _ => by rw [Nat.zero_add]) _ Try.underlying83 rfl (by rw [HL.out]; exact Try.sizeSet) ?_)
  have b1 : Below w.heap.size w (w.alloc (.cells V.toArray 83)) := by go_grown
  have z1 : w.heap.size ≤ (w.alloc (.cells V.toArray 83)).heap.size := b1.size
  generalize w.alloc (.cells V.toArray 83) = w1 at *
  have B1 := Lib.hid b1
  clear b1
  go_loopw [3, 7] (fun lv iv wr => ∃ (k : Nat) (lv' : Value), k ≤ 16 ∧ iv = .int .i64 k ∧ lv' = lv ∧ Hid (wr.ownsRow w.heap.size 3 1 lv' (lst p k).length (ints (nums (lst p k)))) ∧ Hid (Below w.heap.size w wr)) (fun _ iv _ => 16 - (intOf iv).toNat)
  case atStart => exact ⟨0, _, Nat.zero_le _, rfl, rfl, Lib.hid (World.ownsRow_nil _ _ _ _), B1⟩
  case round =>
    clear B1 z1
    obtain ⟨k, lv, hk, rfl, rfl, LR, BR⟩ := hrel
    by_cases hlt : k < 16
    · have HK := Lib.hid (HX.out k hlt)
      have HS := Lib.hid (HLS.out k)
      have hlk := HLL.out k
      have hsz : w.heap.size ≤ wr.heap.size := BR.out.size
      have HLB : Hid (∀ q, lv.ownBlock = some q → w.heap.size ≤ q) := Lib.hid (fun q hq => (LR.out.lt q hq).1)
      obtain ⟨b, hb⟩ : ∃ b, b = p k := ⟨_, rfl⟩
      rw [← hb] at HK HS
      clear hb
      cases b with
      | true =>
        go_wp2_with
          (first
            | (refine wpList_indexM rfl 83 (.tmp 6) (.tmp 7) rfl V rfl .i64 k rfl 16 4 Try.underlying83 (by kernel_rfl) i0 hi hi1 hlt _ HK.out ?_)
            | (at_builtin; refine wpList_pushL rfl (.tmp 12) (.tmp 14) 22 15 rfl rfl 3 (.int .i64 0) 8 Try.underlying22 Try.infoI rfl w.heap.size (.int .i64 k) lv (lst p k).length (ints (nums (lst p k))) LR.out rfl wr.heap.size rfl rfl rfl (by unfold maxLen; omega) (by omega) hsz ?_; intro v6 w6 hown hg; have L6 := Lib.hid hown; have B6 : Hid (Below w.heap.size w w6) := Lib.hid (BR.out.trans (hg.below hsz HLB.out)); clear hown hg))
        go_roundw
        case rel =>
          refine ⟨k + 1, _, by omega, by go_num, rfl, Lib.hid ?_, B6⟩
          rw [HS.out, if_pos rfl, nums_app, ints_app, List.length_append]
          exact L6.out
        case measure => simp [intOf]; omega
      | false =>
        go_wp2_with (refine wpList_indexM rfl 83 (.tmp 6) (.tmp 7) rfl V rfl .i64 k rfl 16 4 Try.underlying83 (by kernel_rfl) i0 hi hi1 hlt _ HK.out ?_)
        go_roundw
        case rel =>
          refine ⟨k + 1, _, by omega, by go_num, rfl, Lib.hid ?_, BR⟩
          rw [HS.out, if_neg (by decide), List.append_nil]
          exact LR.out
        case measure => simp [intOf]; omega
    · obtain rfl : k = 16 := by omega
      go_wp2
      go_ret
      exact ⟨_, rfl, Ro.of_own LR.out, BR.out⟩

/-- what an element is held against: the one before it -/
def bef (l : List Int) (k : Nat) : Int := if k = 0 then -1 else l.getD (k - 1) 0
/-- the first k are ascending worlds -/
def okTo (l : List Int) (n : Int) (k : Nat) : Prop := ∀ i, i < k → bef l i < l.getD i 0 ∧ l.getD i 0 < n
instance (l : List Int) (n : Int) (k : Nat) : Decidable (okTo l n k) := by unfold okTo; exact inferInstance
def ascOk (l : List Int) (n : Int) : Bool := decide (okTo l n l.length)
def memP (l : List Int) : Nat → Bool := fun i => decide ((i : Int) ∈ l)
theorem bef_succ (l : List Int) (k : Nat) : bef l (k + 1) = l.getD k 0 := by unfold bef; rw [if_neg (by omega)]; rfl
theorem bef_low {l : List Int} {n : Int} : ∀ {k : Nat}, okTo l n k → -1 ≤ bef l k
  | 0, _ => by unfold bef; simp
  | k + 1, h => by
    have h1 := bef_low (k := k) (fun i hi => h i (by omega))
    have h2 := h k (by omega)
    rw [bef_succ]; omega
theorem okTo_succ {l : List Int} {n : Int} {k : Nat} (h : okTo l n k) (h1 : bef l k < l.getD k 0) (h2 : l.getD k 0 < n) : okTo l n (k + 1) := by
  intro i hi
  rcases Nat.lt_or_eq_of_le (Nat.le_of_lt_succ hi) with h3 | h3
  · exact h i h3
  · subst h3; exact ⟨h1, h2⟩
theorem ascOk_no {l : List Int} {n : Int} {k : Nat} (hk : k < l.length) (h : ¬ (bef l k < l.getD k 0 ∧ l.getD k 0 < n)) : ascOk l n = false :=
  decide_eq_false fun e => h (e k hk)
theorem memP_succ {l : List Int} {k x : Nat} (hk : k < l.length) (hx : l.getD k 0 = x) : upd (memP (l.take k)) x true = memP (l.take (k + 1)) := by
  funext j
  unfold upd memP
  rw [take_snocI hk, hx]
  by_cases e : j = x
  · subst e; simp
  · have e' : ¬ ((j : Int) = (x : Int)) := by omega
    simp [e, e']
theorem set_store (p : Nat → Bool) {i : Nat} (h : i < 16) {w : World} {b : Nat} {T : TypeId} (hc : Cm w b T (bL p)) : w.cell? ⟨b, i, none⟩ = some (.bool (p i)) := by rw [hc.cell, bL_get _ h]
/-- what setOf answers -/
def SoAns (w : World) (ok : Bool) (p : Nat → Bool) (e : Ending) (w' : World) : Prop := e = .returned (.tuple #[.agg (bL p).toArray, .bool ok]) ∧ Below w.heap.size w w'

set_option maxRecDepth 100000 in
set_option maxHeartbeats 16000000 in
theorem setOf_any (lo hi : Nat) (v : Value) (l : List Int) (m : Md) (w : World) (hr : Iv lo hi w v l) (hn : l.length ≤ 1048576) (hm : mdOk m = true) :
    Calls Try.prog 74 #[.agg (ints (gL m.facts.length m.blocks.length m.facts m.blocks m.actual)).toArray, v] w (SoAns w (ascOk l m.facts.length) (if ascOk l m.facts.length then memP l else fun _ => false)) := by
  obtain ⟨p1, p2, p3, p4, _⟩ := mdOk_parts hm
  have hs := md_small hm
  obtain ⟨a, cap, rfl, h1, h2, h3⟩ := hr.parts
  unfold maxLen at h2
  have KEY := Lib.hid h3
  clear h3 hr
  have HL : Hid ((ints (gL m.facts.length m.blocks.length m.facts m.blocks m.actual)).length = 67) := Lib.hid (by rw [ints_len]; exact gL_len hs)
  have KW := Lib.hid (fun x W => hasWorld_any m.facts.length m.blocks.length m.actual m.facts m.blocks x W)
  have HZ : Hid (bL (fun _ => false) = bL (memP (l.take 0))) := Lib.hid (bL_congr fun i _ => by simp [memP])
  have HBS := Lib.hid (bef_succ l)
  have HB0 : Hid (bef l 0 = -1) := Lib.hid rfl
  have HNO := Lib.hid (fun k hk h => ascOk_no (l := l) (n := m.facts.length) (k := k) hk h)
  generalize gL m.facts.length m.blocks.length m.facts m.blocks m.actual = G at *
  obtain ⟨ok, hok⟩ : ∃ ok, ok = ascOk l m.facts.length := ⟨_, rfl⟩
  have HOKD : Hid (ok = decide (okTo l m.facts.length l.length)) := Lib.hid hok
  rw [← hok] at HNO ⊢
  obtain ⟨R, hR⟩ : ∃ R, R = if ok then memP l else fun _ => false := ⟨_, rfl⟩
  rw [← hR]
  have HRT : Hid (ok = true → R = memP l) := Lib.hid (fun h => by rw [hR, if_pos h])
  have HRF : Hid (ok = false → R = fun _ => false) := Lib.hid (fun h => by rw [hR, h]; rfl)
  clear hok hs hm hR
  go_enter Try.func74, Try.ntmps74
  go_wp2
  have z0 : Cm (((w.alloc (.cells (ints G).toArray 75)).alloc (.cells (bL (fun _ => false)).toArray 83)).alloc (.cells (bL (fun _ => false)).toArray 83)) (w.heap.size + 1 + 1) 83 (bL (memP (l.take 0))) := by rw [← HZ.out]; exact Cm.new (by simp)
  have r0 : Cm (((w.alloc (.cells (ints G).toArray 75)).alloc (.cells (bL (fun _ => false)).toArray 83)).alloc (.cells (bL (fun _ => false)).toArray 83)) (w.heap.size + 1) 83 (bL (fun _ => false)) := (Cm.new (by simp)).alloc _
  have c0 : Cm (((w.alloc (.cells (ints G).toArray 75)).alloc (.cells (bL (fun _ => false)).toArray 83)).alloc (.cells (bL (fun _ => false)).toArray 83)) w.heap.size 75 (ints G) := ((Cm.new rfl).alloc _).alloc _
  have b0 : Below w.heap.size w (((w.alloc (.cells (ints G).toArray 75)).alloc (.cells (bL (fun _ => false)).toArray 83)).alloc (.cells (bL (fun _ => false)).toArray 83)) := by go_grown
  have Z0 := Lib.hid z0
  have R0 := Lib.hid r0
  have C0 := Lib.hid c0
  have B0 := Lib.hid b0
  clear z0 r0 c0 b0 HZ
  go_loopw [7, 12] (fun bv iv wr => ∃ k : Nat, k ≤ l.length ∧ iv = .int .i64 k ∧ bv = .int .i64 (bef l k) ∧ Hid (okTo l m.facts.length k) ∧ Hid (Cm wr (w.heap.size + 1 + 1) 83 (bL (memP (l.take k)))) ∧ Hid (Cm wr (w.heap.size + 1) 83 (bL (fun _ => false))) ∧ Hid (Cm wr w.heap.size 75 (ints G)) ∧ Hid (Below w.heap.size w wr)) (fun _ iv _ => l.length - (intOf iv).toNat)
  case atStart => exact ⟨0, Nat.zero_le _, rfl, by rw [HB0.out], Lib.hid (fun i hi => by omega), Z0, R0, C0, B0⟩
  case round =>
    clear Z0 R0 C0 B0
    obtain ⟨k, hk, rfl, rfl, HOK, ZR, RR, CR, BR⟩ := hrel
    by_cases hlt : k < l.length
    · obtain ⟨b, o, rfl, _, _, hb, c0⟩ := KEY.out k hlt
      rw [← BR.out.cell (p := ⟨b, o + k, none⟩) hb] at c0
      have hlow := bef_low HOK.out
      have HN := Lib.hid (HNO.out k hlt)
      have HB := Lib.hid (HBS.out k)
      obtain ⟨x, hx⟩ : ∃ x, x = l.getD k 0 := ⟨_, rfl⟩
      obtain ⟨q, hq⟩ : ∃ q, q = bef l k := ⟨_, rfl⟩
      have HX := Lib.hid hx
      have HQ := Lib.hid hq
      rw [← hx] at c0 HN HB
      rw [← hq] at hlow HN ⊢
      clear hx hq
      rcases Int.lt_or_le q x with hqx | hqx
      · have hdx : decide (x ≤ q) = false := decide_eq_false (by omega)
        rcases Int.lt_or_le x m.facts.length with hxn | hxn
        · obtain ⟨i, rfl⟩ := Int.eq_ofNat_of_zero_le (show 0 ≤ x by omega)
          have KWx := Lib.hid (KW.out i)
          rw [inB_yes (by omega) hxn] at KWx
          have hi16 : i < 16 := by omega
          have hi16' : (i : Int) < 16 := by omega
          have hi0 : (0 : Int) ≤ (i : Int) := Int.natCast_nonneg _
          have HMS := Lib.hid (memP_succ hlt HX.out.symm)
          have HO2 := Lib.hid (okTo_succ HOK.out (by rw [← HQ.out, ← HX.out]; exact hqx) (by rw [← HX.out]; exact hxn))
          go_wp2_with
            (first
              | (refine wpList_loadMG rfl (by rfl) 75 _ rfl w.heap.size 0 rfl 75 (ints G) (ints G) CR.out (fun j _ => by rw [Nat.zero_add]) _ Try.underlying75 rfl (by rw [HL.out]; exact Try.sizeGrid) ?_)
              | (go_at_call 68; (with_reducible refine (KWx.out _).mono ?_); rintro e w4 ⟨rfl, hb4⟩; have ZR := Lib.hid (ZR.out.all hb4); have RR := Lib.hid (RR.out.all hb4); have CR := Lib.hid (CR.out.all hb4); have BR : Hid (Below w.heap.size w w4) := Lib.hid (BR.out.trans (hb4.mono BR.out.size)); clear hb4 c0; have ck := set_store _ hi16 ZR.out; have fk := ZR.out.frozen i))
          clear ck fk
          go_roundw
          case rel => exact ⟨k + 1, by omega, by go_num, by rw [HB.out], HO2, Lib.hid (by rw [← HMS.out, ← bL_set]; exact ZR.out.set i _), Lib.hid (RR.out.other (by omega) _ _), Lib.hid (CR.out.other (by omega) _ _), Lib.hid (BR.out.setCell (by show _ ≤ w.heap.size + 1 + 1; omega) _)⟩
          case measure => simp [intOf]; omega
        · have KWx := Lib.hid (KW.out x)
          rw [inB_high hxn] at KWx
          have HF : Hid (ok = false) := Lib.hid (HN.out (by omega))
          go_wp2_with
            (first
              | (refine wpList_loadMG rfl (by rfl) 75 _ rfl w.heap.size 0 rfl 75 (ints G) (ints G) CR.out (fun j _ => by rw [Nat.zero_add]) _ Try.underlying75 rfl (by rw [HL.out]; exact Try.sizeGrid) ?_)
              | (go_at_call 68; (with_reducible refine (KWx.out _).mono ?_); rintro e w4 ⟨rfl, hb4⟩; have RR := Lib.hid (RR.out.all hb4); have BR : Hid (Below w.heap.size w w4) := Lib.hid (BR.out.trans (hb4.mono BR.out.size)); clear hb4 c0)
              | (refine wpList_buildM rfl 83 _ rfl #[] (by simp) (bL (fun _ => false)) (Try.buildSet _) ?_)
              | (refine wpList_storeM rfl 83 (.tmp 4) (.tmp 25) rfl (w.heap.size + 1) 0 rfl (bL (fun _ => false)) rfl 83 _ RR.out (by rw [bL_len]; exact Nat.le_refl _) (by rw [bL_len]; exact Try.sizeSet) (fun v hv => bL_one hv) ?_
                 intro w5 hc5 ha5
                 rw [lay'_all rfl] at hc5
                 have R5 := Lib.hid hc5
                 have B5 : Hid (Below w.heap.size w w5) := Lib.hid (BR.out.trans (ha5.below (by omega)))
                 clear hc5 ha5))
          refine bodyPost_ret (results_mid2 Try.results74 _ _ (w.heap.size + 1) (bL (fun _ => false)) _ (.bool false) rfl rfl R5.out.whole Try.underlying83 rfl (by rw [bL_len]; exact Try.sizeSet)) rfl ?_
          rw [HRF.out HF.out, HF.out]
          exact ⟨rfl, B5.out⟩
      · have HF : Hid (ok = false) := Lib.hid (HN.out (by omega))
        go_wp2_with
          (first
            | (refine wpList_buildM rfl 83 _ rfl #[] (by simp) (bL (fun _ => false)) (Try.buildSet _) ?_)
            | (refine wpList_storeM rfl 83 (.tmp 4) (.tmp 25) rfl (w.heap.size + 1) 0 rfl (bL (fun _ => false)) rfl 83 _ RR.out (by rw [bL_len]; exact Nat.le_refl _) (by rw [bL_len]; exact Try.sizeSet) (fun v hv => bL_one hv) ?_
               intro w5 hc5 ha5
               rw [lay'_all rfl] at hc5
               have R5 := Lib.hid hc5
               have B5 : Hid (Below w.heap.size w w5) := Lib.hid (BR.out.trans (ha5.below (by omega)))
               clear hc5 ha5))
        refine bodyPost_ret (results_mid2 Try.results74 _ _ (w.heap.size + 1) (bL (fun _ => false)) _ (.bool false) rfl rfl R5.out.whole Try.underlying83 rfl (by rw [bL_len]; exact Try.sizeSet)) rfl ?_
        rw [HRF.out HF.out, HF.out]
        exact ⟨rfl, B5.out⟩
    · have HT : Hid (ok = true) := Lib.hid (by
        rw [HOKD.out]
        refine decide_eq_true (fun i hi => HOK.out i (by omega)))
      have HLT : Hid (l.take k = l) := Lib.hid (List.take_of_length_le (by omega))
      have ZL : Hid (Cm wr (w.heap.size + 1 + 1) 83 (bL (memP l))) := Lib.hid (by rw [← HLT.out]; rw [HLT.out]; have := ZR.out; rw [HLT.out] at this; exact this)
      go_wp2_with
        (first
          | (refine wpList_loadM rfl 83 _ rfl (w.heap.size + 1 + 1) 0 rfl 83 (bL (memP l)) (bL (memP l)) ZL.out (fun j _ => by rw [Nat.zero_add]) _ Try.underlying83 rfl (by rw [bL_len]; exact Try.sizeSet) ?_)
          | (refine wpList_storeM rfl 83 (.tmp 4) (.tmp 30) rfl (w.heap.size + 1) 0 rfl (bL (memP l)) rfl 83 _ RR.out (by rw [bL_len, bL_len]; exact Nat.le_refl _) (by rw [bL_len]; exact Try.sizeSet) (fun v hv => bL_one hv) ?_
             intro w5 hc5 ha5
             rw [lay'_all (by rw [bL_len, bL_len])] at hc5
             have R5 := Lib.hid hc5
             have B5 : Hid (Below w.heap.size w w5) := Lib.hid (BR.out.trans (ha5.below (by omega)))
             clear hc5 ha5))
      refine bodyPost_ret (results_mid2 Try.results74 _ _ (w.heap.size + 1) (bL (memP l)) _ (.bool true) rfl rfl R5.out.whole Try.underlying83 rfl (by rw [bL_len]; exact Try.sizeSet)) rfl ?_
      rw [HRT.out HT.out, HT.out]
      exact ⟨rfl, B5.out⟩
end Go.Proofs.Ytegmoojjffkacaa
