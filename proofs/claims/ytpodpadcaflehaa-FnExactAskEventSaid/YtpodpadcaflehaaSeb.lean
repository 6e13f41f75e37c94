/-
  impl.seenBy: the event model of some conditions. Condition: at most four of them.
-/
import Derived.Test.YtpodpadcaflehaaCln
import Derived.Test.YtpodpadcaflehaaFrm
import Derived.Test.YtpodpadcaflehaaZReg
import Derived.Test.YtpodpadcaflehaaMrg
import Derived.Test.YtpodpadcaflehaaZMok
namespace Go.Proofs.Ytpodpadcaflehaa
open Go.RowKit Go.WideShapes
open Go Go.Deep
set_option linter.unusedSimpArgs false

/-- the grid of seenBy when k events have been laid down -/
def seenF (n A : Int) (ag k : Nat) : Nat → Int := fun i => if i = 0 then n else if i = 1 then A else if 18 + ag * 16 ≤ i ∧ i < 18 + ag * 16 + k then ((i - (18 + ag * 16) : Nat) : Int) else 0
theorem seenF_0 (n A : Int) (ag : Nat) : gL n A [] [] 0 = gG (seenF n A ag 0) := by
  refine GF.eq ⟨by simp [seenF], by simp [seenF], fun i hi => ?_, fun k i hk hi => ?_, ?_⟩ ⟨by simp, fun k => by simp⟩
  · unfold seenF; rw [if_neg (by omega), if_neg (by omega), if_neg (by omega)]; simp
  · unfold seenF; rw [if_neg (by omega), if_neg (by omega), if_neg (by omega)]; simp
  · unfold seenF; rw [if_neg (by omega), if_neg (by omega), if_neg (by omega)]
theorem seenF_succ (n A : Int) (ag k : Nat) : updI (seenF n A ag k) (18 + ag * 16 + k) (k : Int) = seenF n A ag (k + 1) := by
  funext i
  unfold updI seenF
  by_cases e : i = 18 + ag * 16 + k
  · subst e
    rw [if_pos rfl, if_neg (by omega), if_neg (by omega), if_pos (by omega)]
    congr 1; omega
  · rw [if_neg e]
    by_cases h0 : i = 0
    · rw [if_pos h0, if_pos h0]
    by_cases h1 : i = 1
    · rw [if_neg h0, if_neg h0, if_pos h1, if_pos h1]
    rw [if_neg h0, if_neg h1, if_neg h0, if_neg h1]
    by_cases h2 : 18 + ag * 16 ≤ i ∧ i < 18 + ag * 16 + k
    · rw [if_pos h2, if_pos (by omega)]
    · rw [if_neg h2, if_neg (by omega)]
/-- .. and as a model -/
def seenRows (ag A n : Nat) : List (List Int) := (List.range A).map fun (k : Nat) => if k = ag then (List.range n).map fun (i : Nat) => (i : Int) else List.replicate n 0
def seenMd (ag A n : Nat) : Md := ⟨List.replicate n 0, seenRows ag A n, 0⟩
theorem seenRows_get {ag A n k : Nat} (hk : k < A) : (seenRows ag A n).getD k [] = if k = ag then (List.range n).map fun (i : Nat) => (i : Int) else List.replicate n 0 := by
  unfold seenRows; rw [List.getD_eq_getElem?_getD, List.getElem?_map, List.getElem?_range hk]; rfl
theorem seenMd_fits {ag A n : Nat} (hA : A ≤ 3) (hn : n ≤ 16) : fits (seenMd ag A n) := by
  refine ⟨by simp [seenMd]; exact hn, by simp [seenMd, seenRows]; exact hA, fun k hk => ?_⟩
  have hk' : k < A := by simpa [seenMd, seenRows] using hk
  show ((seenRows ag A n).getD k []).length = _
  rw [seenRows_get hk']
  split <;> simp [seenMd]
theorem seenF_end {ag A n : Nat} (hA : A ≤ 3) (hn : n ≤ 16) (hag : ag < A) : gG (seenF n A ag n) = gL (seenMd ag A n).facts.length (seenMd ag A n).blocks.length (seenMd ag A n).facts (seenMd ag A n).blocks (seenMd ag A n).actual := by
  have hf := seenMd_fits (ag := ag) hA hn
  refine (GF.eq ⟨?_, ?_, fun i hi => ?_, fun k i hk hi => ?_, ?_⟩ hf.small).symm
  · simp [seenF, seenMd]
  · simp [seenF, seenMd, seenRows]
  · unfold seenF
    rw [if_neg (by omega), if_neg (by omega), if_neg (by omega)]
    show _ = (List.replicate n 0).getD i 0
    rw [List.getD_eq_getElem?_getD, List.getElem?_replicate]
    split <;> rfl
  · unfold seenF
    rw [if_neg (by omega), if_neg (by omega)]
    show _ = ((seenRows ag A n).getD k []).getD i 0
    rcases Nat.lt_or_ge k A with hkA | hkA
    · rw [seenRows_get hkA]
      by_cases e : k = ag
      · subst e
        rw [if_pos rfl]
        by_cases h : i < n
        · rw [if_pos (by omega), List.getD_eq_getElem?_getD, List.getElem?_map, List.getElem?_range h]
          show _ = (i : Int)
          congr 1; omega
        · rw [if_neg (by omega), List.getD_eq_getElem?_getD, List.getElem?_eq_none (by simpa using h)]; rfl
      · rw [if_neg e, if_neg (by omega), List.getD_eq_getElem?_getD, List.getElem?_replicate]
        split <;> rfl
    · rw [if_neg (by omega), List.getD_eq_getElem?_getD (l := seenRows ag A n), List.getElem?_eq_none (by simpa [seenRows] using hkA)]; rfl
  · simp [seenF, seenMd]
    intro h; omega
theorem seenM_rows (ag A : Nat) (cs : List (List Nd)) : seenM (ag : Int) (A : Int) cs = ⟨cs, seenRows ag A cs.length, 0⟩ := by
  unfold seenM seenRows
  congr 1
  rw [Int.toNat_natCast]
  refine List.map_congr_left fun k _ => ?_
  by_cases e : k = ag
  · rw [if_pos (by omega), if_pos e]
  · rw [if_neg (by omega), if_neg e]
theorem Try.buildGrid2 (w : World) (x y : Int) : (Instr.build 65 #[(0, .int .i64 x), (1, .int .i64 y)]).run Try.prog w = .ok (.agg (ints (gL x y [] [] 0)).toArray) w := by kernel_rfl
theorem Try.fieldMd1 (a b : Option Addr) (n c k d : Nat) (z : Int) (w : World) : (Instr.field 28 (.agg #[.slice a n c, .slice b k d, .int .i64 z]) 1).run Try.prog w = .ok (.slice b k d) w := by kernel_rfl
theorem seenR_false {ag A : Int} {cs : List (List Nd)} (h : ¬ (inB ag A = true ∧ A ≤ 3 ∧ cs.all formOk = true)) : seenR ag A cs = none := by
  unfold seenR
  rw [if_neg]
  intro h2
  simp only [Bool.and_eq_true, decide_eq_true_eq] at h2
  exact h ⟨h2.1.1, h2.1.2, h2.2⟩
theorem all_take_false {cs : List (List Nd)} {k : Nat} (hk : k < cs.length) (h : formOk (cs.getD k []) = false) : ¬ cs.all formOk = true := by
  intro h2
  rw [List.all_eq_true] at h2
  have := h2 (cs.getD k []) (by rw [List.getD_eq_getElem?_getD, List.getElem?_eq_getElem hk]; exact List.getElem_mem _)
  rw [h] at this; cases this
theorem all_of_take {cs : List (List Nd)} (h : (cs.take cs.length).all formOk = true) : cs.all formOk = true := by rwa [List.take_of_length_le (Nat.le_refl _)] at h
theorem form_pos {xs : List Nd} (h : formOk xs = true) : 0 < xs.length ∧ xs.length ≤ 40 := ⟨(formOk_parts h).1, (formOk_parts h).2.1⟩

set_option maxRecDepth 100000 in
set_option maxHeartbeats 32000000 in
theorem seenBy_any (lo hi : Nat) (v : Value) (cs : List (List Nd)) (ag A : Int) (w : World) (hr : Nvv lo hi w v cs) (hn : cs.length ≤ 4) :
    Calls Try.prog 51 #[.int .i64 ag, .int .i64 A, v] w (EvAns2 w (seenR ag A cs)) := by
  obtain ⟨a, cap, rfl, h1, h2, h3⟩ := hr.parts
  unfold maxLen at h2
  have HV := Lib.hid hr
  clear h3 hr
  have HA0 := Lib.hid Try.allocGrid
  have HB2 := Lib.hid (fun W => Try.buildGrid2 W cs.length A)
  have HZL : Hid ((ints (gL 0 0 [] [] 0)).length = 67) := Lib.hid rfl
  have HKL : Hid ((ints (gL cs.length A [] [] 0)).length = 67) := Lib.hid rfl
  have HK1 := Lib.hid (fun v (hv : v ∈ ints (gL cs.length A [] [] 0)) => ints_one hv)
  have KH := Lib.hid (fun W => hasAgent_any cs.length A 0 [] [] ag W)
  obtain ⟨r, hrr⟩ : ∃ r, r = seenR ag A cs := ⟨_, rfl⟩
  rw [← hrr]
  have HRR := Lib.hid hrr
  clear hrr
  unfold EvAns2
  by_cases hA3 : 3 < A
  · have HRn : Hid (r = none) := Lib.hid (by rw [HRR.out]; exact seenR_false (fun h => by omega))
    generalize gL cs.length A [] [] 0 = K0 at *
    generalize gL 0 0 [] [] 0 = Z at *
    clear HRR KH
    go_enter Try.func51, Try.ntmps51
    have tk1 : True := trivial
    have tk2 : True := trivial
    have tk3 : True := trivial
    go_wp2_with
      (first
        | (have _t := tk1; clear _t tk1; refine wpList_buildM rfl 65 _ rfl #[(0, .int .i64 cs.length), (1, .int .i64 A)] (by simp only [List.map_toArray, List.map_cons, List.map_nil]; rfl) (ints K0) (HB2.out _) ?_)
        | (have _t := tk2; clear _t tk2; refine wpList_allocM rfl 65 rfl (ints Z) HA0.out ?_
           intro w1 hc1 hb1 hs1
           rw [show (w.alloc (.cells #[.slice none 0 0, .slice none 0 0, .int .i64 0] 38)).heap.size = w.heap.size + 1 from by simp] at hc1 ⊢
           have C1 := Lib.hid hc1
           have R1 := Lib.hid (Mcell.below (b := w.heap.size) (Mcell.new (w := w) (T := 38) (fv := .slice none 0 0) (bv := .slice none 0 0) (n := 0) rfl) hb1)
           have B1 : Hid (Below w.heap.size w w1) := Lib.hid (Below.trans (by go_grown) (hb1.mono (by simp)))
           clear hc1 hb1 hs1)
        | (have _t := tk3; clear _t tk3; refine wpList_storeM rfl 65 (.tmp 8) (.tmp 15) rfl (w.heap.size + 1) 0 rfl (ints K0) rfl 65 _ C1.out (by rw [HKL.out, HZL.out]; decide) (by rw [HKL.out]; exact Try.sizeGrid) HK1.out ?_
           intro w2 hc2 ha2
           have R2 := Lib.hid (R1.out.of_block (ha2.block _ (by omega)))
           have B2 : Hid (Below w.heap.size w w2) := Lib.hid (B1.out.trans (ha2.below (by omega)))
           obtain ⟨m0, m1, m2, m3, m4, m5⟩ := R2.out
           clear hc2 ha2))
    clear m0 m1 m2 m3 m4 m5
    have M6 := R2.out.write (.slice none 0 0) (.slice none 0 0) 0
    refine bodyPost_ret (results_mid2 Try.results51 _ _ w.heap.size _ _ (.bool false) rfl rfl M6.range Try.underlying38 rfl Try.sizeEd) rfl ?_
    rw [HRn.out]
    exact ⟨_, rfl, Vo.none _ _ _, ((B2.out.setCell (by show _ ≤ w.heap.size; omega) _).setCell (by show _ ≤ w.heap.size; omega) _).setCell (by show _ ≤ w.heap.size; omega) _⟩
  have hA3 : A ≤ 3 := by omega
  have d3 : decide ((3 : Int) < A) = false := decide_eq_false (by omega)
  by_cases hin : inB ag A = false
  · have HRn : Hid (r = none) := Lib.hid (by rw [HRR.out]; exact seenR_false (fun h => by rw [hin] at h; cases h.1))
    rw [hin] at KH
    generalize gL cs.length A [] [] 0 = K0 at *
    generalize gL 0 0 [] [] 0 = Z at *
    clear HRR hin
    go_enter Try.func51, Try.ntmps51
    have tk4 : True := trivial
    have tk5 : True := trivial
    have tk6 : True := trivial
    have tk7 : True := trivial
    have tk8 : True := trivial
    go_wp2_with
      (first
        | (have _t := tk4; clear _t tk4; refine wpList_buildM rfl 65 _ rfl #[(0, .int .i64 cs.length), (1, .int .i64 A)] (by simp only [List.map_toArray, List.map_cons, List.map_nil]; rfl) (ints K0) (HB2.out _) ?_)
        | (have _t := tk5; clear _t tk5; refine wpList_allocM rfl 65 rfl (ints Z) HA0.out ?_
           intro w1 hc1 hb1 hs1
           rw [show (w.alloc (.cells #[.slice none 0 0, .slice none 0 0, .int .i64 0] 38)).heap.size = w.heap.size + 1 from by simp] at hc1 ⊢
           have C1 := Lib.hid hc1
           have R1 := Lib.hid (Mcell.below (b := w.heap.size) (Mcell.new (w := w) (T := 38) (fv := .slice none 0 0) (bv := .slice none 0 0) (n := 0) rfl) hb1)
           have B1 : Hid (Below w.heap.size w w1) := Lib.hid (Below.trans (by go_grown) (hb1.mono (by simp)))
           clear hc1 hb1 hs1)
        | (have _t := tk6; clear _t tk6; refine wpList_storeM rfl 65 (.tmp 8) (.tmp 15) rfl (w.heap.size + 1) 0 rfl (ints K0) rfl 65 _ C1.out (by rw [HKL.out, HZL.out]; decide) (by rw [HKL.out]; exact Try.sizeGrid) HK1.out ?_
           intro w2 hc2 ha2
           rw [lay'_all (by rw [HKL.out, HZL.out])] at hc2
           have C2 := Lib.hid hc2
           have R2 := Lib.hid (R1.out.of_block (ha2.block _ (by omega)))
           have B2 : Hid (Below w.heap.size w w2) := Lib.hid (B1.out.trans (ha2.below (by omega)))
           clear hc2 ha2)
        | (have _t := tk7; clear _t tk7; refine wpList_loadMG rfl (by rfl) 65 _ rfl (w.heap.size + 1) 0 rfl 65 (ints K0) (ints K0) C2.out (fun j _ => by rw [Nat.zero_add]) _ Try.underlying65 rfl (by rw [HKL.out]; exact Try.sizeGrid) ?_)
        | (have _t := tk8; clear _t tk8; go_at_call 69; (with_reducible refine (KH.out _).mono ?_); rintro e w3 ⟨rfl, hb3⟩
           have R3 := Lib.hid (R2.out.below hb3)
           have B3 := Lib.hid (B2.out.trans (hb3.mono B2.out.size))
           obtain ⟨m0, m1, m2, m3, m4, m5⟩ := R3.out
           clear hb3))
    clear m0 m1 m2 m3 m4 m5
    have M6 := R3.out.write (.slice none 0 0) (.slice none 0 0) 0
    refine bodyPost_ret (results_mid2 Try.results51 _ _ w.heap.size _ _ (.bool false) rfl rfl M6.range Try.underlying38 rfl Try.sizeEd) rfl ?_
    rw [HRn.out]
    exact ⟨_, rfl, Vo.none _ _ _, ((B3.out.setCell (by show _ ≤ w.heap.size; omega) _).setCell (by show _ ≤ w.heap.size; omega) _).setCell (by show _ ≤ w.heap.size; omega) _⟩
  have hin : inB ag A = true := by simpa using hin
  have HIN := Lib.hid hin
  unfold inB at hin
  rw [decide_eq_true_eq] at hin
  obtain ⟨ag0, agA⟩ := hin
  obtain ⟨g, rfl⟩ := Int.eq_ofNat_of_zero_le ag0
  obtain ⟨N, rfl⟩ := Int.eq_ofNat_of_zero_le (show 0 ≤ A by omega)
  rw [HIN.out] at KH
  have hgN : g < N := by omega
  have hN3 : N ≤ 3 := by omega
  have g3 : (g : Int) < 3 := by omega
  have HS0 : Hid (gL cs.length (N : Int) [] [] 0 = gG (seenF cs.length N g 0)) := Lib.hid (seenF_0 _ _ _)
  have HSS : Hid (∀ k : Nat, updI (seenF cs.length N g k) (18 + g * 16 + k) (k : Int) = seenF cs.length N g (k + 1)) := Lib.hid (fun k => seenF_succ _ _ _ _)
  have HSE : Hid (gG (seenF cs.length N g cs.length) = gL (seenMd g N cs.length).facts.length (seenMd g N cs.length).blocks.length (seenMd g N cs.length).facts (seenMd g N cs.length).blocks (seenMd g N cs.length).actual) := Lib.hid (seenF_end hN3 (by omega) hgN)
  have KM := Lib.hid (fun W => gridModel_any (seenMd g N cs.length) (seenMd_fits hN3 (by omega)) W)
  unfold MdAns at KM
  rw [← HSE.out] at KM
  have HMB : Hid ((seenMd g N cs.length).blocks = seenRows g N cs.length) := Lib.hid rfl
  have HMA : Hid ((seenMd g N cs.length).actual = 0) := Lib.hid rfl
  have HRY : Hid (cs.all formOk = true → r = some ⟨cs, seenRows g N cs.length, 0⟩) := Lib.hid (fun h => by
    rw [HRR.out]
    unfold seenR
    rw [HIN.out, h, decide_eq_true hA3, seenM_rows]; rfl)
  have HRX : Hid (¬ cs.all formOk = true → r = none) := Lib.hid (fun h => by rw [HRR.out]; exact seenR_false (fun h2 => h h2.2.2))
  clear HRR HSE HIN
  generalize seenMd g N cs.length = SM at *
  generalize gL cs.length (N : Int) [] [] 0 = K0 at *
  generalize gL 0 0 [] [] 0 = Z at *
  go_enter Try.func51, Try.ntmps51
  have tk9 : True := trivial
  have tk10 : True := trivial
  have tk11 : True := trivial
  have tk12 : True := trivial
  have tk13 : True := trivial
  go_wp2_with
    (first
      | (have _t := tk9; clear _t tk9; refine wpList_buildM rfl 65 _ rfl #[(0, .int .i64 cs.length), (1, .int .i64 N)] (by simp only [List.map_toArray, List.map_cons, List.map_nil]; rfl) (ints K0) (HB2.out _) ?_)
      | (have _t := tk10; clear _t tk10; refine wpList_allocM rfl 65 rfl (ints Z) HA0.out ?_
         intro w1 hc1 hb1 hs1
         rw [show (w.alloc (.cells #[.slice none 0 0, .slice none 0 0, .int .i64 0] 38)).heap.size = w.heap.size + 1 from by simp] at hc1 ⊢
         have C1 := Lib.hid hc1
         have R1 := Lib.hid (Mcell.below (b := w.heap.size) (Mcell.new (w := w) (T := 38) (fv := .slice none 0 0) (bv := .slice none 0 0) (n := 0) rfl) hb1)
         have B1 : Hid (Below w.heap.size w w1) := Lib.hid (Below.trans (by go_grown) (hb1.mono (by simp)))
         clear hc1 hb1 hs1)
      | (have _t := tk11; clear _t tk11; refine wpList_storeM rfl 65 (.tmp 8) (.tmp 15) rfl (w.heap.size + 1) 0 rfl (ints K0) rfl 65 _ C1.out (by rw [HKL.out, HZL.out]; decide) (by rw [HKL.out]; exact Try.sizeGrid) HK1.out ?_
         intro w2 hc2 ha2
         rw [lay'_all (by rw [HKL.out, HZL.out])] at hc2
         have C2 := Lib.hid hc2
         have R2 := Lib.hid (R1.out.of_block (ha2.block _ (by omega)))
         have B2 : Hid (Below w.heap.size w w2) := Lib.hid (B1.out.trans (ha2.below (by omega)))
         clear hc2 ha2)
      | (have _t := tk12; clear _t tk12; refine wpList_loadMG rfl (by rfl) 65 _ rfl (w.heap.size + 1) 0 rfl 65 (ints K0) (ints K0) C2.out (fun j _ => by rw [Nat.zero_add]) _ Try.underlying65 rfl (by rw [HKL.out]; exact Try.sizeGrid) ?_)
      | (have _t := tk13; clear _t tk13; go_at_call 69; (with_reducible refine (KH.out _).mono ?_); rintro e w3 ⟨rfl, hb3⟩
         have C3 := Lib.hid (C2.out.all hb3)
         have R3 := Lib.hid (R2.out.below hb3)
         have B3 := Lib.hid (B2.out.trans (hb3.mono B2.out.size))
         clear hb3))
  have hc3 := C3.out.lt
  have E4 : Hid (Mcell (w3.alloc (.cells #[.slice none 0 0, .slice none 0 0, .int .i64 0] 38)) w3.heap.size (.slice none 0 0) (.slice none 0 0) 0) := Lib.hid (Mcell.new rfl)
  have C4 := Lib.hid (C3.out.alloc (.cells #[.slice none 0 0, .slice none 0 0, .int .i64 0] 38))
  have R4 := Lib.hid (R3.out.alloc (.cells #[.slice none 0 0, .slice none 0 0, .int .i64 0] 38))
  have B4 : Hid (Below w.heap.size w (w3.alloc (.cells #[.slice none 0 0, .slice none 0 0, .int .i64 0] 38))) := Lib.hid (B3.out.alloc B3.out.size _)
  have hs4 : (w3.alloc (.cells #[.slice none 0 0, .slice none 0 0, .int .i64 0] 38)).heap.size = w3.heap.size + 1 := by simp
  rw [HS0.out] at C4
  clear C3 R3 B3
  generalize w3.alloc (.cells #[.slice none 0 0, .slice none 0 0, .int .i64 0] 38) = w4 at *
  go_loopw [28] (fun iv wr => ∃ (k : Nat) (cv : Value) (vs : List Value), k ≤ cs.length ∧ iv = .int .i64 k ∧ Hid (vs.length = k) ∧ Hid ((cs.take k).all formOk = true) ∧ Hid (Mcell wr w3.heap.size cv (.slice none 0 0) 0) ∧ Hid (Noo w4.heap.size wr.heap.size wr cv vs (cs.take k)) ∧ Hid (Cm wr (w.heap.size + 1) 65 (ints (gG (seenF cs.length N g k)))) ∧ Hid (Mcell wr w.heap.size (.slice none 0 0) (.slice none 0 0) 0) ∧ Hid (Below w.heap.size w wr) ∧ w4.heap.size ≤ wr.heap.size) (fun iv _ => cs.length - (intOf iv).toNat)
  case atStart => exact ⟨0, _, [], Nat.zero_le _, rfl, Lib.hid rfl, Lib.hid rfl, E4, Lib.hid ⟨Ro.nil _ _ _ _, ⟨rfl, fun j hj => by simp at hj⟩, List.pairwise_singleton _ _⟩, C4, R4, B4, Nat.le_refl _⟩
  case round =>
    clear E4 C4 R4 B4
    obtain ⟨k, cv, vs, hk, rfl, HVL, HK, EQ, OQ, CQ, RQ, BQ, hwq⟩ := hrel
    by_cases hkn : k < cs.length
    · have hk0 : (0 : Int) ≤ (k : Int) := Int.natCast_nonneg _
      have hk16 : (k : Int) < 16 := by omega
      have hvl := HVL.out
      obtain ⟨_, _, e1, _, _, h1'⟩ := (HV.out.later BQ.out).parts
      cases e1
      obtain ⟨b, o, u, rfl, _, _, hbl, c0, hu⟩ := h1' k hkn
      clear h1'
      have HBAD : Hid (formOk (cs.getD k []) = false → r = none) := Lib.hid (fun h => HRX.out (all_take_false hkn h))
      have HGOOD : Hid (formOk (cs.getD k []) = true → (cs.take (k + 1)).all formOk = true) := Lib.hid (fun h => by rw [take_snocN2 hkn, List.all_append, HK.out, List.all_cons, h]; rfl)
      have HLEN : Hid (formOk (cs.getD k []) = true → 0 < (cs.getD k []).length ∧ (cs.getD k []).length ≤ 40) := Lib.hid form_pos
      have HTK := Lib.hid (take_snocN2 hkn)
      have HSK := Lib.hid (HSS.out k)
      obtain ⟨ua, uc, uf, _⟩ := id hu
      subst uf
      have KF := Lib.hid (implForm_any _ _ wr hu)
      have HU := Lib.hid hu
      clear hu
      generalize cs.getD k [] = l at *
      cases ho : formOk l with
      | true =>
        rw [ho] at KF
        have HG := Lib.hid (HGOOD.out ho)
        obtain ⟨hl0, hl40⟩ := HLEN.out ho
        clear ho HGOOD HBAD HLEN
        go_wp2_with fail
        refine KF.out.mono ?_
        rintro e w5 ⟨rfl, hb5⟩
        have U5 := Lib.hid (HU.out.below hb5 (Nat.le_refl _))
        have E5 := Lib.hid (EQ.out.below hb5)
        have O5 : Hid (Noo w4.heap.size wr.heap.size w5 cv vs (cs.take k)) := Lib.hid (OQ.out.keeps (Keeps.of_all hb5))
        have C5 := Lib.hid (CQ.out.all hb5)
        have R5 := Lib.hid (RQ.out.below hb5)
        have B5 := Lib.hid (BQ.out.trans (hb5.mono BQ.out.size))
        have hs5 : wr.heap.size ≤ w5.heap.size := hb5.size
        have hc5 := C5.out.lt
        have he5 := E5.out.lt
        have HE5 : Hid (∀ W, Below w4.heap.size w5 W → W.cell? ⟨w3.heap.size, 0, none⟩ = some cv) := Lib.hid (fun W hW => by rw [hW.cell (p := ⟨w3.heap.size, 0, none⟩) (by show w3.heap.size < _; omega)]; exact E5.out.1)
        clear hb5 c0 HU EQ OQ CQ RQ BQ KF
        go_wp2
        refine regionL (fun W => Below w4.heap.size w5 W) [7] (by kernel_rfl) (Below.refl _ _).drew (fun hHeld => ?_)
        refine takeA (i := 0) (v := .pointer (some ⟨w3.heap.size, 0, none⟩)) 37 rfl rfl (by kernel_rfl) (by kernel_rfl) (by kernel_rfl) (by kernel_rfl) (fun _ _ _ h => h) (Or.inl ⟨by rfl, by intro W hSw; go_simp⟩) hHeld ?_
        simp only [Act.put, List.setIfInBounds_toArray, List.set_cons_zero, List.set_cons_succ]
        refine takeA (i := 1) (v := cv) 38 rfl rfl (by kernel_rfl) (by kernel_rfl) (by kernel_rfl) (by kernel_rfl) (fun _ _ _ h => h) (Or.inl ⟨by rfl, by intro W hSw; have d1 := HE5.out _ hSw; go_simp⟩) hHeld ?_
        simp only [Act.put, List.setIfInBounds_toArray, List.set_cons_zero, List.set_cons_succ]
        refine takeA (i := 2) (v := .slice ua l.length uc) 39 rfl rfl (by kernel_rfl) (by kernel_rfl) (by kernel_rfl) (by kernel_rfl) (fun _ _ _ h => h) (Or.inl ⟨by rfl, by intro W hSw; go_simp⟩) hHeld ?_
        simp only [Act.put, List.setIfInBounds_toArray, List.set_cons_zero, List.set_cons_succ]
        refine onlyL (i := 3) (by kernel_rfl) rfl (by rfl) (fun K hK => ?_)
        have hbd : Below w5.heap.size w5 w5.drew := (Below.refl w5.heap.size w5).drew
        go_simp
        refine (cloneN_any _ l _ (U5.out.below hbd (Nat.le_refl _)) hl0 (by omega)).mono ?_
        rintro e w15 ⟨v15, rfl, ho15, hb15⟩
        have t15 : Below w5.heap.size w5 w15 := hbd.trans (hb15.mono (Nat.le_refl _))
        have V15 : Hid (No w5.heap.size w15.heap.size w15 v15 l) := Lib.hid ho15
        obtain ⟨na, nnc, e15⟩ := ho15.form
        subst e15
        clear ho15 hb15 hHeld hbd
        have E15 := Lib.hid (E5.out.below t15)
        have O15 := Lib.hid (O5.out.keeps (Keeps.of_all t15))
        have C15 := Lib.hid (C5.out.all t15)
        have R15 := Lib.hid (R5.out.below t15)
        have B15 := Lib.hid (B5.out.trans (t15.mono B5.out.size))
        have T15 := Lib.hid (t15.mono (show w4.heap.size ≤ w5.heap.size by omega))
        have hs15 : w5.heap.size ≤ w15.heap.size := t15.size
        refine hK.out _ _ (fun _ => t15.mono (by omega)) (fun _ => ?_)
        clear hK K t15 E5 O5 C5 R5 B5 U5
        try simp only [Act.put, List.setIfInBounds_toArray, List.set_cons_zero, List.set_cons_succ]
        refine onlyL (i := 4) (by kernel_rfl) rfl (by rfl) (fun K hK => ?_)
        go_simp
        refine hK.out _ _ (fun _ => T15.out.alloc (by omega) _) (fun _ => ?_)
        clear hK K
        try simp only [Act.put, List.setIfInBounds_toArray, List.set_cons_zero, List.set_cons_succ]
        refine onlyL (i := 5) (by kernel_rfl) rfl (by rfl) (fun K hK => ?_)
        have hown : w15.ownsRow w4.heap.size 46 1 cv vs.length vs := O15.out.1.1
        refine wp_pushL (.tmp 38) (.tmp 41) 36 42 rfl rfl 46 (.slice none 0 0) 24 Try.underlying36 Try.infoNl rfl w4.heap.size (.slice na l.length nnc) cv vs.length vs hown rfl w15.heap.size rfl rfl rfl (by unfold maxLen; omega) (by omega) (by omega) ?_
        intro v16 w16 hown16 hg16
        have hbv : ∀ q, cv.ownBlock = some q → w4.heap.size ≤ q ∧ q < wr.heap.size := fun q hq => ⟨(O15.out.1.1.lt q hq).1, O15.out.1.2 q hq⟩
        have O16 := Lib.hid (Noo.push O15.out (No.wide V15.out hs5 (Nat.le_refl _)) (Nat.le_refl _) (by omega) hwq hown16 hg16)
        have hne : ∀ q, q < w4.heap.size → cv.ownBlock ≠ some q := fun q hq e => by have := hbv q e; omega
        have E16 := Lib.hid (E15.out.of_block (hg16.block (by omega) (hne _ (by omega))))
        have C16 := Lib.hid (C15.out.of_block (hg16.block (by omega) (hne _ (by omega))))
        have R16 := Lib.hid (R15.out.of_block (hg16.block (by omega) (hne _ (by omega))))
        have t16 : Below w4.heap.size w15 w16 := hg16.below (by omega) (fun q hq => (hbv q hq).1)
        have B16 : Hid (Below w.heap.size w w16) := Lib.hid (B15.out.trans (t16.mono (by omega)))
        have hs16 : w15.heap.size ≤ w16.heap.size := t16.size
        have t17 : Below w4.heap.size w5 w16 := T15.out.trans t16
        obtain ⟨v16a, v16c, e16⟩ := O16.out.1.form
        rw [show (vs ++ [Value.slice na l.length nnc]).length = k + 1 by simp [hvl]] at e16
        obtain ⟨d16, -, -, f16, -⟩ := E16.out
        clear hown hown16 hbv hne t16 O15 E15 C15 R15 B15 hg16 T15 V15
        refine hK.out _ _ (fun _ => t17) (fun hHeld => ?_)
        have hHeld := hHeld (by decide)
        clear hK K t17
        try simp only [Act.put, List.setIfInBounds_toArray, List.set_cons_zero, List.set_cons_succ]
        refine takeA (i := 6) (v := .pointer (some ⟨w3.heap.size, 0, none⟩)) 43 rfl rfl (by kernel_rfl) (by kernel_rfl) (by kernel_rfl) (by kernel_rfl) (fun _ _ _ h => h) (Or.inl ⟨by rfl, by intro W hSw; go_simp⟩) hHeld ?_
        simp only [Act.put, List.setIfInBounds_toArray, List.set_cons_zero, List.set_cons_succ]
        refine onlyL (i := 7) (by kernel_rfl) rfl (by rfl) (fun K hK => ?_)
        subst e16
        go_simp
        refine hK.out _ _ (fun h => absurd (by decide) h) (fun _ => ?_)
        clear hK K hHeld d16 f16
        refine doneL (by kernel_rfl) ?_ _
        have E17 := Lib.hid (E16.out.set0 (.slice v16a (k + 1) v16c))
        have C17 := Lib.hid (C16.out.other (b' := w3.heap.size) (by omega) 0 (.slice v16a (k + 1) v16c))
        have R17 := Lib.hid (R16.out.other (b' := w3.heap.size) (by omega) 0 (.slice v16a (k + 1) v16c))
        have B17 : Hid (Below w.heap.size w (w16.setCell ⟨w3.heap.size, 0, none⟩ (.slice v16a (k + 1) v16c))) := Lib.hid (B16.out.setCell (by show _ ≤ w3.heap.size; omega) _)
        have hz17 : (w16.setCell ⟨w3.heap.size, 0, none⟩ (.slice v16a (k + 1) v16c)).heap.size = w16.heap.size := by simp [World.setCell]
        have O17 : Hid (Noo w4.heap.size w16.heap.size (w16.setCell ⟨w3.heap.size, 0, none⟩ (.slice v16a (k + 1) v16c)) (.slice v16a (k + 1) v16c) (vs ++ [.slice na l.length nnc]) (cs.take k ++ [l])) := Lib.hid (O16.out.keeps (Keeps.setCell _ _ _ _ (.inl (by omega))))
        clear O16 E16 C16 R16 B16
        generalize w16.setCell ⟨w3.heap.size, 0, none⟩ (.slice v16a (k + 1) v16c) = w17 at *
        have ck := C17.out.gg (i := 18 + g * 16 + k) (by omega)
        have fk := C17.out.frozen (18 + g * 16 + k)
        have C18 := Lib.hid (C17.out.ggset (18 + g * 16 + k) (k : Int))
        have E18 := Lib.hid (E17.out.other (b' := w.heap.size + 1) (by omega) (18 + g * 16 + k) (.int .i64 k))
        have R18 := Lib.hid (R17.out.other (b' := w.heap.size + 1) (by omega) (18 + g * 16 + k) (.int .i64 k))
        have O18 := Lib.hid (O17.out.keeps (Keeps.setCell w17 (w.heap.size + 1) (18 + g * 16 + k) (.int .i64 k) (.inl (by omega))))
        have B18 : Hid (Below w.heap.size w (w17.setCell ⟨w.heap.size + 1, 18 + g * 16 + k, none⟩ (.int .i64 k))) := Lib.hid (B17.out.setCell (by show _ ≤ w.heap.size + 1; omega) _)
        have hz18 : (w17.setCell ⟨w.heap.size + 1, 18 + g * 16 + k, none⟩ (.int .i64 k)).heap.size = w16.heap.size := by simp [World.setCell]; exact hz17
        clear C17 E17 R17 O17 B17
        go_wp2
        clear ck fk
        go_roundw
        case rel =>
          refine ⟨k + 1, _, vs ++ [.slice na l.length nnc], by omega, by go_num, Lib.hid (by simp [hvl]), HG, E18, Lib.hid ?_, Lib.hid ?_, R18, B18, by rw [hz18]; omega⟩
          · rw [HTK.out, hz18]; exact O18.out
          · rw [← HSK.out]; exact C18.out
        case measure => simp [intOf]; omega
      | false =>
        rw [ho] at KF
        have HRn := Lib.hid (HBAD.out ho)
        clear ho HGOOD HBAD HLEN
        go_wp2_with fail
        refine KF.out.mono ?_
        rintro e w5 ⟨rfl, hb5⟩
        have R5 := Lib.hid (RQ.out.below hb5)
        have B5 := Lib.hid (BQ.out.trans (hb5.mono BQ.out.size))
        clear hb5 c0 HU EQ OQ CQ RQ BQ KF
        obtain ⟨m0, m1, m2, m3, m4, m5⟩ := R5.out
        go_wp2
        clear m0 m1 m2 m3 m4 m5
        have M6 := R5.out.write (.slice none 0 0) (.slice none 0 0) 0
        refine bodyPost_ret (results_mid2 Try.results51 _ _ w.heap.size _ _ (.bool false) rfl rfl M6.range Try.underlying38 rfl Try.sizeEd) rfl ?_
        rw [HRn.out]
        exact ⟨_, rfl, Vo.none _ _ _, ((B5.out.setCell (by show _ ≤ w.heap.size; omega) _).setCell (by show _ ≤ w.heap.size; omega) _).setCell (by show _ ≤ w.heap.size; omega) _⟩
    · obtain rfl : k = cs.length := by omega
      have HRs := Lib.hid (HRY.out (all_of_take HK.out))
      have HLQ : Hid ((ints (gG (seenF cs.length N g cs.length))).length = 67) := Lib.hid (by rw [ints_len]; exact gG_len _)
      have OT := OQ.out
      rw [List.take_of_length_le (Nat.le_refl _)] at OT
      have OS := Lib.hid OT
      clear OT OQ HRY HRX HSS HK
      generalize gG (seenF cs.length N g cs.length) = GE at *
      go_wp2_with
        (refine wpList_loadM rfl 65 _ rfl (w.heap.size + 1) 0 rfl 65 (ints GE) (ints GE) CQ.out (fun j _ => by rw [Nat.zero_add]) _ Try.underlying65 rfl (by rw [HLQ.out]; exact Try.sizeGrid) ?_)
      refine (KM.out _).mono ?_
      rintro e w8 ⟨v8, rfl, ho8, hb8⟩
      have E8 := Lib.hid (EQ.out.below hb8)
      have R8 := Lib.hid (RQ.out.below hb8)
      have B8 := Lib.hid (BQ.out.trans (hb8.mono BQ.out.size))
      have O8 : Hid (Noo w4.heap.size wr.heap.size w8 cv vs cs) := Lib.hid (OS.out.keeps (Keeps.of_all hb8))
      have hs8 : wr.heap.size ≤ w8.heap.size := hb8.size
      obtain ⟨f8, b8, bs8, rfl, hf8, hbb8, hap8⟩ := ho8
      have I8 := Lib.hid hbb8
      obtain ⟨ca, cc, ecv⟩ := O8.out.1.form
      subst ecv
      have hr8 := R8.out.lt
      have he8 := E8.out.lt
      obtain ⟨ba8, bc8, eb8⟩ := hbb8.1.form
      subst eb8
      obtain ⟨fa8, fc8, ef8⟩ := hf8.form
      subst ef8
      have E9 := Lib.hid (E8.out.set1 (.slice ba8 bs8.length bc8))
      have R9 := Lib.hid (R8.out.other (b' := w3.heap.size) (by omega) 1 (.slice ba8 bs8.length bc8))
      have hfm := Try.fieldMd1 fa8 ba8 SM.facts.length fc8 bs8.length bc8 SM.actual w8
      obtain ⟨e0, e1, e2, e3, e4, e5⟩ := E8.out
      obtain ⟨g0, g1, g2, _⟩ := E9.out
      obtain ⟨m0, m1, m2, m3, m4, m5⟩ := R9.out
      clear hb8 hf8 hbb8 hap8 EQ RQ BQ OS CQ
      go_wp2
      clear m0 m1 m2 m3 m4 m5 e0 e1 e2 e3 e4 e5 g0 g1 g2
      have M6 := R9.out.write (.slice ca vs.length cc) (.slice ba8 bs8.length bc8) 0
      refine bodyPost_ret (results_mid2 Try.results51 _ _ w.heap.size _ _ (.bool true) rfl rfl M6.range Try.underlying38 rfl Try.sizeEd) rfl ?_
      rw [HRs.out]
      have hsz : ((((w8.setCell ⟨w3.heap.size, 1, none⟩ (.slice ba8 bs8.length bc8)).setCell ⟨w.heap.size, 0, none⟩ (.slice ca vs.length cc)).setCell ⟨w.heap.size, 1, none⟩ (.slice ba8 bs8.length bc8)).setCell ⟨w.heap.size, 2, none⟩ (.int .i64 0)).heap.size = w8.heap.size := by simp [World.setCell]
      have hB4 : w.heap.size + 1 < w4.heap.size := by omega
      refine ⟨_, rfl, ⟨_, _, vs, bs8, rfl, ?_, ?_, ?_⟩, (((B8.out.setCell (by show _ ≤ w3.heap.size; omega) _).setCell (by show _ ≤ w.heap.size; omega) _).setCell (by show _ ≤ w.heap.size; omega) _).setCell (by show _ ≤ w.heap.size; omega) _⟩
      · rw [hsz]
        exact (O8.out.keeps ((((Keeps.setCell _ _ _ _ (.inl (by omega))).set (.inl (by omega)) _ _).set (.inl (by omega)) _ _).set (.inl (by omega)) _ _)).wide (by omega) (by omega)
      · rw [hsz]
        have h := I8.out.keeps ((((Keeps.setCell w8 w3.heap.size 1 (.slice ba8 bs8.length bc8) (.inl (by omega))).set (b := w.heap.size) (.inl (by omega)) 0 (.slice ca vs.length cc)).set (b := w.heap.size) (.inl (by omega)) 1 (.slice ba8 bs8.length bc8)).set (b := w.heap.size) (.inl (by omega)) 2 (.int .i64 0))
        rw [HMB.out] at h
        exact h.wide (by omega) (Nat.le_refl _)
      · intro y hy u hu
        refine apart_lt (B := wr.heap.size) (fun q hq => ?_) (fun q hq => ?_)
        · rcases List.mem_cons.1 hy with rfl | hy
          · exact O8.out.1.2 q hq
          · exact (O8.out.2.1.blk hy q hq).2.1
        · rcases List.mem_cons.1 hu with rfl | hu
          · exact (I8.out.1.1.lt q hq).1
          · exact (I8.out.2.1.blk hu q hq).1
end Go.Proofs.Ytpodpadcaflehaa
