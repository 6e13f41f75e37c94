/-
  Contracts of a strings.Builder's copyCheck and WriteString (condition: room for the bytes), of impl.FormatInt at a digit and of impl.HandText.
-/
import Derived.Test.YteahjnobnbafiaaDoorCdx
import Derived.Test.YteahjnobnbafiaaDoorNuc
import Derived.Test.YteahjnobnbafiaaDoorZLib
import Derived.Laws.BitsLemmas
namespace Go.Proofs.YteahjnobnbafiaaDoor
open Go.Shelf Go.RowKit Go.WideShapes
open Go Go.Deep
set_option linter.unusedSimpArgs false

theorem sizeBld : (Tryd.prog.info? 39).map (·.size) = some 2 := by kernel_rfl
set_option maxHeartbeats 1000000 in
set_option maxRecDepth 100000 in
/-- a builder that has written before: nothing changes -/
theorem bldUsed_any (b : Nat) (w : World) (h0 : w.cell? ⟨b, 0, none⟩ = some (.pointer (some ⟨b, 0, none⟩))) :
    Calls Tryd.prog 31 #[.pointer (some ⟨b, 0, none⟩)] w fun e w' => e = .returned (.tuple #[]) ∧ w' = w := by
  obtain ⟨j, hj, hjs⟩ := Option.map_eq_some_iff.1 sizeBld
  go_enter Tryd.func31, Tryd.ntmps31
  go_wp2
  rw [Lib.run_neq_ptr_same w _ Tryd.underlying37 hj]
  go_wp2
  go_end0
  exact ⟨rfl, rfl⟩
set_option maxHeartbeats 1000000 in
set_option maxRecDepth 100000 in
/-- a builder that has never written takes its own address down -/
theorem bldFresh_any (b : Nat) (w : World) (h0 : w.cell? ⟨b, 0, none⟩ = some (.pointer none)) (hsh : w.shape? b = some (39, 2)) (hfz : w.frozen? ⟨b, 0, none⟩ = false) :
    Calls Tryd.prog 31 #[.pointer (some ⟨b, 0, none⟩)] w fun e w' => e = .returned (.tuple #[]) ∧ w' = w.setCell ⟨b, 0, none⟩ (.pointer (some ⟨b, 0, none⟩)) := by
  obtain ⟨j, hj, hjs⟩ := Option.map_eq_some_iff.1 sizeBld
  go_enter Tryd.func31, Tryd.ntmps31
  go_wp2
  rw [Lib.run_to_unsafe w ⟨b, 0, none⟩ Tryd.underlying37 Tryd.underlying67 hj (by rw [hjs]; decide) hsh (Nat.zero_lt_succ 1)]
  simp only [Result.andThen]
  rw [Oper.upon_value]
  go_wp2
  rw [run_callFunc_extern Tryd.func44 (by kernel_rfl) (by kernel_rfl) (by kernel_rfl) (e := Extern.AbiNoEscape.same) (by kernel_rfl)]
  rw [Lib.run_noEscape]
  simp only [Result.andThen]
  rw [Oper.upon_value]
  go_wp2
  rw [Lib.run_from_unsafe w ⟨b, 0, none⟩ Tryd.underlying67 Tryd.underlying37 hj hsh (by kernel_rfl)]
  simp only [Result.andThen]
  rw [Oper.upon_value]
  go_wp2
  go_end0
  exact ⟨rfl, rfl⟩
theorem bldCheck_any (B b : Nat) (bs : List Value) (w : World) (h : Lib.IsBuilder 39 5 B b bs w) :
    Calls Tryd.prog 31 #[.pointer (some ⟨b, 0, none⟩)] w fun e w' => e = .returned (.tuple #[]) ∧ (Lib.BuilderAt 39 5 B b (.pointer (some ⟨b, 0, none⟩)) bs w' ∧ Below B w w') := by
  rcases h with h | h
  · exact (bldFresh_any b w h.cell0 h.shape h.frozen0).mono (by rintro e w' ⟨rfl, rfl⟩; exact ⟨rfl, h.used _, (Below.refl B w).setCell (p := ⟨b, 0, none⟩) h.1 _⟩)
  · exact (bldUsed_any b w h.cell0).mono (by rintro e w' ⟨rfl, rfl⟩; exact ⟨rfl, h, Below.refl B _⟩)
set_option maxHeartbeats 1000000 in
set_option maxRecDepth 100000 in
/-- WriteString puts the bytes behind those that the builder holds -/
theorem bldWrite_any (B b : Nat) (bs : List Value) (s : ByteArray) (w : World) (h : Lib.IsBuilder 39 5 B b bs w) (hlen : bs.length + s.size ≤ 140737488355328) (hBw : B ≤ w.heap.size) :
    Calls Tryd.prog 19 #[.pointer (some ⟨b, 0, none⟩), .string s] w fun e w' => e = .returned (.tuple #[.int .i64 s.size, .nilIface]) ∧ (Lib.IsBuilder 39 5 B b (bs ++ Lib.strCells s) w' ∧ Below B w w') := by
  obtain ⟨i0, hi, hz0, hz1, hz2⟩ := info_parts (show (Tryd.prog.info? 5).map (fun i => (i.zero, i.size, i.bytes)) = some (some (.int .u8 0), 1, 1) by kernel_rfl)
  go_enter Tryd.func19, Tryd.ntmps19
  go_wp2_with fail
  refine (bldCheck_any B b bs _ h).mono ?_
  rintro e w1 ⟨rfl, h1, hb1⟩
  obtain ⟨hB, v, hbk, hown, hne⟩ := h1
  have c0 : w1.cell? ⟨b, 0, none⟩ = some (.pointer (some ⟨b, 0, none⟩)) := by rw [Lib.cell_of_heap hbk]; rfl
  have c1 : w1.cell? ⟨b, 1, none⟩ = some v := by rw [Lib.cell_of_heap hbk]; rfl
  have hlt : b < w1.heap.size := (Array.getElem?_eq_some_iff.1 hbk).1
  have hs1 := hb1.size
  have HOWN := Lib.hid hown
  have HLT0 := Lib.hid (fun k (hk : v.ownBlock = some k) => (hown.lt k hk).1)
  have HNE := Lib.hid hne
  have HBK := Lib.hid hbk
  have HB1 := Lib.hid hb1
  clear hown hne hbk hb1 h
  go_wp2_with (at_builtin; refine Lib.wpList_append_own_string _ rfl _ _ 24 9 rfl B 5 i0 Tryd.underlying24 Tryd.underlying9 hi hz0 hz1 hz2 v bs.length bs rfl HOWN.out s rfl (by unfold maxLen; omega) (by omega) (by omega) ?_; intro v' w2 hown' hgrow _; have hb2 : w2.heap[b]? = some (.cells #[.pointer (some ⟨b, 0, none⟩), v] 39 (0, 0)) := (by rw [hgrow.block b hlt (fun e => HNE.out e.symm)]; exact HBK.out); have d0 : w2.cell? ⟨b, 0, none⟩ = some (.pointer (some ⟨b, 0, none⟩)) := (by rw [Lib.cell_of_heap hb2]; rfl); have d1 : w2.cell? ⟨b, 1, none⟩ = some v := (by rw [Lib.cell_of_heap hb2]; rfl); have f1 : w2.frozen? ⟨b, 1, none⟩ = false := Lib.frozen_of_heap hb2 1; have HB2 := Lib.hid hb2; have B2 : Hid (Below B w w2) := Lib.hid (HB1.out.grown hgrow (by omega) HLT0.out); have HO2 := Lib.hid hown'; obtain ⟨ao, n', cap, e'⟩ : ∃ ao n' cap, v' = .slice ao n' cap := (by rcases hown'.2 with ⟨hv, _⟩ | ⟨g, cap, cur, hv, _⟩; exact ⟨_, _, _, hv⟩; exact ⟨_, _, _, hv⟩); subst e'; clear hgrow hown' hb2)
  go_ret2
  refine ⟨rfl, .inr ?_, B2.out.setCell (p := ⟨b, 1, none⟩) hB _⟩
  exact Lib.BuilderAt.put (T := 39) (e := 5) hB HB2.out (bs' := bs ++ Lib.strCells s) (by simpa [Lib.strCells_length] using HO2.out) (by decide)
theorem dec_digit (k : Nat) (h : k ≤ 9) : Lib.decDigits k = [48 + UInt8.ofNat k] := by
  have : ∀ k : Nat, k < 10 → Lib.decDigits k = [48 + UInt8.ofNat k] := by decide +kernel
  exact this k (by omega)
set_option maxHeartbeats 400000 in
theorem implDigit_any (k : Nat) (w : World) (h : k ≤ 9) : Calls Tryd.prog 20 #[.int .i64 k] w fun e w' => e = .returned (.string ⟨[48 + UInt8.ofNat k].toArray⟩) ∧ w' = w := by
  have H := Lib.hid (Tryd.strconv_Itoa_small k (by omega) w)
  rw [dec_digit k h] at H
  generalize [48 + UInt8.ofNat k].toArray = l at H
  go_enter Tryd.func20, Tryd.ntmps20
  go_wp2_with fail
  refine H.out.mono ?_
  rintro e w' ⟨rfl, rfl⟩
  go_wp2
  go_ret
  exact ⟨rfl, rfl⟩
theorem bit_one (q : Nat) (h : q < 128) : bits .and .i64 (q : Int) 1 = ((q % 2 : Nat) : Int) := by
  have e1 : (BitVec.ofInt 64 (q : Int)).toNat = q := by rw [BitVec.toNat_ofInt]; omega
  have key : (BitVec.ofInt 64 (q : Int) &&& BitVec.ofInt 64 1).toNat = q % 2 := by
    rw [BitVec.toNat_and, e1]; exact Nat.and_one_is_mod _
  show IntKind.i64.wrap ((BitVec.ofInt 64 (q : Int) &&& BitVec.ofInt 64 1).toNat : Nat) = _
  rw [key, IntKind.wrap_i64]; omega
theorem bit_nat (a k : Nat) (ha : a < 128) : bits .and .i64 ((a : Int) / 2 ^ k) 1 = hbit (a : Int) k := by
  have hlt : a / 2 ^ k < 128 := Nat.lt_of_le_of_lt (Nat.div_le_self _ _) ha
  have e : ((a : Int) / 2 ^ k) = ((a / 2 ^ k : Nat) : Int) := by simp
  unfold hbit
  rw [e, bit_one _ hlt]
  omega
set_option maxRecDepth 100000 in
set_option maxHeartbeats 8000000 in
theorem implHandText_any (h : Int) (w : World) (_ht : Tab w) : Calls Tryd.prog 6 #[.int .i64 h] w fun e w' => e = .returned (.string ⟨(handB h).toArray⟩) ∧ Below w.heap.size w w' := by
  clear _ht
  by_cases h0 : h < 0
  · rw [show handB h = [] from if_neg (by omega)]
    go_enter Tryd.func6, Tryd.ntmps6
    go_wp2
    go_ret
    exact ⟨rfl, Below.refl _ _⟩
  · by_cases h7 : 128 ≤ h
    · rw [show handB h = [] from if_neg (by omega)]
      go_enter Tryd.func6, Tryd.ntmps6
      go_wp2
      go_ret
      exact ⟨rfl, Below.refl _ _⟩
    · rw [show handB h = handTo h 7 from if_pos (by omega)]
      obtain ⟨a, rfl⟩ := Int.eq_ofNat_of_zero_le (show 0 ≤ h by omega)
      have ha : a < 128 := by omega
      have ha0 : (0 : Int) ≤ (a : Int) := by omega
      have ha7 : (a : Int) < 128 := by omega
      have KF := Lib.hid (fun k W (hk : k ≤ 9) => implDigit_any k W hk)
      have KW := Lib.hid (fun bs s W (hB : Lib.IsBuilder 39 5 w.heap.size w.heap.size bs W) hl hw => bldWrite_any w.heap.size w.heap.size bs s W hB hl hw)
      have KS := Lib.hid (fun l W hB hw => Tryd.Builder_String_any w.heap.size w.heap.size l W hB hw)
      have HBD := Lib.hid (fun k => hbit_bd (a : Int) k)
      have HL := Lib.hid (fun k => handTo_len (a : Int) k)
      have H1 := Lib.hid (fun k (e : hbit (a : Int) k = 1) => handTo_one e)
      have H0 := Lib.hid (fun k (e : hbit (a : Int) k = 0) => handTo_no e)
      have HZ : Hid (handTo (a : Int) 0 = []) := Lib.hid rfl
      have HBN := Lib.hid (fun k => bit_nat a k ha)
      clear h0 h7
      go_enter Tryd.func6, Tryd.ntmps6
      go_wp2
      have hb0 : Below w.heap.size w (w.alloc (.cells #[.pointer none, .slice none 0 0] 39)) := (Below.refl _ _).alloc (Nat.le_refl _) _
      have hB0 : Lib.IsBuilder 39 5 w.heap.size w.heap.size [] (w.alloc (.cells #[.pointer none, .slice none 0 0] 39)) := .inl ⟨Nat.le_refl _, .slice none 0 0, heap_alloc_new w _, World.ownsRow_nil _ _ _ _, by intro e; cases e⟩
      have B0 := Lib.hid hb0
      have I0 := Lib.hid hB0
      generalize w.alloc (.cells #[.pointer none, .slice none 0 0] 39) = w1 at *
      clear hb0 hB0
      go_loopw [11] (fun kv wr => ∃ k : Nat, k ≤ 7 ∧ kv = .int .i64 k ∧ Hid (Lib.IsBuilder 39 5 w.heap.size w.heap.size (Lib.byteCells (handTo (a : Int) k)) wr) ∧ Hid (Below w.heap.size w wr)) (fun kv _ => 7 - (intOf kv).toNat)
      case atStart => exact ⟨0, by omega, rfl, by rw [HZ.out]; exact I0, B0⟩
      case round =>
        clear I0 B0
        obtain ⟨k, hk, rfl, HI, BB⟩ := hrel
        by_cases hlt : k < 7
        · have hl := HL.out k
          have HN := Lib.hid (HBN.out k)
          have T1 := Lib.hid (H1.out k)
          have T0 := Lib.hid (H0.out k)
          have KFk := Lib.hid (fun W => KF.out k W (by omega))
          have KWk := Lib.hid (fun s hl => KW.out (Lib.byteCells (handTo (a : Int) k)) s wr HI.out hl BB.out.size)
          have hlk : (Lib.byteCells (handTo (a : Int) k)).length ≤ 7 := by rw [Lib.byteCells_length]; omega
          have HLK := Lib.hid hlk
          clear hlk hl
          have hk7 : (k : Int) < 7 := by omega
          have hk0 : (0 : Int) ≤ (k : Int) := by omega
          rcases HBD.out k with hz | hz
          · have HT := Lib.hid (T0.out hz)
            have hb := HN.out
            rw [hz] at hb
            clear hz T0 T1 HN KWk
            go_wp2
            go_roundw
            case rel => exact ⟨k + 1, by omega, by simp, by rw [HT.out]; exact HI, BB⟩
            case measure => simp [intOf]; omega
          · have HT := Lib.hid (T1.out hz)
            have hb := HN.out
            rw [hz] at hb
            clear hz T0 T1 HN
            go_wp2_with fail
            refine (KFk.out _).mono ?_
            rintro e w2 ⟨rfl, rfl⟩
            go_wp2_with fail
            refine (KWk.out _ (by have := HLK.out; simp [ByteArray.size]; omega)).mono ?_
            rintro e w3 ⟨rfl, hi3, hb3⟩
            have I3 : Hid (Lib.IsBuilder 39 5 w.heap.size w.heap.size (Lib.byteCells (handTo (a : Int) (k + 1))) w3) := Lib.hid (by rw [HT.out, Lib.byteCells_append]; exact hi3)
            have B3 := Lib.hid (BB.out.trans hb3)
            clear hi3 hb3
            go_wp2
            go_roundw
            case rel => exact ⟨k + 1, by omega, by simp, I3, B3⟩
            case measure => simp [intOf]; omega
        · obtain rfl : k = 7 := by omega
          go_wp2_with fail
          refine (KS.out _ _ HI.out BB.out.size).mono ?_
          rintro e w2 ⟨rfl, hb2⟩
          have B2 := Lib.hid (BB.out.trans hb2)
          clear hb2
          go_wp2
          go_ret
          exact ⟨rfl, B2.out⟩
end Go.Proofs.YteahjnobnbafiaaDoor
