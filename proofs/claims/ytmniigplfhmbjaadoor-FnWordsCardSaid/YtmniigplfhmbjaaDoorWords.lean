/-
  What FnWords draws (a number from 0 to 65535, a text of at most 14 bytes), the opening of a []byte that came in, and the walk of FnWords.
-/
import Derived.Test.YtmniigplfhmbjaaDoorCur
import Derived.Test.YtmniigplfhmbjaaDoorJoinA
import Derived.Test.YtmniigplfhmbjaaDoorLinesA
import Derived.Test.YtmniigplfhmbjaaDoorLawB
import Derived.Test.YtmniigplfhmbjaaDoorParseA
import Derived.OpenShut
namespace Go.Proofs.YtmniigplfhmbjaaDoor
open Go.RowKit Go.WideShapes Go.ChangeShapes
open Go Go.Deep

/-- the bytes that came in -/
def InBytes (W : World) (v : Value) (len : Nat) : Prop := ∃ (a : Option Addr) (cap : Nat), v = .slice a len cap ∧ len ≤ cap ∧ cap ≤ maxLen ∧
  ∀ j, j < len → ∃ cb co z, a = some ⟨cb, co, none⟩ ∧ cb < W.heap.size ∧ W.cell? ⟨cb, co + j, none⟩ = some (.int .u8 z) ∧ 0 ≤ z ∧ z ≤ 255
theorem InBytes.code {W : World} {v : Value} {len : Nat} (h : InBytes W v len) (hl : len ≤ 1048576) : CodeOk W v := by
  obtain ⟨a, cap, rfl, h1, h2, h3⟩ := h
  exact ⟨a, len, cap, rfl, hl, h1, h3⟩
theorem CodeOk.below {w w' : World} {cv : Value} {B : Nat} (h : CodeOk w cv) (hb : Below B w w') (hB : w.heap.size ≤ B) : CodeOk w' cv := by
  obtain ⟨a, len, cap, rfl, h1, h2, h3⟩ := h
  refine ⟨a, len, cap, rfl, h1, h2, fun j hj => ?_⟩
  obtain ⟨cb, co, z, e, hlt, hc, hz⟩ := h3 j hj
  exact ⟨cb, co, z, e, Nat.lt_of_lt_of_le hlt hb.size, by rw [hb.cell (p := ⟨cb, co + j, none⟩) (Nat.lt_of_lt_of_le hlt hB)]; exact hc, hz⟩
theorem open_Slbyte {H : Type} {enc : TypeId × Value → H} (W : World) (base : Nat) (v : Value) (d : DataW H) (p : List MemPlace) (hv : Value.okWide Tryd.prog W .any base 22 v)
    (h : DataW.Trod enc Tryd.prog W 0 (fun _ => true) true 22 v d p) : ∃ len, InBytes W v len := by
  obtain ⟨a0, len0, cap0, rfl⟩ := okWide_slice Tryd.underlying22 hv
  obtain ⟨fuel, hf⟩ := h
  rcases open_ints Tryd.underlying22 Tryd.underlying5 (by kernel_rfl) hf with ⟨hcs, _⟩ | ⟨x, l, c, zs, hcs, _, hl, hm, hz, _, hcell, hwz⟩
  · simp [Value.cells] at hcs
    obtain ⟨rfl, rfl, rfl⟩ := hcs
    exact ⟨0, none, 0, rfl, Nat.le_refl _, by decide, fun j hj => by omega⟩
  · simp [Value.cells] at hcs
    obtain ⟨rfl, rfl, rfl⟩ := hcs
    simp only [if_true] at hz
    refine ⟨len0, some x, cap0, rfl, hl, hm, fun j hj => ?_⟩
    obtain ⟨cb, co, rfl, hcc⟩ := ints_at hcell (by omega)
    have hj' := hcc j (by omega)
    refine ⟨cb, co, zs.getD j 0, rfl, World.block_lt_of_cell? W _ hj', hj', ?_⟩
    have hb := range_u8 hwz j
    rw [List.getD_eq_getElem?_getD]
    exact hb

set_option maxHeartbeats 1000000 in
theorem newAt_any (W : World) (cv : Value) (n : Nat) (hn : n ≤ 1000) (hk : CodeOk W cv) :
    Calls Tryd.prog 16 #[cv, .int .i64 n] W fun e w' => ∃ b, e = .returned (.pointer (some ⟨b, 0, none⟩)) ∧ Cur W w' b cv := by
  have HK := Lib.hid hk
  clear hk
  go_enter Tryd.func16, Tryd.ntmps16
  go_wp2_with fail
  refine (new_any W cv HK.out).mono ?_
  rintro e w1 ⟨b, rfl, hc⟩
  have HC := Lib.hid hc; clear hc
  go_wp2_with fail
  go_loopw [6] (fun i wr => ∃ k : Nat, k ≤ n ∧ i = .int .i64 k ∧ Hid (Cur W wr b cv)) (fun i _ => n - (intOf i).toNat)
  case atStart => exact ⟨0, Nat.zero_le _, rfl, HC⟩
  case round =>
    obtain ⟨k, hk, rfl, H⟩ := hrel
    by_cases hlt : k < n
    · go_wp2_with (go_at_call 17; refine (byte_any W _ b cv HK.out H.out).mono ?_; rintro e w2 ⟨x, rfl, hx0, hx1, hc2, _⟩; have HC2 := Lib.hid hc2; clear hc2)
      go_roundw
      case rel => exact ⟨k + 1, by omega, by go_num, HC2⟩
      case measure => simp [intOf]; omega
    · go_wp2
      go_ret
      exact ⟨b, rfl, H.out⟩

set_option maxHeartbeats 1000000 in
theorem makeNum_any (W : World) (cv : Value) (n : Nat) (hn : n ≤ 1000) (hk : CodeOk W cv) :
    Calls Tryd.prog 6 #[cv, .int .i64 n] W fun e w' => ∃ x : Int, e = .returned (.int .i64 x) ∧ 0 ≤ x ∧ x ≤ 65535 ∧ Below W.heap.size W w' := by
  have HK := Lib.hid hk
  clear hk
  go_enter Tryd.func6, Tryd.ntmps6
  go_wp2_with fail
  refine (newAt_any W cv n hn HK.out).mono ?_
  rintro e w1 ⟨b, rfl, hc⟩
  have HC := Lib.hid hc; clear hc
  go_wp2_with fail
  refine (byte_any W w1 b cv HK.out HC.out).mono ?_
  rintro e w2 ⟨x, rfl, hx0, hx1, hc2, _⟩
  have HC2 := Lib.hid hc2; clear hc2
  go_wp2_with fail
  refine (byte_any W w2 b cv HK.out HC2.out).mono ?_
  rintro e w3 ⟨y, rfl, hy0, hy1, hc3, _⟩
  have HB := Lib.hid hc3.1; clear hc3
  go_wp2
  go_ret
  exact ⟨_, rfl, by omega, by omega, HB.out⟩

set_option maxHeartbeats 1000000 in
theorem str_any (W w : World) (b : Nat) (cv : Value) (g n cap : Nat) (f : Nat → ByteArray) (hn : 0 < n) (hn2 : n ≤ 256) (_hcap : n ≤ cap) (hne : g ≠ b) (hg : g < w.heap.size)
    (hcell : ∀ j, j < n → w.cell? ⟨g, j, none⟩ = some (.string (f j))) (hk : CodeOk W cv) (hc : Cur W w b cv) :
    Calls Tryd.prog 22 #[.pointer (some ⟨b, 0, none⟩), .slice (some ⟨g, 0, none⟩) n cap] w fun e w' => ∃ k, e = .returned (.string (f k)) ∧ k < n ∧ Cur W w' b cv ∧ w.grownBy w' (some b) := by
  have H := Lib.hid (below_small W w b cv n (by omega) (by omega) hk hc)
  have HC := Lib.hid hcell
  clear hcell hk hc
  go_enter Tryd.func22, Tryd.ntmps22
  go_wp2_with fail
  refine H.out.mono ?_
  rintro e w1 ⟨x, rfl, hx0, hx1, hc1, hg1⟩
  obtain ⟨k, rfl⟩ : ∃ k : Nat, x = k := ⟨x.toNat, by omega⟩
  have hkc : w1.cell? ⟨g, k, none⟩ = some (.string (f k)) := by
    rw [World.cell?_of_block (w := w) (hg1.block g hg (by simpa using hne))]
    exact HC.out k (by omega)
  have hkn : k < n := by omega
  have H1 := Lib.hid hc1
  have H2 := Lib.hid hg1
  clear hc1 hg1
  generalize hs : f k = s at hkc
  have HS := Lib.hid hs
  clear hs
  go_wp2
  go_ret
  exact ⟨k, ret_str HS.out.symm, hkn, H1.out, H2.out⟩

def txt : Nat → ByteArray
  | 0 => ⟨#[97]⟩
  | 1 => ⟨#[98, 99]⟩
  | 2 => ⟨#[32]⟩
  | 3 => ⟨#[44]⟩
  | _ => ⟨#[120, 49]⟩
theorem txt_size (k : Nat) : (txt k).size ≤ 2 := by
  match k with
  | 0 => decide
  | 1 => decide
  | 2 => decide
  | 3 => decide
  | _ + 4 => show (ByteArray.mk #[120, 49]).size ≤ 2; decide

set_option maxHeartbeats 1000000 in
theorem makeText_any (W : World) (cv : Value) (hk : CodeOk W cv) :
    Calls Tryd.prog 9 #[cv] W fun e w' => ∃ s : ByteArray, e = .returned (.string s) ∧ s.size ≤ 14 ∧ Below W.heap.size W w' := by
  have HK := Lib.hid hk
  clear hk
  go_enter Tryd.func9, Tryd.ntmps9
  go_wp2_with fail
  refine (new_any W cv HK.out).mono ?_
  rintro e w1 ⟨b, rfl, hc⟩
  have HC := Lib.hid hc; clear hc
  go_wp2_with fail
  refine (below_small W w1 b cv 8 (by omega) (by omega) HK.out HC.out).mono ?_
  rintro e w2 ⟨x, rfl, hx0, hx1, hc2, _⟩
  have HC2 := Lib.hid hc2; clear hc2
  go_wp2_with fail
  go_loopw [4, 5] (fun sv nv wr => ∃ (k : Nat) (s : ByteArray), nv = .int .i64 k ∧ k ≤ 7 ∧ sv = .string s ∧ s.size + 2 * k ≤ 14 ∧ Hid (Cur W wr b cv)) (fun _ nv _ => (intOf nv).toNat)
  case atStart =>
    obtain ⟨k, rfl⟩ : ∃ k : Nat, x = k := ⟨x.toNat, by omega⟩
    exact ⟨k, ⟨#[]⟩, rfl, by omega, rfl, by show 0 + 2 * k ≤ 14; omega, HC2⟩
  case round =>
    obtain ⟨k, s, rfl, hk7, rfl, hs, H⟩ := hrel
    by_cases hlt : 0 < k
    · have hbl : b < wr.heap.size := by obtain ⟨_, _, i, h, h3, _⟩ := H.out; exact (Array.getElem?_eq_some_iff.1 h3).1
      have HL : Hid (∀ j, j < 5 → (wr.alloc (.cells #[.string ⟨#[97]⟩, .string ⟨#[98, 99]⟩, .string ⟨#[32]⟩, .string ⟨#[44]⟩, .string ⟨#[120, 49]⟩] 9)).cell? ⟨wr.heap.size, j, none⟩ = some (.string (txt j))) := Lib.hid (fun j hj => by
        rw [World.cell?_alloc_at _ _ _ _ rfl]
        match j, hj with
        | 0, _ => rfl
        | 1, _ => rfl
        | 2, _ => rfl
        | 3, _ => rfl
        | 4, _ => rfl)
      go_wp2_with (go_at_call 22; refine (str_any W _ b cv wr.heap.size 5 5 txt (by omega) (by omega) (by omega) (by omega) (by simp) HL.out HK.out (H.out.alloc _)).mono ?_; rintro e w3 ⟨q, rfl, hq, hc3, _⟩; have HC3 := Lib.hid hc3; clear hc3; have hts := txt_size q; generalize txt q = y at hts ⊢)
      go_roundw
      case rel => exact ⟨k - 1, s ++ y, by go_num, by omega, rfl, by rw [ByteArray.size_append]; omega, HC3⟩
      case measure => simp [intOf]; omega
    · go_wp2
      go_ret
      exact ⟨s, rfl, by omega, H.out.1⟩

theorem joinTail_snoc (sep : List UInt8) (r : List (List UInt8)) (y : List UInt8) : Lib.joinTail sep (r ++ [y]) = Lib.joinTail sep r ++ sep ++ y := by
  unfold Lib.joinTail; simp
theorem join_snoc_app (xs : List (List UInt8)) (y z sep : List UInt8) : Lib.join (xs ++ [y ++ z]) sep = Lib.join (xs ++ [y]) sep ++ z := by
  cases xs with
  | nil => simp [Lib.join_one]
  | cons x r => simp only [List.cons_append, Lib.join_cons, joinTail_snoc, List.append_assoc]
theorem join_snoc_nil (xs : List (List UInt8)) (y sep : List UInt8) : Lib.join ((xs ++ [y]) ++ [[]]) sep = Lib.join (xs ++ [y]) sep ++ sep := by
  cases xs with
  | nil => simp [Lib.join_cons, Lib.joinTail]
  | cons x r =>
    rw [List.cons_append, List.cons_append, Lib.join_cons, Lib.join_cons, joinTail_snoc, List.append_nil, List.append_assoc]
theorem take_snoc' (s : ByteArray) (k : Nat) (h : k < s.size) : s.data.toList.take (k + 1) = s.data.toList.take k ++ [s[k]] := by
  rw [List.take_succ_eq_append_getElem (by simpa using h)]; rfl
theorem ext_data (s : ByteArray) (a b : Nat) : (s.extract a b).data.toList = (s.data.toList.take b).drop a := by
  rw [Lib.extract_data, List.drop_take]
theorem join_split (c : UInt8) (s : ByteArray) : ∀ k, k ≤ s.size → Lib.join (((splitTo [c] s k).1 ++ [s.extract (splitTo [c] s k).2 k]).map (·.data.toList)) [c] = s.data.toList.take k
  | 0, _ => by simp [splitTo, Lib.join_one]
  | k + 1, h => by
    have ih := join_split c s k (by omega)
    have hle := (splitTo_le [c] s k).1
    rw [List.map_append, List.map_cons, List.map_nil, ext_data] at ih
    by_cases hc : [c].contains s[k] = true
    · rw [splitTo_hit (by omega) hc]
      have e : s[k] = c := by simpa using hc
      simp only [List.map_append, List.map_cons, List.map_nil, ext_data]
      rw [show (s.data.toList.take (k + 1)).drop (k + 1) = [] from List.drop_of_length_le (List.length_take_le _ _), join_snoc_nil, ih, take_snoc' s k (by omega), e]
    · rw [splitTo_miss (by omega) (by simpa using hc)]
      simp only [List.map_append, List.map_cons, List.map_nil, ext_data]
      rw [take_snoc' s k (by omega), List.drop_append_of_le_length (by rw [List.length_take]; simp; omega), join_snoc_app, ih]
theorem join_splitAll (c : UInt8) (s : ByteArray) : Lib.join ((splitAll [c] s).map (·.data.toList)) [c] = s.data.toList := by
  have h := join_split c s s.size (Nat.le_refl _)
  rw [List.take_of_length_le (by simp)] at h
  exact h
theorem name_x1 : nameB [120, 49] = true := by decide
theorem lines_ab : (linesOf ⟨#[97, 10, 98, 10]⟩).length = 2 := by decide +kernel

def spB : ByteArray := ⟨#[32]⟩
set_option maxHeartbeats 2000000 in
theorem walk_FnWords (v0 : Value) (len : Nat) (w : World) (h0 : InBytes w v0 len) (hL : laidMetH Tryd.prog Rows.fnWordsRow.laid w) :
    Calls Tryd.prog 3 #[v0] w fun e w' => e = .returned (.bool true) ∧ Below w.heap.size w w' := by
  have HL := Lib.hid (laid3_of hL rfl rfl rfl)
  clear hL
  by_cases h : 1048576 < len
  · obtain ⟨a, cap, rfl, hlc, hm, _⟩ := h0
    unfold maxLen at hm
    go_enter Tryd.func3, Tryd.ntmps3
    go_wp2
    go_ret
    exact ⟨rfl, Below.refl _ _⟩
  have HK := Lib.hid (h0.code (by omega))
  obtain ⟨a, cap, rfl, hlc, hm, _⟩ := h0
  unfold maxLen at hm
  go_enter Tryd.func3, Tryd.ntmps3
  go_wp2_with fail
  refine (makeNum_any w _ 1 (by omega) HK.out).mono ?_
  rintro e w1 ⟨x, rfl, hx0, hx1, hb1⟩
  have B1 := Lib.hid hb1; clear hb1
  go_wp2_with fail
  have L1 := Lib.hid (HL.out.below B1.out (Nat.le_refl _))
  refine (implFormat_any (x - 30000) w1 (by omega) (by omega) L1.out.tab).mono ?_
  rintro e w2 ⟨rfl, hb2⟩
  have B2 := Lib.hid hb2; clear hb2
  have L2 := Lib.hid (L1.out.below B2.out (Nat.le_refl _))
  go_wp2_with fail
  have PP : Hid (∀ v ok, PR (Lib.itoa (x - 30000)) v ok → v = x - 30000 ∧ ok = true) := Lib.hid (fun v ok hp => by
    exact PR_unique hp (yes_eq ⟨by omega, by omega⟩ rfl))
  have PS : Hid (Calls Tryd.prog 7 #[.string ⟨(Lib.itoa (x - 30000)).toArray⟩] w2 (ParsePost (Lib.itoa (x - 30000)) w2)) := Lib.hid (by
    obtain ⟨h1, ⟨e1, c1, k1⟩, ⟨e2, c2, k2⟩⟩ := L2.out
    refine implParse_any ⟨(Lib.itoa (x - 30000)).toArray⟩ w2 ?_ h1 e1 c1 k1 e2 c2 k2
    show (Lib.itoa (x - 30000)).toArray.size ≤ 1048576
    have := dec_len (x - 30000).natAbs 20 (by omega)
    have := dec_len (x - 30000).toNat 20 (by omega)
    unfold Lib.itoa
    split <;> simp <;> omega)
  generalize Lib.itoa (x - 30000) = L at PP PS ⊢
  refine PS.out.mono ?_
  rintro e w3 ⟨v, ok, rfl, hp, hb3⟩
  obtain ⟨rfl, rfl⟩ := PP.out v ok hp
  have B3 := Lib.hid hb3; clear hb3 hp
  have s12 : w1.heap.size ≤ w2.heap.size := B2.out.size
  have s01 : w.heap.size ≤ w1.heap.size := B1.out.size
  have s23 : w2.heap.size ≤ w3.heap.size := B3.out.size
  have B03 : Hid (Below w.heap.size w w3) := Lib.hid ((B1.out.trans (B2.out.mono (by omega))).trans (B3.out.mono (by omega)))
  go_wp2_with fail
  refine (makeText_any w3 _ (HK.out.below B03.out (Nat.le_refl _))).mono ?_
  rintro e w4 ⟨s, rfl, hs, hb4⟩
  have B4 := Lib.hid hb4; clear hb4
  have HS := Lib.hid (fun W => implSplit_any s spB W (by omega) (by decide))
  have HJ : Hid (Lib.join ((splitAll spB.data.toList s).map (·.data.toList)) spB.data.toList = s.data.toList) := Lib.hid (join_splitAll 32 s)
  have hlen := splitAll_len spB.data.toList s (by omega)
  generalize splitAll spB.data.toList s = ps at HS HJ hlen
  go_wp2_with fail
  refine (HS.out _).mono ?_
  rintro e w5 ⟨u, rfl, ho5, hb5⟩
  have O5 := Lib.hid ho5; have B5 := Lib.hid hb5; clear ho5 hb5
  have HI := Lib.hid (implJoin_any u ps spB w5 (Rs.of_own O5.out) (by omega) (by rw [HJ.out]; simp; omega))
  rw [HJ.out] at HI
  go_wp2_with fail
  refine HI.out.mono ?_
  rintro e w6 ⟨rfl, hb6⟩
  have B6 := Lib.hid hb6; clear hb6
  have HN : Hid (∀ W, Calls Tryd.prog 12 #[.string ⟨#[120, 49]⟩] W fun e w' => e = .returned (.bool true) ∧ Below W.heap.size W w') := Lib.hid (fun W =>
    (implName_any ⟨#[120, 49]⟩ W (by decide)).mono fun e w' ⟨h1, h2⟩ => ⟨h1.trans (ret_bool name_x1), by
      rcases h2 with rfl | ⟨pos, rfl⟩
      · exact Below.refl _ _
      · exact (Below.refl _ _).alloc (Nat.le_refl _) _⟩)
  have s34 : w3.heap.size ≤ w4.heap.size := B4.out.size
  have s45 : w4.heap.size ≤ w5.heap.size := B5.out.size
  have s56 : w5.heap.size ≤ w6.heap.size := B6.out.size
  have B06 : Hid (Below w.heap.size w w6) := Lib.hid (((B03.out.trans (B4.out.mono (by omega))).trans (B5.out.mono (by omega))).trans (B6.out.mono (by omega)))
  go_wp2_with fail
  refine (HN.out _).mono ?_
  rintro e w7 ⟨rfl, hb7⟩
  have B7 := Lib.hid hb7; clear hb7
  have HLn := Lib.hid (fun W => implLines_any ⟨#[97, 10, 98, 10]⟩ W (by decide))
  have H2 := Lib.hid lines_ab
  generalize linesOf ⟨#[97, 10, 98, 10]⟩ = ls at HLn H2
  go_wp2_with fail
  refine (HLn.out _).mono ?_
  rintro e w8 ⟨q, rfl, ho8, hb8⟩
  rw [H2.out] at ho8
  obtain ⟨g8, cap8, rfl, _, _, _⟩ := own_shape ho8 (by omega)
  have B8 := Lib.hid hb8; clear hb8 ho8
  have s67 : w6.heap.size ≤ w7.heap.size := B7.out.size
  go_wp2
  go_ret
  exact ⟨rfl, (B06.out.trans (B7.out.mono (by omega))).trans (B8.out.mono (by omega))⟩
end Go.Proofs.YtmniigplfhmbjaaDoor
