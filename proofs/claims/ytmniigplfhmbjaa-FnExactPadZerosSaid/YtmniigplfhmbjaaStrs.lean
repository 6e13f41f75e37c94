/-
  Contracts of the laws' helpers over []string: eqStringS (of equal lists), markText, markStringS, heldStringS. Conditions: lists of at most 2097152 elements.
-/
import Derived.Test.YtmniigplfhmbjaaRows
import Derived.Test.YtmniigplfhmbjaaLib
import Derived.Deep.OwnRows
import Derived.Deep.RegionHeld3
import Derived.WalkSpells
namespace Go.Proofs.Ytmniigplfhmbjaa
open Go.RowKit
open Go Go.Deep

theorem Try.infoStr : (Try.prog.info? 9).map (fun i => (i.zero, i.size, i.bytes)) = some (some (.string ByteArray.empty), 1, 16) := by kernel_rfl
/-- the slice v reads, in w, as the one-cell values xs -/
def Rs (w : World) (v : Value) (xs : List Value) : Prop :=
  ∃ a cap, v = .slice a xs.length cap ∧ xs.length ≤ cap ∧ cap ≤ maxLen ∧ (xs = [] ∨ ∃ b o, a = some ⟨b, o, none⟩ ∧ b < w.heap.size ∧ ∀ j x, xs[j]? = some x → w.cell? ⟨b, o + j, none⟩ = some x)
theorem Rs.of_own {w : World} {base : Nat} {e : TypeId} {v : Value} {n : Nat} {xs : List Value} (h : w.ownsRow base e 1 v n xs) : Rs w v xs := by
  have hl : xs.length = n := by have := h.1; omega
  rcases h.2 with ⟨rfl, h0⟩ | ⟨g, cap, cur, rfl, hb, hg, hn, hm, hc, ht⟩
  · have : xs = [] := by cases xs with
      | nil => rfl
      | cons a t => simp at hl; omega
    subst this
    exact ⟨none, 0, rfl, Nat.le_refl _, by decide, .inl rfl⟩
  · subst hl
    refine ⟨_, cap, rfl, hn, hm, .inr ⟨g, 0, rfl, (Array.getElem?_eq_some_iff.1 hg).1, fun j x hx => ?_⟩⟩
    have hj : j < xs.length := by
      rcases Nat.lt_or_ge j xs.length with h' | h'
      · exact h'
      · rw [List.getElem?_eq_none h'] at hx; cases hx
    rw [Nat.zero_add, h.cellAt j (by omega), hx]
theorem Rs.below {w w' : World} {v : Value} {xs : List Value} {B : Nat} (h : Rs w v xs) (hb : Below B w w') (hB : w.heap.size ≤ B) : Rs w' v xs := by
  obtain ⟨a, cap, rfl, h1, h2, h3⟩ := h
  refine ⟨a, cap, rfl, h1, h2, ?_⟩
  rcases h3 with h3 | ⟨b, o, rfl, hlt, hc⟩
  · exact .inl h3
  · exact .inr ⟨b, o, rfl, Nat.lt_of_lt_of_le hlt hb.size, fun j x hx => by rw [hb.cell (p := ⟨b, o + j, none⟩) (by show b < B; omega)]; exact hc j x hx⟩
theorem Rs.drewN {w : World} {v : Value} {xs : List Value} (h : Rs w v xs) (n : Nat) : Rs (w.drewN n) v xs := h

set_option maxHeartbeats 1000000 in
theorem eqStringS_same (u v : Value) (xs : List ByteArray) (w : World) (hu : Rs w u (xs.map Value.string)) (hv : Rs w v (xs.map Value.string)) :
    Calls Try.prog 15 #[u, v] w fun e w' => e = .returned (.bool true) ∧ ∃ n, w' = w.drewN n := by
  obtain ⟨a1, c1, rfl, hc1, hm1, h1⟩ := hu
  obtain ⟨a2, c2, rfl, hc2, hm2, h2⟩ := hv
  rw [List.length_map] at *
  have key : ∀ j, j < xs.length → ∃ b1 o1 b2 o2, a1 = some ⟨b1, o1, none⟩ ∧ a2 = some ⟨b2, o2, none⟩ ∧ w.cell? ⟨b1, o1 + j, none⟩ = some (.string (xs.getD j ByteArray.empty)) ∧ w.cell? ⟨b2, o2 + j, none⟩ = some (.string (xs.getD j ByteArray.empty)) := by
    intro j hj
    have hx : (xs.map Value.string)[j]? = some (.string (xs.getD j ByteArray.empty)) := by
      rw [List.getElem?_map, List.getElem?_eq_getElem hj, List.getD_eq_getElem?_getD, List.getElem?_eq_getElem hj]; rfl
    rcases h1 with h1 | ⟨b1, o1, rfl, _, h1⟩
    · rw [h1] at hx; simp at hx
    · rcases h2 with h2 | ⟨b2, o2, rfl, _, h2⟩
      · rw [h2] at hx; simp at hx
      · exact ⟨b1, o1, b2, o2, rfl, rfl, h1 j _ hx, h2 j _ hx⟩
  have KEY := Lib.hid key
  clear h1 h2 key
  unfold maxLen at hm1 hm2
  go_enter Try.func15, Try.ntmps15
  go_wp2
  go_loopw [5] (fun i wr => ∃ k n : Nat, k ≤ xs.length ∧ i = .int .i64 k ∧ wr = w.drewN n) (fun i _ => xs.length - (intOf i).toNat)
  case atStart => exact ⟨0, 0, Nat.zero_le _, rfl, rfl⟩
  case round =>
    obtain ⟨k, n, hk, rfl, rfl⟩ := hrel
    by_cases hlt : k < xs.length
    · obtain ⟨b1, o1, b2, o2, rfl, rfl, g1, g2⟩ := KEY.out k hlt
      go_wp2
      go_quiet (fail)
      go_wp2
      go_roundw
      case rel => exact ⟨k + 1, _, by omega, by go_num, rfl⟩
      case measure => simp [intOf]; omega
    · go_wp2
      go_ret
      exact ⟨rfl, n, rfl⟩

/-- markText's loop -/
def mdigs : Nat → Nat → List UInt8 → List UInt8
  | 0, _, acc => acc
  | f + 1, k, acc => if k = 0 then acc else mdigs f (k / 10) ((48 + UInt8.ofNat (k % 10)) :: acc)
def mtext (k : Nat) : ByteArray := ⟨(109 :: mdigs k k []).toArray⟩
theorem mdigs_zero : ∀ (f : Nat) (acc : List UInt8), mdigs f 0 acc = acc
  | 0, _ => rfl
  | f + 1, _ => by simp [mdigs]
theorem mdigs_len : ∀ (f k : Nat) (acc : List UInt8), (mdigs f k acc).length ≤ acc.length + f
  | 0, _, _ => by simp [mdigs]
  | f + 1, k, acc => by
    unfold mdigs
    split
    · omega
    · have := mdigs_len f (k / 10) ((48 + UInt8.ofNat (k % 10)) :: acc)
      simp at this ⊢; omega

set_option maxHeartbeats 1000000 in
theorem markText_any (k0 : Nat) (w : World) (h0 : 0 < k0) (hk : k0 ≤ 4194304) :
    Calls Try.prog 29 #[.int .i64 k0] w fun e w' => e = .returned (.string (mtext k0)) ∧ Below w.heap.size w w' := by
  go_enter Try.func29, Try.ntmps29
  go_wp2
  go_loopw [0, 3] (fun kv out wr => ∃ (k f : Nat) (l : List UInt8), kv = .int .i64 k ∧ k ≤ f ∧ k ≤ 4194304 ∧ l.length + f ≤ 4194304 ∧ out = .string ⟨l.toArray⟩ ∧ Hid (mdigs f k l = mdigs k0 k0 []) ∧ Hid (Below w.heap.size w wr) ∧ w.heap.size ≤ wr.heap.size) (fun kv _ _ => (intOf kv).toNat)
  case atStart => exact ⟨k0, k0, [], rfl, Nat.le_refl _, hk, by simpa using hk, rfl, Lib.hid rfl, Lib.hid (Below.refl _ _), Nat.le_refl _⟩
  case round =>
    obtain ⟨k, f, l, rfl, hkf, hk4, hlf, rfl, HM, HB, hsz⟩ := hrel
    by_cases hlt : 0 < k
    · have hmod : (k : Int) % 10 < 10 := by omega
      have hmod0 : 0 ≤ (k : Int) % 10 := by omega
      have hcv := run_bytes_one (P := Try.prog) Try.underlying39 Try.underlying5 Try.underlying9 wr (48 + (k : Int) % 10)
      go_wp2
      go_roundw
      case rel =>
        obtain ⟨f', rfl⟩ : ∃ f', f = f' + 1 := ⟨f - 1, by omega⟩
        refine ⟨k / 10, f', (48 + UInt8.ofNat (k % 10)) :: l, by simp, by omega, by omega, by simp; omega, ?_, Lib.hid ?_, Lib.hid (HB.out.alloc hsz _), by simp; omega⟩
        · rw [ByteArray.mk_append_lists]
        · rw [← HM.out, mdigs, if_neg (by omega)]
      case measure => simp [intOf]; omega
    · obtain rfl : k = 0 := by omega
      go_wp2
      go_ret
      exact ⟨ret_str (by unfold mtext; rw [← HM.out, mdigs_zero]; rfl), HB.out⟩

/-- what markStringS leaves: the texts of k, k + 1 .. -/
def marks (k n : Nat) : List Value := (List.range n).map fun i => .string (mtext (k + i))

theorem marks_len (k n : Nat) : (marks k n).length = n := by simp [marks]
theorem marks_succ (k n : Nat) : marks k (n + 1) = marks k n ++ [.string (mtext (k + n))] := by
  unfold marks; rw [List.range_succ, List.map_append]; rfl
theorem marks_cell {w1 : World} {base g cap k n i : Nat} {xs : List Value} (h : w1.ownsRow base 9 1 (.slice (some ⟨g, 0, none⟩) n cap) n (marks k i ++ xs.drop i)) (hi : i < n) (hl : xs.length = n) : ∃ x0, w1.cell? ⟨g, i, none⟩ = some x0 := by
  rw [h.cellAt i (by omega), List.getElem?_append_right (by rw [marks_len]; exact Nat.le_refl _), marks_len, Nat.sub_self, List.getElem?_drop, List.getElem?_eq_getElem (by omega)]
  exact ⟨_, rfl⟩
theorem marks_step {wr w1 : World} {base g cap k n i : Nat} {xs : List Value} (h : wr.ownsRow base 9 1 (.slice (some ⟨g, 0, none⟩) n cap) n (marks k i ++ xs.drop i)) (hb : Below wr.heap.size wr w1) (hi : i < n) (hl : xs.length = n) :
    (w1.setCell ⟨g, i, none⟩ (.string (mtext (k + i)))).ownsRow base 9 1 (.slice (some ⟨g, 0, none⟩) n cap) n (marks k (i + 1) ++ xs.drop (i + 1)) := by
  have h1 := ((own_below h hb (Nat.le_refl _)).stored i (.string (mtext (k + i)))).1
  rw [marks_succ, List.append_assoc]
  rw [List.set_append_right _ _ (by rw [marks_len]; exact Nat.le_refl _), marks_len, Nat.sub_self, List.drop_eq_getElem_cons (by omega), List.set_cons_zero] at h1
  exact h1

set_option maxHeartbeats 1000000 in
theorem markStringS_own (base : Nat) (v : Value) (n : Nat) (xs : List Value) (k : Nat) (w : World) (hn : n ≤ 2097152) (h0 : 0 < k) (hk : k ≤ 2097152) (ho : w.ownsRow base 9 1 v n xs) :
    Calls Try.prog 16 #[v, .int .i64 k] w fun e w' => e = .returned (.int .i64 (k + n : Nat)) ∧ w'.ownsRow base 9 1 v n (marks k n) ∧ Below base w w' := by
  have hl : xs.length = n := by have := ho.1; omega
  rcases Nat.eq_zero_or_pos n with h00 | hpos
  · subst h00
    obtain ⟨a, cap, rfl⟩ : ∃ a cap, v = .slice a 0 cap := by
      rcases ho.2 with ⟨rfl, _⟩ | ⟨g, cap, cur, rfl, _⟩
      · exact ⟨_, _, rfl⟩
      · exact ⟨_, _, rfl⟩
    go_enter Try.func16, Try.ntmps16
    go_wp2
    refine wp_loop_rounds 1 ?_
    rw [rounds_succ]
    go_wp2
    go_ret
    have e : xs = [] := List.length_eq_zero_iff.1 hl
    subst e
    exact ⟨ret_int (by simp), ho, Below.refl _ _⟩
  obtain ⟨g, cap, rfl, hbg⟩ : ∃ g cap, v = .slice (some ⟨g, 0, none⟩) n cap ∧ base ≤ g := by
    rcases ho.2 with ⟨rfl, h⟩ | ⟨g, cap, cur, rfl, hb, _⟩
    · omega
    · exact ⟨_, _, rfl, hb⟩
  go_enter Try.func16, Try.ntmps16
  go_wp2
  go_loopw [1, 5] (fun kv iv wr => ∃ i : Nat, i ≤ n ∧ iv = .int .i64 i ∧ kv = .int .i64 (k + i : Nat) ∧ Hid (wr.ownsRow base 9 1 (.slice (some ⟨g, 0, none⟩) n cap) n (marks k i ++ xs.drop i)) ∧ Hid (Below base w wr)) (fun _ iv _ => n - (intOf iv).toNat)
  case atStart => exact ⟨0, Nat.zero_le _, rfl, rfl, Lib.hid (by simpa [marks] using ho), Lib.hid (Below.refl _ _)⟩
  case round =>
    obtain ⟨i, hi, rfl, rfl, HO, HB⟩ := hrel
    by_cases hlt : i < n
    · have hg : g < wr.heap.size := (HO.out.lt g rfl).2
      go_wp2_with (go_at_call 29; refine (markText_any (k + i) _ (by omega) (by omega)).mono ?_; rintro e w1 ⟨rfl, hb1⟩; obtain ⟨x0, hc⟩ := marks_cell (own_below HO.out hb1 (Nat.le_refl _)) hlt hl; have hf := (own_below HO.out hb1 (Nat.le_refl _)).frozenAt i; have HB1 := Lib.hid hb1; clear hb1)
      go_roundw
      case rel => exact ⟨i + 1, by omega, by go_num, by go_num, Lib.hid (marks_step HO.out HB1.out hlt hl), Lib.hid ((HB.out.trans (HB1.out.mono (by omega))).setCell hbg _)⟩
      case measure => simp [intOf]; omega
    · obtain rfl : i = n := by omega
      go_wp2
      go_ret
      exact ⟨rfl, by have := HO.out; rw [List.drop_of_length_le (by omega), List.append_nil] at this; exact this, HB.out⟩

set_option maxHeartbeats 1000000 in
theorem heldStringS_any (v : Value) (n k : Nat) (w : World) (hn : n ≤ 2097152) (h0 : 0 < k) (hk : k ≤ 2097152) (hr : Rs w v (marks k n)) :
    Calls Try.prog 17 #[v, .int .i64 k] w fun e w' => e = .returned (.int .i64 (k + n : Nat)) ∧ Below w.heap.size w w' := by
  obtain ⟨a, cap, rfl, hc1, hm1, h1⟩ := hr
  rw [marks_len] at *
  have key : ∀ i, i < n → ∃ b o, a = some ⟨b, o, none⟩ ∧ b < w.heap.size ∧ w.cell? ⟨b, o + i, none⟩ = some (.string (mtext (k + i))) := by
    intro i hi
    rcases h1 with h1 | ⟨b, o, rfl, hlt, h1⟩
    · have := marks_len k n; rw [h1] at this; simp at this; omega
    · exact ⟨b, o, rfl, hlt, h1 i _ (by simp [marks, hi])⟩
  have KEY := Lib.hid key
  clear h1 key
  unfold maxLen at hm1
  go_enter Try.func17, Try.ntmps17
  go_wp2
  go_loopw [1, 5] (fun kv iv wr => ∃ i : Nat, i ≤ n ∧ iv = .int .i64 i ∧ kv = .int .i64 (k + i : Nat) ∧ Hid (Below w.heap.size w wr)) (fun _ iv _ => n - (intOf iv).toNat)
  case atStart => exact ⟨0, Nat.zero_le _, rfl, rfl, Lib.hid (Below.refl _ _)⟩
  case round =>
    obtain ⟨i, hi, rfl, rfl, HB⟩ := hrel
    by_cases hlt : i < n
    · obtain ⟨b, o, rfl, hbl, hc⟩ := KEY.out i hlt
      have hcr : wr.cell? ⟨b, o + i, none⟩ = some (.string (mtext (k + i))) := by rw [HB.out.cell (p := ⟨b, o + i, none⟩) hbl]; exact hc
      have hbr : b < wr.heap.size := by have := HB.out.size; omega
      clear hc
      have hi0 : (0 : Int) ≤ (i : Int) := Int.natCast_nonneg _
      have hi1 : (i : Int) < (n : Int) := by omega
      have hsz := HB.out.size
      go_wp2
      go_region_held3 (fun w' => w'.cell? ⟨b, o + i, none⟩ = some (.string (mtext (k + i))) ∧ Below w.heap.size w w' ∧ wr.heap.size ≤ w'.heap.size)
        (first
          | exact ⟨hcr, HB.out.drew, Nat.le_refl _⟩
          | go_keep
          | (go_split_ands
             exact ⟨by rw [hb1.cell (p := ⟨b, o + i, none⟩) (by show b < _; omega)]; assumption, Below.trans (by assumption) (hb1.mono (by omega)), by have := hb1.size; omega⟩))
        ((go_at_call 29; refine (markText_any (k + i) _ (by omega) (by omega)).mono ?_; rintro e w1 ⟨rfl, hb1⟩))
      have HB1 := Lib.hid hb1
      clear hb1
      go_wp2
      go_roundw
      case rel => exact ⟨i + 1, by omega, by go_num, by go_num, Lib.hid (HB.out.drew.trans (HB1.out.mono hsz))⟩
      case measure => simp [intOf]; omega
    · obtain rfl : i = n := by omega
      go_wp2
      go_ret
      exact ⟨rfl, HB.out⟩
end Go.Proofs.Ytmniigplfhmbjaa
