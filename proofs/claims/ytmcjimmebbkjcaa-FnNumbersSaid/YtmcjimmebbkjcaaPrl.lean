/-
  Laws over pairs and bools: rows of pairs with an interval (Po); markPairS with what it leaves alone; toBoolS; an argument that is a slice of bools. No condition but the lengths.
-/
import Derived.Test.YtmcjimmebbkjcaaPrm
import Derived.Test.YtmcjimmebbkjcaaZTerm
import Derived.Deep.Grids
namespace Go.Proofs.Ytmcjimmebbkjcaa
open Go.RowKit Go.WideShapes
open Go Go.Deep
set_option linter.unusedSimpArgs false

/-- v owns the pairs xs, in a block from lo to hi -/
def Po (lo hi : Nat) (w : World) (v : Value) (xs : List Pr) : Prop := w.ownsRow lo 33 2 v xs.length (prCells xs) ∧ ∀ k, v.ownBlock = some k → k < hi
theorem Po.keeps {lo hi : Nat} {w w' : World} {v : Value} {xs : List Pr} (h : Po lo hi w v xs) (k : Keeps lo hi w w') : Po lo hi w' v xs :=
  ⟨own_keeps h.1 fun q hq => k.block q (h.1.lt q hq).1 (h.2 q hq) (h.1.lt q hq).2, h.2⟩
theorem Po.read {lo hi : Nat} {w : World} {v : Value} {xs : List Pr} (h : Po lo hi w v xs) : Ps w v xs := Ps.of_own h.1
theorem toPairS_po (v : Value) (xs : List Pr) (w : World) (hr : Ps w v xs) (hn : xs.length ≤ 1048576) :
    Calls Try.prog 21 #[v] w fun e w' => ∃ v', e = .returned v' ∧ Po w.heap.size w'.heap.size w' v' xs ∧ Below w.heap.size w w' := by
  refine (toPairS_any v xs w hr hn).mono ?_
  rintro e w' ⟨g, rfl, ho, hb⟩
  exact ⟨_, rfl, ⟨ho, fun k hk => (ho.lt k hk).2⟩, hb⟩
theorem PrsAns.po {w w' : World} {r : List Pr} {e : Ending} (h : PrsAns w r e w') : ∃ v, e = .returned v ∧ Po w.heap.size w'.heap.size w' v r ∧ Below w.heap.size w w' := by
  obtain ⟨v, rfl, ho, hb⟩ := h
  exact ⟨v, rfl, ⟨ho, fun k hk => (ho.lt k hk).2⟩, hb⟩
theorem grown_setP {w0 w : World} {g : Nat} (h : w0.grownBy w (some g)) (j : Nat) (u : Value) : w0.grownBy (w.setCell ⟨g, j, none⟩ u) (some g) :=
  ⟨h.os, h.tape, h.output, by simpa [World.setCell] using h.size, fun k hk hne => by rw [Below.heap_setCell _ _ _ _ (fun e => hne (by rw [e]))]; exact h.block k hk hne⟩

set_option maxRecDepth 100000 in
set_option maxHeartbeats 2000000 in
theorem markPairS_rw (base : Nat) (v : Value) (n : Nat) (xs : List Pr) (k : Nat) (w : World) (hn : n ≤ 1048576) (h0 : 0 < k) (hk : k ≤ 4194400) (ho : w.ownsRow base 33 2 v n (prCells xs)) :
    Calls Try.prog 17 #[v, .int .i64 k] w fun e w' => e = .returned (.int .i64 (k + n * 2 : Nat)) ∧ w'.ownsRow base 33 2 v n (prCells (marksPr k n)) ∧ w.grownBy w' v.ownBlock := by
  have hl : xs.length = n := by have := ho.1; rw [prCells_len] at this; omega
  rcases Nat.eq_zero_or_pos n with h00 | hpos
  · subst h00
    obtain ⟨a, cap, rfl⟩ : ∃ a cap, v = .slice a 0 cap := by
      rcases ho.2 with ⟨rfl, _⟩ | ⟨g, cap, cur, rfl, _⟩
      · exact ⟨_, _, rfl⟩
      · exact ⟨_, _, rfl⟩
    go_enter Try.func17, Try.ntmps17
    go_wp2
    refine wp_loop_rounds 1 ?_
    rw [rounds_succ]
    go_wp2
    go_ret
    have e : xs = [] := List.length_eq_zero_iff.1 hl
    subst e
    exact ⟨ret_int (by simp), ho, World.grownBy.refl _ _⟩
  obtain ⟨g, cap, rfl, hbg⟩ : ∃ g cap, v = .slice (some ⟨g, 0, none⟩) n cap ∧ base ≤ g := by
    rcases ho.2 with ⟨rfl, h⟩ | ⟨g, cap, cur, rfl, hb, _⟩
    · omega
    · exact ⟨_, _, rfl, hb⟩
  have HL := Lib.hid hl; clear hl
  go_enter Try.func17, Try.ntmps17
  go_wp2
  go_loopw [1, 5] (fun kv iv wr => ∃ i : Nat, i ≤ n ∧ iv = .int .i64 i ∧ kv = .int .i64 (k + i * 2 : Nat) ∧ Hid (wr.ownsRow base 33 2 (.slice (some ⟨g, 0, none⟩) n cap) n (prCells (marksPr k i ++ xs.drop i))) ∧ Hid (w.grownBy wr (some g))) (fun _ iv _ => n - (intOf iv).toNat)
  case atStart => exact ⟨0, Nat.zero_le _, rfl, by go_num, Lib.hid (by simpa [marksPr] using ho), Lib.hid (World.grownBy.refl _ _)⟩
  case round =>
    obtain ⟨i, hi, rfl, rfl, HO, HB⟩ := hrel
    by_cases hlt : i < n
    · obtain ⟨f0, f1, ⟨z0, g0⟩, ⟨z1, g1⟩⟩ := own_pair HO.out hlt
      go_wp2
      go_roundw
      case rel =>
        refine ⟨i + 1, by omega, by go_num, by go_num, Lib.hid ?_, Lib.hid (grown_setP (grown_setP HB.out _ _) _ _)⟩
        rw [← marksPr_set (by rw [HL.out]; exact hlt)]
        exact own_pair_set HO.out hlt (markPr k i)
      case measure => simp [intOf]; omega
    · obtain rfl : i = n := by omega
      go_wp2
      go_ret
      exact ⟨rfl, by have := HO.out; rw [List.drop_of_length_le (by rw [HL.out]; exact Nat.le_refl _), List.append_nil] at this; exact this, HB.out⟩

set_option maxRecDepth 100000 in
set_option maxHeartbeats 1000000 in
theorem toBoolS_any (lo hi : Nat) (v : Value) (l : List Bool) (w : World) (hr : Bv lo hi w v l) (hn : l.length ≤ 1048576) :
    Calls Try.prog 42 #[v] w (BoolsAns w l) := by
  obtain ⟨i0, hi, hz0, hz1, hz2⟩ := info_parts Try.infoB
  obtain ⟨a, cap, rfl, h1, h2, h3⟩ := hr.parts
  unfold maxLen at h2
  have KEY := Lib.hid h3
  clear h3
  have hb1 : i0.bytes * l.length ≤ 281474976710656 := by rw [hz2]; omega
  have HB1 := Lib.hid hb1
  clear hb1
  go_enter Try.func42, Try.ntmps42
  go_wp2_with (at_make; refine wpList_make_full _ rfl _ _ 42 rfl w.heap.size 4 i0 (.bool false) 1 Try.underlying42 hi hz0 hz1 _ _ _ _ l.length rfl rfl rfl rfl HB1.out (by unfold maxLen; omega) (Nat.le_refl _) ?_; intro w1 hown hg; have HO := Lib.hid hown; have HG := Lib.hid hg; clear hown hg)
  have hst : Hid (w1.ownsRow w.heap.size 4 1 (.slice (some ⟨w.heap.size, 0, none⟩) l.length l.length) l.length (bools (l.take 0 ++ List.replicate (l.length - 0) false))) := Lib.hid (by
    have h := HO.out
    rw [Nat.mul_one, madeB] at h
    simpa using h)
  have hbw : Hid (Below w.heap.size w w1) := Lib.hid ((Below.refl _ _).grown HG.out (Nat.le_refl _) (fun k hk => by cases hk))
  clear HO HG
  go_loopw [4] (fun i wr => ∃ k : Nat, k ≤ l.length ∧ i = .int .i64 k ∧ Hid (wr.ownsRow w.heap.size 4 1 (.slice (some ⟨w.heap.size, 0, none⟩) l.length l.length) l.length (bools (l.take k ++ List.replicate (l.length - k) false))) ∧ Hid (Below w.heap.size w wr)) (fun i _ => l.length - (intOf i).toNat)
  case atStart => exact ⟨0, Nat.zero_le _, rfl, hst, hbw⟩
  case round =>
    obtain ⟨k, hk, rfl, HO, HB⟩ := hrel
    by_cases hlt : k < l.length
    · obtain ⟨b, o, rfl, _, _, hb, c0⟩ := KEY.out k hlt
      rw [← HB.out.cell (p := ⟨b, o + k, none⟩) hb] at c0
      obtain ⟨f0, z0, g0⟩ := own_one HO.out hlt
      have HX : Hid (l[k]? = some (l.getD k false)) := Lib.hid (getD_some false hlt)
      generalize l.getD k false = x at c0 HX
      go_wp2
      go_roundw
      case rel =>
        refine ⟨k + 1, by omega, by go_num, Lib.hid ?_, Lib.hid (HB.out.setCell (Nat.le_refl _) _)⟩
        rw [← set_takeL l k l.length false x hlt hlt HX.out, ← bools_set]
        exact (HO.out.stored k _).1
      case measure => simp [intOf]; omega
    · obtain rfl : k = l.length := by omega
      go_wp2
      go_ret
      refine ⟨_, rfl, ?_, HB.out⟩
      have h := HO.out
      rw [Nat.sub_self, List.take_of_length_le (Nat.le_refl _)] at h
      simp only [List.replicate_zero, List.append_nil] at h
      have e : (bools l).length = l.length := bools_len l
      exact Ro.of_own h

theorem open_Slbool {H : Type} {enc : TypeId × Value → H} (W : World) (base : Nat) (v : Value) (d : DataW H) (p : List MemPlace) (_hv : Value.okWide Try.prog W .any base 42 v)
    (h : DataW.Trod enc Try.prog W 0 (fun _ => true) true 42 v d p) : ∃ l, Bv 0 W.heap.size W v l := by
  obtain ⟨a0, len0, cap0, rfl⟩ := okWide_slice Try.underlying42 _hv
  obtain ⟨fuel, hf⟩ := h
  rcases Go.Deep.open_bools Try.underlying42 Try.underlying4 (by kernel_rfl) hf with ⟨hcs, _⟩ | ⟨a, len, cap, B, hcs, _, hl, hm, _, hcell⟩
  · simp [Value.cells] at hcs
    obtain ⟨rfl, rfl, rfl⟩ := hcs
    exact ⟨[], Rv.nil _ _ _⟩
  · simp [Value.cells] at hcs
    obtain ⟨rfl, rfl, rfl⟩ := hcs
    have hlen : (bools ((List.range len0).map B)).length = len0 := by rw [bools_len]; simp
    refine ⟨(List.range len0).map B, some a, cap0, by rw [hlen], by rw [hlen]; exact hl, hm, ?_⟩
    rcases Nat.eq_zero_or_pos len0 with h0 | h0
    · exact .inl (by subst h0; rfl)
    · have c0 := hcell 0 (by omega)
      obtain ⟨b, o, s⟩ := a
      have hs : s = none := by simpa [Addr.add] using World.cell?_spot c0
      subst hs
      have hb := World.block_lt_of_cell? W _ (by rw [addr_add0] at c0; exact c0)
      refine .inr ⟨b, o, rfl, Nat.zero_le _, hb, hb, fun j x hx => ?_⟩
      have hj : j < len0 := by
        rcases Nat.lt_or_ge j len0 with h | h
        · exact h
        · rw [List.getElem?_eq_none (by rw [hlen]; exact h)] at hx; cases hx
      have hc := hcell j (by omega)
      rw [addr_add0] at hc
      rw [hc]
      unfold bools at hx
      rw [List.map_map, List.getElem?_map, List.getElem?_range hj] at hx
      exact hx
/-- the cells of a pair in a block of their own -/
def Pcell (w : World) (b : Nat) (p : Pr) : Prop := w.cell? ⟨b, 0, none⟩ = some (.int .i64 p.a) ∧ w.cell? ⟨b, 1, none⟩ = some (.int .i64 p.b) ∧ b < w.heap.size
theorem Pcell.new (w : World) (p : Pr) (T : TypeId) : Pcell (w.alloc (.cells #[.int .i64 p.a, .int .i64 p.b] T)) w.heap.size p := ⟨(World.cell?_alloc_at _ _ _ _ rfl).trans rfl, (World.cell?_alloc_at _ _ _ _ rfl).trans rfl, by simp⟩
theorem Pcell.below {w w' : World} {b : Nat} {p : Pr} (h : Pcell w b p) (hb : Below w.heap.size w w') : Pcell w' b p :=
  ⟨(hb.cell (p := ⟨b, 0, none⟩) h.2.2).trans h.1, (hb.cell (p := ⟨b, 1, none⟩) h.2.2).trans h.2.1, Nat.lt_of_lt_of_le h.2.2 hb.size⟩
theorem Pcell.lt {w : World} {b : Nat} {p : Pr} (h : Pcell w b p) : b < w.heap.size := h.2.2
theorem Pcell.of_block {w w' : World} {b : Nat} {p : Pr} (h : Pcell w b p) (e : w'.heap[b]? = w.heap[b]?) : Pcell w' b p := by
  obtain ⟨h1, h2, h3⟩ := h
  refine ⟨?_, ?_, ?_⟩
  · rw [← h1]; unfold World.cell?; rw [e]
  · rw [← h2]; unfold World.cell?; rw [e]
  · rw [Array.getElem?_eq_getElem h3] at e; exact (Array.getElem?_eq_some_iff.1 e).1
theorem Po.form {lo hi : Nat} {w : World} {v : Value} {xs : List Pr} (h : Po lo hi w v xs) : ∃ a c, v = .slice a xs.length c := h.read.form
end Go.Proofs.Ytmcjimmebbkjcaa
