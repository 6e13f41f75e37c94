/-
  The code that came in, and what is drawn of it: spec.l19New, MakeNum; the opening of a []byte. Condition: the code has at most 1048576 bytes.
-/
import Derived.Test.YtilpicahlgieiaaCur
import Derived.OpenShut
namespace Go.Proofs.Ytilpicahlgieiaa
open Go.RowKit Go.WideShapes Go.ChangeShapes
open Go

/-- the bytes that came in -/
def InBytes (W : World) (v : Value) (len : Nat) : Prop := ∃ (a : Option Addr) (cap : Nat), v = .slice a len cap ∧ len ≤ cap ∧ cap ≤ maxLen ∧
  ∀ j, j < len → ∃ cb co z, a = some ⟨cb, co, none⟩ ∧ cb < W.heap.size ∧ W.cell? ⟨cb, co + j, none⟩ = some (.int .u8 z) ∧ 0 ≤ z ∧ z ≤ 255
theorem InBytes.code {W : World} {v : Value} {len : Nat} (h : InBytes W v len) (hl : len ≤ 1048576) : CodeOk W v := by
  obtain ⟨a, cap, rfl, h1, h2, h3⟩ := h
  exact ⟨a, len, cap, rfl, hl, h1, h3⟩
theorem CodeOk.below {w w' : World} {cv : Value} {B : Nat} (h : CodeOk w cv) (hb : Below B w w') (hB : w.heap.size ≤ B) : CodeOk w' cv := by
  obtain ⟨a, len, cap, rfl, h1, h2, h3⟩ := h
  refine ⟨a, len, cap, rfl, h1, h2, fun j hj => ?_⟩
  obtain ⟨cb, co, z, e, hlt, hc, hz⟩ := h3 j hj
  exact ⟨cb, co, z, e, Nat.lt_of_lt_of_le hlt hb.size, by rw [hb.cell (p := ⟨cb, co + j, none⟩) (Nat.lt_of_lt_of_le hlt hB)]; exact hc, hz⟩
set_option maxRecDepth 100000 in
theorem open_Slbyte {H : Type} {enc : TypeId × Value → H} (W : World) (base : Nat) (v : Value) (d : DataW H) (p : List MemPlace) (hv : Value.okWide Try.prog W .any base 22 v)
    (h : DataW.Trod enc Try.prog W 0 (fun _ => true) true 22 v d p) : ∃ len, InBytes W v len := by
  obtain ⟨a0, len0, cap0, rfl⟩ := okWide_slice Try.underlying22 hv
  obtain ⟨fuel, hf⟩ := h
  rcases open_ints Try.underlying22 Try.underlying5 (by kernel_rfl) hf with ⟨hcs, _⟩ | ⟨x, l, c, zs, hcs, _, hl, hm, hz, _, hcell, hwz⟩
  · simp [Value.cells] at hcs
    obtain ⟨rfl, rfl, rfl⟩ := hcs
    exact ⟨0, none, 0, rfl, Nat.le_refl _, by decide, fun j hj => by omega⟩
  · simp [Value.cells] at hcs
    obtain ⟨rfl, rfl, rfl⟩ := hcs
    simp only [if_true] at hz
    refine ⟨len0, some x, cap0, rfl, hl, hm, fun j hj => ?_⟩
    obtain ⟨cb, co, rfl, hcc⟩ := _root_.Go.ints_at hcell (by omega)
    have hj' := hcc j (by omega)
    refine ⟨cb, co, zs.getD j 0, rfl, World.block_lt_of_cell? W _ hj', hj', ?_⟩
    have hb := range_u8 hwz j
    rw [List.getD_eq_getElem?_getD]
    exact hb

set_option maxHeartbeats 1000000 in
theorem newAt_any (W : World) (cv : Value) (n : Nat) (hn : n ≤ 1000) (hk : CodeOk W cv) :
    Calls Try.prog 14 #[cv, .int .i64 n] W fun e w' => ∃ b, e = .returned (.pointer (some ⟨b, 0, none⟩)) ∧ Cur W w' b cv := by
  have HK := Lib.hid hk
  clear hk
  go_enter Try.func14, Try.ntmps14
  go_wp2_with fail
  refine (new_any W cv HK.out).mono ?_
  rintro e w1 ⟨b, rfl, hc⟩
  have HC := Lib.hid hc; clear hc
  go_wp2_with fail
  go_loopw [6] (fun i wr => ∃ k : Nat, k ≤ n ∧ i = .int .i64 k ∧ Hid (Cur W wr b cv)) (fun i _ => n - (intOf i).toNat)
  case atStart => exact ⟨0, Nat.zero_le _, rfl, HC⟩
  case round =>
    obtain ⟨k, hk, rfl, H⟩ := hrel
    by_cases hlt : k < n
    · go_wp2_with (go_at_call 15; refine (byte_any W _ b cv HK.out H.out).mono ?_; rintro e w2 ⟨x, rfl, hx0, hx1, hc2, _⟩; have HC2 := Lib.hid hc2; clear hc2)
      go_roundw
      case rel => exact ⟨k + 1, by omega, by go_num, HC2⟩
      case measure => simp [intOf]; omega
    · go_wp2
      go_ret
      exact ⟨b, rfl, H.out⟩

set_option maxHeartbeats 1000000 in
theorem makeNum_any (W : World) (cv : Value) (n : Nat) (hn : n ≤ 1000) (hk : CodeOk W cv) :
    Calls Try.prog 4 #[cv, .int .i64 n] W fun e w' => ∃ x : Int, e = .returned (.int .i64 x) ∧ 0 ≤ x ∧ x ≤ 65535 ∧ Below W.heap.size W w' := by
  have HK := Lib.hid hk
  clear hk
  go_enter Try.func4, Try.ntmps4
  go_wp2_with fail
  refine (newAt_any W cv n hn HK.out).mono ?_
  rintro e w1 ⟨b, rfl, hc⟩
  have HC := Lib.hid hc; clear hc
  go_wp2_with fail
  refine (byte_any W w1 b cv HK.out HC.out).mono ?_
  rintro e w2 ⟨x, rfl, hx0, hx1, hc2, _⟩
  have HC2 := Lib.hid hc2; clear hc2
  go_wp2_with fail
  refine (byte_any W w2 b cv HK.out HC2.out).mono ?_
  rintro e w3 ⟨y, rfl, hy0, hy1, hc3, _⟩
  have HB := Lib.hid hc3.1; clear hc3
  go_wp2
  go_ret
  exact ⟨_, rfl, by omega, by omega, HB.out⟩
end Go.Proofs.Ytilpicahlgieiaa
