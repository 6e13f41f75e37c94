/-
  spec.l09Agent, spec.ChainAgents. Condition of the first: the model is valid, the worlds are its own.
-/
import Derived.Test.YthjfanhhindjlaaGreatCha
import Derived.Test.YthjfanhhindjlaaGreatWks
import Derived.Test.YthjfanhhindjlaaGreatZMok
namespace Go.Proofs.YthjfanhhindjlaaGreat
open Go.RowKit Go.WideShapes
open Go Go.Deep
set_option linter.unusedSimpArgs false

/-- the first agent who confuses two worlds, or -1 -/
def agI (m : Md) (i j : Nat) : Int := if near m.blocks m.blocks.length i j then (fstA m.blocks m.blocks.length i j : Int) else -1
set_option maxRecDepth 100000 in
set_option maxHeartbeats 8000000 in
theorem specAgent_any (lo hi : Nat) (v : Value) (m : Md) (i j : Nat) (w : World) (hr : Mv lo hi w v m) (hm : mdOk m = true) (hi' : i < m.facts.length) (hj : j < m.facts.length) :
    Calls Tryz.prog 62 #[v, .int .i64 i, .int .i64 j] w fun e w' => e = .returned (.int .i64 (agI m i j)) ∧ Below w.heap.size w w' := by
  obtain ⟨hn1, hn2, p3, p4, p5, -, -, -⟩ := mdOk_parts hm
  have HLN := Lib.hid (fun k hk => (p5 k hk).1)
  have HIT : Hid (∀ k, k < m.blocks.length → near m.blocks k i j = false → ((m.blocks.getD k []).getD i 0 == (m.blocks.getD k []).getD j 0) = true → agI m i j = (k : Int)) := Lib.hid (fun k hk h hq => by
    have h1 : near m.blocks m.blocks.length i j = true := near_mono (a := k + 1) (by rw [near_succ, hq]; simp) (by omega)
    unfold agI; rw [if_pos h1, fstA_hit hk h hq])
  have HEND : Hid (near m.blocks m.blocks.length i j = false → agI m i j = -1) := Lib.hid (fun h => by unfold agI; rw [h]; rfl)
  have HNS := Lib.hid (fun k => near_succ m.blocks k i j)
  generalize agI m i j = R at *
  obtain ⟨fv, bv, rfl, hf, hb⟩ := hr
  obtain ⟨b, o, bc, rfl, q1, r1, hrow⟩ := hb.kept p3
  have HRW := Lib.hid hrow
  unfold maxLen at r1
  generalize m.facts.length = n at *
  generalize m.actual = act at *
  generalize han : m.blocks.length = an at *
  clear hf hb hm p5 hrow han
  go_enter Tryz.func62, Tryz.ntmps62
  go_wp2
  have B1 : Hid (Below w.heap.size w (w.alloc (.cells #[fv, .slice (some ⟨b, o, none⟩) an bc, .int .i64 act] 31))) := Lib.hid (by go_grown)
  generalize w.alloc (.cells #[fv, .slice (some ⟨b, o, none⟩) an bc, .int .i64 act] 31) = w1 at *
  go_loopw [12] (fun iv wr => ∃ k : Nat, k ≤ an ∧ iv = .int .i64 k ∧ Hid (near m.blocks k i j = false) ∧ Hid (Below w.heap.size w wr)) (fun iv _ => an - (intOf iv).toNat)
  case atStart => exact ⟨0, Nat.zero_le _, rfl, Lib.hid rfl, B1⟩
  case round =>
    clear B1
    obtain ⟨k, hk, rfl, HK, BR⟩ := hrel
    by_cases hlt : k < an
    · obtain ⟨u, cu, hu⟩ := HRW.out _ BR.out k hlt
      obtain ⟨ub, uo, uc, rfl, u1, u2, u3⟩ := hu.kept (by rw [HLN.out k hlt]; omega)
      rw [HLN.out k hlt] at u1 u3 cu
      have ci := u3 wr (Below.refl _ _) i hi'
      have cj := u3 wr (Below.refl _ _) j hj
      unfold maxLen at u2
      have HITk := Lib.hid (HIT.out k hlt HK.out)
      have HNk := Lib.hid (HNS.out k)
      rw [HK.out, Bool.false_or] at HNk
      obtain ⟨x, hx⟩ : ∃ x, x = (m.blocks.getD k []).getD i 0 := ⟨_, rfl⟩
      obtain ⟨y, hy⟩ : ∃ y, y = (m.blocks.getD k []).getD j 0 := ⟨_, rfl⟩
      rw [← hx] at ci HITk HNk
      rw [← hy] at cj HITk HNk
      clear hx hy hu u3
      have k0 : (0 : Int) ≤ (k : Int) := Int.natCast_nonneg _
      have kn : (k : Int) < (an : Int) := by omega
      have i0 : (0 : Int) ≤ (i : Int) := Int.natCast_nonneg _
      have i1 : (i : Int) < (n : Int) := by omega
      have j0 : (0 : Int) ≤ (j : Int) := Int.natCast_nonneg _
      have j1 : (j : Int) < (n : Int) := by omega
      obtain ⟨s, hs⟩ : ∃ s, s = (x == y) := ⟨_, rfl⟩
      rw [← hs] at HITk HNk
      have d5 := hs.symm
      clear hs
      cases s with
      | true =>
        have HQ : Hid (R = (k : Int)) := Lib.hid (HITk.out rfl)
        clear HITk HNk
        go_wp2
        go_quiet (fail)
        go_wp2
        go_ret
        exact ⟨by rw [HQ.out]; rfl, below_drewN' BR.out _⟩
      | false =>
        have HQ : Hid (near m.blocks (k + 1) i j = false) := HNk
        clear HITk HNk
        go_wp2
        go_quiet (fail)
        go_wp2
        go_roundw
        case rel => exact ⟨k + 1, by omega, by go_num, HQ, Lib.hid (below_drewN' BR.out _)⟩
        case measure => simp [intOf]; omega
    · obtain rfl : k = an := by omega
      have HQ := Lib.hid (HEND.out HK.out)
      go_wp2
      go_ret
      exact ⟨by rw [HQ.out]; rfl, BR.out⟩

end Go.Proofs.YthjfanhhindjlaaGreat
