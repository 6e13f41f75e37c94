/-
  The walks of the laws FnExactModelOk, FnExactCountWorlds: they return true and write nothing that was there. No condition.
-/
import Derived.Test.YtdgjlocngmpbfaaSok
namespace Go.Proofs.Ytdgjlocngmpbfaa
open Go.RowKit Go.WideShapes
open Go Go.Deep

theorem Mv.form {lo hi : Nat} {w : World} {v : Value} {m : Md} (h : Mv lo hi w v m) : ∃ fa fc ba bc, v = .agg #[.slice fa m.facts.length fc, .slice ba m.blocks.length bc, .int .i64 m.actual] := by
  obtain ⟨fv, bv, rfl, hf, hb⟩ := h
  obtain ⟨fa, fc, rfl⟩ := hf.form
  obtain ⟨ba, bc, rfl, _⟩ := hb.parts
  exact ⟨fa, fc, ba, bc, rfl⟩
theorem budget_big {n : Nat} (h : 1048576 < n) : budget 1048576 n = -1 := by unfold budget; rw [if_pos (by omega)]
theorem budget_small {n : Nat} (h : n ≤ 1048576) : budget 1048576 n = 1048576 - n := by unfold budget; rw [if_neg (by omega)]

set_option maxRecDepth 100000 in
set_option maxHeartbeats 8000000 in
theorem walk_FnExactModelOk (v0 : Value) (m : Md) (w : World) (h0 : Mv 0 w.heap.size w v0 m) :
    Calls Try.prog 4 #[v0] w fun e w' => e = .returned (.bool true) ∧ Below w.heap.size w w' := by
  have KZ := Lib.hid (fun W (h : Below w.heap.size w W) => szModel_any 0 w.heap.size v0 m W (h0.keeps (Keeps.of_all h)))
  have KT := Lib.hid (fun W (h : Below w.heap.size w W) => toModel_any 0 w.heap.size v0 m W (h0.keeps (Keeps.of_all h)) h.size)
  obtain ⟨fv, bv, rfl, hf, hb⟩ := h0
  clear hf hb
  by_cases hbig : 1048576 < msize m + m.blocks.length
  · rw [budget_big hbig] at KZ
    clear KT hbig
    go_enter Try.func4, Try.ntmps4
    go_wp2_with fail
    refine (KZ.out _ (by go_grown)).mono ?_
    rintro e w1 ⟨rfl, hb1⟩
    have B1 : Hid (Below w.heap.size w w1) := Lib.hid (Below.trans (by go_grown) (hb1.mono (by simp)))
    clear hb1
    go_wp2
    go_ret
    exact ⟨rfl, B1.out⟩
  have hsm : msize m + m.blocks.length ≤ 1048576 := by omega
  rw [budget_small hsm] at KZ
  have hbn : (0 : Int) ≤ 1048576 - ((msize m + m.blocks.length : Nat) : Int) := by omega
  have HSM := Lib.hid hsm
  generalize (1048576 : Int) - ((msize m + m.blocks.length : Nat) : Int) = left at *
  have KS := Lib.hid (fun lo hi v W h => specOk_any lo hi v m W h)
  have KI := Lib.hid (fun lo hi v W h hh => implOk_m lo hi v m W h hh)
  have KE := Lib.hid (fun lo hi lo' hi' u v W h h' => eqModel_same lo hi lo' hi' u v m W h h')
  rw [specOk_mdOk] at KS
  clear hbig hsm
  generalize mdOk m = ok at *
  go_enter Try.func4, Try.ntmps4
  go_wp2_with fail
  refine (KZ.out _ (by go_grown)).mono ?_
  rintro e w1 ⟨rfl, hb1⟩
  have B1 : Hid (Below w.heap.size w w1) := Lib.hid (Below.trans (by go_grown) (hb1.mono (by simp)))
  have A1 := Lib.hid (Mcell.below (b := w.heap.size) (Mcell.new rfl) hb1)
  clear hb1
  obtain ⟨a0, a1, a2, _⟩ := A1.out
  go_wp2_with fail
  refine (KT.out _ B1.out HSM.out).mono ?_
  rintro e w2 ⟨v2, rfl, hi2, hb2⟩
  have M2 := Lib.hid hi2.read
  have A2 := Lib.hid (A1.out.below hb2)
  have B2 := Lib.hid (B1.out.trans (hb2.mono B1.out.size))
  clear hi2 hb2 a0 a1 a2
  go_wp2_with fail
  refine (KS.out _ _ _ _ M2.out).mono ?_
  rintro e w3 ⟨rfl, hb3⟩
  have A3 := Lib.hid (A2.out.below hb3)
  have B3 := Lib.hid (B2.out.trans (hb3.mono B2.out.size))
  clear hb3 M2
  obtain ⟨a0, a1, a2, _⟩ := A3.out
  go_wp2_with fail
  refine (KT.out _ B3.out HSM.out).mono ?_
  rintro e w4 ⟨v4, rfl, hi4, hb4⟩
  have X4 := Lib.hid hi4.read
  have A4 := Lib.hid (A3.out.below hb4)
  have B4 := Lib.hid (B3.out.trans (hb4.mono B3.out.size))
  clear hi4 hb4 a0 a1 a2
  obtain ⟨fa, fc, ba, bc, e4⟩ := X4.out.form
  subst e4
  go_wp2_with fail
  have Y5 := Lib.hid (Mcell.new (w := w4) (T := 26) (b := w4.heap.size) (fv := .slice fa m.facts.length fc) (bv := .slice ba m.blocks.length bc) (n := m.actual) rfl)
  have B5' : Below w4.heap.size w4 (w4.alloc (.cells #[.slice fa m.facts.length fc, .slice ba m.blocks.length bc, .int .i64 m.actual] 26)) := by go_grown
  have X5 := Lib.hid (X4.out.keeps (Keeps.of_all B5'))
  have A5 := Lib.hid (A4.out.below B5')
  have B5 := Lib.hid (B4.out.trans (B5'.mono B4.out.size))
  have hs5 : w4.heap.size ≤ (w4.alloc (.cells #[.slice fa m.facts.length fc, .slice ba m.blocks.length bc, .int .i64 m.actual] 26)).heap.size := B5'.size
  clear B5'
  refine (KI.out _ _ _ _ X5.out hs5).mono ?_
  rintro e w6 ⟨rfl, hb6⟩
  have X6 := Lib.hid (X5.out.keeps (Keeps.of_all hb6))
  have A6 := Lib.hid (A5.out.below hb6)
  have Y6 := Lib.hid (Y5.out.below hb6)
  have B6 := Lib.hid (B5.out.trans (hb6.mono B5.out.size))
  clear hb6 hs5 X5 Y5 A5
  go_wp2
  refine wp_region_held_drew (S := fun w' => Below w6.heap.size w6 w') (by kernel_rfl) (Below.refl _ _).drew (fun hHeld => ?_)
  refine wpAnyH_take (i := 0) (v := .agg #[.slice fa m.facts.length fc, .slice ba m.blocks.length bc, .int .i64 m.actual]) rfl (by kernel_rfl) (by kernel_rfl) (by kernel_rfl) (fun _ _ _ h => h) (Or.inl ⟨by rfl, by intro W hSw; obtain ⟨c0, c1, c2, _⟩ := Y6.out.below hSw; go_simp⟩) hHeld ?_
  simp only [Act.put]
  refine wpAnyH_take (i := 1) (v := .agg #[fv, bv, .int .i64 m.actual]) rfl (by kernel_rfl) (by kernel_rfl) (by kernel_rfl) (fun _ _ _ h => h) (Or.inl ⟨by rfl, by intro W hSw; obtain ⟨c0, c1, c2, _⟩ := A6.out.below hSw; go_simp⟩) hHeld ?_
  simp only [Act.put]
  refine wpAnyH_ready (rs := [2]) (by kernel_rfl) (by simp) ?_
  refine AllReadyH.cons rfl (fun K hK => ?_) AllReadyH.nil
  go_simp
  refine (KT.out _ (B6.out.trans (hHeld.mono B6.out.size)) HSM.out).mono ?_
  rintro e w7 ⟨v7, rfl, hi7, hb7⟩
  have hB7 : Below w6.heap.size w6 w7 := hHeld.trans (hb7.mono hHeld.size)
  have M7 := Lib.hid hi7.read
  clear hi7 hb7 hHeld
  refine hK.out _ _ hB7 (fun hHeld => ?_)
  clear hK K
  refine wpAnyH_ready (rs := [3]) (by kernel_rfl) (by simp) ?_
  refine AllReadyH.cons rfl (fun K hK => ?_) AllReadyH.nil
  go_simp
  refine (KE.out _ _ _ _ _ _ _ (X6.out.keeps (Keeps.of_all hB7)) M7.out).mono ?_
  rintro e w8 ⟨rfl, hb8⟩
  have hB8 : Below w6.heap.size w6 w8 := hB7.trans (hb8.mono hB7.size)
  clear hB7 hb8 hHeld
  refine hK.out _ _ hB8 (fun hHeld => ?_)
  clear hK K
  refine wpAnyH_take (i := 4) (v := .bool false) rfl (by kernel_rfl) (by kernel_rfl) (by kernel_rfl) (fun _ _ _ h => h) (Or.inl ⟨by rfl, by intro w hSw; go_simp⟩) hHeld ?_
  simp only [Act.put]
  refine wpAnyH_done (by kernel_rfl) ?_ _
  have B8 := Lib.hid (B6.out.trans (hB8.mono B6.out.size))
  clear hB8 hHeld
  go_wp2
  go_ret
  exact ⟨rfl, B8.out⟩

set_option maxRecDepth 100000 in
set_option maxHeartbeats 8000000 in
theorem walk_FnExactCountWorlds (v0 : Value) (m : Md) (w : World) (h0 : Mv 0 w.heap.size w v0 m) :
    Calls Try.prog 5 #[v0] w fun e w' => e = .returned (.bool true) ∧ Below w.heap.size w w' := by
  have KZ := Lib.hid (fun W (h : Below w.heap.size w W) => szModel_any 0 w.heap.size v0 m W (h0.keeps (Keeps.of_all h)))
  have KT := Lib.hid (fun W (h : Below w.heap.size w W) => toModel_any 0 w.heap.size v0 m W (h0.keeps (Keeps.of_all h)) h.size)
  obtain ⟨fv, bv, rfl, hf, hb⟩ := h0
  clear hf hb
  by_cases hbig : 1048576 < msize m + m.blocks.length
  · rw [budget_big hbig] at KZ
    clear KT hbig
    go_enter Try.func5, Try.ntmps5
    go_wp2_with fail
    refine (KZ.out _ (by go_grown)).mono ?_
    rintro e w1 ⟨rfl, hb1⟩
    have B1 : Hid (Below w.heap.size w w1) := Lib.hid (Below.trans (by go_grown) (hb1.mono (by simp)))
    clear hb1
    go_wp2
    go_ret
    exact ⟨rfl, B1.out⟩
  have hsm : msize m + m.blocks.length ≤ 1048576 := by omega
  rw [budget_small hsm] at KZ
  have hbn : (0 : Int) ≤ 1048576 - ((msize m + m.blocks.length : Nat) : Int) := by omega
  have HSM := Lib.hid hsm
  generalize (1048576 : Int) - ((msize m + m.blocks.length : Nat) : Int) = left at *
  have KS := Lib.hid (fun lo hi v W h => specCount_any lo hi v m W h)
  have KI := Lib.hid (fun lo hi v W h hh => implCount_any lo hi v m W h hh)
  have KE := Lib.hid (fun lo hi lo' hi' u v W h h' => eqModel_same lo hi lo' hi' u v m W h h')
  clear hbig hsm
  generalize (if specOk m then m.facts.length else 0) = ok at *
  go_enter Try.func5, Try.ntmps5
  go_wp2_with fail
  refine (KZ.out _ (by go_grown)).mono ?_
  rintro e w1 ⟨rfl, hb1⟩
  have B1 : Hid (Below w.heap.size w w1) := Lib.hid (Below.trans (by go_grown) (hb1.mono (by simp)))
  have A1 := Lib.hid (Mcell.below (b := w.heap.size) (Mcell.new rfl) hb1)
  clear hb1
  obtain ⟨a0, a1, a2, _⟩ := A1.out
  go_wp2_with fail
  refine (KT.out _ B1.out HSM.out).mono ?_
  rintro e w2 ⟨v2, rfl, hi2, hb2⟩
  have M2 := Lib.hid hi2.read
  have A2 := Lib.hid (A1.out.below hb2)
  have B2 := Lib.hid (B1.out.trans (hb2.mono B1.out.size))
  clear hi2 hb2 a0 a1 a2
  go_wp2_with fail
  refine (KS.out _ _ _ _ M2.out).mono ?_
  rintro e w3 ⟨rfl, hb3⟩
  have A3 := Lib.hid (A2.out.below hb3)
  have B3 := Lib.hid (B2.out.trans (hb3.mono B2.out.size))
  clear hb3 M2
  obtain ⟨a0, a1, a2, _⟩ := A3.out
  go_wp2_with fail
  refine (KT.out _ B3.out HSM.out).mono ?_
  rintro e w4 ⟨v4, rfl, hi4, hb4⟩
  have X4 := Lib.hid hi4.read
  have A4 := Lib.hid (A3.out.below hb4)
  have B4 := Lib.hid (B3.out.trans (hb4.mono B3.out.size))
  clear hi4 hb4 a0 a1 a2
  obtain ⟨fa, fc, ba, bc, e4⟩ := X4.out.form
  subst e4
  go_wp2_with fail
  have Y5 := Lib.hid (Mcell.new (w := w4) (T := 26) (b := w4.heap.size) (fv := .slice fa m.facts.length fc) (bv := .slice ba m.blocks.length bc) (n := m.actual) rfl)
  have B5' : Below w4.heap.size w4 (w4.alloc (.cells #[.slice fa m.facts.length fc, .slice ba m.blocks.length bc, .int .i64 m.actual] 26)) := by go_grown
  have X5 := Lib.hid (X4.out.keeps (Keeps.of_all B5'))
  have A5 := Lib.hid (A4.out.below B5')
  have B5 := Lib.hid (B4.out.trans (B5'.mono B4.out.size))
  have hs5 : w4.heap.size ≤ (w4.alloc (.cells #[.slice fa m.facts.length fc, .slice ba m.blocks.length bc, .int .i64 m.actual] 26)).heap.size := B5'.size
  clear B5'
  refine (KI.out _ _ _ _ X5.out hs5).mono ?_
  rintro e w6 ⟨rfl, hb6⟩
  have X6 := Lib.hid (X5.out.keeps (Keeps.of_all hb6))
  have A6 := Lib.hid (A5.out.below hb6)
  have Y6 := Lib.hid (Y5.out.below hb6)
  have B6 := Lib.hid (B5.out.trans (hb6.mono B5.out.size))
  clear hb6 hs5 X5 Y5 A5
  go_wp2
  refine wp_region_held_drew (S := fun w' => Below w6.heap.size w6 w') (by kernel_rfl) (Below.refl _ _).drew (fun hHeld => ?_)
  refine wpAnyH_take (i := 0) (v := .agg #[.slice fa m.facts.length fc, .slice ba m.blocks.length bc, .int .i64 m.actual]) rfl (by kernel_rfl) (by kernel_rfl) (by kernel_rfl) (fun _ _ _ h => h) (Or.inl ⟨by rfl, by intro W hSw; obtain ⟨c0, c1, c2, _⟩ := Y6.out.below hSw; go_simp⟩) hHeld ?_
  simp only [Act.put]
  refine wpAnyH_take (i := 1) (v := .agg #[fv, bv, .int .i64 m.actual]) rfl (by kernel_rfl) (by kernel_rfl) (by kernel_rfl) (fun _ _ _ h => h) (Or.inl ⟨by rfl, by intro W hSw; obtain ⟨c0, c1, c2, _⟩ := A6.out.below hSw; go_simp⟩) hHeld ?_
  simp only [Act.put]
  refine wpAnyH_ready (rs := [2]) (by kernel_rfl) (by simp) ?_
  refine AllReadyH.cons rfl (fun K hK => ?_) AllReadyH.nil
  go_simp
  refine (KT.out _ (B6.out.trans (hHeld.mono B6.out.size)) HSM.out).mono ?_
  rintro e w7 ⟨v7, rfl, hi7, hb7⟩
  have hB7 : Below w6.heap.size w6 w7 := hHeld.trans (hb7.mono hHeld.size)
  have M7 := Lib.hid hi7.read
  clear hi7 hb7 hHeld
  refine hK.out _ _ hB7 (fun hHeld => ?_)
  clear hK K
  refine wpAnyH_ready (rs := [3]) (by kernel_rfl) (by simp) ?_
  refine AllReadyH.cons rfl (fun K hK => ?_) AllReadyH.nil
  go_simp
  refine (KE.out _ _ _ _ _ _ _ (X6.out.keeps (Keeps.of_all hB7)) M7.out).mono ?_
  rintro e w8 ⟨rfl, hb8⟩
  have hB8 : Below w6.heap.size w6 w8 := hB7.trans (hb8.mono hB7.size)
  clear hB7 hb8 hHeld
  refine hK.out _ _ hB8 (fun hHeld => ?_)
  clear hK K
  refine wpAnyH_take (i := 4) (v := .bool false) rfl (by kernel_rfl) (by kernel_rfl) (by kernel_rfl) (fun _ _ _ h => h) (Or.inl ⟨by rfl, by intro w hSw; go_simp⟩) hHeld ?_
  simp only [Act.put]
  refine wpAnyH_done (by kernel_rfl) ?_ _
  have B8 := Lib.hid (B6.out.trans (hB8.mono B6.out.size))
  clear hB8 hHeld
  go_wp2
  go_ret
  exact ⟨rfl, B8.out⟩
end Go.Proofs.Ytdgjlocngmpbfaa
