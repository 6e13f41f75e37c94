/-
  Contract of spec.MakeModel: the model that is drawn is valid and owned. Condition: the code has at most 1048576 bytes; 7 worlds are asked for.
-/
import Derived.Test.YtmjmehbkeipliaaDrw
namespace Go.Proofs.Ytmjmehbkeipliaa
open Go.RowKit Go.WideShapes
open Go Go.Deep
set_option linter.unusedSimpArgs false

set_option maxRecDepth 100000 in
set_option maxHeartbeats 16000000 in
theorem makeModel_any (W : World) (cv : Value) (n q : Nat) (hn : n ≤ 1000) (hq : q = 5 ∨ q = 6 ∨ q = 7) (hk : CodeOk W cv) :
    Calls Try.prog 24 #[cv, .int .i64 n, .int .i64 q] W fun e w' => ∃ v m, e = .returned v ∧ Mo W.heap.size w'.heap.size w' v m ∧ drawnM m q ∧ Below W.heap.size W w' := by
  have HK := Lib.hid hk
  clear hk
  have hq1 : (1 : Int) ≤ (q : Int) := by omega
  have hq7 : (q : Int) ≤ 7 := by omega
  go_enter Try.func24, Try.ntmps24
  go_wp2_with fail
  have m0 : Mcell (W.alloc (.cells #[.slice none 0 0, .slice none 0 0, .int .i64 0] 28)) W.heap.size (.slice none 0 0) (.slice none 0 0) 0 := Mcell.new rfl
  have b0 : Below W.heap.size W (W.alloc (.cells #[.slice none 0 0, .slice none 0 0, .int .i64 0] 28)) := by go_grown
  have k0 := HK.out.below b0 (Nat.le_refl _)
  generalize W.alloc (.cells #[.slice none 0 0, .slice none 0 0, .int .i64 0] 28) = w0 at *
  have M0 := Lib.hid m0
  have B0 := Lib.hid b0
  have K0 := Lib.hid k0
  have lt0 : W.heap.size < w0.heap.size := m0.lt
  clear m0 b0 k0 HK
  refine (newAt_any w0 cv n hn K0.out).mono ?_
  rintro e w1 ⟨b, rfl, hc⟩
  have C1 := Lib.hid hc
  have hbb : w0.heap.size ≤ b := hc.2.1
  have s1 : w0.heap.size ≤ w1.heap.size := hc.1.size
  have M1 := Lib.hid (M0.out.below hc.1)
  have B1 := Lib.hid (B0.out.trans (hc.1.mono B0.out.size))
  clear hc M0 B0
  go_wp2_with fail
  refine (draw_any w0 w1 b cv q (by omega) (by omega) K0.out C1.out).mono ?_
  rintro e w2 ⟨v, m, rfl, hmo, hdr, hc2, hg2⟩
  have M2 := Lib.hid (M1.out.of_block (hg2.block _ M1.out.lt (by simp; omega)))
  have O2 := Lib.hid hmo
  have D2 := Lib.hid hdr
  have s2 : w1.heap.size ≤ w2.heap.size := hg2.size
  have B2 : Hid (Below W.heap.size W w2) := Lib.hid (Below.trans (B1.out.mono (Nat.le_refl _)) ⟨hg2.os, hg2.tape, hg2.output, hg2.size, fun k hk => hg2.block k (by omega) (by simp; omega)⟩)
  clear hmo hdr hc2 hg2 C1 M1 B1
  obtain ⟨fa, fc, ba, bc, e3⟩ := O2.out.read.form
  subst e3
  obtain ⟨m0, m1, m2, m3, m4, m5⟩ := M2.out
  go_wp2
  obtain ⟨o3, b3, m3⟩ := ans_put M2.out O2.out (by omega) (Nat.le_refl _) (Nat.le_refl _) B2.out
  refine bodyPost_ret (results_mid1 Try.results24 _ _ W.heap.size _ _ rfl m3.range Try.underlying28 rfl Try.sizeMd) rfl ?_
  exact ⟨_, m, rfl, o3, D2.out, b3⟩
end Go.Proofs.Ytmjmehbkeipliaa
