/-
  Contracts of textOf and depthOfTerm (by the term), spec.l02Text and spec.l02Depth (by the node).
-/
import Derived.Test.YtgmpenchojnihaaGreatTermW
import Derived.Test.YtgmpenchojnihaaGreatZForm
namespace Go.Proofs.YtgmpenchojnihaaGreat
open Go.RowKit
open Go Go.Deep

theorem PartsAre.at0 {w w' : World} {v x : Value} {l : List Value} (h : PartsAre w w' v (x :: l)) : ∃ g, v = .slice (some ⟨g, 0, none⟩) (l.length + 1) (l.length + 1) ∧ w.heap.size ≤ g ∧ g < w'.heap.size ∧ w'.cell? ⟨g, 0, none⟩ = some x := by
  obtain ⟨g, rfl, h1, h2, h3⟩ := h
  exact ⟨g, rfl, h1, h2, h3 0 (by simp)⟩

set_option maxRecDepth 100000 in
set_option maxHeartbeats 4000000 in
theorem textOf_any : ∀ (t : Tm) (w : World), t.wf → t.size ≤ 100 → Calls Tryz.prog 76 #[tv t] w fun e w' => e = .returned (.string (str (txt t))) ∧ Below w.heap.size w w' := by
  intro t
  induction t with
  | leaf op n =>
    intro w h hs
    have H := Lib.hid (fun W => leafHead_any op n W h)
    have P := Lib.hid (fun W => leafParts_any op n W)
    clear hs h
    rw [show txt (.leaf op n) = headB op n from rfl]
    unfold tv
    go_enter Tryz.func76, Tryz.ntmps76
    go_wp2_with fail
    refine (H.out _).mono ?_
    rintro e w1 ⟨rfl, hb1⟩
    have B1 := Lib.hid hb1; clear hb1
    go_wp2_with fail
    refine (P.out _).mono ?_
    rintro e w2 ⟨rfl, hb2⟩
    have B2 := Lib.hid (B1.out.trans (hb2.mono B1.out.size)); clear hb2
    go_wp2
    refine wp_loop_rounds 1 ?_
    rw [rounds_succ]
    go_wp2
    go_ret
    exact ⟨rfl, B2.out⟩
  | deny a ih =>
    intro w h hs
    have hsa : a.size ≤ 100 := by simp only [Tm.size] at hs; omega
    have hwa : a.wf := h
    have H := Lib.hid (fun W => denyHead_any (tv a) W)
    have P := Lib.hid (fun W => denyParts_any a W)
    have IH := Lib.hid (fun W => ih W hwa hsa)
    have E : Hid (txt (.deny a) = headB 3 0 ++ txt a) := Lib.hid rfl
    have z1 : (str (headB 3 0)).size ≤ 2 := (headT_len (.deny a)).2
    have z2 : (str (txt a)).size ≤ 200 := by have := (txt_len a).2; rw [str_size]; omega
    rw [E.out, ← str_app]
    clear E ih hwa h hs hsa
    generalize str (headB 3 0) = s1 at *
    generalize str (txt a) = s2 at *
    have hadd := fun W => run_string_add_sum (P := Tryz.prog) W s1 s2 (by omega)
    unfold tv
    go_enter Tryz.func76, Tryz.ntmps76
    go_wp2_with fail
    refine (H.out _).mono ?_
    rintro e w1 ⟨rfl, hb1⟩
    have B1 := Lib.hid hb1; clear hb1
    go_wp2_with fail
    refine (P.out _).mono ?_
    rintro e w2 ⟨v, rfl, hp, hb2⟩
    obtain ⟨g, rfl, hg1, hg2, hc⟩ := hp.at0
    have B2 := Lib.hid (B1.out.trans (hb2.mono B1.out.size)); clear hb2 hp
    go_wp2
    refine wp_loop_rounds 2 ?_
    rw [rounds_succ]
    go_wp2_with fail
    refine (IH.out _).mono ?_
    rintro e w3 ⟨rfl, hb3⟩
    have B3 := Lib.hid (B2.out.trans (hb3.mono B2.out.size)); clear hb3
    go_wp2
    rw [rounds_succ]
    go_wp2
    go_ret
    exact ⟨rfl, B3.out⟩
  | know op n a ih =>
    intro w h hs
    have hsa : a.size ≤ 100 := by simp only [Tm.size] at hs; omega
    have hwa : a.wf := h.2.2.2
    have H := Lib.hid (fun W => knowHead_any op n (tv a) W ⟨h.1, h.2.1, h.2.2.1⟩)
    have P := Lib.hid (fun W => knowParts_any op n a W)
    have IH := Lib.hid (fun W => ih W hwa hsa)
    have E : Hid (txt (.know op n a) = headB op n ++ txt a) := Lib.hid rfl
    have z1 : (str (headB op n)).size ≤ 2 := (headT_len (.know op n a)).2
    have z2 : (str (txt a)).size ≤ 200 := by have := (txt_len a).2; rw [str_size]; omega
    rw [E.out, ← str_app]
    clear E ih hwa h hs hsa
    generalize str (headB op n) = s1 at *
    generalize str (txt a) = s2 at *
    have hadd := fun W => run_string_add_sum (P := Tryz.prog) W s1 s2 (by omega)
    unfold tv
    go_enter Tryz.func76, Tryz.ntmps76
    go_wp2_with fail
    refine (H.out _).mono ?_
    rintro e w1 ⟨rfl, hb1⟩
    have B1 := Lib.hid hb1; clear hb1
    go_wp2_with fail
    refine (P.out _).mono ?_
    rintro e w2 ⟨v, rfl, hp, hb2⟩
    obtain ⟨g, rfl, hg1, hg2, hc⟩ := hp.at0
    have B2 := Lib.hid (B1.out.trans (hb2.mono B1.out.size)); clear hb2 hp
    go_wp2
    refine wp_loop_rounds 2 ?_
    rw [rounds_succ]
    go_wp2_with fail
    refine (IH.out _).mono ?_
    rintro e w3 ⟨rfl, hb3⟩
    have B3 := Lib.hid (B2.out.trans (hb3.mono B2.out.size)); clear hb3
    go_wp2
    rw [rounds_succ]
    go_wp2
    go_ret
    exact ⟨rfl, B3.out⟩
  | joint op a b iha ihb =>
    intro w h hs
    have hsa : a.size ≤ 100 := by simp only [Tm.size] at hs; omega
    have hsb : b.size ≤ 100 := by simp only [Tm.size] at hs; omega
    have hwa : a.wf := h.2.1
    have hwb : b.wf := h.2.2
    have H := Lib.hid (fun W => jointHead_any op (tv a) (tv b) W h.1)
    have P := Lib.hid (fun W => jointParts_any op a b W)
    have IA := Lib.hid (fun W => iha W hwa hsa)
    have IB := Lib.hid (fun W => ihb W hwb hsb)
    have E : Hid (txt (.joint op a b) = headB op 0 ++ txt a ++ txt b) := Lib.hid rfl
    have z1 : (str (headB op 0)).size ≤ 2 := (headT_len (.joint op a b)).2
    have z2 : (str (txt a)).size ≤ 200 := by have := (txt_len a).2; rw [str_size]; omega
    have z3 : (str (txt b)).size ≤ 200 := by have := (txt_len b).2; rw [str_size]; omega
    rw [E.out, ← str_app, ← str_app]
    clear E iha ihb hwa hwb h hs hsa hsb
    generalize str (headB op 0) = s1 at *
    generalize str (txt a) = s2 at *
    generalize str (txt b) = s3 at *
    have hadd := fun W => run_string_add_sum (P := Tryz.prog) W s1 s2 (by omega)
    have hadd' := fun W => run_string_add_sum (P := Tryz.prog) W (s1 ++ s2) s3 (by rw [ByteArray.size_append]; omega)
    unfold tv
    go_enter Tryz.func76, Tryz.ntmps76
    go_wp2_with fail
    refine (H.out _).mono ?_
    rintro e w1 ⟨rfl, hb1⟩
    have B1 := Lib.hid hb1; clear hb1
    go_wp2_with fail
    refine (P.out _).mono ?_
    rintro e w2 ⟨v, rfl, hp, hb2⟩
    obtain ⟨g, rfl, hg1, hg2, hc⟩ := hp.at0
    obtain ⟨g', he, _, _, hcc⟩ := hp
    simp only [Value.slice.injEq, Option.some.injEq, Addr.mk.injEq, and_true] at he
    obtain ⟨rfl, _⟩ := he
    have hc' : w2.cell? ⟨g, 1, none⟩ = some (tv b) := hcc 1 (by simp)
    have B2 := Lib.hid (B1.out.trans (hb2.mono B1.out.size)); clear hb2 hcc
    go_wp2
    refine wp_loop_rounds 3 ?_
    rw [rounds_succ]
    go_wp2_with fail
    refine (IA.out _).mono ?_
    rintro e w3 ⟨rfl, hb3⟩
    rw [← hb3.cell (p := ⟨g, 1, none⟩) hg2] at hc'
    have B3 := Lib.hid (B2.out.trans (hb3.mono B2.out.size)); clear hb3 hc
    go_wp2
    rw [rounds_succ]
    go_wp2_with fail
    refine (IB.out _).mono ?_
    rintro e w4 ⟨rfl, hb4⟩
    have B4 := Lib.hid (B3.out.trans (hb4.mono B3.out.size)); clear hb4 hc'
    go_wp2
    rw [rounds_succ]
    go_wp2
    go_ret
    exact ⟨rfl, B4.out⟩
end Go.Proofs.YtgmpenchojnihaaGreat
