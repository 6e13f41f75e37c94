/-
  The doubt of a person: another pair with the same number (a closure over the pair and the person). No condition.
-/
import Derived.Test.YtmcjimmebbkjcaaPif
import Derived.Test.YtmcjimmebbkjcaaPie
import Derived.Test.YtmcjimmebbkjcaaZArr
import Derived.Test.YtmcjimmebbkjcaaZReg
import Derived.Deep.DeepCutAuto
namespace Go.Proofs.Ytmcjimmebbkjcaa
open Go.RowKit Go.WideShapes
open Go Go.Deep
set_option linter.unusedSimpArgs false

theorem entDoubt : EntP 63 := enters_of Try.func63 (by kernel_rfl) rfl
set_option maxRecDepth 100000 in
set_option maxHeartbeats 16000000 in
theorem doubt_any (n : FuncId) (κ : Pr → Int) (hs : SeesP n κ) (he : EntP n) (p : Pr) (b bp bw : Nat) (w : World) (hbp : Cm w bp 33 [.int .i64 p.a, .int .i64 p.b]) (hbw : Cm w bw 63 [fv n, .map (some b)]) :
    PredP 63 #[.pointer (some ⟨bp, 0, none⟩), .pointer (some ⟨bw, 0, none⟩)] (clashW κ p) w := fun W x hW => by
  show Calls Try.prog 63 #[x.v, .pointer (some ⟨bp, 0, none⟩), .pointer (some ⟨bw, 0, none⟩)] W _
  have KX := Lib.hid (fun W' => hs x W')
  have KP := Lib.hid (fun W' => hs p W')
  have hP := hbp.all hW
  have hQ := hbw.all hW
  have HC := Lib.hid (fun (h : x ≠ p) => show clashW κ p x = (κ x == κ p) by unfold clashW; rw [beq_eq_false_iff_ne.2 h]; simp)
  have HC0 := Lib.hid (fun (h : x = p) => clashW_same (f := κ) h)
  generalize clashW κ p x = R at *
  generalize κ x = kx at *
  generalize κ p = kp at *
  obtain ⟨pa, pb⟩ := p
  obtain ⟨xa, xb⟩ := x
  have hent : ∀ args w, (callFunc n args).run Try.prog w = .ok (.enter n args) w := he
  have lp := hP.lt
  have lq := hQ.lt
  clear hs he hW hbp hbw
  unfold Pr.v at *
  simp only at *
  by_cases hxp : xa = pa ∧ xb = pb
  · obtain ⟨h1, h2⟩ := hxp
    have HR := Lib.hid (HC0.out (by rw [h1, h2]))
    subst h1 h2
    have P2 := hP.alloc (.cells #[.int .i64 xa, .int .i64 xb] 33)
    have c0 := P2.cell 0
    have c1 := P2.cell 1
    simp only [List.getElem?_cons_zero, List.getElem?_cons_succ] at c0 c1
    clear P2 hP hQ HC HC0
    go_enter Try.func63, Try.ntmps63
    go_wp2
    go_quiet (fail)
    go_wp2
    go_ret
    exact ⟨by rw [HR.out]; rfl, below_drewN' (by go_grown) _⟩
  · have HR := Lib.hid (HC.out (fun e => hxp (by injection e with e1 e2; exact ⟨e1, e2⟩)))
    clear HC HC0
    go_enter Try.func63, Try.ntmps63
    go_wp2
    have hb1 : Below W.heap.size W (W.alloc (.cells #[.int .i64 xa, .int .i64 xb] 33)) := by go_grown
    have hX : Cm (W.alloc (.cells #[.int .i64 xa, .int .i64 xb] 33)) W.heap.size 33 [.int .i64 xa, .int .i64 xb] := Cm.new (cs := [.int .i64 xa, .int .i64 xb]) rfl
    have hP1 := hP.all hb1
    have hQ1 := hQ.all hb1
    generalize W.alloc (.cells #[.int .i64 xa, .int .i64 xb] 33) = w1 at *
    have HP : Hid (∀ W', Below w1.heap.size w1 W' → Cm W' W.heap.size 33 [.int .i64 xa, .int .i64 xb] ∧ Cm W' bp 33 [.int .i64 pa, .int .i64 pb] ∧ Cm W' bw 63 [fv n, .map (some b)]) := Lib.hid (fun W' hW => ⟨hX.all hW, hP1.all hW, hQ1.all hW⟩)
    have B1 := Lib.hid hb1
    clear hb1 hX hP1 hQ1 hP hQ
    refine regionL (fun W' => Below w1.heap.size w1 W') [] (by kernel_rfl) (Below.refl _ _).drew (fun hHeld => ?_)
    refine takeA (i := 0) (v := .agg #[.int .i64 xa, .int .i64 xb]) 5 rfl rfl (by kernel_rfl) (by kernel_rfl) (by kernel_rfl) (by kernel_rfl) (fun _ _ _ h => h) (Or.inl ⟨by rfl, by intro W hSw; have c1 := (HP.out _ hSw).1.cell 1; have c0 := (HP.out _ hSw).1.cell 0; go_simp⟩) hHeld ?_
    simp only [Act.put, List.setIfInBounds_toArray, List.set_cons_zero, List.set_cons_succ]
    refine takeA (i := 1) (v := .agg #[.int .i64 pa, .int .i64 pb]) 6 rfl rfl (by kernel_rfl) (by kernel_rfl) (by kernel_rfl) (by kernel_rfl) (fun _ _ _ h => h) (Or.inl ⟨by rfl, by intro W hSw; have c1 := (HP.out _ hSw).2.1.cell 1; have c0 := (HP.out _ hSw).2.1.cell 0; go_simp⟩) hHeld ?_
    simp only [Act.put, List.setIfInBounds_toArray, List.set_cons_zero, List.set_cons_succ]
    refine takeA (i := 2) (v := .bool true) 7 rfl rfl (by kernel_rfl) (by kernel_rfl) (by kernel_rfl) (by kernel_rfl) (fun _ _ _ h => h) (Or.inl ⟨by rfl, by intro W hSw; go_simp; exact fun h1 h2 => hxp ⟨h1, h2⟩⟩) hHeld ?_
    simp only [Act.put, List.setIfInBounds_toArray, List.set_cons_zero, List.set_cons_succ]
    refine takeA (i := 3) (v := .bool true) 8 rfl rfl (by kernel_rfl) (by kernel_rfl) (by kernel_rfl) (by kernel_rfl) (fun _ _ _ h => h) (Or.inl ⟨by rfl, by intro W hSw; go_simp⟩) hHeld ?_
    simp only [Act.put, List.setIfInBounds_toArray, List.set_cons_zero, List.set_cons_succ]
    refine takeA (i := 4) (v := .pointer (some ⟨bw, 0, none⟩)) 9 rfl rfl (by kernel_rfl) (by kernel_rfl) (by kernel_rfl) (by kernel_rfl) (fun _ _ _ h => h) (Or.inl ⟨by rfl, by intro W hSw; go_simp⟩) hHeld ?_
    simp only [Act.put, List.setIfInBounds_toArray, List.set_cons_zero, List.set_cons_succ]
    refine takeA (i := 5) (v := fv n) 10 rfl rfl (by kernel_rfl) (by kernel_rfl) (by kernel_rfl) (by kernel_rfl) (fun _ _ _ h => h) (Or.inl ⟨by rfl, by intro W hSw; have c1 := (HP.out _ hSw).2.2.cell 1; have c0 := (HP.out _ hSw).2.2.cell 0; go_simp⟩) hHeld ?_
    simp only [Act.put, List.setIfInBounds_toArray, List.set_cons_zero, List.set_cons_succ]
    refine takeA (i := 6) (v := .agg #[.int .i64 xa, .int .i64 xb]) 11 rfl rfl (by kernel_rfl) (by kernel_rfl) (by kernel_rfl) (by kernel_rfl) (fun _ _ _ h => h) (Or.inl ⟨by rfl, by intro W hSw; have c1 := (HP.out _ hSw).1.cell 1; have c0 := (HP.out _ hSw).1.cell 0; go_simp⟩) hHeld ?_
    simp only [Act.put, List.setIfInBounds_toArray, List.set_cons_zero, List.set_cons_succ]
    refine takeA (i := 8) (v := .pointer (some ⟨bw, 0, none⟩)) 13 rfl rfl (by kernel_rfl) (by kernel_rfl) (by kernel_rfl) (by kernel_rfl) (fun _ _ _ h => h) (Or.inl ⟨by rfl, by intro W hSw; go_simp⟩) hHeld ?_
    simp only [Act.put, List.setIfInBounds_toArray, List.set_cons_zero, List.set_cons_succ]
    refine takeA (i := 9) (v := fv n) 14 rfl rfl (by kernel_rfl) (by kernel_rfl) (by kernel_rfl) (by kernel_rfl) (fun _ _ _ h => h) (Or.inl ⟨by rfl, by intro W hSw; have c1 := (HP.out _ hSw).2.2.cell 1; have c0 := (HP.out _ hSw).2.2.cell 0; go_simp⟩) hHeld ?_
    simp only [Act.put, List.setIfInBounds_toArray, List.set_cons_zero, List.set_cons_succ]
    refine takeA (i := 10) (v := .agg #[.int .i64 pa, .int .i64 pb]) 15 rfl rfl (by kernel_rfl) (by kernel_rfl) (by kernel_rfl) (by kernel_rfl) (fun _ _ _ h => h) (Or.inl ⟨by rfl, by intro W hSw; have c1 := (HP.out _ hSw).2.1.cell 1; have c0 := (HP.out _ hSw).2.1.cell 0; go_simp⟩) hHeld ?_
    simp only [Act.put, List.setIfInBounds_toArray, List.set_cons_zero, List.set_cons_succ]
    generalize w1.drew = wd at hHeld ⊢
    unfold fv
    refine onlyL (i := 7) (by kernel_rfl) rfl (by rfl) (fun K hK => ?_)
    go_simp
    refine (KX.out _).mono ?_
    rintro e w3 ⟨rfl, hb3⟩
    have t3 : Below w1.heap.size w1 w3 := hHeld.trans (hb3.mono hHeld.size)
    clear hb3
    refine hK.out _ _ (fun _ => t3) (fun hHeld => ?_)
    have hHeld := hHeld (by decide)
    clear hK K
    try simp only [Act.put, List.setIfInBounds_toArray, List.set_cons_zero, List.set_cons_succ]
    refine onlyL (i := 11) (by kernel_rfl) rfl (by rfl) (fun K hK => ?_)
    go_simp
    refine (KP.out _).mono ?_
    rintro e w4 ⟨rfl, hb4⟩
    have t4 : Below w1.heap.size w1 w4 := t3.trans (hb4.mono t3.size)
    clear hb4
    refine hK.out _ _ (fun _ => t4) (fun hHeld => ?_)
    have hHeld := hHeld (by decide)
    clear hK K
    try simp only [Act.put, List.setIfInBounds_toArray, List.set_cons_zero, List.set_cons_succ]
    refine takeA (i := 12) (v := .bool (kx == kp)) 17 rfl rfl (by kernel_rfl) (by kernel_rfl) (by kernel_rfl) (by kernel_rfl) (fun _ _ _ h => h) (Or.inl ⟨by rfl, by intro W hSw; go_simp⟩) hHeld ?_
    simp only [Act.put, List.setIfInBounds_toArray, List.set_cons_zero, List.set_cons_succ]
    refine takeA (i := 13) (v := .bool (kx == kp)) 18 rfl rfl (by kernel_rfl) (by kernel_rfl) (by kernel_rfl) (by kernel_rfl) (fun _ _ _ h => h) (Or.inl ⟨by rfl, by intro W hSw; go_simp⟩) hHeld ?_
    simp only [Act.put, List.setIfInBounds_toArray, List.set_cons_zero, List.set_cons_succ]
    refine takeA (i := 14) (v := .bool (kx == kp)) 4 rfl rfl (by kernel_rfl) (by kernel_rfl) (by kernel_rfl) (by kernel_rfl) (fun _ _ _ h => h) (Or.inl ⟨by rfl, by intro W hSw; go_simp⟩) hHeld ?_
    simp only [Act.put, List.setIfInBounds_toArray, List.set_cons_zero, List.set_cons_succ]
    refine doneL (by kernel_rfl) ?_ _
    go_wp2
    go_ret
    exact ⟨by rw [HR.out]; rfl, B1.out.trans (t4.mono B1.out.size)⟩
end Go.Proofs.Ytmcjimmebbkjcaa
