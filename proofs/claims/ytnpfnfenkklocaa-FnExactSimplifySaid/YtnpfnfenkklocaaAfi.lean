/-
  Contract of impl.after: the rewritten announcement of one linked formula before another. Conditions: neither announcements nor common knowledge in the second one; at most 40 nodes in each.
-/
import Derived.Test.YtnpfnfenkklocaaLki
import Derived.Test.YtnpfnfenkklocaaRwm
import Derived.Test.YtnpfnfenkklocaaZReg
namespace Go.Proofs.Ytnpfnfenkklocaa
open Go.RowKit Go.WideShapes
open Go Go.Deep
set_option linter.unusedSimpArgs false

/-- the cells of a linked formula's node, as long as nothing old is changed -/
theorem Lk.cells {lo : Nat} {w : World} {t : Tm} {v : Value} (h : Lk lo w t v) : ∃ b sl, v = .pointer (some ⟨b, 0, none⟩) ∧ b < w.heap.size ∧ (∀ W, Below w.heap.size w W → W.cell? ⟨b, 0, none⟩ = some (.int .i64 t.op) ∧ W.cell? ⟨b, 1, none⟩ = some (.int .i64 t.num) ∧ W.cell? ⟨b, 2, none⟩ = some sl) ∧
    ∃ us, Rv lo w.heap.size w sl us ∧ LkParts lo w t.parts us := by
  obtain ⟨us, ⟨b, sl, e, h1, h2, c0, c1, c2, c3, hr⟩, hp⟩ := h.node
  exact ⟨b, sl, e, h2, fun W hW => ⟨(hW.cell (p := ⟨b, 0, none⟩) h2).trans c0, (hW.cell (p := ⟨b, 1, none⟩) h2).trans c1, (hW.cell (p := ⟨b, 2, none⟩) h2).trans c2⟩, us, hr, hp⟩
theorem Lk.part1 {lo : Nat} {w : World} {t a : Tm} {v : Value} (h : Lk lo w t v) (hp : t.parts = [a]) : ∃ b g o c u, v = .pointer (some ⟨b, 0, none⟩) ∧ b < w.heap.size ∧ g < w.heap.size ∧ 1 ≤ c ∧ c ≤ maxLen ∧
    (∀ W, Below w.heap.size w W → W.cell? ⟨b, 0, none⟩ = some (.int .i64 t.op) ∧ W.cell? ⟨b, 1, none⟩ = some (.int .i64 t.num) ∧ W.cell? ⟨b, 2, none⟩ = some (.slice (some ⟨g, o, none⟩) 1 c) ∧ W.cell? ⟨g, o, none⟩ = some u) ∧ Lk lo w a u := by
  obtain ⟨b, sl, e, h2, hc, us, hr, hps⟩ := h.cells
  rw [hp] at hps
  obtain ⟨u, us', rfl, hu, rfl⟩ := hps
  obtain ⟨g, o, c, rfl, c1, c2, g1, g2, g3⟩ := hr.one
  exact ⟨b, g, o, c, u, e, h2, g2, c1, c2, fun W hW => ⟨(hc W hW).1, (hc W hW).2.1, (hc W hW).2.2, (hW.cell (p := ⟨g, o, none⟩) g2).trans g3⟩, hu⟩
theorem Lk.part2 {lo : Nat} {w : World} {t a a' : Tm} {v : Value} (h : Lk lo w t v) (hp : t.parts = [a, a']) : ∃ b g o c u u', v = .pointer (some ⟨b, 0, none⟩) ∧ b < w.heap.size ∧ g < w.heap.size ∧ 2 ≤ c ∧ c ≤ maxLen ∧
    (∀ W, Below w.heap.size w W → W.cell? ⟨b, 0, none⟩ = some (.int .i64 t.op) ∧ W.cell? ⟨b, 1, none⟩ = some (.int .i64 t.num) ∧ W.cell? ⟨b, 2, none⟩ = some (.slice (some ⟨g, o, none⟩) 2 c) ∧ W.cell? ⟨g, o, none⟩ = some u ∧ W.cell? ⟨g, o + 1, none⟩ = some u') ∧ Lk lo w a u ∧ Lk lo w a' u' := by
  obtain ⟨b, sl, e, h2, hc, us, hr, hps⟩ := h.cells
  rw [hp] at hps
  obtain ⟨u, us', rfl, hu, u', us'', rfl, hu', rfl⟩ := hps
  obtain ⟨g, o, c, rfl, c1, c2, g1, g2, g3, g4⟩ := hr.two
  exact ⟨b, g, o, c, u, u', e, h2, g2, c1, c2, fun W hW => ⟨(hc W hW).1, (hc W hW).2.1, (hc W hW).2.2, (hW.cell (p := ⟨g, o, none⟩) g2).trans g3, (hW.cell (p := ⟨g, o + 1, none⟩) g2).trans g4⟩, hu, hu'⟩

theorem newKn_any (lo : Nat) (op n : Int) (sl u : Value) (a : Tm) (w : World) (hlo : lo ≤ w.heap.size) (hr : Rv lo w.heap.size w sl [u]) (hu : Lk lo w a u) (hs : a.size ≤ 140737488355328) :
    Calls Try.prog 78 #[.int .i64 op, .int .i64 n, sl] w (LkAns lo w (.know op n a)) :=
  (newLk_1 lo op n sl u a w hlo hr hu hs).mono fun _ _ ⟨b, he, ⟨h1, h2⟩, hb⟩ => ⟨b, he, ⟨u, h1, h2⟩, hb⟩

set_option maxRecDepth 100000 in
set_option maxHeartbeats 16000000 in
theorem after_any (lo : Nat) (a : Tm) (v : Value) (ha : a.size ≤ 40) : ∀ (c : Tm) (v' : Value) (w : World), lo ≤ w.heap.size → Lk lo w a v → Lk lo w c v' → quietT c → c.size ≤ 40 →
    Calls Try.prog 54 #[v, v'] w (LkAns lo w (pushT a c)) := by
  intro c
  induction c with
  | leaf op n =>
    intro v' w hlo h h' hq hs
    have HI := Lib.hid (implies_any lo v v' a (.leaf op n) w hlo h h' (by simp only [Tm.size]; omega))
    unfold LkAns at HI
    obtain ⟨b, sl, rfl, hbl, hc, -⟩ := h'.cells
    have H' := Lib.hid h'
    obtain ⟨ba, rfl, -⟩ := h.ptr
    have c0 := (hc w (Below.refl _ _)).1
    clear hc h h' hlo hs
    rcases hq with rfl | ⟨rfl, rfl⟩
    · rw [show pushT a (.leaf 1 n) = .deny (.joint 4 a (.deny (.leaf 1 n))) from if_pos rfl]
      rw [show (Tm.leaf 1 n).op = 1 from rfl] at c0
      go_enter Try.func54, Try.ntmps54
      go_wp2_with fail
      refine HI.out.mono ?_
      rintro e w1 ⟨b1, rfl, hl, hb1⟩
      have H1 := Lib.hid hl
      have B1 := Lib.hid hb1
      clear hl hb1 c0
      go_wp2
      go_ret
      exact ⟨_, rfl, H1.out, B1.out⟩
    · rw [show pushT a (.leaf 2 0) = .leaf 2 0 from if_neg (by decide)]
      rw [show (Tm.leaf 2 0).op = 2 from rfl] at c0
      clear HI
      go_enter Try.func54, Try.ntmps54
      go_wp2
      go_ret
      exact ⟨_, rfl, H'.out, Below.refl _ _⟩
  | deny c ih =>
    intro v' w hlo h h' hq hs
    obtain ⟨b, g, o, cc, u, rfl, hbl, hgl, hc1, hc2, hcs, hu⟩ := h'.part1 (a := c) rfl
    unfold maxLen at hc2
    have hsc : c.size ≤ 40 := by simp only [Tm.size] at hs; omega
    have hpb := push_big (a := a) (c := c) ha hsc
    have KI := Lib.hid (ih u w hlo h hu hq hsc)
    have KA := Lib.hid (fun p W (hW : Below w.heap.size w W) hp => and_any lo v p a (pushT a c) W (Nat.le_trans hlo hW.size) (h.below hW) hp (by omega) hpb)
    have hsz : (Tm.joint 4 a (pushT a c)).size ≤ 140737488355328 := by have := push_big (a := a) (c := .deny c) ha hs; simp only [pushT, Tm.size] at this ⊢; omega
    have KD := Lib.hid (fun p W (hW : Below w.heap.size w W) hp => denied_any lo p (.joint 4 a (pushT a c)) W (Nat.le_trans hlo hW.size) hp hsz)
    unfold LkAns at KI KA KD
    obtain ⟨ba, rfl, -⟩ := h.ptr
    obtain ⟨bu, rfl, -⟩ := hu.ptr
    rw [show pushT a (.deny c) = .deny (.joint 4 a (pushT a c)) from rfl]
    have HC := Lib.hid hcs
    obtain ⟨c0, c1, c2, c3⟩ := hcs w (Below.refl _ _)
    rw [show (Tm.deny c).op = 3 from rfl] at c0
    clear hcs h h' hu ih hlo hs hsc hpb hsz hq
    go_enter Try.func54, Try.ntmps54
    go_wp2_with fail
    refine KI.out.mono ?_
    rintro e w1 ⟨b1, rfl, hl, hb1⟩
    have H1 := Lib.hid hl
    have B1 := Lib.hid hb1
    clear hl hb1 c0 c1 c2 c3
    have c0 := (HC.out w1 B1.out).1
    rw [show (Tm.deny c).op = 3 from rfl] at c0
    go_wp2_with fail
    refine (KA.out _ _ B1.out H1.out).mono ?_
    rintro e w2 ⟨b2, rfl, hl, hb2⟩
    have H2 := Lib.hid hl
    have B2 := Lib.hid (B1.out.trans (hb2.mono B1.out.size))
    clear hl hb2 c0
    go_wp2_with fail
    refine (KD.out _ _ B2.out H2.out).mono ?_
    rintro e w3 ⟨b3, rfl, hl, hb3⟩
    have H3 := Lib.hid hl
    have B3 := Lib.hid (B2.out.trans (hb3.mono B2.out.size))
    clear hl hb3
    go_wp2
    go_ret
    exact ⟨_, rfl, H3.out, B3.out⟩
  | joint op c d ihc ihd =>
    intro v' w hlo h h' hq hs
    obtain ⟨rfl, hqc, hqd⟩ := hq
    obtain ⟨b, g, o, cc, u, u', rfl, hbl, hgl, hc1, hc2, hcs, hu, hu'⟩ := h'.part2 (a := c) (a' := d) rfl
    unfold maxLen at hc2
    have hsc : c.size ≤ 40 := by simp only [Tm.size] at hs; omega
    have hsd : d.size ≤ 40 := by simp only [Tm.size] at hs; omega
    have hpc := push_big (a := a) (c := c) ha hsc
    have hpd := push_big (a := a) (c := d) ha hsd
    have KI := Lib.hid (ihc u w hlo h hu hqc hsc)
    have KJ := Lib.hid (fun W (hW : Below w.heap.size w W) => ihd u' W (Nat.le_trans hlo hW.size) (h.below hW) (hu'.below hW) hqd hsd)
    have KA := Lib.hid (fun p q W (hW : Below w.heap.size w W) hp hq => and_any lo p q (pushT a c) (pushT a d) W (Nat.le_trans hlo hW.size) hp hq hpc hpd)
    unfold LkAns at KI KJ KA
    obtain ⟨ba, rfl, -⟩ := h.ptr
    obtain ⟨bu, rfl, -⟩ := hu.ptr
    obtain ⟨bu', rfl, -⟩ := hu'.ptr
    rw [show pushT a (.joint 4 c d) = .joint 4 (pushT a c) (pushT a d) from rfl]
    have HC := Lib.hid hcs
    obtain ⟨c0, c1, c2, c3, c4⟩ := hcs w (Below.refl _ _)
    rw [show (Tm.joint 4 c d).op = 4 from rfl] at c0
    clear hcs h h' hu hu' ihc ihd hlo hs hsc hsd hpc hpd hqc hqd
    go_enter Try.func54, Try.ntmps54
    go_wp2_with fail
    refine KI.out.mono ?_
    rintro e w1 ⟨b1, rfl, hl, hb1⟩
    have H1 := Lib.hid hl
    have B1 := Lib.hid hb1
    clear hl hb1 c0 c1 c2 c3 c4
    obtain ⟨c0, c1, c2, c3, c4⟩ := HC.out w1 B1.out
    rw [show (Tm.joint 4 c d).op = 4 from rfl] at c0
    go_wp2_with fail
    refine (KJ.out _ B1.out).mono ?_
    rintro e w2 ⟨b2, rfl, hl, hb2⟩
    have H2 := Lib.hid hl
    have H1' := Lib.hid (H1.out.below hb2)
    have B2 := Lib.hid (B1.out.trans (hb2.mono B1.out.size))
    clear hl hb2 c0 c1 c2 c3 c4
    go_wp2_with fail
    refine (KA.out _ _ _ B2.out H1'.out H2.out).mono ?_
    rintro e w3 ⟨b3, rfl, hl, hb3⟩
    have H3 := Lib.hid hl
    have B3 := Lib.hid (B2.out.trans (hb3.mono B2.out.size))
    clear hl hb3
    go_wp2
    go_ret
    exact ⟨_, rfl, H3.out, B3.out⟩
  | know op n c ih =>
    intro v' w hlo h h' hq hs
    obtain ⟨hop, hqc⟩ := hq
    obtain ⟨b, g, o, cc, u, rfl, hbl, hgl, hc1, hc2, hcs, hu⟩ := h'.part1 (a := c) rfl
    unfold maxLen at hc2
    have hsc : c.size ≤ 40 := by simp only [Tm.size] at hs; omega
    have hpb := push_size (a := a) ha (.know op n c)
    have hpc := push_big (a := a) (c := c) ha hsc
    have hpw := push_big (a := a) (c := .know op n c) ha hs
    have KI := Lib.hid (ih u w hlo h hu hqc hsc)
    have hpn : ∀ k, (Tm.know k n (pushT a c)).size ≤ 140737488355328 := fun k => by
      have h1 := push_size (a := a) ha c
      have h2 : 2 ^ c.size ≤ 2 ^ 39 := Nat.pow_le_pow_right (by decide) (by simp only [Tm.size] at hs; omega)
      have h3 : (2 : Nat) ^ 39 = 549755813888 := by decide
      simp only [Tm.size]; omega
    have hps : (pushT a c).size ≤ 54975581388800 := by
      have h1 := push_size (a := a) ha c
      have h2 : 2 ^ c.size ≤ 2 ^ 39 := Nat.pow_le_pow_right (by decide) (by simp only [Tm.size] at hs; omega)
      have h3 : (2 : Nat) ^ 39 = 549755813888 := by decide
      omega
    have KN := Lib.hid (fun k sl p t W (hW : Below w.heap.size w W) hr hp ht => newKn_any lo k n sl p t W (Nat.le_trans hlo hW.size) hr hp ht)
    have KA := Lib.hid (fun p q t t' W (hW : Below w.heap.size w W) hp hq hs hs' => and_any lo p q t t' W (Nat.le_trans hlo hW.size) hp hq hs hs')
    have KD := Lib.hid (fun p t W (hW : Below w.heap.size w W) hp hs => denied_any lo p t W (Nat.le_trans hlo hW.size) hp hs)
    have KM := Lib.hid (fun p t W (hW : Below w.heap.size w W) hp hs => implies_any lo v p a t W (Nat.le_trans hlo hW.size) (h.below hW) hp hs)
    unfold LkAns at KI KN KA KD KM
    have HV := Lib.hid (fun W (hW : Below w.heap.size w W) => h.below hW)
    obtain ⟨ba, rfl, -⟩ := h.ptr
    obtain ⟨bu, rfl, -⟩ := hu.ptr
    have HC := Lib.hid hcs
    have HLO := Lib.hid hlo
    have HPS := Lib.hid hps
    have HA := Lib.hid ha
    obtain ⟨c0, c1, c2, c3⟩ := hcs w (Below.refl _ _)
    clear hcs h h' hu ih hlo hs hsc hpb hpc hpw hqc hpn hps
    rcases hop with rfl | rfl | rfl
    · rw [show pushT a (.know 5 n c) = .deny (.joint 4 a (.deny (.know 5 n (pushT a c)))) from if_neg (by decide)]
      rw [show (Tm.know 5 n c).op = 5 from rfl] at c0
      rw [show (Tm.know 5 n c).num = n from rfl] at c1
      go_enter Try.func54, Try.ntmps54
      go_wp2_with fail
      refine KI.out.mono ?_
      rintro e w1 ⟨b1, rfl, hl, hb1⟩
      have H1 := Lib.hid hl
      have B1 := Lib.hid hb1
      have HCW := Lib.hid (fun W (h : Below w1.heap.size w1 W) => HC.out W (hb1.trans (h.mono hb1.size)))
      clear hl hb1 c0 c1 c2 c3
      obtain ⟨c0, -⟩ := HC.out w1 B1.out
      rw [show (Tm.know 5 n c).op = 5 from rfl] at c0
      go_wp2
      clear c0
      refine regionL (fun W => Below w1.heap.size w1 W) [] (by kernel_rfl) (Below.refl _ _).drew (fun hHeld => ?_)
      refine takeA (i := 0) (v := .pointer (some ⟨ba, 0, none⟩)) 77 rfl rfl (by kernel_rfl) (by kernel_rfl) (by kernel_rfl) (by kernel_rfl) (fun _ _ _ h => h) (Or.inl ⟨by rfl, by intro W hSw; go_simp⟩) hHeld ?_
      simp only [Act.put, List.setIfInBounds_toArray, List.set_cons_zero, List.set_cons_succ]
      refine takeA (i := 1) (v := .pointer (some ⟨b, 0, none⟩)) 78 rfl rfl (by kernel_rfl) (by kernel_rfl) (by kernel_rfl) (by kernel_rfl) (fun _ _ _ h => h) (Or.inl ⟨by rfl, by intro W hSw; go_simp⟩) hHeld ?_
      simp only [Act.put, List.setIfInBounds_toArray, List.set_cons_zero, List.set_cons_succ]
      refine takeA (i := 2) (v := .pointer (some ⟨b, 0, none⟩)) 79 rfl rfl (by kernel_rfl) (by kernel_rfl) (by kernel_rfl) (by kernel_rfl) (fun _ _ _ h => h) (Or.inl ⟨by rfl, by intro W hSw; go_simp⟩) hHeld ?_
      simp only [Act.put, List.setIfInBounds_toArray, List.set_cons_zero, List.set_cons_succ]
      refine takeA (i := 3) (v := .pointer (some ⟨b, 0, none⟩)) 80 rfl rfl (by kernel_rfl) (by kernel_rfl) (by kernel_rfl) (by kernel_rfl) (fun _ _ _ h => h) (Or.inl ⟨by rfl, by intro W hSw; go_simp⟩) hHeld ?_
      simp only [Act.put, List.setIfInBounds_toArray, List.set_cons_zero, List.set_cons_succ]
      refine takeA (i := 4) (v := .int .i64 5) 81 rfl rfl (by kernel_rfl) (by kernel_rfl) (by kernel_rfl) (by kernel_rfl) (fun _ _ _ h => h) (Or.inl ⟨by rfl, by intro W hSw; have c1 := (HCW.out _ hSw).1; go_simp; rfl⟩) hHeld ?_
      simp only [Act.put, List.setIfInBounds_toArray, List.set_cons_zero, List.set_cons_succ]
      refine takeA (i := 5) (v := .pointer (some ⟨b, 0, none⟩)) 82 rfl rfl (by kernel_rfl) (by kernel_rfl) (by kernel_rfl) (by kernel_rfl) (fun _ _ _ h => h) (Or.inl ⟨by rfl, by intro W hSw; go_simp⟩) hHeld ?_
      simp only [Act.put, List.setIfInBounds_toArray, List.set_cons_zero, List.set_cons_succ]
      refine takeA (i := 6) (v := .pointer (some ⟨b, 0, none⟩)) 83 rfl rfl (by kernel_rfl) (by kernel_rfl) (by kernel_rfl) (by kernel_rfl) (fun _ _ _ h => h) (Or.inl ⟨by rfl, by intro W hSw; go_simp⟩) hHeld ?_
      simp only [Act.put, List.setIfInBounds_toArray, List.set_cons_zero, List.set_cons_succ]
      refine takeA (i := 7) (v := .pointer (some ⟨b, 1, none⟩)) 84 rfl rfl (by kernel_rfl) (by kernel_rfl) (by kernel_rfl) (by kernel_rfl) (fun _ _ _ h => h) (Or.inl ⟨by rfl, by intro W hSw; go_simp⟩) hHeld ?_
      simp only [Act.put, List.setIfInBounds_toArray, List.set_cons_zero, List.set_cons_succ]
      refine takeA (i := 8) (v := .int .i64 n) 85 rfl rfl (by kernel_rfl) (by kernel_rfl) (by kernel_rfl) (by kernel_rfl) (fun _ _ _ h => h) (Or.inl ⟨by rfl, by intro W hSw; have c1 := (HCW.out _ hSw).2.1; go_simp; rfl⟩) hHeld ?_
      simp only [Act.put, List.setIfInBounds_toArray, List.set_cons_zero, List.set_cons_succ]
      refine takeA (i := 9) (v := .pointer (some ⟨b1, 0, none⟩)) 86 rfl rfl (by kernel_rfl) (by kernel_rfl) (by kernel_rfl) (by kernel_rfl) (fun _ _ _ h => h) (Or.inl ⟨by rfl, by intro W hSw; go_simp⟩) hHeld ?_
      simp only [Act.put, List.setIfInBounds_toArray, List.set_cons_zero, List.set_cons_succ]
      generalize (World.drew _) = wd at hHeld ⊢
      refine onlyL (i := 10) (by kernel_rfl) rfl (by rfl) (fun K hK => ?_)
      go_simp
      have ta : Below w1.heap.size w1 (wd.alloc (.cells #[.pointer (some ⟨b1, 0, none⟩)] 45)) := hHeld.trans ((Below.refl wd.heap.size wd).alloc (Nat.le_refl _) _ |>.mono hHeld.size)
      have hra : Rv lo (wd.alloc (.cells #[.pointer (some ⟨b1, 0, none⟩)] 45)).heap.size (wd.alloc (.cells #[.pointer (some ⟨b1, 0, none⟩)] 45)) (.slice (some ⟨wd.heap.size, 0, none⟩) 1 1) [.pointer (some ⟨b1, 0, none⟩)] := Rv.lit1 (Nat.le_trans HLO.out (Nat.le_trans B1.out.size hHeld.size))
      have HRA := Lib.hid hra
      have HP1 := Lib.hid (H1.out.below ta)
      have TA := Lib.hid ta
      clear hra ta hHeld
      generalize wd.alloc (.cells #[.pointer (some ⟨b1, 0, none⟩)] 45) = wa at *
      refine hK.out _ _ (fun _ => TA.out) (fun _ => ?_)
      clear hK K
      have hHeld := TA.out
      try simp only [Act.put, List.setIfInBounds_toArray, List.set_cons_zero, List.set_cons_succ]
      refine onlyL (i := 11) (by kernel_rfl) rfl (by rfl) (fun K hK => ?_)
      go_simp
      refine (KN.out 5 _ _ (pushT a c) _ (B1.out.trans (TA.out.mono B1.out.size)) HRA.out HP1.out (by have := HPS.out; omega)).mono ?_
      rintro e w2 ⟨b2, rfl, hl, hb2⟩
      have t2 : Below w1.heap.size w1 w2 := TA.out.trans (hb2.mono TA.out.size)
      have H2 := Lib.hid hl
      clear hl hb2 hHeld
      refine hK.out _ _ (fun _ => t2) (fun _ => ?_)
      clear hK K
      have hHeld := t2
      try simp only [Act.put, List.setIfInBounds_toArray, List.set_cons_zero, List.set_cons_succ]
      refine onlyL (i := 12) (by kernel_rfl) rfl (by rfl) (fun K hK => ?_)
      go_simp
      refine (KM.out _ (.know 5 n (pushT a c)) _ (B1.out.trans (t2.mono B1.out.size)) H2.out (by have := HPS.out; have := HA.out; simp only [Tm.size]; omega)).mono ?_
      rintro e w3 ⟨b3, rfl, hl, hb3⟩
      have t3 : Below w1.heap.size w1 w3 := t2.trans (hb3.mono t2.size)
      have H3 := Lib.hid hl
      clear hl hb3 hHeld
      refine hK.out _ _ (fun _ => t3) (fun _ => ?_)
      clear hK K
      have hHeld := t3
      try simp only [Act.put, List.setIfInBounds_toArray, List.set_cons_zero, List.set_cons_succ]
      refine takeA (i := 13) (v := .pointer (some ⟨b3, 0, none⟩)) 4 rfl rfl (by kernel_rfl) (by kernel_rfl) (by kernel_rfl) (by kernel_rfl) (fun _ _ _ h => h) (Or.inl ⟨by rfl, by intro W hSw; go_simp⟩) hHeld ?_
      simp only [Act.put, List.setIfInBounds_toArray, List.set_cons_zero, List.set_cons_succ]
      clear hHeld
      refine doneL (by kernel_rfl) ?_ _
      try simp only [Act.put, List.setIfInBounds_toArray, List.set_cons_zero, List.set_cons_succ]
      go_wp2
      go_ret
      exact ⟨_, rfl, H3.out, B1.out.trans (t3.mono B1.out.size)⟩
    · rw [show pushT a (.know 6 n c) = .deny (.joint 4 a (.joint 4 (.deny (.know 5 n (pushT a c))) (.deny (.know 5 n (.deny (.joint 4 a (pushT a c))))))) from if_pos rfl]
      rw [show (Tm.know 6 n c).op = 6 from rfl] at c0
      rw [show (Tm.know 6 n c).num = n from rfl] at c1
      go_enter Try.func54, Try.ntmps54
      go_wp2_with fail
      refine KI.out.mono ?_
      rintro e w1 ⟨b1, rfl, hl, hb1⟩
      have H1 := Lib.hid hl
      have B1 := Lib.hid hb1
      clear hl hb1 c0 c1 c2 c3
      obtain ⟨c0, c1, -⟩ := HC.out w1 B1.out
      rw [show (Tm.know 6 n c).op = 6 from rfl] at c0
      rw [show (Tm.know 6 n c).num = n from rfl] at c1
      have ta : Below w1.heap.size w1 (w1.alloc (.cells #[.pointer (some ⟨b1, 0, none⟩)] 45)) := (Below.refl _ _).alloc (Nat.le_refl _) _
      have HRA : Hid (Rv lo (w1.alloc (.cells #[.pointer (some ⟨b1, 0, none⟩)] 45)).heap.size (w1.alloc (.cells #[.pointer (some ⟨b1, 0, none⟩)] 45)) (.slice (some ⟨w1.heap.size, 0, none⟩) 1 1) [.pointer (some ⟨b1, 0, none⟩)]) := Lib.hid (Rv.lit1 (Nat.le_trans HLO.out B1.out.size))
      have TA := Lib.hid ta
      clear ta
      go_wp2_with fail
      clear c0 c1
      refine (KN.out 5 _ _ (pushT a c) _ (B1.out.trans (TA.out.mono B1.out.size)) HRA.out (H1.out.below TA.out) (by have := HPS.out; omega)).mono ?_
      rintro e w2 ⟨b2, rfl, hl, hb2⟩
      have T2 := Lib.hid (TA.out.trans (hb2.mono TA.out.size))
      have H2 := Lib.hid hl
      have H1 := Lib.hid (H1.out.below T2.out)
      have B2 := Lib.hid (B1.out.trans (T2.out.mono B1.out.size))
      have HCW := Lib.hid (fun W (h : Below w2.heap.size w2 W) => HC.out W (B2.out.trans (h.mono B2.out.size)))
      clear hl hb2 TA HRA
      go_wp2
      refine regionL (fun W => Below w2.heap.size w2 W) [] (by kernel_rfl) (Below.refl _ _).drew (fun hHeld => ?_)
      refine takeA (i := 0) (v := .pointer (some ⟨b, 0, none⟩)) 59 rfl rfl (by kernel_rfl) (by kernel_rfl) (by kernel_rfl) (by kernel_rfl) (fun _ _ _ h => h) (Or.inl ⟨by rfl, by intro W hSw; go_simp⟩) hHeld ?_
      simp only [Act.put, List.setIfInBounds_toArray, List.set_cons_zero, List.set_cons_succ]
      refine takeA (i := 1) (v := .pointer (some ⟨b, 0, none⟩)) 60 rfl rfl (by kernel_rfl) (by kernel_rfl) (by kernel_rfl) (by kernel_rfl) (fun _ _ _ h => h) (Or.inl ⟨by rfl, by intro W hSw; go_simp⟩) hHeld ?_
      simp only [Act.put, List.setIfInBounds_toArray, List.set_cons_zero, List.set_cons_succ]
      refine takeA (i := 2) (v := .pointer (some ⟨b, 1, none⟩)) 61 rfl rfl (by kernel_rfl) (by kernel_rfl) (by kernel_rfl) (by kernel_rfl) (fun _ _ _ h => h) (Or.inl ⟨by rfl, by intro W hSw; go_simp⟩) hHeld ?_
      simp only [Act.put, List.setIfInBounds_toArray, List.set_cons_zero, List.set_cons_succ]
      refine takeA (i := 3) (v := .int .i64 n) 62 rfl rfl (by kernel_rfl) (by kernel_rfl) (by kernel_rfl) (by kernel_rfl) (fun _ _ _ h => h) (Or.inl ⟨by rfl, by intro W hSw; have c1 := (HCW.out _ hSw).2.1; go_simp; rfl⟩) hHeld ?_
      simp only [Act.put, List.setIfInBounds_toArray, List.set_cons_zero, List.set_cons_succ]
      refine takeA (i := 4) (v := .pointer (some ⟨ba, 0, none⟩)) 63 rfl rfl (by kernel_rfl) (by kernel_rfl) (by kernel_rfl) (by kernel_rfl) (fun _ _ _ h => h) (Or.inl ⟨by rfl, by intro W hSw; go_simp⟩) hHeld ?_
      simp only [Act.put, List.setIfInBounds_toArray, List.set_cons_zero, List.set_cons_succ]
      refine takeA (i := 5) (v := .pointer (some ⟨b1, 0, none⟩)) 64 rfl rfl (by kernel_rfl) (by kernel_rfl) (by kernel_rfl) (by kernel_rfl) (fun _ _ _ h => h) (Or.inl ⟨by rfl, by intro W hSw; go_simp⟩) hHeld ?_
      simp only [Act.put, List.setIfInBounds_toArray, List.set_cons_zero, List.set_cons_succ]
      generalize (World.drew _) = wd at hHeld ⊢
      refine onlyL (i := 6) (by kernel_rfl) rfl (by rfl) (fun K hK => ?_)
      go_simp
      refine (KA.out _ _ a (pushT a c) _ (B2.out.trans (hHeld.mono B2.out.size)) (HV.out _ (B2.out.trans (hHeld.mono B2.out.size))) (H1.out.below hHeld) (by have := HA.out; omega) (by have := HPS.out; omega)).mono ?_
      rintro e w3 ⟨b3, rfl, hl, hb3⟩
      have t3 : Below w2.heap.size w2 w3 := hHeld.trans (hb3.mono hHeld.size)
      have H3 := Lib.hid hl
      clear hl hb3 hHeld
      refine hK.out _ _ (fun _ => t3) (fun _ => ?_)
      clear hK K
      have hHeld := t3
      try simp only [Act.put, List.setIfInBounds_toArray, List.set_cons_zero, List.set_cons_succ]
      refine onlyL (i := 7) (by kernel_rfl) rfl (by rfl) (fun K hK => ?_)
      go_simp
      refine (KD.out _ (.joint 4 a (pushT a c)) _ (B2.out.trans (t3.mono B2.out.size)) H3.out (by have := HA.out; have := HPS.out; simp only [Tm.size]; omega)).mono ?_
      rintro e w4 ⟨b4, rfl, hl, hb4⟩
      have t4 : Below w2.heap.size w2 w4 := t3.trans (hb4.mono t3.size)
      have H4 := Lib.hid hl
      clear hl hb4 hHeld
      refine hK.out _ _ (fun _ => t4) (fun _ => ?_)
      clear hK K
      have hHeld := t4
      try simp only [Act.put, List.setIfInBounds_toArray, List.set_cons_zero, List.set_cons_succ]
      refine onlyL (i := 8) (by kernel_rfl) rfl (by rfl) (fun K hK => ?_)
      go_simp
      have ta : Below w2.heap.size w2 (w4.alloc (.cells #[.pointer (some ⟨b4, 0, none⟩)] 45)) := t4.trans ((Below.refl w4.heap.size w4).alloc (Nat.le_refl _) _ |>.mono t4.size)
      have HRA : Hid (Rv lo (w4.alloc (.cells #[.pointer (some ⟨b4, 0, none⟩)] 45)).heap.size (w4.alloc (.cells #[.pointer (some ⟨b4, 0, none⟩)] 45)) (.slice (some ⟨w4.heap.size, 0, none⟩) 1 1) [.pointer (some ⟨b4, 0, none⟩)]) := Lib.hid (Rv.lit1 (Nat.le_trans HLO.out (Nat.le_trans B2.out.size t4.size)))
      have HP4 := Lib.hid (H4.out.below ((Below.refl w4.heap.size w4).alloc (Nat.le_refl _) (.cells #[.pointer (some ⟨b4, 0, none⟩)] 45)))
      have TA := Lib.hid ta
      clear ta hHeld
      generalize w4.alloc (.cells #[.pointer (some ⟨b4, 0, none⟩)] 45) = wa at *
      refine hK.out _ _ (fun _ => TA.out) (fun _ => ?_)
      clear hK K
      have hHeld := TA.out
      try simp only [Act.put, List.setIfInBounds_toArray, List.set_cons_zero, List.set_cons_succ]
      refine onlyL (i := 9) (by kernel_rfl) rfl (by rfl) (fun K hK => ?_)
      go_simp
      refine (KN.out 5 _ _ (.deny (.joint 4 a (pushT a c))) _ (B2.out.trans (TA.out.mono B2.out.size)) HRA.out HP4.out (by have := HA.out; have := HPS.out; simp only [Tm.size]; omega)).mono ?_
      rintro e w5 ⟨b5, rfl, hl, hb5⟩
      have t5 : Below w2.heap.size w2 w5 := TA.out.trans (hb5.mono TA.out.size)
      have H5 := Lib.hid hl
      clear hl hb5 hHeld
      refine hK.out _ _ (fun _ => t5) (fun _ => ?_)
      clear hK K
      have hHeld := t5
      try simp only [Act.put, List.setIfInBounds_toArray, List.set_cons_zero, List.set_cons_succ]
      refine takeA (i := 10) (v := .pointer (some ⟨b5, 0, none⟩)) 7 rfl rfl (by kernel_rfl) (by kernel_rfl) (by kernel_rfl) (by kernel_rfl) (fun _ _ _ h => h) (Or.inl ⟨by rfl, by intro W hSw; go_simp⟩) hHeld ?_
      simp only [Act.put, List.setIfInBounds_toArray, List.set_cons_zero, List.set_cons_succ]
      clear hHeld
      refine doneL (by kernel_rfl) ?_ _
      try simp only [Act.put, List.setIfInBounds_toArray, List.set_cons_zero, List.set_cons_succ]
      have H2 := Lib.hid (H2.out.below t5)
      have B5 := Lib.hid (B2.out.trans (t5.mono B2.out.size))
      clear t3 t4 t5
      go_wp2_with fail
      refine (KD.out _ (.know 5 n (pushT a c)) _ B5.out H2.out (by have := HPS.out; simp only [Tm.size]; omega)).mono ?_
      rintro e w6 ⟨b6, rfl, hl, hb6⟩
      have H6 := Lib.hid hl
      have B6 := Lib.hid (B5.out.trans (hb6.mono B5.out.size))
      have H5 := Lib.hid (H5.out.below hb6)
      clear hl hb6
      go_wp2_with fail
      refine (KD.out _ (.know 5 n (.deny (.joint 4 a (pushT a c)))) _ B6.out H5.out (by have := HA.out; have := HPS.out; simp only [Tm.size]; omega)).mono ?_
      rintro e w7 ⟨b7, rfl, hl, hb7⟩
      have H7 := Lib.hid hl
      have B7 := Lib.hid (B6.out.trans (hb7.mono B6.out.size))
      have H6 := Lib.hid (H6.out.below hb7)
      clear hl hb7
      go_wp2_with fail
      refine (KA.out _ _ (.deny (.know 5 n (pushT a c))) (.deny (.know 5 n (.deny (.joint 4 a (pushT a c))))) _ B7.out H6.out H7.out (by have := HPS.out; simp only [Tm.size]; omega) (by have := HA.out; have := HPS.out; simp only [Tm.size]; omega)).mono ?_
      rintro e w8 ⟨b8, rfl, hl, hb8⟩
      have H8 := Lib.hid hl
      have B8 := Lib.hid (B7.out.trans (hb8.mono B7.out.size))
      clear hl hb8
      go_wp2_with fail
      refine (KA.out _ _ a (.joint 4 (.deny (.know 5 n (pushT a c))) (.deny (.know 5 n (.deny (.joint 4 a (pushT a c)))))) _ B8.out (HV.out _ B8.out) H8.out (by have := HA.out; omega) (by have := HA.out; have := HPS.out; simp only [Tm.size]; omega)).mono ?_
      rintro e w9 ⟨b9, rfl, hl, hb9⟩
      have H9 := Lib.hid hl
      have B9 := Lib.hid (B8.out.trans (hb9.mono B8.out.size))
      clear hl hb9
      go_wp2_with fail
      refine (KD.out _ (.joint 4 a (.joint 4 (.deny (.know 5 n (pushT a c))) (.deny (.know 5 n (.deny (.joint 4 a (pushT a c))))))) _ B9.out H9.out (by have := HA.out; have := HPS.out; simp only [Tm.size]; omega)).mono ?_
      rintro e w10 ⟨b10, rfl, hl, hb10⟩
      have H10 := Lib.hid hl
      have B10 := Lib.hid (B9.out.trans (hb10.mono B9.out.size))
      clear hl hb10
      go_wp2
      go_ret
      exact ⟨_, rfl, H10.out, B10.out⟩
    · rw [show pushT a (.know 7 n c) = .deny (.joint 4 a (.deny (.know 7 n (pushT a c)))) from if_neg (by decide)]
      rw [show (Tm.know 7 n c).op = 7 from rfl] at c0
      rw [show (Tm.know 7 n c).num = n from rfl] at c1
      go_enter Try.func54, Try.ntmps54
      go_wp2_with fail
      refine KI.out.mono ?_
      rintro e w1 ⟨b1, rfl, hl, hb1⟩
      have H1 := Lib.hid hl
      have B1 := Lib.hid hb1
      have HCW := Lib.hid (fun W (h : Below w1.heap.size w1 W) => HC.out W (hb1.trans (h.mono hb1.size)))
      clear hl hb1 c0 c1 c2 c3
      obtain ⟨c0, -⟩ := HC.out w1 B1.out
      rw [show (Tm.know 7 n c).op = 7 from rfl] at c0
      go_wp2
      clear c0
      refine regionL (fun W => Below w1.heap.size w1 W) [] (by kernel_rfl) (Below.refl _ _).drew (fun hHeld => ?_)
      refine takeA (i := 0) (v := .pointer (some ⟨ba, 0, none⟩)) 77 rfl rfl (by kernel_rfl) (by kernel_rfl) (by kernel_rfl) (by kernel_rfl) (fun _ _ _ h => h) (Or.inl ⟨by rfl, by intro W hSw; go_simp⟩) hHeld ?_
      simp only [Act.put, List.setIfInBounds_toArray, List.set_cons_zero, List.set_cons_succ]
      refine takeA (i := 1) (v := .pointer (some ⟨b, 0, none⟩)) 78 rfl rfl (by kernel_rfl) (by kernel_rfl) (by kernel_rfl) (by kernel_rfl) (fun _ _ _ h => h) (Or.inl ⟨by rfl, by intro W hSw; go_simp⟩) hHeld ?_
      simp only [Act.put, List.setIfInBounds_toArray, List.set_cons_zero, List.set_cons_succ]
      refine takeA (i := 2) (v := .pointer (some ⟨b, 0, none⟩)) 79 rfl rfl (by kernel_rfl) (by kernel_rfl) (by kernel_rfl) (by kernel_rfl) (fun _ _ _ h => h) (Or.inl ⟨by rfl, by intro W hSw; go_simp⟩) hHeld ?_
      simp only [Act.put, List.setIfInBounds_toArray, List.set_cons_zero, List.set_cons_succ]
      refine takeA (i := 3) (v := .pointer (some ⟨b, 0, none⟩)) 80 rfl rfl (by kernel_rfl) (by kernel_rfl) (by kernel_rfl) (by kernel_rfl) (fun _ _ _ h => h) (Or.inl ⟨by rfl, by intro W hSw; go_simp⟩) hHeld ?_
      simp only [Act.put, List.setIfInBounds_toArray, List.set_cons_zero, List.set_cons_succ]
      refine takeA (i := 4) (v := .int .i64 7) 81 rfl rfl (by kernel_rfl) (by kernel_rfl) (by kernel_rfl) (by kernel_rfl) (fun _ _ _ h => h) (Or.inl ⟨by rfl, by intro W hSw; have c1 := (HCW.out _ hSw).1; go_simp; rfl⟩) hHeld ?_
      simp only [Act.put, List.setIfInBounds_toArray, List.set_cons_zero, List.set_cons_succ]
      refine takeA (i := 5) (v := .pointer (some ⟨b, 0, none⟩)) 82 rfl rfl (by kernel_rfl) (by kernel_rfl) (by kernel_rfl) (by kernel_rfl) (fun _ _ _ h => h) (Or.inl ⟨by rfl, by intro W hSw; go_simp⟩) hHeld ?_
      simp only [Act.put, List.setIfInBounds_toArray, List.set_cons_zero, List.set_cons_succ]
      refine takeA (i := 6) (v := .pointer (some ⟨b, 0, none⟩)) 83 rfl rfl (by kernel_rfl) (by kernel_rfl) (by kernel_rfl) (by kernel_rfl) (fun _ _ _ h => h) (Or.inl ⟨by rfl, by intro W hSw; go_simp⟩) hHeld ?_
      simp only [Act.put, List.setIfInBounds_toArray, List.set_cons_zero, List.set_cons_succ]
      refine takeA (i := 7) (v := .pointer (some ⟨b, 1, none⟩)) 84 rfl rfl (by kernel_rfl) (by kernel_rfl) (by kernel_rfl) (by kernel_rfl) (fun _ _ _ h => h) (Or.inl ⟨by rfl, by intro W hSw; go_simp⟩) hHeld ?_
      simp only [Act.put, List.setIfInBounds_toArray, List.set_cons_zero, List.set_cons_succ]
      refine takeA (i := 8) (v := .int .i64 n) 85 rfl rfl (by kernel_rfl) (by kernel_rfl) (by kernel_rfl) (by kernel_rfl) (fun _ _ _ h => h) (Or.inl ⟨by rfl, by intro W hSw; have c1 := (HCW.out _ hSw).2.1; go_simp; rfl⟩) hHeld ?_
      simp only [Act.put, List.setIfInBounds_toArray, List.set_cons_zero, List.set_cons_succ]
      refine takeA (i := 9) (v := .pointer (some ⟨b1, 0, none⟩)) 86 rfl rfl (by kernel_rfl) (by kernel_rfl) (by kernel_rfl) (by kernel_rfl) (fun _ _ _ h => h) (Or.inl ⟨by rfl, by intro W hSw; go_simp⟩) hHeld ?_
      simp only [Act.put, List.setIfInBounds_toArray, List.set_cons_zero, List.set_cons_succ]
      generalize (World.drew _) = wd at hHeld ⊢
      refine onlyL (i := 10) (by kernel_rfl) rfl (by rfl) (fun K hK => ?_)
      go_simp
      have ta : Below w1.heap.size w1 (wd.alloc (.cells #[.pointer (some ⟨b1, 0, none⟩)] 45)) := hHeld.trans ((Below.refl wd.heap.size wd).alloc (Nat.le_refl _) _ |>.mono hHeld.size)
      have hra : Rv lo (wd.alloc (.cells #[.pointer (some ⟨b1, 0, none⟩)] 45)).heap.size (wd.alloc (.cells #[.pointer (some ⟨b1, 0, none⟩)] 45)) (.slice (some ⟨wd.heap.size, 0, none⟩) 1 1) [.pointer (some ⟨b1, 0, none⟩)] := Rv.lit1 (Nat.le_trans HLO.out (Nat.le_trans B1.out.size hHeld.size))
      have HRA := Lib.hid hra
      have HP1 := Lib.hid (H1.out.below ta)
      have TA := Lib.hid ta
      clear hra ta hHeld
      generalize wd.alloc (.cells #[.pointer (some ⟨b1, 0, none⟩)] 45) = wa at *
      refine hK.out _ _ (fun _ => TA.out) (fun _ => ?_)
      clear hK K
      have hHeld := TA.out
      try simp only [Act.put, List.setIfInBounds_toArray, List.set_cons_zero, List.set_cons_succ]
      refine onlyL (i := 11) (by kernel_rfl) rfl (by rfl) (fun K hK => ?_)
      go_simp
      refine (KN.out 7 _ _ (pushT a c) _ (B1.out.trans (TA.out.mono B1.out.size)) HRA.out HP1.out (by have := HPS.out; omega)).mono ?_
      rintro e w2 ⟨b2, rfl, hl, hb2⟩
      have t2 : Below w1.heap.size w1 w2 := TA.out.trans (hb2.mono TA.out.size)
      have H2 := Lib.hid hl
      clear hl hb2 hHeld
      refine hK.out _ _ (fun _ => t2) (fun _ => ?_)
      clear hK K
      have hHeld := t2
      try simp only [Act.put, List.setIfInBounds_toArray, List.set_cons_zero, List.set_cons_succ]
      refine onlyL (i := 12) (by kernel_rfl) rfl (by rfl) (fun K hK => ?_)
      go_simp
      refine (KM.out _ (.know 7 n (pushT a c)) _ (B1.out.trans (t2.mono B1.out.size)) H2.out (by have := HPS.out; have := HA.out; simp only [Tm.size]; omega)).mono ?_
      rintro e w3 ⟨b3, rfl, hl, hb3⟩
      have t3 : Below w1.heap.size w1 w3 := t2.trans (hb3.mono t2.size)
      have H3 := Lib.hid hl
      clear hl hb3 hHeld
      refine hK.out _ _ (fun _ => t3) (fun _ => ?_)
      clear hK K
      have hHeld := t3
      try simp only [Act.put, List.setIfInBounds_toArray, List.set_cons_zero, List.set_cons_succ]
      refine takeA (i := 13) (v := .pointer (some ⟨b3, 0, none⟩)) 4 rfl rfl (by kernel_rfl) (by kernel_rfl) (by kernel_rfl) (by kernel_rfl) (fun _ _ _ h => h) (Or.inl ⟨by rfl, by intro W hSw; go_simp⟩) hHeld ?_
      simp only [Act.put, List.setIfInBounds_toArray, List.set_cons_zero, List.set_cons_succ]
      clear hHeld
      refine doneL (by kernel_rfl) ?_ _
      try simp only [Act.put, List.setIfInBounds_toArray, List.set_cons_zero, List.set_cons_succ]
      go_wp2
      go_ret
      exact ⟨_, rfl, H3.out, B1.out.trans (t3.mono B1.out.size)⟩
end Go.Proofs.Ytnpfnfenkklocaa
