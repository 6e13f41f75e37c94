/-
  person.isSure: the pair is the only one that is kept with the number that the person sees. Condition: the number is such as a machine has.
-/
import Derived.Test.YtlaienflcflpnaaPie
import Derived.Test.YtlaienflcflpnaaZArr
import Derived.Test.YtlaienflcflpnaaZReg
import Derived.Deep.DeepCutAuto
namespace Go.Proofs.Ytlaienflcflpnaa
open Go.RowKit Go.WideShapes
open Go Go.Deep
set_option linter.unusedSimpArgs false

theorem Try.allocPr (w : World) : (Instr.alloc 25 true (.tuple #[])).run Try.prog w = .ok (.pointer (some ⟨w.heap.size, 0, none⟩)) (w.alloc (.cells [.int .i64 0, .int .i64 0].toArray 25)) := by kernel_rfl
theorem Try.sizePr : (Try.prog.info? 25).map (·.size) = some 2 := by kernel_rfl
theorem sure_eq2 (xs : List Pr) (p : Pr) (f : Bool) : ownP xs p f = (decide ((grpP f (keyP f p) xs).length = 1) && (onlyV (grpP f (keyP f p) xs) == p)) := by
  rw [sure_eq]
  unfold onlyV
  by_cases h : (grpP f (keyP f p) xs).length = 1
  · rw [if_pos h]
  · rw [decide_eq_false h]; rfl

set_option maxRecDepth 100000 in
set_option maxHeartbeats 16000000 in
theorem isSure_any (B b c : Nat) (D : DataW Value) (V : Int → Value) (f : Bool) (xs : List Pr) (p : Pr) (W : World) (h : Grp Try.prog 3 25 W B b c D V (fun k => grpP f k xs)) (hk : (Lit.int .i64 (keyP f p)).wf = true) :
    Calls Try.prog 48 #[pv f b, p.v] W fun e W' => e = .returned (.bool (ownP xs p f)) ∧ Below W.heap.size W W' := by
  have KO := Lib.hid (fun W' (hb : Below W.heap.size W W') => only_any B b c D V _ (keyP f p) W' (h.below hb (Nat.le_refl _)) hk)
  try simp only at KO
  have KS := Lib.hid (fun W' => sees_any f b p W')
  have HR := Lib.hid (sure_eq2 xs p f)
  generalize ownP xs p f = R at *
  generalize decide ((grpP f (keyP f p) xs).length = 1) = ok at *
  generalize onlyV (grpP f (keyP f p) xs) = q at *
  generalize keyP f p = kk at *
  obtain ⟨qa, qb⟩ := q
  clear h hk
  unfold Pr.v pv at *
  try simp only at KO
  have HON : Hid (∀ v ∈ [Value.int .i64 qa, .int .i64 qb], v.oneCell' = true) := Lib.hid (by intro v hv; simp at hv; rcases hv with rfl | rfl <;> rfl)
  go_enter Try.func48, Try.ntmps48
  go_wp2
  have hb1 : Below W.heap.size W ((W.alloc (.cells #[.bool f, .map (some b)] 60)).alloc (.cells #[.int .i64 p.a, .int .i64 p.b] 25)) := by go_grown
  have hA : Cm ((W.alloc (.cells #[.bool f, .map (some b)] 60)).alloc (.cells #[.int .i64 p.a, .int .i64 p.b] 25)) W.heap.size 60 [.bool f, .map (some b)] := (Cm.new (cs := [.bool f, .map (some b)]) rfl).alloc _
  have hB : Cm ((W.alloc (.cells #[.bool f, .map (some b)] 60)).alloc (.cells #[.int .i64 p.a, .int .i64 p.b] 25)) (W.heap.size + 1) 25 [.int .i64 p.a, .int .i64 p.b] := Cm.new (cs := [.int .i64 p.a, .int .i64 p.b]) (by simp)
  generalize (W.alloc (.cells #[.bool f, .map (some b)] 60)).alloc (.cells #[.int .i64 p.a, .int .i64 p.b] 25) = w1 at *
  have B1 := Lib.hid hb1
  have lt1 : W.heap.size + 1 < w1.heap.size := hB.lt
  have HP : Hid (∀ W', Below w1.heap.size w1 W' → Cm W' W.heap.size 60 [.bool f, .map (some b)] ∧ Cm W' (W.heap.size + 1) 25 [.int .i64 p.a, .int .i64 p.b]) := Lib.hid (fun W' hW => ⟨hA.all hW, hB.all hW⟩)
  clear hb1 hA hB
  go_cut [5, 6] (fun p5 v6 w' => ∃ b5, p5 = .pointer (some ⟨b5, 0, none⟩) ∧ v6 = .bool ok ∧ Hid (Cm w' b5 25 [.int .i64 qa, .int .i64 qb]) ∧ Hid (Cm w' (W.heap.size + 1) 25 [.int .i64 p.a, .int .i64 p.b]) ∧ Hid (Below W.heap.size W w'))
  case first =>
    refine regionL (fun W' => Below w1.heap.size w1 W') [] (by kernel_rfl) (Below.refl _ _).drew (fun hHeld => ?_)
    refine takeA (i := 0) (v := .pointer (some ⟨W.heap.size, 1, none⟩)) 8 rfl rfl (by kernel_rfl) (by kernel_rfl) (by kernel_rfl) (by kernel_rfl) (fun _ _ _ h => h) (Or.inl ⟨by rfl, by intro W hSw; go_simp⟩) hHeld ?_
    simp only [Act.put, List.setIfInBounds_toArray, List.set_cons_zero, List.set_cons_succ]
    refine takeA (i := 1) (v := .map (some b)) 9 rfl rfl (by kernel_rfl) (by kernel_rfl) (by kernel_rfl) (by kernel_rfl) (fun _ _ _ h => h) (Or.inl ⟨by rfl, by intro W hSw; have c1 := (HP.out _ hSw).1.cell 1; have c0 := (HP.out _ hSw).1.cell 0; go_simp⟩) hHeld ?_
    simp only [Act.put, List.setIfInBounds_toArray, List.set_cons_zero, List.set_cons_succ]
    refine takeA (i := 2) (v := .agg #[.bool f, .map (some b)]) 10 rfl rfl (by kernel_rfl) (by kernel_rfl) (by kernel_rfl) (by kernel_rfl) (fun _ _ _ h => h) (Or.inl ⟨by rfl, by intro W hSw; have c1 := (HP.out _ hSw).1.cell 1; have c0 := (HP.out _ hSw).1.cell 0; go_simp⟩) hHeld ?_
    simp only [Act.put, List.setIfInBounds_toArray, List.set_cons_zero, List.set_cons_succ]
    refine takeA (i := 3) (v := .agg #[.int .i64 p.a, .int .i64 p.b]) 11 rfl rfl (by kernel_rfl) (by kernel_rfl) (by kernel_rfl) (by kernel_rfl) (fun _ _ _ h => h) (Or.inl ⟨by rfl, by intro W hSw; have c1 := (HP.out _ hSw).2.cell 1; have c0 := (HP.out _ hSw).2.cell 0; go_simp⟩) hHeld ?_
    simp only [Act.put, List.setIfInBounds_toArray, List.set_cons_zero, List.set_cons_succ]
    generalize w1.drew = wd at hHeld ⊢
    refine twoL (i := 4) (j := 9) (by kernel_rfl) rfl rfl (by rfl) (by rfl) (fun K hK => ?_) (fun K hK => ?_)
    · skip
      go_simp
      refine (KS.out _).mono ?_
      rintro e w101 ⟨rfl, hb101⟩
      have t101 : Below w1.heap.size w1 w101 := hHeld.trans (hb101.mono hHeld.size)
      have ls101 := hb101.size
      clear hb101
      refine hK.out _ _ (fun _ => t101) (fun hHeld => ?_)
      have hHeld := hHeld (by decide)
      clear hK K
      try simp only [Act.put, List.setIfInBounds_toArray, List.set_cons_zero, List.set_cons_succ]
      refine twoL (i := 5) (j := 9) (by kernel_rfl) rfl rfl (by rfl) (by rfl) (fun K hK => ?_) (fun K hK => ?_)
      · skip
        go_simp
        refine (KO.out _ (B1.out.trans (t101.mono B1.out.size))).mono ?_
        rintro e w102 ⟨rfl, hb102⟩
        have t102 : Below w1.heap.size w1 w102 := t101.trans (hb102.mono t101.size)
        have ls102 := hb102.size
        clear hb102
        refine hK.out _ _ (fun _ => t102) (fun hHeld => ?_)
        have hHeld := hHeld (by decide)
        clear hK K
        try simp only [Act.put, List.setIfInBounds_toArray, List.set_cons_zero, List.set_cons_succ]
        refine takeA (i := 6) (v := .tuple #[.agg #[.int .i64 qa, .int .i64 qb], .bool ok]) 7 rfl rfl (by kernel_rfl) (by kernel_rfl) (by kernel_rfl) (by kernel_rfl) (fun _ _ _ h => h) (Or.inl ⟨by rfl, by intro W hSw; go_simp⟩) hHeld ?_
        simp only [Act.put, List.setIfInBounds_toArray, List.set_cons_zero, List.set_cons_succ]
        refine takeA (i := 7) (v := .agg #[.int .i64 qa, .int .i64 qb]) 14 rfl rfl (by kernel_rfl) (by kernel_rfl) (by kernel_rfl) (by kernel_rfl) (fun _ _ _ h => h) (Or.inl ⟨by rfl, by intro W hSw; go_simp⟩) hHeld ?_
        simp only [Act.put, List.setIfInBounds_toArray, List.set_cons_zero, List.set_cons_succ]
        refine takeA (i := 8) (v := .bool ok) 15 rfl rfl (by kernel_rfl) (by kernel_rfl) (by kernel_rfl) (by kernel_rfl) (fun _ _ _ h => h) (Or.inl ⟨by rfl, by intro W hSw; go_simp⟩) hHeld ?_
        simp only [Act.put, List.setIfInBounds_toArray, List.set_cons_zero, List.set_cons_succ]
        refine onlyL (i := 9) (by kernel_rfl) rfl (by rfl) (fun K hK => ?_)
        refine wp_allocM 25 5 rfl rfl [.int .i64 0, .int .i64 0] Try.allocPr ?_
        have Z103 := Lib.hid (Cm.new (w := w102) (T := 25) (cs := [.int .i64 0, .int .i64 0]) rfl)
        have t103 : Below w1.heap.size w1 (w102.alloc (.cells [.int .i64 0, .int .i64 0].toArray 25)) := t102.alloc t102.size _
        have hs103 := t102.size
        generalize w102.alloc (.cells [.int .i64 0, .int .i64 0].toArray 25) = w103 at *
        refine hK.out _ _ (fun _ => t103) (fun hHeld => ?_)
        have hHeld := hHeld (by decide)
        clear hK K
        try simp only [Act.put, List.setIfInBounds_toArray, List.set_cons_zero, List.set_cons_succ]
        have HP9 := Lib.hid (HP.out _ t103)
        have B9 := Lib.hid (B1.out.trans (t103.mono B1.out.size))
        refine onlyL (i := 10) (by kernel_rfl) rfl (by rfl) (fun K hK => ?_)
        refine wp_storeM 25 (.tmp 5) (.tmp 14) rfl rfl w102.heap.size 0 rfl [.int .i64 qa, .int .i64 qb] rfl 25 _ Z103.out (Nat.le_refl _) Try.sizePr HON.out ?_
        intro y1 hc1 ha1
        rw [lay'_all (by rfl)] at hc1
        have Z8 := Lib.hid hc1
        have C8 := Lib.hid (ha1.cm HP9.out.2 (by omega))
        have B8 : Hid (Below W.heap.size W y1) := Lib.hid (B9.out.trans (ha1.below (by omega)))
        have t9 : Below w1.heap.size w1 y1 := t103.trans (ha1.below (by omega))
        clear hc1 ha1
        refine hK.out _ _ (fun _ => t9) (fun hHeld => ?_)
        have hHeld := hHeld (by decide)
        clear hK K
        try simp only [Act.put, List.setIfInBounds_toArray, List.set_cons_zero, List.set_cons_succ]
        refine takeA (i := 11) (v := .bool ok) 6 rfl rfl (by kernel_rfl) (by kernel_rfl) (by kernel_rfl) (by kernel_rfl) (fun _ _ _ h => h) (Or.inl ⟨by rfl, by intro W hSw; go_simp⟩) hHeld ?_
        simp only [Act.put, List.setIfInBounds_toArray, List.set_cons_zero, List.set_cons_succ]
        refine doneL (by kernel_rfl) ?_ _
        go_wp2_with fail
        go_meet
        case rel => exact ⟨_, rfl, rfl, Z8, C8, B8⟩
      · skip
        refine wp_allocM 25 5 rfl rfl [.int .i64 0, .int .i64 0] Try.allocPr ?_
        have Z104 := Lib.hid (Cm.new (w := w101) (T := 25) (cs := [.int .i64 0, .int .i64 0]) rfl)
        have t104 : Below w1.heap.size w1 (w101.alloc (.cells [.int .i64 0, .int .i64 0].toArray 25)) := t101.alloc t101.size _
        have hs104 := t101.size
        generalize w101.alloc (.cells [.int .i64 0, .int .i64 0].toArray 25) = w104 at *
        refine hK.out _ _ (fun _ => t104) (fun hHeld => ?_)
        have hHeld := hHeld (by decide)
        clear hK K
        try simp only [Act.put, List.setIfInBounds_toArray, List.set_cons_zero, List.set_cons_succ]
        refine onlyL (i := 5) (by kernel_rfl) rfl (by rfl) (fun K hK => ?_)
        go_simp
        refine (KO.out _ (B1.out.trans (t104.mono B1.out.size))).mono ?_
        rintro e w105 ⟨rfl, hb105⟩
        have t105 : Below w1.heap.size w1 w105 := t104.trans (hb105.mono t104.size)
        have ls105 := hb105.size
        have Z105 := Lib.hid (Z104.out.all hb105)
        clear hb105
        refine hK.out _ _ (fun _ => t105) (fun hHeld => ?_)
        have hHeld := hHeld (by decide)
        clear hK K
        try simp only [Act.put, List.setIfInBounds_toArray, List.set_cons_zero, List.set_cons_succ]
        refine takeA (i := 6) (v := .tuple #[.agg #[.int .i64 qa, .int .i64 qb], .bool ok]) 7 rfl rfl (by kernel_rfl) (by kernel_rfl) (by kernel_rfl) (by kernel_rfl) (fun _ _ _ h => h) (Or.inl ⟨by rfl, by intro W hSw; go_simp⟩) hHeld ?_
        simp only [Act.put, List.setIfInBounds_toArray, List.set_cons_zero, List.set_cons_succ]
        refine takeA (i := 7) (v := .agg #[.int .i64 qa, .int .i64 qb]) 14 rfl rfl (by kernel_rfl) (by kernel_rfl) (by kernel_rfl) (by kernel_rfl) (fun _ _ _ h => h) (Or.inl ⟨by rfl, by intro W hSw; go_simp⟩) hHeld ?_
        simp only [Act.put, List.setIfInBounds_toArray, List.set_cons_zero, List.set_cons_succ]
        refine takeA (i := 8) (v := .bool ok) 15 rfl rfl (by kernel_rfl) (by kernel_rfl) (by kernel_rfl) (by kernel_rfl) (fun _ _ _ h => h) (Or.inl ⟨by rfl, by intro W hSw; go_simp⟩) hHeld ?_
        simp only [Act.put, List.setIfInBounds_toArray, List.set_cons_zero, List.set_cons_succ]
        have HP9 := Lib.hid (HP.out _ t105)
        have B9 := Lib.hid (B1.out.trans (t105.mono B1.out.size))
        refine onlyL (i := 10) (by kernel_rfl) rfl (by rfl) (fun K hK => ?_)
        refine wp_storeM 25 (.tmp 5) (.tmp 14) rfl rfl w101.heap.size 0 rfl [.int .i64 qa, .int .i64 qb] rfl 25 _ Z105.out (Nat.le_refl _) Try.sizePr HON.out ?_
        intro y1 hc1 ha1
        rw [lay'_all (by rfl)] at hc1
        have Z8 := Lib.hid hc1
        have C8 := Lib.hid (ha1.cm HP9.out.2 (by omega))
        have B8 : Hid (Below W.heap.size W y1) := Lib.hid (B9.out.trans (ha1.below (by omega)))
        have t9 : Below w1.heap.size w1 y1 := t105.trans (ha1.below (by omega))
        clear hc1 ha1
        refine hK.out _ _ (fun _ => t9) (fun hHeld => ?_)
        have hHeld := hHeld (by decide)
        clear hK K
        try simp only [Act.put, List.setIfInBounds_toArray, List.set_cons_zero, List.set_cons_succ]
        refine takeA (i := 11) (v := .bool ok) 6 rfl rfl (by kernel_rfl) (by kernel_rfl) (by kernel_rfl) (by kernel_rfl) (fun _ _ _ h => h) (Or.inl ⟨by rfl, by intro W hSw; go_simp⟩) hHeld ?_
        simp only [Act.put, List.setIfInBounds_toArray, List.set_cons_zero, List.set_cons_succ]
        refine doneL (by kernel_rfl) ?_ _
        go_wp2_with fail
        go_meet
        case rel => exact ⟨_, rfl, rfl, Z8, C8, B8⟩
    · skip
      refine wp_allocM 25 5 rfl rfl [.int .i64 0, .int .i64 0] Try.allocPr ?_
      have Z106 := Lib.hid (Cm.new (w := wd) (T := 25) (cs := [.int .i64 0, .int .i64 0]) rfl)
      have t106 : Below w1.heap.size w1 (wd.alloc (.cells [.int .i64 0, .int .i64 0].toArray 25)) := hHeld.alloc hHeld.size _
      have hs106 := hHeld.size
      generalize wd.alloc (.cells [.int .i64 0, .int .i64 0].toArray 25) = w106 at *
      refine hK.out _ _ (fun _ => t106) (fun hHeld => ?_)
      have hHeld := hHeld (by decide)
      clear hK K
      try simp only [Act.put, List.setIfInBounds_toArray, List.set_cons_zero, List.set_cons_succ]
      refine onlyL (i := 4) (by kernel_rfl) rfl (by rfl) (fun K hK => ?_)
      go_simp
      refine (KS.out _).mono ?_
      rintro e w107 ⟨rfl, hb107⟩
      have t107 : Below w1.heap.size w1 w107 := t106.trans (hb107.mono t106.size)
      have ls107 := hb107.size
      have Z107 := Lib.hid (Z106.out.all hb107)
      clear hb107
      refine hK.out _ _ (fun _ => t107) (fun hHeld => ?_)
      have hHeld := hHeld (by decide)
      clear hK K
      try simp only [Act.put, List.setIfInBounds_toArray, List.set_cons_zero, List.set_cons_succ]
      refine onlyL (i := 5) (by kernel_rfl) rfl (by rfl) (fun K hK => ?_)
      go_simp
      refine (KO.out _ (B1.out.trans (t107.mono B1.out.size))).mono ?_
      rintro e w108 ⟨rfl, hb108⟩
      have t108 : Below w1.heap.size w1 w108 := t107.trans (hb108.mono t107.size)
      have ls108 := hb108.size
      have Z108 := Lib.hid (Z107.out.all hb108)
      clear hb108
      refine hK.out _ _ (fun _ => t108) (fun hHeld => ?_)
      have hHeld := hHeld (by decide)
      clear hK K
      try simp only [Act.put, List.setIfInBounds_toArray, List.set_cons_zero, List.set_cons_succ]
      refine takeA (i := 6) (v := .tuple #[.agg #[.int .i64 qa, .int .i64 qb], .bool ok]) 7 rfl rfl (by kernel_rfl) (by kernel_rfl) (by kernel_rfl) (by kernel_rfl) (fun _ _ _ h => h) (Or.inl ⟨by rfl, by intro W hSw; go_simp⟩) hHeld ?_
      simp only [Act.put, List.setIfInBounds_toArray, List.set_cons_zero, List.set_cons_succ]
      refine takeA (i := 7) (v := .agg #[.int .i64 qa, .int .i64 qb]) 14 rfl rfl (by kernel_rfl) (by kernel_rfl) (by kernel_rfl) (by kernel_rfl) (fun _ _ _ h => h) (Or.inl ⟨by rfl, by intro W hSw; go_simp⟩) hHeld ?_
      simp only [Act.put, List.setIfInBounds_toArray, List.set_cons_zero, List.set_cons_succ]
      refine takeA (i := 8) (v := .bool ok) 15 rfl rfl (by kernel_rfl) (by kernel_rfl) (by kernel_rfl) (by kernel_rfl) (fun _ _ _ h => h) (Or.inl ⟨by rfl, by intro W hSw; go_simp⟩) hHeld ?_
      simp only [Act.put, List.setIfInBounds_toArray, List.set_cons_zero, List.set_cons_succ]
      have HP9 := Lib.hid (HP.out _ t108)
      have B9 := Lib.hid (B1.out.trans (t108.mono B1.out.size))
      refine onlyL (i := 10) (by kernel_rfl) rfl (by rfl) (fun K hK => ?_)
      refine wp_storeM 25 (.tmp 5) (.tmp 14) rfl rfl wd.heap.size 0 rfl [.int .i64 qa, .int .i64 qb] rfl 25 _ Z108.out (Nat.le_refl _) Try.sizePr HON.out ?_
      intro y1 hc1 ha1
      rw [lay'_all (by rfl)] at hc1
      have Z8 := Lib.hid hc1
      have C8 := Lib.hid (ha1.cm HP9.out.2 (by omega))
      have B8 : Hid (Below W.heap.size W y1) := Lib.hid (B9.out.trans (ha1.below (by omega)))
      have t9 : Below w1.heap.size w1 y1 := t108.trans (ha1.below (by omega))
      clear hc1 ha1
      refine hK.out _ _ (fun _ => t9) (fun hHeld => ?_)
      have hHeld := hHeld (by decide)
      clear hK K
      try simp only [Act.put, List.setIfInBounds_toArray, List.set_cons_zero, List.set_cons_succ]
      refine takeA (i := 11) (v := .bool ok) 6 rfl rfl (by kernel_rfl) (by kernel_rfl) (by kernel_rfl) (by kernel_rfl) (fun _ _ _ h => h) (Or.inl ⟨by rfl, by intro W hSw; go_simp⟩) hHeld ?_
      simp only [Act.put, List.setIfInBounds_toArray, List.set_cons_zero, List.set_cons_succ]
      refine doneL (by kernel_rfl) ?_ _
      go_wp2_with fail
      go_meet
      case rel => exact ⟨_, rfl, rfl, Z8, C8, B8⟩
  case rest =>
    clear HP KO KS HON lt1
    obtain ⟨b5, rfl, rfl, Z8, C8, B8⟩ := hcut
    have z0 := Z8.out.cell 0
    have z1 := Z8.out.cell 1
    have p0 := C8.out.cell 0
    have p1 := C8.out.cell 1
    simp only [List.getElem?_cons_zero, List.getElem?_cons_succ] at z0 z1 p0 p1
    cases ok
    · have HF : Hid (R = false) := Lib.hid HR.out
      clear HR
      go_wp2
      go_ret
      exact ⟨by rw [HF.out]; rfl, B8.out⟩
    · by_cases ha : qa = p.a
      · by_cases hb : qb = p.b
        · have HF : Hid (R = true) := Lib.hid (by rw [HR.out, ha, hb]; simp)
          rw [ha] at z0
          rw [hb] at z1
          clear HR ha hb
          go_wp2
          go_ret
          exact ⟨by rw [HF.out]; rfl, B8.out⟩
        · have HF : Hid (R = false) := Lib.hid (by rw [HR.out, Bool.true_and, beq_eq_false_iff_ne]; exact fun e => hb (by rw [← e]))
          have hne : (qb == p.b) = false := beq_eq_false_iff_ne.2 hb
          rw [ha] at z0
          clear HR ha hb
          go_wp2
          go_ret
          exact ⟨by rw [HF.out]; rfl, B8.out⟩
      · have HF : Hid (R = false) := Lib.hid (by rw [HR.out, Bool.true_and, beq_eq_false_iff_ne]; exact fun e => ha (by rw [← e]))
        have hne : (qa == p.a) = false := beq_eq_false_iff_ne.2 ha
        clear HR ha
        go_wp2
        go_ret
        exact ⟨by rw [HF.out]; rfl, B8.out⟩
end Go.Proofs.Ytlaienflcflpnaa
