/-
  Contract of spec.FirstSafe. No condition.
-/
import Derived.Test.YteahjnobnbafiaaCdq
namespace Go.Proofs.Yteahjnobnbafiaa
open Go.RowKit Go.WideShapes
open Go Go.Deep
set_option linter.unusedSimpArgs false

/-- an answer: a new row of numbers, and whether there is one -/
def IntsOpt (w : World) (r : Option (List Int)) (e : Ending) (w' : World) : Prop := ∃ v, e = .returned (.tuple #[v, .bool r.isSome]) ∧ Io w.heap.size w'.heap.size w' v (r.getD []) ∧ Below w.heap.size w w'
theorem IntsOpt.no {w w' : World} (h : Below w.heap.size w w') : IntsOpt w none (.returned (.tuple #[.slice none 0 0, .bool false])) w' := ⟨_, rfl, Ro.nil _ _ _ _, h⟩
set_option maxRecDepth 100000 in
set_option maxHeartbeats 16000000 in
theorem specFirst_any (d : Dl) (hand size : Int) (w : World) : Calls Try.prog 28 #[d.v, .int .i64 hand, .int .i64 size] w (IntsOpt w (firstR d hand size)) := by
  have KD := Lib.hid (fun W => specDeal_any d W)
  have KH := Lib.hid (fun W => specHands_any d W)
  have KHas := Lib.hid (fun lo hi v W (h : Iv lo hi W v (handsR d)) => specHasI_any lo hi v (handsR d) hand W h)
  have KI := Lib.hid (fun W => lnI_any size 1 7 W)
  have HR : Hid (firstR d hand size = if dealR d && (hasI (handsR d) hand && decide (1 ≤ size ∧ size ≤ 7)) then srchS hand (tellR d) (hidesR d) size.toNat (handsR d) [] else none) := Lib.hid rfl
  have KS1 : Hid (∀ (k : Nat), k ≤ 7 → ∀ lo hi av lv B W, Iv lo hi W av (handsR d) → W.ownsRow B 3 1 lv 0 (ints []) → (∃ g c, lv = .slice (some ⟨g, 0, none⟩) 0 c) → B ≤ W.heap.size → Calls Try.prog 42 #[d.v, av, lv, .int .i64 0, .int .i64 hand, .int .i64 k] W (SrchP B k (srchS hand (tellR d) (hidesR d) k (handsR d) []) W)) := Lib.hid (fun k hk lo hi av lv B W h1 h2 h3 h4 => by
    have e := specSrch_any d hand 1000 (Nat.le_refl _) k hk lo hi av (handsR d) lv [] 0 0 rfl W B h1 h2 h3 h4 (by simp; omega)
    rw [List.drop_zero] at e
    exact e)
  unfold IntsAns at KH
  generalize firstR d hand size = R at *
  generalize dealR d = ok at *
  generalize hasI (handsR d) hand = q1 at *
  generalize handsR d = al at *
  unfold SrchP at KS1
  obtain ⟨dv, hdv⟩ : ∃ dv, dv = d.v := ⟨_, rfl⟩
  rw [← hdv] at KD KH KS1 ⊢
  obtain ⟨da, hda⟩ : ∃ da, da = d.a := ⟨_, rfl⟩
  obtain ⟨db, hdb⟩ : ∃ db, db = d.b := ⟨_, rfl⟩
  obtain ⟨dc, hdc⟩ : ∃ dc, dc = d.c := ⟨_, rfl⟩
  have hv : dv = .agg #[.int .i64 da, .int .i64 db, .int .i64 dc] := by rw [hdv, hda, hdb, hdc]; rfl
  rw [hv] at KD KH KS1 ⊢
  clear hdv hda hdb hdc hv
  have hX : Cm (w.alloc (.cells #[.int .i64 da, .int .i64 db, .int .i64 dc] 25)) w.heap.size 25 [.int .i64 da, .int .i64 db, .int .i64 dc] := Cm.new (cs := [.int .i64 da, .int .i64 db, .int .i64 dc]) rfl
  have hb1 : Below w.heap.size w (w.alloc (.cells #[.int .i64 da, .int .i64 db, .int .i64 dc] 25)) := (Below.refl _ _).alloc (Nat.le_refl _) _
  go_enter Try.func28, Try.ntmps28
  go_wp2_with fail
  generalize w.alloc (.cells #[.int .i64 da, .int .i64 db, .int .i64 dc] 25) = w1 at *
  refine (KD.out _).mono ?_
  rintro e w2 ⟨rfl, hb2⟩
  have B2 := Lib.hid (hb1.trans (hb2.mono hb1.size))
  have X2 := Lib.hid (hX.all hb2)
  have c0 := X2.out.cell 0
  have c1 := X2.out.cell 1
  have c2 := X2.out.cell 2
  simp only [List.getElem?_cons_zero, List.getElem?_cons_succ] at c0 c1 c2
  clear hb2 hX hb1
  cases ok with
  | false =>
    have HN : Hid (R = none) := Lib.hid HR.out
    clear HR
    go_wp2
    go_returns
    rw [HN.out]
    exact IntsOpt.no B2.out
  | true =>
    go_wp2_with fail
    refine (KH.out _).mono ?_
    rintro e w3 ⟨v3, rfl, ho3, hb3⟩
    have H3 := Lib.hid ho3.read
    obtain ⟨a3, c3, e3⟩ := H3.out.form
    subst e3
    have B3 := Lib.hid (B2.out.trans (hb3.mono B2.out.size))
    have X3 := Lib.hid (X2.out.all hb3)
    clear ho3 hb3 c0 c1 c2 X2 B2
    go_wp2_with fail
    refine (KHas.out _ _ _ _ H3.out).mono ?_
    rintro e w4 ⟨rfl, rfl⟩
    cases q1 with
    | false =>
      have HN : Hid (R = none) := Lib.hid HR.out
      clear HR
      go_wp2
      go_returns
      rw [HN.out]
      exact IntsOpt.no B3.out
    | true =>
      go_wp2_with fail
      refine (KI.out _).mono ?_
      rintro e w4 ⟨rfl, rfl⟩
      by_cases hs : 1 ≤ size ∧ size ≤ 7
      · rw [decide_eq_true hs] at HR ⊢
        obtain ⟨n, rfl⟩ := Int.eq_ofNat_of_zero_le (show 0 ≤ size by omega)
        have HSR : Hid (R = srchS hand (tellR d) (hidesR d) n al []) := Lib.hid HR.out
        have hn7 : n ≤ 7 := by omega
        have hsn0 : 0 < n := by omega
        have KS := Lib.hid (fun lo hi av lv W (hW : Below w3.heap.size w3 W) h1 h2 => KS1.out n hn7 lo hi av lv w3.heap.size W h1 h2)
        clear HR hs KS1 KI KHas KD H3
        go_wp2
        have HXW := Lib.hid (fun W (hW : Below w3.heap.size w3 W) => X3.out.all hW)
        refine regionL (fun W => Below w3.heap.size w3 W) [] (by kernel_rfl) (Below.refl _ _).drew (fun hHeld => ?_)
        refine takeA (i := 0) (v := .agg #[.int .i64 da, .int .i64 db, .int .i64 dc]) 23 rfl rfl (by kernel_rfl) (by kernel_rfl) (by kernel_rfl) (by kernel_rfl) (fun _ _ _ h => h) (Or.inl ⟨by rfl, by intro W hSw; have c0 := (HXW.out _ hSw).cell 0; have c1 := (HXW.out _ hSw).cell 1; have c2 := (HXW.out _ hSw).cell 2; go_simp⟩) hHeld ?_
        simp only [Act.put, List.setIfInBounds_toArray, List.set_cons_zero, List.set_cons_succ]
        refine takeA (i := 1) (v := .agg #[.int .i64 da, .int .i64 db, .int .i64 dc]) 24 rfl rfl (by kernel_rfl) (by kernel_rfl) (by kernel_rfl) (by kernel_rfl) (fun _ _ _ h => h) (Or.inl ⟨by rfl, by intro W hSw; have c0 := (HXW.out _ hSw).cell 0; have c1 := (HXW.out _ hSw).cell 1; have c2 := (HXW.out _ hSw).cell 2; go_simp⟩) hHeld ?_
        simp only [Act.put, List.setIfInBounds_toArray, List.set_cons_zero, List.set_cons_succ]
        refine takeA (i := 4) (v := .int .i64 hand) 27 rfl rfl (by kernel_rfl) (by kernel_rfl) (by kernel_rfl) (by kernel_rfl) (fun _ _ _ h => h) (Or.inl ⟨by rfl, by intro W hSw; go_simp⟩) hHeld ?_
        simp only [Act.put, List.setIfInBounds_toArray, List.set_cons_zero, List.set_cons_succ]
        refine takeA (i := 5) (v := .int .i64 n) 28 rfl rfl (by kernel_rfl) (by kernel_rfl) (by kernel_rfl) (by kernel_rfl) (fun _ _ _ h => h) (Or.inl ⟨by rfl, by intro W hSw; go_simp⟩) hHeld ?_
        simp only [Act.put, List.setIfInBounds_toArray, List.set_cons_zero, List.set_cons_succ]
        generalize w3.drew = wd at hHeld ⊢
        refine twoL (i := 2) (j := 3) (by kernel_rfl) rfl rfl (by rfl) (by rfl) (fun K hK => ?_) (fun K hK => ?_)
        · skip
          go_simp
          refine (KH.out _).mono ?_
          rintro e w101 ⟨v101, rfl, ho101, hb101⟩
          have H101 := Lib.hid ho101.read
          obtain ⟨x101, y101, e101⟩ := H101.out.form
          subst e101
          have t101 : Below w3.heap.size w3 w101 := hHeld.trans (hb101.mono hHeld.size)
          clear ho101 hb101
          refine hK.out _ _ (fun _ => t101) (fun hHeld => ?_)
          clear hHeld hK K
          try simp only [Act.put, List.setIfInBounds_toArray, List.set_cons_zero, List.set_cons_succ]
          refine onlyL (i := 3) (by kernel_rfl) rfl (by rfl) (fun K hK => ?_)
          go_simp
          have O102 : Hid ((w101.alloc (.cells #[] 3)).ownsRow w3.heap.size 3 1 (Value.slice (some ⟨w101.heap.size, 0, none⟩) 0 0) 0 (ints [])) := Lib.hid (World.ownsRow_lit _ #[] 0 t101.size (by decide) rfl)
          have t102 : Below w3.heap.size w3 (w101.alloc (.cells #[] 3)) := t101.alloc t101.size _
          have a102 : Below w101.heap.size w101 (w101.alloc (.cells #[] 3)) := (Below.refl _ _).alloc (Nat.le_refl _) _
          generalize w101.alloc (.cells #[] 3) = w102 at *
          have H102 := Lib.hid (H101.out.keeps (Keeps.of_all a102))
          clear a102
          refine hK.out _ _ (fun _ => t102) (fun hHeld => ?_)
          clear hHeld hK K
          try simp only [Act.put, List.setIfInBounds_toArray, List.set_cons_zero, List.set_cons_succ]
          refine onlyL (i := 6) (by kernel_rfl) rfl (by rfl) (fun K hK => ?_)
          go_simp
          refine (KS.out _ _ _ _ _ t102 H102.out O102.out ⟨_, _, rfl⟩ t102.size).mono ?_
          rintro e w9 ⟨v9, rfl, ⟨a9, n9, c9, e9⟩, hs9, hn9, hb9⟩
          subst e9
          rw [← HSR.out] at hs9 hn9 ⊢
          have t9 : Below w3.heap.size w3 w9 := t102.trans (hb9.mono t102.size)
          refine hK.out _ _ (fun _ => t9) (fun hHeld => ?_)
          have hHeld := hHeld (by decide)
          clear hK K
          try simp only [Act.put, List.setIfInBounds_toArray, List.set_cons_zero, List.set_cons_succ]
          obtain ⟨ok9, hok9⟩ : ∃ b, b = R.isSome := ⟨_, rfl⟩
          rw [← hok9]
          refine takeA (i := 7) (v := .slice a9 n9 c9) 30 rfl rfl (by kernel_rfl) (by kernel_rfl) (by kernel_rfl) (by kernel_rfl) (fun _ _ _ h => h) (Or.inl ⟨by rfl, by intro W hSw; go_simp⟩) hHeld ?_
          simp only [Act.put, List.setIfInBounds_toArray, List.set_cons_zero, List.set_cons_succ]
          refine takeA (i := 8) (v := .bool ok9) 31 rfl rfl (by kernel_rfl) (by kernel_rfl) (by kernel_rfl) (by kernel_rfl) (fun _ _ _ h => h) (Or.inl ⟨by rfl, by intro W hSw; go_simp⟩) hHeld ?_
          simp only [Act.put, List.setIfInBounds_toArray, List.set_cons_zero, List.set_cons_succ]
          refine takeA (i := 9) (v := .slice a9 n9 c9) 6 rfl rfl (by kernel_rfl) (by kernel_rfl) (by kernel_rfl) (by kernel_rfl) (fun _ _ _ h => h) (Or.inl ⟨by rfl, by intro W hSw; go_simp⟩) hHeld ?_
          simp only [Act.put, List.setIfInBounds_toArray, List.set_cons_zero, List.set_cons_succ]
          refine takeA (i := 10) (v := .bool ok9) 7 rfl rfl (by kernel_rfl) (by kernel_rfl) (by kernel_rfl) (by kernel_rfl) (fun _ _ _ h => h) (Or.inl ⟨by rfl, by intro W hSw; go_simp⟩) hHeld ?_
          simp only [Act.put, List.setIfInBounds_toArray, List.set_cons_zero, List.set_cons_succ]
          refine doneL (by kernel_rfl) ?_ _
          clear hHeld
          go_wp2
          go_returns
          rw [hok9]
          refine ⟨_, rfl, ?_, B3.out.trans (t9.mono B3.out.size)⟩
          cases R with
          | none =>
            have e := hn9 rfl hsn0
            show Io _ _ _ (.slice a9 n9 c9) []
            rw [e]
            exact Ro.nil _ _ _ _
          | some o =>
            have ho := hs9 o rfl
            exact ⟨by have := ownC ho (B' := w.heap.size) (by have := B3.out.size; omega); rw [← ints_len] at this; exact this, fun q hq => (ho.lt q hq).2⟩
        · skip
          go_simp
          have O103 : Hid ((wd.alloc (.cells #[] 3)).ownsRow w3.heap.size 3 1 (Value.slice (some ⟨wd.heap.size, 0, none⟩) 0 0) 0 (ints [])) := Lib.hid (World.ownsRow_lit _ #[] 0 hHeld.size (by decide) rfl)
          have t103 : Below w3.heap.size w3 (wd.alloc (.cells #[] 3)) := hHeld.alloc hHeld.size _
          have a103 : Below wd.heap.size wd (wd.alloc (.cells #[] 3)) := (Below.refl _ _).alloc (Nat.le_refl _) _
          generalize wd.alloc (.cells #[] 3) = w103 at *
          clear a103
          refine hK.out _ _ (fun _ => t103) (fun hHeld => ?_)
          clear hHeld hK K
          try simp only [Act.put, List.setIfInBounds_toArray, List.set_cons_zero, List.set_cons_succ]
          refine onlyL (i := 2) (by kernel_rfl) rfl (by rfl) (fun K hK => ?_)
          go_simp
          refine (KH.out _).mono ?_
          rintro e w104 ⟨v104, rfl, ho104, hb104⟩
          have H104 := Lib.hid ho104.read
          obtain ⟨x104, y104, e104⟩ := H104.out.form
          subst e104
          have t104 : Below w3.heap.size w3 w104 := t103.trans (hb104.mono t103.size)
          have O104 := Lib.hid (own_below O103.out hb104 (Nat.le_refl _))
          clear ho104 hb104
          refine hK.out _ _ (fun _ => t104) (fun hHeld => ?_)
          clear hHeld hK K
          try simp only [Act.put, List.setIfInBounds_toArray, List.set_cons_zero, List.set_cons_succ]
          refine onlyL (i := 6) (by kernel_rfl) rfl (by rfl) (fun K hK => ?_)
          go_simp
          refine (KS.out _ _ _ _ _ t104 H104.out O104.out ⟨_, _, rfl⟩ t104.size).mono ?_
          rintro e w9 ⟨v9, rfl, ⟨a9, n9, c9, e9⟩, hs9, hn9, hb9⟩
          subst e9
          rw [← HSR.out] at hs9 hn9 ⊢
          have t9 : Below w3.heap.size w3 w9 := t104.trans (hb9.mono t104.size)
          refine hK.out _ _ (fun _ => t9) (fun hHeld => ?_)
          have hHeld := hHeld (by decide)
          clear hK K
          try simp only [Act.put, List.setIfInBounds_toArray, List.set_cons_zero, List.set_cons_succ]
          obtain ⟨ok9, hok9⟩ : ∃ b, b = R.isSome := ⟨_, rfl⟩
          rw [← hok9]
          refine takeA (i := 7) (v := .slice a9 n9 c9) 30 rfl rfl (by kernel_rfl) (by kernel_rfl) (by kernel_rfl) (by kernel_rfl) (fun _ _ _ h => h) (Or.inl ⟨by rfl, by intro W hSw; go_simp⟩) hHeld ?_
          simp only [Act.put, List.setIfInBounds_toArray, List.set_cons_zero, List.set_cons_succ]
          refine takeA (i := 8) (v := .bool ok9) 31 rfl rfl (by kernel_rfl) (by kernel_rfl) (by kernel_rfl) (by kernel_rfl) (fun _ _ _ h => h) (Or.inl ⟨by rfl, by intro W hSw; go_simp⟩) hHeld ?_
          simp only [Act.put, List.setIfInBounds_toArray, List.set_cons_zero, List.set_cons_succ]
          refine takeA (i := 9) (v := .slice a9 n9 c9) 6 rfl rfl (by kernel_rfl) (by kernel_rfl) (by kernel_rfl) (by kernel_rfl) (fun _ _ _ h => h) (Or.inl ⟨by rfl, by intro W hSw; go_simp⟩) hHeld ?_
          simp only [Act.put, List.setIfInBounds_toArray, List.set_cons_zero, List.set_cons_succ]
          refine takeA (i := 10) (v := .bool ok9) 7 rfl rfl (by kernel_rfl) (by kernel_rfl) (by kernel_rfl) (by kernel_rfl) (fun _ _ _ h => h) (Or.inl ⟨by rfl, by intro W hSw; go_simp⟩) hHeld ?_
          simp only [Act.put, List.setIfInBounds_toArray, List.set_cons_zero, List.set_cons_succ]
          refine doneL (by kernel_rfl) ?_ _
          clear hHeld
          go_wp2
          go_returns
          rw [hok9]
          refine ⟨_, rfl, ?_, B3.out.trans (t9.mono B3.out.size)⟩
          cases R with
          | none =>
            have e := hn9 rfl hsn0
            show Io _ _ _ (.slice a9 n9 c9) []
            rw [e]
            exact Ro.nil _ _ _ _
          | some o =>
            have ho := hs9 o rfl
            exact ⟨by have := ownC ho (B' := w.heap.size) (by have := B3.out.size; omega); rw [← ints_len] at this; exact this, fun q hq => (ho.lt q hq).2⟩
      · have HN : Hid (R = none) := Lib.hid (by rw [HR.out, decide_eq_false hs]; rfl)
        rw [decide_eq_false hs]
        clear HR hs
        go_wp2
        go_returns
        rw [HN.out]
        exact IntsOpt.no B3.out
end Go.Proofs.Yteahjnobnbafiaa
