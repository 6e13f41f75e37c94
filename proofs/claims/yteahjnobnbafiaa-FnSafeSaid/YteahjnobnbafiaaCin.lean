/-
  Contract of impl.FirstSafe; what the other functions of hands answer comes along. No condition.
-/
import Derived.Test.YteahjnobnbafiaaCic
import Derived.Test.YteahjnobnbafiaaCib
import Derived.Test.YteahjnobnbafiaaCdr
import Derived.Test.YteahjnobnbafiaaCdt
namespace Go.Proofs.Yteahjnobnbafiaa
open Go.RowKit Go.WideShapes
open Go Go.Deep
set_option linter.unusedSimpArgs false

theorem sorted_uniq : ∀ {a b : List Int}, a.Pairwise (· ≤ ·) → b.Pairwise (· ≤ ·) → a.Perm b → a = b
  | [], b, _, _, hp => hp.nil_eq
  | x :: r, [], _, _, hp => by have := hp.length_eq; simp at this
  | x :: r, y :: s, ha, hb, hp => by
    have h1 : x ≤ y := by
      rcases List.mem_cons.1 (hp.mem_iff.2 (List.mem_cons_self ..)) with h | h
      · omega
      · exact List.rel_of_pairwise_cons ha h
    have h2 : y ≤ x := by
      rcases List.mem_cons.1 (hp.mem_iff.1 (List.mem_cons_self ..)) with h | h
      · omega
      · exact List.rel_of_pairwise_cons hb h
    have e : x = y := by omega
    subst e
    rw [sorted_uniq ha.of_cons hb.of_cons ((List.perm_cons x).1 hp)]
def sortI (l : List Int) : List Int := l.mergeSort fun x y => decide (x ≤ y)
theorem sort_ins {x : Int} {M : List Int} (ha : M.Pairwise (· < ·)) (hx : x ∉ M) : sortI ([x] ++ M) = insL x M := by
  refine sorted_uniq ?_ ((ins_asc ha hx).imp (fun h => by omega)) ((List.mergeSort_perm _ _).trans (ins_perm x M).symm)
  have := List.pairwise_mergeSort (le := fun x y : Int => decide (x ≤ y)) (fun a b c h1 h2 => by simp only [decide_eq_true_eq] at *; omega) (fun a b => by simp only [Bool.or_eq_true, decide_eq_true_eq]; omega) ([x] ++ M)
  exact this.imp (fun h => by simpa using h)
theorem clsh_self {d : Dl} {x : Int} (hd : dealR d = true) (h : x ∈ handsR d) : clshD d x x = true := by
  have hf := deal_facts hd
  have hp : pop x.toNat = d.a.toNat := by
    unfold handsR at h
    rw [if_pos hd] at h
    exact (handsTo_mem h).2.2
  unfold clshD; rw [and_self_pop, hp, decide_eq_true_eq]; omega
theorem first_sort {d : Dl} {hand size : Int} (hh : hand ∈ handsR d) (hd : dealR d = true) (hs : 1 ≤ size ∧ size ≤ 7) : firstR d hand size = (complS d (size.toNat - 1) [hand] (fitP d hand (handsR d))).map sortI := by
  have hf := deal_facts hd
  rw [first_prog hd hh hs hf.2.2.2.2.1 (by omega), compl_find, Option.map_map]
  cases hc : (combsL (size.toNat - 1) (fitP d hand (handsR d))).find? (fun M => pairP d M && hidesP d ([hand] ++ M)) with
  | none => rfl
  | some M =>
    have hM := combs_sub (List.mem_of_find?_eq_some hc)
    show some (insL hand M) = some (sortI ([hand] ++ M))
    rw [sort_ins]
    · exact ((hands_asc d).filter _).sublist hM.1
    · intro hm
      have := (List.mem_filter.1 (hM.1.subset hm)).2
      rw [clsh_self hd hh] at this
      cases this
theorem compl_len {d : Dl} {k : Nat} {b W o : List Int} (h : complS d k b W = some o) : o.length = b.length + k := by
  rw [compl_find] at h
  cases hc : (combsL k W).find? (fun M => pairP d M && hidesP d (b ++ M)) with
  | none => rw [hc] at h; cases h
  | some M =>
    rw [hc] at h
    injection h with h
    rw [← h, List.length_append, (combs_sub (List.mem_of_find?_eq_some hc)).2]
theorem first_no {d : Dl} {hand size : Int} (h : hasI (handsR d) hand = false ∨ ¬ (1 ≤ size ∧ size ≤ 7)) : firstR d hand size = none := by
  unfold firstR
  rw [if_neg]
  simp only [Bool.and_eq_true, decide_eq_true_eq]
  rintro ⟨-, h1, h2⟩
  rcases h with h | h
  · rw [h] at h1; cases h1
  · exact h h2

set_option maxRecDepth 100000 in
set_option maxHeartbeats 32000000 in
theorem implFirst_any (d : Dl) (hand size : Int) (w : World) : Calls Try.prog 29 #[d.v, .int .i64 hand, .int .i64 size] w (IntsOpt w (firstR d hand size)) := by
  have KH := Lib.hid (fun W => implHands_any d W)
  have KHas := Lib.hid (fun lo hi v l W h => contains_any lo hi v l hand W h)
  have HNO := Lib.hid (fun h => first_no (d := d) (hand := hand) (size := size) h)
  have HYES := Lib.hid (fun hh hd hs => first_sort (d := d) (hand := hand) (size := size) hh hd hs)
  have HDY : Hid (hasI (handsR d) hand = true → dealR d = true ∧ hand ∈ handsR d ∧ 0 < hand ∧ hand < 128 ∧ (∀ x ∈ handsR d, 0 < x ∧ x < 128) ∧ (handsR d).length ≤ 128) := Lib.hid (fun h => by
    rw [hasI_mem] at h
    have hd : dealR d = true := by
      unfold handsR at h
      split at h
      · assumption
      · cases h
    have hp := hands_pos hd h
    refine ⟨hd, h, hp.1, hp.2, fun x hx => hands_pos hd hx, ?_⟩
    unfold handsR; rw [if_pos hd]
    exact Nat.le_trans (handsTo_len _ _) (pow_le (deal_facts hd).2.2.2.2.2.2.2.1))
  have KFit := Lib.hid (fun hd X hX lo hi v l W h1 h2 h3 => fitting_any d hd X hX lo hi v l W h1 h2 h3)
  have KCo := Lib.hid (fun hd k sz hz lo hi wv W' g c b hb W B h1 h2 h3 h4 h5 h6 => compl_any d hd k sz hz lo hi wv W' g c b hb W B h1 h2 h3 h4 h5 h6)
  have HCL := Lib.hid (fun k b W o (h : complS d k b W = some o) => compl_len h)
  unfold IntsAns at KH KFit
  unfold ComplP at KCo
  have HDV : Hid (d.v = .agg #[.int .i64 d.a, .int .i64 d.b, .int .i64 d.c]) := Lib.hid rfl
  obtain ⟨al, hal⟩ : ∃ al, al = handsR d := ⟨_, rfl⟩
  rw [← hal] at KH HNO HYES HDY
  clear hal
  generalize firstR d hand size = R at *
  unfold Dl.v at *
  generalize hda : d.a = da at *
  generalize hdb : d.b = db at *
  generalize hdc : d.c = dc at *
  clear hda hdb hdc HDV
  have HW1 := Lib.hid (And.intro (show Cm (w.alloc (.cells #[.int .i64 da, .int .i64 db, .int .i64 dc] 25)) w.heap.size 25 [.int .i64 da, .int .i64 db, .int .i64 dc] from Cm.new (cs := [.int .i64 da, .int .i64 db, .int .i64 dc]) rfl) (show Below w.heap.size w (w.alloc (.cells #[.int .i64 da, .int .i64 db, .int .i64 dc] 25)) from (Below.refl _ _).alloc (Nat.le_refl _) _))
  go_enter Try.func29, Try.ntmps29
  go_wp2_with fail
  generalize w.alloc (.cells #[.int .i64 da, .int .i64 db, .int .i64 dc] 25) = w1 at *
  refine (KH.out _).mono ?_
  rintro e w2 ⟨v2, rfl, ho2, hb2⟩
  have H2 := Lib.hid ho2.read
  obtain ⟨a2, c2, e2⟩ := H2.out.form
  subst e2
  have X2 := Lib.hid (HW1.out.1.all hb2)
  have B2 := Lib.hid (HW1.out.2.trans (hb2.mono HW1.out.2.size))
  clear ho2 hb2 HW1
  obtain ⟨q, hq⟩ : ∃ q, q = hasI al hand := ⟨_, rfl⟩
  rw [← hq] at HNO HDY
  have HQ := Lib.hid hq
  clear hq
  go_wp2_with fail
  refine (KHas.out _ _ _ al _ H2.out).mono ?_
  rintro e w3 ⟨rfl, rfl⟩
  rw [← HQ.out]
  clear HQ
  cases q with
  | false =>
    have HN := Lib.hid (HNO.out (Or.inl rfl))
    go_wp2
    go_returns
    rw [HN.out]
    exact IntsOpt.no B2.out
  | true =>
    by_cases hs1 : size < 1
    · have HN := Lib.hid (HNO.out (Or.inr (by omega)))
      go_wp2
      go_returns
      rw [HN.out]
      exact IntsOpt.no B2.out
    · by_cases hs7 : 7 < size
      · have HN := Lib.hid (HNO.out (Or.inr (by omega)))
        go_wp2
        go_returns
        rw [HN.out]
        exact IntsOpt.no B2.out
      · obtain ⟨hd, hmem, hp0, hp1, hap, haln⟩ := HDY.out rfl
        obtain ⟨X, rfl⟩ := Int.eq_ofNat_of_zero_le (show 0 ≤ hand by omega)
        obtain ⟨sz, rfl⟩ := Int.eq_ofNat_of_zero_le (show 0 ≤ size by omega)
        have hX7 : X < 128 := by omega
        have hsz7 : sz ≤ 7 := by omega
        obtain ⟨k, rfl⟩ : ∃ k, sz = k + 1 := ⟨sz - 1, by omega⟩
        have HRS : Hid (R = (complS d k [(X : Int)] (fitP d X al)).map sortI) := Lib.hid (by
          rw [HYES.out hmem hd (by omega)]
          congr 1)
        have KF := Lib.hid (fun W (h : Below w2.heap.size w2 W) => KFit.out hd X hX7 _ _ _ al W (H2.out.keeps (Keeps.of_all h)) (fun x hx => by have := hap x hx; omega) (by omega))
        have KC := Lib.hid (fun lo hi fv g c W B (h1 : Iv lo hi W fv (fitP d X al)) (h4 : W.ownsRow B 3 1 (.slice (some ⟨g, 0, none⟩) 1 c) 1 [.int .i64 X]) h6 => KCo.out hd k (k + 1) hsz7 lo hi fv (fitP d X al) g c [(X : Int)] (by simp; omega) W B h1 (fun x hx => hap x (List.mem_filter.1 hx).1) (Nat.le_trans (List.length_filter_le _ _) haln) h4 (fun x hx => by rw [List.mem_singleton] at hx; omega) h6)
        have HLn := Lib.hid (fun o => HCL.out k [(X : Int)] (fitP d X al) o)
        generalize fitP d (X : Int) al = F at *
        generalize complS d k [(X : Int)] F = r at *
        clear hmem hp0 hp1 hap haln HDY HNO HYES KFit KCo HCL KHas KH hd
        go_wp2
        have HXW := Lib.hid (fun W (hW : Below w2.heap.size w2 W) => X2.out.all hW)
        refine regionL (fun W => Below w2.heap.size w2 W) [] (by kernel_rfl) (Below.refl _ _).drew (fun hHeld => ?_)
        refine takeA (i := 0) (v := .agg #[.int .i64 da, .int .i64 db, .int .i64 dc]) 26 rfl rfl (by kernel_rfl) (by kernel_rfl) (by kernel_rfl) (by kernel_rfl) (fun _ _ _ h => h) (Or.inl ⟨by rfl, by intro W hSw; have hz := HXW.out _ hSw; have c0 := hz.cell 0; have c1 := hz.cell 1; have c2 := hz.cell 2; simp only [List.getElem?_cons_zero, List.getElem?_cons_succ] at c0 c1 c2; go_simp⟩) hHeld ?_
        simp only [Act.put, List.setIfInBounds_toArray, List.set_cons_zero, List.set_cons_succ]
        refine takeA (i := 1) (v := .int .i64 X) 27 rfl rfl (by kernel_rfl) (by kernel_rfl) (by kernel_rfl) (by kernel_rfl) (fun _ _ _ h => h) (Or.inl ⟨by rfl, by intro W hSw; go_simp⟩) hHeld ?_
        simp only [Act.put, List.setIfInBounds_toArray, List.set_cons_zero, List.set_cons_succ]
        refine takeA (i := 3) (v := .agg #[.int .i64 da, .int .i64 db, .int .i64 dc]) 29 rfl rfl (by kernel_rfl) (by kernel_rfl) (by kernel_rfl) (by kernel_rfl) (fun _ _ _ h => h) (Or.inl ⟨by rfl, by intro W hSw; have hz := HXW.out _ hSw; have c0 := hz.cell 0; have c1 := hz.cell 1; have c2 := hz.cell 2; simp only [List.getElem?_cons_zero, List.getElem?_cons_succ] at c0 c1 c2; go_simp⟩) hHeld ?_
        simp only [Act.put, List.setIfInBounds_toArray, List.set_cons_zero, List.set_cons_succ]
        refine takeA (i := 4) (v := .int .i64 X) 30 rfl rfl (by kernel_rfl) (by kernel_rfl) (by kernel_rfl) (by kernel_rfl) (fun _ _ _ h => h) (Or.inl ⟨by rfl, by intro W hSw; go_simp⟩) hHeld ?_
        simp only [Act.put, List.setIfInBounds_toArray, List.set_cons_zero, List.set_cons_succ]
        refine takeA (i := 5) (v := .slice a2 al.length c2) 31 rfl rfl (by kernel_rfl) (by kernel_rfl) (by kernel_rfl) (by kernel_rfl) (fun _ _ _ h => h) (Or.inl ⟨by rfl, by intro W hSw; go_simp⟩) hHeld ?_
        simp only [Act.put, List.setIfInBounds_toArray, List.set_cons_zero, List.set_cons_succ]
        refine takeA (i := 7) (v := .int .i64 (k + 1)) 33 rfl rfl (by kernel_rfl) (by kernel_rfl) (by kernel_rfl) (by kernel_rfl) (fun _ _ _ h => h) (Or.inl ⟨by rfl, by intro W hSw; go_simp⟩) hHeld ?_
        simp only [Act.put, List.setIfInBounds_toArray, List.set_cons_zero, List.set_cons_succ]
        generalize w2.drew = wd at hHeld ⊢
        refine twoL (i := 2) (j := 6) (by kernel_rfl) rfl rfl (by rfl) (by rfl) (fun K hK => ?_) (fun K hK => ?_)
        · skip
          go_simp
          have O101 : Hid ((wd.alloc (.cells #[.int .i64 X] 3)).ownsRow w2.heap.size 3 1 (.slice (some ⟨wd.heap.size, 0, none⟩) 1 1) 1 [.int .i64 X]) := Lib.hid (World.ownsRow_lit _ #[.int .i64 X] 1 hHeld.size (by decide) rfl)
          have t101 : Below w2.heap.size w2 (wd.alloc (.cells #[.int .i64 X] 3)) := hHeld.alloc hHeld.size _
          have a101 : Below wd.heap.size wd (wd.alloc (.cells #[.int .i64 X] 3)) := (Below.refl _ _).alloc (Nat.le_refl _) _
          generalize wd.alloc (.cells #[.int .i64 X] 3) = w101 at *
          refine hK.out _ _ (fun _ => t101) (fun hHeld => ?_)
          clear hHeld hK K
          try simp only [Act.put, List.setIfInBounds_toArray, List.set_cons_zero, List.set_cons_succ]
          refine onlyL (i := 6) (by kernel_rfl) rfl (by rfl) (fun K hK => ?_)
          go_simp
          refine (KF.out _ t101).mono ?_
          rintro e w102 ⟨v102, rfl, ho102, hb102⟩
          have t102 : Below w2.heap.size w2 w102 := t101.trans (hb102.mono t101.size)
          have V102 := Lib.hid ho102.read
          have O102 := Lib.hid (own_below O101.out hb102 (Nat.le_refl _))
          obtain ⟨x102, y102, e102⟩ := V102.out.form
          subst e102
          clear ho102 hb102 a101
          refine hK.out _ _ (fun _ => t102) (fun hHeld => ?_)
          clear hHeld hK K
          try simp only [Act.put, List.setIfInBounds_toArray, List.set_cons_zero, List.set_cons_succ]
          refine onlyL (i := 8) (by kernel_rfl) rfl (by rfl) (fun K hK => ?_)
          go_simp
          refine (KC.out _ _ _ _ _ _ _ V102.out O102.out t102.size).mono ?_
          rintro e w9 ⟨v9, rfl, ⟨a9, n9, c9, e9⟩, hs9, hb9⟩
          subst e9
          have t9 : Below w2.heap.size w2 w9 := t102.trans (hb9.mono t102.size)
          have HS9 := Lib.hid hs9
          clear hb9 hs9 
          refine hK.out _ _ (fun _ => t9) (fun hHeld => ?_)
          have hHeld := hHeld (by decide)
          clear hK K
          try simp only [Act.put, List.setIfInBounds_toArray, List.set_cons_zero, List.set_cons_succ]
          obtain ⟨ok9, hok9⟩ : ∃ b, b = r.isSome := ⟨_, rfl⟩
          rw [← hok9]
          refine takeA (i := 9) (v := .tuple #[.slice a9 n9 c9, .bool ok9]) 25 rfl rfl (by kernel_rfl) (by kernel_rfl) (by kernel_rfl) (by kernel_rfl) (fun _ _ _ h => h) (Or.inl ⟨by rfl, by intro W hSw; go_simp⟩) hHeld ?_
          simp only [Act.put, List.setIfInBounds_toArray, List.set_cons_zero, List.set_cons_succ]
          refine takeA (i := 10) (v := .slice a9 n9 c9) 35 rfl rfl (by kernel_rfl) (by kernel_rfl) (by kernel_rfl) (by kernel_rfl) (fun _ _ _ h => h) (Or.inl ⟨by rfl, by intro W hSw; go_simp⟩) hHeld ?_
          simp only [Act.put, List.setIfInBounds_toArray, List.set_cons_zero, List.set_cons_succ]
          refine takeA (i := 11) (v := .bool ok9) 36 rfl rfl (by kernel_rfl) (by kernel_rfl) (by kernel_rfl) (by kernel_rfl) (fun _ _ _ h => h) (Or.inl ⟨by rfl, by intro W hSw; go_simp⟩) hHeld ?_
          simp only [Act.put, List.setIfInBounds_toArray, List.set_cons_zero, List.set_cons_succ]
          refine takeA (i := 12) (v := .slice a9 n9 c9) 9 rfl rfl (by kernel_rfl) (by kernel_rfl) (by kernel_rfl) (by kernel_rfl) (fun _ _ _ h => h) (Or.inl ⟨by rfl, by intro W hSw; go_simp⟩) hHeld ?_
          simp only [Act.put, List.setIfInBounds_toArray, List.set_cons_zero, List.set_cons_succ]
          refine takeA (i := 13) (v := .bool ok9) 10 rfl rfl (by kernel_rfl) (by kernel_rfl) (by kernel_rfl) (by kernel_rfl) (fun _ _ _ h => h) (Or.inl ⟨by rfl, by intro W hSw; go_simp⟩) hHeld ?_
          simp only [Act.put, List.setIfInBounds_toArray, List.set_cons_zero, List.set_cons_succ]
          refine doneL (by kernel_rfl) ?_ _
          have B9 := Lib.hid (B2.out.trans (t9.mono B2.out.size))
          clear hHeld t9
          cases r with
          | none =>
            have HN : Hid (R = none) := Lib.hid HRS.out
            subst hok9
            simp only [Option.isSome_none]
            clear HRS HS9 KF KC
            go_wp2
            go_returns
            rw [HN.out]
            exact IntsOpt.no B9.out
          | some o =>
            have HN : Hid (R = some (sortI o)) := Lib.hid HRS.out
            have HOL : Hid (0 < o.length ∧ o.length ≤ 1048576) := Lib.hid (by have := HLn.out o rfl; rw [List.length_singleton] at this; omega)
            have ho9 := HS9.out o rfl
            obtain ⟨g9, y9, e9, hg9⟩ := own_some ho9 HOL.out.1
            injection e9 with e1 e2 e3
            subst e1 e2 e3
            have ks := sort_any g9 c9 o w9 w2.heap.size HOL.out.2 ho9
            obtain ⟨n, hn⟩ : ∃ n, n = o.length := ⟨_, rfl⟩
            rw [← hn] at ks
            rw [← hn]
            have KS := Lib.hid ks
            have HNL := Lib.hid hn
            clear ks hn HOL
            subst hok9
            simp only [Option.isSome_some]
            clear HRS HS9 KF KC ho9
            go_wp2_with fail
            refine KS.out.mono ?_
            rintro e w10 ⟨rfl, ho10, hg10⟩
            have O10 := Lib.hid ho10
            have B10 : Hid (Below w.heap.size w w10) := Lib.hid (B9.out.grown hg10 B9.out.size (fun q hq => by cases hq; have := B2.out.size; omega))
            clear ho10 hg10
            go_wp2
            go_returns
            rw [HN.out]
            refine ⟨_, rfl, ⟨?_, fun q hq => (O10.out.lt q hq).2⟩, B10.out⟩
            have hl : (ints (sortI o)).length = n := by rw [ints_len, HNL.out]; exact List.length_mergeSort _
            show World.ownsRow _ _ _ _ _ (ints (sortI o)).length (ints (sortI o))
            rw [hl]
            exact ownC O10.out B2.out.size
        · skip
          go_simp
          refine (KF.out _ hHeld).mono ?_
          rintro e w103 ⟨v103, rfl, ho103, hb103⟩
          have t103 : Below w2.heap.size w2 w103 := hHeld.trans (hb103.mono hHeld.size)
          have V103 := Lib.hid ho103.read
          obtain ⟨x103, y103, e103⟩ := V103.out.form
          subst e103
          clear ho103 hb103
          refine hK.out _ _ (fun _ => t103) (fun hHeld => ?_)
          clear hHeld hK K
          try simp only [Act.put, List.setIfInBounds_toArray, List.set_cons_zero, List.set_cons_succ]
          refine onlyL (i := 2) (by kernel_rfl) rfl (by rfl) (fun K hK => ?_)
          go_simp
          have O104 : Hid ((w103.alloc (.cells #[.int .i64 X] 3)).ownsRow w2.heap.size 3 1 (.slice (some ⟨w103.heap.size, 0, none⟩) 1 1) 1 [.int .i64 X]) := Lib.hid (World.ownsRow_lit _ #[.int .i64 X] 1 t103.size (by decide) rfl)
          have t104 : Below w2.heap.size w2 (w103.alloc (.cells #[.int .i64 X] 3)) := t103.alloc t103.size _
          have a104 : Below w103.heap.size w103 (w103.alloc (.cells #[.int .i64 X] 3)) := (Below.refl _ _).alloc (Nat.le_refl _) _
          generalize w103.alloc (.cells #[.int .i64 X] 3) = w104 at *
          have V104 := Lib.hid (V103.out.keeps (Keeps.of_all a104))
          clear a104
          refine hK.out _ _ (fun _ => t104) (fun hHeld => ?_)
          clear hHeld hK K
          try simp only [Act.put, List.setIfInBounds_toArray, List.set_cons_zero, List.set_cons_succ]
          refine onlyL (i := 8) (by kernel_rfl) rfl (by rfl) (fun K hK => ?_)
          go_simp
          refine (KC.out _ _ _ _ _ _ _ V104.out O104.out t104.size).mono ?_
          rintro e w9 ⟨v9, rfl, ⟨a9, n9, c9, e9⟩, hs9, hb9⟩
          subst e9
          have t9 : Below w2.heap.size w2 w9 := t104.trans (hb9.mono t104.size)
          have HS9 := Lib.hid hs9
          clear hb9 hs9 
          refine hK.out _ _ (fun _ => t9) (fun hHeld => ?_)
          have hHeld := hHeld (by decide)
          clear hK K
          try simp only [Act.put, List.setIfInBounds_toArray, List.set_cons_zero, List.set_cons_succ]
          obtain ⟨ok9, hok9⟩ : ∃ b, b = r.isSome := ⟨_, rfl⟩
          rw [← hok9]
          refine takeA (i := 9) (v := .tuple #[.slice a9 n9 c9, .bool ok9]) 25 rfl rfl (by kernel_rfl) (by kernel_rfl) (by kernel_rfl) (by kernel_rfl) (fun _ _ _ h => h) (Or.inl ⟨by rfl, by intro W hSw; go_simp⟩) hHeld ?_
          simp only [Act.put, List.setIfInBounds_toArray, List.set_cons_zero, List.set_cons_succ]
          refine takeA (i := 10) (v := .slice a9 n9 c9) 35 rfl rfl (by kernel_rfl) (by kernel_rfl) (by kernel_rfl) (by kernel_rfl) (fun _ _ _ h => h) (Or.inl ⟨by rfl, by intro W hSw; go_simp⟩) hHeld ?_
          simp only [Act.put, List.setIfInBounds_toArray, List.set_cons_zero, List.set_cons_succ]
          refine takeA (i := 11) (v := .bool ok9) 36 rfl rfl (by kernel_rfl) (by kernel_rfl) (by kernel_rfl) (by kernel_rfl) (fun _ _ _ h => h) (Or.inl ⟨by rfl, by intro W hSw; go_simp⟩) hHeld ?_
          simp only [Act.put, List.setIfInBounds_toArray, List.set_cons_zero, List.set_cons_succ]
          refine takeA (i := 12) (v := .slice a9 n9 c9) 9 rfl rfl (by kernel_rfl) (by kernel_rfl) (by kernel_rfl) (by kernel_rfl) (fun _ _ _ h => h) (Or.inl ⟨by rfl, by intro W hSw; go_simp⟩) hHeld ?_
          simp only [Act.put, List.setIfInBounds_toArray, List.set_cons_zero, List.set_cons_succ]
          refine takeA (i := 13) (v := .bool ok9) 10 rfl rfl (by kernel_rfl) (by kernel_rfl) (by kernel_rfl) (by kernel_rfl) (fun _ _ _ h => h) (Or.inl ⟨by rfl, by intro W hSw; go_simp⟩) hHeld ?_
          simp only [Act.put, List.setIfInBounds_toArray, List.set_cons_zero, List.set_cons_succ]
          refine doneL (by kernel_rfl) ?_ _
          have B9 := Lib.hid (B2.out.trans (t9.mono B2.out.size))
          clear hHeld t9
          cases r with
          | none =>
            have HN : Hid (R = none) := Lib.hid HRS.out
            subst hok9
            simp only [Option.isSome_none]
            clear HRS HS9 KF KC
            go_wp2
            go_returns
            rw [HN.out]
            exact IntsOpt.no B9.out
          | some o =>
            have HN : Hid (R = some (sortI o)) := Lib.hid HRS.out
            have HOL : Hid (0 < o.length ∧ o.length ≤ 1048576) := Lib.hid (by have := HLn.out o rfl; rw [List.length_singleton] at this; omega)
            have ho9 := HS9.out o rfl
            obtain ⟨g9, y9, e9, hg9⟩ := own_some ho9 HOL.out.1
            injection e9 with e1 e2 e3
            subst e1 e2 e3
            have ks := sort_any g9 c9 o w9 w2.heap.size HOL.out.2 ho9
            obtain ⟨n, hn⟩ : ∃ n, n = o.length := ⟨_, rfl⟩
            rw [← hn] at ks
            rw [← hn]
            have KS := Lib.hid ks
            have HNL := Lib.hid hn
            clear ks hn HOL
            subst hok9
            simp only [Option.isSome_some]
            clear HRS HS9 KF KC ho9
            go_wp2_with fail
            refine KS.out.mono ?_
            rintro e w10 ⟨rfl, ho10, hg10⟩
            have O10 := Lib.hid ho10
            have B10 : Hid (Below w.heap.size w w10) := Lib.hid (B9.out.grown hg10 B9.out.size (fun q hq => by cases hq; have := B2.out.size; omega))
            clear ho10 hg10
            go_wp2
            go_returns
            rw [HN.out]
            refine ⟨_, rfl, ⟨?_, fun q hq => (O10.out.lt q hq).2⟩, B10.out⟩
            have hl : (ints (sortI o)).length = n := by rw [ints_len, HNL.out]; exact List.length_mergeSort _
            show World.ownsRow _ _ _ _ _ (ints (sortI o)).length (ints (sortI o))
            rw [hl]
            exact ownC O10.out B2.out.size
end Go.Proofs.Yteahjnobnbafiaa
