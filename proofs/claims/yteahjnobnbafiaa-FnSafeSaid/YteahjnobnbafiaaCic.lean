/-
  Contract of Deal.completed. Conditions: a valid deal, hands from 1 to 127, at most 128 of them in the window, a size of at most 7.
-/
import Derived.Test.YteahjnobnbafiaaCit
import Derived.Test.YteahjnobnbafiaaCiu
import Derived.Test.YteahjnobnbafiaaCiv
import Derived.Test.YteahjnobnbafiaaCdq
namespace Go.Proofs.Yteahjnobnbafiaa
open Go.RowKit Go.WideShapes
open Go Go.Deep
set_option linter.unusedSimpArgs false

/-- what the program's search answers -/
def ComplP (B : Nat) (r : Option (List Int)) (w : World) (e : Ending) (w' : World) : Prop :=
  ∃ v, e = .returned (.tuple #[v, .bool r.isSome]) ∧ (∃ a n c, v = .slice a n c) ∧ (∀ o, r = some o → w'.ownsRow B 3 1 v o.length (ints o)) ∧ Below w.heap.size w w'
theorem goC_step {d : Dl} {next : List Int → List Int → Option (List Int)} {b al : List Int} {i : Nat} (hi : i < al.length) :
    goC d next b (al.drop i) = match next (b ++ [al.getD i 0]) (fitP d (al.getD i 0) (al.drop (i + 1))) with
    | some o => some o
    | none => goC d next b (al.drop (i + 1)) := by
  rw [List.drop_eq_getElem_cons hi]
  have e : al[i] = al.getD i 0 := by rw [List.getD_eq_getElem?_getD, List.getElem?_eq_getElem hi]; rfl
  rw [e]; rfl

set_option maxRecDepth 100000 in
set_option maxHeartbeats 32000000 in
theorem compl_any (d : Dl) (hd : dealR d = true) : ∀ (k sz : Nat) (_ : sz ≤ 7) (lo hi : Nat) (wv : Value) (W : List Int) (g c : Nat) (b : List Int) (_ : sz = b.length + k) (w : World) (B : Nat) (_ : Iv lo hi w wv W) (_ : ∀ x ∈ W, 0 < x ∧ x < 128) (_ : W.length ≤ 128)
    (_ : w.ownsRow B 3 1 (.slice (some ⟨g, 0, none⟩) b.length c) b.length (ints b)) (_ : ∀ x ∈ b, 0 < x ∧ x < 128) (_ : B ≤ w.heap.size),
    Calls Try.prog 44 #[d.v, .slice (some ⟨g, 0, none⟩) b.length c, wv, .int .i64 sz] w (ComplP B (complS d k b W) w) := by
  intro k
  induction k with
  | zero =>
    intro sz hsz lo hi wv W g c b hszb w B hW hWx hWn hb hbx hB
    rw [Nat.add_zero] at hszb
    subst hszb
    have hbh : ∀ W, Below w.heap.size w W → W.ownsRow B 3 1 (.slice (some ⟨g, 0, none⟩) b.length c) b.length (ints b) := fun W h => own_below hb h (Nat.le_refl _)
    have HO := Lib.hid hbh
    have KH := Lib.hid (fun W (h : Below w.heap.size w W) => hidesI_any d hd B W.heap.size _ b W (Io.read (Ro.of_own (hbh W h))) hbx)
    have HR : Hid (complS d 0 b W = if hidesP d b then some b else none) := Lib.hid rfl
    obtain ⟨wa, wc, rfl⟩ := hW.form
    clear hW hWx hWn hb hbx hbh hd
    unfold Dl.v at *
    generalize complS d 0 b W = R at *
    generalize hidesP d b = q at *
    have hX : Cm (w.alloc (.cells #[.int .i64 d.a, .int .i64 d.b, .int .i64 d.c] 25)) w.heap.size 25 [.int .i64 d.a, .int .i64 d.b, .int .i64 d.c] := Cm.new (cs := [.int .i64 d.a, .int .i64 d.b, .int .i64 d.c]) rfl
    have hb1 : Below w.heap.size w (w.alloc (.cells #[.int .i64 d.a, .int .i64 d.b, .int .i64 d.c] 25)) := (Below.refl _ _).alloc (Nat.le_refl _) _
    generalize d.a = da at *
    generalize d.b = db at *
    generalize d.c = dc at *
    have c0 := hX.cell 0
    have c1 := hX.cell 1
    have c2 := hX.cell 2
    simp only [List.getElem?_cons_zero, List.getElem?_cons_succ] at c0 c1 c2
    have hn7 : (b.length : Int) ≤ 7 := by omega
    generalize hbl : b.length = n at *
    have HBL := Lib.hid hbl
    clear hbl
    go_enter Try.func44, Try.ntmps44
    go_wp2_with fail
    generalize w.alloc (.cells #[.int .i64 da, .int .i64 db, .int .i64 dc] 25) = w1 at *
    refine (KH.out _ hb1).mono ?_
    rintro e w2 ⟨rfl, hb2⟩
    have B2 := Lib.hid (hb1.trans (hb2.mono hb1.size))
    clear hb2 hX hb1 c0 c1 c2
    cases q with
    | true =>
      have HF : Hid (R = some b) := Lib.hid HR.out
      clear HR
      go_wp2
      go_returns
      rw [HF.out]
      exact ⟨_, rfl, ⟨_, _, _, rfl⟩, fun o e => (by cases e; rw [HBL.out]; exact HO.out _ B2.out), B2.out⟩
    | false =>
      have HF : Hid (R = none) := Lib.hid HR.out
      clear HR
      go_wp2
      go_returns
      rw [HF.out]
      exact ⟨_, rfl, ⟨_, _, _, rfl⟩, fun o e => (by cases e), B2.out⟩
  | succ k ih =>
    intro sz hsz lo hi wv W g c b hszb w B hW hWx hWn hb hbx hB
    have HB0 := Lib.hid hb
    have hbh : ∀ W, Below w.heap.size w W → W.ownsRow B 3 1 (.slice (some ⟨g, 0, none⟩) b.length c) b.length (ints b) := fun W h => own_below hb h (Nat.le_refl _)
    have HO := Lib.hid hbh
    have hnc : b.length ≤ c := by
      rcases hb.2 with ⟨h0, -⟩ | ⟨g', cap', cur, hv, -, -, hn, -⟩
      · cases h0
      · cases hv; exact hn
    have HG : Hid (g < w.heap.size) := Lib.hid (hb.lt g rfl).2
    have KFit := Lib.hid (fun X hX lo hi v l W h1 h2 h3 => fitting_any d hd X hX lo hi v l W h1 h2 h3)
    have IH := Lib.hid ih
    have HR : Hid (complS d (k + 1) b W = goC d (complS d k) b (W.drop 0)) := Lib.hid rfl
    have HST := Lib.hid (fun i hi => goC_step (d := d) (next := complS d k) (b := b) (al := W) (i := i) hi)
    have HEND : Hid (∀ i, ¬ i < W.length → goC d (complS d k) b (W.drop i) = none) := Lib.hid (fun i hi => by rw [List.drop_of_length_le (by omega)]; rfl)
    have HX := Lib.hid (fun i hi => hWx (W.getD i 0) (getD_memI (k := i) hi))
    have HXD : Hid (∀ i x, x ∈ W.drop i → 0 < x ∧ x < 128) := Lib.hid (fun i x (h : x ∈ W.drop i) => hWx x (List.mem_of_mem_drop h))
    have HBX := Lib.hid hbx
    obtain ⟨a, cap, rfl, h1, h2, h3⟩ := hW.parts
    have KEY := Lib.hid h3
    have HV := Lib.hid (fun wb wo (e : a = some ⟨wb, wo, none⟩) i (hi : i ≤ W.length) => (e ▸ hW).tail hi)
    have hz0 : b.length < sz := by omega
    have HBS := Lib.hid hszb
    unfold maxLen at h2
    clear hW h3 hWx hb hbh hbx hd ih hszb
    unfold Dl.v at *
    generalize hRR : complS d (k + 1) b W = R at *
    clear hRR
    have hX : Cm (w.alloc (.cells #[.int .i64 d.a, .int .i64 d.b, .int .i64 d.c] 25)) w.heap.size 25 [.int .i64 d.a, .int .i64 d.b, .int .i64 d.c] := Cm.new (cs := [.int .i64 d.a, .int .i64 d.b, .int .i64 d.c]) rfl
    have hb1 : Below w.heap.size w (w.alloc (.cells #[.int .i64 d.a, .int .i64 d.b, .int .i64 d.c] 25)) := (Below.refl _ _).alloc (Nat.le_refl _) _
    generalize hda : d.a = da at *
    generalize hdb : d.b = db at *
    generalize hdc : d.c = dc at *
    clear hda hdb hdc
    have HW1 := Lib.hid (And.intro hX hb1)
    clear hX hb1
    generalize hbl : b.length = n at *
    have HBL := Lib.hid hbl
    clear hbl
    have hni : (n : Int) ≤ (c : Int) := by omega
    have hni0 : (0 : Int) ≤ (n : Int) := by omega
    have hzb : ((n : Int) == (sz : Int)) = false := beq_eq_false_iff_ne.2 (by omega)
    go_enter Try.func44, Try.ntmps44
    go_wp2
    generalize w.alloc (.cells #[.int .i64 da, .int .i64 db, .int .i64 dc] 25) = w1 at *
    go_loopw [25] (fun iv wr => ∃ i : Nat, i ≤ W.length ∧ iv = .int .i64 i ∧ Hid (R = goC d (complS d k) b (W.drop i)) ∧ Hid (Below w1.heap.size w1 wr)) (fun iv _ => W.length - (intOf iv).toNat)
    case atStart => exact ⟨0, Nat.zero_le _, rfl, HR, Lib.hid (Below.refl _ _)⟩
    case round =>
      clear HR
      obtain ⟨i, hi', rfl, HR, HB⟩ := hrel
      have hii0 : (0 : Int) ≤ (i : Int) := Int.natCast_nonneg _
      by_cases hlt : i < W.length
      · have hii1 : (i : Int) < (W.length : Int) := by omega
        obtain ⟨wb, wo, rfl, -, -, hwb, q0⟩ := KEY.out i hlt
        have HBw : Hid (Below w.heap.size w wr) := Lib.hid (HW1.out.2.trans (HB.out.mono HW1.out.2.size))
        rw [← HBw.out.cell (p := ⟨wb, wo + i, none⟩) hwb] at q0
        have HRi : Hid (R = match complS d k (b ++ [W.getD i 0]) (fitP d (W.getD i 0) (W.drop (i + 1))) with
          | some o => some o
          | none => goC d (complS d k) b (W.drop (i + 1))) := Lib.hid (by rw [HR.out, HST.out i hlt])
        obtain ⟨hx0, hx1⟩ := HX.out i hlt
        obtain ⟨X, hXe⟩ := Int.eq_ofNat_of_zero_le (show 0 ≤ W.getD i 0 by omega)
        have hX7 : X < 128 := by omega
        have hX0 : 0 < X := by omega
        have HT := Lib.hid (fun W' (hW : Below w.heap.size w W') => (HV.out wb wo rfl (i + 1) (by omega)).keeps (Keeps.of_all hW))
        have HXL := Lib.hid (HXD.out (i + 1))
        have HLL : Hid ((W.drop (i + 1)).length ≤ 128) := Lib.hid (by rw [List.length_drop]; omega)
        rw [hXe] at q0 HRi
        clear hx0 hx1 hXe HR
        obtain ⟨L', hL'⟩ : ∃ L', L' = W.drop (i + 1) := ⟨_, rfl⟩
        rw [← hL'] at HRi HT HXL HLL
        have HLD := Lib.hid hL'
        clear hL'
        have hiw : IntKind.i64.wrap ((i : Int) + 1) = (i : Int) + 1 := IntWalk.i64_in _ (by omega)
        have HBrow := Lib.hid (HO.out wr HBw.out)
        have hgr : g < wr.heap.size := Nat.lt_of_lt_of_le HG.out HBw.out.size
        go_wp2_with (at_builtin; go_loud (refine wpList_pushN rfl (.tmp 35) (.tmp 37) 28 38 rfl rfl 3 (.int .i64 0) 8 Try.underlying28 Try.infoI rfl (.int .i64 X) g 0 n (ints b) (by rw [ints_len]; exact HBL.out) hgr (fun j u hu => by have h := HBrow.out.cells (g := g) rfl j u hu; rwa [addr_add0] at h) rfl wr.heap.size rfl rfl (by unfold maxLen; omega) (by omega) ?_); intro v6 w6 hown hg6; have L6 := Lib.hid hown; have B6 := Lib.hid hg6; clear hown hg6)
        obtain ⟨g6, c6, e6, hg6B⟩ := own_some L6.out (by omega)
        subst e6
        have hs6 : Below w.heap.size w w6 := HBw.out.trans (B6.out.mono HBw.out.size)
        have B1w6 : Hid (Below w1.heap.size w1 w6) := Lib.hid (HB.out.trans (B6.out.mono HB.out.size))
        have HX6 := Lib.hid (fun W' (hW : Below w6.heap.size w6 W') => (HW1.out.1.all B1w6.out).all hW)
        have HT6 := Lib.hid (fun W' (hW : Below w6.heap.size w6 W') => HT.out W' (hs6.trans (hW.mono hs6.size)))
        have HL6 := Lib.hid (fun W' (hW : Below w6.heap.size w6 W') => own_below L6.out hW (Nat.le_refl _))
        have Hrw : Hid (wr.heap.size ≤ w6.heap.size) := Lib.hid B6.out.size
        clear hs6 B6 hg6B
        have KFX := Lib.hid (fun (W' : World) (hW : Below w6.heap.size w6 W') => KFit.out X hX7 lo hi _ L' W' (HT6.out W' hW) (fun x hx => by have := HXL.out x hx; omega) (by have := HLL.out; omega))
        have HFX : Hid ((∀ x ∈ fitP d X L', 0 < x ∧ x < 128) ∧ (fitP d X L').length ≤ 128) := Lib.hid ⟨fun x hx => HXL.out x (List.mem_filter.1 hx).1, Nat.le_trans (List.length_filter_le _ _) HLL.out⟩
        have HBX6 : Hid (∀ x ∈ b ++ [(X : Int)], 0 < x ∧ x < 128) := Lib.hid (fun x hx => by
          rcases List.mem_append.1 hx with h | h
          · exact HBX.out x h
          · rw [List.mem_singleton] at h; omega)
        have IHX := Lib.hid (fun (fv : Value) (flo fhi : Nat) (W' : World) (hf : Iv flo fhi W' fv (fitP d X L')) (hb' : W'.ownsRow wr.heap.size 3 1 (.slice (some ⟨g6, 0, none⟩) (n + 1) c6) (n + 1) (ints b ++ [.int .i64 X])) (hw' : wr.heap.size ≤ W'.heap.size) => by
          have h := IH.out sz hsz flo fhi fv (fitP d X L') g6 c6 (b ++ [(X : Int)]) (by have := HBS.out; rw [List.length_append, HBL.out]; simp; omega) W' wr.heap.size hf HFX.out.1 HFX.out.2 (by rw [ints_snoc, List.length_append, HBL.out]; exact hb') HBX6.out hw'
          rwa [List.length_append, HBL.out] at h)
        generalize fitP d X L' = F at *
        generalize complS d k (b ++ [(X : Int)]) F = r at *
        go_wp2
        refine regionL (fun W' => Below w6.heap.size w6 W') [] (by kernel_rfl) (Below.refl _ _).drew (fun hHeld => ?_)
        refine takeA (i := 0) (v := .agg #[.int .i64 da, .int .i64 db, .int .i64 dc]) 40 rfl rfl (by kernel_rfl) (by kernel_rfl) (by kernel_rfl) (by kernel_rfl) (fun _ _ _ h => h) (Or.inl ⟨by rfl, by intro W hSw; have hz := HX6.out _ hSw; have c0 := hz.cell 0; have c1 := hz.cell 1; have c2 := hz.cell 2; simp only [List.getElem?_cons_zero, List.getElem?_cons_succ] at c0 c1 c2; go_simp⟩) hHeld ?_
        simp only [Act.put, List.setIfInBounds_toArray, List.set_cons_zero, List.set_cons_succ]
        refine takeA (i := 1) (v := .slice (some ⟨g6, 0, none⟩) (n + 1) c6) 41 rfl rfl (by kernel_rfl) (by kernel_rfl) (by kernel_rfl) (by kernel_rfl) (fun _ _ _ h => h) (Or.inl ⟨by rfl, by intro W hSw; go_simp⟩) hHeld ?_
        simp only [Act.put, List.setIfInBounds_toArray, List.set_cons_zero, List.set_cons_succ]
        refine takeA (i := 2) (v := .agg #[.int .i64 da, .int .i64 db, .int .i64 dc]) 42 rfl rfl (by kernel_rfl) (by kernel_rfl) (by kernel_rfl) (by kernel_rfl) (fun _ _ _ h => h) (Or.inl ⟨by rfl, by intro W hSw; have hz := HX6.out _ hSw; have c0 := hz.cell 0; have c1 := hz.cell 1; have c2 := hz.cell 2; simp only [List.getElem?_cons_zero, List.getElem?_cons_succ] at c0 c1 c2; go_simp⟩) hHeld ?_
        simp only [Act.put, List.setIfInBounds_toArray, List.set_cons_zero, List.set_cons_succ]
        refine takeA (i := 3) (v := .int .i64 X) 43 rfl rfl (by kernel_rfl) (by kernel_rfl) (by kernel_rfl) (by kernel_rfl) (fun _ _ _ h => h) (Or.inl ⟨by rfl, by intro W hSw; go_simp⟩) hHeld ?_
        simp only [Act.put, List.setIfInBounds_toArray, List.set_cons_zero, List.set_cons_succ]
        refine takeA (i := 4) (v := .slice (some ⟨wb, wo, none⟩) W.length cap) 44 rfl rfl (by kernel_rfl) (by kernel_rfl) (by kernel_rfl) (by kernel_rfl) (fun _ _ _ h => h) (Or.inl ⟨by rfl, by intro W hSw; go_simp⟩) hHeld ?_
        simp only [Act.put, List.setIfInBounds_toArray, List.set_cons_zero, List.set_cons_succ]
        refine takeA (i := 5) (v := .int .i64 i) 45 rfl rfl (by kernel_rfl) (by kernel_rfl) (by kernel_rfl) (by kernel_rfl) (fun _ _ _ h => h) (Or.inl ⟨by rfl, by intro W hSw; go_simp⟩) hHeld ?_
        simp only [Act.put, List.setIfInBounds_toArray, List.set_cons_zero, List.set_cons_succ]
        refine takeA (i := 6) (v := .int .i64 (i + 1)) 46 rfl rfl (by kernel_rfl) (by kernel_rfl) (by kernel_rfl) (by kernel_rfl) (fun _ _ _ h => h) (Or.inl ⟨by rfl, by intro W hSw; go_simp⟩) hHeld ?_
        simp only [Act.put, List.setIfInBounds_toArray, List.set_cons_zero, List.set_cons_succ]
        refine takeA (i := 7) (v := tailV wb wo (i + 1) W.length cap) 47 rfl rfl (by kernel_rfl) (by kernel_rfl) (by kernel_rfl) (by kernel_rfl) (fun _ _ _ h => h) (Or.inl ⟨by rfl, by intro W hSw; go_simp; unfold tailV; rw [if_pos (by omega)]⟩) hHeld ?_
        simp only [Act.put, List.setIfInBounds_toArray, List.set_cons_zero, List.set_cons_succ]
        refine takeA (i := 9) (v := .int .i64 sz) 49 rfl rfl (by kernel_rfl) (by kernel_rfl) (by kernel_rfl) (by kernel_rfl) (fun _ _ _ h => h) (Or.inl ⟨by rfl, by intro W hSw; go_simp⟩) hHeld ?_
        simp only [Act.put, List.setIfInBounds_toArray, List.set_cons_zero, List.set_cons_succ]
        generalize w6.drew = wd at hHeld ⊢
        refine onlyL (i := 8) (by kernel_rfl) rfl (by rfl) (fun K hK => ?_)
        go_simp
        refine (KFX.out _ hHeld).mono ?_
        rintro e w7 ⟨v7, rfl, ho7, hb7⟩
        have t7 : Below w6.heap.size w6 w7 := hHeld.trans (hb7.mono hHeld.size)
        have V7 := Lib.hid ho7.read
        clear hb7 ho7 hHeld
        refine hK.out _ _ (fun _ => t7) (fun _ => ?_)
        clear hK K
        try simp only [Act.put, List.setIfInBounds_toArray, List.set_cons_zero, List.set_cons_succ]
        refine onlyL (i := 10) (by kernel_rfl) rfl (by rfl) (fun K hK => ?_)
        go_simp
        refine (IHX.out _ _ _ _ V7.out (HL6.out _ t7) (Nat.le_trans Hrw.out t7.size)).mono ?_
        rintro e w8 ⟨v8, rfl, ⟨a8, n8, c8, e8⟩, hs8, hb8⟩
        subst e8
        have t8 : Below w6.heap.size w6 w8 := t7.trans (hb8.mono t7.size)
        have HS8 := Lib.hid hs8
        clear hb8 hs8 t7 V7
        refine hK.out _ _ (fun _ => t8) (fun hHeld => ?_)
        have hHeld := hHeld (by decide)
        clear hK K
        try simp only [Act.put, List.setIfInBounds_toArray, List.set_cons_zero, List.set_cons_succ]
        obtain ⟨ok8, hok8⟩ : ∃ b, b = r.isSome := ⟨_, rfl⟩
        rw [← hok8]
        refine takeA (i := 11) (v := .tuple #[.slice a8 n8 c8, .bool ok8]) 39 rfl rfl (by kernel_rfl) (by kernel_rfl) (by kernel_rfl) (by kernel_rfl) (fun _ _ _ h => h) (Or.inl ⟨by rfl, by intro W hSw; go_simp⟩) hHeld ?_
        simp only [Act.put, List.setIfInBounds_toArray, List.set_cons_zero, List.set_cons_succ]
        refine takeA (i := 12) (v := .slice a8 n8 c8) 51 rfl rfl (by kernel_rfl) (by kernel_rfl) (by kernel_rfl) (by kernel_rfl) (fun _ _ _ h => h) (Or.inl ⟨by rfl, by intro W hSw; go_simp⟩) hHeld ?_
        simp only [Act.put, List.setIfInBounds_toArray, List.set_cons_zero, List.set_cons_succ]
        refine takeA (i := 13) (v := .bool ok8) 52 rfl rfl (by kernel_rfl) (by kernel_rfl) (by kernel_rfl) (by kernel_rfl) (fun _ _ _ h => h) (Or.inl ⟨by rfl, by intro W hSw; go_simp⟩) hHeld ?_
        simp only [Act.put, List.setIfInBounds_toArray, List.set_cons_zero, List.set_cons_succ]
        refine takeA (i := 14) (v := .slice a8 n8 c8) 13 rfl rfl (by kernel_rfl) (by kernel_rfl) (by kernel_rfl) (by kernel_rfl) (fun _ _ _ h => h) (Or.inl ⟨by rfl, by intro W hSw; go_simp⟩) hHeld ?_
        simp only [Act.put, List.setIfInBounds_toArray, List.set_cons_zero, List.set_cons_succ]
        refine takeA (i := 15) (v := .bool ok8) 14 rfl rfl (by kernel_rfl) (by kernel_rfl) (by kernel_rfl) (by kernel_rfl) (fun _ _ _ h => h) (Or.inl ⟨by rfl, by intro W hSw; go_simp⟩) hHeld ?_
        simp only [Act.put, List.setIfInBounds_toArray, List.set_cons_zero, List.set_cons_succ]
        refine doneL (by kernel_rfl) ?_ _
        clear hHeld
        have B8 := Lib.hid (B1w6.out.trans (t8.mono B1w6.out.size))
        clear t8
        cases r with
        | none =>
          have HF : Hid (R = goC d (complS d k) b (W.drop (i + 1))) := Lib.hid (by rw [HRi.out, HLD.out])
          subst hok8
          simp only [Option.isSome_none]
          clear HS8 HRi
          go_wp2
          go_roundw
          case rel => exact ⟨i + 1, by omega, by go_num, HF, B8⟩
          case measure => simp [intOf] <;> omega
        | some o =>
          have HF : Hid (R = some o) := Lib.hid HRi.out
          subst hok8
          simp only [Option.isSome_some]
          clear HRi
          go_wp2
          go_returns
          rw [HF.out]
          exact ⟨_, rfl, ⟨_, _, _, rfl⟩, fun o' e => (by cases e; exact ownC (HS8.out _ rfl) (Nat.le_trans hB HBw.out.size)), HW1.out.2.trans (B8.out.mono HW1.out.2.size)⟩
      · have HF : Hid (R = none) := Lib.hid (by rw [HR.out, HEND.out i hlt])
        have hnl : ¬ (i : Int) < (W.length : Int) := by omega
        clear HR
        go_wp2
        go_returns
        rw [HF.out]
        exact ⟨_, rfl, ⟨_, _, _, rfl⟩, fun o e => (by cases e), HW1.out.2.trans (HB.out.mono HW1.out.2.size)⟩
end Go.Proofs.Yteahjnobnbafiaa
