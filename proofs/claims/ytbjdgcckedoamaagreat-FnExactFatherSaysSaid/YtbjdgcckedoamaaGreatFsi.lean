/-
  Contracts of impl.allClean, someDirty and FatherSays. Condition of the first two: at most three agents.
-/
import Derived.Test.YtbjdgcckedoamaaGreatZAnn
import Derived.Test.YtbjdgcckedoamaaGreatLayA
namespace Go.Proofs.YtbjdgcckedoamaaGreat
open Go.RowKit Go.WideShapes
open Go Go.Deep
set_option linter.unusedSimpArgs false

/-- the facts from x on, n + 1 of them, are false -/
def cleanT (x : Int) : Nat → Tm
  | 0 => .deny (.leaf 1 x)
  | n + 1 => .joint 4 (.deny (.leaf 1 x)) (cleanT (x + 1) n)
/-- at least one of k facts is true -/
def someT (k : Nat) : Tm := .deny (cleanT 0 (k - 1))
def fatherR (m : Md) : Option Md := if mdOk m then annR m (lay 0 (someT m.blocks.length)) else none
theorem father_size (m : Md) : msize ((fatherR m).getD ⟨[], [], 0⟩) + ((fatherR m).getD ⟨[], [], 0⟩).blocks.length ≤ 1048576 := by
  unfold fatherR
  split
  · exact ann_size _ _
  · decide

set_option maxRecDepth 100000 in
set_option maxHeartbeats 16000000 in
theorem clean_any : ∀ (n : Nat) (x T : Int) (w : World), n ≤ 3 → 0 ≤ x → x + n ≤ 3 → T = x + n + 1 →
    Calls Tryz.prog 41 #[.int .i64 x, .int .i64 T] w fun e w' => e = .returned (tv (cleanT x n)) ∧ Below w.heap.size w w' := by
  intro n
  induction n with
  | zero =>
    intro x T w _ h0 h3 hT
    have hT' : T = x + 1 := by omega
    subst hT'
    clear hT
    unfold cleanT tv tv
    go_enter Tryz.func41, Tryz.ntmps41
    go_wp2
    go_ret
    exact ⟨rfl, (Below.refl _ _).alloc (Nat.le_refl _) _⟩
  | succ n ih =>
    intro x T w hn h0 h3 hT
    have hne : ¬ x + 1 = T := by omega
    have KC := Lib.hid (fun W => ih (x + 1) T W (by omega) (by omega) (by omega) (by omega))
    have hw1 : IntKind.i64.wrap (x + 1) = x + 1 := IntWalk.i64_in _ (by omega)
    have HW := Lib.hid hw1
    obtain ⟨ty, pv, htc⟩ := tv_form (cleanT (x + 1) n)
    have HTV : Hid (tv (cleanT x (n + 1)) = .iface 102 (.agg #[.int .i64 4, .iface 75 (.agg #[.iface 100 (.agg #[.int .i64 1, .int .i64 x])]), .iface ty pv])) := Lib.hid (by rw [← htc]; rfl)
    rw [htc] at KC
    generalize tv (cleanT x (n + 1)) = R at *
    clear htc ih hT hw1
    go_enter Tryz.func41, Tryz.ntmps41
    go_wp2
    have hb0 : Below w.heap.size w (w.alloc (.cells #[.iface 100 (.agg #[.int .i64 1, .int .i64 x])] 75)) := (Below.refl _ _).alloc (Nat.le_refl _) _
    have hc0 : (w.alloc (.cells #[.iface 100 (.agg #[.int .i64 1, .int .i64 x])] 75)).cell? ⟨w.heap.size, 0, none⟩ = some (.iface 100 (.agg #[.int .i64 1, .int .i64 x])) := (World.cell?_alloc_at _ _ _ _ rfl).trans rfl
    have hz0 : (w.alloc (.cells #[.iface 100 (.agg #[.int .i64 1, .int .i64 x])] 75)).heap.size = w.heap.size + 1 := by simp
    generalize w.alloc (.cells #[.iface 100 (.agg #[.int .i64 1, .int .i64 x])] 75) = w1 at *
    have B1 := Lib.hid hb0
    have HC : Hid (∀ W, Below (w.heap.size + 1) w1 W → W.cell? ⟨w.heap.size, 0, none⟩ = some (.iface 100 (.agg #[.int .i64 1, .int .i64 x]))) := Lib.hid (fun W h => (h.cell (p := ⟨w.heap.size, 0, none⟩) (by show w.heap.size < _; omega)).trans hc0)
    have Z0 := Lib.hid hz0
    clear hb0 hc0 hz0
    refine regionL (fun W => Below (w.heap.size + 1) w1 W) [] (by kernel_rfl) (Below.refl _ _).drew (fun hHeld => ?_)
    have t1 : Below (w.heap.size + 1) w1 w1.drew := (Below.refl _ _).drew
    refine takeA (i := 0) (v := .agg #[.iface 100 (.agg #[.int .i64 1, .int .i64 x])]) 16 rfl rfl (by kernel_rfl) (by kernel_rfl) (by kernel_rfl) (by kernel_rfl) (fun _ _ _ h => h) (Or.inl ⟨by rfl, by intro W hSw; have c1 := HC.out _ hSw; go_simp⟩) hHeld ?_
    simp only [Act.put, List.setIfInBounds_toArray, List.set_cons_zero, List.set_cons_succ]
    refine takeA (i := 1) (v := .iface 75 (.agg #[.iface 100 (.agg #[.int .i64 1, .int .i64 x])])) 17 rfl rfl (by kernel_rfl) (by kernel_rfl) (by kernel_rfl) (by kernel_rfl) (fun _ _ _ h => h) (Or.inl ⟨by rfl, by intro W hSw; go_simp⟩) hHeld ?_
    simp only [Act.put, List.setIfInBounds_toArray, List.set_cons_zero, List.set_cons_succ]
    refine takeA (i := 2) (v := .int .i64 x) 18 rfl rfl (by kernel_rfl) (by kernel_rfl) (by kernel_rfl) (by kernel_rfl) (fun _ _ _ h => h) (Or.inl ⟨by rfl, by intro W hSw; go_simp⟩) hHeld ?_
    simp only [Act.put, List.setIfInBounds_toArray, List.set_cons_zero, List.set_cons_succ]
    refine takeA (i := 3) (v := .int .i64 (x + 1)) 19 rfl rfl (by kernel_rfl) (by kernel_rfl) (by kernel_rfl) (by kernel_rfl) (fun _ _ _ h => h) (Or.inl ⟨by rfl, by intro W hSw; go_simp; rw [HW.out]⟩) hHeld ?_
    simp only [Act.put, List.setIfInBounds_toArray, List.set_cons_zero, List.set_cons_succ]
    refine takeA (i := 4) (v := .int .i64 T) 20 rfl rfl (by kernel_rfl) (by kernel_rfl) (by kernel_rfl) (by kernel_rfl) (fun _ _ _ h => h) (Or.inl ⟨by rfl, by intro W hSw; go_simp⟩) hHeld ?_
    simp only [Act.put, List.setIfInBounds_toArray, List.set_cons_zero, List.set_cons_succ]
    refine onlyL (i := 5) (by kernel_rfl) rfl (by rfl) (fun K hK => ?_)
    go_simp
    refine (KC.out _).mono ?_
    rintro e w2 ⟨rfl, hb2⟩
    have t2 : Below (w.heap.size + 1) w1 w2 := t1.trans (hb2.mono (show w.heap.size + 1 ≤ w1.heap.size by have := Z0.out; omega))
    clear hb2 hHeld
    refine hK.out _ _ (fun _ => t2) (fun hHeld => ?_)
    have hHeld := hHeld (by decide)
    clear hK K
    try simp only [Act.put, List.setIfInBounds_toArray, List.set_cons_zero, List.set_cons_succ]
    refine takeA (i := 6) (v := (.agg #[.int .i64 4, .iface 75 (.agg #[.iface 100 (.agg #[.int .i64 1, .int .i64 x])]), .iface ty pv])) 22 rfl rfl (by kernel_rfl) (by kernel_rfl) (by kernel_rfl) (by kernel_rfl) (fun _ _ _ h => h) (Or.inl ⟨by rfl, by intro W hSw; go_simp⟩) hHeld ?_
    simp only [Act.put, List.setIfInBounds_toArray, List.set_cons_zero, List.set_cons_succ]
    refine takeA (i := 7) (v := (.iface 102 (.agg #[.int .i64 4, .iface 75 (.agg #[.iface 100 (.agg #[.int .i64 1, .int .i64 x])]), .iface ty pv]))) 23 rfl rfl (by kernel_rfl) (by kernel_rfl) (by kernel_rfl) (by kernel_rfl) (fun _ _ _ h => h) (Or.inl ⟨by rfl, by intro W hSw; go_simp⟩) hHeld ?_
    simp only [Act.put, List.setIfInBounds_toArray, List.set_cons_zero, List.set_cons_succ]
    refine takeA (i := 8) (v := (.iface 102 (.agg #[.int .i64 4, .iface 75 (.agg #[.iface 100 (.agg #[.int .i64 1, .int .i64 x])]), .iface ty pv]))) 4 rfl rfl (by kernel_rfl) (by kernel_rfl) (by kernel_rfl) (by kernel_rfl) (fun _ _ _ h => h) (Or.inl ⟨by rfl, by intro W hSw; go_simp⟩) hHeld ?_
    simp only [Act.put, List.setIfInBounds_toArray, List.set_cons_zero, List.set_cons_succ]
    refine doneL (by kernel_rfl) ?_ _
    go_wp2
    go_ret
    exact ⟨by rw [HTV.out]; rfl, B1.out.trans (t2.mono (by have := B1.out.size; have := Z0.out; omega))⟩

theorem some_size {k : Nat} (h3 : k ≤ 3) : (someT k).size ≤ 200 := by
  have hk : k = 0 ∨ k = 1 ∨ k = 2 ∨ k = 3 := by omega
  rcases hk with rfl | rfl | rfl | rfl <;> decide
set_option maxRecDepth 100000 in
set_option maxHeartbeats 16000000 in
theorem some_any (k : Nat) (h1 : 1 ≤ k) (h3 : k ≤ 3) (w : World) :
    Calls Tryz.prog 21 #[.int .i64 k] w fun e w' => ∃ v, e = .returned v ∧ Ns w' v (lay 0 (someT k)) ∧ Below w.heap.size w w' := by
  have KC := Lib.hid (fun W => clean_any (k - 1) 0 k W (by omega) (by omega) (by omega) (by omega))
  have KL := Lib.hid (fun W => layOut_any (someT k) W (.slice none 0 0) 0 [] W.heap.size (by have := some_size h3; omega) (World.ownsRow_nil _ _ _ _) (Nat.le_refl _))
  obtain ⟨ty, pv, htc⟩ := tv_form (cleanT 0 (k - 1))
  have htv : tv (someT k) = .iface 75 (.agg #[.iface ty pv]) := by rw [← htc]; rfl
  rw [htc] at KC
  simp only [htv] at KL
  unfold LayPost at KL
  generalize lay 0 (someT k) = ys at *
  simp only [List.nil_append] at KL
  clear htc htv h1 h3
  go_enter Tryz.func21, Tryz.ntmps21
  go_wp2_with fail
  refine (KC.out _).mono ?_
  rintro e w1 ⟨rfl, hb1⟩
  have B1 := Lib.hid hb1
  clear hb1
  go_wp2_with fail
  refine (KL.out _).mono ?_
  rintro e w2 ⟨v2, rfl, ho2, hb2, -⟩
  have O2 := Lib.hid (Ns.of_own ho2)
  have B2 := Lib.hid (B1.out.trans (hb2.mono B1.out.size))
  clear ho2 hb2
  obtain ⟨a2, c2, e2, -⟩ := O2.out
  subst e2
  go_wp2
  go_ret
  exact ⟨_, rfl, O2.out, B2.out⟩

set_option maxRecDepth 100000 in
set_option maxHeartbeats 16000000 in
theorem implFather_any (lo hi : Nat) (v : Value) (m : Md) (w : World) (hr : Mv lo hi w v m) (hhi : hi ≤ w.heap.size) :
    Calls Tryz.prog 7 #[v] w (MdAns2 w (fatherR m)) := by
  have KG := Lib.hid (fun W (h : Below w.heap.size w W) => gridOf_any lo hi v m W (hr.keeps (Keeps.of_all h)) (Nat.le_trans hhi h.size))
  have KA := Lib.hid (fun W (h : Below w.heap.size w W) v2 ys (h2 : Ns W v2 ys) => implAnn_any lo hi v v2 m ys W (hr.keeps (Keeps.of_all h)) (Nat.le_trans hhi h.size) h2)
  have HR : Hid (fatherR m = if mdOk m then annR m (lay 0 (someT m.blocks.length)) else none) := Lib.hid rfl
  generalize fatherR m = R at *
  obtain ⟨fv, bv, rfl, hf, hb⟩ := hr
  clear hf hb hhi
  cases hm : mdOk m with
  | false =>
    simp only [hm, Bool.false_eq_true, if_false] at KG
    have HR' : Hid (R = none) := Lib.hid (by rw [HR.out, hm]; rfl)
    clear HR hm KA
    unfold GdAns at KG
    simp only [Option.getD_none, Option.isSome_none] at KG
    have HLG : Hid ((ints (gL 0 0 [] [] 0)).length = 67) := Lib.hid rfl
    have HLO := Lib.hid (fun v (hv : v ∈ ints (gL 0 0 [] [] 0)) => ints_one hv)
    obtain ⟨G, hG⟩ : ∃ G, G = gL 0 0 [] [] 0 := ⟨_, rfl⟩
    rw [← hG] at KG HLG HLO
    clear hG
    go_enter Tryz.func7, Tryz.ntmps7
    go_wp2_with fail
    refine (KG.out _ (by go_grown)).mono ?_
    rintro e w1 ⟨rfl, hb1⟩
    have M1 := Lib.hid (Mcell.below (b := w.heap.size + 1) (Mcell.new (by simp)) hb1)
    have B1 : Hid (Below w.heap.size w w1) := Lib.hid (Below.trans (by go_grown) (hb1.mono (by simp; omega)))
    clear hb1
    go_wp2_with
      (first
        | (refine wpList_allocM rfl 48 rfl (ints (gL 0 0 [] [] 0)) Tryz.allocGrid ?_
           intro w2 hc2 hb2 hs2
           have CC := Lib.hid hc2
           have BB : Hid (Below w.heap.size w w2) := Lib.hid (B1.out.trans (hb2.mono B1.out.size))
           have MM := Lib.hid (M1.out.below hb2)
           have hgb : w.heap.size + 1 < w1.heap.size := M1.out.lt
           clear hc2 hb2 hs2 M1)
        | (refine wpList_storeM rfl 48 _ _ rfl w1.heap.size 0 rfl (ints G) rfl 48 (ints (gL 0 0 [] [] 0)) CC.out (by rw [HLG.out]; exact Nat.le_refl _) (by rw [HLG.out]; exact Tryz.sizeGrid) HLO.out ?_
           intro w3 hc3 ha3
           rw [lay'_all (by rw [HLG.out]; rfl)] at hc3
           have CC := Lib.hid hc3
           have BB : Hid (Below w.heap.size w w3) := Lib.hid (BB.out.trans (ha3.below B1.out.size))
           have MM := Lib.hid (MM.out.of_block (ha3.block _ (by omega)))
           obtain ⟨mc0, mc1, mc2, mc3, mc4, mc5⟩ := MM.out
           clear hc3 ha3))
    clear mc0 mc1 mc2 mc3 mc4 mc5
    have M6 := MM.out.write (.slice none 0 0) (.slice none 0 0) 0
    refine bodyPost_ret (results_mid2 Tryz.results7 _ _ (w.heap.size + 1) _ _ (.bool false) rfl rfl M6.range Tryz.underlying27 rfl Tryz.sizeMd) rfl ?_
    rw [HR'.out]
    exact ⟨_, rfl, Mo.none _ _ _, ((BB.out.setCell (by show _ ≤ w.heap.size + 1; omega) _).setCell (by show _ ≤ w.heap.size + 1; omega) _).setCell (by show _ ≤ w.heap.size + 1; omega) _⟩
  | true =>
    simp only [hm, if_true] at KG
    have hs := md_small hm
    obtain ⟨p1, p2, p3, p4, -⟩ := mdOk_parts hm
    rw [hm] at HR
    unfold GdAns at KG
    simp only [Option.getD_some, Option.isSome_some] at KG
    have HLG : Hid ((ints (gOf m)).length = 67) := Lib.hid (by rw [ints_len]; exact gL_len hs)
    have HLO := Lib.hid (fun v (hv : v ∈ ints (gOf m)) => ints_one hv)
    have HC1 := Lib.hid (fun W b T (h : Cm W b T (ints (gOf m))) => (Cm.g1 h : W.cell? ⟨b, 1, none⟩ = some (.int .i64 m.blocks.length)))
    have KS := Lib.hid (fun W => some_any m.blocks.length p3 p4 W)
    have HR' : Hid (R = annR m (lay 0 (someT m.blocks.length))) := Lib.hid (by rw [HR.out]; rfl)
    have KA := Lib.hid (fun W h v2 h2 => KA.out W h v2 (lay 0 (someT m.blocks.length)) h2)
    rw [← HR'.out] at KA
    generalize lay 0 (someT m.blocks.length) = ys at *
    unfold MdAns2 at KA ⊢
    generalize R.getD ⟨[], [], 0⟩ = RM at *
    generalize R.isSome = ok at *
    generalize gOf m = G at *
    clear hs hm HR HR' p1 p2 p3 p4
    go_enter Tryz.func7, Tryz.ntmps7
    go_wp2_with fail
    refine (KG.out _ (by go_grown)).mono ?_
    rintro e w1 ⟨rfl, hb1⟩
    have X1 := Lib.hid (Mcell.below (b := w.heap.size) ((Mcell.new (w := w) (T := 27) (fv := fv) (bv := bv) (n := m.actual) rfl).alloc (.cells #[.slice none 0 0, .slice none 0 0, .int .i64 0] 27)) hb1)
    have C1 : Hid (Cm w1 (w.heap.size + 1) 27 [.slice none 0 0, .slice none 0 0, .int .i64 0]) := Lib.hid (Cm.all (Cm.new (by simp)) hb1)
    have B1 : Hid (Below w.heap.size w w1) := Lib.hid (Below.trans (by go_grown) (hb1.mono (by simp; omega)))
    have lt1 : w.heap.size + 1 < w1.heap.size := C1.out.lt
    clear hb1 KG
    go_wp2_with
      (first
        | (refine wpList_allocM rfl 48 rfl (ints (gL 0 0 [] [] 0)) Tryz.allocGrid ?_
           intro w2 hc2 hb2 hs2
           have CC := Lib.hid hc2
           have BB : Hid (Below w.heap.size w w2) := Lib.hid (B1.out.trans (hb2.mono B1.out.size))
           have XX := Lib.hid (X1.out.below hb2)
           have RR := Lib.hid (C1.out.all hb2)
           clear hc2 hb2 hs2)
        | (refine wpList_storeM rfl 48 (.tmp 4) (.tmp 9) rfl w1.heap.size 0 rfl (ints G) rfl 48 (ints (gL 0 0 [] [] 0)) CC.out (by rw [HLG.out]; exact Nat.le_refl _) (by rw [HLG.out]; exact Tryz.sizeGrid) HLO.out ?_
           intro w3 hc3 ha3
           rw [lay'_all (by rw [HLG.out]; rfl)] at hc3
           have CC := Lib.hid hc3
           have BB : Hid (Below w.heap.size w w3) := Lib.hid (BB.out.trans (ha3.below B1.out.size))
           have XX := Lib.hid (XX.out.of_block (ha3.block _ (by omega)))
           have RR := Lib.hid (ha3.cm RR.out (by omega))
           clear hc3 ha3))
    have lt3 : w1.heap.size < w3.heap.size := CC.out.lt
    have HRG : Hid (∀ W, Below w3.heap.size w3 W → W.rangeAt w.heap.size 0 [fv, bv, .int .i64 m.actual]) := Lib.hid (fun W h => (XX.out.below h).range)
    have HG1 : Hid (∀ W, Below w3.heap.size w3 W → W.cell? ⟨w1.heap.size, 1, none⟩ = some (.int .i64 m.blocks.length)) := Lib.hid (fun W h => HC1.out _ _ _ (CC.out.all h))
    have HU : Tryz.prog.underlying 27 = some _ := Tryz.underlying27
    refine regionL (fun W => Below w3.heap.size w3 W) [7, 8] (by kernel_rfl) (Below.refl _ _).drew (fun hHeld => ?_)
    have t1 : Below w3.heap.size w3 w3.drew := (Below.refl _ _).drew
    refine takeA (i := 0) (v := .agg #[fv, bv, .int .i64 m.actual]) 14 rfl rfl (by kernel_rfl) (by kernel_rfl) (by kernel_rfl) (by kernel_rfl) (fun _ _ _ h => h) (yieldsIf_load_mid (by rfl) 27 _ rfl w.heap.size 0 rfl [fv, bv, .int .i64 m.actual] _ HRG.out HU rfl Tryz.sizeMd) hHeld ?_
    simp only [Act.put, List.setIfInBounds_toArray, List.set_cons_zero, List.set_cons_succ]
    refine takeA (i := 1) (v := .pointer (some ⟨w1.heap.size, 1, none⟩)) 15 rfl rfl (by kernel_rfl) (by kernel_rfl) (by kernel_rfl) (by kernel_rfl) (fun _ _ _ h => h) (Or.inl ⟨by rfl, by intro W hSw; go_simp⟩) hHeld ?_
    simp only [Act.put, List.setIfInBounds_toArray, List.set_cons_zero, List.set_cons_succ]
    refine takeA (i := 2) (v := .int .i64 m.blocks.length) 16 rfl rfl (by kernel_rfl) (by kernel_rfl) (by kernel_rfl) (by kernel_rfl) (fun _ _ _ h => h) (Or.inl ⟨by rfl, by intro W hSw; have c1 := HG1.out _ hSw; go_simp⟩) hHeld ?_
    simp only [Act.put, List.setIfInBounds_toArray, List.set_cons_zero, List.set_cons_succ]
    refine onlyL (i := 3) (by kernel_rfl) rfl (by rfl) (fun K hK => ?_)
    go_simp
    refine (KS.out _).mono ?_
    rintro e w4 ⟨v4, rfl, ho4, hb4⟩
    have t4 : Below w3.heap.size w3 w4 := t1.trans hb4
    have O4 := Lib.hid ho4
    obtain ⟨a4, c4, e4, -⟩ := ho4
    subst e4
    clear hb4 hHeld
    refine hK.out _ _ (fun _ => t4) (fun hHeld => ?_)
    have hHeld := hHeld (by decide)
    clear hK K
    try simp only [Act.put, List.setIfInBounds_toArray, List.set_cons_zero, List.set_cons_succ]
    refine onlyL (i := 4) (by kernel_rfl) rfl (by rfl) (fun K hK => ?_)
    go_simp
    refine (KA.out _ (BB.out.trans (t4.mono BB.out.size)) _ O4.out).mono ?_
    rintro e w5 ⟨v5, rfl, ho5, hb5⟩
    have t5 : Below w3.heap.size w3 w5 := t4.trans (hb5.mono t4.size)
    obtain ⟨qa, qc, pa, pc, e5⟩ := ho5.read.form
    subst e5
    have O5 := Lib.hid ho5
    have z4 := t4.size
    clear hb5 hHeld ho5 O4
    refine hK.out _ _ (fun _ => t5) (fun hHeld => ?_)
    have hHeld := hHeld (by decide)
    clear hK K
    try simp only [Act.put, List.setIfInBounds_toArray, List.set_cons_zero, List.set_cons_succ]
    refine takeA (i := 5) (v := (.agg #[.slice qa RM.facts.length qc, .slice pa RM.blocks.length pc, .int .i64 RM.actual])) 19 rfl rfl (by kernel_rfl) (by kernel_rfl) (by kernel_rfl) (by kernel_rfl) (fun _ _ _ h => h) (Or.inl ⟨by rfl, by intro W hSw; go_simp⟩) hHeld ?_
    simp only [Act.put, List.setIfInBounds_toArray, List.set_cons_zero, List.set_cons_succ]
    refine takeA (i := 6) (v := (.bool ok)) 20 rfl rfl (by kernel_rfl) (by kernel_rfl) (by kernel_rfl) (by kernel_rfl) (fun _ _ _ h => h) (Or.inl ⟨by rfl, by intro W hSw; go_simp⟩) hHeld ?_
    simp only [Act.put, List.setIfInBounds_toArray, List.set_cons_zero, List.set_cons_succ]
    refine onlyL (i := 7) (by kernel_rfl) rfl (by rfl) (fun K hK => ?_)
    refine wp_storeM 27 (.tmp 2) (.tmp 19) rfl rfl (w.heap.size + 1) 0 rfl [.slice qa RM.facts.length qc, .slice pa RM.blocks.length pc, .int .i64 RM.actual] rfl 27 _ (RR.out.all t5) (by simp) Tryz.sizeMd (by simp [Value.oneCell']) ?_
    intro w6 hc6 ha6
    rw [lay'_all (by rfl)] at hc6
    have C6 := Lib.hid hc6
    have O6 := Lib.hid (O5.out.keeps (at_keeps ha6 (.inl (by omega))))
    have hz6 : w5.heap.size = w6.heap.size := ha6.size.symm
    have B6 : Hid (Below w.heap.size w w6) := Lib.hid ((BB.out.trans (t5.mono BB.out.size)).trans (ha6.below (by omega)))
    clear hc6 ha6 hHeld
    refine hK.out _ _ (fun h => absurd (by decide) h) (fun _ => ?_)
    clear hK K
    try simp only [Act.put, List.setIfInBounds_toArray, List.set_cons_zero, List.set_cons_succ]
    refine onlyL (i := 8) (by kernel_rfl) rfl (by rfl) (fun K hK => ?_)
    go_simp
    refine hK.out _ _ (fun h => absurd (by decide) h) (fun _ => ?_)
    clear hK K
    try simp only [Act.put, List.setIfInBounds_toArray, List.set_cons_zero, List.set_cons_succ]
    refine doneL (by kernel_rfl) ?_ _
    go_wp2
    refine bodyPost_ret (results_mid2 Tryz.results7 _ _ (w.heap.size + 1) _ _ (.bool ok) rfl rfl C6.out.whole Tryz.underlying27 rfl Tryz.sizeMd) rfl ?_
    exact ⟨_, rfl, O6.out.wide (by have := BB.out.size; omega) (by omega), B6.out⟩
end Go.Proofs.YtbjdgcckedoamaaGreat
