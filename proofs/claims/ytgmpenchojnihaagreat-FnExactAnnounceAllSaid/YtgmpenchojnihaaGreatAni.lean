/-
  impl.Announce: the model of the worlds in which a formula is true. No condition but the readings.
-/
import Derived.Test.YtgmpenchojnihaaGreatCol
import Derived.Test.YtgmpenchojnihaaGreatSty
import Derived.Test.YtgmpenchojnihaaGreatAns
import Derived.Test.YtgmpenchojnihaaGreatRma
namespace Go.Proofs.YtgmpenchojnihaaGreat
open Go.RowKit Go.WideShapes
open Go Go.Deep
set_option linter.unusedSimpArgs false

/-- the worlds that stay make the model that Announce answers -/
theorem restr_stay (m : Md) (xs : List Nd) : restrR m (nums (lst (stayP m xs) 16)) = annR m xs := by
  unfold annR stayP
  cases h : holdsR m xs with
  | true =>
    have hev := holds_ok h
    rw [if_pos rfl, if_pos rfl]
    exact restr_lst (evOk_parts hev.1).1 (fun i hi => evP_in hev.1 hi) hev.2
  | false =>
    rw [if_neg (by decide), if_neg (by decide)]
    have : nums (lst (fun _ => false) 16) = [] := rfl
    rw [this]
    unfold restrR
    simp

set_option maxRecDepth 100000 in
set_option maxHeartbeats 16000000 in
theorem implAnn_any (lo hi : Nat) (v v2 : Value) (m : Md) (xs : List Nd) (w : World) (hr : Mv lo hi w v m) (hhi : hi ≤ w.heap.size) (hr2 : Ns w v2 xs) :
    Calls Tryz.prog 14 #[v, v2] w (MdAns2 w (annR m xs)) := by
  have KS := Lib.hid (fun W (h : Below w.heap.size w W) => staying_any lo hi v v2 m xs W (hr.keeps (Keeps.of_all h)) (Nat.le_trans hhi h.size) (hr2.below h (Nat.le_refl _)))
  have KC := Lib.hid (fun Bn W (h : Cm W Bn 106 (bL (stayP m xs))) => collect_any Bn (stayP m xs) W h)
  have hlen : (nums (lst (stayP m xs) 16)).length ≤ 1048576 := by rw [nums_len]; have := lst_len (stayP m xs) 16; omega
  have KR := Lib.hid (fun W (h : Below w.heap.size w W) lo2 hi2 v4 (h4 : Iv lo2 hi2 W v4 (nums (lst (stayP m xs) 16))) => implRestr_any lo hi lo2 hi2 v v4 m (nums (lst (stayP m xs) 16)) W (hr.keeps (Keeps.of_all h)) (Nat.le_trans hhi h.size) h4 hlen)
  rw [restr_stay] at KR
  clear hlen
  generalize annR m xs = R at *
  generalize nums (lst (stayP m xs) 16) = ws at *
  generalize stayP m xs = p at *
  unfold MdAns2 at KR ⊢
  generalize R.getD ⟨[], [], 0⟩ = RM at *
  generalize R.isSome = ok at *
  obtain ⟨fv, bv, rfl, hf, hb⟩ := hr
  obtain ⟨a2, c2, rfl, -⟩ := hr2.parts
  clear hf hb hr2
  go_enter Tryz.func14, Tryz.ntmps14
  go_wp2
  have X1 := Lib.hid (Mcell.alloc (Mcell.new (w := w) (T := 29) (b := w.heap.size) (fv := fv) (bv := bv) (n := m.actual) rfl) (.cells #[.slice none 0 0, .slice none 0 0, .int .i64 0] 29))
  have C1 : Cm ((w.alloc (.cells #[fv, bv, .int .i64 m.actual] 29)).alloc (.cells #[.slice none 0 0, .slice none 0 0, .int .i64 0] 29)) (w.heap.size + 1) 29 [.slice none 0 0, .slice none 0 0, .int .i64 0] := Cm.new (by simp)
  have hb0 : Below w.heap.size w ((w.alloc (.cells #[fv, bv, .int .i64 m.actual] 29)).alloc (.cells #[.slice none 0 0, .slice none 0 0, .int .i64 0] 29)) := by go_grown
  generalize (w.alloc (.cells #[fv, bv, .int .i64 m.actual] 29)).alloc (.cells #[.slice none 0 0, .slice none 0 0, .int .i64 0] 29) = w1 at *
  have B1 := Lib.hid hb0
  have lt1 : w.heap.size + 1 < w1.heap.size := C1.lt
  clear hb0
  have HRG : Hid (∀ W, Below (w.heap.size + 1) w1 W → W.rangeAt w.heap.size 0 [fv, bv, .int .i64 m.actual]) := Lib.hid (fun W h => (X1.out.of_block (h.block _ (by omega))).range)
  have HU : Tryz.prog.underlying 29 = some _ := Tryz.underlying29
  refine regionL (fun W => Below (w.heap.size + 1) w1 W) [] (by kernel_rfl) (Below.refl _ _).drew (fun hHeld => ?_)
  have t1 : Below w1.heap.size w1 w1.drew := (Below.refl _ _).drew
  refine takeA (i := 0) (v := .agg #[fv, bv, .int .i64 m.actual]) 6 rfl rfl (by kernel_rfl) (by kernel_rfl) (by kernel_rfl) (by kernel_rfl) (fun _ _ _ h => h) (yieldsIf_load_mid (by rfl) 29 _ rfl w.heap.size 0 rfl [fv, bv, .int .i64 m.actual] _ HRG.out HU rfl Tryz.sizeMd) hHeld ?_
  simp only [Act.put, List.setIfInBounds_toArray, List.set_cons_zero, List.set_cons_succ]
  refine takeA (i := 1) (v := .agg #[fv, bv, .int .i64 m.actual]) 7 rfl rfl (by kernel_rfl) (by kernel_rfl) (by kernel_rfl) (by kernel_rfl) (fun _ _ _ h => h) (yieldsIf_load_mid (by rfl) 29 _ rfl w.heap.size 0 rfl [fv, bv, .int .i64 m.actual] _ HRG.out HU rfl Tryz.sizeMd) hHeld ?_
  simp only [Act.put, List.setIfInBounds_toArray, List.set_cons_zero, List.set_cons_succ]
  refine takeA (i := 2) (v := (.slice a2 xs.length c2)) 8 rfl rfl (by kernel_rfl) (by kernel_rfl) (by kernel_rfl) (by kernel_rfl) (fun _ _ _ h => h) (Or.inl ⟨by rfl, by intro W hSw; go_simp⟩) hHeld ?_
  simp only [Act.put, List.setIfInBounds_toArray, List.set_cons_zero, List.set_cons_succ]
  refine onlyL (i := 3) (by kernel_rfl) rfl (by rfl) (fun K hK => ?_)
  go_simp
  refine (KS.out _ (B1.out.trans (t1.mono B1.out.size))).mono ?_
  rintro e w2 ⟨Bn, rfl, -, hcm, hb⟩
  have t2 : Below w1.heap.size w1 w2 := t1.trans (hb.mono t1.size)
  have HC := Lib.hid hcm
  clear hb hHeld hcm
  refine hK.out _ _ (fun _ => t2.mono (by omega)) (fun hHeld => ?_)
  have hHeld := hHeld (by decide)
  clear hK K
  try simp only [Act.put, List.setIfInBounds_toArray, List.set_cons_zero, List.set_cons_succ]
  refine onlyL (i := 4) (by kernel_rfl) rfl (by rfl) (fun K hK => ?_)
  go_simp
  refine (KC.out _ _ HC.out).mono ?_
  rintro e w3 ⟨v3, rfl, ho3, hb3⟩
  have t3 : Below w1.heap.size w1 w3 := t2.trans (hb3.mono t2.size)
  have HO3 := Lib.hid ho3.read
  clear hb3 hHeld ho3
  refine hK.out _ _ (fun _ => t3.mono (by omega)) (fun hHeld => ?_)
  have hHeld := hHeld (by decide)
  clear hK K
  try simp only [Act.put, List.setIfInBounds_toArray, List.set_cons_zero, List.set_cons_succ]
  refine onlyL (i := 5) (by kernel_rfl) rfl (by rfl) (fun K hK => ?_)
  go_simp
  refine (KR.out _ (B1.out.trans (t3.mono B1.out.size)) _ _ _ HO3.out).mono ?_
  rintro e w4 ⟨v4, rfl, ho4, hb4⟩
  have t4 : Below w1.heap.size w1 w4 := t3.trans (hb4.mono t3.size)
  obtain ⟨qa, qc, pa, pc, e4⟩ := ho4.read.form
  subst e4
  have O4 := Lib.hid ho4
  have z3 := t3.size
  clear hb4 hHeld ho4
  refine hK.out _ _ (fun _ => t4.mono (by omega)) (fun hHeld => ?_)
  have hHeld := hHeld (by decide)
  clear hK K
  try simp only [Act.put, List.setIfInBounds_toArray, List.set_cons_zero, List.set_cons_succ]
  refine takeA (i := 6) (v := (.agg #[.slice qa RM.facts.length qc, .slice pa RM.blocks.length pc, .int .i64 RM.actual])) 12 rfl rfl (by kernel_rfl) (by kernel_rfl) (by kernel_rfl) (by kernel_rfl) (fun _ _ _ h => h) (Or.inl ⟨by rfl, by intro W hSw; go_simp⟩) hHeld ?_
  simp only [Act.put, List.setIfInBounds_toArray, List.set_cons_zero, List.set_cons_succ]
  refine takeA (i := 7) (v := (.bool ok)) 13 rfl rfl (by kernel_rfl) (by kernel_rfl) (by kernel_rfl) (by kernel_rfl) (fun _ _ _ h => h) (Or.inl ⟨by rfl, by intro W hSw; go_simp⟩) hHeld ?_
  simp only [Act.put, List.setIfInBounds_toArray, List.set_cons_zero, List.set_cons_succ]
  refine onlyL (i := 8) (by kernel_rfl) rfl (by rfl) (fun K hK => ?_)
  refine wp_storeM 29 (.tmp 4) (.tmp 12) rfl rfl (w.heap.size + 1) 0 rfl [.slice qa RM.facts.length qc, .slice pa RM.blocks.length pc, .int .i64 RM.actual] rfl 29 _ (C1.all t4) (by simp) Tryz.sizeMd (by simp [Value.oneCell']) ?_
  intro w5 hc5 ha5
  rw [lay'_all (by rfl)] at hc5
  have C5 := Lib.hid hc5
  have O5 := Lib.hid (O4.out.keeps (at_keeps ha5 (.inl (by omega))))
  have hz5 : w4.heap.size = w5.heap.size := ha5.size.symm
  have B5 : Hid (Below w.heap.size w w5) := Lib.hid ((B1.out.trans (t4.mono B1.out.size)).trans (ha5.below (by omega)))
  have t5 : Below (w.heap.size + 1) w1 w5 := (t4.mono (by omega)).trans (ha5.below (Nat.le_refl _))
  clear hc5 ha5 hHeld
  refine hK.out _ _ (fun _ => t5) (fun hHeld => ?_)
  have hHeld := hHeld (by decide)
  clear hK K
  try simp only [Act.put, List.setIfInBounds_toArray, List.set_cons_zero, List.set_cons_succ]
  refine takeA (i := 9) (v := (.bool ok)) 5 rfl rfl (by kernel_rfl) (by kernel_rfl) (by kernel_rfl) (by kernel_rfl) (fun _ _ _ h => h) (Or.inl ⟨by rfl, by intro W hSw; go_simp⟩) hHeld ?_
  simp only [Act.put, List.setIfInBounds_toArray, List.set_cons_zero, List.set_cons_succ]
  refine doneL (by kernel_rfl) ?_ _
  go_wp2
  refine bodyPost_ret (results_mid2 Tryz.results14 _ _ (w.heap.size + 1) _ _ (.bool ok) rfl rfl C5.out.whole Tryz.underlying29 rfl Tryz.sizeMd) rfl ?_
  exact ⟨_, rfl, O5.out.wide (by omega) (by omega), B5.out⟩
end Go.Proofs.YtgmpenchojnihaaGreat
