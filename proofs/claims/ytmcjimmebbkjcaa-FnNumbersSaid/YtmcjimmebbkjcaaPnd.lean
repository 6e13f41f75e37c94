/-
  Contracts of spec.l11Draw and MakePair: a limit from 1 to 12 and one of its pairs. Condition: a code of at most 1048576 bytes.
-/
import Derived.Test.YtmcjimmebbkjcaaPra
import Derived.Test.YtmcjimmebbkjcaaDrc
import Derived.Test.YtmcjimmebbkjcaaZReg
namespace Go.Proofs.Ytmcjimmebbkjcaa
open Go.RowKit Go.WideShapes
open Go Go.Deep
set_option linter.unusedSimpArgs false

theorem all12 {n : Nat} (h1 : 1 ≤ n) (h12 : n ≤ 12) : (allR n).length = 2 * n := by
  have h : (List.range 13).all (fun n => n == 0 || decide ((allR (n : Nat)).length = 2 * n)) = true := by decide +kernel
  have := (List.all_eq_true.1 h) n (List.mem_range.2 (by omega))
  rw [beq_eq_false_iff_ne.2 (by omega), Bool.false_or] at this
  exact of_decide_eq_true this
section
variable {P : Program}
theorem results_tmid {fn : Func} {p q : Tmp} {ty : TypeId} (h : fn.results = #[.tmp q, .cell p ty]) (tmps : Array Value) (w : World) (b : Nat) (cs : List Value) (d : TypeDesc) (v : Value)
    (hp : tmps.getD p undef = .pointer (some ⟨b, 0, none⟩)) (hq : tmps.getD q undef = v) (hc : w.rangeAt b 0 cs) (hu : P.underlying ty = some d) (hd : d.isRow = true) (hi : (P.info? ty).map (·.size) = some cs.length) :
    (results fn tmps).run P w = .ok (.tuple #[v, .agg cs.toArray]) w := by
  have hp' : tmps[p]?.getD undef = .pointer (some ⟨b, 0, none⟩) := by simpa using hp
  have hq' : tmps[q]?.getD undef = v := by simpa using hq
  simp [results, h, hp', hq', asAddr, run_loadVar_mid w b 0 ty cs d hc hu hd hi]
end
/-- what the drawing of a pair answers -/
def DrawP (W w : World) (b : Nat) (cv : Value) (e : Ending) (w' : World) : Prop := ∃ (n : Nat) (p : Pr), e = .returned (.tuple #[.int .i64 n, p.v]) ∧ 1 ≤ n ∧ n ≤ 12 ∧ p ∈ allR n ∧ Cur W w' b cv ∧ w.grownBy w' (some b)
set_option maxRecDepth 100000 in
set_option maxHeartbeats 8000000 in
theorem l11Draw_any (W w : World) (b : Nat) (cv : Value) (hk : CodeOk W cv) (hc : Cur W w b cv) :
    Calls Try.prog 60 #[.pointer (some ⟨b, 0, none⟩)] w (DrawP W w b cv) := by
  have HK := Lib.hid hk
  have hbl : b < w.heap.size := hc.lt
  have HWW : Hid (W.heap.size ≤ w.heap.size) := Lib.hid hc.1.size
  have C0 := Lib.hid (hc.alloc (.cells #[.int .i64 0, .int .i64 0] 33))
  have R0 : Hid (Cm (w.alloc (.cells #[.int .i64 0, .int .i64 0] 33)) w.heap.size 33 [.int .i64 0, .int .i64 0]) := Lib.hid (Cm.new rfl)
  have G0 : Hid (w.grownBy (w.alloc (.cells #[.int .i64 0, .int .i64 0] 33)) (some b)) := Lib.hid (World.grownBy_alloc w _ _)
  clear hk hc
  go_enter Try.func60, Try.ntmps60
  go_wp2_with fail
  generalize w.alloc (.cells #[.int .i64 0, .int .i64 0] 33) = w0 at *
  refine (below_small W w0 b cv 12 (by decide) (by decide) HK.out C0.out).mono ?_
  rintro e w1 ⟨x, rfl, x0, x12, hc1, hg1⟩
  obtain ⟨m, rfl⟩ := Int.eq_ofNat_of_zero_le x0
  have hm : m < 12 := by omega
  have lt0 : w.heap.size < w0.heap.size := R0.out.lt
  have C1 := Lib.hid hc1
  have R1 := Lib.hid (R0.out.of_block (hg1.block _ R0.out.lt (by simp; omega)))
  have G1 := Lib.hid (grown_trans G0.out hg1)
  have lt1 : w.heap.size < w1.heap.size := R1.out.lt
  clear hc1 hg1 C0 R0 G0
  have KA := Lib.hid (fun W => specAllP_any ((m + 1 : Nat) : Int) W)
  have HLN := Lib.hid (all12 (n := m + 1) (by omega) (by omega))
  unfold PrsAns at KA
  rw [show ((m + 1 : Nat) : Int) = 1 + (m : Int) by omega] at KA HLN
  obtain ⟨al, hal⟩ : ∃ al, al = allR (1 + (m : Int)) := ⟨_, rfl⟩
  rw [← hal] at KA HLN
  have HAL : Hid (al = allR ((m + 1 : Nat) : Int)) := Lib.hid (by rw [hal, show ((m + 1 : Nat) : Int) = 1 + (m : Int) by omega])
  clear hal
  go_wp2_with fail
  refine (KA.out _).mono ?_
  rintro e w2 ⟨v2, rfl, ho2, hb2⟩
  have C2 := Lib.hid (C1.out.belowC hb2)
  have R2 := Lib.hid (R1.out.all hb2)
  have G2 := Lib.hid (grown_trans G1.out (below_gb hb2 (some b)))
  obtain ⟨g, cap, rfl, hgb, hkey⟩ : ∃ g cap, v2 = .slice (some ⟨g, 0, none⟩) al.length cap ∧ w1.heap.size ≤ g ∧ (al.length ≤ cap ∧ cap ≤ maxLen ∧ g < w2.heap.size) := by
    rcases ho2.2 with ⟨_, h0⟩ | ⟨g, cap, cur, rfl, h1, h2, h3, h4, _⟩
    · have := HLN.out; omega
    · exact ⟨g, cap, rfl, h1, h3, h4, (Array.getElem?_eq_some_iff.1 h2).1⟩
  have HCL : Hid (∀ W', w2.grownBy W' (some b) → ∀ j, j < al.length → W'.cell? ⟨g, j * 2, none⟩ = some (.int .i64 (al.getD j default).a) ∧ W'.cell? ⟨g, j * 2 + 1, none⟩ = some (.int .i64 (al.getD j default).b)) := Lib.hid (fun W' hg j hj => by
    have e : W'.heap[g]? = w2.heap[g]? := hg.block g hkey.2.2 (by simp; omega)
    have c := fun k (hk : k < 2) => (ho2.cellAt (j * 2 + k) (by omega)).trans (prCells_at hj hk)
    have d : ∀ q, W'.cell? ⟨g, q, none⟩ = w2.cell? ⟨g, q, none⟩ := fun q => by unfold World.cell?; rw [e]
    exact ⟨by rw [d]; exact c 0 (by decide), by rw [d]; exact c 1 (by decide)⟩)
  obtain ⟨hcap, hcm, hgl⟩ := hkey
  unfold maxLen at hcm
  clear ho2 hb2 KA C1 R1 G1
  have hl24 : al.length ≤ 24 := by have := HLN.out; omega
  have hl1 : 1 ≤ al.length := by have := HLN.out; omega
  have KB := Lib.hid (fun wz (h : Cur W wz b cv) => below_small W wz b cv (al.length : Int) (by omega) (by omega) HK.out h)
  have CD : Hid (Cur W w2.drew b cv) := Lib.hid (C2.out.kept (row := none) ⟨rfl, rfl, rfl, Nat.le_refl _, fun _ _ _ => rfl⟩ (by simp) (fun k hk => by cases hk))
  go_wp2
  refine regionL (fun W' => w2.grownBy W' (some b)) [9] (by kernel_rfl) ⟨rfl, rfl, rfl, Nat.le_refl _, fun _ _ _ => rfl⟩ (fun hHeld => ?_)
  refine takeA (i := 0) (v := .int .i64 (1 + m)) 11 rfl rfl (by kernel_rfl) (by kernel_rfl) (by kernel_rfl) (by kernel_rfl) (fun _ _ _ h => h) (Or.inl ⟨by rfl, by intro W hSw; go_simp⟩) hHeld ?_
  simp only [Act.put, List.setIfInBounds_toArray, List.set_cons_zero, List.set_cons_succ]
  refine takeA (i := 1) (v := .slice (some ⟨g, 0, none⟩) al.length cap) 12 rfl rfl (by kernel_rfl) (by kernel_rfl) (by kernel_rfl) (by kernel_rfl) (fun _ _ _ h => h) (Or.inl ⟨by rfl, by intro W hSw; go_simp⟩) hHeld ?_
  simp only [Act.put, List.setIfInBounds_toArray, List.set_cons_zero, List.set_cons_succ]
  refine takeA (i := 2) (v := .pointer (some ⟨b, 0, none⟩)) 13 rfl rfl (by kernel_rfl) (by kernel_rfl) (by kernel_rfl) (by kernel_rfl) (fun _ _ _ h => h) (Or.inl ⟨by rfl, by intro W hSw; go_simp⟩) hHeld ?_
  simp only [Act.put, List.setIfInBounds_toArray, List.set_cons_zero, List.set_cons_succ]
  refine takeA (i := 3) (v := .slice (some ⟨g, 0, none⟩) al.length cap) 14 rfl rfl (by kernel_rfl) (by kernel_rfl) (by kernel_rfl) (by kernel_rfl) (fun _ _ _ h => h) (Or.inl ⟨by rfl, by intro W hSw; go_simp⟩) hHeld ?_
  simp only [Act.put, List.setIfInBounds_toArray, List.set_cons_zero, List.set_cons_succ]
  refine takeA (i := 4) (v := .int .i64 al.length) 15 rfl rfl (by kernel_rfl) (by kernel_rfl) (by kernel_rfl) (by kernel_rfl) (fun _ _ _ h => h) (Or.inl ⟨by rfl, by intro W hSw; go_simp⟩) hHeld ?_
  simp only [Act.put, List.setIfInBounds_toArray, List.set_cons_zero, List.set_cons_succ]
  refine onlyL (i := 5) (by kernel_rfl) rfl (by rfl) (fun K hK => ?_)
  go_simp
  refine (KB.out _ CD.out).mono ?_
  rintro e w5 ⟨y, rfl, y0, y1, hc5, hg5⟩
  obtain ⟨j, rfl⟩ := Int.eq_ofNat_of_zero_le y0
  have hj : j < al.length := by omega
  have t5 : w2.grownBy w5 (some b) := grown_trans hHeld hg5
  have C5 := Lib.hid hc5
  clear hc5 hg5 hHeld
  refine hK.out _ _ (fun _ => t5) (fun hHeld => ?_)
  have hHeld := hHeld (by decide)
  clear hK K
  try simp only [Act.put, List.setIfInBounds_toArray, List.set_cons_zero, List.set_cons_succ]
  have HX := Lib.hid (fun W' h => HCL.out W' h j hj)
  have HMEM : Hid (al.getD j default ∈ al) := Lib.hid (by rw [List.getD_eq_getElem?_getD, List.getElem?_eq_getElem hj]; exact List.getElem_mem hj)
  generalize al.getD j default = q at *
  refine takeA (i := 6) (v := .pointer (some ⟨g, j * 2, none⟩)) 17 rfl rfl (by kernel_rfl) (by kernel_rfl) (by kernel_rfl) (by kernel_rfl) (fun _ _ _ h => h) (Or.inl ⟨by rfl, by intro W hSw; go_simp⟩) hHeld ?_
  simp only [Act.put, List.setIfInBounds_toArray, List.set_cons_zero, List.set_cons_succ]
  refine takeA (i := 7) (v := .agg #[.int .i64 q.a, .int .i64 q.b]) 18 rfl rfl (by kernel_rfl) (by kernel_rfl) (by kernel_rfl) (by kernel_rfl) (fun _ _ _ h => h) (Or.inl ⟨by rfl, by intro W hSw; obtain ⟨c0, c1⟩ := HX.out _ hSw; go_simp⟩) hHeld ?_
  simp only [Act.put, List.setIfInBounds_toArray, List.set_cons_zero, List.set_cons_succ]
  refine takeA (i := 8) (v := .int .i64 (1 + m)) 2 rfl rfl (by kernel_rfl) (by kernel_rfl) (by kernel_rfl) (by kernel_rfl) (fun _ _ _ h => h) (Or.inl ⟨by rfl, by intro W hSw; go_simp⟩) hHeld ?_
  simp only [Act.put, List.setIfInBounds_toArray, List.set_cons_zero, List.set_cons_succ]
  refine onlyL (i := 9) (by kernel_rfl) rfl (by rfl) (fun K hK => ?_)
  refine wp_storeM 33 (.tmp 3) (.tmp 18) rfl rfl w.heap.size 0 rfl [.int .i64 q.a, .int .i64 q.b] rfl 33 _ (R2.out.of_block (t5.block _ R2.out.lt (by simp; omega))) (by simp) (by kernel_rfl) (by simp [Value.oneCell']) ?_
  intro w6 hc6 ha6
  rw [lay'_all (by rfl)] at hc6
  have R6 := Lib.hid hc6
  have G6 : Hid (w5.grownBy w6 (some w.heap.size)) := Lib.hid ⟨ha6.os, ha6.tape, ha6.output, Nat.le_of_eq ha6.size.symm, fun i _ hi => ha6.block i (fun e => hi (by rw [e]))⟩
  clear hc6 ha6 hHeld
  refine hK.out _ _ (fun h => absurd (by decide) h) (fun _ => ?_)
  clear hK K
  try simp only [Act.put, List.setIfInBounds_toArray, List.set_cons_zero, List.set_cons_succ]
  refine doneL (by kernel_rfl) ?_ _
  go_wp2
  refine bodyPost_ret (results_tmid Try.results60 _ _ w.heap.size [.int .i64 q.a, .int .i64 q.b] _ (.int .i64 (1 + m)) rfl rfl R6.out.whole Try.underlying33 rfl (by kernel_rfl)) rfl ?_
  have g5 : w.grownBy w5 (some b) := grown_trans G2.out t5
  refine ⟨m + 1, q, by rw [show ((m + 1 : Nat) : Int) = 1 + (m : Int) by omega]; rfl, by omega, by omega, by rw [← HAL.out]; exact HMEM.out, C5.out.kept G6.out (by simp; omega) (fun k hk => by cases hk; exact HWW.out), ⟨G6.out.os.trans g5.os, G6.out.tape.trans g5.tape, G6.out.output.trans g5.output, Nat.le_trans g5.size G6.out.size, fun k hk hne => (G6.out.block k (Nat.lt_of_lt_of_le hk g5.size) (by simp; omega)).trans (g5.block k hk hne)⟩⟩

set_option maxRecDepth 100000 in
set_option maxHeartbeats 4000000 in
theorem makePair_any (W : World) (cv : Value) (hk : CodeOk W cv) :
    Calls Try.prog 44 #[cv] W fun e w' => ∃ (n : Nat) (p : Pr), e = .returned (.tuple #[.int .i64 n, p.v]) ∧ 1 ≤ n ∧ n ≤ 12 ∧ p ∈ allR n ∧ Below W.heap.size W w' := by
  have hb0 : Below W.heap.size W (W.alloc (.cells #[.int .i64 0, .int .i64 0] 33)) := by go_grown
  have HK := Lib.hid (hk.below hb0 (Nat.le_refl _))
  have B0 := Lib.hid hb0
  have R0 : Hid (Cm (W.alloc (.cells #[.int .i64 0, .int .i64 0] 33)) W.heap.size 33 [.int .i64 0, .int .i64 0]) := Lib.hid (Cm.new rfl)
  clear hb0 hk
  go_enter Try.func44, Try.ntmps44
  go_wp2_with fail
  generalize W.alloc (.cells #[.int .i64 0, .int .i64 0] 33) = w0 at *
  refine (new_any w0 cv HK.out).mono ?_
  rintro e w1 ⟨b, rfl, hc⟩
  have C1 := Lib.hid hc
  have R1 := Lib.hid (R0.out.all hc.1)
  have hbb : w0.heap.size ≤ b := hc.2.1
  have lt0 : W.heap.size < w0.heap.size := R0.out.lt
  have B1 := Lib.hid (B0.out.trans (hc.1.mono B0.out.size))
  clear hc
  go_wp2_with fail
  refine (l11Draw_any w0 w1 b cv HK.out C1.out).mono ?_
  rintro e w2 ⟨n, p, rfl, n1, n12, hp, hc2, hg2⟩
  have R2 := Lib.hid (R1.out.of_block (hg2.block _ R1.out.lt (by simp; omega)))
  have B2 : Hid (Below W.heap.size W w2) := Lib.hid (B1.out.trans ⟨hg2.os, hg2.tape, hg2.output, hg2.size, fun k hk => hg2.block k (by have := R1.out.lt; omega) (by simp; omega)⟩)
  have HP := Lib.hid hp
  clear hp hc2 hg2
  obtain ⟨pa, pb⟩ := p
  unfold Pr.v
  simp only
  have c0 := R2.out.cell 0
  have c1 := R2.out.cell 1
  have f0 := R2.out.frozen 0
  have f1 := R2.out.frozen 1
  simp only [List.getElem?_cons_zero, List.getElem?_cons_succ] at c0 c1
  have lt2 : W.heap.size < w2.heap.size := R2.out.lt
  go_wp2
  have R3 : Cm ((w2.setCell ⟨W.heap.size, 0, none⟩ (.int .i64 pa)).setCell ⟨W.heap.size, 1, none⟩ (.int .i64 pb)) W.heap.size 33 [.int .i64 pa, .int .i64 pb] := by
    have h := (R2.out.set 0 (.int .i64 pa)).set 1 (.int .i64 pb)
    simpa using h
  refine bodyPost_ret (results_tmid Try.results44 _ _ W.heap.size [.int .i64 pa, .int .i64 pb] _ (.int .i64 n) rfl rfl R3.whole Try.underlying33 rfl (by kernel_rfl)) rfl ?_
  exact ⟨n, ⟨pa, pb⟩, rfl, n1, n12, HP.out, (B2.out.setCell (p := ⟨W.heap.size, 0, none⟩) (Nat.le_refl _) _).setCell (p := ⟨W.heap.size, 1, none⟩) (Nat.le_refl _) _⟩
end Go.Proofs.Ytmcjimmebbkjcaa
