/-
  Several texts in one: Mea Mec Med. Conditions: as each theorem says.
-/
import Derived.Test.YtodjohdbngbpaaaGreatZSem
import Derived.Test.YtodjohdbngbpaaaGreatZRen
/-
  The meanings of formulas as function values: what such a value answers for a grid (Mean); the program's rules for facts, truth, denial and conjunction. Condition: the grid fits, its facts are numbers from 0 to 15.
-/
namespace Go.Proofs.YtodjohdbngbpaaaGreat
open Go.RowKit Go.WideShapes
open Go Go.Deep
set_option linter.unusedSimpArgs false

/-- a model as a grid -/
def gM (m : Md) : List Int := gL m.facts.length m.blocks.length m.facts m.blocks m.actual
def gok (m : Md) : Prop := fits m ∧ 1 ≤ m.blocks.length ∧ ∀ j, j < m.facts.length → 0 ≤ m.facts.getD j 0 ∧ m.facts.getD j 0 < 16
theorem gM_len {m : Md} (h : gok m) : (ints (gM m)).length = 67 := by rw [ints_len]; exact gL_len h.1.small
/-- the function value v answers, in every world that keeps the blocks of w from lo on, with the worlds where t is true -/
def Mean (lo : Nat) (w : World) (v : Value) (t : Tm) : Prop := ∃ k caps, v = .func (.func k) #[] caps ∧ Enters Tryz.prog k ∧ ∀ m, gok m → ∀ W, Keeps lo w.heap.size w W →
  Calls Tryz.prog k (#[.agg (ints (gM m)).toArray] ++ caps) W fun e W' => e = .returned (.agg (bL (evI t m)).toArray) ∧ Below W.heap.size W W'
theorem Keeps.less {lo hi hi' : Nat} {w w' : World} (h : Keeps lo hi w w') (hh : hi' ≤ hi) : Keeps lo hi' w w' := ⟨h.size, fun k h1 h2 h3 => h.block k h1 (by omega) h3⟩
theorem Mean.keeps {lo : Nat} {w W : World} {v : Value} {t : Tm} (h : Mean lo w v t) (k : Keeps lo w.heap.size w W) : Mean lo W v t := by
  obtain ⟨f, caps, e, h1, h2⟩ := h
  exact ⟨f, caps, e, h1, fun m hm W' hW' => h2 m hm W' (k.trans (hW'.less k.size))⟩
theorem Mean.all {lo : Nat} {w W : World} {v : Value} {t : Tm} (h : Mean lo w v t) (k : Below w.heap.size w W) : Mean lo W v t := h.keeps (Keeps.of_all k)
/-- an answer: a function value that means t -/
def MeanAns (lo : Nat) (w : World) (t : Tm) (e : Ending) (w' : World) : Prop := ∃ v, e = .returned v ∧ Mean lo w' v t ∧ Below w.heap.size w w'
theorem Cm.keeps {lo hi : Nat} {w w' : World} {b : Nat} {T : TypeId} {cs : List Value} (h : Cm w b T cs) (k : Keeps lo hi w w') (h1 : lo ≤ b) (h2 : b < hi) : Cm w' b T cs := h.of_block (k.block b h1 h2 h.lt)
theorem cell_keeps {lo hi : Nat} {w w' : World} {b o : Nat} {v : Value} (h : w.cell? ⟨b, o, none⟩ = some v) (k : Keeps lo hi w w') (h1 : lo ≤ b) (h2 : b < hi) : w'.cell? ⟨b, o, none⟩ = some v := by
  have hlt : b < w.heap.size := World.block_lt_of_cell? _ _ h
  rw [World.cell?_of_block (w := w) (k.block b h1 h2 hlt)]; exact h

set_option maxRecDepth 100000 in
set_option maxHeartbeats 8000000 in
theorem meanNot (lo b pb po c : Nat) (u : Value) (a : Tm) (w : World) (hb : Cm w b 183 [.slice (some ⟨pb, po, none⟩) 1 c]) (hlb : lo ≤ b) (hlp : lo ≤ pb) (hu : w.cell? ⟨pb, po, none⟩ = some u) (hM : Mean lo w u a) :
    Mean lo w (.func (.func 180) #[] #[.pointer (some ⟨b, 0, none⟩)]) (.deny a) := by
  refine ⟨_, _, rfl, enters_of Tryz.func180 (by kernel_rfl) rfl, fun m hg W hW => ?_⟩
  show Calls Tryz.prog 180 #[.agg (ints (gM m)).toArray, .pointer (some ⟨b, 0, none⟩)] W _
  obtain ⟨k, caps, rfl, hen, hM⟩ := hM
  have hbl := hb.lt
  have hpl : pb < w.heap.size := World.block_lt_of_cell? _ _ hu
  have HB : Hid (∀ W', Below W.heap.size W W' → W'.cell? ⟨b, 0, none⟩ = some (.slice (some ⟨pb, po, none⟩) 1 c)) := Lib.hid (fun W' h => ((hb.keeps hW hlb hbl).all h).one)
  have HU : Hid (∀ W', Below W.heap.size W W' → W'.cell? ⟨pb, po, none⟩ = some (.func (.func k) #[] caps)) := Lib.hid (fun W' h => cell_keeps hu (hW.trans (Keeps.of_all h)) hlp hpl)
  have KM := Lib.hid (fun W' (h : Below W.heap.size W W') => hM m hg W' (hW.trans (Keeps.of_all h)))
  have KO := Lib.hid (fun W' => others_any m.facts.length m.blocks.length m.actual m.facts m.blocks hg.1.small hg.1.1 (evI a m) W')
  have HL : Hid ((ints (gM m)).length = 67) := Lib.hid (gM_len hg)
  have HEV : Hid (evI (.deny a) m = cut m.facts.length fun i => !evI a m i) := Lib.hid rfl
  rw [HEV.out]
  generalize hPF : (cut m.facts.length fun i => !evI a m i) = PF at *
  change Hid (∀ W', Calls _ _ #[.agg (ints (gM m)).toArray, _] W' _) at KO
  generalize gM m = G at *
  generalize evI a m = PA at *
  have hent : ∀ args w, (callFunc k args).run Tryz.prog w = .ok (.enter k args) w := hen
  clear hb hu hM hW hg HEV hPF hen
  go_enter Tryz.func180, Tryz.ntmps180
  have tk1 : True := trivial
  go_wp2_with
    (first
      | (have _t := tk1; clear _t tk1; refine wpList_allocM rfl 89 rfl (bL (fun _ => false)) Tryz.allocSet ?_
         intro w1 hc1 hb1 hs1
         have C0 : Hid (Cm w1 W.heap.size 85 (ints G)) := Lib.hid (Cm.all (Cm.new rfl) hb1)
         have R0 : Hid (Cm w1 (W.heap.size + 1) 89 (bL (fun _ => false))) := Lib.hid (by simpa using hc1)
         have B0 : Hid (Below W.heap.size W w1) := Lib.hid (Below.trans (by go_grown) (hb1.mono (by simp)))
         clear hc1 hb1 hs1))
  have HRG : Hid (∀ W', Below w1.heap.size w1 W' → W'.rangeAt W.heap.size 0 (ints G)) := Lib.hid (fun W' h => (C0.out.all h).whole)
  have HB1 : Hid (∀ W', Below w1.heap.size w1 W' → W'.cell? ⟨b, 0, none⟩ = some (.slice (some ⟨pb, po, none⟩) 1 c)) := Lib.hid (fun W' h => HB.out W' (B0.out.trans (h.mono B0.out.size)))
  have HU1 : Hid (∀ W', Below w1.heap.size w1 W' → W'.cell? ⟨pb, po, none⟩ = some (.func (.func k) #[] caps)) := Lib.hid (fun W' h => HU.out W' (B0.out.trans (h.mono B0.out.size)))
  have HU : Tryz.prog.underlying 85 = some _ := Tryz.underlying85
  refine regionL (fun W => Below w1.heap.size w1 W) [7] (by kernel_rfl) (Below.refl _ _).drew (fun hHeld => ?_)
  refine takeA (i := 0) (v := .agg (ints G).toArray) 4 rfl rfl (by kernel_rfl) (by kernel_rfl) (by kernel_rfl) (by kernel_rfl) (fun _ _ _ h => h) (yieldsIf_load_mid (by rfl) 85 _ rfl W.heap.size 0 rfl (ints G) _ HRG.out HU rfl (by rw [HL.out]; exact Tryz.sizeGrid)) hHeld ?_
  simp only [Act.put, List.setIfInBounds_toArray, List.set_cons_zero, List.set_cons_succ]
  refine takeA (i := 1) (v := .slice (some ⟨pb, po, none⟩) 1 c) 5 rfl rfl (by kernel_rfl) (by kernel_rfl) (by kernel_rfl) (by kernel_rfl) (fun _ _ _ h => h) (Or.inl ⟨by rfl, by intro W hSw; have c1 := HB1.out _ hSw; go_simp⟩) hHeld ?_
  simp only [Act.put, List.setIfInBounds_toArray, List.set_cons_zero, List.set_cons_succ]
  refine takeA (i := 2) (v := .pointer (some ⟨pb, po, none⟩)) 6 rfl rfl (by kernel_rfl) (by kernel_rfl) (by kernel_rfl) (by kernel_rfl) (fun _ _ _ h => h) (Or.inl ⟨by rfl, by intro W hSw; go_simp⟩) hHeld ?_
  simp only [Act.put, List.setIfInBounds_toArray, List.set_cons_zero, List.set_cons_succ]
  refine takeA (i := 3) (v := .func (.func k) #[] caps) 7 rfl rfl (by kernel_rfl) (by kernel_rfl) (by kernel_rfl) (by kernel_rfl) (fun _ _ _ h => h) (Or.inl ⟨by rfl, by intro W hSw; have c1 := HU1.out _ hSw; go_simp⟩) hHeld ?_
  simp only [Act.put, List.setIfInBounds_toArray, List.set_cons_zero, List.set_cons_succ]
  refine takeA (i := 4) (v := .agg (ints G).toArray) 8 rfl rfl (by kernel_rfl) (by kernel_rfl) (by kernel_rfl) (by kernel_rfl) (fun _ _ _ h => h) (yieldsIf_load_mid (by rfl) 85 _ rfl W.heap.size 0 rfl (ints G) _ HRG.out HU rfl (by rw [HL.out]; exact Tryz.sizeGrid)) hHeld ?_
  simp only [Act.put, List.setIfInBounds_toArray, List.set_cons_zero, List.set_cons_succ]
  refine onlyL (i := 5) (by kernel_rfl) rfl (by rfl) (fun K hK => ?_)
  go_simp
  refine (KM.out _ (B0.out.trans (hHeld.mono B0.out.size))).mono ?_
  rintro e w2 ⟨rfl, hb2⟩
  have t2 : Below w1.heap.size w1 w2 := hHeld.trans (hb2.mono (Nat.le_refl _))
  clear hb2 hHeld
  refine hK.out _ _ (fun _ => t2) (fun hHeld => ?_)
  have hHeld := hHeld (by decide)
  clear hK K
  try simp only [Act.put, List.setIfInBounds_toArray, List.set_cons_zero, List.set_cons_succ]
  refine onlyL (i := 6) (by kernel_rfl) rfl (by rfl) (fun K hK => ?_)
  go_simp
  refine (KO.out _).mono ?_
  rintro e w3 ⟨rfl, hb3⟩
  have t3 : Below w1.heap.size w1 w3 := t2.trans (hb3.mono t2.size)
  clear hb3 hHeld
  refine hK.out _ _ (fun _ => t3) (fun hHeld => ?_)
  clear hK K hHeld
  try simp only [Act.put, List.setIfInBounds_toArray, List.set_cons_zero, List.set_cons_succ]
  have R3 := Lib.hid (R0.out.all t3)
  have B3 := Lib.hid (B0.out.trans (t3.mono B0.out.size))
  clear t3
  refine onlyL (i := 7) (by kernel_rfl) rfl (by rfl) (fun K hK => ?_)
  refine wp_storeM 89 (.tmp 3) (.tmp 10) rfl rfl (W.heap.size + 1) 0 rfl (bL PF) rfl 89 _ R3.out (by rw [bL_len, bL_len]; exact Nat.le_refl _) (by rw [bL_len]; exact Tryz.sizeSet) (fun v hv => bL_one hv) ?_
  intro w5 hc5 ha5
  rw [lay'_all (by rw [bL_len, bL_len])] at hc5
  have R5 := Lib.hid hc5
  have B5 : Hid (Below W.heap.size W w5) := Lib.hid (B3.out.trans (ha5.below (by omega)))
  clear hc5 ha5
  refine hK.out _ _ (fun h => absurd (by decide) h) (fun _ => ?_)
  clear hK K
  refine doneL (by kernel_rfl) ?_ _
  go_wp2
  refine bodyPost_ret (results_mid1 Tryz.results180 _ _ (W.heap.size + 1) (bL PF) _ rfl R5.out.whole Tryz.underlying89 rfl (by rw [bL_len]; exact Tryz.sizeSet)) rfl ?_
  exact ⟨rfl, B5.out⟩
end Go.Proofs.YtodjohdbngbpaaaGreat

/-
  The program's rules for facts, truth, and what is true in all worlds of a scope, as function values. Condition: the grid fits, its facts are numbers from 0 to 15.
-/
namespace Go.Proofs.YtodjohdbngbpaaaGreat
open Go.RowKit Go.WideShapes
open Go Go.Deep
set_option linter.unusedSimpArgs false

set_option maxRecDepth 100000 in
set_option maxHeartbeats 4000000 in
theorem fact_test (w : World) (bg bn : Nat) (m : Md) (n : Nat) (hg : gok m) (hG : Cm w bg 85 (ints (gM m))) (hN : Cm w bn 3 [.int .i64 n]) (hn : n < 4) :
    Test w 177 #[.pointer (some ⟨bg, 0, none⟩), .pointer (some ⟨bn, 0, none⟩)] m.facts.length (fun i => bitI (m.facts.getD i 0) n == 1) := by
  refine ⟨enters_of Tryz.func177 (by kernel_rfl) rfl, fun i hi W hW => ?_⟩
  show Calls Tryz.prog 177 #[.int .i64 i, .pointer (some ⟨bg, 0, none⟩), .pointer (some ⟨bn, 0, none⟩)] W _
  have hn16 := hg.1.1
  obtain ⟨h0, h1⟩ := hg.2.2 i hi
  have HC1 : Hid (∀ W', Below W.heap.size W W' → W'.cell? ⟨bg, 2 + i, none⟩ = some (.int .i64 (m.facts.getD i 0))) := Lib.hid (fun W' h => ((hG.all hW).all h).gf hg.1.small (by omega))
  have HC2 : Hid (∀ W', Below W.heap.size W W' → W'.cell? ⟨bn, 0, none⟩ = some (.int .i64 n)) := Lib.hid (fun W' h => ((hN.all hW).all h).one)
  have i0 : (0 : Int) ≤ (i : Int) := Int.natCast_nonneg _
  have i16 : (i : Int) < 16 := by omega
  obtain ⟨x, hx⟩ : ∃ x, x = m.facts.getD i 0 := ⟨_, rfl⟩
  rw [← hx] at h0 h1 HC1
  have HSH := Lib.hid (fun p q => Tryz.shrInt p q x n h0 h1 hn)
  have hz0 : 0 ≤ x / 2 ^ n := Int.ediv_nonneg h0 (Int.le_of_lt (Int.pow_pos (by decide)))
  have hz1 : x / 2 ^ n < 16 := Int.lt_of_le_of_lt (Int.ediv_le_self _ h0) h1
  have HAN := Lib.hid (fun p q => Tryz.andInt p q (x / 2 ^ n) hz0 hz1)
  have HX : Hid ((bitI (m.facts.getD i 0) n == 1) = (x / 2 ^ n % 2 == 1)) := Lib.hid (by rw [← hx]; rfl)
  generalize x / 2 ^ n = z at *
  have hb0 : 0 ≤ z % 2 ∧ z % 2 ≤ 1 := by omega
  generalize z % 2 = y at *
  clear hx h0 h1 hz0 hz1 hG hN hW hg
  go_enter Tryz.func177, Tryz.ntmps177
  go_wp2
  refine regionL (fun W' => Below W.heap.size W W') [] (by kernel_rfl) (Below.refl _ _).drew (fun hHeld => ?_)
  refine takeA (i := 0) (v := .int .i64 i) 5 rfl rfl (by kernel_rfl) (by kernel_rfl) (by kernel_rfl) (by kernel_rfl) (fun _ _ _ h => h) (Or.inl ⟨by rfl, by intro W hSw; go_simp⟩) hHeld ?_
  simp only [Act.put, List.setIfInBounds_toArray, List.set_cons_zero, List.set_cons_succ]
  refine takeA (i := 1) (v := .pointer (some ⟨bg, 2, none⟩)) 6 rfl rfl (by kernel_rfl) (by kernel_rfl) (by kernel_rfl) (by kernel_rfl) (fun _ _ _ h => h) (Or.inl ⟨by rfl, by intro W hSw; go_simp⟩) hHeld ?_
  simp only [Act.put, List.setIfInBounds_toArray, List.set_cons_zero, List.set_cons_succ]
  refine takeA (i := 2) (v := .pointer (some ⟨bg, 2 + i, none⟩)) 7 rfl rfl (by kernel_rfl) (by kernel_rfl) (by kernel_rfl) (by kernel_rfl) (fun _ _ _ h => h) (Or.inl ⟨by rfl, by intro W hSw; go_simp⟩) hHeld ?_
  simp only [Act.put, List.setIfInBounds_toArray, List.set_cons_zero, List.set_cons_succ]
  refine takeA (i := 3) (v := .int .i64 x) 8 rfl rfl (by kernel_rfl) (by kernel_rfl) (by kernel_rfl) (by kernel_rfl) (fun _ _ _ h => h) (Or.inl ⟨by rfl, by intro W hSw; have c1 := HC1.out _ hSw; go_simp⟩) hHeld ?_
  simp only [Act.put, List.setIfInBounds_toArray, List.set_cons_zero, List.set_cons_succ]
  refine takeA (i := 4) (v := .int .i64 n) 9 rfl rfl (by kernel_rfl) (by kernel_rfl) (by kernel_rfl) (by kernel_rfl) (fun _ _ _ h => h) (Or.inl ⟨by rfl, by intro W hSw; have c1 := HC2.out _ hSw; go_simp⟩) hHeld ?_
  simp only [Act.put, List.setIfInBounds_toArray, List.set_cons_zero, List.set_cons_succ]
  refine takeA (i := 5) (v := .int .i64 z) 10 rfl rfl (by kernel_rfl) (by kernel_rfl) (by kernel_rfl) (by kernel_rfl) (fun _ _ _ h => h) (yields_bin (by rfl) .shr 3 3 (.tmp 8) (.tmp 9) (.int .i64 x) (.int .i64 n) _ rfl rfl rfl (HSH.out _ _)) hHeld ?_
  simp only [Act.put, List.setIfInBounds_toArray, List.set_cons_zero, List.set_cons_succ]
  refine takeA (i := 6) (v := .int .i64 y) 11 rfl rfl (by kernel_rfl) (by kernel_rfl) (by kernel_rfl) (by kernel_rfl) (fun _ _ _ h => h) (yields_bin (by rfl) .and 3 3 (.tmp 10) (.const (.int .i64 1)) (.int .i64 z) (.int .i64 1) _ rfl rfl rfl (HAN.out _ _)) hHeld ?_
  simp only [Act.put, List.setIfInBounds_toArray, List.set_cons_zero, List.set_cons_succ]
  refine takeA (i := 7) (v := .bool (y == 1)) 12 rfl rfl (by kernel_rfl) (by kernel_rfl) (by kernel_rfl) (by kernel_rfl) (fun _ _ _ h => h) (Or.inl ⟨by rfl, by intro W hSw; go_simp⟩) hHeld ?_
  simp only [Act.put, List.setIfInBounds_toArray, List.set_cons_zero, List.set_cons_succ]
  refine takeA (i := 8) (v := .bool (y == 1)) 4 rfl rfl (by kernel_rfl) (by kernel_rfl) (by kernel_rfl) (by kernel_rfl) (fun _ _ _ h => h) (Or.inl ⟨by rfl, by intro W hSw; go_simp⟩) hHeld ?_
  simp only [Act.put, List.setIfInBounds_toArray, List.set_cons_zero, List.set_cons_succ]
  refine doneL (by kernel_rfl) ?_ _
  go_wp2
  go_ret
  exact ⟨ret_bool (by rw [HX.out]), hHeld⟩

set_option maxRecDepth 100000 in
set_option maxHeartbeats 8000000 in
theorem meanFact (lo b n : Nat) (w : World) (hb : Cm w b 3 [.int .i64 n]) (hlb : lo ≤ b) (hn : n < 4) :
    Mean lo w (.func (.func 175) #[] #[.pointer (some ⟨b, 0, none⟩)]) (.leaf 1 n) := by
  refine ⟨_, _, rfl, enters_of Tryz.func175 (by kernel_rfl) rfl, fun m hg W hW => ?_⟩
  show Calls Tryz.prog 175 #[.agg (ints (gM m)).toArray, .pointer (some ⟨b, 0, none⟩)] W _
  have hbl := hb.lt
  have CB := Lib.hid (hb.keeps hW hlb hbl)
  have KW := Lib.hid (fun caps W' h => where_any m.facts.length m.blocks.length m.actual m.facts m.blocks hg.1.small hg.1.1 177 caps (fun i => bitI (m.facts.getD i 0) n == 1) W' h)
  have KT := Lib.hid (fun W' bg h1 h2 => fact_test W' bg b m n hg h1 h2 hn)
  have HL : Hid ((ints (gM m)).length = 67) := Lib.hid (gM_len hg)
  have HEV : Hid (evI (.leaf 1 n) m = cut m.facts.length fun i => bitI (m.facts.getD i 0) n == 1) := Lib.hid (by unfold evI; congr 1)
  rw [HEV.out]
  generalize hPF : (cut m.facts.length fun i => bitI (m.facts.getD i 0) n == 1) = PF at *
  change Hid (∀ caps W', _ → Calls _ _ #[.agg (ints (gM m)).toArray, _] W' _) at KW
  generalize gM m = G at *
  have hmf : ∀ (fn : Fn) (first cap : Array Value) (w : World), (Instr.makeFunc fn first cap).run Tryz.prog w = .ok (.func fn first cap) w := fun _ _ _ _ => rfl
  clear hb hW hg HEV hPF
  go_enter Tryz.func175, Tryz.ntmps175
  have tk1 : True := trivial
  have tk2 : True := trivial
  have tk3 : True := trivial
  have tk4 : True := trivial
  go_wp2_with
    (first
      | (have _t := tk1; clear _t tk1; refine wpList_allocM rfl 89 rfl (bL (fun _ => false)) Tryz.allocSet ?_
         intro w1 hc1 hb1 hs1
         have C0 : Hid (Cm w1 W.heap.size 85 (ints G)) := Lib.hid (Cm.all (Cm.new rfl) hb1)
         have R0 : Hid (Cm w1 (W.heap.size + 1) 89 (bL (fun _ => false))) := Lib.hid (by simpa using hc1)
         have B0 : Hid (Below W.heap.size W w1) := Lib.hid (Below.trans (by go_grown) (hb1.mono (by simp)))
         have N0 := Lib.hid (CB.out.all B0.out)
         clear hc1 hb1 hs1)
      | (have _t := tk2; clear _t tk2; refine wpList_loadM rfl 85 _ rfl W.heap.size 0 rfl 85 (ints G) (ints G) C0.out (fun j _ => by rw [Nat.zero_add]) _ Tryz.underlying85 rfl (by rw [HL.out]; exact Tryz.sizeGrid) ?_)
      | (have _t := tk3; clear _t tk3; go_at_call 176; (with_reducible refine (KW.out _ _ (KT.out _ _ C0.out N0.out)).mono ?_); rintro e w2 ⟨rfl, hb2⟩; have R2 := Lib.hid (R0.out.all hb2); have B2 := Lib.hid (B0.out.trans (hb2.mono B0.out.size)); clear hb2)
      | (have _t := tk4; clear _t tk4; refine wpList_storeM rfl 89 (.tmp 3) (.tmp 6) rfl (W.heap.size + 1) 0 rfl (bL PF) rfl 89 _ R2.out (by rw [bL_len, bL_len]; exact Nat.le_refl _) (by rw [bL_len]; exact Tryz.sizeSet) (fun v hv => bL_one hv) ?_
         intro w5 hc5 ha5
         rw [lay'_all (by rw [bL_len, bL_len])] at hc5
         have R5 := Lib.hid hc5
         have B5 : Hid (Below W.heap.size W w5) := Lib.hid (B2.out.trans (ha5.below (by omega)))
         clear hc5 ha5))
  refine bodyPost_ret (results_mid1 Tryz.results175 _ _ (W.heap.size + 1) (bL PF) _ rfl R5.out.whole Tryz.underlying89 rfl (by rw [bL_len]; exact Tryz.sizeSet)) rfl ?_
  exact ⟨rfl, B5.out⟩

set_option maxRecDepth 100000 in
set_option maxHeartbeats 8000000 in
theorem meanTrue (lo : Nat) (n : Int) (w : World) : Mean lo w (.func (.func 178) #[] #[]) (.leaf 2 n) := by
  refine ⟨_, _, rfl, enters_of Tryz.func178 (by kernel_rfl) rfl, fun m hg W _ => ?_⟩
  show Calls Tryz.prog 178 #[.agg (ints (gM m)).toArray] W _
  have KW := Lib.hid (fun W' h => where_any m.facts.length m.blocks.length m.actual m.facts m.blocks hg.1.small hg.1.1 179 #[] (fun _ => true) W' h)
  have KT : Hid (∀ W', Test W' 179 #[] m.facts.length (fun _ => true)) := Lib.hid (fun W' => ⟨enters_of Tryz.func179 (by kernel_rfl) rfl, fun i hi W2 _ => by
    show Calls Tryz.prog 179 #[.int .i64 i] W2 _
    go_enter Tryz.func179, Tryz.ntmps179
    go_wp2
    go_ret
    exact ⟨rfl, Below.refl _ _⟩⟩)
  have HL : Hid ((ints (gM m)).length = 67) := Lib.hid (gM_len hg)
  have HEV : Hid (evI (.leaf 2 n) m = cut m.facts.length fun _ => true) := Lib.hid (by unfold evI; congr 1)
  rw [HEV.out]
  generalize hPF : (cut m.facts.length fun _ => true) = PF at *
  change Hid (∀ W', _ → Calls _ _ #[.agg (ints (gM m)).toArray, _] W' _) at KW
  generalize gM m = G at *
  clear hg HEV hPF
  go_enter Tryz.func178, Tryz.ntmps178
  have tk5 : True := trivial
  have tk6 : True := trivial
  have tk7 : True := trivial
  have tk8 : True := trivial
  go_wp2_with
    (first
      | (have _t := tk5; clear _t tk5; refine wpList_allocM rfl 89 rfl (bL (fun _ => false)) Tryz.allocSet ?_
         intro w1 hc1 hb1 hs1
         have C0 : Hid (Cm w1 W.heap.size 85 (ints G)) := Lib.hid (Cm.all (Cm.new rfl) hb1)
         have R0 : Hid (Cm w1 (W.heap.size + 1) 89 (bL (fun _ => false))) := Lib.hid (by simpa using hc1)
         have B0 : Hid (Below W.heap.size W w1) := Lib.hid (Below.trans (by go_grown) (hb1.mono (by simp)))
         clear hc1 hb1 hs1)
      | (have _t := tk6; clear _t tk6; refine wpList_loadM rfl 85 _ rfl W.heap.size 0 rfl 85 (ints G) (ints G) C0.out (fun j _ => by rw [Nat.zero_add]) _ Tryz.underlying85 rfl (by rw [HL.out]; exact Tryz.sizeGrid) ?_)
      | (have _t := tk7; clear _t tk7; go_at_call 176; (with_reducible refine (KW.out _ (KT.out _)).mono ?_); rintro e w2 ⟨rfl, hb2⟩; have R2 := Lib.hid (R0.out.all hb2); have B2 := Lib.hid (B0.out.trans (hb2.mono B0.out.size)); clear hb2)
      | (have _t := tk8; clear _t tk8; refine wpList_storeM rfl 89 (.tmp 2) (.tmp 4) rfl (W.heap.size + 1) 0 rfl (bL PF) rfl 89 _ R2.out (by rw [bL_len, bL_len]; exact Nat.le_refl _) (by rw [bL_len]; exact Tryz.sizeSet) (fun v hv => bL_one hv) ?_
         intro w5 hc5 ha5
         rw [lay'_all (by rw [bL_len, bL_len])] at hc5
         have R5 := Lib.hid hc5
         have B5 : Hid (Below W.heap.size W w5) := Lib.hid (B2.out.trans (ha5.below (by omega)))
         clear hc5 ha5))
  refine bodyPost_ret (results_mid1 Tryz.results178 _ _ (W.heap.size + 1) (bL PF) _ rfl R5.out.whole Tryz.underlying89 rfl (by rw [bL_len]; exact Tryz.sizeSet)) rfl ?_
  exact ⟨rfl, B5.out⟩
end Go.Proofs.YtodjohdbngbpaaaGreat

/-
  The program's rule for what is true in all worlds of a scope (knows, all know, common), as function values. Condition: the grid fits, its facts are numbers from 0 to 15.
-/
namespace Go.Proofs.YtodjohdbngbpaaaGreat
open Go.RowKit Go.WideShapes
open Go Go.Deep
set_option linter.unusedSimpArgs false

/-- the function value v answers, for a grid and a world of it, with the worlds that count -/
def Scp (lo : Nat) (w : World) (v : Value) (op : Int) (n : Nat) : Prop := ∃ k caps, v = .func (.func k) #[] caps ∧ Enters Tryz.prog k ∧ ∀ m, gok m → ∀ i, i < m.facts.length → ∀ W, Keeps lo w.heap.size w W →
  Calls Tryz.prog k (#[.agg (ints (gM m)).toArray, .int .i64 i] ++ caps) W fun e W' => e = .returned (.agg (bL (scopeB op n m i)).toArray) ∧ Below W.heap.size W W'
theorem Scp.keeps {lo : Nat} {w W : World} {v : Value} {op : Int} {n : Nat} (h : Scp lo w v op n) (k : Keeps lo w.heap.size w W) : Scp lo W v op n := by
  obtain ⟨f, caps, e, h1, h2⟩ := h
  exact ⟨f, caps, e, h1, fun m hm i hi W' hW' => h2 m hm i hi W' (k.trans (hW'.less k.size))⟩
theorem Keeps.at {lo : Nat} {w W W' : World} (h : Keeps lo w.heap.size w W) (h2 : Below W.heap.size W W') : Keeps lo w.heap.size w W' := h.trans (Keeps.of_all h2)

set_option maxRecDepth 100000 in
set_option maxHeartbeats 8000000 in
theorem all_test (lo : Nat) (w : World) (bs bg bt : Nat) (m : Md) (op : Int) (n : Nat) (sv : Value) (p : Nat → Bool) (hg : gok m) (hS : Cm w bs 208 [sv]) (hG : Cm w bg 85 (ints (gM m))) (hT : Cm w bt 89 (bL p)) (hsc : Scp lo w sv op n) :
    Test w 197 #[.pointer (some ⟨bs, 0, none⟩), .pointer (some ⟨bg, 0, none⟩), .pointer (some ⟨bt, 0, none⟩)] m.facts.length (fun i => subB (scopeB op n m i) p) := by
  refine ⟨enters_of Tryz.func197 (by kernel_rfl) rfl, fun i hi W hW => ?_⟩
  show Calls Tryz.prog 197 #[.int .i64 i, .pointer (some ⟨bs, 0, none⟩), .pointer (some ⟨bg, 0, none⟩), .pointer (some ⟨bt, 0, none⟩)] W _
  obtain ⟨k, caps, rfl, hen, hsc⟩ := hsc
  have KS := Lib.hid (fun W' (h : Below W.heap.size W W') => hsc m hg i hi W' (Keeps.of_all (hW.trans (h.mono hW.size))))
  have HS : Hid (∀ W', Below W.heap.size W W' → W'.cell? ⟨bs, 0, none⟩ = some (.func (.func k) #[] caps)) := Lib.hid (fun W' h => ((hS.all hW).all h).one)
  have HRG : Hid (∀ W', Below W.heap.size W W' → W'.rangeAt bg 0 (ints (gM m))) := Lib.hid (fun W' h => ((hG.all hW).all h).whole)
  have HRT : Hid (∀ W', Below W.heap.size W W' → W'.rangeAt bt 0 (bL p)) := Lib.hid (fun W' h => ((hT.all hW).all h).whole)
  have HL : Hid ((ints (gM m)).length = 67) := Lib.hid (gM_len hg)
  have HU : Tryz.prog.underlying 85 = some _ := Tryz.underlying85
  have HUS : Tryz.prog.underlying 89 = some _ := Tryz.underlying89
  have hent : ∀ args w, (callFunc k args).run Tryz.prog w = .ok (.enter k args) w := hen
  generalize gM m = G at *
  obtain ⟨PS, hPS⟩ : ∃ PS, PS = scopeB op n m i := ⟨_, rfl⟩
  rw [← hPS] at KS
  have HPS := Lib.hid hPS
  clear hS hG hT hsc hen hW hg hPS
  go_enter Tryz.func197, Tryz.ntmps197
  go_wp2
  refine regionL (fun W' => Below W.heap.size W W') [] (by kernel_rfl) (Below.refl _ _).drew (fun hHeld => ?_)
  refine takeA (i := 0) (v := .func (.func k) #[] caps) 6 rfl rfl (by kernel_rfl) (by kernel_rfl) (by kernel_rfl) (by kernel_rfl) (fun _ _ _ h => h) (Or.inl ⟨by rfl, by intro W hSw; have c1 := HS.out _ hSw; go_simp⟩) hHeld ?_
  simp only [Act.put, List.setIfInBounds_toArray, List.set_cons_zero, List.set_cons_succ]
  refine takeA (i := 1) (v := .agg (ints G).toArray) 7 rfl rfl (by kernel_rfl) (by kernel_rfl) (by kernel_rfl) (by kernel_rfl) (fun _ _ _ h => h) (yieldsIf_load_mid (by rfl) 85 _ rfl bg 0 rfl (ints G) _ HRG.out HU rfl (by rw [HL.out]; exact Tryz.sizeGrid)) hHeld ?_
  simp only [Act.put, List.setIfInBounds_toArray, List.set_cons_zero, List.set_cons_succ]
  refine takeA (i := 2) (v := .int .i64 i) 8 rfl rfl (by kernel_rfl) (by kernel_rfl) (by kernel_rfl) (by kernel_rfl) (fun _ _ _ h => h) (Or.inl ⟨by rfl, by intro W hSw; go_simp⟩) hHeld ?_
  simp only [Act.put, List.setIfInBounds_toArray, List.set_cons_zero, List.set_cons_succ]
  refine takeA (i := 4) (v := .agg (bL p).toArray) 10 rfl rfl (by kernel_rfl) (by kernel_rfl) (by kernel_rfl) (by kernel_rfl) (fun _ _ _ h => h) (yieldsIf_load_mid (by rfl) 89 _ rfl bt 0 rfl (bL p) _ HRT.out HUS rfl (by rw [bL_len]; exact Tryz.sizeSet)) hHeld ?_
  simp only [Act.put, List.setIfInBounds_toArray, List.set_cons_zero, List.set_cons_succ]
  refine onlyL (i := 3) (by kernel_rfl) rfl (by rfl) (fun K hK => ?_)
  go_simp
  refine (KS.out _ hHeld).mono ?_
  rintro e w8 ⟨rfl, hb8⟩
  have t8 : Below W.heap.size W w8 := hHeld.trans (hb8.mono (Nat.le_refl _))
  clear hb8 hHeld
  refine hK.out _ _ (fun _ => t8) (fun hHeld => ?_)
  have hHeld := hHeld (by decide)
  clear hK K
  try simp only [Act.put, List.setIfInBounds_toArray, List.set_cons_zero, List.set_cons_succ]
  refine onlyL (i := 5) (by kernel_rfl) rfl (by rfl) (fun K hK => ?_)
  go_simp
  refine (isWithin_any PS p _).mono ?_
  rintro e w9 ⟨rfl, hb9⟩
  have t9 : Below W.heap.size W w9 := t8.trans (hb9.mono t8.size)
  clear hb9 hHeld
  refine hK.out _ _ (fun _ => t9) (fun hHeld => ?_)
  have hHeld := hHeld (by decide)
  clear hK K
  try simp only [Act.put, List.setIfInBounds_toArray, List.set_cons_zero, List.set_cons_succ]
  refine takeA (i := 6) (v := .bool (subB PS p)) 5 rfl rfl (by kernel_rfl) (by kernel_rfl) (by kernel_rfl) (by kernel_rfl) (fun _ _ _ h => h) (Or.inl ⟨by rfl, by intro W hSw; go_simp⟩) hHeld ?_
  simp only [Act.put, List.setIfInBounds_toArray, List.set_cons_zero, List.set_cons_succ]
  refine doneL (by kernel_rfl) ?_ _
  go_wp2
  go_ret
  exact ⟨ret_bool (by rw [HPS.out]), t9⟩

set_option maxRecDepth 100000 in
set_option maxHeartbeats 8000000 in
theorem meanAll (lo bp bs : Nat) (u sv : Value) (a : Tm) (op n : Int) (w : World) (hp : Cm w bp 136 [u]) (hs : Cm w bs 208 [sv]) (hlp : lo ≤ bp) (hls : lo ≤ bs) (hM : Mean lo w u a) (hS : Scp lo w sv op n.toNat) (hop : op ≠ 6) :
    Mean lo w (.func (.func 196) #[] #[.pointer (some ⟨bp, 0, none⟩), .pointer (some ⟨bs, 0, none⟩)]) (.know op n a) := by
  refine ⟨_, _, rfl, enters_of Tryz.func196 (by kernel_rfl) rfl, fun m hg W hW => ?_⟩
  show Calls Tryz.prog 196 #[.agg (ints (gM m)).toArray, .pointer (some ⟨bp, 0, none⟩), .pointer (some ⟨bs, 0, none⟩)] W _
  obtain ⟨k, caps, rfl, hen, hM⟩ := hM
  have CP := Lib.hid (hp.keeps hW hlp hp.lt)
  have CS := Lib.hid (hs.keeps hW hls hs.lt)
  have SC := Lib.hid (hS.keeps hW)
  have KM := Lib.hid (fun W' (h : Below W.heap.size W W') => hM m hg W' (hW.at h))
  have KW := Lib.hid (fun caps W' h => where_any m.facts.length m.blocks.length m.actual m.facts m.blocks hg.1.small hg.1.1 197 caps (fun i => subB (scopeB op n.toNat m i) (evI a m)) W' h)
  have KT := Lib.hid (fun W' bs bg bt h1 h2 h3 h4 => all_test lo W' bs bg bt m op n.toNat sv (evI a m) hg h1 h2 h3 h4)
  have HL : Hid ((ints (gM m)).length = 67) := Lib.hid (gM_len hg)
  have HEV : Hid (evI (.know op n a) m = cut m.facts.length fun i => subB (scopeB op n.toNat m i) (evI a m)) := Lib.hid (by simp only [evI]; rw [if_neg hop])
  rw [HEV.out]
  generalize hPF : (cut m.facts.length fun i => subB (scopeB op n.toNat m i) (evI a m)) = PF at *
  change Hid (∀ caps W', _ → Calls _ _ #[.agg (ints (gM m)).toArray, _] W' _) at KW
  generalize gM m = G at *
  generalize evI a m = PA at *
  have hent : ∀ args w, (callFunc k args).run Tryz.prog w = .ok (.enter k args) w := hen
  have hmf : ∀ (fn : Fn) (first cap : Array Value) (w : World), (Instr.makeFunc fn first cap).run Tryz.prog w = .ok (.func fn first cap) w := fun _ _ _ _ => rfl
  clear hp hs hS hM hW hg HEV hPF hen
  go_enter Tryz.func196, Tryz.ntmps196
  have tk1 : True := trivial
  have tk2 : True := trivial
  have tk3 : True := trivial
  have tk4 : True := trivial
  have tk5 : True := trivial
  have tk6 : True := trivial
  have tk7 : True := trivial
  have tk8 : True := trivial
  go_wp2_with
    (first
      | (have _t := tk1; clear _t tk1; refine wpList_allocM rfl 89 rfl (bL (fun _ => false)) Tryz.allocSet ?_
         intro w1 hc1 hb1 hs1
         have C0 : Hid (Cm w1 W.heap.size 85 (ints G)) := Lib.hid (Cm.all (Cm.new rfl) hb1)
         have R0 : Hid (Cm w1 (W.heap.size + 1) 89 (bL (fun _ => false))) := Lib.hid (by simpa using hc1)
         have B0 : Hid (Below W.heap.size W w1) := Lib.hid (Below.trans (by go_grown) (hb1.mono (by simp)))
         have cp := (CP.out.all B0.out).one
         clear hc1 hb1 hs1)
      | (have _t := tk2; clear _t tk2; refine wpList_loadM rfl 85 _ rfl W.heap.size 0 rfl 85 (ints G) (ints G) C0.out (fun j _ => by rw [Nat.zero_add]) _ Tryz.underlying85 rfl (by rw [HL.out]; exact Tryz.sizeGrid) ?_)
      | (have _t := tk3; clear _t tk3; with_reducible refine (KM.out _ B0.out).mono ?_
         rintro e w2 ⟨rfl, hb2⟩
         have C0 := Lib.hid (C0.out.all hb2)
         have R0 := Lib.hid (R0.out.all hb2)
         have B0 := Lib.hid (B0.out.trans (hb2.mono B0.out.size))
         have hq0 : W.heap.size + 1 < w2.heap.size := R0.out.lt
         clear hb2 cp)
      | (have _t := tk4; clear _t tk4; refine wpList_allocM rfl 89 rfl (bL (fun _ => false)) Tryz.allocSet ?_
         intro w3 hc1 hb1 hs1
         have T0 := Lib.hid hc1
         have C0 := Lib.hid (C0.out.all hb1)
         have R0 := Lib.hid (R0.out.all hb1)
         have B0 := Lib.hid (B0.out.trans (hb1.mono B0.out.size))
         clear hc1 hb1 hs1)
      | (have _t := tk5; clear _t tk5; refine wpList_storeM rfl 89 (.tmp 5) (.tmp 8) rfl w2.heap.size 0 rfl (bL PA) rfl 89 _ T0.out (by rw [bL_len, bL_len]; exact Nat.le_refl _) (by rw [bL_len]; exact Tryz.sizeSet) (fun v hv => bL_one hv) ?_
         intro w4 hc5 ha5
         rw [lay'_all (by rw [bL_len, bL_len])] at hc5
         have T0 := Lib.hid hc5
         have C0 := Lib.hid (ha5.cm C0.out (by omega))
         have R0 := Lib.hid (ha5.cm R0.out (by omega))
         have B0 : Hid (Below W.heap.size W w4) := Lib.hid (B0.out.trans (ha5.below (by omega)))
         have S0 := Lib.hid (CS.out.all B0.out)
         have SS := Lib.hid (SC.out.keeps (Keeps.of_all B0.out))
         clear hc5 ha5)
      | (have _t := tk6; clear _t tk6; refine wpList_loadM rfl 85 _ rfl W.heap.size 0 rfl 85 (ints G) (ints G) C0.out (fun j _ => by rw [Nat.zero_add]) _ Tryz.underlying85 rfl (by rw [HL.out]; exact Tryz.sizeGrid) ?_)
      | (have _t := tk7; clear _t tk7; go_at_call 176; (with_reducible refine (KW.out _ _ (KT.out _ _ _ _ S0.out C0.out T0.out SS.out)).mono ?_); rintro e w6 ⟨rfl, hb2⟩; have R2 := Lib.hid (R0.out.all hb2); have B2 := Lib.hid (B0.out.trans (hb2.mono B0.out.size)); clear hb2)
      | (have _t := tk8; clear _t tk8; refine wpList_storeM rfl 89 (.tmp 4) (.tmp 11) rfl (W.heap.size + 1) 0 rfl (bL PF) rfl 89 _ R2.out (by rw [bL_len, bL_len]; exact Nat.le_refl _) (by rw [bL_len]; exact Tryz.sizeSet) (fun v hv => bL_one hv) ?_
         intro w5 hc5 ha5
         rw [lay'_all (by rw [bL_len, bL_len])] at hc5
         have R5 := Lib.hid hc5
         have B5 : Hid (Below W.heap.size W w5) := Lib.hid (B2.out.trans (ha5.below (by omega)))
         clear hc5 ha5))
  refine bodyPost_ret (results_mid1 Tryz.results196 _ _ (W.heap.size + 1) (bL PF) _ rfl R5.out.whole Tryz.underlying89 rfl (by rw [bL_len]; exact Tryz.sizeSet)) rfl ?_
  exact ⟨rfl, B5.out⟩

set_option maxRecDepth 100000 in
set_option maxHeartbeats 8000000 in
theorem scpKnow (lo b n : Nat) (w : World) (hb : Cm w b 3 [.int .i64 n]) (hlb : lo ≤ b) (hn : n < 3) :
    Scp lo w (.func (.func 185) #[] #[.pointer (some ⟨b, 0, none⟩)]) 5 n := by
  refine ⟨_, _, rfl, enters_of Tryz.func185 (by kernel_rfl) rfl, fun m hg i hi W hW => ?_⟩
  show Calls Tryz.prog 185 #[.agg (ints (gM m)).toArray, .int .i64 i, .pointer (some ⟨b, 0, none⟩)] W _
  have hn16 := hg.1.1
  have CB := Lib.hid (hb.keeps hW hlb hb.lt)
  have KB := Lib.hid (fun W' => block_any m.facts.length m.blocks.length m.actual m.facts m.blocks hg.1.small hg.1.1 n i hn (by omega) W')
  have HL : Hid ((ints (gM m)).length = 67) := Lib.hid (gM_len hg)
  have HEV : Hid (scopeB 5 n m i = blkB m.blocks m.facts.length n i) := Lib.hid (by unfold scopeB; rw [if_pos rfl])
  rw [HEV.out]
  generalize blkB m.blocks m.facts.length n i = PF at *
  change Hid (∀ W', Calls _ _ #[.agg (ints (gM m)).toArray, _, _] W' _) at KB
  generalize gM m = G at *
  clear hb hW hg HEV
  go_enter Tryz.func185, Tryz.ntmps185
  have tk9 : True := trivial
  have tk10 : True := trivial
  have tk11 : True := trivial
  have tk12 : True := trivial
  go_wp2_with
    (first
      | (have _t := tk9; clear _t tk9; refine wpList_allocM rfl 89 rfl (bL (fun _ => false)) Tryz.allocSet ?_
         intro w1 hc1 hb1 hs1
         have C0 : Hid (Cm w1 W.heap.size 85 (ints G)) := Lib.hid (Cm.all (Cm.new rfl) hb1)
         have R0 : Hid (Cm w1 (W.heap.size + 1) 89 (bL (fun _ => false))) := Lib.hid (by simpa using hc1)
         have B0 : Hid (Below W.heap.size W w1) := Lib.hid (Below.trans (by go_grown) (hb1.mono (by simp)))
         have cp := (CB.out.all B0.out).one
         clear hc1 hb1 hs1)
      | (have _t := tk10; clear _t tk10; refine wpList_loadM rfl 85 _ rfl W.heap.size 0 rfl 85 (ints G) (ints G) C0.out (fun j _ => by rw [Nat.zero_add]) _ Tryz.underlying85 rfl (by rw [HL.out]; exact Tryz.sizeGrid) ?_)
      | (have _t := tk11; clear _t tk11; go_at_call 186; (with_reducible refine (KB.out _).mono ?_); rintro e w6 ⟨rfl, hb2⟩; have R2 := Lib.hid (R0.out.all hb2); have B2 := Lib.hid (B0.out.trans (hb2.mono B0.out.size)); clear hb2 cp)
      | (have _t := tk12; clear _t tk12; refine wpList_storeM rfl 89 (.tmp 5) (.tmp 9) rfl (W.heap.size + 1) 0 rfl (bL PF) rfl 89 _ R2.out (by rw [bL_len, bL_len]; exact Nat.le_refl _) (by rw [bL_len]; exact Tryz.sizeSet) (fun v hv => bL_one hv) ?_
         intro w5 hc5 ha5
         rw [lay'_all (by rw [bL_len, bL_len])] at hc5
         have R5 := Lib.hid hc5
         have B5 : Hid (Below W.heap.size W w5) := Lib.hid (B2.out.trans (ha5.below (by omega)))
         clear hc5 ha5))
  refine bodyPost_ret (results_mid1 Tryz.results185 _ _ (W.heap.size + 1) (bL PF) _ rfl R5.out.whole Tryz.underlying89 rfl (by rw [bL_len]; exact Tryz.sizeSet)) rfl ?_
  exact ⟨rfl, B5.out⟩
theorem scpEvery (lo n : Nat) (w : World) : Scp lo w (.func (.func 190) #[] #[]) 7 n :=
  ⟨_, _, rfl, enters_of Tryz.func190 (by kernel_rfl) rfl, fun m hg i hi W _ => by
    have h := near_any m.facts.length m.blocks.length m.actual m.facts m.blocks hg.1.small hg.1.1 hg.1.2.1 i (by have := hg.1.1; omega) W
    have e : scopeB 7 n m i = nearB m.blocks m.facts.length m.blocks.length i := by unfold scopeB; rw [if_neg (by decide), if_pos rfl]
    rw [e]; exact h⟩
theorem scpCommon (lo n : Nat) (w : World) : Scp lo w (.func (.func 191) #[] #[]) 8 n :=
  ⟨_, _, rfl, enters_of Tryz.func191 (by kernel_rfl) rfl, fun m hg i hi W _ => by
    have h := reached_any m.facts.length m.blocks.length m.actual m.facts m.blocks hg.1.small hg.1.1 hg.2.1 hg.1.2.1 i hi W
    have e : scopeB 8 n m i = reachB m.blocks m.facts.length m.blocks.length i := by unfold scopeB; rw [if_neg (by decide), if_neg (by decide)]
    rw [e]; exact h⟩
end Go.Proofs.YtodjohdbngbpaaaGreat
