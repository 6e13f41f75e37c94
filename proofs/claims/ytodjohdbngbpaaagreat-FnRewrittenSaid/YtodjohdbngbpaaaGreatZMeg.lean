/-
  Several texts in one: Mef Meg. Conditions: as each theorem says.
-/
import Derived.Test.YtodjohdbngbpaaaGreatZMea
import Derived.Test.YtodjohdbngbpaaaGreatZMee
import Derived.Test.YtodjohdbngbpaaaGreatZForm
import Derived.Test.YtodjohdbngbpaaaGreatZSet
import Derived.Laws.EntriesVeiled
/-
  The program's rules make function values with the stated meanings: meaningOfFact .. meaningOfAfter. Condition: the parts mean their formulas.
-/
namespace Go.Proofs.YtodjohdbngbpaaaGreat
open Go.RowKit Go.WideShapes
open Go Go.Deep
set_option linter.unusedSimpArgs false

/-- a slice of one function value that means a -/
def Part1 (lo : Nat) (w : World) (v : Value) (a : Tm) : Prop := ∃ pb po c u, v = .slice (some ⟨pb, po, none⟩) 1 c ∧ 1 ≤ c ∧ c ≤ maxLen ∧ lo ≤ pb ∧ w.cell? ⟨pb, po, none⟩ = some u ∧ Mean lo w u a
/-- a slice of two -/
def Part2 (lo : Nat) (w : World) (v : Value) (a b : Tm) : Prop := ∃ pb po c u1 u2, v = .slice (some ⟨pb, po, none⟩) 2 c ∧ 2 ≤ c ∧ c ≤ maxLen ∧ lo ≤ pb ∧ w.cell? ⟨pb, po, none⟩ = some u1 ∧ w.cell? ⟨pb, po + 1, none⟩ = some u2 ∧ Mean lo w u1 a ∧ Mean lo w u2 b

theorem cell_all {w W : World} {b o : Nat} {v : Value} (h : w.cell? ⟨b, o, none⟩ = some v) (hb : Below w.heap.size w W) : W.cell? ⟨b, o, none⟩ = some v := (hb.cell (p := ⟨b, o, none⟩) (World.block_lt_of_cell? _ _ h)).trans h
set_option maxRecDepth 100000 in
set_option maxHeartbeats 2000000 in
theorem mkFact (lo n : Nat) (v : Value) (w : World) (hlo : lo ≤ w.heap.size) (hn : n < 4) : Calls Tryz.prog 162 #[.int .i64 n, v] w (MeanAns lo w (.leaf 1 n)) := by
  have hmf : ∀ (fn : Fn) (first cap : Array Value) (w : World), (Instr.makeFunc fn first cap).run Tryz.prog w = .ok (.func fn first cap) w := fun _ _ _ _ => rfl
  go_enter Tryz.func162, Tryz.ntmps162
  go_wp2
  go_ret
  exact ⟨_, rfl, meanFact lo w.heap.size n _ (Cm.new rfl) hlo hn, by go_grown⟩
set_option maxRecDepth 100000 in
set_option maxHeartbeats 2000000 in
theorem mkTrue (lo : Nat) (n : Int) (v : Value) (w : World) : Calls Tryz.prog 163 #[.int .i64 n, v] w (MeanAns lo w (.leaf 2 n)) := by
  go_enter Tryz.func163, Tryz.ntmps163
  go_wp2
  go_ret
  exact ⟨_, rfl, meanTrue lo n _, by go_grown⟩
set_option maxRecDepth 100000 in
set_option maxHeartbeats 2000000 in
theorem mkNot (lo : Nat) (n : Int) (v : Value) (a : Tm) (w : World) (hlo : lo ≤ w.heap.size) (hp : Part1 lo w v a) : Calls Tryz.prog 164 #[.int .i64 n, v] w (MeanAns lo w (.deny a)) := by
  obtain ⟨pb, po, c, u, rfl, _, _, hlp, hu, hM⟩ := hp
  have hmf : ∀ (fn : Fn) (first cap : Array Value) (w : World), (Instr.makeFunc fn first cap).run Tryz.prog w = .ok (.func fn first cap) w := fun _ _ _ _ => rfl
  have HU := Lib.hid hu
  have HM := Lib.hid hM
  clear hu hM
  go_enter Tryz.func164, Tryz.ntmps164
  go_wp2
  go_ret
  exact ⟨_, rfl, meanNot lo w.heap.size pb po c u a _ (Cm.new rfl) hlo hlp (cell_all HU.out (by go_grown)) (HM.out.all (by go_grown)), by go_grown⟩
set_option maxRecDepth 100000 in
set_option maxHeartbeats 2000000 in
theorem mkAnd (lo : Nat) (n : Int) (v : Value) (a b : Tm) (w : World) (hlo : lo ≤ w.heap.size) (hp : Part2 lo w v a b) : Calls Tryz.prog 165 #[.int .i64 n, v] w (MeanAns lo w (.joint 4 a b)) := by
  obtain ⟨pb, po, c, u1, u2, rfl, _, _, hlp, hu1, hu2, hM1, hM2⟩ := hp
  have hmf : ∀ (fn : Fn) (first cap : Array Value) (w : World), (Instr.makeFunc fn first cap).run Tryz.prog w = .ok (.func fn first cap) w := fun _ _ _ _ => rfl
  have HU1 := Lib.hid hu1
  have HU2 := Lib.hid hu2
  have HM1 := Lib.hid hM1
  have HM2 := Lib.hid hM2
  clear hu1 hu2 hM1 hM2
  go_enter Tryz.func165, Tryz.ntmps165
  go_wp2
  go_ret
  exact ⟨_, rfl, meanAnd lo w.heap.size pb po c u1 u2 a b _ (Cm.new rfl) hlo hlp (cell_all HU1.out (by go_grown)) (cell_all HU2.out (by go_grown)) (HM1.out.all (by go_grown)) (HM2.out.all (by go_grown)), by go_grown⟩
set_option maxRecDepth 100000 in
set_option maxHeartbeats 2000000 in
theorem mkAfter (lo : Nat) (n : Int) (v : Value) (a b : Tm) (w : World) (hlo : lo ≤ w.heap.size) (hp : Part2 lo w v a b) : Calls Tryz.prog 170 #[.int .i64 n, v] w (MeanAns lo w (.joint 9 a b)) := by
  obtain ⟨pb, po, c, u1, u2, rfl, _, _, hlp, hu1, hu2, hM1, hM2⟩ := hp
  have hmf : ∀ (fn : Fn) (first cap : Array Value) (w : World), (Instr.makeFunc fn first cap).run Tryz.prog w = .ok (.func fn first cap) w := fun _ _ _ _ => rfl
  have HU1 := Lib.hid hu1
  have HU2 := Lib.hid hu2
  have HM1 := Lib.hid hM1
  have HM2 := Lib.hid hM2
  clear hu1 hu2 hM1 hM2
  go_enter Tryz.func170, Tryz.ntmps170
  go_wp2
  go_ret
  exact ⟨_, rfl, meanAfter lo w.heap.size pb po c u1 u2 a b _ (Cm.new rfl) hlo hlp (cell_all HU1.out (by go_grown)) (cell_all HU2.out (by go_grown)) (HM1.out.all (by go_grown)) (HM2.out.all (by go_grown)), by go_grown⟩
set_option maxRecDepth 100000 in
set_option maxHeartbeats 2000000 in
theorem mkWhether (lo n : Nat) (v : Value) (a : Tm) (w : World) (hlo : lo ≤ w.heap.size) (hn : n < 3) (hp : Part1 lo w v a) : Calls Tryz.prog 167 #[.int .i64 n, v] w (MeanAns lo w (.know 6 n a)) := by
  obtain ⟨pb, po, c, u, rfl, _, _, hlp, hu, hM⟩ := hp
  have hmf : ∀ (fn : Fn) (first cap : Array Value) (w : World), (Instr.makeFunc fn first cap).run Tryz.prog w = .ok (.func fn first cap) w := fun _ _ _ _ => rfl
  have HU := Lib.hid hu
  have HM := Lib.hid hM
  clear hu hM
  go_enter Tryz.func167, Tryz.ntmps167
  go_wp2
  go_ret
  exact ⟨_, rfl, meanWhether lo (w.heap.size + 1) w.heap.size pb po c n u a _ (Cm.new (by simp)) ((Cm.new rfl).alloc _) (by omega) hlo hlp hn (cell_all HU.out (by go_grown)) (HM.out.all (by go_grown)), by go_grown⟩
set_option maxRecDepth 100000 in
set_option maxHeartbeats 2000000 in
theorem mkAll (lo : Nat) (u sv : Value) (a : Tm) (op n : Int) (w : World) (hlo : lo ≤ w.heap.size) (hM : Mean lo w u a) (hS : Scp lo w sv op n.toNat) (hop : op ≠ 6) : Calls Tryz.prog 184 #[u, sv] w (MeanAns lo w (.know op n a)) := by
  have hmf : ∀ (fn : Fn) (first cap : Array Value) (w : World), (Instr.makeFunc fn first cap).run Tryz.prog w = .ok (.func fn first cap) w := fun _ _ _ _ => rfl
  have HM := Lib.hid hM
  have HS := Lib.hid hS
  obtain ⟨k1, c1, rfl, _⟩ := hM
  obtain ⟨k2, c2, rfl, _⟩ := hS
  go_enter Tryz.func184, Tryz.ntmps184
  go_wp2
  go_ret
  exact ⟨_, rfl, meanAll lo w.heap.size (w.heap.size + 1) _ _ a op n _ ((Cm.new rfl).alloc _) (Cm.new (by simp)) hlo (by omega) (HM.out.all (by go_grown)) (HS.out.keeps (Keeps.of_all (by go_grown))) hop, by go_grown⟩
set_option maxRecDepth 100000 in
set_option maxHeartbeats 2000000 in
theorem mkKnow (lo n : Nat) (v : Value) (a : Tm) (w : World) (hlo : lo ≤ w.heap.size) (hn : n < 3) (hp : Part1 lo w v a) : Calls Tryz.prog 166 #[.int .i64 n, v] w (MeanAns lo w (.know 5 n a)) := by
  obtain ⟨pb, po, c, u, rfl, hc1, hcm, hlp, hu, hM⟩ := hp
  unfold maxLen at hcm
  have hmf : ∀ (fn : Fn) (first cap : Array Value) (w : World), (Instr.makeFunc fn first cap).run Tryz.prog w = .ok (.func fn first cap) w := fun _ _ _ _ => rfl
  have HM := Lib.hid hM
  have hpl : pb < w.heap.size := World.block_lt_of_cell? _ _ hu
  obtain ⟨k1, c1, rfl, _⟩ := hM
  have hu1 : (w.alloc (.cells #[.int .i64 n] 3)).cell? ⟨pb, po, none⟩ = some (.func (.func k1) #[] c1) := cell_all hu (by go_grown)
  have KA := Lib.hid (fun sv W h1 h2 h3 => mkAll lo (.func (.func k1) #[] c1) sv a 5 n W h1 h2 h3 (by decide))
  clear hu
  go_enter Tryz.func166, Tryz.ntmps166
  go_wp2_with fail
  clear hu1
  refine (KA.out _ _ (by simp; omega) (HM.out.all (by go_grown)) (scpKnow lo w.heap.size n _ (Cm.new rfl) hlo hn)).mono ?_
  rintro e w2 ⟨v2, rfl, hm2, hb2⟩
  have M2 := Lib.hid hm2
  have B2 : Hid (Below w.heap.size w w2) := Lib.hid (Below.trans (by go_grown) (hb2.mono (by simp)))
  clear hm2 hb2
  go_wp2
  go_ret
  exact ⟨_, rfl, M2.out, B2.out⟩
set_option maxRecDepth 100000 in
set_option maxHeartbeats 2000000 in
theorem mkEvery (lo n : Nat) (v : Value) (a : Tm) (w : World) (hlo : lo ≤ w.heap.size) (hp : Part1 lo w v a) : Calls Tryz.prog 168 #[.int .i64 n, v] w (MeanAns lo w (.know 7 n a)) := by
  obtain ⟨pb, po, c, u, rfl, hc1, hcm, hlp, hu, hM⟩ := hp
  unfold maxLen at hcm
  have HM := Lib.hid hM
  obtain ⟨k1, c1, rfl, _⟩ := hM
  have KA := Lib.hid (fun sv W h1 h2 h3 => mkAll lo (.func (.func k1) #[] c1) sv a 7 n W h1 h2 h3 (by decide))
  go_enter Tryz.func168, Tryz.ntmps168
  go_wp2_with fail
  clear hu
  refine (KA.out _ _ hlo HM.out (scpEvery lo _ _)).mono ?_
  rintro e w2 ⟨v2, rfl, hm2, hb2⟩
  have M2 := Lib.hid hm2
  have B2 : Hid (Below w.heap.size w w2) := Lib.hid hb2
  clear hm2 hb2
  go_wp2
  go_ret
  exact ⟨_, rfl, M2.out, B2.out⟩
set_option maxRecDepth 100000 in
set_option maxHeartbeats 2000000 in
theorem mkCommon (lo n : Nat) (v : Value) (a : Tm) (w : World) (hlo : lo ≤ w.heap.size) (hp : Part1 lo w v a) : Calls Tryz.prog 169 #[.int .i64 n, v] w (MeanAns lo w (.know 8 n a)) := by
  obtain ⟨pb, po, c, u, rfl, hc1, hcm, hlp, hu, hM⟩ := hp
  unfold maxLen at hcm
  have HM := Lib.hid hM
  obtain ⟨k1, c1, rfl, _⟩ := hM
  have KA := Lib.hid (fun sv W h1 h2 h3 => mkAll lo (.func (.func k1) #[] c1) sv a 8 n W h1 h2 h3 (by decide))
  go_enter Tryz.func169, Tryz.ntmps169
  go_wp2_with fail
  clear hu
  refine (KA.out _ _ hlo HM.out (scpCommon lo _ _)).mono ?_
  rintro e w2 ⟨v2, rfl, hm2, hb2⟩
  have M2 := Lib.hid hm2
  have B2 : Hid (Below w.heap.size w w2) := Lib.hid hb2
  clear hm2 hb2
  go_wp2
  go_ret
  exact ⟨_, rfl, M2.out, B2.out⟩
end Go.Proofs.YtodjohdbngbpaaaGreat

/-
  The program's table of rules (ruleOf) and the meaning of a formula (meaningOf). Condition: the formula is valid.
-/
namespace Go.Proofs.YtodjohdbngbpaaaGreat
open Go.RowKit Go.WideShapes
open Go Go.Deep
set_option linter.unusedSimpArgs false

/-- the rule of an operation -/
def rf (op : Int) : FuncId := if op = 1 then 162 else if op = 2 then 163 else if op = 3 then 164 else if op = 4 then 165 else if op = 5 then 166 else if op = 6 then 167 else if op = 7 then 168 else if op = 8 then 169 else 170
theorem op_cases {op : Int} (h1 : 1 ≤ op) (h9 : op ≤ 9) : op = 1 ∨ op = 2 ∨ op = 3 ∨ op = 4 ∨ op = 5 ∨ op = 6 ∨ op = 7 ∨ op = 8 ∨ op = 9 := by omega

set_option maxRecDepth 100000 in
set_option maxHeartbeats 8000000 in
theorem ruleOf_any (op : Int) (h1 : 1 ≤ op) (h9 : op ≤ 9) (w : World) : Calls Tryz.prog 144 #[.int .i64 op] w fun e w' => e = .returned (.func (.func (rf op)) #[] #[]) ∧ Below w.heap.size w w' := by
  rcases op_cases h1 h9 with rfl | rfl | rfl | rfl | rfl | rfl | rfl | rfl | rfl
  all_goals
    go_enter Tryz.func144, Tryz.ntmps144
    go_wp2
    go_ret
    exact ⟨rfl, by go_grown⟩
theorem rf_enters {op : Int} (h1 : 1 ≤ op) (h9 : op ≤ 9) : Enters Tryz.prog (rf op) := by
  rcases op_cases h1 h9 with rfl | rfl | rfl | rfl | rfl | rfl | rfl | rfl | rfl
  · exact enters_of Tryz.func162 (by kernel_rfl) rfl
  · exact enters_of Tryz.func163 (by kernel_rfl) rfl
  · exact enters_of Tryz.func164 (by kernel_rfl) rfl
  · exact enters_of Tryz.func165 (by kernel_rfl) rfl
  · exact enters_of Tryz.func166 (by kernel_rfl) rfl
  · exact enters_of Tryz.func167 (by kernel_rfl) rfl
  · exact enters_of Tryz.func168 (by kernel_rfl) rfl
  · exact enters_of Tryz.func169 (by kernel_rfl) rfl
  · exact enters_of Tryz.func170 (by kernel_rfl) rfl
theorem rule_any (lo : Nat) (op n : Int) (v : Value) (a b : Tm) (w : World) (h1 : 1 ≤ op) (h9 : op ≤ 9) (hn0 : 0 ≤ n) (hn : n < limN op) (hlo : lo ≤ w.heap.size) (hp1 : usesI op = 1 → Part1 lo w v a) (hp2 : usesI op = 2 → Part2 lo w v a b) :
    Calls Tryz.prog (rf op) #[.int .i64 n, v] w (MeanAns lo w (mkTm op n a b)) := by
  obtain ⟨k, rfl⟩ := Int.eq_ofNat_of_zero_le hn0
  rcases op_cases h1 h9 with rfl | rfl | rfl | rfl | rfl | rfl | rfl | rfl | rfl
  · exact mkFact lo k v w hlo (by have : limN 1 = 4 := rfl; omega)
  · exact mkTrue lo _ v w
  · exact mkNot lo _ v a w hlo (hp1 rfl)
  · exact mkAnd lo _ v a b w hlo (hp2 rfl)
  · exact mkKnow lo k v a w hlo (by have : limN 5 = 3 := rfl; omega) (hp1 rfl)
  · exact mkWhether lo k v a w hlo (by have : limN 6 = 3 := rfl; omega) (hp1 rfl)
  · exact mkEvery lo k v a w hlo (hp1 rfl)
  · exact mkCommon lo k v a w hlo (hp1 rfl)
  · exact mkAfter lo _ v a b w hlo (hp2 rfl)
theorem Tryz.infoFn : (Tryz.prog.info? 136).map (fun i => (i.zero, i.size, i.bytes)) = some (some .nilFunc, 1, 8) := by kernel_rfl
theorem madeF (n : Nat) : (madeCells (Value.nilFunc).cells n).toList = List.replicate n Value.nilFunc := by
  have h : (Value.nilFunc).cells = #[.nilFunc] := rfl
  rw [h]
  apply List.ext_getElem?
  intro j
  simp only [madeCells]
  rcases Nat.lt_or_ge j n with hj | hj
  · simp [hj, Nat.mod_one]
  · simp [hj]
theorem fill_get {us : List Value} {k j : Nat} (h : j < us.length) : (us ++ List.replicate k Value.nilFunc)[j]? = some (us.getD j undef) := by
  rw [List.getElem?_append_left h, List.getElem?_eq_getElem h, List.getD_eq_getElem?_getD, List.getElem?_eq_getElem h]; rfl
theorem fill_next {us : List Value} {k : Nat} : (us ++ List.replicate (k + 1) Value.nilFunc)[us.length]? = some Value.nilFunc := by
  rw [List.getElem?_append_right (Nat.le_refl _), Nat.sub_self]; rfl
theorem fill_set {us : List Value} {k : Nat} {v : Value} : (us ++ List.replicate (k + 1) Value.nilFunc).set us.length v = (us ++ [v]) ++ List.replicate k Value.nilFunc := by
  rw [List.set_append_right _ _ (Nat.le_refl _), Nat.sub_self, List.append_assoc]; rfl
/-- what the own row of the parts says -/
theorem parts_of {lo base : Nat} {w : World} {pv : Value} {x : Nd} {us : List Value} {T : Nat → Tm} (hown : w.ownsRow base 136 1 pv (usedOf x).length ((usedOf x).map fun a => us.getD a undef)) (hb : lo ≤ base) (hM : ∀ j ∈ usedOf x, Mean lo w (us.getD j undef) (T j)) :
    (usesI x.op = 1 → Part1 lo w pv (T x.a.toNat)) ∧ (usesI x.op = 2 → Part2 lo w pv (T x.a.toNat) (T x.b.toNat)) := by
  constructor
  · intro h
    have hu : usedOf x = [x.a.toNat] := by unfold usedOf; rw [h]; rfl
    rw [hu] at hown hM
    rcases hown.2 with ⟨_, h0⟩ | ⟨g, cap, cur, rfl, h1, h2, h3, h4, _⟩
    · simp at h0
    · have hc := hown.cellAt (g := g) 0 (by simp)
      exact ⟨g, 0, cap, us.getD x.a.toNat undef, rfl, h3, h4, by omega, hc, hM _ (by simp)⟩
  · intro h
    have hu : usedOf x = [x.a.toNat, x.b.toNat] := by unfold usedOf; rw [h]; rfl
    rw [hu] at hown hM
    rcases hown.2 with ⟨_, h0⟩ | ⟨g, cap, cur, rfl, h1, h2, h3, h4, _⟩
    · simp at h0
    · have hc := hown.cellAt (g := g) 0 (by simp)
      have hc1 := hown.cellAt (g := g) 1 (by simp)
      exact ⟨g, 0, cap, us.getD x.a.toNat undef, us.getD x.b.toNat undef, rfl, h3, h4, by omega, hc, hc1, hM _ (by simp), hM _ (by simp)⟩
theorem take_mapS {U : List Nat} {j : Nat} {f : Nat → Value} (h : j < U.length) : (U.take (j + 1)).map f = (U.take j).map f ++ [f (U.getD j 0)] := by
  rw [take_getDN h, List.map_append]; rfl

set_option maxRecDepth 100000 in
set_option maxHeartbeats 32000000 in
theorem meaningOf_any (v : Value) (xs : List Nd) (w : World) (hr : Ns w v xs) (hok : formOk xs = true) :
    Calls Tryz.prog 111 #[v] w (MeanAns (w.heap.size + 1) w (tmAt xs (xs.length - 1))) := by
  obtain ⟨q1, q2, hnodes, -⟩ := formOk_parts hok
  obtain ⟨a, cap, rfl, h1, h2, h3⟩ := hr.parts
  have KEY := Lib.hid h3
  unfold maxLen at h2
  have HND := Lib.hid (fun i (hi : i < xs.length) => nodesOk_at hnodes hi)
  have HTM := Lib.hid (fun i (hi : i < xs.length) => tmAt_eq hnodes hi)
  clear h3 hr hok hnodes
  go_enter Tryz.func111, Tryz.ntmps111
  have tk1 : True := trivial
  go_wp2_with
    (first
      | (have _t := tk1; clear _t tk1; refine wpList_makeM rfl (.tmp 10) (.tmp 10) 183 11 rfl rfl 136 .nilFunc 8 Tryz.underlying183 Tryz.infoFn xs.length .i64 .i64 rfl rfl (by omega) (by unfold maxLen; omega) (List.replicate xs.length Value.nilFunc) (madeF _) ?_
         intro w1 hz hb1
         have Z1 : Hid (Cm w1 w.heap.size 136 ([] ++ List.replicate xs.length Value.nilFunc)) := Lib.hid hz
         have B1 := Lib.hid hb1
         clear hz hb1))
  go_loopw [14] (fun iv wr => ∃ (i : Nat) (us : List Value), i ≤ xs.length ∧ iv = .int .i64 i ∧ us.length = i ∧ Hid (Cm wr w.heap.size 136 (us ++ List.replicate (xs.length - i) Value.nilFunc)) ∧ Hid (∀ j, j < i → Mean (w.heap.size + 1) wr (us.getD j undef) (tmAt xs j)) ∧ Hid (Below w.heap.size w wr)) (fun iv _ => xs.length - (intOf iv).toNat)
  case atStart => exact ⟨0, [], Nat.zero_le _, rfl, rfl, Z1, Lib.hid (fun j hj => by omega), B1⟩
  case round =>
    clear Z1 B1
    obtain ⟨i, us, hi, rfl, hul, ZR, HM, BR⟩ := hrel
    have HUL := Lib.hid hul
    clear hul
    by_cases hlt : i < xs.length
    · obtain ⟨b, o, rfl, hb, c0, c1, c2, c3⟩ := KEY.out i hlt
      rw [← BR.out.cell (p := ⟨b, o + i * 4, none⟩) hb] at c0
      rw [← BR.out.cell (p := ⟨b, o + i * 4 + 1, none⟩) hb] at c1
      rw [← BR.out.cell (p := ⟨b, o + i * 4 + 2, none⟩) hb] at c2
      rw [← BR.out.cell (p := ⟨b, o + i * 4 + 3, none⟩) hb] at c3
      have HOK := Lib.hid (HND.out i hlt)
      have HT := Lib.hid (HTM.out i hlt)
      obtain ⟨x, hx⟩ : ∃ x, x = xs.getD i default := ⟨_, rfl⟩
      rw [← hx] at c0 c1 c2 c3 HOK HT
      clear hx
      have HP := Lib.hid (okAt_parts HOK.out)
      have hmb := ZR.out.lt
      go_wp2_with fail
      refine (usedBy_any x _ (fun h => (HP.out.2.1 h).1) (fun h => (HP.out.2.2.1 h).1)).mono ?_
      rintro e w3 ⟨g, rfl, hgl, hgb, hgc, hb3⟩
      have BW3 : Hid (Below wr.heap.size wr w3) := Lib.hid (Below.trans ((Below.refl _ _).alloc (Nat.le_refl _) _) (hb3.mono (by simp)))
      have N3 : Hid (Cm w3 wr.heap.size 112 [.int .i64 x.op, .int .i64 x.n, .int .i64 x.a, .int .i64 x.b]) := Lib.hid (Cm.all (Cm.new rfl) hb3)
      have HC3 := Lib.hid hgc
      have hlu : (usedOf x).length ≤ 2 := by unfold usedOf; rw [List.length_take]; simp; omega
      have hz3 : wr.heap.size < w3.heap.size := N3.out.lt
      clear hgc hb3 c0 c1 c2 c3 hb
      obtain ⟨wo, rfl⟩ : ∃ wo : World, wo = wr := ⟨_, rfl⟩
      go_wp2
      go_loopw [6, 22] (fun pv jv wr => ∃ (j : Nat) (pv' : Value), j ≤ (usedOf x).length ∧ jv = .int .i64 j ∧ pv' = pv ∧ Hid (wr.ownsRow w3.heap.size 136 1 pv' j (((usedOf x).take j).map fun a => us.getD a undef)) ∧ Hid (Below w3.heap.size w3 wr)) (fun _ jv _ => (usedOf x).length - (intOf jv).toNat)
      case atStart => exact ⟨0, _, Nat.zero_le _, rfl, rfl, Lib.hid (World.ownsRow_nil _ _ _ _), Lib.hid (Below.refl _ _)⟩
      case round =>
        obtain ⟨j, pv, hj, rfl, rfl, PR, BQ⟩ := hrel
        have BWQ := Lib.hid (BW3.out.trans (BQ.out.mono BW3.out.size))
        have ZQ := Lib.hid (ZR.out.all BWQ.out)
        by_cases hlj : j < (usedOf x).length
        · have cj := (BQ.out.cell (p := ⟨g, j, none⟩) hgl).trans (HC3.out j hlj)
          have hm := used_at HOK.out hlj
          have HTS := Lib.hid (take_mapS (f := fun a => us.getD a undef) hlj)
          obtain ⟨a0, ha0⟩ : ∃ a0, a0 = (usedOf x).getD j 0 := ⟨_, rfl⟩
          rw [← ha0] at cj hm HTS
          clear ha0
          have cm : wr.cell? ⟨w.heap.size, a0, none⟩ = some (us.getD a0 undef) := by rw [ZQ.out.cell]; exact fill_get (by rw [HUL.out]; exact hm)
          obtain ⟨kk, cc, e2, -⟩ := HM.out a0 hm
          rw [e2] at cm HTS
          clear e2
          have a00 : (0 : Int) ≤ (a0 : Int) := Int.natCast_nonneg _
          have a0n : (a0 : Int) < (xs.length : Int) := by omega
          have hsz : w3.heap.size ≤ wr.heap.size := BQ.out.size
          have HLB : Hid (∀ q, pv.ownBlock = some q → w3.heap.size ≤ q) := Lib.hid (fun q hq => (PR.out.lt q hq).1)
          have tk2 : True := trivial
          go_wp2_with
            (first
              | (have _t := tk2; clear _t tk2; at_builtin; refine wpList_pushL rfl (.tmp 26) (.tmp 31) 183 32 rfl rfl 136 .nilFunc 8 Tryz.underlying183 Tryz.infoFn rfl w3.heap.size (.func (.func kk) #[] cc) pv j (((usedOf x).take j).map fun a => us.getD a undef) PR.out rfl wr.heap.size rfl rfl rfl (by unfold maxLen; omega) (by omega) hsz ?_
                 intro v6 w6 hown hg
                 have L6 := Lib.hid hown
                 have B6 : Hid (Below w3.heap.size w3 w6) := Lib.hid (BQ.out.trans (hg.below hsz HLB.out))
                 clear hown hg cj cm))
          go_roundw
          case rel =>
            refine ⟨j + 1, _, by omega, by go_num, rfl, Lib.hid ?_, B6⟩
            rw [HTS.out]
            exact L6.out
          case measure => simp [intOf]; omega
        · have PRF : Hid (wr.ownsRow w3.heap.size 136 1 pv (usedOf x).length ((usedOf x).map fun a => us.getD a undef)) := Lib.hid (by
            have h := PR.out
            rw [show j = (usedOf x).length by omega, List.take_of_length_le (Nat.le_refl _)] at h
            exact h)
          have HPT := Lib.hid (fun W (hW : Below wr.heap.size wr W) => parts_of (lo := w.heap.size + 1) (T := fun j => tmAt xs j) (own_below PRF.out hW (Nat.le_refl _)) (by omega) (fun j hj => by
            obtain ⟨jj, hjj, e⟩ := List.getElem_of_mem hj
            have hu := used_at HOK.out hjj
            rw [List.getD_eq_getElem?_getD, List.getElem?_eq_getElem hjj] at hu
            simp only [Option.getD_some] at hu
            rw [e] at hu
            exact (HM.out j hu).all (BWQ.out.trans (hW.mono BWQ.out.size))))
          have NQ := Lib.hid (N3.out.all BQ.out)
          have HN0 : Hid (∀ W, Below wr.heap.size wr W → W.cell? ⟨wo.heap.size, 0, none⟩ = some (.int .i64 x.op)) := Lib.hid (fun W h => (NQ.out.all h).cell 0)
          have HN1 : Hid (∀ W, Below wr.heap.size wr W → W.cell? ⟨wo.heap.size, 1, none⟩ = some (.int .i64 x.n)) := Lib.hid (fun W h => (NQ.out.all h).cell 1)
          obtain ⟨⟨o1, o9, n0, nl⟩, -⟩ := HP.out
          have KRU := Lib.hid (fun W => ruleOf_any x.op o1 o9 W)
          have KRA := Lib.hid (fun W (h : w.heap.size + 1 ≤ W.heap.size) h1 h2 => rule_any (w.heap.size + 1) x.op x.n pv (tmAt xs x.a.toNat) (tmAt xs x.b.toNat) W o1 o9 n0 nl h h1 h2)
          rw [← HT.out] at KRA
          have hent : ∀ args w, (callFunc (rf x.op) args).run Tryz.prog w = .ok (.enter (rf x.op) args) w := rf_enters o1 o9
          have hi0 : (0 : Int) ≤ (i : Int) := Int.natCast_nonneg _
          have hin : (i : Int) < (xs.length : Int) := by omega
          have hwq : w.heap.size + 1 ≤ wr.heap.size := by have := BWQ.out.size; omega
          obtain ⟨fo, hfo⟩ : ∃ fo, fo = rf x.op := ⟨_, rfl⟩
          rw [← hfo] at KRU KRA hent
          obtain ⟨tt, htt⟩ : ∃ tt, tt = tmAt xs i := ⟨_, rfl⟩
          rw [← htt] at KRA
          have HTT := Lib.hid htt
          clear PR PRF n0 nl o1 o9 hfo htt
          go_wp2
          refine regionL (fun W => Below wr.heap.size wr W) [10] (by kernel_rfl) (Below.refl _ _).drew (fun hHeld => ?_)
          refine takeA (i := 0) (v := .slice (some ⟨w.heap.size, 0, none⟩) xs.length xs.length) 34 rfl rfl (by kernel_rfl) (by kernel_rfl) (by kernel_rfl) (by kernel_rfl) (fun _ _ _ h => h) (Or.inl ⟨by rfl, by intro W hSw; go_simp⟩) hHeld ?_
          simp only [Act.put, List.setIfInBounds_toArray, List.set_cons_zero, List.set_cons_succ]
          refine takeA (i := 1) (v := .int .i64 i) 35 rfl rfl (by kernel_rfl) (by kernel_rfl) (by kernel_rfl) (by kernel_rfl) (fun _ _ _ h => h) (Or.inl ⟨by rfl, by intro W hSw; go_simp⟩) hHeld ?_
          simp only [Act.put, List.setIfInBounds_toArray, List.set_cons_zero, List.set_cons_succ]
          refine takeA (i := 2) (v := .pointer (some ⟨wo.heap.size, 0, none⟩)) 36 rfl rfl (by kernel_rfl) (by kernel_rfl) (by kernel_rfl) (by kernel_rfl) (fun _ _ _ h => h) (Or.inl ⟨by rfl, by intro W hSw; go_simp⟩) hHeld ?_
          simp only [Act.put, List.setIfInBounds_toArray, List.set_cons_zero, List.set_cons_succ]
          refine takeA (i := 3) (v := .int .i64 x.op) 37 rfl rfl (by kernel_rfl) (by kernel_rfl) (by kernel_rfl) (by kernel_rfl) (fun _ _ _ h => h) (Or.inl ⟨by rfl, by intro W hSw; have c1 := HN0.out _ hSw; go_simp⟩) hHeld ?_
          simp only [Act.put, List.setIfInBounds_toArray, List.set_cons_zero, List.set_cons_succ]
          refine takeA (i := 5) (v := .pointer (some ⟨wo.heap.size, 1, none⟩)) 39 rfl rfl (by kernel_rfl) (by kernel_rfl) (by kernel_rfl) (by kernel_rfl) (fun _ _ _ h => h) (Or.inl ⟨by rfl, by intro W hSw; go_simp⟩) hHeld ?_
          simp only [Act.put, List.setIfInBounds_toArray, List.set_cons_zero, List.set_cons_succ]
          refine takeA (i := 6) (v := .int .i64 x.n) 40 rfl rfl (by kernel_rfl) (by kernel_rfl) (by kernel_rfl) (by kernel_rfl) (fun _ _ _ h => h) (Or.inl ⟨by rfl, by intro W hSw; have c1 := HN1.out _ hSw; go_simp⟩) hHeld ?_
          simp only [Act.put, List.setIfInBounds_toArray, List.set_cons_zero, List.set_cons_succ]
          refine takeA (i := 7) (v := pv) 41 rfl rfl (by kernel_rfl) (by kernel_rfl) (by kernel_rfl) (by kernel_rfl) (fun _ _ _ h => h) (Or.inl ⟨by rfl, by intro W hSw; go_simp⟩) hHeld ?_
          simp only [Act.put, List.setIfInBounds_toArray, List.set_cons_zero, List.set_cons_succ]
          refine onlyL (i := 4) (by kernel_rfl) rfl (by rfl) (fun K hK => ?_)
          go_simp
          refine (KRU.out _).mono ?_
          rintro e w8 ⟨rfl, hb8⟩
          have t8 : Below wr.heap.size wr w8 := hHeld.trans (hb8.mono (Nat.le_refl _))
          clear hb8 hHeld
          refine hK.out _ _ (fun _ => t8) (fun hHeld => ?_)
          have hHeld := hHeld (by decide)
          clear hK K
          try simp only [Act.put, List.setIfInBounds_toArray, List.set_cons_zero, List.set_cons_succ]
          refine onlyL (i := 8) (by kernel_rfl) rfl (by rfl) (fun K hK => ?_)
          go_simp
          refine (KRA.out _ (Nat.le_trans hwq t8.size) (HPT.out _ t8).1 (HPT.out _ t8).2).mono ?_
          rintro e w9 ⟨v9, rfl, hm9, hb9⟩
          have t9 : Below wr.heap.size wr w9 := t8.trans (hb9.mono t8.size)
          have M9 := Lib.hid hm9
          obtain ⟨k9, c9, rfl, -⟩ := hm9
          clear hb9 hHeld t8
          refine hK.out _ _ (fun _ => t9) (fun hHeld => ?_)
          have hHeld := hHeld (by decide)
          clear hK K
          try simp only [Act.put, List.setIfInBounds_toArray, List.set_cons_zero, List.set_cons_succ]
          refine takeA (i := 9) (v := .pointer (some ⟨w.heap.size, i, none⟩)) 43 rfl rfl (by kernel_rfl) (by kernel_rfl) (by kernel_rfl) (by kernel_rfl) (fun _ _ _ h => h) (Or.inl ⟨by rfl, by intro W hSw; go_simp⟩) hHeld ?_
          simp only [Act.put, List.setIfInBounds_toArray, List.set_cons_zero, List.set_cons_succ]
          have Z9 := Lib.hid (ZQ.out.all t9)
          have BW9 := Lib.hid (BWQ.out.trans (t9.mono BWQ.out.size))
          have B9 := Lib.hid (BR.out.trans (BW9.out.mono BR.out.size))
          obtain ⟨dd, hdd⟩ : ∃ dd, xs.length - i = dd + 1 := ⟨xs.length - i - 1, by omega⟩
          rw [hdd] at Z9
          refine onlyL (i := 10) (by kernel_rfl) rfl (by rfl) (fun K hK => ?_)
          have ck : w9.cell? ⟨w.heap.size, i, none⟩ = some .nilFunc := by rw [Z9.out.cell, ← HUL.out]; exact fill_next
          have fk := Z9.out.frozen i
          clear hHeld t9
          go_simp
          refine hK.out _ _ (fun h => absurd (by decide) h) (fun _ => ?_)
          clear hK K ck fk
          refine doneL (by kernel_rfl) ?_ _
          have hlo : w.heap.size < w.heap.size + 1 := Nat.lt_succ_self _
          have ZF : Hid (Cm (w9.setCell ⟨w.heap.size, i, none⟩ (.func (.func k9) #[] c9)) w.heap.size 136 ((us ++ [Value.func (.func k9) #[] c9]) ++ List.replicate (xs.length - (i + 1)) Value.nilFunc)) := Lib.hid (by
            have h := Z9.out.set i (.func (.func k9) #[] c9)
            rw [← HUL.out, fill_set, HUL.out] at h
            rw [show xs.length - (i + 1) = dd by omega]
            exact h)
          have KP : Keeps (w.heap.size + 1) w9.heap.size w9 (w9.setCell ⟨w.heap.size, i, none⟩ (.func (.func k9) #[] c9)) := Keeps.setCell _ _ _ _ (.inl hlo)
          have HMF : Hid (∀ j, j < i + 1 → Mean (w.heap.size + 1) (w9.setCell ⟨w.heap.size, i, none⟩ (.func (.func k9) #[] c9)) ((us ++ [Value.func (.func k9) #[] c9]).getD j undef) (tmAt xs j)) := Lib.hid (fun j hj => by
            rcases Nat.lt_or_eq_of_le (Nat.le_of_lt_succ hj) with h | h
            · have e : (us ++ [Value.func (.func k9) #[] c9]).getD j undef = us.getD j undef := by rw [List.getD_eq_getElem?_getD, List.getElem?_append_left (by rw [HUL.out]; exact h), ← List.getD_eq_getElem?_getD]
              rw [e]
              exact ((HM.out j h).all BW9.out).keeps KP
            · subst h
              have e : (us ++ [Value.func (.func k9) #[] c9]).getD j undef = .func (.func k9) #[] c9 := by rw [List.getD_eq_getElem?_getD, List.getElem?_append_right (by rw [HUL.out]; exact Nat.le_refl _), HUL.out, Nat.sub_self]; rfl
              rw [e, ← HTT.out]
              exact M9.out.keeps KP)
          have BF : Hid (Below w.heap.size w (w9.setCell ⟨w.heap.size, i, none⟩ (.func (.func k9) #[] c9))) := Lib.hid (B9.out.setCell (Nat.le_refl _) _)
          clear KP hdd
          go_wp2
          go_roundw
          case rel => exact ⟨i + 1, _, by omega, by go_num, by rw [List.length_append, HUL.out]; rfl, ZF, HMF, BF⟩
          case measure => simp [intOf]; omega
    · obtain ⟨l, hl⟩ : ∃ l, xs.length = l + 1 := ⟨xs.length - 1, by omega⟩
      have hil : l < i := by omega
      have hl0 : (0 : Int) ≤ (l : Int) := Int.natCast_nonneg _
      have hln : (l : Int) < (xs.length : Int) := by omega
      have hw : IntKind.i64.wrap ((xs.length : Int) - 1) = (l : Int) := by rw [show (xs.length : Int) - 1 = (l : Int) by omega]; exact IntWalk.i64_in _ (by omega)
      have cm : wr.cell? ⟨w.heap.size, l, none⟩ = some (us.getD l undef) := by rw [ZR.out.cell]; exact fill_get (by rw [HUL.out]; exact hil)
      have ML := Lib.hid (HM.out l hil)
      have HLL : Hid (xs.length - 1 = l) := Lib.hid (by omega)
      generalize us.getD l undef = ul at *
      clear hl
      go_wp2
      go_ret
      exact ⟨_, rfl, by rw [HLL.out]; exact ML.out, BR.out⟩
end Go.Proofs.YtodjohdbngbpaaaGreat
