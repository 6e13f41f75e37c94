/-
  Several texts in one: Term Nodes Bols Mnr. Conditions: as each theorem says.
-/
import Derived.WalkKit
import Derived.Test.YtodjohdbngbpaaaGreatRows
import Derived.Test.YtodjohdbngbpaaaGreatZLib
import Derived.Handy
import Derived.Deep.OwnRows
import Derived.Deep.RegionHeld3
import Derived.WalkSpells
import Derived.Deep.Slices
import Derived.ChangeSame
import Derived.WideShapes
import Derived.Test.YtodjohdbngbpaaaGreatZSet
/-
  Plain mathematics of formulas: nodes, terms, their texts, their layout as lists of nodes. No program.
-/
namespace Go.Proofs.YtodjohdbngbpaaaGreat
open Go

structure Nd where
  op : Int
  n : Int
  a : Int
  b : Int
instance : Inhabited Nd := ⟨⟨0, 0, 0, 0⟩⟩

/-- how many of A and B an operation uses -/
def usesI (op : Int) : Nat := if op = 1 ∨ op = 2 then 0 else if op = 4 ∨ op = 9 then 2 else 1
def limN (op : Int) : Int := if op = 1 then 4 else if op = 5 ∨ op = 6 then 3 else 1
def headOk (x : Nd) : Bool := decide (1 ≤ x.op) && decide (x.op ≤ 9) && decide (0 ≤ x.n) && decide (x.n < limN x.op)
def idxOk (i : Int) (used : Bool) (at' : Int) : Bool := if used then decide (0 ≤ i) && decide (i < at') else decide (i = 0)
def okAt (x : Nd) (i : Nat) : Bool := headOk x && idxOk x.a (decide (1 ≤ usesI x.op)) i && idxOk x.b (decide (usesI x.op = 2)) i
def usedOf (x : Nd) : List Nat := ([x.a.toNat, x.b.toNat]).take (usesI x.op)
def allUsed (xs : List Nd) : List Nat := xs.flatMap usedOf
def nodesOk (xs : List Nd) : Bool := (List.range xs.length).all fun i => okAt (xs.getD i default) i
def onceOk (xs : List Nd) : Bool := (List.range (xs.length - 1)).all fun i => decide ((allUsed xs).count i = 1)
def formOk (xs : List Nd) : Bool := decide (1 ≤ xs.length) && decide (xs.length ≤ 40) && nodesOk xs && onceOk xs

theorem usesI_le (op : Int) : usesI op ≤ 2 := by unfold usesI; split; omega; split <;> omega
theorem usesI_0 {op : Int} (h : op = 1 ∨ op = 2) : usesI op = 0 := if_pos h
theorem usesI_2 {op : Int} (h : op = 4 ∨ op = 9) : usesI op = 2 := by unfold usesI; rw [if_neg (by omega), if_pos h]
theorem usesI_1 {op : Int} (h : op ≠ 1 ∧ op ≠ 2 ∧ op ≠ 4 ∧ op ≠ 9) : usesI op = 1 := by unfold usesI; rw [if_neg (by omega), if_neg (by omega)]

/- terms -/
inductive Tm
  | leaf (op n : Int)
  | deny (a : Tm)
  | know (op n : Int) (a : Tm)
  | joint (op : Int) (a b : Tm)

def Tm.op : Tm → Int | .leaf op _ => op | .deny _ => 3 | .know op _ _ => op | .joint op _ _ => op
def Tm.num : Tm → Int | .leaf _ n => n | .deny _ => 0 | .know _ n _ => n | .joint _ _ _ => 0
def Tm.parts : Tm → List Tm | .leaf _ _ => [] | .deny a => [a] | .know _ _ a => [a] | .joint _ a b => [a, b]
def Tm.size : Tm → Nat | .leaf _ _ => 1 | .deny a => a.size + 1 | .know _ _ a => a.size + 1 | .joint _ a b => a.size + b.size + 1
def Tm.deep : Tm → Nat | .leaf _ _ => 0 | .deny a => a.deep | .know _ _ a => a.deep + 1 | .joint _ a b => max a.deep b.deep
/-- the operations fit the forms -/
def Tm.ops : Tm → Prop
  | .leaf op _ => op = 1 ∨ op = 2
  | .deny a => a.ops
  | .know op _ a => (op = 5 ∨ op = 6 ∨ op = 7 ∨ op = 8) ∧ a.ops
  | .joint op a b => (op = 4 ∨ op = 9) ∧ a.ops ∧ b.ops
/-- the numbers are in range too -/
def Tm.wf : Tm → Prop
  | .leaf op n => (op = 1 ∨ op = 2) ∧ 0 ≤ n ∧ n < limN op
  | .deny a => a.wf
  | .know op n a => (op = 5 ∨ op = 6 ∨ op = 7 ∨ op = 8) ∧ 0 ≤ n ∧ n < limN op ∧ a.wf
  | .joint op a b => (op = 4 ∨ op = 9) ∧ a.wf ∧ b.wf
theorem Tm.wf_ops (t : Tm) : t.wf → t.ops := by
  induction t with
  | leaf _ _ => exact fun h => h.1
  | deny a ih => exact ih
  | know _ _ a ih => exact fun h => ⟨h.1, ih h.2.2.2⟩
  | joint _ a b iha ihb => exact fun h => ⟨h.1, iha h.2.1, ihb h.2.2⟩
theorem Tm.size_pos : ∀ t : Tm, 0 < t.size
  | .leaf _ _ => Nat.one_pos
  | .deny _ => Nat.succ_pos _
  | .know _ _ _ => Nat.succ_pos _
  | .joint _ _ _ => Nat.succ_pos _
theorem Tm.deep_lt : ∀ t : Tm, t.deep < t.size
  | .leaf _ _ => Nat.one_pos
  | .deny a => by have := a.deep_lt; simp only [Tm.deep, Tm.size]; omega
  | .know _ _ a => by have := a.deep_lt; simp only [Tm.deep, Tm.size]; omega
  | .joint _ a b => by have := a.deep_lt; have := b.deep_lt; simp only [Tm.deep, Tm.size]; omega

/-- a node's term out of its parts -/
def mkTm (op n : Int) (a b : Tm) : Tm := if op = 1 ∨ op = 2 then .leaf op n else if op = 3 then .deny a else if op = 4 ∨ op = 9 then .joint op a b else .know op n a
def tmF (xs : List Nd) : Nat → Nat → Tm
  | 0, _ => .leaf 2 0
  | f + 1, i => mkTm (xs.getD i default).op (xs.getD i default).n (tmF xs f (xs.getD i default).a.toNat) (tmF xs f (xs.getD i default).b.toNat)
def tmAt (xs : List Nd) (i : Nat) : Tm := tmF xs (i + 1) i

theorem nodesOk_at {xs : List Nd} (h : nodesOk xs = true) {i : Nat} (hi : i < xs.length) : okAt (xs.getD i default) i = true := by
  unfold nodesOk at h
  rw [List.all_eq_true] at h
  exact h i (List.mem_range.2 hi)
theorem okAt_parts {x : Nd} {i : Nat} (h : okAt x i = true) : (1 ≤ x.op ∧ x.op ≤ 9 ∧ 0 ≤ x.n ∧ x.n < limN x.op) ∧ (1 ≤ usesI x.op → 0 ≤ x.a ∧ x.a < i) ∧ (usesI x.op = 2 → 0 ≤ x.b ∧ x.b < i) ∧ (usesI x.op = 0 → x.a = 0) ∧ (usesI x.op ≤ 1 → x.b = 0) := by
  unfold okAt headOk idxOk at h
  simp only [Bool.and_eq_true, decide_eq_true_eq] at h
  obtain ⟨⟨h1, h2⟩, h3⟩ := h
  refine ⟨by omega, fun hu => ?_, fun hu => ?_, fun hu => ?_, fun hu => ?_⟩
  · rw [if_pos hu] at h2; simpa using h2
  · rw [if_pos hu] at h3; simpa using h3
  · rw [if_neg (by omega)] at h2; simpa using h2
  · rw [if_neg (by omega)] at h3; simpa using h3
theorem mkTm_congr {op n : Int} {a b a' b' : Tm} (h1 : 1 ≤ usesI op → a = a') (h2 : usesI op = 2 → b = b') : mkTm op n a b = mkTm op n a' b' := by
  unfold mkTm
  by_cases h0 : op = 1 ∨ op = 2
  · rw [if_pos h0, if_pos h0]
  rw [if_neg h0, if_neg h0]
  have ha : a = a' := h1 (by unfold usesI; rw [if_neg h0]; split <;> omega)
  subst ha
  by_cases h4 : op = 4 ∨ op = 9
  · have hb : b = b' := h2 (usesI_2 h4)
    subst hb; rfl
  · rw [if_neg h4, if_neg h4]
theorem tmF_any {xs : List Nd} (h : nodesOk xs = true) : ∀ (n i : Nat), i ≤ n → i < xs.length → ∀ f g, i < f → i < g → tmF xs f i = tmF xs g i := by
  intro n
  induction n with
  | zero =>
    intro i hi hl f g hf hg
    obtain ⟨f', rfl⟩ : ∃ f', f = f' + 1 := ⟨f - 1, by omega⟩
    obtain ⟨g', rfl⟩ : ∃ g', g = g' + 1 := ⟨g - 1, by omega⟩
    have hp := okAt_parts (nodesOk_at h hl)
    simp only [tmF]
    exact mkTm_congr (fun hu => by have := hp.2.1 hu; omega) (fun hu => by have := hp.2.2.1 hu; omega)
  | succ n ih =>
    intro i hi hl f g hf hg
    obtain ⟨f', rfl⟩ : ∃ f', f = f' + 1 := ⟨f - 1, by omega⟩
    obtain ⟨g', rfl⟩ : ∃ g', g = g' + 1 := ⟨g - 1, by omega⟩
    have hp := okAt_parts (nodesOk_at h hl)
    simp only [tmF]
    exact mkTm_congr (fun hu => ih _ (by have := hp.2.1 hu; omega) (by have := hp.2.1 hu; omega) _ _ (by have := hp.2.1 hu; omega) (by have := hp.2.1 hu; omega))
      (fun hu => ih _ (by have := hp.2.2.1 hu; omega) (by have := hp.2.2.1 hu; omega) _ _ (by have := hp.2.2.1 hu; omega) (by have := hp.2.2.1 hu; omega))
theorem tmAt_eq {xs : List Nd} (h : nodesOk xs = true) {i : Nat} (hl : i < xs.length) :
    tmAt xs i = mkTm (xs.getD i default).op (xs.getD i default).n (tmAt xs (xs.getD i default).a.toNat) (tmAt xs (xs.getD i default).b.toNat) := by
  have hp := okAt_parts (nodesOk_at h hl)
  show tmF xs (i + 1) i = _
  simp only [tmF]
  exact mkTm_congr (fun hu => tmF_any h _ _ (Nat.le_refl _) (by have := hp.2.1 hu; omega) _ _ (by have := hp.2.1 hu; omega) (Nat.lt_succ_self _))
    (fun hu => tmF_any h _ _ (Nat.le_refl _) (by have := hp.2.2.1 hu; omega) _ _ (by have := hp.2.2.1 hu; omega) (Nat.lt_succ_self _))
theorem limN_eq {op : Int} (h : op = 5 ∨ op = 6) : limN op = 3 := by unfold limN; rw [if_neg (by omega), if_pos h]
theorem mkTm_wf {x : Nd} {i : Nat} (h : okAt x i = true) {a b : Tm} (ha : 1 ≤ usesI x.op → a.wf) (hb : usesI x.op = 2 → b.wf) : (mkTm x.op x.n a b).wf := by
  have hp := okAt_parts h
  unfold mkTm
  by_cases h0 : x.op = 1 ∨ x.op = 2
  · rw [if_pos h0]; exact ⟨h0, hp.1.2.2.1, hp.1.2.2.2⟩
  rw [if_neg h0]
  have ha := ha (by unfold usesI; rw [if_neg h0]; split <;> omega)
  by_cases h3 : x.op = 3
  · rw [if_pos h3]; exact ha
  rw [if_neg h3]
  by_cases h4 : x.op = 4 ∨ x.op = 9
  · rw [if_pos h4]; exact ⟨h4, ha, hb (usesI_2 h4)⟩
  · rw [if_neg h4]; exact ⟨by omega, hp.1.2.2.1, hp.1.2.2.2, ha⟩
theorem tmAt_wf {xs : List Nd} (h : nodesOk xs = true) : ∀ (n i : Nat), i ≤ n → i < xs.length → (tmAt xs i).wf := by
  intro n
  induction n with
  | zero =>
    intro i hi hl
    have hp := okAt_parts (nodesOk_at h hl)
    rw [tmAt_eq h hl]
    exact mkTm_wf (nodesOk_at h hl) (fun hu => by have := hp.2.1 hu; omega) (fun hu => by have := hp.2.2.1 hu; omega)
  | succ n ih =>
    intro i hi hl
    have hp := okAt_parts (nodesOk_at h hl)
    rw [tmAt_eq h hl]
    exact mkTm_wf (nodesOk_at h hl) (fun hu => ih _ (by have := hp.2.1 hu; omega) (by have := hp.2.1 hu; omega)) (fun hu => ih _ (by have := hp.2.2.1 hu; omega) (by have := hp.2.2.1 hu; omega))

/- texts -/
def letters : List UInt8 := [84, 45, 38, 75, 87, 69, 67, 33]
def letterI (op : Int) : UInt8 := letters.getD (op - 2).toNat 0
def headB (op n : Int) : List UInt8 := if op = 1 then [UInt8.ofNat (97 + n.toNat)] else letterI op :: (if op = 5 ∨ op = 6 then [UInt8.ofNat (48 + n.toNat)] else [])
def headT (t : Tm) : List UInt8 := headB t.op t.num
def txt : Tm → List UInt8
  | .leaf op n => headT (.leaf op n)
  | .deny a => headT (.deny a) ++ txt a
  | .know op n a => headT (.know op n a) ++ txt a
  | .joint op a b => headT (.joint op a b) ++ txt a ++ txt b
theorem headT_len (t : Tm) : 1 ≤ (headT t).length ∧ (headT t).length ≤ 2 := by
  unfold headT headB; split
  · simp
  · split <;> simp
theorem txt_len : ∀ t : Tm, t.size ≤ (txt t).length ∧ (txt t).length ≤ 2 * t.size
  | .leaf op n => by have := headT_len (.leaf op n); simp only [txt, Tm.size]; omega
  | .deny a => by have := headT_len (.deny a); have := txt_len a; simp only [txt, Tm.size, List.length_append]; omega
  | .know op n a => by have := headT_len (.know op n a); have := txt_len a; simp only [txt, Tm.size, List.length_append]; omega
  | .joint op a b => by have := headT_len (.joint op a b); have := txt_len a; have := txt_len b; simp only [txt, Tm.size, List.length_append]; omega
theorem txt_parts (t : Tm) : txt t = headT t ++ t.parts.flatMap txt := by
  cases t <;> simp [txt, Tm.parts]

/- layout -/
def lay : Nat → Tm → List Nd
  | _, .leaf op n => [⟨op, n, 0, 0⟩]
  | k, .deny a => lay k a ++ [⟨3, 0, (k + a.size : Nat) - 1, 0⟩]
  | k, .know op n a => lay k a ++ [⟨op, n, (k + a.size : Nat) - 1, 0⟩]
  | k, .joint op a b => lay k a ++ lay (k + a.size) b ++ [⟨op, 0, (k + a.size : Nat) - 1, (k + a.size + b.size : Nat) - 1⟩]
theorem lay_len : ∀ (k : Nat) (t : Tm), (lay k t).length = t.size
  | _, .leaf _ _ => rfl
  | k, .deny a => by simp [lay, lay_len k a, Tm.size]
  | k, .know _ _ a => by simp [lay, lay_len k a, Tm.size]
  | k, .joint _ a b => by simp [lay, lay_len k a, lay_len (k + a.size) b, Tm.size]; omega
end Go.Proofs.YtodjohdbngbpaaaGreat

/-
  Slices of nodes in memory; contracts of the laws' helpers over them: toNode, toNodeS, szNodeS, eqNode, eqNodeS, markNodeS, heldNodeS.
-/
namespace Go.Proofs.YtodjohdbngbpaaaGreat
open Go.RowKit Go.WideShapes
open Go Go.Deep

def Nd.v (x : Nd) : Value := .agg #[.int .i64 x.op, .int .i64 x.n, .int .i64 x.a, .int .i64 x.b]
def Nd.cs (x : Nd) : List Value := [.int .i64 x.op, .int .i64 x.n, .int .i64 x.a, .int .i64 x.b]
def ndCells (xs : List Nd) : List Value := xs.flatMap Nd.cs

set_option maxHeartbeats 400000 in
theorem toNode_any (x : Nd) (w : World) : Calls Tryz.prog 85 #[x.v] w fun e w' => e = .returned x.v ∧ Below w.heap.size w w' := by
  obtain ⟨op, n, a, b⟩ := x
  unfold Nd.v
  go_enter Tryz.func85, Tryz.ntmps85
  go_wp2
  go_returns
  refine ⟨rfl, ?_⟩
  go_grown

theorem Tryz.infoNd : (Tryz.prog.info? 112).map (fun i => (i.zero, i.size, i.bytes)) = some (some (.agg #[.int .i64 0, .int .i64 0, .int .i64 0, .int .i64 0]), 4, 32) := by kernel_rfl
/-- the slice v reads, in w, as the nodes xs -/
def Ns (w : World) (v : Value) (xs : List Nd) : Prop :=
  ∃ a cap, v = .slice a xs.length cap ∧ xs.length ≤ cap ∧ cap ≤ maxLen ∧ (xs = [] ∨ ∃ b o, a = some ⟨b, o, none⟩ ∧ b < w.heap.size ∧ ∀ j, j < xs.length →
    w.cell? ⟨b, o + j * 4, none⟩ = some (.int .i64 (xs.getD j default).op) ∧ w.cell? ⟨b, o + j * 4 + 1, none⟩ = some (.int .i64 (xs.getD j default).n) ∧
    w.cell? ⟨b, o + j * 4 + 2, none⟩ = some (.int .i64 (xs.getD j default).a) ∧ w.cell? ⟨b, o + j * 4 + 3, none⟩ = some (.int .i64 (xs.getD j default).b))

theorem ndCells_len (xs : List Nd) : (ndCells xs).length = xs.length * 4 := by
  induction xs with
  | nil => rfl
  | cons x xs ih => rw [ndCells, List.flatMap_cons, List.length_append, ← ndCells, ih]; simp [Nd.cs]; omega
theorem ndCells_at {xs : List Nd} {j k : Nat} (hj : j < xs.length) (hk : k < 4) : (ndCells xs)[j * 4 + k]? = (xs.getD j default).cs[k]? := by
  induction xs generalizing j with
  | nil => simp at hj
  | cons x xs ih =>
    rw [ndCells, List.flatMap_cons, ← ndCells]
    match j with
    | 0 => rw [List.getElem?_append_left (by simp [Nd.cs]; omega), Nat.zero_mul, Nat.zero_add]; rfl
    | j + 1 =>
      rw [List.getElem?_append_right (by simp [Nd.cs]; omega)]
      have := ih (j := j) (by simp at hj; omega)
      rw [show (j + 1) * 4 + k - x.cs.length = j * 4 + k by simp [Nd.cs]; omega, this]
      rfl
theorem Ns.of_own {w : World} {base : Nat} {e : TypeId} {v : Value} {n : Nat} {xs : List Nd} (h : w.ownsRow base e 4 v n (ndCells xs)) : Ns w v xs := by
  have hl : xs.length = n := by have := h.1; rw [ndCells_len] at this; omega
  rcases h.2 with ⟨rfl, h0⟩ | ⟨g, cap, cur, rfl, hb, hg, hn, hm, hc, ht⟩
  · have : xs = [] := List.length_eq_zero_iff.1 (by omega)
    subst this
    exact ⟨none, 0, rfl, Nat.le_refl _, by decide, .inl rfl⟩
  · subst hl
    refine ⟨_, cap, rfl, hn, hm, .inr ⟨g, 0, rfl, (Array.getElem?_eq_some_iff.1 hg).1, fun j hj => ?_⟩⟩
    have c := fun k (hk : k < 4) => (h.cellAt (j * 4 + k) (by omega)).trans (ndCells_at hj hk)
    refine ⟨?_, ?_, ?_, ?_⟩
    · rw [Nat.zero_add]; exact c 0 (by decide)
    · rw [Nat.zero_add]; exact c 1 (by decide)
    · rw [Nat.zero_add]; exact c 2 (by decide)
    · rw [Nat.zero_add]; exact c 3 (by decide)
theorem Ns.below {w w' : World} {v : Value} {xs : List Nd} {B : Nat} (h : Ns w v xs) (hb : Below B w w') (hB : w.heap.size ≤ B) : Ns w' v xs := by
  obtain ⟨a, cap, rfl, h1, h2, h3⟩ := h
  refine ⟨a, cap, rfl, h1, h2, ?_⟩
  rcases h3 with h3 | ⟨b, o, rfl, hlt, hc⟩
  · exact .inl h3
  · refine .inr ⟨b, o, rfl, Nat.lt_of_lt_of_le hlt hb.size, fun j hj => ?_⟩
    rw [hb.cell (p := ⟨b, o + j * 4, none⟩) (by show b < B; omega), hb.cell (p := ⟨b, o + j * 4 + 1, none⟩) (by show b < B; omega), hb.cell (p := ⟨b, o + j * 4 + 2, none⟩) (by show b < B; omega), hb.cell (p := ⟨b, o + j * 4 + 3, none⟩) (by show b < B; omega)]
    exact hc j hj
theorem Ns.drewN {w : World} {v : Value} {xs : List Nd} (h : Ns w v xs) (n : Nat) : Ns (w.drewN n) v xs := h
theorem Ns.parts {w : World} {v : Value} {xs : List Nd} (h : Ns w v xs) : ∃ a cap, v = .slice a xs.length cap ∧ xs.length ≤ cap ∧ cap ≤ maxLen ∧ ∀ j, j < xs.length → ∃ b o, a = some ⟨b, o, none⟩ ∧ b < w.heap.size ∧
    w.cell? ⟨b, o + j * 4, none⟩ = some (.int .i64 (xs.getD j default).op) ∧ w.cell? ⟨b, o + j * 4 + 1, none⟩ = some (.int .i64 (xs.getD j default).n) ∧
    w.cell? ⟨b, o + j * 4 + 2, none⟩ = some (.int .i64 (xs.getD j default).a) ∧ w.cell? ⟨b, o + j * 4 + 3, none⟩ = some (.int .i64 (xs.getD j default).b) := by
  obtain ⟨a, cap, rfl, h1, h2, h3⟩ := h
  refine ⟨a, cap, rfl, h1, h2, fun j hj => ?_⟩
  rcases h3 with h3 | ⟨b, o, rfl, hlt, hc⟩
  · subst h3; simp at hj
  · exact ⟨b, o, rfl, hlt, hc j hj⟩

set_option maxHeartbeats 1000000 in
theorem szNodeS_any (v : Value) (xs : List Nd) (left : Int) (w : World) (h : Ns w v xs) (h0 : 0 ≤ left) (h1 : left ≤ 1048576) :
    Calls Tryz.prog 33 #[v, .int .i64 left] w fun e w' => e = .returned (.int .i64 (if left - xs.length < 0 then -1 else left - xs.length)) ∧ w = w' := by
  obtain ⟨a, cap, rfl, h2, h3, _⟩ := h
  unfold maxLen at h3
  by_cases hlt : left - (xs.length : Int) < 0
  · rw [if_pos hlt]
    go_enter Tryz.func33, Tryz.ntmps33
    go_wp2
    go_ret
    exact ⟨rfl, rfl⟩
  · rw [if_neg hlt]
    go_enter Tryz.func33, Tryz.ntmps33
    go_wp2
    go_ret
    exact ⟨rfl, rfl⟩

/-- what a store into an own row of nodes asks -/
theorem own_node {w : World} {base g cap n k : Nat} {e : TypeId} {xs : List Value} (h : w.ownsRow base e 4 (.slice (some ⟨g, 0, none⟩) n cap) n xs) (hk : k < n) :
    w.frozen? ⟨g, k * 4, none⟩ = false ∧ w.frozen? ⟨g, k * 4 + 1, none⟩ = false ∧ w.frozen? ⟨g, k * 4 + 2, none⟩ = false ∧ w.frozen? ⟨g, k * 4 + 3, none⟩ = false ∧
    (∃ z, w.cell? ⟨g, k * 4, none⟩ = some z) ∧ (∃ z, w.cell? ⟨g, k * 4 + 1, none⟩ = some z) ∧ (∃ z, w.cell? ⟨g, k * 4 + 2, none⟩ = some z) ∧ (∃ z, w.cell? ⟨g, k * 4 + 3, none⟩ = some z) := by
  have c : ∀ j, j < n * 4 → ∃ z, w.cell? ⟨g, j, none⟩ = some z := fun j hj => by
    rw [h.cellAt j hj]
    exact ⟨_, List.getElem?_eq_getElem (by rw [h.1]; exact hj)⟩
  exact ⟨h.frozenAt _, h.frozenAt _, h.frozenAt _, h.frozenAt _, c _ (by omega), c _ (by omega), c _ (by omega), c _ (by omega)⟩
theorem ndCells_cons (x : Nd) (xs : List Nd) : ndCells (x :: xs) = .int .i64 x.op :: .int .i64 x.n :: .int .i64 x.a :: .int .i64 x.b :: ndCells xs := rfl
theorem ndCells_app (xs ys : List Nd) : ndCells (xs ++ ys) = ndCells xs ++ ndCells ys := by simp [ndCells]
theorem ndCells_set : ∀ (ys : List Nd) (k : Nat) (x : Nd), k < ys.length →
    ((((ndCells ys).set (k * 4) (.int .i64 x.op)).set (k * 4 + 1) (.int .i64 x.n)).set (k * 4 + 2) (.int .i64 x.a)).set (k * 4 + 3) (.int .i64 x.b) = ndCells (ys.set k x) := by
  intro ys
  induction ys with
  | nil => intro k x h; simp at h
  | cons y ys ih =>
    intro k x h
    match k with
    | 0 => rfl
    | k + 1 =>
      have := ih k x (by simp at h; omega)
      rw [List.set_cons_succ, ndCells_cons, ndCells_cons, ← this]
      simp only [show (k + 1) * 4 = k * 4 + 1 + 1 + 1 + 1 by omega, show k * 4 + 1 + 1 + 1 + 1 + 1 = (k * 4 + 1) + 1 + 1 + 1 + 1 by omega, show k * 4 + 1 + 1 + 1 + 1 + 2 = (k * 4 + 2) + 1 + 1 + 1 + 1 by omega, show k * 4 + 1 + 1 + 1 + 1 + 3 = (k * 4 + 3) + 1 + 1 + 1 + 1 by omega, List.set_cons_succ]
theorem own_node_set {w : World} {base g cap n k : Nat} {e : TypeId} {ys : List Nd} (h : w.ownsRow base e 4 (.slice (some ⟨g, 0, none⟩) n cap) n (ndCells ys)) (hk : k < n) (x : Nd) :
    ((((w.setCell ⟨g, k * 4, none⟩ (.int .i64 x.op)).setCell ⟨g, k * 4 + 1, none⟩ (.int .i64 x.n)).setCell ⟨g, k * 4 + 2, none⟩ (.int .i64 x.a)).setCell ⟨g, k * 4 + 3, none⟩ (.int .i64 x.b)).ownsRow base e 4 (.slice (some ⟨g, 0, none⟩) n cap) n (ndCells (ys.set k x)) := by
  have hl : ys.length = n := by have := h.1; rw [ndCells_len] at this; omega
  rw [← ndCells_set ys k x (by omega)]
  exact ((((h.stored _ _).1.stored _ _).1.stored _ _).1.stored _ _).1
theorem made_nd (n : Nat) : (madeCells (Value.agg #[.int .i64 0, .int .i64 0, .int .i64 0, .int .i64 0]).cells (n * 4)).toList = ndCells (List.replicate n default) := by
  have h1 : (madeCells (Value.agg #[.int .i64 0, .int .i64 0, .int .i64 0, .int .i64 0]).cells (n * 4)).toList = List.replicate (n * 4) (.int .i64 0) := by
    apply List.ext_getElem?
    intro j
    by_cases hj : j < n * 4
    · have : j % 4 = 0 ∨ j % 4 = 1 ∨ j % 4 = 2 ∨ j % 4 = 3 := by omega
      rcases this with h | h | h | h <;> simp [madeCells, hj, Value.cells, h]
    · simp [madeCells, hj]
  rw [h1]
  clear h1
  induction n with
  | zero => rfl
  | succ n ih => rw [List.replicate_succ, ndCells_cons, ← ih, show (n + 1) * 4 = n * 4 + 1 + 1 + 1 + 1 by omega, List.replicate_succ, List.replicate_succ, List.replicate_succ, List.replicate_succ]; rfl
theorem set_take {α : Type} (xs : List α) (k n : Nat) (d x : α) (hk : k < xs.length) (hn : k < n) (hx : xs[k]? = some x) : (xs.take k ++ List.replicate (n - k) d).set k x = xs.take (k + 1) ++ List.replicate (n - (k + 1)) d := by
  have hl : (xs.take k).length = k := by rw [List.length_take]; omega
  rw [List.set_append_right _ _ (by omega), hl, Nat.sub_self, show n - k = (n - (k + 1)) + 1 by omega, List.replicate_succ, List.set_cons_zero, List.take_add_one, hx]
  simp

set_option maxRecDepth 100000 in
set_option maxHeartbeats 1000000 in
theorem toNodeS_any (v : Value) (xs : List Nd) (w : World) (hr : Ns w v xs) (hn : xs.length ≤ 1048576) :
    Calls Tryz.prog 36 #[v] w fun e w' => ∃ g, e = .returned (.slice (some ⟨g, 0, none⟩) xs.length xs.length) ∧ w'.ownsRow w.heap.size 112 4 (.slice (some ⟨g, 0, none⟩) xs.length xs.length) xs.length (ndCells xs) ∧ Below w.heap.size w w' := by
  obtain ⟨i0, hi, hz0, hz1, hz2⟩ := info_parts Tryz.infoNd
  obtain ⟨a, cap, rfl, h1, h2, h3⟩ := hr.parts
  unfold maxLen at h2
  have KEY := Lib.hid h3
  clear h3
  have hb1 : i0.bytes * xs.length ≤ 281474976710656 := by rw [hz2]; omega
  have HB1 := Lib.hid hb1
  clear hb1
  go_enter Tryz.func36, Tryz.ntmps36
  go_wp2_with (at_make; refine wpList_make_full _ rfl _ _ 28 rfl w.heap.size 112 i0 (.agg #[.int .i64 0, .int .i64 0, .int .i64 0, .int .i64 0]) 4 Tryz.underlying28 hi hz0 hz1 _ _ _ _ xs.length rfl rfl rfl rfl HB1.out (by unfold maxLen; omega) (Nat.le_refl _) ?_; intro w1 hown hg; have HO := Lib.hid hown; have HG := Lib.hid hg; clear hown hg)
  have hst : Hid (w1.ownsRow w.heap.size 112 4 (.slice (some ⟨w.heap.size, 0, none⟩) xs.length xs.length) xs.length (ndCells (xs.take 0 ++ List.replicate (xs.length - 0) default))) := Lib.hid (by
    have h := HO.out
    rw [made_nd] at h
    simpa using h)
  have hbw : Hid (Below w.heap.size w w1) := Lib.hid ((Below.refl _ _).grown HG.out (Nat.le_refl _) (fun k hk => by cases hk))
  clear HO HG
  go_loopw [4] (fun i wr => ∃ k : Nat, k ≤ xs.length ∧ i = .int .i64 k ∧ Hid (wr.ownsRow w.heap.size 112 4 (.slice (some ⟨w.heap.size, 0, none⟩) xs.length xs.length) xs.length (ndCells (xs.take k ++ List.replicate (xs.length - k) default))) ∧ Hid (Below w.heap.size w wr)) (fun i _ => xs.length - (intOf i).toNat)
  case atStart => exact ⟨0, Nat.zero_le _, rfl, hst, hbw⟩
  case round =>
    obtain ⟨k, hk, rfl, HO, HB⟩ := hrel
    by_cases hlt : k < xs.length
    · obtain ⟨b, o, rfl, hb, c0, c1, c2, c3⟩ := KEY.out k hlt
      rw [← HB.out.cell (p := ⟨b, o + k * 4, none⟩) hb] at c0
      rw [← HB.out.cell (p := ⟨b, o + k * 4 + 1, none⟩) hb] at c1
      rw [← HB.out.cell (p := ⟨b, o + k * 4 + 2, none⟩) hb] at c2
      rw [← HB.out.cell (p := ⟨b, o + k * 4 + 3, none⟩) hb] at c3
      generalize hx : xs.getD k default = x at c0 c1 c2 c3
      have HX : Hid (xs[k]? = some x) := Lib.hid (by rw [List.getElem?_eq_getElem hlt, ← hx, List.getD_eq_getElem?_getD, List.getElem?_eq_getElem hlt]; rfl)
      clear hx
      go_wp2_with fail
      refine (toNode_any x _).mono ?_
      rintro e w2 ⟨rfl, hb2⟩
      have HO2 := Lib.hid (own_below HO.out hb2 (Nat.le_refl _))
      have HB2 := Lib.hid (HB.out.trans (hb2.mono HB.out.size)); clear hb2 c0 c1 c2 c3
      obtain ⟨f0, f1, f2, f3, ⟨z0, g0⟩, ⟨z1, g1⟩, ⟨z2, g2⟩, ⟨z3, g3⟩⟩ := own_node HO2.out hlt
      unfold Nd.v
      go_wp2
      go_roundw
      case rel =>
        refine ⟨k + 1, by omega, by go_num, Lib.hid ?_, Lib.hid ((((HB2.out.setCell (Nat.le_refl _) _).setCell (Nat.le_refl _) _).setCell (Nat.le_refl _) _).setCell (Nat.le_refl _) _)⟩
        rw [← set_take xs k xs.length default x hlt hlt HX.out]
        exact own_node_set HO2.out hlt x
      case measure => simp [intOf]; omega
    · obtain rfl : k = xs.length := by omega
      go_wp2
      go_ret
      refine ⟨_, rfl, ?_, HB.out⟩
      have h := HO.out
      rw [Nat.sub_self, List.take_of_length_le (Nat.le_refl _)] at h
      simpa using h

set_option maxHeartbeats 1000000 in
theorem eqNode_same (x : Nd) (w : World) : Calls Tryz.prog 88 #[x.v, x.v] w fun e w' => e = .returned (.bool true) ∧ Below w.heap.size w w' := by
  obtain ⟨op, n, a, b⟩ := x
  unfold Nd.v
  go_enter Tryz.func88, Tryz.ntmps88
  go_wp2
  go_ret
  refine ⟨rfl, ?_⟩
  go_grown

set_option maxRecDepth 100000 in
set_option maxHeartbeats 2000000 in
theorem eqNodeS_same (u v : Value) (xs : List Nd) (w : World) (hu : Ns w u xs) (hv : Ns w v xs) :
    Calls Tryz.prog 38 #[u, v] w fun e w' => e = .returned (.bool true) ∧ Below w.heap.size w w' := by
  obtain ⟨a1, c1, rfl, hc1, hm1, h1⟩ := hu.parts
  obtain ⟨a2, c2, rfl, hc2, hm2, h2⟩ := hv.parts
  have K1 := Lib.hid h1
  have K2 := Lib.hid h2
  have U := Lib.hid hu; have V := Lib.hid hv
  clear h1 h2 hu hv
  unfold maxLen at hm1 hm2
  go_enter Tryz.func38, Tryz.ntmps38
  go_wp2
  go_loopw [5] (fun i wr => ∃ k : Nat, k ≤ xs.length ∧ i = .int .i64 k ∧ Hid (Below w.heap.size w wr)) (fun i _ => xs.length - (intOf i).toNat)
  case atStart => exact ⟨0, Nat.zero_le _, rfl, Lib.hid (Below.refl _ _)⟩
  case round =>
    obtain ⟨k, hk, rfl, HB⟩ := hrel
    by_cases hlt : k < xs.length
    · obtain ⟨b1, o1, rfl, hb1, d0, d1, d2, d3⟩ := K1.out k hlt
      obtain ⟨b2, o2, rfl, hb2, e0, e1, e2, e3⟩ := K2.out k hlt
      rw [← HB.out.cell (p := ⟨b1, o1 + k * 4, none⟩) hb1] at d0
      rw [← HB.out.cell (p := ⟨b1, o1 + k * 4 + 1, none⟩) hb1] at d1
      rw [← HB.out.cell (p := ⟨b1, o1 + k * 4 + 2, none⟩) hb1] at d2
      rw [← HB.out.cell (p := ⟨b1, o1 + k * 4 + 3, none⟩) hb1] at d3
      rw [← HB.out.cell (p := ⟨b2, o2 + k * 4, none⟩) hb2] at e0
      rw [← HB.out.cell (p := ⟨b2, o2 + k * 4 + 1, none⟩) hb2] at e1
      rw [← HB.out.cell (p := ⟨b2, o2 + k * 4 + 2, none⟩) hb2] at e2
      rw [← HB.out.cell (p := ⟨b2, o2 + k * 4 + 3, none⟩) hb2] at e3
      generalize xs.getD k default = x at d0 d1 d2 d3 e0 e1 e2 e3
      have hi0 : (0 : Int) ≤ (k : Int) := Int.natCast_nonneg _
      have hi1 : (k : Int) < (xs.length : Int) := by omega
      have hsz := HB.out.size
      go_wp2
      go_region_with ((go_at_call 88; refine (eqNode_same x _).mono ?_; rintro e w1 ⟨rfl, hb1⟩; have HB1 := Lib.hid hb1; clear hb1))
      all_goals
        go_wp2
        go_roundw
        case rel => exact ⟨k + 1, by omega, by go_num, Lib.hid (HB.out.drew.trans (HB1.out.mono hsz))⟩
        case measure => simp [intOf]; omega
    · obtain rfl : k = xs.length := by omega
      go_wp2
      go_ret
      exact ⟨rfl, HB.out⟩

/-- what markNodeS leaves -/
def markNd (k i : Nat) : Nd := ⟨(k + i * 4 : Nat), (k + i * 4 + 1 : Nat), (k + i * 4 + 2 : Nat), (k + i * 4 + 3 : Nat)⟩
def marksNd (k n : Nat) : List Nd := (List.range n).map (markNd k)
theorem marksNd_len (k n : Nat) : (marksNd k n).length = n := by simp [marksNd]
theorem marksNd_get {k n i : Nat} (h : i < n) : (marksNd k n).getD i default = markNd k i := by
  unfold marksNd
  rw [List.getD_eq_getElem?_getD, List.getElem?_map, List.getElem?_range h]; rfl
theorem marksNd_set {k i : Nat} {xs : List Nd} (hi : i < xs.length) : (marksNd k i ++ xs.drop i).set i (markNd k i) = marksNd k (i + 1) ++ xs.drop (i + 1) := by
  rw [List.set_append_right _ _ (by rw [marksNd_len]; exact Nat.le_refl _), marksNd_len, Nat.sub_self, List.drop_eq_getElem_cons hi, List.set_cons_zero]
  unfold marksNd
  rw [List.range_succ, List.map_append]; simp

set_option maxRecDepth 100000 in
set_option maxHeartbeats 2000000 in
theorem markNodeS_own (base : Nat) (v : Value) (n : Nat) (xs : List Nd) (k : Nat) (w : World) (hn : n ≤ 1048576) (h0 : 0 < k) (hk : k ≤ 4194400) (ho : w.ownsRow base 112 4 v n (ndCells xs)) :
    Calls Tryz.prog 40 #[v, .int .i64 k] w fun e w' => e = .returned (.int .i64 (k + n * 4 : Nat)) ∧ w'.ownsRow base 112 4 v n (ndCells (marksNd k n)) ∧ Below base w w' := by
  have hl : xs.length = n := by have := ho.1; rw [ndCells_len] at this; omega
  rcases Nat.eq_zero_or_pos n with h00 | hpos
  · subst h00
    obtain ⟨a, cap, rfl⟩ : ∃ a cap, v = .slice a 0 cap := by
      rcases ho.2 with ⟨rfl, _⟩ | ⟨g, cap, cur, rfl, _⟩
      · exact ⟨_, _, rfl⟩
      · exact ⟨_, _, rfl⟩
    go_enter Tryz.func40, Tryz.ntmps40
    go_wp2
    refine wp_loop_rounds 1 ?_
    rw [rounds_succ]
    go_wp2
    go_ret
    have e : xs = [] := List.length_eq_zero_iff.1 hl
    subst e
    exact ⟨ret_int (by simp), ho, Below.refl _ _⟩
  obtain ⟨g, cap, rfl, hbg⟩ : ∃ g cap, v = .slice (some ⟨g, 0, none⟩) n cap ∧ base ≤ g := by
    rcases ho.2 with ⟨rfl, h⟩ | ⟨g, cap, cur, rfl, hb, _⟩
    · omega
    · exact ⟨_, _, rfl, hb⟩
  have HL := Lib.hid hl; clear hl
  go_enter Tryz.func40, Tryz.ntmps40
  go_wp2
  go_loopw [1, 5] (fun kv iv wr => ∃ i : Nat, i ≤ n ∧ iv = .int .i64 i ∧ kv = .int .i64 (k + i * 4 : Nat) ∧ Hid (wr.ownsRow base 112 4 (.slice (some ⟨g, 0, none⟩) n cap) n (ndCells (marksNd k i ++ xs.drop i))) ∧ Hid (Below base w wr)) (fun _ iv _ => n - (intOf iv).toNat)
  case atStart => exact ⟨0, Nat.zero_le _, rfl, by go_num, Lib.hid (by simpa [marksNd] using ho), Lib.hid (Below.refl _ _)⟩
  case round =>
    obtain ⟨i, hi, rfl, rfl, HO, HB⟩ := hrel
    by_cases hlt : i < n
    · obtain ⟨f0, f1, f2, f3, ⟨z0, g0⟩, ⟨z1, g1⟩, ⟨z2, g2⟩, ⟨z3, g3⟩⟩ := own_node HO.out hlt
      go_wp2
      go_roundw
      case rel =>
        refine ⟨i + 1, by omega, by go_num, by go_num, Lib.hid ?_, Lib.hid ((((HB.out.setCell hbg _).setCell hbg _).setCell hbg _).setCell hbg _)⟩
        rw [← marksNd_set (by rw [HL.out]; exact hlt)]
        exact own_node_set HO.out hlt (markNd k i)
      case measure => simp [intOf]; omega
    · obtain rfl : i = n := by omega
      go_wp2
      go_ret
      exact ⟨rfl, by have := HO.out; rw [List.drop_of_length_le (by rw [HL.out]; exact Nat.le_refl _), List.append_nil] at this; exact this, HB.out⟩

set_option maxRecDepth 100000 in
theorem open_SlNode {H : Type} {enc : TypeId × Value → H} (W : World) (base : Nat) (v : Value) (d : DataW H) (p : List MemPlace) (_hv : Value.okWide Tryz.prog W .any base 51 v)
    (h : DataW.Trod enc Tryz.prog W 0 (fun _ => true) true 51 v d p) : ∃ xs, Ns W v xs := by
  obtain ⟨a0, len0, cap0, rfl⟩ := okWide_slice Tryz.underlying51 _hv
  obtain ⟨fuel, hf⟩ := h
  rcases Go.Deep.open_slice Tryz.underlying51 hf with ⟨hcs, _⟩ | ⟨a, len, cap, m, n, D, Pl, hcs, _, hl, hm, hmm, _, hi⟩
  · simp [Value.cells] at hcs
    obtain ⟨rfl, rfl, rfl⟩ := hcs
    exact ⟨[], none, 0, rfl, Nat.le_refl _, by decide, .inl rfl⟩
  · simp [Value.cells] at hcs
    obtain ⟨rfl, rfl, rfl⟩ := hcs
    simp only [if_true] at hmm
    have hC : Tryz.prog.cellsOf 114 = 4 := by kernel_rfl
    rw [hC] at hi
    have key : ∀ i, i < len0 → ∃ x : Nd, W.cell? (a.add (i * 4 + 0)) = some (.int .i64 x.op) ∧ W.cell? (a.add (i * 4 + 1)) = some (.int .i64 x.n) ∧ W.cell? (a.add (i * 4 + 2)) = some (.int .i64 x.a) ∧ W.cell? (a.add (i * 4 + 3)) = some (.int .i64 x.b) := by
      intro i hlt
      obtain ⟨cs, hc, ht⟩ := hi i (by omega)
      obtain ⟨_, hlen, hat⟩ := World.cells?_some hc
      obtain ⟨ys, k, hk, hx, hcl, hyl, hg⟩ := DataW.trod_struct Tryz.underlying114 ht
      match cs, hlen with
      | [c0, c1, c2, c3], _ =>
        have hI : Tryz.prog.cellsOf 3 = 1 := by kernel_rfl
        have e0 : DataW.trod enc Tryz.prog W 0 (fun _ => true) true k 3 (([c0, c1, c2, c3].drop 0).take (Tryz.prog.cellsOf 3)) = ys[0]? := hg 0 _ rfl
        have e1 : DataW.trod enc Tryz.prog W 0 (fun _ => true) true k 3 (([c0, c1, c2, c3].drop 1).take (Tryz.prog.cellsOf 3)) = ys[1]? := hg 1 _ rfl
        have e2 : DataW.trod enc Tryz.prog W 0 (fun _ => true) true k 3 (([c0, c1, c2, c3].drop 2).take (Tryz.prog.cellsOf 3)) = ys[2]? := hg 2 _ rfl
        have e3 : DataW.trod enc Tryz.prog W 0 (fun _ => true) true k 3 (([c0, c1, c2, c3].drop 3).take (Tryz.prog.cellsOf 3)) = ys[3]? := hg 3 _ rfl
        rw [hI] at e0 e1 e2 e3
        simp only [List.drop_zero, List.drop_succ_cons, List.take_succ_cons, List.take_zero] at e0 e1 e2 e3
        rw [List.getElem?_eq_getElem (by rw [hyl]; decide)] at e0 e1 e2 e3
        obtain ⟨n0, h0, _⟩ := DataW.trod_int Tryz.underlying3 e0
        obtain ⟨n1, h1, _⟩ := DataW.trod_int Tryz.underlying3 e1
        obtain ⟨n2, h2, _⟩ := DataW.trod_int Tryz.underlying3 e2
        obtain ⟨n3, h3, _⟩ := DataW.trod_int Tryz.underlying3 e3
        simp only [List.cons.injEq, and_true] at h0 h1 h2 h3
        subst h0 h1 h2 h3
        exact ⟨⟨n0, n1, n2, n3⟩, by rw [← Go.Deep.add_add]; exact hat 0 (by decide), by rw [← Go.Deep.add_add]; exact hat 1 (by decide), by rw [← Go.Deep.add_add]; exact hat 2 (by decide), by rw [← Go.Deep.add_add]; exact hat 3 (by decide)⟩
    have hex : ∃ f : Nat → Nd, ∀ i, i < len0 → W.cell? (a.add (i * 4 + 0)) = some (.int .i64 (f i).op) ∧ W.cell? (a.add (i * 4 + 1)) = some (.int .i64 (f i).n) ∧ W.cell? (a.add (i * 4 + 2)) = some (.int .i64 (f i).a) ∧ W.cell? (a.add (i * 4 + 3)) = some (.int .i64 (f i).b) := by
      refine ⟨fun i => if h : i < len0 then (key i h).choose else default, fun i h => ?_⟩
      simp only [dif_pos h]
      exact (key i h).choose_spec
    obtain ⟨f, hf'⟩ := hex
    have hlen : ((List.range len0).map f).length = len0 := by simp
    refine ⟨(List.range len0).map f, some a, cap0, by rw [hlen], by rw [hlen]; exact hl, hm, ?_⟩
    rcases Nat.eq_zero_or_pos len0 with h0 | h0
    · exact .inl (by subst h0; rfl)
    · have hc0 := (hf' 0 h0).1
      obtain ⟨b, o, s⟩ := a
      have hs : s = none := by simpa [Addr.add] using World.cell?_spot hc0
      subst hs
      refine .inr ⟨b, o, rfl, World.block_lt_of_cell? W _ (by rw [addr_add0] at hc0; exact hc0), fun j hj => ?_⟩
      have hj' : j < len0 := by rw [hlen] at hj; exact hj
      have hx : ((List.range len0).map f).getD j default = f j := by
        rw [List.getD_eq_getElem?_getD, List.getElem?_map, List.getElem?_range hj']; rfl
      have := hf' j hj'
      simp only [addr_add0, ← Nat.add_assoc, Nat.add_zero] at this
      rw [hx]
      exact this
end Go.Proofs.YtodjohdbngbpaaaGreat

/-
  Contracts of the laws' helpers over []bool: eqBoolS, markBoolS, heldBoolS; rows of nodes with an interval (No). Conditions: bounds on the lengths, which the laws check.
-/
namespace Go.Proofs.YtodjohdbngbpaaaGreat
open Go.RowKit Go.WideShapes
open Go Go.Deep

/-- v owns the nodes xs, in a block from lo to hi -/
def No (lo hi : Nat) (w : World) (v : Value) (xs : List Nd) : Prop := w.ownsRow lo 112 4 v xs.length (ndCells xs) ∧ ∀ k, v.ownBlock = some k → k < hi
/-- v reads as the nodes xs -/
def Nv (_lo _hi : Nat) (w : World) (v : Value) (xs : List Nd) : Prop := Ns w v xs
theorem No.keeps {lo hi : Nat} {w w' : World} {v : Value} {xs : List Nd} (h : No lo hi w v xs) (k : Keeps lo hi w w') : No lo hi w' v xs :=
  ⟨own_keeps h.1 fun q hq => k.block q (h.1.lt q hq).1 (h.2 q hq) (h.1.lt q hq).2, h.2⟩
theorem No.read {lo hi : Nat} {w : World} {v : Value} {xs : List Nd} (h : No lo hi w v xs) : Nv lo hi w v xs := Ns.of_own h.1
theorem toNodeS_no (v : Value) (xs : List Nd) (w : World) (hr : Ns w v xs) (hn : xs.length ≤ 1048576) :
    Calls Tryz.prog 36 #[v] w fun e w' => ∃ v', e = .returned v' ∧ No w.heap.size w'.heap.size w' v' xs ∧ Below w.heap.size w w' := by
  refine (toNodeS_any v xs w hr hn).mono ?_
  rintro e w' ⟨g, rfl, ho, hb⟩
  exact ⟨_, rfl, ⟨ho, fun k hk => (ho.lt k hk).2⟩, hb⟩

/-- the marks of a row of bools, from k on -/
def brow (k n : Nat) : List Bool := (List.range n).map fun i => ((((k + i : Nat) : Int)).tmod 3 == 0)
theorem brow_len (k n : Nat) : (brow k n).length = n := by simp [brow]
theorem brow_get {k n i : Nat} (h : i < n) : (brow k n).getD i false = ((((k + i : Nat) : Int)).tmod 3 == 0) := by
  unfold brow; rw [List.getD_eq_getElem?_getD, List.getElem?_map, List.getElem?_range h]; rfl
theorem brow_set {k i : Nat} {l : List Bool} (hi : i < l.length) : (brow k i ++ l.drop i).set i ((((k + i : Nat) : Int)).tmod 3 == 0) = brow k (i + 1) ++ l.drop (i + 1) := by
  rw [List.set_append_right _ _ (by rw [brow_len]; exact Nat.le_refl _), brow_len, Nat.sub_self, List.drop_eq_getElem_cons hi, List.set_cons_zero]
  unfold brow
  rw [List.range_succ, List.map_append]; simp

end Go.Proofs.YtodjohdbngbpaaaGreat

/-
  markNodeS with what it leaves alone. No condition but the length.
-/
namespace Go.Proofs.YtodjohdbngbpaaaGreat
open Go.RowKit
open Go Go.Deep


theorem grown_setN {w0 w : World} {g : Nat} (h : w0.grownBy w (some g)) (j : Nat) (u : Value) : w0.grownBy (w.setCell ⟨g, j, none⟩ u) (some g) :=
  ⟨h.os, h.tape, h.output, by simpa [World.setCell] using h.size, fun k hk hne => by rw [Below.heap_setCell _ _ _ _ (fun e => hne (by rw [e]))]; exact h.block k hk hne⟩

set_option maxRecDepth 100000 in
set_option maxHeartbeats 2000000 in
theorem markNodeS_rw (base : Nat) (v : Value) (n : Nat) (xs : List Nd) (k : Nat) (w : World) (hn : n ≤ 1048576) (h0 : 0 < k) (hk : k ≤ 4194400) (ho : w.ownsRow base 112 4 v n (ndCells xs)) :
    Calls Tryz.prog 40 #[v, .int .i64 k] w fun e w' => e = .returned (.int .i64 (k + n * 4 : Nat)) ∧ w'.ownsRow base 112 4 v n (ndCells (marksNd k n)) ∧ w.grownBy w' v.ownBlock := by
  have hl : xs.length = n := by have := ho.1; rw [ndCells_len] at this; omega
  rcases Nat.eq_zero_or_pos n with h00 | hpos
  · subst h00
    obtain ⟨a, cap, rfl⟩ : ∃ a cap, v = .slice a 0 cap := by
      rcases ho.2 with ⟨rfl, _⟩ | ⟨g, cap, cur, rfl, _⟩
      · exact ⟨_, _, rfl⟩
      · exact ⟨_, _, rfl⟩
    go_enter Tryz.func40, Tryz.ntmps40
    go_wp2
    refine wp_loop_rounds 1 ?_
    rw [rounds_succ]
    go_wp2
    go_ret
    have e : xs = [] := List.length_eq_zero_iff.1 hl
    subst e
    exact ⟨ret_int (by simp), ho, World.grownBy.refl _ _⟩
  obtain ⟨g, cap, rfl, hbg⟩ : ∃ g cap, v = .slice (some ⟨g, 0, none⟩) n cap ∧ base ≤ g := by
    rcases ho.2 with ⟨rfl, h⟩ | ⟨g, cap, cur, rfl, hb, _⟩
    · omega
    · exact ⟨_, _, rfl, hb⟩
  have HL := Lib.hid hl; clear hl
  have hgo : (Value.slice (some ⟨g, 0, none⟩) n cap).ownBlock = some g := rfl
  have HGO := Lib.hid hgo
  clear hgo
  go_enter Tryz.func40, Tryz.ntmps40
  go_wp2
  go_loopw [1, 5] (fun kv iv wr => ∃ i : Nat, i ≤ n ∧ iv = .int .i64 i ∧ kv = .int .i64 (k + i * 4 : Nat) ∧ Hid (wr.ownsRow base 112 4 (.slice (some ⟨g, 0, none⟩) n cap) n (ndCells (marksNd k i ++ xs.drop i))) ∧ Hid (w.grownBy wr (some g))) (fun _ iv _ => n - (intOf iv).toNat)
  case atStart => exact ⟨0, Nat.zero_le _, rfl, by go_num, Lib.hid (by simpa [marksNd] using ho), Lib.hid (World.grownBy.refl _ _)⟩
  case round =>
    obtain ⟨i, hi, rfl, rfl, HO, HB⟩ := hrel
    by_cases hlt : i < n
    · obtain ⟨f0, f1, f2, f3, ⟨z0, g0⟩, ⟨z1, g1⟩, ⟨z2, g2⟩, ⟨z3, g3⟩⟩ := own_node HO.out hlt
      go_wp2
      go_roundw
      case rel =>
        refine ⟨i + 1, by omega, by go_num, by go_num, Lib.hid ?_, Lib.hid (grown_setN (grown_setN (grown_setN (grown_setN HB.out _ _) _ _) _ _) _ _)⟩
        rw [← marksNd_set (by rw [HL.out]; exact hlt)]
        exact own_node_set HO.out hlt (markNd k i)
      case measure => simp [intOf]; omega
    · obtain rfl : i = n := by omega
      go_wp2
      go_ret
      exact ⟨rfl, by have := HO.out; rw [List.drop_of_length_le (by rw [HL.out]; exact Nat.le_refl _), List.append_nil] at this; exact this, HB.out⟩
end Go.Proofs.YtodjohdbngbpaaaGreat
