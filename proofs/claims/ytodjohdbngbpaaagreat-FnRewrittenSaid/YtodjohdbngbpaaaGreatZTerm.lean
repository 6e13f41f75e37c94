/-
  Several texts in one: Term Nodes Bols Mnr. Conditions: as each theorem says.
-/
import Derived.WalkKit
import Derived.Test.YtodjohdbngbpaaaGreatRows
import Derived.Test.YtodjohdbngbpaaaGreatZLib
import Derived.Handy
import Derived.Deep.OwnRows
import Derived.Deep.RegionHeld3
import Derived.WalkSpells
import Derived.Deep.Slices
import Derived.ChangeSame
import Derived.WideShapes
import Derived.Test.YtodjohdbngbpaaaGreatZSet
/-
  Plain mathematics of formulas: nodes, terms, their texts, their layout as lists of nodes. No program.
-/
namespace Go.Proofs.YtodjohdbngbpaaaGreat
open Go

structure Nd where
  op : Int
  n : Int
  a : Int
  b : Int
instance : Inhabited Nd := ⟨⟨0, 0, 0, 0⟩⟩

/-- how many of A and B an operation uses -/
def usesI (op : Int) : Nat := if op = 1 ∨ op = 2 then 0 else if op = 4 ∨ op = 9 then 2 else 1
def limN (op : Int) : Int := if op = 1 then 4 else if op = 5 ∨ op = 6 then 3 else 1
def headOk (x : Nd) : Bool := decide (1 ≤ x.op) && decide (x.op ≤ 9) && decide (0 ≤ x.n) && decide (x.n < limN x.op)
def idxOk (i : Int) (used : Bool) (at' : Int) : Bool := if used then decide (0 ≤ i) && decide (i < at') else decide (i = 0)
def okAt (x : Nd) (i : Nat) : Bool := headOk x && idxOk x.a (decide (1 ≤ usesI x.op)) i && idxOk x.b (decide (usesI x.op = 2)) i
def usedOf (x : Nd) : List Nat := ([x.a.toNat, x.b.toNat]).take (usesI x.op)
def allUsed (xs : List Nd) : List Nat := xs.flatMap usedOf
def nodesOk (xs : List Nd) : Bool := (List.range xs.length).all fun i => okAt (xs.getD i default) i
def onceOk (xs : List Nd) : Bool := (List.range (xs.length - 1)).all fun i => decide ((allUsed xs).count i = 1)
def formOk (xs : List Nd) : Bool := decide (1 ≤ xs.length) && decide (xs.length ≤ 40) && nodesOk xs && onceOk xs

theorem usesI_le (op : Int) : usesI op ≤ 2 := by unfold usesI; split; omega; split <;> omega
theorem usesI_0 {op : Int} (h : op = 1 ∨ op = 2) : usesI op = 0 := if_pos h
theorem usesI_2 {op : Int} (h : op = 4 ∨ op = 9) : usesI op = 2 := by unfold usesI; rw [if_neg (by omega), if_pos h]
theorem usesI_1 {op : Int} (h : op ≠ 1 ∧ op ≠ 2 ∧ op ≠ 4 ∧ op ≠ 9) : usesI op = 1 := by unfold usesI; rw [if_neg (by omega), if_neg (by omega)]

/- terms -/
inductive Tm
  | leaf (op n : Int)
  | deny (a : Tm)
  | know (op n : Int) (a : Tm)
  | joint (op : Int) (a b : Tm)

def Tm.op : Tm → Int | .leaf op _ => op | .deny _ => 3 | .know op _ _ => op | .joint op _ _ => op
def Tm.num : Tm → Int | .leaf _ n => n | .deny _ => 0 | .know _ n _ => n | .joint _ _ _ => 0
def Tm.parts : Tm → List Tm | .leaf _ _ => [] | .deny a => [a] | .know _ _ a => [a] | .joint _ a b => [a, b]
def Tm.size : Tm → Nat | .leaf _ _ => 1 | .deny a => a.size + 1 | .know _ _ a => a.size + 1 | .joint _ a b => a.size + b.size + 1
/-- the operations fit the forms -/
def Tm.ops : Tm → Prop
  | .leaf op _ => op = 1 ∨ op = 2
  | .deny a => a.ops
  | .know op _ a => (op = 5 ∨ op = 6 ∨ op = 7 ∨ op = 8) ∧ a.ops
  | .joint op a b => (op = 4 ∨ op = 9) ∧ a.ops ∧ b.ops
/-- the numbers are in range too -/
def Tm.wf : Tm → Prop
  | .leaf op n => (op = 1 ∨ op = 2) ∧ 0 ≤ n ∧ n < limN op
  | .deny a => a.wf
  | .know op n a => (op = 5 ∨ op = 6 ∨ op = 7 ∨ op = 8) ∧ 0 ≤ n ∧ n < limN op ∧ a.wf
  | .joint op a b => (op = 4 ∨ op = 9) ∧ a.wf ∧ b.wf
theorem Tm.wf_ops (t : Tm) : t.wf → t.ops := by
  induction t with
  | leaf _ _ => exact fun h => h.1
  | deny a ih => exact ih
  | know _ _ a ih => exact fun h => ⟨h.1, ih h.2.2.2⟩
  | joint _ a b iha ihb => exact fun h => ⟨h.1, iha h.2.1, ihb h.2.2⟩
theorem Tm.size_pos : ∀ t : Tm, 0 < t.size
  | .leaf _ _ => Nat.one_pos
  | .deny _ => Nat.succ_pos _
  | .know _ _ _ => Nat.succ_pos _
  | .joint _ _ _ => Nat.succ_pos _
/-- a node's term out of its parts -/
def mkTm (op n : Int) (a b : Tm) : Tm := if op = 1 ∨ op = 2 then .leaf op n else if op = 3 then .deny a else if op = 4 ∨ op = 9 then .joint op a b else .know op n a
def tmF (xs : List Nd) : Nat → Nat → Tm
  | 0, _ => .leaf 2 0
  | f + 1, i => mkTm (xs.getD i default).op (xs.getD i default).n (tmF xs f (xs.getD i default).a.toNat) (tmF xs f (xs.getD i default).b.toNat)
def tmAt (xs : List Nd) (i : Nat) : Tm := tmF xs (i + 1) i

theorem nodesOk_at {xs : List Nd} (h : nodesOk xs = true) {i : Nat} (hi : i < xs.length) : okAt (xs.getD i default) i = true := by
  unfold nodesOk at h
  rw [List.all_eq_true] at h
  exact h i (List.mem_range.2 hi)
theorem okAt_parts {x : Nd} {i : Nat} (h : okAt x i = true) : (1 ≤ x.op ∧ x.op ≤ 9 ∧ 0 ≤ x.n ∧ x.n < limN x.op) ∧ (1 ≤ usesI x.op → 0 ≤ x.a ∧ x.a < i) ∧ (usesI x.op = 2 → 0 ≤ x.b ∧ x.b < i) ∧ (usesI x.op = 0 → x.a = 0) ∧ (usesI x.op ≤ 1 → x.b = 0) := by
  unfold okAt headOk idxOk at h
  simp only [Bool.and_eq_true, decide_eq_true_eq] at h
  obtain ⟨⟨h1, h2⟩, h3⟩ := h
  refine ⟨by omega, fun hu => ?_, fun hu => ?_, fun hu => ?_, fun hu => ?_⟩
  · rw [if_pos hu] at h2; simpa using h2
  · rw [if_pos hu] at h3; simpa using h3
  · rw [if_neg (by omega)] at h2; simpa using h2
  · rw [if_neg (by omega)] at h3; simpa using h3
theorem mkTm_congr {op n : Int} {a b a' b' : Tm} (h1 : 1 ≤ usesI op → a = a') (h2 : usesI op = 2 → b = b') : mkTm op n a b = mkTm op n a' b' := by
  unfold mkTm
  by_cases h0 : op = 1 ∨ op = 2
  · rw [if_pos h0, if_pos h0]
  rw [if_neg h0, if_neg h0]
  have ha : a = a' := h1 (by unfold usesI; rw [if_neg h0]; split <;> omega)
  subst ha
  by_cases h4 : op = 4 ∨ op = 9
  · have hb : b = b' := h2 (usesI_2 h4)
    subst hb; rfl
  · rw [if_neg h4, if_neg h4]
theorem tmF_any {xs : List Nd} (h : nodesOk xs = true) : ∀ (n i : Nat), i ≤ n → i < xs.length → ∀ f g, i < f → i < g → tmF xs f i = tmF xs g i := by
  intro n
  induction n with
  | zero =>
    intro i hi hl f g hf hg
    obtain ⟨f', rfl⟩ : ∃ f', f = f' + 1 := ⟨f - 1, by omega⟩
    obtain ⟨g', rfl⟩ : ∃ g', g = g' + 1 := ⟨g - 1, by omega⟩
    have hp := okAt_parts (nodesOk_at h hl)
    simp only [tmF]
    exact mkTm_congr (fun hu => by have := hp.2.1 hu; omega) (fun hu => by have := hp.2.2.1 hu; omega)
  | succ n ih =>
    intro i hi hl f g hf hg
    obtain ⟨f', rfl⟩ : ∃ f', f = f' + 1 := ⟨f - 1, by omega⟩
    obtain ⟨g', rfl⟩ : ∃ g', g = g' + 1 := ⟨g - 1, by omega⟩
    have hp := okAt_parts (nodesOk_at h hl)
    simp only [tmF]
    exact mkTm_congr (fun hu => ih _ (by have := hp.2.1 hu; omega) (by have := hp.2.1 hu; omega) _ _ (by have := hp.2.1 hu; omega) (by have := hp.2.1 hu; omega))
      (fun hu => ih _ (by have := hp.2.2.1 hu; omega) (by have := hp.2.2.1 hu; omega) _ _ (by have := hp.2.2.1 hu; omega) (by have := hp.2.2.1 hu; omega))
theorem tmAt_eq {xs : List Nd} (h : nodesOk xs = true) {i : Nat} (hl : i < xs.length) :
    tmAt xs i = mkTm (xs.getD i default).op (xs.getD i default).n (tmAt xs (xs.getD i default).a.toNat) (tmAt xs (xs.getD i default).b.toNat) := by
  have hp := okAt_parts (nodesOk_at h hl)
  show tmF xs (i + 1) i = _
  simp only [tmF]
  exact mkTm_congr (fun hu => tmF_any h _ _ (Nat.le_refl _) (by have := hp.2.1 hu; omega) _ _ (by have := hp.2.1 hu; omega) (Nat.lt_succ_self _))
    (fun hu => tmF_any h _ _ (Nat.le_refl _) (by have := hp.2.2.1 hu; omega) _ _ (by have := hp.2.2.1 hu; omega) (Nat.lt_succ_self _))
theorem limN_eq {op : Int} (h : op = 5 ∨ op = 6) : limN op = 3 := by unfold limN; rw [if_neg (by omega), if_pos h]
theorem mkTm_wf {x : Nd} {i : Nat} (h : okAt x i = true) {a b : Tm} (ha : 1 ≤ usesI x.op → a.wf) (hb : usesI x.op = 2 → b.wf) : (mkTm x.op x.n a b).wf := by
  have hp := okAt_parts h
  unfold mkTm
  by_cases h0 : x.op = 1 ∨ x.op = 2
  · rw [if_pos h0]; exact ⟨h0, hp.1.2.2.1, hp.1.2.2.2⟩
  rw [if_neg h0]
  have ha := ha (by unfold usesI; rw [if_neg h0]; split <;> omega)
  by_cases h3 : x.op = 3
  · rw [if_pos h3]; exact ha
  rw [if_neg h3]
  by_cases h4 : x.op = 4 ∨ x.op = 9
  · rw [if_pos h4]; exact ⟨h4, ha, hb (usesI_2 h4)⟩
  · rw [if_neg h4]; exact ⟨by omega, hp.1.2.2.1, hp.1.2.2.2, ha⟩
theorem tmAt_wf {xs : List Nd} (h : nodesOk xs = true) : ∀ (n i : Nat), i ≤ n → i < xs.length → (tmAt xs i).wf := by
  intro n
  induction n with
  | zero =>
    intro i hi hl
    have hp := okAt_parts (nodesOk_at h hl)
    rw [tmAt_eq h hl]
    exact mkTm_wf (nodesOk_at h hl) (fun hu => by have := hp.2.1 hu; omega) (fun hu => by have := hp.2.2.1 hu; omega)
  | succ n ih =>
    intro i hi hl
    have hp := okAt_parts (nodesOk_at h hl)
    rw [tmAt_eq h hl]
    exact mkTm_wf (nodesOk_at h hl) (fun hu => ih _ (by have := hp.2.1 hu; omega) (by have := hp.2.1 hu; omega)) (fun hu => ih _ (by have := hp.2.2.1 hu; omega) (by have := hp.2.2.1 hu; omega))

/- texts -/
def letters : List UInt8 := [84, 45, 38, 75, 87, 69, 67, 33]
def letterI (op : Int) : UInt8 := letters.getD (op - 2).toNat 0
def headB (op n : Int) : List UInt8 := if op = 1 then [UInt8.ofNat (97 + n.toNat)] else letterI op :: (if op = 5 ∨ op = 6 then [UInt8.ofNat (48 + n.toNat)] else [])
def headT (t : Tm) : List UInt8 := headB t.op t.num
def txt : Tm → List UInt8
  | .leaf op n => headT (.leaf op n)
  | .deny a => headT (.deny a) ++ txt a
  | .know op n a => headT (.know op n a) ++ txt a
  | .joint op a b => headT (.joint op a b) ++ txt a ++ txt b
theorem headT_len (t : Tm) : 1 ≤ (headT t).length ∧ (headT t).length ≤ 2 := by
  unfold headT headB; split
  · simp
  · split <;> simp
theorem txt_len : ∀ t : Tm, t.size ≤ (txt t).length ∧ (txt t).length ≤ 2 * t.size
  | .leaf op n => by have := headT_len (.leaf op n); simp only [txt, Tm.size]; omega
  | .deny a => by have := headT_len (.deny a); have := txt_len a; simp only [txt, Tm.size, List.length_append]; omega
  | .know op n a => by have := headT_len (.know op n a); have := txt_len a; simp only [txt, Tm.size, List.length_append]; omega
  | .joint op a b => by have := headT_len (.joint op a b); have := txt_len a; have := txt_len b; simp only [txt, Tm.size, List.length_append]; omega
theorem txt_parts (t : Tm) : txt t = headT t ++ t.parts.flatMap txt := by
  cases t <;> simp [txt, Tm.parts]

/- layout -/
def lay : Nat → Tm → List Nd
  | _, .leaf op n => [⟨op, n, 0, 0⟩]
  | k, .deny a => lay k a ++ [⟨3, 0, (k + a.size : Nat) - 1, 0⟩]
  | k, .know op n a => lay k a ++ [⟨op, n, (k + a.size : Nat) - 1, 0⟩]
  | k, .joint op a b => lay k a ++ lay (k + a.size) b ++ [⟨op, 0, (k + a.size : Nat) - 1, (k + a.size + b.size : Nat) - 1⟩]
theorem lay_len : ∀ (k : Nat) (t : Tm), (lay k t).length = t.size
  | _, .leaf _ _ => rfl
  | k, .deny a => by simp [lay, lay_len k a, Tm.size]
  | k, .know _ _ a => by simp [lay, lay_len k a, Tm.size]
  | k, .joint _ a b => by simp [lay, lay_len k a, lay_len (k + a.size) b, Tm.size]; omega
end Go.Proofs.YtodjohdbngbpaaaGreat

/-
  Slices of nodes in memory; contracts of the laws' helpers over them: toNode, toNodeS, szNodeS, eqNode, eqNodeS, markNodeS, heldNodeS.
-/
namespace Go.Proofs.YtodjohdbngbpaaaGreat
open Go.RowKit Go.WideShapes
open Go Go.Deep

def Nd.v (x : Nd) : Value := .agg #[.int .i64 x.op, .int .i64 x.n, .int .i64 x.a, .int .i64 x.b]
def Nd.cs (x : Nd) : List Value := [.int .i64 x.op, .int .i64 x.n, .int .i64 x.a, .int .i64 x.b]
def ndCells (xs : List Nd) : List Value := xs.flatMap Nd.cs

theorem Tryz.infoNd : (Tryz.prog.info? 112).map (fun i => (i.zero, i.size, i.bytes)) = some (some (.agg #[.int .i64 0, .int .i64 0, .int .i64 0, .int .i64 0]), 4, 32) := by kernel_rfl
/-- the slice v reads, in w, as the nodes xs -/
def Ns (w : World) (v : Value) (xs : List Nd) : Prop :=
  ∃ a cap, v = .slice a xs.length cap ∧ xs.length ≤ cap ∧ cap ≤ maxLen ∧ (xs = [] ∨ ∃ b o, a = some ⟨b, o, none⟩ ∧ b < w.heap.size ∧ ∀ j, j < xs.length →
    w.cell? ⟨b, o + j * 4, none⟩ = some (.int .i64 (xs.getD j default).op) ∧ w.cell? ⟨b, o + j * 4 + 1, none⟩ = some (.int .i64 (xs.getD j default).n) ∧
    w.cell? ⟨b, o + j * 4 + 2, none⟩ = some (.int .i64 (xs.getD j default).a) ∧ w.cell? ⟨b, o + j * 4 + 3, none⟩ = some (.int .i64 (xs.getD j default).b))

theorem ndCells_len (xs : List Nd) : (ndCells xs).length = xs.length * 4 := by
  induction xs with
  | nil => rfl
  | cons x xs ih => rw [ndCells, List.flatMap_cons, List.length_append, ← ndCells, ih]; simp [Nd.cs]; omega
theorem ndCells_at {xs : List Nd} {j k : Nat} (hj : j < xs.length) (hk : k < 4) : (ndCells xs)[j * 4 + k]? = (xs.getD j default).cs[k]? := by
  induction xs generalizing j with
  | nil => simp at hj
  | cons x xs ih =>
    rw [ndCells, List.flatMap_cons, ← ndCells]
    match j with
    | 0 => rw [List.getElem?_append_left (by simp [Nd.cs]; omega), Nat.zero_mul, Nat.zero_add]; rfl
    | j + 1 =>
      rw [List.getElem?_append_right (by simp [Nd.cs]; omega)]
      have := ih (j := j) (by simp at hj; omega)
      rw [show (j + 1) * 4 + k - x.cs.length = j * 4 + k by simp [Nd.cs]; omega, this]
      rfl
theorem Ns.of_own {w : World} {base : Nat} {e : TypeId} {v : Value} {n : Nat} {xs : List Nd} (h : w.ownsRow base e 4 v n (ndCells xs)) : Ns w v xs := by
  have hl : xs.length = n := by have := h.1; rw [ndCells_len] at this; omega
  rcases h.2 with ⟨rfl, h0⟩ | ⟨g, cap, cur, rfl, hb, hg, hn, hm, hc, ht⟩
  · have : xs = [] := List.length_eq_zero_iff.1 (by omega)
    subst this
    exact ⟨none, 0, rfl, Nat.le_refl _, by decide, .inl rfl⟩
  · subst hl
    refine ⟨_, cap, rfl, hn, hm, .inr ⟨g, 0, rfl, (Array.getElem?_eq_some_iff.1 hg).1, fun j hj => ?_⟩⟩
    have c := fun k (hk : k < 4) => (h.cellAt (j * 4 + k) (by omega)).trans (ndCells_at hj hk)
    refine ⟨?_, ?_, ?_, ?_⟩
    · rw [Nat.zero_add]; exact c 0 (by decide)
    · rw [Nat.zero_add]; exact c 1 (by decide)
    · rw [Nat.zero_add]; exact c 2 (by decide)
    · rw [Nat.zero_add]; exact c 3 (by decide)
theorem Ns.below {w w' : World} {v : Value} {xs : List Nd} {B : Nat} (h : Ns w v xs) (hb : Below B w w') (hB : w.heap.size ≤ B) : Ns w' v xs := by
  obtain ⟨a, cap, rfl, h1, h2, h3⟩ := h
  refine ⟨a, cap, rfl, h1, h2, ?_⟩
  rcases h3 with h3 | ⟨b, o, rfl, hlt, hc⟩
  · exact .inl h3
  · refine .inr ⟨b, o, rfl, Nat.lt_of_lt_of_le hlt hb.size, fun j hj => ?_⟩
    rw [hb.cell (p := ⟨b, o + j * 4, none⟩) (by show b < B; omega), hb.cell (p := ⟨b, o + j * 4 + 1, none⟩) (by show b < B; omega), hb.cell (p := ⟨b, o + j * 4 + 2, none⟩) (by show b < B; omega), hb.cell (p := ⟨b, o + j * 4 + 3, none⟩) (by show b < B; omega)]
    exact hc j hj
theorem Ns.parts {w : World} {v : Value} {xs : List Nd} (h : Ns w v xs) : ∃ a cap, v = .slice a xs.length cap ∧ xs.length ≤ cap ∧ cap ≤ maxLen ∧ ∀ j, j < xs.length → ∃ b o, a = some ⟨b, o, none⟩ ∧ b < w.heap.size ∧
    w.cell? ⟨b, o + j * 4, none⟩ = some (.int .i64 (xs.getD j default).op) ∧ w.cell? ⟨b, o + j * 4 + 1, none⟩ = some (.int .i64 (xs.getD j default).n) ∧
    w.cell? ⟨b, o + j * 4 + 2, none⟩ = some (.int .i64 (xs.getD j default).a) ∧ w.cell? ⟨b, o + j * 4 + 3, none⟩ = some (.int .i64 (xs.getD j default).b) := by
  obtain ⟨a, cap, rfl, h1, h2, h3⟩ := h
  refine ⟨a, cap, rfl, h1, h2, fun j hj => ?_⟩
  rcases h3 with h3 | ⟨b, o, rfl, hlt, hc⟩
  · subst h3; simp at hj
  · exact ⟨b, o, rfl, hlt, hc j hj⟩

theorem ndCells_app (xs ys : List Nd) : ndCells (xs ++ ys) = ndCells xs ++ ndCells ys := by simp [ndCells]
end Go.Proofs.YtodjohdbngbpaaaGreat

/-
  Contracts of the laws' helpers over []bool: eqBoolS, markBoolS, heldBoolS; rows of nodes with an interval (No). Conditions: bounds on the lengths, which the laws check.
-/
namespace Go.Proofs.YtodjohdbngbpaaaGreat
open Go.RowKit Go.WideShapes
open Go Go.Deep

end Go.Proofs.YtodjohdbngbpaaaGreat

/-
  markNodeS with what it leaves alone. No condition but the length.
-/
namespace Go.Proofs.YtodjohdbngbpaaaGreat
open Go.RowKit
open Go Go.Deep

end Go.Proofs.YtodjohdbngbpaaaGreat
