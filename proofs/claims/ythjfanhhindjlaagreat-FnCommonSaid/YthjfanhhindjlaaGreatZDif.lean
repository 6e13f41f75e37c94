/-
  Several texts in one: Dif. Conditions: as each theorem says.
-/
import Derived.Test.YthjfanhhindjlaaGreatZBis
/-
  The formula that tells two worlds of different classes apart, in mathematics: it is true in the one and false in the other. No program but its types' numbers.
-/
namespace Go.Proofs.YthjfanhhindjlaaGreat
open Go.RowKit Go.WideShapes
open Go Go.Deep
set_option linter.unusedSimpArgs false

/-- the first fact in which two sets of facts differ -/
def firstBit (a b : Int) : Option Nat := (List.range 4).find? fun k => bitI a k != bitI b k
/-- the worlds of a block in their order -/
def blkD (m : Md) (k w : Nat) : List Nat := lst (fun v => (m.blocks.getD k []).getD v 0 == (m.blocks.getD k []).getD w 0) m.facts.length
theorem mem_blkD {m : Md} {k w v : Nat} : v ∈ blkD m k w ↔ v < m.facts.length ∧ sameW m k v w = true := by unfold blkD; exact mem_lst
/-- the classes of two worlds at a step -/
def sameAt (m : Md) (j v w : Nat) : Bool := (clsAt m j).getD v 0 == (clsAt m j).getD w 0
theorem sameAt_down {m : Md} {v w : Nat} (hv : v < m.facts.length) (hw : w < m.facts.length) : ∀ {i j : Nat}, i ≤ j → sameAt m j v w = true → sameAt m i v w = true := by
  intro i j hij
  obtain ⟨d, rfl⟩ : ∃ d, j = i + d := ⟨j - i, by omega⟩
  clear hij
  induction d with
  | zero => exact id
  | succ d ih =>
    intro h
    apply ih
    unfold sameAt at h ⊢
    rw [beq_iff_eq] at h ⊢
    exact finer_fine hv hw h
theorem sameAt_0 {m : Md} {v w : Nat} (hv : v < m.facts.length) (hw : w < m.facts.length) : sameAt m 0 v w = true ↔ m.facts.getD v 0 = m.facts.getD w 0 := by
  unfold sameAt; rw [beq_iff_eq]; exact (num_same m.facts hv hw).symm
/-- the last step at which two worlds are in one class -/
def stepGo (m : Md) (v w : Nat) : Nat → Nat → Nat
  | 0, j => j
  | f + 1, j => if decide (j < stab m) && sameAt m (j + 1) v w then stepGo m v w f (j + 1) else j
def stepOf (m : Md) (v w : Nat) : Nat := stepGo m v w (stab m) 0
theorem stepGo_at {m : Md} {v w : Nat} (hl : sameAt m (stab m) v w = false) : ∀ f j, stab m ≤ f + j → j ≤ stab m → sameAt m j v w = true → sameAt m (stepGo m v w f j) v w = true ∧ stepGo m v w f j < stab m ∧ sameAt m (stepGo m v w f j + 1) v w = false
  | 0, j, h1, h2, h3 => by
    have : j = stab m := by omega
    subst this
    rw [h3] at hl; cases hl
  | f + 1, j, h1, h2, h3 => by
    unfold stepGo
    cases h4 : decide (j < stab m) && sameAt m (j + 1) v w with
    | true =>
      rw [Bool.and_eq_true, decide_eq_true_eq] at h4
      rw [if_pos rfl]
      exact stepGo_at hl f (j + 1) (by omega) (by omega) h4.2
    | false =>
      rw [if_neg (by decide)]
      have hj : j < stab m := by
        rcases Nat.lt_or_ge j (stab m) with h | h
        · exact h
        · have : j = stab m := by omega
          subst this
          rw [h3] at hl; cases hl
      rw [decide_eq_true hj, Bool.true_and] at h4
      exact ⟨h3, hj, h4⟩
theorem stepOf_at {m : Md} {v w : Nat} (hl : sameAt m (stab m) v w = false) (h0 : sameAt m 0 v w = true) : sameAt m (stepOf m v w) v w = true ∧ stepOf m v w < stab m ∧ sameAt m (stepOf m v w + 1) v w = false :=
  stepGo_at hl _ _ (by omega) (Nat.zero_le _) h0
/-- the first world of a block whose class is missing from another block -/
def missing (m : Md) (c : List Int) (k v w : Nat) : Option Nat := (blkD m k v).find? fun x => !setB m c k w (c.getD x 0).toNat
def pickA (m : Md) (c : List Int) (v w : Nat) : Option (Nat × Bool × Nat) := (List.range m.blocks.length).findSome? fun k => match missing m c k v w with
  | some x => some (k, true, x)
  | none => match missing m c k w v with
    | some x => some (k, false, x)
    | none => none
/-- a conjunction -/
def conjT : List Tm → Tm
  | [] => .leaf 2 0
  | [a] => a
  | a :: b :: r => .joint 4 a (conjT (b :: r))
/-- the formula of a difference -/
def diffT (m : Md) : Nat → Nat → Nat → Tm
  | 0, _, _ => .leaf 2 0
  | f + 1, v, w => match firstBit (m.facts.getD v 0) (m.facts.getD w 0) with
    | some k => if bitI (m.facts.getD v 0) k == 1 then .leaf 1 (k : Int) else .deny (.leaf 1 (k : Int))
    | none => match pickA m (clsAt m (stepOf m v w)) v w with
      | some (k, true, x) => .deny (.know 5 (k : Int) (.deny (conjT ((blkD m k w).map (diffT m f x)))))
      | some (k, false, x) => .know 5 (k : Int) (.deny (conjT ((blkD m k v).map (diffT m f x))))
      | none => .leaf 2 0

theorem bitI_01 (a : Int) (k : Nat) : bitI a k = 0 ∨ bitI a k = 1 := by unfold bitI; omega
theorem firstBit_none {a b : Int} (ha : 0 ≤ a ∧ a < 16) (hb : 0 ≤ b ∧ b < 16) (h : firstBit a b = none) : a = b := by
  have hno := List.find?_eq_none.1 h
  have h0 := hno 0 (by decide); have h1 := hno 1 (by decide); have h2 := hno 2 (by decide); have h3 := hno 3 (by decide)
  unfold bitI at h0 h1 h2 h3
  simp at h0 h1 h2 h3
  omega
theorem firstBit_same (a : Int) : firstBit a a = none := by
  unfold firstBit; rw [List.find?_eq_none]; intro k _; simp
theorem conj_ev {m : Md} {u : Nat} (hu : u < m.facts.length) : ∀ (l : List Tm), evI (conjT l) m u = l.all fun t => evI t m u
  | [] => by
    show evI (.leaf 2 0) m u = true
    unfold evI
    rw [cut_at hu]; rfl
  | [a] => by simp [conjT]
  | a :: b :: r => by
    have h : evI (.joint 4 a (conjT (b :: r))) m u = (evI a m u && evI (conjT (b :: r)) m u) := by
      show cut m.facts.length (fun w => evI a m w && evI (conjT (b :: r)) m w) u = _
      rw [cut_at hu]
    show evI (.joint 4 a (conjT (b :: r))) m u = _
    rw [h, conj_ev hu (b :: r)]; rfl
theorem leaf_ev {m : Md} {u k : Nat} (hu : u < m.facts.length) : evI (.leaf 1 (k : Int)) m u = (bitI (m.facts.getD u 0) k == 1) := by
  unfold evI; rw [cut_at hu, if_pos rfl, Int.toNat_natCast]
theorem deny_ev {m : Md} {t : Tm} {u : Nat} (hu : u < m.facts.length) : evI (.deny t) m u = !evI t m u := by
  show cut m.facts.length _ u = _
  rw [cut_at hu]
theorem know_ev {m : Md} (hn : m.facts.length ≤ 16) {t : Tm} {k u : Nat} (hu : u < m.facts.length) : evI (.know 5 (k : Int) t) m u = true ↔ ∀ y ∈ blkD m k u, evI t m y = true := by
  rw [show evI (.know 5 (k : Int) t) m = cut m.facts.length (fun w => subB (blkB m.blocks m.facts.length k w) (evI t m)) from rfl, cut_at hu]
  have hb : ∀ y, blkB m.blocks m.facts.length k u y = true ↔ y ∈ blkD m k u := fun y => by
    rw [mem_blkD]
    unfold blkB cut sameW
    rw [Bool.and_eq_true, decide_eq_true_eq, beq_iff_eq, beq_iff_eq]
    exact ⟨fun h => ⟨h.1, h.2.symm⟩, fun h => ⟨h.1, h.2.symm⟩⟩
  unfold subB
  rw [List.all_eq_true]
  constructor
  · intro h y hy
    have hyn := (mem_blkD.1 hy).1
    have := h y (List.mem_range.2 (by omega))
    rw [(hb y).2 hy] at this
    simpa using this
  · intro h y _
    cases hq : blkB m.blocks m.facts.length k u y with
    | false => rfl
    | true => rw [h y ((hb y).1 hq)]; rfl
theorem setB_iff {m : Md} {c : List Int} {k w x : Nat} : setB m c k w x = true ↔ ∃ v ∈ blkD m k w, c.getD v 0 = (x : Int) := by
  unfold setB
  rw [List.any_eq_true]
  constructor
  · rintro ⟨v, hv, h⟩
    rw [Bool.and_eq_true, beq_iff_eq (a := c.getD v 0)] at h
    exact ⟨v, mem_blkD.2 ⟨List.mem_range.1 hv, h.1⟩, h.2⟩
  · rintro ⟨v, hv, h⟩
    obtain ⟨h1, h2⟩ := mem_blkD.1 hv
    exact ⟨v, List.mem_range.2 h1, by rw [Bool.and_eq_true, beq_iff_eq (a := c.getD v 0)]; exact ⟨h2, h⟩⟩
theorem missing_some {m : Md} {c : List Int} (hc : ∀ v, v < m.facts.length → 0 ≤ c.getD v 0) {k v w x : Nat} (h : missing m c k v w = some x) : x ∈ blkD m k v ∧ ∀ y ∈ blkD m k w, c.getD x 0 ≠ c.getD y 0 := by
  have h1 := List.mem_of_find?_eq_some h
  have h2 := List.find?_some (p := fun x => !setB m c k w (c.getD x 0).toNat) h
  refine ⟨h1, fun y hy e => ?_⟩
  have h3 : setB m c k w (c.getD x 0).toNat = true := setB_iff.2 ⟨y, hy, by rw [← e, Int.toNat_of_nonneg (hc x (mem_blkD.1 h1).1)]⟩
  rw [h3] at h2
  cases h2
theorem missing_none {m : Md} {c : List Int} {k v w x : Nat} (h : missing m c k v w = none) (hs : setB m c k v x = true) : setB m c k w x = true := by
  obtain ⟨y, hy, e⟩ := setB_iff.1 hs
  have := List.find?_eq_none.1 h y hy
  rw [e, Int.toNat_natCast] at this
  simpa using this
/-- what tells the two worlds apart at the next step -/
theorem pickA_some {m : Md} {c : List Int} (hc : ∀ v, v < m.facts.length → 0 ≤ c.getD v 0) {v w : Nat} (he : c.getD v 0 = c.getD w 0) (ht : tog m c v w = false) :
    ∃ k s x, pickA m c v w = some (k, s, x) ∧ k < m.blocks.length ∧ (s = true → x ∈ blkD m k v ∧ ∀ y ∈ blkD m k w, c.getD x 0 ≠ c.getD y 0) ∧ (s = false → x ∈ blkD m k w ∧ ∀ y ∈ blkD m k v, c.getD x 0 ≠ c.getD y 0) := by
  cases hp : pickA m c v w with
  | none =>
    exfalso
    have hno := List.findSome?_eq_none_iff.1 hp
    have : tog m c v w = true := tog_iff.2 ⟨he, fun k hk x _ => by
      have h1 := hno k (List.mem_range.2 hk)
      cases h2 : missing m c k v w with
      | some y => rw [h2] at h1; cases h1
      | none =>
        rw [h2] at h1
        cases h3 : missing m c k w v with
        | some y => rw [h3] at h1; cases h1
        | none =>
          rw [Bool.eq_iff_iff]
          exact ⟨missing_none h2, missing_none h3⟩⟩
    rw [this] at ht; cases ht
  | some r =>
    obtain ⟨k, hk, h1⟩ := List.exists_of_findSome?_eq_some hp
    cases h2 : missing m c k v w with
    | some y =>
      rw [h2] at h1
      simp only [Option.some.injEq] at h1
      subst h1
      exact ⟨k, true, y, rfl, List.mem_range.1 hk, fun _ => missing_some hc h2, (fun h => by cases h)⟩
    | none =>
      rw [h2] at h1
      cases h3 : missing m c k w v with
      | none => rw [h3] at h1; cases h1
      | some y =>
        rw [h3] at h1
        simp only [Option.some.injEq] at h1
        subst h1
        exact ⟨k, false, y, rfl, List.mem_range.1 hk, (fun h => by cases h), fun _ => missing_some hc h3⟩
/-- the formula of a difference is true in the one world and false in the other -/
theorem diff_tells {m : Md} (hn : m.facts.length ≤ 16) (hf : ∀ v, v < m.facts.length → 0 ≤ m.facts.getD v 0 ∧ m.facts.getD v 0 < 16) : ∀ (f v w : Nat), v < m.facts.length → w < m.facts.length → sameAt m (stab m) v w = false →
    (sameAt m 0 v w = true → stepOf m v w + 1 < f) → 0 < f → evI (diffT m f v w) m v = true ∧ evI (diffT m f v w) m w = false
  | 0, _, _, _, _, _, _, h => absurd h (by decide)
  | f + 1, v, w, hv, hw, hl, hs, _ => by
    unfold diffT
    cases hb : firstBit (m.facts.getD v 0) (m.facts.getD w 0) with
    | some k =>
      have h1 := List.find?_some (p := fun k => bitI (m.facts.getD v 0) k != bitI (m.facts.getD w 0) k) hb
      simp only
      have h2 : bitI (m.facts.getD v 0) k ≠ bitI (m.facts.getD w 0) k := by simpa using h1
      rcases bitI_01 (m.facts.getD v 0) k with h3 | h3 <;> rcases bitI_01 (m.facts.getD w 0) k with h4 | h4
      · exact absurd (h3.trans h4.symm) h2
      · rw [h3]
        rw [if_neg (by decide), deny_ev hv, deny_ev hw, leaf_ev hv, leaf_ev hw, h3, h4]
        exact ⟨rfl, rfl⟩
      · rw [h3]
        rw [if_pos (by decide), leaf_ev hv, leaf_ev hw, h3, h4]
        exact ⟨rfl, rfl⟩
      · exact absurd (h3.trans h4.symm) h2
    | none =>
      have hfe := firstBit_none (hf v hv) (hf w hw) hb
      have h0 := (sameAt_0 hv hw).2 hfe
      obtain ⟨s1, s2, s3⟩ := stepOf_at hl h0
      have hfu := hs h0
      have hcl : ∀ x, x < m.facts.length → 0 ≤ (clsAt m (stepOf m v w)).getD x 0 := fun x hx => (clsAt_bd hx).1
      have htog : tog m (clsAt m (stepOf m v w)) v w = false := by
        cases h : tog m (clsAt m (stepOf m v w)) v w with
        | false => rfl
        | true =>
          have := (finer_same hv hw).2 h
          unfold sameAt at s3
          rw [show clsAt m (stepOf m v w + 1) = finer m (clsAt m (stepOf m v w)) from rfl, this] at s3
          simp at s3
      have hse : (clsAt m (stepOf m v w)).getD v 0 = (clsAt m (stepOf m v w)).getD w 0 := by unfold sameAt at s1; exact beq_iff_eq.1 s1
      obtain ⟨k, s, x, hp, hk, hA, hB⟩ := pickA_some hcl hse htog
      -- the formulas of x and of the worlds of the other block
      have hrec : ∀ x y, x < m.facts.length → y < m.facts.length → (clsAt m (stepOf m v w)).getD x 0 ≠ (clsAt m (stepOf m v w)).getD y 0 → evI (diffT m f x y) m x = true ∧ evI (diffT m f x y) m y = false := by
        intro x y hx hy hne
        have hxy : sameAt m (stepOf m v w) x y = false := by
          cases h : sameAt m (stepOf m v w) x y with
          | false => rfl
          | true => unfold sameAt at h; exact absurd (beq_iff_eq.1 h) hne
        have hup : ∀ j, stepOf m v w ≤ j → sameAt m j x y = false := fun j hj => by
          cases h : sameAt m j x y with
          | false => rfl
          | true => have := sameAt_down hx hy hj h; rw [hxy] at this; cases this
        refine diff_tells hn hf f x y hx hy (hup _ (by omega)) (fun h0' => ?_) (by omega)
        obtain ⟨t1, t2, t3⟩ := stepOf_at (hup _ (by omega)) h0'
        rcases Nat.lt_or_ge (stepOf m x y) (stepOf m v w) with h | h
        · omega
        · rw [hup _ h] at t1; cases t1
      have hconj : ∀ (x : Nat) (l : List Nat), x < m.facts.length → (∀ y ∈ l, y < m.facts.length ∧ (clsAt m (stepOf m v w)).getD x 0 ≠ (clsAt m (stepOf m v w)).getD y 0) →
          evI (conjT (l.map (diffT m f x))) m x = true ∧ ∀ y ∈ l, evI (conjT (l.map (diffT m f x))) m y = false := by
        intro x l hx hl'
        refine ⟨?_, fun y hy => ?_⟩
        · rw [conj_ev hx, List.all_eq_true]
          intro t ht
          obtain ⟨y, hy, rfl⟩ := List.mem_map.1 ht
          exact (hrec x y hx (hl' y hy).1 (hl' y hy).2).1
        · rw [conj_ev (hl' y hy).1, List.all_eq_false]
          exact ⟨diffT m f x y, List.mem_map.2 ⟨y, hy, rfl⟩, by rw [(hrec x y hx (hl' y hy).1 (hl' y hy).2).2]; decide⟩
      simp only [hp]
      cases s with
      | true =>
        obtain ⟨hx, hy⟩ := hA rfl
        have hxn := (mem_blkD.1 hx).1
        obtain ⟨c1, c2⟩ := hconj x (blkD m k w) hxn (fun y hy' => ⟨(mem_blkD.1 hy').1, hy y hy'⟩)
        simp only
        rw [deny_ev hv, deny_ev hw]
        constructor
        · have : evI (.know 5 (k : Int) (.deny (conjT ((blkD m k w).map (diffT m f x))))) m v = false := by
            rw [Bool.eq_false_iff]
            intro h
            have := (know_ev hn hv).1 h x hx
            rw [deny_ev hxn, c1] at this
            cases this
          rw [this]; rfl
        · have : evI (.know 5 (k : Int) (.deny (conjT ((blkD m k w).map (diffT m f x))))) m w = true := (know_ev hn hw).2 fun y hy' => by rw [deny_ev (mem_blkD.1 hy').1, c2 y hy']; rfl
          rw [this]; rfl
      | false =>
        obtain ⟨hx, hy⟩ := hB rfl
        have hxn := (mem_blkD.1 hx).1
        obtain ⟨c1, c2⟩ := hconj x (blkD m k v) hxn (fun y hy' => ⟨(mem_blkD.1 hy').1, hy y hy'⟩)
        simp only
        constructor
        · exact (know_ev hn hv).2 fun y hy' => by rw [deny_ev (mem_blkD.1 hy').1, c2 y hy']; rfl
        · rw [Bool.eq_false_iff]
          intro h
          have := (know_ev hn hw).1 h x hx
          rw [deny_ev hxn, c1] at this
          cases this
end Go.Proofs.YthjfanhhindjlaaGreat
