/-
  Several texts in one: Kym Kyz Met Bwl Mlw Kfo Fky Tnb Spt Stp Cla. Conditions: as each theorem says.
-/
import Derived.Test.YtodjohdbngbpaabZSet
import Derived.Maps.OwnSet
import Derived.Maps.OwnOps
import Derived.Maps.RangeWalk
import Derived.DeepKeys4
import Derived.Test.YtodjohdbngbpaabZBis
import Derived.Test.YtodjohdbngbpaabFst
import Derived.Test.YtodjohdbngbpaabZRch
import Derived.Test.YtodjohdbngbpaabBsl
import Derived.Maps.AppendAt
/-
  Maps from structs of numbers and bools to sets of worlds, in mathematics: what the map of the classes holds while it is built and while its entries are taken out. No program but the form of its types.
-/
namespace Go.Proofs.Ytodjohdbngbpaab
open Go.RowKit Go.WideShapes
open Go Go.Deep
set_option linter.unusedSimpArgs false

theorem mapM_some {α β : Type} {f : α → Option β} : ∀ (l : List α), (∀ x ∈ l, ∃ y, f x = some y) → ∃ ys, l.mapM f = some ys
  | [], _ => ⟨[], rfl⟩
  | x :: r, h => by
    obtain ⟨y, hy⟩ := h x (by simp)
    obtain ⟨ys, hys⟩ := mapM_some r (fun z hz => h z (by simp [hz]))
    exact ⟨y :: ys, by simp [List.mapM_cons, hy, hys]⟩
section
variable {P : Program}
theorem keyLits_bools {d n : Nat} {t e : TypeId} (ht : P.underlying t = some (.array n e)) (he : P.underlying e = some .bool) (hc : P.cellsOf t = n) (hce : P.cellsOf e = 1) {cs : List Value} (hl : cs.length = n) (hb : ∀ v ∈ cs, ∃ b, v = .bool b) :
    ∃ ls, P.keyLits (d + 2) t cs = some ls := by
  have hm : ∃ ys, ((List.range n).mapM fun i => P.keyLits (d + 1) e ((cs.drop (i * P.cellsOf e)).take (P.cellsOf e))) = some ys := by
    refine mapM_some _ fun i hi => ?_
    have hi' := List.mem_range.1 hi
    rw [hce, Nat.mul_one]
    have : (cs.drop i).take 1 = [cs[i]'(by omega)] := by rw [List.drop_eq_getElem_cons (by omega)]; rfl
    rw [this]
    obtain ⟨b, hb'⟩ := hb _ (List.getElem_mem (l := cs) (n := i) (by omega))
    rw [hb']
    exact ⟨[.bool b], by simp [Program.keyLits, he]⟩
  obtain ⟨ys, hys⟩ := hm
  refine ⟨ys.flatten, ?_⟩
  unfold Program.keyLits
  rw [ht]
  simp only [hl, hc, if_true, hys, Option.map_some]
theorem keyLits_rows {d m n : Nat} {u t e : TypeId} (hu : P.underlying u = some (.array m t)) (ht : P.underlying t = some (.array n e)) (he : P.underlying e = some .bool) (hcu : P.cellsOf u = m * n) (hc : P.cellsOf t = n) (hce : P.cellsOf e = 1)
    {cs : List Value} (hl : cs.length = m * n) (hb : ∀ v ∈ cs, ∃ b, v = .bool b) : ∃ ls, P.keyLits (d + 3) u cs = some ls := by
  have hm : ∃ ys, ((List.range m).mapM fun i => P.keyLits (d + 2) t ((cs.drop (i * P.cellsOf t)).take (P.cellsOf t))) = some ys := by
    refine mapM_some _ fun i hi => ?_
    have hi' := List.mem_range.1 hi
    rw [hc]
    refine keyLits_bools ht he hc hce ?_ fun v hv => hb v (List.mem_of_mem_drop (List.mem_of_mem_take hv))
    rw [List.length_take, List.length_drop, hl]
    have : i * n + n ≤ m * n := by rw [← Nat.succ_mul]; exact Nat.mul_le_mul_right _ hi'
    omega
  obtain ⟨ys, hys⟩ := hm
  refine ⟨ys.flatten, ?_⟩
  unfold Program.keyLits
  rw [hu]
  simp only [hl, hcu, if_true, hys, Option.map_some]
/-- a struct of a number and rows of bools is a key -/
theorem keyOf_key {k i0 u t e : TypeId} {m n : Nat} {f0 f1 : Field} (hk : P.underlying k = some (.struct #[f0, f1])) (h0 : f0.type = i0) (h1 : f1.type = u) (o0 : f0.offset = 0) (o1 : f1.offset = 1) (n0 : (f0.name != "_") = true) (n1 : (f1.name != "_") = true)
    (hi : P.underlying i0 = some (.int .i64)) (hci : P.cellsOf i0 = 1) (hu : P.underlying u = some (.array m t)) (ht : P.underlying t = some (.array n e)) (he : P.underlying e = some .bool) (hck : P.cellsOf k = 1 + m * n) (hcu : P.cellsOf u = m * n) (hc : P.cellsOf t = n) (hce : P.cellsOf e = 1)
    (hT : P.keyType k = true) (hsz : 3 ≤ P.types.size) {x : Int} (hx : (Lit.int .i64 x).wf = true) {cs : List Value} (hl : cs.length = m * n) (hb : ∀ v ∈ cs, ∃ b, v = .bool b) : ∃ kl, keyOf P k (.agg (.int .i64 x :: cs).toArray) = some kl := by
  obtain ⟨d, hd⟩ : ∃ d, P.types.size = d + 3 := ⟨P.types.size - 3, by omega⟩
  obtain ⟨ls, hls⟩ := keyLits_rows (P := P) (d := d) hu ht he hcu hc hce hl hb
  have hform : (Value.agg (.int .i64 x :: cs).toArray).formed P k = true := by simp [Value.formed, hk, hck, hl, Nat.add_comm]
  have hkl : P.keyLits (P.types.size + 1) k (.int .i64 x :: cs) = some ([.int .i64 x] ++ ls) := by
    rw [hd]
    unfold Program.keyLits
    rw [hk]
    have e0 : P.keyLits (d + 3) i0 [.int .i64 x] = some [.int .i64 x] := by simp [Program.keyLits, hi, hx]
    simp only
    rw [if_pos ⟨by simp [hl, hck, Nat.add_comm], by simp [n0, n1]⟩]
    have e1 : List.take (m * n) cs = cs := List.take_of_length_le (by omega)
    simp [h0, h1, o0, o1, hci, hcu, e0, e1, hls]
  refine ⟨.string (keyBytes ([Lit.int .i64 x] ++ ls)), ?_⟩
  unfold keyOf
  simp only [hk, hT, hform, Bool.and_self, if_true, Value.cells]
  rw [hkl]
  rfl
end

/-- an element that is kept as it is -/
def HeldR : Value → Option (DataW Value × List MemPlace) := fun v => some (.held v, [])
/-- the worlds of the class of w among the first n -/
def clsB (nx : Nat → Nat) (n w : Nat) : Nat → Bool := fun v => decide (v < n) && (nx v == nx w)
theorem clsB_iff {nx : Nat → Nat} {n w v : Nat} : clsB nx n w v = true ↔ v < n ∧ nx v = nx w := by unfold clsB; simp
theorem clsB_self {nx : Nat → Nat} {n : Nat} : clsB nx n n = fun v => decide (v < n) && (nx v == nx n) := rfl
theorem clsB_same {nx : Nat → Nat} {n v w : Nat} (h : nx v = nx w) : clsB nx n v = clsB nx n w := by unfold clsB; rw [h]
theorem clsB_upd (nx : Nat → Nat) (n : Nat) : upd (clsB nx n n) n true = clsB nx (n + 1) n := by
  funext v
  unfold upd
  by_cases e : v = n
  · subst e; rw [if_pos rfl]; exact (clsB_iff.2 ⟨by omega, rfl⟩).symm
  · rw [if_neg e, Bool.eq_iff_iff, clsB_iff, clsB_iff]; exact ⟨fun h => ⟨by omega, h.2⟩, fun h => ⟨by omega, h.2⟩⟩
theorem clsB_more {nx : Nat → Nat} {n w : Nat} (h : nx w ≠ nx n) : clsB nx (n + 1) w = clsB nx n w := by
  funext v
  rw [Bool.eq_iff_iff, clsB_iff, clsB_iff]
  constructor
  · rintro ⟨h1, h2⟩
    refine ⟨?_, h2⟩
    rcases Nat.lt_or_eq_of_le (Nat.le_of_lt_succ h1) with h3 | h3
    · exact h3
    · subst h3; exact absurd h2.symm h
  · exact fun h => ⟨by omega, h.2⟩
/-- how keys, their readings and the numbers of the classes hang together, for the worlds below N -/
structure Keyz (P : Program) (K : TypeId) (kv : Nat → Value) (kl : Nat → Lit) (nx : Nat → Nat) (N : Nat) : Prop where
  key : ∀ w, w < N → keyOf P K (kv w) = some (kl w)
  same : ∀ v w, v < N → w < N → (kl v = kl w ↔ nx v = nx w)
  ord : ∀ w, w < N → ∀ i, i < nx w → ∃ v, v < w ∧ nx v = i
theorem Keyz.val {P : Program} {K : TypeId} {kv : Nat → Value} {kl : Nat → Lit} {nx : Nat → Nat} {N : Nat} (z : Keyz P K kv kl nx N) (hK : Maps.Keyed P K) {v w : Nat} (hv : v < N) (hw : w < N) (h : nx v = nx w) : kv v = kv w :=
  hK.inj (z.key v hv) (by rw [(z.same v w hv hw).2 h]; exact z.key w hw)
theorem Keyz.le {P : Program} {K : TypeId} {kv : Nat → Value} {kl : Nat → Lit} {nx : Nat → Nat} {N : Nat} (z : Keyz P K kv kl nx N) {w : Nat} (hw : w < N) : nx w ≤ w := by
  induction w using Nat.strongRecOn with
  | _ w ih =>
    rcases Nat.lt_or_ge w (nx w) with h | h
    · obtain ⟨v, hv, e⟩ := z.ord w hw w h
      have := ih v hv (by omega)
      omega
    · exact h
/-- block b is the map of the classes of the first n worlds whose numbers are at least j -/
structure ClsMap (P : Program) (K : TypeId) (W : World) (b : Nat) (kl : Nat → Lit) (nx : Nat → Nat) (n j c : Nat) (D : DataW Value) : Prop where
  own : W.ownsMap P K HeldR b c D
  has : ∀ x, Maps.has D x = true ↔ ∃ w, w < n ∧ j ≤ nx w ∧ x = kl w
  elt : ∀ w, w < n → j ≤ nx w → ∀ zd, D.atKey (kl w) zd = .held (.agg (bL (clsB nx n w)).toArray)
section
variable {P : Program} {K : TypeId} {W : World} {b n j c : Nat} {kv : Nat → Value} {kl : Nat → Lit} {nx : Nat → Nat} {N : Nat} {D : DataW Value}
theorem ClsMap.made (W : World) (P : Program) (K : TypeId) (kl : Nat → Lit) (nx : Nat → Nat) : ClsMap P K (W.alloc (.map #[] 0)) W.heap.size kl nx 0 0 0 (.map []) :=
  ⟨World.ownsMap_made _ _ _ _, fun x => ⟨fun h => by simp [Maps.has] at h, fun ⟨w, hw, _⟩ => by omega⟩, fun w hw => by omega⟩
theorem ClsMap.kept {W' : World} {row : Option Nat} (h : ClsMap P K W b kl nx n j c D) (hg : W.grownBy W' row) (hne : some b ≠ row) : ClsMap P K W' b kl nx n j c D := ⟨h.own.kept hg hne, h.has, h.elt⟩
theorem ClsMap.at (h : ClsMap P K W b kl nx n j c D) (w' : World) (hown : w'.ownsMap P K HeldR b c D) : ClsMap P K w' b kl nx n j c D := ⟨hown, h.has, h.elt⟩
/-- what is read at the next world's key -/
theorem ClsMap.look (h : ClsMap P K W b kl nx n 0 c D) (z : Keyz P K kv kl nx N) (hn : n < N) : D.atKey (kl n) (.held (.agg (bL (fun _ => false)).toArray)) = .held (.agg (bL (clsB nx n n)).toArray) := by
  by_cases hex : ∃ w, w < n ∧ nx w = nx n
  · obtain ⟨w, hw, e⟩ := hex
    rw [← (z.same w n (by omega) hn).2 e, h.elt w hw (Nat.zero_le _), clsB_same e]
  · have hno : Maps.has D (kl n) = false := by
      rw [Bool.eq_false_iff]
      intro hh
      obtain ⟨w, hw, _, e⟩ := (h.has _).1 hh
      exact hex ⟨w, hw, ((z.same n w hn (by omega)).1 e).symm⟩
    rw [Maps.atKey_of_not_has hno]
    congr 3
    refine bL_congr fun v _ => ?_
    symm
    rw [Bool.eq_false_iff]
    intro hh
    obtain ⟨h1, h2⟩ := clsB_iff.1 hh
    exact hex ⟨v, h1, h2⟩
/-- one world more -/
theorem ClsMap.push (h : ClsMap P K W b kl nx n 0 c D) (z : Keyz P K kv kl nx N) (hn : n < N) (hK : Maps.Keyed P K) {W' : World} {c' : Nat} (hown : W'.ownsMap P K HeldR b c' (D.put (kl n) (.held (.agg (bL (clsB nx (n + 1) n)).toArray)))) :
    ClsMap P K W' b kl nx (n + 1) 0 c' (D.put (kl n) (.held (.agg (bL (clsB nx (n + 1) n)).toArray))) := by
  have hM : Maps.IsMap D := (h.own.tidy hK).isMap
  have hkl : WideAt.IsKeyLit (kl n) := hK.key (z.key n hn)
  refine ⟨hown, fun x => ?_, fun w hw _ zd => ?_⟩
  · by_cases e : x = kl n
    · subst e
      rw [Maps.has_put_same hM hkl]
      exact ⟨fun _ => ⟨n, by omega, Nat.zero_le _, rfl⟩, fun _ => rfl⟩
    · rw [Maps.has_put_other e, h.has]
      constructor
      · rintro ⟨w, hw, h1, h2⟩; exact ⟨w, by omega, h1, h2⟩
      · rintro ⟨w, hw, h1, h2⟩
        refine ⟨w, ?_, h1, h2⟩
        rcases Nat.lt_or_eq_of_le (Nat.le_of_lt_succ hw) with h3 | h3
        · exact h3
        · subst h3; exact absurd h2 e
  · by_cases e : kl w = kl n
    · rw [e, Maps.atKey_put_same hM hkl]
      rw [clsB_same ((z.same w n (by omega) hn).1 e)]
    · have hne : nx w ≠ nx n := fun e2 => e ((z.same w n (by omega) hn).2 e2)
      have hlt : w < n := by
        rcases Nat.lt_or_eq_of_le (Nat.le_of_lt_succ hw) with h3 | h3
        · exact h3
        · subst h3; exact absurd rfl e
      rw [Maps.atKey_put_other e, h.elt w hlt (Nat.zero_le _), clsB_more hne]
/-- the least class taken out -/
theorem ClsMap.drop (h : ClsMap P K W b kl nx n j c D) (z : Keyz P K kv kl nx n) {u : Nat} (hu : u < n) (hj : nx u = j) {W' : World} {c' : Nat} (hown : W'.ownsMap P K HeldR b c' (D.del (kl u))) : ClsMap P K W' b kl nx n (j + 1) c' (D.del (kl u)) := by
  refine ⟨hown, fun x => ?_, fun w hw hwj zd => ?_⟩
  · by_cases e : x = kl u
    · subst e
      rw [Maps.has_del_same]
      refine ⟨fun h => (by cases h), fun ⟨w, hw, h1, h2⟩ => ?_⟩
      have := (z.same u w hu hw).1 h2
      omega
    · rw [Maps.has_del_other e, h.has]
      constructor
      · rintro ⟨w, hw, h1, h2⟩
        refine ⟨w, hw, ?_, h2⟩
        rcases Nat.lt_or_eq_of_le h1 with h3 | h3
        · exact h3
        · exact absurd (h2.trans ((z.same w u hw hu).2 (by omega))) e
      · rintro ⟨w, hw, h1, h2⟩; exact ⟨w, hw, by omega, h2⟩
  · have hne : kl w ≠ kl u := fun e => by have := (z.same w u hw hu).1 e; omega
    rw [Maps.atKey_del_other hne]
    exact h.elt w hw (by omega) zd
/-- the map is empty if no class is left -/
theorem ClsMap.size (h : ClsMap P K W b kl nx n j c D) (hK : Maps.Keyed P K) : Maps.size D = 0 ↔ ∀ w, w < n → nx w < j := by
  obtain ⟨es, rfl, _, hks⟩ := h.own.entries hK
  rw [Maps.size_eq]
  constructor
  · intro h0 w hw
    rcases Nat.lt_or_ge (nx w) j with h1 | h1
    · exact h1
    · have := (h.has (kl w)).2 ⟨w, hw, h1, rfl⟩
      rw [List.length_eq_zero_iff.1 h0] at this
      simp [Maps.has] at this
  · intro hno
    rcases es with _ | ⟨p, r⟩
    · rfl
    · have : Maps.has (DataW.map (p :: r)) p.1 = true := by rw [Maps.has_eq]; simp [WideAt.sameKey_self (hks p (by simp))]
      obtain ⟨w, hw, h1, _⟩ := (h.has _).1 this
      have := hno w hw
      omega
/-- the least world that is left bears the least number -/
theorem Keyz.least (z : Keyz P K kv kl nx n) {u : Nat} (hu : u < n) (hj : j ≤ nx u) (hmin : ∀ w, w < n → j ≤ nx w → u ≤ w) : nx u = j := by
  rcases Nat.lt_or_eq_of_le hj with h | h
  · obtain ⟨v, hv, e⟩ := z.ord u hu j h
    have := hmin v (by omega) (by omega)
    omega
  · exact h.symm
end
/-- a row of numbers by a function -/
def rowF (f : Nat → Int) : List Int := (List.range 16).map f
theorem rowF_len (f : Nat → Int) : (rowF f).length = 16 := by simp [rowF]
theorem rowF_get (f : Nat → Int) {i : Nat} (h : i < 16) : (rowF f).getD i 0 = f i := by
  unfold rowF; rw [List.getD_eq_getElem?_getD, List.getElem?_map, List.getElem?_range h]; rfl
def updI (f : Nat → Int) (i : Nat) (y : Int) : Nat → Int := fun j => if j = i then y else f j
theorem rowF_congr {f g : Nat → Int} (h : ∀ i, i < 16 → f i = g i) : rowF f = rowF g := List.map_congr_left fun i hi => h i (List.mem_range.1 hi)
theorem rowF_set (f : Nat → Int) (i : Nat) (y : Int) : (rowF f).set i y = rowF (updI f i y) := by
  apply List.ext_getElem?
  intro k
  unfold rowF
  rw [List.getElem?_set]
  rcases Nat.lt_or_ge k 16 with h | h
  · rw [List.getElem?_map, List.getElem?_map, List.getElem?_range h]
    by_cases e : i = k
    · subst e; simp [h, updI]
    · simp [e, updI, Ne.symm e]
  · simp [h]
    intro; omega
theorem rowF_pad (l : List Int) (hl : l.length ≤ 16) : pad l = rowF (fun i => l.getD i 0) := by
  apply List.ext_getElem?
  intro k
  rcases Nat.lt_or_ge k 16 with h | h
  · unfold rowF
    rw [pad_get h hl, List.getElem?_map, List.getElem?_range h]; rfl
  · rw [List.getElem?_eq_none (by rw [pad_len hl]; exact h), List.getElem?_eq_none (by rw [rowF_len]; exact h)]
end Go.Proofs.Ytodjohdbngbpaab

/-
  The keys of the classes of one step of the refinement, in mathematics: worlds with one key stay together; the numbers of the next classes. No program but its types' form.
-/
namespace Go.Proofs.Ytodjohdbngbpaab
open Go.RowKit Go.WideShapes
open Go Go.Deep
set_option linter.unusedSimpArgs false

/-- the classes that the block of w meets -/
def metB (m : Md) (c : List Int) (k w : Nat) : Nat → Bool := fun x => decide (k < m.blocks.length) && setB m c k w x
/-- the cells of a key -/
def keyV (m : Md) (c : List Int) (w : Nat) : List Value := .int .i64 (c.getD w 0) :: (bL (metB m c 0 w) ++ (bL (metB m c 1 w) ++ bL (metB m c 2 w)))
theorem keyV_bools (m : Md) (c : List Int) (w : Nat) : ∀ v ∈ bL (metB m c 0 w) ++ (bL (metB m c 1 w) ++ bL (metB m c 2 w)), ∃ b, v = Value.bool b := by
  have h : ∀ (p : Nat → Bool) v, v ∈ bL p → ∃ b, v = Value.bool b := fun p v hv => by
    unfold bL at hv
    obtain ⟨i, _, rfl⟩ := List.mem_map.1 hv
    exact ⟨_, rfl⟩
  intro v hv
  rcases List.mem_append.1 hv with h1 | h1
  · exact h _ _ h1
  · rcases List.mem_append.1 h1 with h2 | h2
    · exact h _ _ h2
    · exact h _ _ h2
/-- classes that are numbers of worlds -/
def inRow (m : Md) (c : List Int) : Prop := c.length = m.facts.length ∧ ∀ v, v < m.facts.length → 0 ≤ c.getD v 0 ∧ c.getD v 0 < m.facts.length
theorem setB_out {m : Md} {c : List Int} (hc : inRow m c) {k w x : Nat} (hx : m.facts.length ≤ x) : setB m c k w x = false := by
  rw [Bool.eq_false_iff]
  intro h
  obtain ⟨v, hv, _, e⟩ := setB_in.1 h
  have := (hc.2 v hv).2
  omega
theorem keyV_same {m : Md} {c : List Int} (hc : inRow m c) (hn : m.facts.length ≤ 16) (hA : m.blocks.length ≤ 3) {v w : Nat} : keyV m c v = keyV m c w ↔ tog m c v w = true := by
  rw [tog_iff]
  constructor
  · intro h
    unfold keyV at h
    injection h with h0 h1
    obtain ⟨h2, h3⟩ := List.append_inj h1 (by rw [bL_len, bL_len])
    obtain ⟨h4, h5⟩ := List.append_inj h3 (by rw [bL_len, bL_len])
    refine ⟨by injection h0, fun k hk x hx => ?_⟩
    have g : ∀ k', k' = k → bL (metB m c k' v) = bL (metB m c k' w) → setB m c k v x = setB m c k w x := fun k' e hb => by
      subst e
      have := bL_inj hb x (by omega)
      unfold metB at this
      simpa [hk] using this
    have hk3 : k = 0 ∨ k = 1 ∨ k = 2 := by omega
    rcases hk3 with e | e | e
    · exact g 0 e.symm h2
    · exact g 1 e.symm h4
    · exact g 2 e.symm h5
  · rintro ⟨h0, h1⟩
    have g : ∀ k, bL (metB m c k v) = bL (metB m c k w) := fun k => bL_congr fun x _ => by
      unfold metB
      by_cases hk : k < m.blocks.length
      · rcases Nat.lt_or_ge x m.facts.length with hx | hx
        · rw [h1 k hk x hx]
        · rw [setB_out hc hx, setB_out hc hx]
      · simp [hk]
    unfold keyV
    rw [h0, g 0, g 1, g 2]
theorem clsAt_row {m : Md} (j : Nat) : inRow m (clsAt m j) := ⟨clsAt_len m j, fun _ h => clsAt_bd h⟩
theorem finer_bd {m : Md} {c : List Int} {w : Nat} (hw : w < m.facts.length) : 0 ≤ (finer m c).getD w 0 ∧ (finer m c).getD w 0 < m.facts.length := by
  have hm : (finer m c).getD w 0 ∈ finer m c := by rw [List.getD_eq_getElem?_getD, List.getElem?_eq_getElem (by rw [finer_len]; exact hw)]; exact List.getElem_mem _
  have := ord_bd (finer_ord m c) hm
  rwa [finer_len] at this
theorem finer_row {m : Md} {c : List Int} : inRow m (finer m c) := ⟨finer_len m c, fun _ h => finer_bd h⟩
/-- the number of a world's next class -/
def nxt (m : Md) (c : List Int) (w : Nat) : Nat := ((finer m c).getD w 0).toNat
theorem nxt_int {m : Md} {c : List Int} {w : Nat} (hw : w < m.facts.length) : ((nxt m c w : Nat) : Int) = (finer m c).getD w 0 := by unfold nxt; exact Int.toNat_of_nonneg (finer_bd hw).1
/-- in a numbering each number has come up before the greater ones -/
theorem ord_before {c : List Int} (hc : ordOk c = true) {w i : Nat} (hw : w < c.length) (h : (i : Int) < c.getD w 0) : ∃ v, v < w ∧ c.getD v 0 = (i : Int) := by
  obtain ⟨a, h1, h2, h3⟩ := first_of hc hw
  have hia : i < a := by omega
  obtain ⟨h4, h5⟩ := first_in hc (a := i) (by omega)
  refine ⟨(firstsC c).getD i 0, ?_, h5⟩
  have hp : (firstsC c).Pairwise (· < ·) := List.Pairwise.sublist List.filter_sublist List.pairwise_lt_range
  rw [List.pairwise_iff_getElem] at hp
  have h6 := hp i a (by omega) h2 hia
  have e1 : (firstsC c).getD i 0 = (firstsC c)[i]'(by omega) := by rw [List.getD_eq_getElem?_getD, List.getElem?_eq_getElem (by omega)]; rfl
  have e2 : (firstsC c).getD a 0 = (firstsC c)[a]'h2 := by rw [List.getD_eq_getElem?_getD, List.getElem?_eq_getElem h2]; rfl
  rw [← e1, ← e2, h3] at h6
  exact Nat.lt_of_lt_of_le h6 (idC_le hw rfl)
theorem keyz_of {P : Program} {K : TypeId} (hK : Maps.Keyed P K) {m : Md} {c : List Int} (hc : inRow m c) (hn : m.facts.length ≤ 16) (hA : m.blocks.length ≤ 3) {kl : Nat → Lit} (hkey : ∀ w, w < m.facts.length → keyOf P K (.agg (keyV m c w).toArray) = some (kl w)) :
    Keyz P K (fun w => .agg (keyV m c w).toArray) kl (nxt m c) m.facts.length := by
  refine ⟨hkey, fun v w hv hw => ?_, fun w hw i hi => ?_⟩
  · have e1 : nxt m c v = nxt m c w ↔ tog m c v w = true := by
      rw [← finer_same hv hw, ← nxt_int hv, ← nxt_int hw]
      exact ⟨fun h => by rw [h], fun h => Int.ofNat.inj h⟩
    rw [e1, ← keyV_same hc hn hA]
    constructor
    · intro h
      have := hK.inj (hkey v hv) (by rw [h]; exact hkey w hw)
      injection this with this
      exact List.toArray_inj this
    · intro h
      have h1 := hkey v hv
      rw [h, hkey w hw] at h1
      exact (Option.some.inj h1).symm
  · obtain ⟨v, hv, e⟩ := ord_before (finer_ord m c) (w := w) (i := i) (by rw [finer_len]; exact hw) (by rw [← nxt_int hw]; omega)
    exact ⟨v, hv, by have := nxt_int (c := c) (w := v) (m := m) (by omega); omega⟩
/-- the numbers that have been given to the classes below j -/
def nrow (nx : Nat → Nat) (n j : Nat) : Nat → Int := fun w => if w < n ∧ nx w < j then ((nx w : Nat) : Int) else 0
theorem nrow_0 (nx : Nat → Nat) (n : Nat) : nrow nx n 0 = fun _ => 0 := by funext w; unfold nrow; simp
theorem nrow_end {m : Md} {c : List Int} {j : Nat} (hn : m.facts.length ≤ 16) (h : ∀ w, w < m.facts.length → nxt m c w < j) : rowF (nrow (nxt m c) m.facts.length j) = pad (finer m c) := by
  rw [rowF_pad _ (by rw [finer_len]; exact hn)]
  refine rowF_congr fun w _ => ?_
  unfold nrow
  by_cases hw : w < m.facts.length
  · rw [if_pos ⟨hw, h w hw⟩, nxt_int hw]
  · rw [if_neg (fun e => hw e.1), List.getD_eq_getElem?_getD, List.getElem?_eq_none (by rw [finer_len]; omega)]; rfl
/-- the worlds of one class get their number, one after the other -/
def nrowAt (nx : Nat → Nat) (n j : Nat) (pre : List Nat) : Nat → Int := fun w => if w ∈ pre then (j : Int) else nrow nx n j w
theorem nrowAt_nil (nx : Nat → Nat) (n j : Nat) : nrowAt nx n j [] = nrow nx n j := by funext w; unfold nrowAt; simp
theorem nrowAt_app (nx : Nat → Nat) (n j : Nat) (pre : List Nat) (x : Nat) : updI (nrowAt nx n j pre) x (j : Int) = nrowAt nx n j (pre ++ [x]) := by
  funext w; unfold updI nrowAt
  by_cases e : w = x
  · subst e; simp
  · simp [e]
theorem nrowAt_end {nx : Nat → Nat} {n j u : Nat} (hn : n ≤ 16) (hu : nx u = j) : nrowAt nx n j (lst (clsB nx n u) 16) = nrow nx n (j + 1) := by
  funext w
  unfold nrowAt nrow
  by_cases hw : w < n
  · by_cases e : nx w = j
    · rw [if_pos (mem_lst.2 ⟨by omega, clsB_iff.2 ⟨hw, by omega⟩⟩), if_pos ⟨hw, by omega⟩, e]
    · rw [if_neg (fun h => e (by have := (clsB_iff.1 (mem_lst.1 h).2).2; omega))]
      by_cases h2 : nx w < j
      · rw [if_pos ⟨hw, h2⟩, if_pos ⟨hw, by omega⟩]
      · rw [if_neg (fun h => h2 h.2), if_neg (fun h => by omega)]
  · rw [if_neg (fun h => hw (clsB_iff.1 (mem_lst.1 h).2).1), if_neg (fun h => hw h.1), if_neg (fun h => hw h.1)]
/-- what has been seen of the map while the least key is looked for -/
structure Seen (kv : Nat → Value) (kl : Nat → Lit) (nx : Nat → Nat) (n j : Nat) (left : Lit → Bool) (least : Nat) (first : Value) : Prop where
  no : least = 16 → ∀ w, w < n → j ≤ nx w → left (kl w) = true
  yes : least ≠ 16 → least < n ∧ j ≤ nx least ∧ first = kv least ∧ ∀ w, w < n → j ≤ nx w → left (kl w) = false → least ≤ w
theorem Seen.start {kv : Nat → Value} {kl : Nat → Lit} {nx : Nat → Nat} {n j : Nat} {left : Lit → Bool} {first : Value} (h : ∀ w, w < n → j ≤ nx w → left (kl w) = true) : Seen kv kl nx n j left 16 first := ⟨fun _ => h, fun h => absurd rfl h⟩
/-- the first world of a class -/
def fstC (nx : Nat → Nat) (n w : Nat) : Nat := (lst (clsB nx n w) 16).headD 0
theorem lst_head {p : Nat → Bool} {k i : Nat} (hi : i < k) (hp : p i = true) : (lst p k).headD 0 < k ∧ p ((lst p k).headD 0) = true ∧ (lst p k).headD 0 ≤ i := by
  have hm : i ∈ lst p k := mem_lst.2 ⟨hi, hp⟩
  have hpw : (lst p k).Pairwise (· < ·) := List.Pairwise.sublist List.filter_sublist List.pairwise_lt_range
  cases hl : lst p k with
  | nil => rw [hl] at hm; cases hm
  | cons a r =>
    have ha : a ∈ lst p k := by rw [hl]; exact List.mem_cons_self ..
    rw [hl] at hm hpw
    refine ⟨(mem_lst.1 ha).1, (mem_lst.1 ha).2, ?_⟩
    rcases List.mem_cons.1 hm with e | e
    · show a ≤ i; omega
    · have := (List.pairwise_cons.1 hpw).1 i e
      show a ≤ i; omega
theorem fstC_at {nx : Nat → Nat} {n w : Nat} (hn : n ≤ 16) (hw : w < n) : fstC nx n w < n ∧ nx (fstC nx n w) = nx w ∧ ∀ v, v < n → nx v = nx w → fstC nx n w ≤ v := by
  obtain ⟨h1, h2, _⟩ := lst_head (p := clsB nx n w) (k := 16) (i := w) (by omega) (clsB_iff.2 ⟨hw, rfl⟩)
  obtain ⟨h3, h4⟩ := clsB_iff.1 h2
  exact ⟨h3, h4, fun v hv e => (lst_head (p := clsB nx n w) (k := 16) (i := v) (by omega) (clsB_iff.2 ⟨hv, e⟩)).2.2⟩
section
variable {P : Program} {K : TypeId} {kv : Nat → Value} {kl : Nat → Lit} {nx : Nat → Nat} {n j least : Nat} {left : Lit → Bool} {first : Value}
theorem Seen.strike (z : Keyz P K kv kl nx n) {w v : Nat} (hw : w < n) (hv : v < n) (h : (left (kl v) && !(kl v).sameKey (kl w)) = false) (hl : left (kl v) = true) : nx v = nx w := by
  rw [hl, Bool.true_and, Bool.not_eq_false'] at h
  exact (z.same v w hv hw).1 (WideAt.sameKey_eq h)
/-- a class with a lesser first world -/
theorem Seen.less (hn : n ≤ 16) (z : Keyz P K kv kl nx n) (hK : Maps.Keyed P K) (s : Seen kv kl nx n j left least first) {w : Nat} (hw : w < n) (hj : j ≤ nx w) (hl : fstC nx n w < least) {key : Value} (hkey : keyOf P K key = some (kl w)) :
    Seen kv kl nx n j (fun x => left x && !x.sameKey (kl w)) (fstC nx n w) key := by
  obtain ⟨h1, h2, h3⟩ := fstC_at (nx := nx) hn hw
  refine ⟨fun e => by omega, fun _ => ⟨h1, by omega, ?_, fun v hv hjv hlv => ?_⟩⟩
  · rw [z.val hK h1 hw h2]; exact hK.inj hkey (z.key w hw)
  · cases hle : left (kl v) with
    | true => exact h3 v hv (Seen.strike z hw hv hlv hle)
    | false =>
      by_cases e : least = 16
      · have := s.no e v hv hjv
        rw [hle] at this; cases this
      · have := (s.yes e).2.2.2 v hv hjv hle
        omega
/-- a class with a greater first world -/
theorem Seen.more (hn : n ≤ 16) (z : Keyz P K kv kl nx n) (s : Seen kv kl nx n j left least first) {w : Nat} (hw : w < n) (hl : least ≤ fstC nx n w) : Seen kv kl nx n j (fun x => left x && !x.sameKey (kl w)) least first := by
  obtain ⟨h1, h2, h3⟩ := fstC_at (nx := nx) hn hw
  have hne : least ≠ 16 := by omega
  obtain ⟨s1, s2, s3, s4⟩ := s.yes hne
  refine ⟨fun e => absurd e hne, fun _ => ⟨s1, s2, s3, fun v hv hjv hlv => ?_⟩⟩
  cases hle : left (kl v) with
  | true => have := h3 v hv (Seen.strike z hw hv hlv hle); omega
  | false => exact s4 v hv hjv hle
/-- at the end it is the key of the class with the least number -/
theorem Seen.finish (z : Keyz P K kv kl nx n) (s : Seen kv kl nx n j left least first) (h0 : ∀ x, left x = false) {w : Nat} (hw : w < n) (hj : j ≤ nx w) : least < n ∧ nx least = j ∧ first = kv least := by
  have hne : least ≠ 16 := fun e => by have := s.no e w hw hj; rw [h0] at this; cases this
  obtain ⟨s1, s2, s3, s4⟩ := s.yes hne
  exact ⟨s1, z.least s1 s2 (fun v hv hjv => s4 v hv hjv (h0 _)), s3⟩
end
end Go.Proofs.Ytodjohdbngbpaab

/-
  grid.metBy: the classes that the block of a world meets. No condition but that the classes are numbers of worlds.
-/
namespace Go.Proofs.Ytodjohdbngbpaab
open Go.RowKit Go.WideShapes Go.Shelf
open Go Go.Deep
set_option linter.unusedSimpArgs false
attribute [local go_sem] Oper.semAt_some

theorem cm_ownG {β : Type} (B : Nat) (t : TypeId) (f : β → List Value) : Own (fun s W => Cm W B t (f s)) := fun s X Y row hs hg hrow =>
  hs.of_block (hg.block B hs.lt (fun e' => by obtain ⟨o, ho, hc⟩ := hrow B e'.symm; rw [show X.heap[B]? = _ from hs] at ho; cases ho; cases hc))
theorem cm_putObj {W : World} {D b : Nat} {T : TypeId} {cs : List Value} {d : Obj} {o : Obj} (h : Cm W b T cs) (hK : W.heap[D]? = some d) (hd : ∀ x y z, d ≠ .cells x y z) : Cm (W.putObj D o) b T cs :=
  h.of_block ((grownBy_putObj' W D o).block b h.lt (fun e => by cases e; rw [show W.heap[D]? = _ from h] at hK; cases hK; exact hd _ _ _ rfl))
/-- the classes that a block meets -/
def metG (rows : List (List Int)) (n k i : Nat) (g : Nat → Int) : Nat → Bool := fun x => (List.range 16).any fun v => blkB rows n k i v && (g v == (x : Int))
/-- the classes of the worlds that have come -/
def metPre (g : Nat → Int) (pre : List (Fin 16)) : Nat → Bool := fun x => pre.any fun v => g v.val == (x : Int)
theorem metPre_nil (g : Nat → Int) : metPre g [] = fun _ => false := by funext x; simp [metPre]
theorem metPre_app (g : Nat → Int) (pre : List (Fin 16)) (v : Fin 16) {y : Nat} (hy : g v.val = (y : Int)) : upd (metPre g pre) y true = metPre g (pre ++ [v]) := by
  funext x
  unfold upd metPre
  rw [List.any_append]
  by_cases e : x = y
  · subst e; simp [hy]
  · have : (g v.val == (x : Int)) = false := by rw [hy]; simp; omega
    simp [e, this]
theorem metPre_end (g : Nat → Int) (p : Nat → Bool) {ys : List (Fin 16)} (h : ys.map Fin.val = lst p 16) (x : Nat) : metPre g ys x = (List.range 16).any fun v => p v && (g v == (x : Int)) := by
  unfold metPre
  have h1 : ys.any (fun v => g v.val == (x : Int)) = (ys.map Fin.val).any (fun v => g v == (x : Int)) := by rw [List.any_map]; rfl
  rw [h1, h, Bool.eq_iff_iff, List.any_eq_true, List.any_eq_true]
  constructor
  · rintro ⟨v, hv, e⟩; obtain ⟨a, b⟩ := mem_lst.1 hv; exact ⟨v, List.mem_range.2 a, by rw [b, e]; rfl⟩
  · rintro ⟨v, hv, e⟩; rw [Bool.and_eq_true] at e; exact ⟨v, mem_lst.2 ⟨List.mem_range.1 hv, e.1⟩, e.2⟩

set_option maxRecDepth 100000 in
set_option maxHeartbeats 16000000 in
theorem metBy_any (n : Nat) (a c : Int) (f : List Int) (rows : List (List Int)) (hs : small f rows) (hn : n ≤ 16) (k i : Nat) (hk : k < 3) (hi : i < 16) (g : Nat → Int) (hg : ∀ v, v < 16 → 0 ≤ g v ∧ g v < 16) (w : World) :
    Calls Try.prog 41 #[.agg (ints (gL n a f rows c)).toArray, .int .i64 k, .int .i64 i, .agg (ints (rowF g)).toArray] w
      fun e w' => e = .returned (.agg (bL (metG rows n k i g)).toArray) ∧ Below w.heap.size w w' := by
  have HL : Hid ((ints (gL n a f rows c)).length = 67) := Lib.hid (by rw [ints_len]; exact gL_len hs)
  have KB := Lib.hid (fun W => block_any n a c f rows hs hn k i hk hi W)
  have HE : Hid (∀ ys : List (Fin 16), ys.map Fin.val = lst (blkB rows n k i) 16 → bL (metG rows n k i g) = bL (metPre g ys)) := Lib.hid (fun ys h => bL_congr fun x _ => (metPre_end g _ h x).symm)
  have HRN := Lib.hid (bL_len (metG rows n k i g))
  have HRO := Lib.hid (fun v (hv : v ∈ bL (metG rows n k i g)) => bL_one hv)
  generalize bL (metG rows n k i g) = R at *
  generalize blkB rows n k i = p at *
  generalize gL n a f rows c = G at *
  have HR := Lib.hid (rowF_len g)
  have HG := Lib.hid (fun v (h : v < 16) => (show (ints (rowF g))[v]? = some (.int .i64 (g v)) by rw [ints_at (by rw [rowF_len]; exact h), rowF_get g h]))
  have HB := Lib.hid hg
  have HRL : Hid ((ints (rowF g)).length = 16) := Lib.hid (by rw [ints_len, rowF_len])
  generalize ints (rowF g) = V at *
  clear hs hg
  refine (callsIn_wide (n := 3)).1 ?_
  refine callsIn_of_wp_marks Try.func41 rfl trivial ?_ rfl
  simp only [Try.ntmps41, List.size_toArray, List.length_cons, List.length_nil, Nat.reduceAdd, Nat.reduceSub, Array.replicate_succ, Array.replicate_zero, List.push_toArray, List.append_toArray, List.nil_append, List.cons_append]
  refine wpIn_wide.2 ?_
  have tk1 : True := trivial
  have tk2 : True := trivial
  have tk3 : True := trivial
  have tk4 : True := trivial
  have tk5 : True := trivial
  go_wp2_with
    (first
      | (have _t := tk1; clear _t tk1; refine wpList_allocM rfl 60 rfl (bL (fun _ => false)) Try.allocSet ?_
         intro w1 hc1 hb1 hs1
         have G1 : Hid (Cm w1 w.heap.size 42 (ints G)) := Lib.hid (Cm.all ((Cm.new rfl).alloc _) hb1)
         have V1 : Hid (Cm w1 (w.heap.size + 1) 39 V) := Lib.hid (Cm.all (Cm.new (by simp)) hb1)
         have R1 : Hid (Cm w1 (w.heap.size + 1 + 1) 60 (bL (fun _ => false))) := Lib.hid (by simpa using hc1)
         have B1 : Hid (Below w.heap.size w w1) := Lib.hid (Below.trans (by go_grown) (hb1.mono (by simp; omega)))
         have lt1 : w.heap.size + 1 + 1 < w1.heap.size := R1.out.lt
         clear hc1 hb1 hs1)
      | (have _t := tk2; clear _t tk2; refine wpList_allocM rfl 60 rfl (bL (fun _ => false)) Try.allocSet ?_
         intro w2 hc1 hb1 hs1
         have M2 := Lib.hid hc1
         have G2 := Lib.hid (G1.out.all hb1)
         have V2 := Lib.hid (V1.out.all hb1)
         have R2 := Lib.hid (R1.out.all hb1)
         have B2 := Lib.hid (B1.out.trans (hb1.mono B1.out.size))
         have lt2 : w1.heap.size < w2.heap.size := M2.out.lt
         clear hc1 hb1 hs1 G1 V1 R1 B1)
      | (have _t := tk3; clear _t tk3; refine wpList_loadM rfl 42 _ rfl w.heap.size 0 rfl 42 (ints G) (ints G) G2.out (fun j _ => by rw [Nat.zero_add]) _ Try.underlying42 rfl (by rw [HL.out]; exact Try.sizeGrid) ?_)
      | (have _t := tk4; clear _t tk4; go_at_call 47; (with_reducible refine (KB.out _).mono ?_); rintro e w3 ⟨rfl, hb3⟩; have M3 := Lib.hid (M2.out.all hb3); have V3 := Lib.hid (V2.out.all hb3); have R3 := Lib.hid (R2.out.all hb3); have B3 := Lib.hid (B2.out.trans (hb3.mono B2.out.size)); have lt3 : w2.heap.size ≤ w3.heap.size := hb3.size; clear hb3 M2 V2 R2 B2 G2)
      | (have _t := tk5; clear _t tk5; go_at_call 48; (with_reducible refine (each_any p _).mono ?_); rintro e w4 ⟨rfl, rfl⟩))
  have X4 := Lib.hid (Cm.new (w := w3) (T := 60) (cs := bL p) rfl)
  have M4 := Lib.hid (M3.out.alloc (.cells (bL p).toArray 60))
  have V4 := Lib.hid (V3.out.alloc (.cells (bL p).toArray 60))
  have R4 := Lib.hid (R3.out.alloc (.cells (bL p).toArray 60))
  have B4 := Lib.hid (B3.out.alloc B3.out.size (.cells (bL p).toArray 60))
  have lt4 : w3.heap.size < (w3.alloc (.cells (bL p).toArray 60)).heap.size := X4.out.lt
  generalize w3.alloc (.cells (bL p).toArray 60) = w4 at *
  clear M3 V3 R3 B3
  rw [← metPre_nil g] at M4
  refine (wpIn_wide (n := 3)).1 ?_
  refine wpIn_rangeFunc_ownF rfl (by omega) (gf := 57) (lb := #[.pointer (some ⟨w3.heap.size, 0, none⟩)]) rfl trivial (enters_of Try.func57 (by kernel_rfl) rfl)
    (each_stops 2 (by omega) w3.heap.size p (fun _ _ => True) w4 X4.out) (fun _ _ => trivial) (fun _ _ _ _ _ _ _ _ => trivial) (Below.refl _ _) (fun _ => rfl)
    (fun pre W => Cm W (w.heap.size + 1) 39 V ∧ Cm W w1.heap.size 60 (bL (metPre g pre)) ∧ Cm W (w.heap.size + 1 + 1) 60 (bL (fun _ => false)) ∧ Below w.heap.size w W)
    (fun _ _ _ => False)
    (OwnFrom.and (Own.from (cm_ownG _ _ (fun _ => V)) _) (OwnFrom.and (Own.from (cm_ownG _ _ (fun pre => bL (metPre g pre))) _) (OwnFrom.and (Own.from (cm_ownG _ _ (fun _ => bL (fun _ => false))) _) (ownFrom_below (Nat.le_refl _) (by omega)))))
    (fun _ _ _ _ _ hs _ _ => hs)
    ⟨V4.out, M4.out, R4.out, B4.out⟩
    (fun x => { tmps := #[.agg (ints G).toArray, .int .i64 k, .int .i64 i, .agg V.toArray, .pointer (some ⟨w.heap.size, 0, none⟩), undef, undef, .pointer (some ⟨w.heap.size + 1, 0, none⟩), .pointer (some ⟨w.heap.size + 1 + 1, 0, none⟩), .pointer (some ⟨w1.heap.size, 0, none⟩), .int .i64 ((x.val : Nat) : Int), .agg (ints G).toArray, .int .i64 k, .int .i64 i, .agg (bL p).toArray, .func (.func 57) #[] #[.pointer (some ⟨w3.heap.size, 0, none⟩)], .int .i64 ((x.val : Nat) : Int), undef, undef, undef, undef, undef], defers := [] }) ?assign ?body ?done ?stop
  case assign =>
    intro l x W K hK
    gi_wp2
    simpa using hK
  case body =>
    rintro l pre x W ⟨hV, hM, hR, hB⟩ hlt
    obtain ⟨g0, g1⟩ := HB.out x.val x.isLt
    obtain ⟨y, hy⟩ := Int.eq_ofNat_of_zero_le g0
    have hy16 : y < 16 := by omega
    have hyi : (y : Int) < 16 := by omega
    have hy0 : (0 : Int) ≤ (y : Int) := Int.natCast_nonneg _
    have hx16 : ((x.val : Nat) : Int) < 16 := by have := x.isLt; omega
    have hx0 : (0 : Int) ≤ ((x.val : Nat) : Int) := Int.natCast_nonneg _
    have cx : W.cell? ⟨w.heap.size + 1, x.val, none⟩ = some (.int .i64 y) := by rw [hV.cell, HG.out x.val x.isLt, hy]
    have ck := set_store _ hy16 hM
    have fk : W.frozen? ⟨w1.heap.size, y, none⟩ = false := hM.frozen y
    have HY := Lib.hid hy
    have HV := Lib.hid hV
    have HM := Lib.hid hM
    have HRr := Lib.hid hR
    have HBw := Lib.hid hB
    clear hV hM hR hB g0 g1 hy
    gi_wp2
    refine ⟨KeepsOthers.setCell _ _ _, trivial, HV.out.other (by omega) _ _, ?_, HRr.out.other (by omega) _ _, HBw.out.setCell (p := ⟨w1.heap.size, y, none⟩) (by show _ ≤ w1.heap.size; omega) _⟩
    have h1 := HM.out.set y (.bool true)
    rw [bL_set, metPre_app g pre x HY.out] at h1
    exact h1
  case done =>
    rintro D ys W hD hys ⟨hV, hM, hR, hB⟩ hK
    rw [← HE.out ys hys] at hM
    have M5 := Lib.hid hM
    have R5 := Lib.hid hR
    have B5 := Lib.hid hB
    have K5 := Lib.hid hK
    have hne : D ≠ w.heap.size + 1 + 1 := fun e => by rw [← e] at hR; rw [show W.heap[D]? = _ from hR] at hK; cases hK
    clear hV hM hR hB hK
    go_wp2_with
      (first
        | (refine wpList_loadM rfl 60 _ rfl w1.heap.size 0 rfl 60 R R M5.out (fun j _ => by rw [Nat.zero_add]) _ Try.underlying60 rfl (by rw [HRN.out]; exact Try.sizeSet) ?_)
        | (refine wpList_storeM rfl 60 (.tmp 8) (.tmp 21) rfl (w.heap.size + 1 + 1) 0 rfl R rfl 60 _ R5.out (by rw [bL_len, HRN.out]; exact Nat.le_refl _) (by rw [HRN.out]; exact Try.sizeSet) HRO.out ?_
           intro w6 hc6 ha6
           rw [lay'_all (by rw [bL_len, HRN.out])] at hc6
           have R6 := Lib.hid hc6
           have B6 : Hid (Below w.heap.size w w6) := Lib.hid (B5.out.trans (ha6.below (by omega)))
           have K6 := Lib.hid ((ha6.block D hne).trans K5.out)
           clear hc6 ha6))
    have hK := K6.out
    refine ⟨by simp, .inl ⟨_, _, rfl, run_takeDeferred hK, ?_⟩⟩
    exact ⟨.agg R.toArray, results_mid1 Try.results41 _ _ (w.heap.size + 1 + 1) R _ rfl (cm_putObj R6.out hK (fun _ _ _ h => by cases h)).whole Try.underlying60 rfl (by rw [HRN.out]; exact Try.sizeSet), rfl, B6.out.trans (belowK_b (w := w4) (by omega) _ D _ _ hD hK rfl rfl)⟩
  case stop =>
    rintro D c pre W _ _ h _
    exact h.elim
end Go.Proofs.Ytodjohdbngbpaab

/-
  What grows below keeps what is owned. No condition.
-/
namespace Go.Proofs.Ytodjohdbngbpaab
open Go.RowKit Go.WideShapes
open Go Go.Deep

end Go.Proofs.Ytodjohdbngbpaab

/-
  Laws at a map's operations, for elements that are kept as they are: the step of a range, a look-up; and how a function leaves that has ranged over functions several times. No condition.
-/
namespace Go.Proofs.Ytodjohdbngbpaab
open Go.RowKit Go.WideShapes Go.Shelf
open Go Go.Deep
set_option linter.unusedSimpArgs false

section
variable {P : Program} {K : TypeId} (w : World) {ops : Array Oper} {rest : List Oper} {o : Oper} {a : Act} {Q : Exit → Act → World → Prop} {b n j c : Nat} {kv : Nat → Value} {kl : Nat → Lit} {nx : Nat → Nat} {D : DataW Value}
/-- the step of a range over the map of the classes -/
theorem wpList_next_cls (hg : o.guard = none) (it : Operand) (hop : o.op = Op.next it false) (hK : Maps.Keyed P K) (z : Keyz P K kv kl nx n) (r : Nat) (left : Lit → Bool) (cnt : Nat)
    (hit : a.eval it = .pointer (some ⟨r, 0, none⟩)) (h : w.ranges P K HeldR b r c D left cnt) (hm : ClsMap P K w b kl nx n j c D) (hleft : ∀ x, left x = true → Maps.has D x = true)
    (hDone : (∀ x, left x = false) → wpList P ops Q rest (a.put o.dst (.tuple #[.bool false])) w)
    (hMore : ∀ (u : Nat) (w' : World) (cnt' : Nat), u < n → j ≤ nx u → left (kl u) = true → w'.ranges P K HeldR b r c D (fun x => left x && !x.sameKey (kl u)) cnt' → cnt' < cnt → w.grownBy w' (some r) → w'.heap.size = w.heap.size →
      (Instr.entry (.pointer (some ⟨r, 0, none⟩))).run P w' = .ok (.tuple #[kv u, .agg (bL (clsB nx n u)).toArray]) w' → wpList P ops Q rest (a.put o.dst (.tuple #[.bool true, kv u, .agg (bL (clsB nx n u)).toArray])) w') :
    wpList P ops Q (o :: rest) a w := by
  refine wpList_next_ranges (α := Value) (β := Value) w hg it hop K hK HeldR id id (fun key _ _ => ⟨key, rfl⟩) (fun v _ _ => ⟨v, rfl⟩) b r c D left cnt hit h (fun _ h0 => hDone h0) ?_
  intro x v l y w' cnt' hkey hl hv hat hrg hlt hgr hsz hen
  obtain ⟨u, hu, hj, rfl⟩ := (hm.has l).1 (hleft l hl)
  have e1 : x = kv u := hK.inj hkey (z.key u hu)
  have e2 : v = .agg (bL (clsB nx n u)).toArray := by
    have h1 := hm.elt u hu hj (.held v)
    rw [hat] at h1
    have h2 : some (DataW.held v, []) = some y := hv
    have h3 := Option.some.inj h2
    rw [← h3] at h1
    injection h1
  subst e1 e2
  exact hMore u w' cnt' hu hj hl hrg hlt hgr hsz hen
/-- a look-up -/
theorem wpList_lookup_held (hg : o.guard = none) (m x : Operand) (t e : TypeId) (hop : o.op = Op.lookup t m x false) (hK : Maps.Keyed P K) (ht : P.underlying t = some (.map K e)) {zv V : Value} (hz : (zeroValue e).run P w = .ok zv w)
    (hm : a.eval m = .map (some b)) (hown : w.ownsMap P K HeldR b c D) (key : Value) (l : Lit) (hx : a.eval x = key) (hkey : keyOf P K key = some l) (hat : D.atKey l (.held zv) = .held V)
    (h : wpList P ops Q rest (a.put o.dst V) w) : wpList P ops Q (o :: rest) a w := by
  refine wpList_plain hg fun K' hK' => ?_
  obtain ⟨v, ps, hrun, hv⟩ := hown.lookup (zd := .held zv) (zp := []) hK ht hz rfl hkey
  have e : v = V := by
    rw [hat] at hv
    have h2 : some (DataW.held v, ([] : List MemPlace)) = some (.held V, ps) := hv
    have h3 := congrArg Prod.fst (Option.some.inj h2)
    injection h3
  subst e
  unfold Oper.wp
  simp [execOp, hop, hm, hx, hrun, Result.andThen]
  exact hK' _ _ h
end

theorem ClsMap.below {P : Program} {K : TypeId} {W W' : World} {b n j c : Nat} {kl : Nat → Lit} {nx : Nat → Nat} {D : DataW Value} (h : ClsMap P K W b kl nx n j c D) (hb : Below W.heap.size W W') : ClsMap P K W' b kl nx n j c D := h.kept (grown_of_below hb none) (by simp)
theorem ranges_below {P : Program} {K : TypeId} {R : Value → Option (DataW Value × List MemPlace)} {W W' : World} {b r n cnt : Nat} {D : DataW Value} {left : Lit → Bool} (h : W.ranges P K R b r n D left cnt) (hb : Below W.heap.size W W') : W'.ranges P K R b r n D left cnt := h.kept (grown_of_below hb none) (by simp) (by simp)
theorem below_grown {B : Nat} {w W W' : World} {row : Option Nat} (h : Below B w W) (hg : W.grownBy W' row) (hB : B ≤ W.heap.size) (hr : ∀ k, row = some k → B ≤ k) : Below B w W' := h.grown hg hB hr
/-- the marks of the ranges -/
def markD (D : Nat) : Deferred := { target := .collected D, args := #[] }
/-- blocks of deferred calls, all empty, each once -/
def Marks (lo : Nat) (W : World) (Ds : List Nat) : Prop := Ds.Nodup ∧ ∀ D ∈ Ds, lo ≤ D ∧ D < W.heap.size ∧ W.heap[D]? = some (.deferred (some []))
theorem Marks.nil (lo : Nat) (W : World) : Marks lo W [] := ⟨List.nodup_nil, fun _ h => by cases h⟩
theorem Marks.kept {lo : Nat} {W W' : World} {Ds : List Nat} {row : Option Nat} (h : Marks lo W Ds) (hg : W.grownBy W' row) (hr : ∀ r, row = some r → ∃ o, W.heap[r]? = some o ∧ o ≠ .deferred (some [])) : Marks lo W' Ds :=
  ⟨h.1, fun D hD => by
    obtain ⟨h1, h2, h3⟩ := h.2 D hD
    refine ⟨h1, Nat.lt_of_lt_of_le h2 hg.size, (hg.block D h2 (fun e => ?_)).trans h3⟩
    obtain ⟨o, ho, hne⟩ := hr D e.symm
    rw [h3] at ho; cases ho; exact hne rfl⟩
theorem Marks.below {lo : Nat} {W W' : World} {Ds : List Nat} (h : Marks lo W Ds) (hb : Below W.heap.size W W') : Marks lo W' Ds :=
  ⟨h.1, fun D hD => by
    obtain ⟨h1, h2, h3⟩ := h.2 D hD
    exact ⟨h1, Nat.lt_of_lt_of_le h2 hb.size, (hb.block D h2).trans h3⟩⟩
theorem Marks.from {lo B : Nat} {W W' : World} {Ds : List Nat} {row : Option Nat} (h : Marks lo W Ds) (hB : ∀ D ∈ Ds, D < B) (hg : W.grownBy W' row) (hr : ∀ r, row = some r → B ≤ r) : Marks lo W' Ds :=
  ⟨h.1, fun D hD => by
    obtain ⟨h1, h2, h3⟩ := h.2 D hD
    refine ⟨h1, Nat.lt_of_lt_of_le h2 hg.size, (hg.block D h2 (fun e => ?_)).trans h3⟩
    have := hr D e.symm
    have := hB D hD
    omega⟩
theorem Marks.setCell {lo : Nat} {W : World} {Ds : List Nat} (h : Marks lo W Ds) (p : Addr) (u : Value) : Marks lo (W.setCell p u) Ds :=
  ⟨h.1, fun D hD => by
    obtain ⟨h1, h2, h3⟩ := h.2 D hD
    exact ⟨h1, by simpa [World.setCell] using h2, (KeepsOthers.setCell W p u).same D _ h3 rfl⟩⟩
theorem Marks.push {lo : Nat} {W : World} {Ds : List Nat} (h : Marks lo W Ds) {B D : Nat} (hB : ∀ D ∈ Ds, D < B) (hD : B ≤ D) (hlo : lo ≤ B) (hk : W.heap[D]? = some (.deferred (some []))) : Marks lo W (D :: Ds) :=
  ⟨List.nodup_cons.2 ⟨fun hm => by have := hB D hm; omega, h.1⟩, fun E hE => by
    rcases List.mem_cons.1 hE with rfl | hE
    · exact ⟨by omega, (Array.getElem?_eq_some_iff.1 hk).1, hk⟩
    · exact h.2 E hE⟩
/-- a function leaves that has ranged several times: the marks are shut one after the other -/
theorem leaves_marks {F : Fence} {n : Nat} {P : Program} {fn : Func} {tmps : Array Value} {R : Ending → World → Prop} {lo : Nat} {J : World → Prop} (hJ : ∀ W D, J W → lo ≤ D → W.heap[D]? = some (.deferred (some [])) → J (W.putObj D (.deferred none))) :
    ∀ (Ds : List Nat) (W : World), Marks lo W Ds → J W → (∀ W', J W' → LeavesIn F n P fn tmps R [] .returning W') → LeavesInM F n P fn tmps R (Ds.map markD) .returning W
  | [], W, _, h, k => k W h
  | D :: Ds, W, hm, h, k => by
    obtain ⟨h1, h2, h3⟩ := hm.2 D (List.mem_cons_self ..)
    obtain ⟨n1, n2⟩ := List.nodup_cons.1 hm.1
    refine ⟨by simp, .inl ⟨D, _, rfl, run_takeDeferred h3, leaves_marks hJ Ds _ ⟨n2, fun E hE => ?_⟩ (hJ W D h h1 h3) k⟩⟩
    obtain ⟨g1, g2, g3⟩ := hm.2 E (List.mem_cons_of_mem _ hE)
    have hne : E ≠ D := fun e => n1 (e ▸ hE)
    have hg := grownBy_putObj' W D (.deferred none)
    exact ⟨g1, Nat.lt_of_lt_of_le g2 hg.size, (hg.block E g2 (fun e => hne (Option.some.inj e))).trans g3⟩
end Go.Proofs.Ytodjohdbngbpaab

/-
  grid.keyOf: the key of a world at the step after some classes. No condition but that the classes are numbers of worlds.
-/
namespace Go.Proofs.Ytodjohdbngbpaab
open Go.RowKit Go.WideShapes
open Go Go.Deep
set_option linter.unusedSimpArgs false

/-- the cells of a key, the first j agents filled in -/
def kL (x : Int) (M : Nat → Nat → Bool) (j : Nat) : List Value := .int .i64 x :: (bL (fun y => decide (0 < j) && M 0 y) ++ (bL (fun y => decide (1 < j) && M 1 y) ++ bL (fun y => decide (2 < j) && M 2 y)))
theorem kL_len (x : Int) (M : Nat → Nat → Bool) (j : Nat) : (kL x M j).length = 49 := by unfold kL; simp [bL_len]
theorem kL_one {x : Int} {M : Nat → Nat → Bool} {j : Nat} {v : Value} (h : v ∈ kL x M j) : v.oneCell' = true := by
  unfold kL at h
  rcases List.mem_cons.1 h with rfl | h
  · rfl
  · rcases List.mem_append.1 h with h | h
    · exact bL_one h
    · rcases List.mem_append.1 h with h | h <;> exact bL_one h
theorem lay'_mid (pre old post new : List Value) (h : old.length = new.length) : lay' (pre ++ (old ++ post)) pre.length new = pre ++ (new ++ post) := by
  rw [lay'_eq _ _ _ (by simp only [List.length_append]; omega), List.take_left' rfl, ← h]
  have : List.drop (pre.length + old.length) (pre ++ (old ++ post)) = post := by rw [← List.append_assoc]; exact List.drop_left' (by rw [List.length_append])
  rw [this, List.append_assoc]
theorem kL_part (M : Nat → Nat → Bool) {k i j : Nat} (h : k < i ↔ k < j) : bL (fun y => decide (k < i) && M k y) = bL (fun y => decide (k < j) && M k y) := bL_congr fun y _ => by rw [show decide (k < i) = decide (k < j) by simp only [h]]
theorem kL_full (M : Nat → Nat → Bool) {k i : Nat} (h : k < i) : bL (fun y => decide (k < i) && M k y) = bL (M k) := bL_congr fun y _ => by rw [decide_eq_true h, Bool.true_and]
theorem kL_mid (x : Int) (M : Nat → Nat → Bool) {j : Nat} (pre old post : List Value) (h : kL x M j = pre ++ (old ++ post)) (hp : pre.length = 1 + j * 16) (ho : old.length = 16) (h' : kL x M (j + 1) = pre ++ (bL (M j) ++ post)) : lay' (kL x M j) (1 + j * 16) (bL (M j)) = kL x M (j + 1) := by
  rw [h, h', ← hp]
  exact lay'_mid pre old post (bL (M j)) (by rw [ho, bL_len])
theorem kL_lay (x : Int) (M : Nat → Nat → Bool) {j : Nat} (hj : j < 3) : lay' (kL x M j) (1 + j * 16) (bL (M j)) = kL x M (j + 1) := by
  have h : j = 0 ∨ j = 1 ∨ j = 2 := by omega
  rcases h with rfl | rfl | rfl
  · refine kL_mid x M [.int .i64 x] (bL (fun y => decide (0 < 0) && M 0 y)) (bL (fun y => decide (1 < 0) && M 1 y) ++ bL (fun y => decide (2 < 0) && M 2 y)) (by unfold kL; simp only [List.cons_append, List.nil_append]) rfl (bL_len _) ?_
    unfold kL
    rw [kL_full M (k := 0) (i := 0 + 1) (by omega), kL_part M (k := 1) (i := 0) (j := 0 + 1) (by omega), kL_part M (k := 2) (i := 0) (j := 0 + 1) (by omega)]
    simp only [List.cons_append, List.nil_append]
  · refine kL_mid x M (.int .i64 x :: bL (fun y => decide (0 < 1) && M 0 y)) (bL (fun y => decide (1 < 1) && M 1 y)) (bL (fun y => decide (2 < 1) && M 2 y)) (by unfold kL; simp only [List.cons_append]) (by rw [List.length_cons, bL_len]) (bL_len _) ?_
    unfold kL
    rw [kL_full M (k := 1) (i := 1 + 1) (by omega), kL_part M (k := 0) (i := 1) (j := 1 + 1) (by omega), kL_part M (k := 2) (i := 1) (j := 1 + 1) (by omega)]
    simp only [List.cons_append]
  · refine kL_mid x M (.int .i64 x :: (bL (fun y => decide (0 < 2) && M 0 y) ++ bL (fun y => decide (1 < 2) && M 1 y))) (bL (fun y => decide (2 < 2) && M 2 y)) [] (by unfold kL; simp only [List.cons_append, List.append_assoc, List.append_nil]) (by rw [List.length_cons, List.length_append, bL_len, bL_len]) (bL_len _) ?_
    unfold kL
    rw [kL_full M (k := 2) (i := 2 + 1) (by omega), kL_part M (k := 0) (i := 2) (j := 2 + 1) (by omega), kL_part M (k := 1) (i := 2) (j := 2 + 1) (by omega)]
    simp only [List.cons_append, List.append_assoc, List.append_nil]
theorem Try.buildKey (w : World) (x : Int) (M : Nat → Nat → Bool) : (Instr.build 90 #[(0, .int .i64 x)]).run Try.prog w = .ok (.agg (kL x M 0).toArray) w := by kernel_rfl
theorem Try.allocKey (w : World) : (Instr.alloc 90 true (.tuple #[])).run Try.prog w = .ok (.pointer (some ⟨w.heap.size, 0, none⟩)) (w.alloc (.cells (kL 0 (fun _ _ => false) 0).toArray 90)) := by kernel_rfl
theorem Try.sizeKey : (Try.prog.info? 90).map (·.size) = some 49 := by kernel_rfl

/-- .. for each agent -/
def metM (rows : List (List Int)) (n i : Nat) (g : Nat → Int) : Nat → Nat → Bool := fun k => metG rows n k i g
set_option maxRecDepth 100000 in
set_option maxHeartbeats 16000000 in
theorem keyOf_any (n a : Nat) (c : Int) (f : List Int) (rows : List (List Int)) (hs : small f rows) (hn : n ≤ 16) (ha : a ≤ 3) (i : Nat) (hi : i < 16) (g : Nat → Int) (hg : ∀ v, v < 16 → 0 ≤ g v ∧ g v < 16) (w : World) :
    Calls Try.prog 58 #[.agg (ints (gL n a f rows c)).toArray, .int .i64 i, .agg (ints (rowF g)).toArray] w
      fun e w' => e = .returned (.agg (kL (g i) (metM rows n i g) a).toArray) ∧ Below w.heap.size w w' := by
  have HL : Hid ((ints (gL n a f rows c)).length = 67) := Lib.hid (by rw [ints_len]; exact gL_len hs)
  have HC1 := Lib.hid (fun (W : World) b T (h : Cm W b T (ints (gL n a f rows c))) => h.g1)
  have KM := Lib.hid (fun k (hk : k < 3) W => metBy_any n a c f rows hs hn k i hk hi g hg W)
  generalize gL n a f rows c = G at *
  have HGi : Hid ((ints (rowF g))[i]? = some (.int .i64 (g i))) := Lib.hid (by rw [ints_at (by rw [rowF_len]; exact hi), rowF_get g hi])
  have HRL : Hid ((ints (rowF g)).length = 16) := Lib.hid (by rw [ints_len, rowF_len])
  generalize ints (rowF g) = V at *
  have KM : Hid (∀ k : Nat, k < 3 → ∀ W, Calls Try.prog 41 #[.agg (ints G).toArray, .int .i64 k, .int .i64 i, .agg V.toArray] W fun e W' => e = .returned (.agg (bL (metM rows n i g k)).toArray) ∧ Below W.heap.size W W') := KM
  generalize metM rows n i g = M at *
  generalize g i = gi at *
  clear hs hg
  have HZ : ∃ Z : List Value, Hid (Z.length = 49) ∧ Hid (∀ W : World, (Instr.alloc 90 true (.tuple #[])).run Try.prog W = .ok (.pointer (some ⟨W.heap.size, 0, none⟩)) (W.alloc (.cells Z.toArray 90))) := ⟨_, Lib.hid (kL_len 0 (fun _ _ => false) 0), Lib.hid Try.allocKey⟩
  obtain ⟨Z0, HZL, HAK⟩ := HZ
  have HKL := Lib.hid (fun j => kL_len gi M j)
  have HKO := Lib.hid (fun j v (hv : v ∈ kL gi M j) => kL_one hv)
  have HKY := Lib.hid (fun j (h : j < 3) => kL_lay gi M h)
  have HBK := Lib.hid (fun W => Try.buildKey W gi M)
  generalize kL gi M = KJ at *
  have hi0 : (0 : Int) ≤ (i : Int) := Int.natCast_nonneg _
  have hi16 : (i : Int) < 16 := by omega
  go_enter Try.func58, Try.ntmps58
  have tk1 : True := trivial
  have tk2 : True := trivial
  have tk3 : True := trivial
  have tk4 : True := trivial
  go_wp2_with
    (first
      | (have _t := tk1; clear _t tk1; refine wpList_allocM (o := ⟨some 6, _, _, _, _, _⟩) rfl 90 rfl Z0 HAK.out ?_
         intro w1 hc1 hb1 hs1
         have G1 : Hid (Cm w1 w.heap.size 42 (ints G)) := Lib.hid (Cm.all ((Cm.new rfl).alloc _) hb1)
         have V1 : Hid (Cm w1 (w.heap.size + 1) 39 V) := Lib.hid (Cm.all (Cm.new (by simp)) hb1)
         have R1 : Hid (Cm w1 (w.heap.size + 1 + 1) 90 Z0) := Lib.hid (by simpa using hc1)
         have B1 : Hid (Below w.heap.size w w1) := Lib.hid (Below.trans (by go_grown) (hb1.mono (by simp; omega)))
         have lt1 : w.heap.size + 1 + 1 < w1.heap.size := R1.out.lt
         have cv : w1.cell? ⟨w.heap.size + 1, i, none⟩ = some (.int .i64 gi) := by rw [V1.out.cell, HGi.out]
         clear hc1 hb1 hs1)
      | (have _t := tk2; clear _t tk2; refine wpList_buildM rfl 90 _ rfl #[(0, .int .i64 gi)] (by simp only [List.map_toArray, List.map_cons, List.map_nil]; rfl) (KJ 0) (HBK.out _) ?_
         clear cv)
      | (have _t := tk3; clear _t tk3; refine wpList_allocM (o := ⟨some 7, _, _, _, _, _⟩) rfl 90 rfl Z0 HAK.out ?_
         intro w2 hc1 hb1 hs1
         have K2 := Lib.hid hc1
         have G2 := Lib.hid (G1.out.all hb1)
         have V2 := Lib.hid (V1.out.all hb1)
         have R2 := Lib.hid (R1.out.all hb1)
         have B2 := Lib.hid (B1.out.trans (hb1.mono B1.out.size))
         have lt2 : w1.heap.size < w2.heap.size := K2.out.lt
         clear hc1 hb1 hs1 G1 V1 R1 B1)
      | (have _t := tk4; clear _t tk4; refine wpList_storeM rfl 90 (.tmp 7) (.tmp 12) rfl w1.heap.size 0 rfl (KJ 0) rfl 90 _ K2.out (by rw [HZL.out, HKL.out]; exact Nat.le_refl _) (by rw [HKL.out]; exact Try.sizeKey) (HKO.out 0) ?_
         intro w3 hc3 ha3
         rw [lay'_all (by rw [HKL.out, HZL.out])] at hc3
         have K3 := Lib.hid hc3
         have G3 := Lib.hid (ha3.cm G2.out (by omega))
         have V3 := Lib.hid (ha3.cm V2.out (by omega))
         have R3 := Lib.hid (ha3.cm R2.out (by omega))
         have B3 : Hid (Below w.heap.size w w3) := Lib.hid (B2.out.trans (ha3.below (by omega)))
         have c1 := HC1.out _ _ _ G3.out
         clear hc3 ha3 K2 G2 V2 R2 B2))
  clear c1
  go_loopw [15] (fun iv wr => ∃ j : Nat, j ≤ a ∧ iv = .int .i64 j ∧ Hid (Cm wr w1.heap.size 90 (KJ j)) ∧ Hid (Cm wr w.heap.size 42 (ints G)) ∧ Hid (Cm wr (w.heap.size + 1) 39 V) ∧ Hid (Cm wr (w.heap.size + 1 + 1) 90 Z0) ∧ Hid (Below w.heap.size w wr)) (fun iv _ => a - (intOf iv).toNat)
  case atStart => exact ⟨0, Nat.zero_le _, rfl, K3, G3, V3, R3, B3⟩
  case round =>
    clear K3 G3 V3 R3 B3
    obtain ⟨j, hj, rfl, KR, GR, VR, RR, BR⟩ := hrel
    by_cases hlj : j < a
    · have hj0 : (0 : Int) ≤ (j : Int) := Int.natCast_nonneg _
      have hj3 : (j : Int) < 3 := by omega
      have KJ := Lib.hid (KM.out j (by omega))
      have HLY := Lib.hid (HKY.out j (by omega))
      have tk5 : True := trivial
      have tk6 : True := trivial
      have tk7 : True := trivial
      have tk8 : True := trivial
      go_wp2_with
        (first
          | (have _t := tk5; clear _t tk5; refine wpList_loadM rfl 42 (.tmp 3) rfl w.heap.size 0 rfl 42 (ints G) (ints G) GR.out (fun j _ => by rw [Nat.zero_add]) _ Try.underlying42 rfl (by rw [HL.out]; exact Try.sizeGrid) ?_)
          | (have _t := tk6; clear _t tk6; refine wpList_loadM rfl 39 (.tmp 5) rfl (w.heap.size + 1) 0 rfl 39 V V VR.out (fun j _ => by rw [Nat.zero_add]) _ Try.underlying39 rfl (by rw [HRL.out]; exact Try.sizeRow) ?_)
          | (have _t := tk7; clear _t tk7; go_at_call 41; (with_reducible refine (KJ.out _).mono ?_); rintro e w4 ⟨rfl, hb4⟩; have K4 := Lib.hid (KR.out.all hb4); have G4 := Lib.hid (GR.out.all hb4); have V4 := Lib.hid (VR.out.all hb4); have R4 := Lib.hid (RR.out.all hb4); have B4 := Lib.hid (BR.out.trans (hb4.mono BR.out.size)); clear hb4 KR GR VR RR BR)
          | (have _t := tk8; clear _t tk8; refine wpList_storeM rfl 60 (.tmp 25) (.tmp 23) rfl w1.heap.size (1 + j * 16) rfl (bL (M j)) rfl 90 _ K4.out (by rw [HKL.out, bL_len]; omega) (by rw [bL_len]; exact Try.sizeSet) (fun v hv => bL_one hv) ?_
             intro w5 hc5 ha5
             rw [HLY.out] at hc5
             have K5 := Lib.hid hc5
             have G5 := Lib.hid (ha5.cm G4.out (by omega))
             have V5 := Lib.hid (ha5.cm V4.out (by omega))
             have R5 := Lib.hid (ha5.cm R4.out (by omega))
             have B5 : Hid (Below w.heap.size w w5) := Lib.hid (B4.out.trans (ha5.below (by omega)))
             clear hc5 ha5 K4 G4 V4 R4 B4))
      go_roundw
      case rel => exact ⟨j + 1, by omega, by go_num, K5, G5, V5, R5, B5⟩
      case measure => simp [intOf]; omega
    · obtain rfl : j = a := by omega
      have HKN := Lib.hid (HKL.out j)
      have HKO := Lib.hid (HKO.out j)
      obtain ⟨KK, hKK⟩ : ∃ KK, KK = KJ j := ⟨_, rfl⟩
      rw [← hKK] at KR HKN HKO
      have HKK := Lib.hid hKK
      clear hKK
      go_wp2_with
        (first
          | (refine wpList_loadM rfl 90 _ rfl w1.heap.size 0 rfl 90 KK KK KR.out (fun j _ => by rw [Nat.zero_add]) _ Try.underlying90 rfl (by rw [HKN.out]; exact Try.sizeKey) ?_)
          | (refine wpList_storeM rfl 90 (.tmp 6) (.tmp 27) rfl (w.heap.size + 1 + 1) 0 rfl KK rfl 90 _ RR.out (by rw [HZL.out, HKN.out]; exact Nat.le_refl _) (by rw [HKN.out]; exact Try.sizeKey) HKO.out ?_
             intro w9 hc9 ha9
             rw [lay'_all (by rw [HZL.out, HKN.out])] at hc9
             have C9 := Lib.hid hc9
             have B9 : Hid (Below w.heap.size w w9) := Lib.hid (BR.out.trans (ha9.below (by omega)))
             clear hc9 ha9))
      refine bodyPost_ret (results_mid1 Try.results58 _ _ (w.heap.size + 1 + 1) KK _ rfl C9.out.whole Try.underlying90 rfl (by rw [HKN.out]; exact Try.sizeKey)) rfl ?_
      exact ⟨by rw [HKK.out], B9.out⟩
end Go.Proofs.Ytodjohdbngbpaab

/-
  classMap.firstKey: the key of the class with the least world. Condition: the map is that of the classes, and a class is left.
-/
namespace Go.Proofs.Ytodjohdbngbpaab
open Go.RowKit Go.WideShapes
open Go Go.Deep
set_option linter.unusedSimpArgs false

theorem Try.keyType : Try.prog.keyType 90 = true := by kernel_rfl
theorem Try.laidOutK : laidOutB Try.prog = true := by kernel_rfl
theorem Try.wideK : (match Try.prog.underlying 90 with | some (.array _ _) | some (.struct _) => true | _ => false) = true := by kernel_rfl
theorem Try.keyAtK : Try.prog.keyTypeAt 8 90 = true := by kernel_rfl
theorem Try.rowK : (90 : TypeId) < Try.prog.types.size := of_decide_eq_true (by kernel_rfl)
set_option maxRecDepth 100000 in
theorem lawK : Maps.Keyed Try.prog 90 := Maps.Keyed.of_law (deep_law_laid Try.laidOutK (m := 8) (by omega) Try.rowK Try.keyAtK Try.wideK)

set_option maxRecDepth 100000 in
set_option maxHeartbeats 16000000 in
theorem firstKey_any (b n j c : Nat) (KV : Nat → List Value) (kl : Nat → Lit) (nx : Nat → Nat) (D : DataW Value) (w : World) (hn : n ≤ 16) (hlen : ∀ i, i < n → (KV i).length = 49 ∧ ∀ v ∈ KV i, v.oneCell' = true)
    (z : Keyz Try.prog 90 (fun i => .agg (KV i).toArray) kl nx n) (hm : ClsMap Try.prog 90 w b kl nx n j c D) (hex : ∃ i, i < n ∧ j ≤ nx i) :
    Calls Try.prog 60 #[.map (some b)] w fun e w' => (∃ u, u < n ∧ nx u = j ∧ e = .returned (.agg (KV u).toArray)) ∧ Below w.heap.size w w' := by
  have hblt : b < w.heap.size := hm.own.lt
  have HX := Lib.hid hex
  have HZ := Lib.hid z
  have HM := Lib.hid hm
  have HN := Lib.hid hlen
  clear hex z hm hlen
  obtain ⟨Z0, hZ0⟩ : ∃ Z, Z = kL 0 (fun _ _ => false) 0 := ⟨_, rfl⟩
  have HZL : Hid (Z0.length = 49) := Lib.hid (by rw [hZ0, kL_len])
  have HAK := Lib.hid (fun W => (show (Instr.alloc 90 true (.tuple #[])).run Try.prog W = .ok (.pointer (some ⟨W.heap.size, 0, none⟩)) (W.alloc (.cells Z0.toArray 90)) by rw [hZ0]; exact Try.allocKey W))
  have HZO : Hid (∀ v ∈ Z0, v.oneCell' = true) := Lib.hid (fun v hv => kL_one (hZ0 ▸ hv))
  clear hZ0
  go_enter Try.func60, Try.ntmps60
  have tk1 : True := trivial
  have tk2 : True := trivial
  have tk3 : True := trivial
  go_wp2_with
    (first
      | (have _t := tk1; clear _t tk1; refine wpList_allocM (o := ⟨some 2, _, _, _, _, _⟩) rfl 90 rfl Z0 HAK.out ?_
         intro w1 hc1 hb1 hs1
         have R1 := Lib.hid hc1
         have B1 := Lib.hid hb1
         have M1 := Lib.hid (HM.out.below hb1)
         have lt1 : w.heap.size < w1.heap.size := R1.out.lt
         clear hc1 hb1 hs1)
      | (have _t := tk2; clear _t tk2; refine wpList_allocM (o := ⟨some 3, _, _, _, _, _⟩) rfl 90 rfl Z0 HAK.out ?_
         intro w2 hc1 hb1 hs1
         have F2 := Lib.hid hc1
         have R2 := Lib.hid (R1.out.all hb1)
         have B2 := Lib.hid (B1.out.trans (hb1.mono (by omega)))
         have M2 := Lib.hid (M1.out.below hb1)
         have lt2 : w1.heap.size < w2.heap.size := F2.out.lt
         clear hc1 hb1 hs1 R1 B1 M1)
      | (have _t := tk3; clear _t tk3; at_range; refine wpList_range_own _ rfl _ 87 rfl 90 60 lawK Try.underlying87 HeldR b c D rfl M2.out.own ?_
         intro w3 hrg3 hg3 hs3
         have R3 := Lib.hid (R2.out.kept hg3 (by simp))
         have F3 := Lib.hid (F2.out.kept hg3 (by simp))
         have B3 : Hid (Below w.heap.size w w3) := Lib.hid (B2.out.grown hg3 (by omega) (fun k e => by cases e))
         have RG3 := Lib.hid hrg3
         have lt3 : w2.heap.size < w3.heap.size := by omega
         clear hrg3 hg3 hs3 R2 F2 B2 M2))
  try go_frame
  go_loopw [4] (fun lv wr => ∃ (left : Lit → Bool) (cnt least : Nat) (fk : List Value), lv = .int .i64 least ∧ least ≤ 16 ∧ Hid (Seen (fun i => .agg (KV i).toArray) kl nx n j left least (.agg fk.toArray)) ∧ Hid (fk.length = 49 ∧ ∀ v ∈ fk, v.oneCell' = true) ∧ Hid (wr.ranges Try.prog 90 HeldR b w2.heap.size c D left cnt) ∧ Hid (∀ x, left x = true → Maps.has D x = true) ∧ Hid (Cm wr w1.heap.size 90 fk) ∧ Hid (Cm wr w.heap.size 90 Z0) ∧ Hid (Below w.heap.size w wr) ∧ w3.heap.size ≤ wr.heap.size) (fun _ wr => wr.rangeLeft b w2.heap.size)
  case atStart => exact ⟨_, _, 16, Z0, rfl, Nat.le_refl _, Lib.hid (Seen.start fun i hi hj => (HM.out.has _).2 ⟨i, hi, hj, rfl⟩), Lib.hid ⟨HZL.out, HZO.out⟩, RG3, Lib.hid (fun x h => h), F3, R3, B3, Nat.le_refl _⟩
  case round =>
    clear RG3 F3 R3 B3
    obtain ⟨left, cnt, least, fk, rfl, hle, HS, HFK, RG, HLF, FR, RR, BR, hwr⟩ := hrel
    have hl0 : (0 : Int) ≤ (least : Int) := Int.natCast_nonneg _
    go_wp2_with (at_next; refine wpList_next_cls _ rfl _ rfl lawK HZ.out w2.heap.size left cnt rfl RG.out (HM.out.at _ RG.out.owns) HLF.out ?_ ?_)
    case _ =>
      intro h0
      have HE : ∃ u, Hid (u < n ∧ nx u = j ∧ fk = KV u) := by
        obtain ⟨i, hi, hj⟩ := HX.out
        obtain ⟨e1, e2, e3⟩ := HS.out.finish HZ.out h0 hi hj
        injection e3 with e3
        exact ⟨least, Lib.hid ⟨e1, e2, List.toArray_inj e3⟩⟩
      obtain ⟨u, HE⟩ := HE
      clear HS h0 HLF RG
      have HF1 := Lib.hid HFK.out.1
      have HF2 := Lib.hid HFK.out.2
      go_wp2_with
        (first
          | (refine wpList_loadM rfl 90 _ rfl w1.heap.size 0 rfl 90 fk fk FR.out (fun j _ => by rw [Nat.zero_add]) _ Try.underlying90 rfl (by rw [HF1.out]; exact Try.sizeKey) ?_)
          | (refine wpList_storeM rfl 90 (.tmp 2) (.tmp 22) rfl w.heap.size 0 rfl fk rfl 90 _ RR.out (by rw [HZL.out, HF1.out]; exact Nat.le_refl _) (by rw [HF1.out]; exact Try.sizeKey) HF2.out ?_
             intro w9 hc9 ha9
             rw [lay'_all (by rw [HZL.out, HF1.out])] at hc9
             have C9 := Lib.hid hc9
             have B9 : Hid (Below w.heap.size w w9) := Lib.hid (BR.out.trans (ha9.below (by omega)))
             clear hc9 ha9))
      refine bodyPost_ret (results_mid1 Try.results60 _ _ w.heap.size fk _ rfl C9.out.whole Try.underlying90 rfl (by rw [HF1.out]; exact Try.sizeKey)) rfl ?_
      obtain ⟨e1, e2, e3⟩ := HE.out
      exact ⟨⟨u, e1, e2, by rw [e3]⟩, B9.out⟩
    case _ =>
      intro u w4 cnt4 hu hju hlu hrg4 hlt4 hg4 hs4 hen
      try dsimp only at hen
      have RG4 := Lib.hid hrg4
      have FR4 := Lib.hid (FR.out.kept hg4 (by simp; omega))
      have RR4 := Lib.hid (RR.out.kept hg4 (by simp; omega))
      have B4 : Hid (Below w.heap.size w w4) := Lib.hid (BR.out.grown hg4 (by omega) (fun k e => by cases e; omega))
      have HLF4 : Hid (∀ x, (left x && !x.sameKey (kl u)) = true → Maps.has D x = true) := Lib.hid (fun x hx => HLF.out x (by rw [Bool.and_eq_true] at hx; exact hx.1))
      have HME : Hid (w4.rangeLeft b w2.heap.size < wr.rangeLeft b w2.heap.size) := Lib.hid (by rw [hrg4.left_eq, RG.out.left_eq]; exact hlt4)
      have hwr4 : w3.heap.size ≤ w4.heap.size := by omega
      clear hs4
      have HV1 := Lib.hid (HN.out u hu).1
      have HV2 := Lib.hid (HN.out u hu).2
      have KF := Lib.hid (fun W => first_any (clsB nx n u) W ⟨u, by omega, clsB_iff.2 ⟨hu, rfl⟩⟩)
      have hfn := (fstC_at (nx := nx) hn hu).1
      have HLS : Hid (fstC nx n u < least → Seen (fun i => .agg (KV i).toArray) kl nx n j (fun x => left x && !x.sameKey (kl u)) (fstC nx n u) (.agg (KV u).toArray)) := Lib.hid (fun h => HS.out.less hn HZ.out lawK hu hju h (HZ.out.key u hu))
      have HMR : Hid (least ≤ fstC nx n u → Seen (fun i => .agg (KV i).toArray) kl nx n j (fun x => left x && !x.sameKey (kl u)) least (.agg fk.toArray)) := Lib.hid (fun h => HS.out.more hn HZ.out hu h)
      rw [show headL (clsB nx n u) = fstC nx n u from rfl] at KF
      clear hrg4 hg4 hlt4 hlu hju HS RG FR RR BR HLF
      generalize fstC nx n u = f at *
      have HB1 := Lib.hid (bL_len (clsB nx n u))
      have HB2 := Lib.hid (fun v (hv : v ∈ bL (clsB nx n u)) => bL_one hv)
      generalize bL (clsB nx n u) = SS at *
      generalize hVV : KV u = VV at *
      have hf0 : (0 : Int) ≤ (f : Int) := Int.natCast_nonneg _
      have hf16 : f < 16 := by omega
      by_cases hlt : f < least
      · have HLS := Lib.hid (HLS.out hlt)
        have hlt' : (f : Int) < (least : Int) := by omega
        have tk4 : True := trivial
        have tk5 : True := trivial
        have tk6 : True := trivial
        have tk7 : True := trivial
        have tk8 : True := trivial
        have tk9 : True := trivial
        have tk10 : True := trivial
        have tk11 : True := trivial
        go_wp2_with
          (first
            | (have _t := tk4; clear _t tk4; refine wpList_allocM (o := ⟨some 5, _, _, _, _, _⟩) rfl 90 rfl Z0 HAK.out ?_
               intro w5 hc5 hb5 hs5
               have K5 := Lib.hid hc5
               have RG5 := Lib.hid (ranges_below RG4.out hb5)
               have HME5 : Hid (w5.rangeLeft b w2.heap.size < wr.rangeLeft b w2.heap.size) := Lib.hid (by rw [RG5.out.left_eq, ← RG4.out.left_eq]; exact HME.out)
               have F5 := Lib.hid (FR4.out.all hb5)
               have R5 := Lib.hid (RR4.out.all hb5)
               have B5 := Lib.hid (B4.out.trans (hb5.mono (by omega)))
               have lt5 : w4.heap.size < w5.heap.size := K5.out.lt
               clear hc5 hb5 hs5 RG4 FR4 RR4 B4 hen HME)
            | (have _t := tk5; clear _t tk5; refine wpList_allocM (o := ⟨some 6, _, _, _, _, _⟩) rfl 60 rfl (bL (fun _ => false)) Try.allocSet ?_
               intro w6 hc5 hb5 hs5
               have S6 := Lib.hid hc5
               have K6 := Lib.hid (K5.out.all hb5)
               have RG6 := Lib.hid (ranges_below RG5.out hb5)
               have HME6 : Hid (w6.rangeLeft b w2.heap.size < wr.rangeLeft b w2.heap.size) := Lib.hid (by rw [RG6.out.left_eq, ← RG5.out.left_eq]; exact HME5.out)
               have F6 := Lib.hid (F5.out.all hb5)
               have R6 := Lib.hid (R5.out.all hb5)
               have B6 := Lib.hid (B5.out.trans (hb5.mono (by omega)))
               have lt6 : w5.heap.size < w6.heap.size := S6.out.lt
               clear hc5 hb5 hs5 RG5 F5 R5 B5 K5 HME5)
            | (have _t := tk6; clear _t tk6; refine wpList_storeM rfl 90 (.tmp 5) (.tmp 13) rfl w4.heap.size 0 rfl VV rfl 90 _ K6.out (by rw [HZL.out, HV1.out]; exact Nat.le_refl _) (by rw [HV1.out]; exact Try.sizeKey) HV2.out ?_
               intro w7 hc7 ha7
               rw [lay'_all (by rw [HZL.out, HV1.out])] at hc7
               have K7 := Lib.hid hc7
               have RG7 := Lib.hid (RG6.out.kept (at_grown ha7) (by simp; omega) (by simp; omega))
               have HME7 : Hid (w7.rangeLeft b w2.heap.size < wr.rangeLeft b w2.heap.size) := Lib.hid (by rw [RG7.out.left_eq, ← RG6.out.left_eq]; exact HME6.out)
               have S7 := Lib.hid (ha7.cm S6.out (by omega))
               have F7 := Lib.hid (ha7.cm F6.out (by omega))
               have R7 := Lib.hid (ha7.cm R6.out (by omega))
               have B7 : Hid (Below w.heap.size w w7) := Lib.hid (B6.out.trans (ha7.below (by omega)))
               have lt7 : w6.heap.size ≤ w7.heap.size := Nat.le_of_eq ha7.size.symm
               clear hc7 ha7 RG6 S6 F6 R6 B6 K6 HME6)
            | (have _t := tk7; clear _t tk7; refine wpList_storeM rfl 60 (.tmp 6) (.tmp 14) rfl w5.heap.size 0 rfl SS rfl 60 _ S7.out (by rw [bL_len, HB1.out]; exact Nat.le_refl _) (by rw [HB1.out]; exact Try.sizeSet) HB2.out ?_
               intro w8 hc7 ha7
               rw [lay'_all (by rw [bL_len, HB1.out])] at hc7
               have S8 := Lib.hid hc7
               have RG8 := Lib.hid (RG7.out.kept (at_grown ha7) (by simp; omega) (by simp; omega))
               have HME8 : Hid (w8.rangeLeft b w2.heap.size < wr.rangeLeft b w2.heap.size) := Lib.hid (by rw [RG8.out.left_eq, ← RG7.out.left_eq]; exact HME7.out)
               have K8 := Lib.hid (ha7.cm K7.out (by omega))
               have F8 := Lib.hid (ha7.cm F7.out (by omega))
               have R8 := Lib.hid (ha7.cm R7.out (by omega))
               have B8 : Hid (Below w.heap.size w w8) := Lib.hid (B7.out.trans (ha7.below (by omega)))
               have lt8 : w7.heap.size ≤ w8.heap.size := Nat.le_of_eq ha7.size.symm
               clear hc7 ha7 RG7 S7 F7 R7 B7 K7 HME7)
            | (have _t := tk8; clear _t tk8; refine wpList_loadM rfl 60 (.tmp 6) rfl w5.heap.size 0 rfl 60 SS SS S8.out (fun j _ => by rw [Nat.zero_add]) _ Try.underlying60 rfl (by rw [HB1.out]; exact Try.sizeSet) ?_)
            | (have _t := tk9; clear _t tk9; go_at_call 42; (with_reducible refine (KF.out _).mono ?_); rintro e w9 ⟨rfl, hb9⟩; have RG9 := Lib.hid (ranges_below RG8.out hb9); have HME9 : Hid (w9.rangeLeft b w2.heap.size < wr.rangeLeft b w2.heap.size) := Lib.hid (by rw [RG9.out.left_eq, ← RG8.out.left_eq]; exact HME8.out); have K9 := Lib.hid (K8.out.all hb9); have F9 := Lib.hid (F8.out.all hb9); have R9 := Lib.hid (R8.out.all hb9); have B9 := Lib.hid (B8.out.trans (hb9.mono (by omega))); have lt9 : w8.heap.size ≤ w9.heap.size := hb9.size; clear hb9 RG8 S8 F8 R8 B8 K8 HME8)
            | (have _t := tk10; clear _t tk10; refine wpList_loadM rfl 90 (.tmp 5) rfl w4.heap.size 0 rfl 90 VV VV K9.out (fun j _ => by rw [Nat.zero_add]) _ Try.underlying90 rfl (by rw [HV1.out]; exact Try.sizeKey) ?_)
            | (have _t := tk11; clear _t tk11; refine wpList_storeM rfl 90 (.tmp 3) (.tmp 20) rfl w1.heap.size 0 rfl VV rfl 90 _ F9.out (by rw [HFK.out.1, HV1.out]; exact Nat.le_refl _) (by rw [HV1.out]; exact Try.sizeKey) HV2.out ?_
               intro w10 hc7 ha7
               rw [lay'_all (by rw [HFK.out.1, HV1.out])] at hc7
               have F10 := Lib.hid hc7
               have RG10 := Lib.hid (RG9.out.kept (at_grown ha7) (by simp; omega) (by simp; omega))
               have HME10 : Hid (w10.rangeLeft b w2.heap.size < wr.rangeLeft b w2.heap.size) := Lib.hid (by rw [RG10.out.left_eq, ← RG9.out.left_eq]; exact HME9.out)
               have R10 := Lib.hid (ha7.cm R9.out (by omega))
               have B10 : Hid (Below w.heap.size w w10) := Lib.hid (B9.out.trans (ha7.below (by omega)))
               have lt10 : w9.heap.size ≤ w10.heap.size := Nat.le_of_eq ha7.size.symm
               clear hc7 ha7))
        go_roundw
        case rel => exact ⟨_, _, f, VV, rfl, by omega, HLS, Lib.hid ⟨HV1.out, HV2.out⟩, RG10, HLF4, F10, R10, B10, by omega⟩
        case measure => exact HME10.out
      · have HMR := Lib.hid (HMR.out (by omega))
        have hlt' : ¬ (f : Int) < (least : Int) := by omega
        have tk12 : True := trivial
        have tk13 : True := trivial
        have tk14 : True := trivial
        have tk15 : True := trivial
        have tk16 : True := trivial
        have tk17 : True := trivial
        go_wp2_with
          (first
            | (have _t := tk12; clear _t tk12; refine wpList_allocM (o := ⟨some 5, _, _, _, _, _⟩) rfl 90 rfl Z0 HAK.out ?_
               intro w5 hc5 hb5 hs5
               have K5 := Lib.hid hc5
               have RG5 := Lib.hid (ranges_below RG4.out hb5)
               have HME5 : Hid (w5.rangeLeft b w2.heap.size < wr.rangeLeft b w2.heap.size) := Lib.hid (by rw [RG5.out.left_eq, ← RG4.out.left_eq]; exact HME.out)
               have F5 := Lib.hid (FR4.out.all hb5)
               have R5 := Lib.hid (RR4.out.all hb5)
               have B5 := Lib.hid (B4.out.trans (hb5.mono (by omega)))
               have lt5 : w4.heap.size < w5.heap.size := K5.out.lt
               clear hc5 hb5 hs5 RG4 FR4 RR4 B4 hen HME)
            | (have _t := tk13; clear _t tk13; refine wpList_allocM (o := ⟨some 6, _, _, _, _, _⟩) rfl 60 rfl (bL (fun _ => false)) Try.allocSet ?_
               intro w6 hc5 hb5 hs5
               have S6 := Lib.hid hc5
               have K6 := Lib.hid (K5.out.all hb5)
               have RG6 := Lib.hid (ranges_below RG5.out hb5)
               have HME6 : Hid (w6.rangeLeft b w2.heap.size < wr.rangeLeft b w2.heap.size) := Lib.hid (by rw [RG6.out.left_eq, ← RG5.out.left_eq]; exact HME5.out)
               have F6 := Lib.hid (F5.out.all hb5)
               have R6 := Lib.hid (R5.out.all hb5)
               have B6 := Lib.hid (B5.out.trans (hb5.mono (by omega)))
               have lt6 : w5.heap.size < w6.heap.size := S6.out.lt
               clear hc5 hb5 hs5 RG5 F5 R5 B5 K5 HME5)
            | (have _t := tk14; clear _t tk14; refine wpList_storeM rfl 90 (.tmp 5) (.tmp 13) rfl w4.heap.size 0 rfl VV rfl 90 _ K6.out (by rw [HZL.out, HV1.out]; exact Nat.le_refl _) (by rw [HV1.out]; exact Try.sizeKey) HV2.out ?_
               intro w7 hc7 ha7
               rw [lay'_all (by rw [HZL.out, HV1.out])] at hc7
               have K7 := Lib.hid hc7
               have RG7 := Lib.hid (RG6.out.kept (at_grown ha7) (by simp; omega) (by simp; omega))
               have HME7 : Hid (w7.rangeLeft b w2.heap.size < wr.rangeLeft b w2.heap.size) := Lib.hid (by rw [RG7.out.left_eq, ← RG6.out.left_eq]; exact HME6.out)
               have S7 := Lib.hid (ha7.cm S6.out (by omega))
               have F7 := Lib.hid (ha7.cm F6.out (by omega))
               have R7 := Lib.hid (ha7.cm R6.out (by omega))
               have B7 : Hid (Below w.heap.size w w7) := Lib.hid (B6.out.trans (ha7.below (by omega)))
               have lt7 : w6.heap.size ≤ w7.heap.size := Nat.le_of_eq ha7.size.symm
               clear hc7 ha7 RG6 S6 F6 R6 B6 K6 HME6)
            | (have _t := tk15; clear _t tk15; refine wpList_storeM rfl 60 (.tmp 6) (.tmp 14) rfl w5.heap.size 0 rfl SS rfl 60 _ S7.out (by rw [bL_len, HB1.out]; exact Nat.le_refl _) (by rw [HB1.out]; exact Try.sizeSet) HB2.out ?_
               intro w8 hc7 ha7
               rw [lay'_all (by rw [bL_len, HB1.out])] at hc7
               have S8 := Lib.hid hc7
               have RG8 := Lib.hid (RG7.out.kept (at_grown ha7) (by simp; omega) (by simp; omega))
               have HME8 : Hid (w8.rangeLeft b w2.heap.size < wr.rangeLeft b w2.heap.size) := Lib.hid (by rw [RG8.out.left_eq, ← RG7.out.left_eq]; exact HME7.out)
               have K8 := Lib.hid (ha7.cm K7.out (by omega))
               have F8 := Lib.hid (ha7.cm F7.out (by omega))
               have R8 := Lib.hid (ha7.cm R7.out (by omega))
               have B8 : Hid (Below w.heap.size w w8) := Lib.hid (B7.out.trans (ha7.below (by omega)))
               have lt8 : w7.heap.size ≤ w8.heap.size := Nat.le_of_eq ha7.size.symm
               clear hc7 ha7 RG7 S7 F7 R7 B7 K7 HME7)
            | (have _t := tk16; clear _t tk16; refine wpList_loadM rfl 60 (.tmp 6) rfl w5.heap.size 0 rfl 60 SS SS S8.out (fun j _ => by rw [Nat.zero_add]) _ Try.underlying60 rfl (by rw [HB1.out]; exact Try.sizeSet) ?_)
            | (have _t := tk17; clear _t tk17; go_at_call 42; (with_reducible refine (KF.out _).mono ?_); rintro e w9 ⟨rfl, hb9⟩; have RG9 := Lib.hid (ranges_below RG8.out hb9); have HME9 : Hid (w9.rangeLeft b w2.heap.size < wr.rangeLeft b w2.heap.size) := Lib.hid (by rw [RG9.out.left_eq, ← RG8.out.left_eq]; exact HME8.out); have K9 := Lib.hid (K8.out.all hb9); have F9 := Lib.hid (F8.out.all hb9); have R9 := Lib.hid (R8.out.all hb9); have B9 := Lib.hid (B8.out.trans (hb9.mono (by omega))); have lt9 : w8.heap.size ≤ w9.heap.size := hb9.size; clear hb9 RG8 S8 F8 R8 B8 K8 HME8))
        go_roundw
        case rel => exact ⟨_, _, least, fk, rfl, hle, HMR, HFK, RG9, HLF4, F9, R9, B9, by omega⟩
        case measure => exact HME9.out
end Go.Proofs.Ytodjohdbngbpaab

/-
  classMap.takeNumbers: the numbers of the classes in the order of their first worlds. Condition: the map is that of the classes of the first n worlds.
-/
namespace Go.Proofs.Ytodjohdbngbpaab
open Go.RowKit Go.WideShapes Go.Shelf
open Go Go.Deep
set_option linter.unusedSimpArgs false
attribute [local go_sem] Oper.semAt_some

theorem Try.allocRowF (w : World) : (Instr.alloc 39 true (.tuple #[])).run Try.prog w = .ok (.pointer (some ⟨w.heap.size, 0, none⟩)) (w.alloc (.cells (ints (rowF fun _ => 0)).toArray 39)) := by kernel_rfl
theorem Try.allocIntF (w : World) : (Instr.alloc 3 true (.tuple #[])).run Try.prog w = .ok (.pointer (some ⟨w.heap.size, 0, none⟩)) (w.alloc (.cells [Value.int .i64 0].toArray 3)) := by kernel_rfl
theorem Try.zeroSet (w : World) : (zeroValue 60).run Try.prog w = .ok (.agg (bL (fun _ => false)).toArray) w := by kernel_rfl
/-- the number in the cell that a pointer leads to -/
def numAt (v : Value) (w : World) : Nat := match v with
  | .pointer (some p) => (match w.cell? p with
    | some (.int _ i) => i.toNat
    | _ => 0)
  | _ => 0
theorem numAt_eq {B j : Nat} {T : TypeId} {w : World} (h : Cm w B T [.int .i64 j]) : numAt (.pointer (some ⟨B, 0, none⟩)) w = j := by
  have h1 : w.cell? ⟨B, 0, none⟩ = some (.int .i64 j) := by rw [h.cell]; rfl
  show (match w.cell? ⟨B, 0, none⟩ with
    | some (.int _ i) => i.toNat
    | _ => 0) = j
  rw [h1]
  exact Int.toNat_natCast j
theorem rowF_ints_len (f : Nat → Int) : (ints (rowF f)).length = 16 := by rw [ints_len, rowF_len]
theorem rowF_cell {f : Nat → Int} {w : World} {b : Nat} {T : TypeId} (h : Cm w b T (ints (rowF f))) {i : Nat} (hi : i < 16) : w.cell? ⟨b, i, none⟩ = some (.int .i64 (f i)) := by
  rw [h.cell, ints_at (by rw [rowF_len]; exact hi), rowF_get f hi]
/-- what a frame of takeNumbers holds between two rounds -/
structure Tnb (P : Program) (K R I : TypeId) (kl : Nat → Lit) (nx : Nat → Nat) (n b RB NB lo : Nat) (w W : World) (j B : Nat) (Ds : List Nat) : Prop where
  marks : Marks lo W Ds
  map : ∃ c D, ClsMap P K W b kl nx n j c D
  num : Cm W NB R (ints (rowF (nrow nx n j)))
  res : Cm W RB R (ints (rowF fun _ => 0))
  cnt : Cm W B I [.int .i64 j]
  hB : NB < B
  hj : j ≤ 16
  bel : Below b w W
  siz : lo ≤ W.heap.size

set_option maxRecDepth 100000 in
set_option maxHeartbeats 32000000 in
theorem takeNumbers_any (b n c : Nat) (KV : Nat → List Value) (kl : Nat → Lit) (nx : Nat → Nat) (D : DataW Value) (w : World) (hn : n ≤ 16) (hlen : ∀ i, i < n → (KV i).length = 49 ∧ ∀ v ∈ KV i, v.oneCell' = true)
    (z : Keyz Try.prog 90 (fun i => .agg (KV i).toArray) kl nx n) (hm : ClsMap Try.prog 90 w b kl nx n 0 c D) :
    Calls Try.prog 59 #[.map (some b)] w fun e w' => (∃ J, (∀ i, i < n → nx i < J) ∧ e = .returned (.agg (ints (rowF (nrow nx n J))).toArray)) ∧ Below b w w' := by
  have hblt : b < w.heap.size := hm.own.lt
  have HZ := Lib.hid z
  have HN := Lib.hid hlen
  have HM0 := Lib.hid hm
  have HZO := Lib.hid (fun v (hv : v ∈ ints (rowF fun _ => 0)) => ints_one hv)
  clear z hlen hm
  refine (callsIn_wide (n := 3)).1 ?_
  refine callsIn_of_wp_marks Try.func59 rfl trivial ?_ rfl
  simp only [Try.ntmps59, List.size_toArray, List.length_cons, List.length_nil, Nat.reduceAdd, Nat.reduceSub, Array.replicate_succ, Array.replicate_zero, List.push_toArray, List.append_toArray, List.nil_append, List.cons_append]
  refine wpIn_wide.2 ?_
  have tk1 : True := trivial
  have tk2 : True := trivial
  have tk3 : True := trivial
  go_wp2_with
    (first
      | (have _t := tk1; clear _t tk1; refine wpList_allocM (o := ⟨some 2, _, _, _, _, _⟩) rfl 39 rfl (ints (rowF fun _ => 0)) Try.allocRowF ?_
         intro w1 hc1 hb1 hs1
         have R1 := Lib.hid hc1
         have B1 := Lib.hid hb1
         have M1 := Lib.hid (HM0.out.below hb1)
         have lt1 : w.heap.size < w1.heap.size := R1.out.lt
         clear hc1 hb1 hs1 HM0)
      | (have _t := tk2; clear _t tk2; refine wpList_allocM (o := ⟨some 3, _, _, _, _, _⟩) rfl 39 rfl (ints (rowF fun _ => 0)) Try.allocRowF ?_
         intro w2 hc1 hb1 hs1
         have N2 := Lib.hid hc1
         have R2 := Lib.hid (R1.out.all hb1)
         have B2 := Lib.hid (B1.out.trans (hb1.mono (by omega)))
         have M2 := Lib.hid (M1.out.below hb1)
         have lt2 : w1.heap.size < w2.heap.size := N2.out.lt
         clear hc1 hb1 hs1 R1 B1 M1)
      | (have _t := tk3; clear _t tk3; refine wpList_allocM (o := ⟨some 4, _, _, _, _, _⟩) rfl 3 rfl [.int .i64 0] Try.allocIntF ?_
         intro w3 hc1 hb1 hs1
         have C3 := Lib.hid hc1
         have N3 := Lib.hid (N2.out.all hb1)
         have R3 := Lib.hid (R2.out.all hb1)
         have B3 := Lib.hid (B2.out.trans (hb1.mono (by omega)))
         have M3 := Lib.hid (M2.out.below hb1)
         have lt3 : w2.heap.size < w3.heap.size := C3.out.lt
         have c3 : w3.cell? ⟨w2.heap.size, 0, none⟩ = some (.int .i64 0) := by rw [C3.out.cell]; rfl
         have f3 : w3.frozen? ⟨w2.heap.size, 0, none⟩ = false := C3.out.frozen 0
         clear hc1 hb1 hs1 N2 R2 B2 M2))
  clear c3 f3
  have T0 : Tnb Try.prog 90 39 3 kl nx n b w.heap.size w1.heap.size w.heap.size w (w3.setCell ⟨w2.heap.size, 0, none⟩ (.int .i64 0)) 0 w2.heap.size [] :=
    ⟨Marks.nil _ _, ⟨c, D, M3.out.kept (at_grown (At.setCell w3 w2.heap.size 0 _)) (by simp; omega)⟩, by rw [nrow_0]; exact N3.out.other (by omega) _ _, R3.out.other (by omega) _ _, C3.out.set 0 _, by omega, by omega, (B3.out.mono (by omega)).setCell (p := ⟨w2.heap.size, 0, none⟩) (by show b ≤ w2.heap.size; omega) _, by simp [World.setCell]; omega⟩
  have HT0 := Lib.hid T0
  clear T0 C3 N3 R3 B3 M3
  generalize w3.setCell ⟨w2.heap.size, 0, none⟩ (.int .i64 0) = w4 at *
  refine wp_loop (fun a' w' => ∃ (u5 u6 u7 u8 u9 u10 u11 u12 u13 u14 u15 u16 u17 u18 u19 u20 u21 u22 u23 u24 u25 : Value) (j B : Nat) (Ds : List Nat), Hid (Tnb Try.prog 90 39 3 kl nx n b w.heap.size w1.heap.size w.heap.size w w' j B Ds) ∧
    a' = { tmps := #[.map (some b), undef, .pointer (some ⟨w.heap.size, 0, none⟩), .pointer (some ⟨w1.heap.size, 0, none⟩), .pointer (some ⟨B, 0, none⟩), u5, u6, u7, u8, u9, u10, u11, u12, u13, u14, u15, u16, u17, u18, u19, u20, u21, u22, u23, u24, u25], defers := Ds.map markD }) (fun a' w' => 17 - numAt (a'.tmps.getD 4 undef) w') ?_ ?_
  · exact ⟨_, _, _, _, _, _, _, _, _, _, _, _, _, _, _, _, _, _, _, _, _, 0, w2.heap.size, [], HT0, rfl⟩
  rintro a' wr ⟨u5, u6, u7, u8, u9, u10, u11, u12, u13, u14, u15, u16, u17, u18, u19, u20, u21, u22, u23, u24, u25, j, B, Ds, HT, rfl⟩
  clear HT0
  obtain ⟨hmk, ⟨c', D', hM⟩, hN, hR, hC, hB, hj, hbel, hsz⟩ := HT.out
  have HMK := Lib.hid hmk
  have HM := Lib.hid hM
  have HNr := Lib.hid hN
  have HRr := Lib.hid hR
  have HC := Lib.hid hC
  have HBb := Lib.hid hbel
  have hBlt : B < wr.heap.size := hC.lt
  clear HT hmk hM hN hR hC hbel
  have HSZ := Lib.hid (HM.out.size lawK)
  obtain ⟨q, hq⟩ : ∃ q, q = Maps.size D' := ⟨_, rfl⟩
  rw [← hq] at HSZ
  have HQ := Lib.hid hq
  clear hq
  by_cases h0 : q = 0
  · subst h0
    have HA := Lib.hid (HSZ.out.1 rfl)
    clear HSZ
    have tk4 : True := trivial
    have tk5 : True := trivial
    have tk6 : True := trivial
    go_wp2_with
      (first
        | (have _t := tk4; clear _t tk4; at_len; refine wpList_len_own _ rfl _ 87 rfl 90 60 Try.underlying87 HeldR b c' D' rfl HM.out.own ?_; rw [← HQ.out])
        | (have _t := tk5; clear _t tk5; refine wpList_loadM rfl 39 (.tmp 3) rfl w1.heap.size 0 rfl 39 (ints (rowF (nrow nx n j))) _ HNr.out (fun j _ => by rw [Nat.zero_add]) _ Try.underlying39 rfl (by rw [rowF_ints_len]; exact Try.sizeRow) ?_)
        | (have _t := tk6; clear _t tk6; refine wpList_storeM rfl 39 (.tmp 2) (.tmp 25) rfl w.heap.size 0 rfl (ints (rowF (nrow nx n j))) rfl 39 _ HRr.out (by rw [rowF_ints_len, rowF_ints_len]; exact Nat.le_refl _) (by rw [rowF_ints_len]; exact Try.sizeRow) (fun v hv => ints_one hv) ?_
           intro w9 hc9 ha9
           rw [lay'_all (by rw [rowF_ints_len, rowF_ints_len])] at hc9
           have C9 := Lib.hid hc9
           have K9 := Lib.hid (HMK.out.kept (at_grown ha9) (fun r e => by cases e; exact ⟨_, HRr.out, fun h => by cases h⟩))
           have B9 : Hid (Below b w w9) := Lib.hid (HBb.out.trans (ha9.below (by omega)))
           clear hc9 ha9))
    refine leaves_marks (lo := w.heap.size) (J := fun W => Cm W w.heap.size 39 (ints (rowF (nrow nx n j))) ∧ Below b w W) ?_ Ds _ K9.out ⟨C9.out, B9.out⟩ ?_
    · rintro W E ⟨h1, h2⟩ hE hk
      exact ⟨cm_putObj h1 hk (fun _ _ _ h => by cases h), h2.grown (grownBy_putObj' W E _) (Nat.le_trans (by omega) h2.size) (fun k e => by cases e; omega)⟩
    · rintro W ⟨h1, h2⟩
      exact ⟨.agg (ints (rowF (nrow nx n j))).toArray, results_mid1 Try.results59 _ _ w.heap.size (ints (rowF (nrow nx n j))) _ rfl h1.whole Try.underlying39 rfl (by rw [rowF_ints_len]; exact Try.sizeRow), ⟨j, HA.out, rfl⟩, h2⟩
  · have hex : ∃ i, i < n ∧ j ≤ nx i := Classical.byContradiction fun hno => h0 (HSZ.out.2 fun i hi => by
      rcases Nat.lt_or_ge (nx i) j with h1 | h1
      · exact h1
      · exact absurd ⟨i, hi, h1⟩ hno)
    have hq0 : (0 : Int) < (q : Int) := by omega
    have HF := Lib.hid (firstKey_any b n j c' KV kl nx D' wr hn HN.out HZ.out HM.out hex)
    have HZ0 : ∃ Z : List Value, Hid (Z.length = 49) ∧ Hid (∀ W : World, (Instr.alloc 90 true (.tuple #[])).run Try.prog W = .ok (.pointer (some ⟨W.heap.size, 0, none⟩)) (W.alloc (.cells Z.toArray 90))) := ⟨_, Lib.hid (kL_len 0 (fun _ _ => false) 0), Lib.hid Try.allocKey⟩
    obtain ⟨Z0, HZL, HAK⟩ := HZ0
    clear HSZ h0 hex
    have tk7 : True := trivial
    have tk8 : True := trivial
    have tk9 : True := trivial
    have tk10 : True := trivial
    have tk11 : True := trivial
    have tk12 : True := trivial
    have tk13 : True := trivial
    go_wp2_with
      (first
        | (have _t := tk7; clear _t tk7; at_len; refine wpList_len_own _ rfl _ 87 rfl 90 60 Try.underlying87 HeldR b c' D' rfl HM.out.own ?_; rw [← HQ.out])
        | (have _t := tk8; clear _t tk8; go_at_call 60; (with_reducible refine HF.out.mono ?_); rintro e w5 ⟨⟨u, hu, huj, rfl⟩, hb5⟩
           have HU := Lib.hid (HN.out u hu)
           have HKEY := Lib.hid (HZ.out.key u hu)
           have HELT := Lib.hid (HM.out.elt u hu (by omega))
           have hj16 : j < 16 := by have := HZ.out.le hu; omega
           have K5 := Lib.hid (HMK.out.below hb5)
           have M5 := Lib.hid (HM.out.below hb5)
           have N5 := Lib.hid (HNr.out.all hb5)
           have R5 := Lib.hid (HRr.out.all hb5)
           have C5 := Lib.hid (HC.out.all hb5)
           have B5 := Lib.hid (HBb.out.trans (hb5.mono (by omega)))
           have lt5 : wr.heap.size ≤ w5.heap.size := hb5.size
           clear hb5 HF)
        | (have _t := tk9; clear _t tk9; refine wpList_allocM (o := ⟨some 5, _, _, _, _, _⟩) rfl 90 rfl Z0 HAK.out ?_
           intro w6 hc5 hb5 hs5
           have Y6 := Lib.hid hc5
           have K6 := Lib.hid (K5.out.below hb5)
           have M6 := Lib.hid (M5.out.below hb5)
           have N6 := Lib.hid (N5.out.all hb5)
           have R6 := Lib.hid (R5.out.all hb5)
           have C6 := Lib.hid (C5.out.all hb5)
           have B6 := Lib.hid (B5.out.trans (hb5.mono (by omega)))
           have lt6 : w5.heap.size < w6.heap.size := Y6.out.lt
           clear hc5 hb5 hs5 K5 M5 N5 R5 C5 B5)
        | (have _t := tk10; clear _t tk10; refine wpList_storeM rfl 90 (.tmp 5) (.tmp 13) rfl w5.heap.size 0 rfl (KV u) rfl 90 _ Y6.out (by rw [HZL.out, HU.out.1]; exact Nat.le_refl _) (by rw [HU.out.1]; exact Try.sizeKey) HU.out.2 ?_
           intro w7 hc7 ha7
           rw [lay'_all (by rw [HZL.out, HU.out.1])] at hc7
           have Y7 := Lib.hid hc7
           have K7 := Lib.hid (K6.out.kept (at_grown ha7) (fun r e => by cases e; exact ⟨_, Y6.out, fun h => by cases h⟩))
           have M7 := Lib.hid (M6.out.kept (at_grown ha7) (by simp; omega))
           have N7 := Lib.hid (ha7.cm N6.out (by omega))
           have R7 := Lib.hid (ha7.cm R6.out (by omega))
           have C7 := Lib.hid (ha7.cm C6.out (by omega))
           have B7 : Hid (Below b w w7) := Lib.hid (B6.out.trans (ha7.below (by omega)))
           have lt7 : w6.heap.size ≤ w7.heap.size := Nat.le_of_eq ha7.size.symm
           clear hc7 ha7 Y6 K6 M6 N6 R6 C6 B6)
        | (have _t := tk11; clear _t tk11; refine wpList_loadM rfl 90 (.tmp 5) rfl w5.heap.size 0 rfl 90 (KV u) (KV u) Y7.out (fun j _ => by rw [Nat.zero_add]) _ Try.underlying90 rfl (by rw [HU.out.1]; exact Try.sizeKey) ?_)
        | (have _t := tk12; clear _t tk12; at_lookup; refine wpList_lookup_held _ rfl _ _ 87 60 rfl lawK Try.underlying87 (Try.zeroSet _) rfl M7.out.own _ (kl u) rfl HKEY.out (HELT.out _) ?_)
        | (have _t := tk13; clear _t tk13; go_at_call 48; (with_reducible refine (each_any (clsB nx n u) _).mono ?_); rintro e w8 ⟨rfl, rfl⟩))
    have X8 := Lib.hid (Cm.new (w := w7) (T := 60) (cs := bL (clsB nx n u)) rfl)
    have hb8 : Below w7.heap.size w7 (w7.alloc (.cells (bL (clsB nx n u)).toArray 60)) := by go_grown
    have K8 := Lib.hid (K7.out.below hb8)
    have M8 := Lib.hid (M7.out.below hb8)
    have N8 := Lib.hid (N7.out.all hb8)
    have R8 := Lib.hid (R7.out.all hb8)
    have C8 := Lib.hid (C7.out.all hb8)
    have Y8 := Lib.hid (Y7.out.all hb8)
    have B8 := Lib.hid (B7.out.trans (hb8.mono (by omega)))
    have lt8 : w7.heap.size < (w7.alloc (.cells (bL (clsB nx n u)).toArray 60)).heap.size := X8.out.lt
    clear hb8 K7 M7 N7 R7 C7 Y7 B7
    generalize w7.alloc (.cells (bL (clsB nx n u)).toArray 60) = w8 at *
    have HDL : Hid (∀ E ∈ Ds, E < w8.heap.size) := Lib.hid (fun E hE => (K8.out.2 E hE).2.1)
    obtain ⟨p, hp⟩ : ∃ p, p = clsB nx n u := ⟨_, rfl⟩
    rw [← hp] at X8 ⊢
    have HP := Lib.hid hp
    clear hp
    refine (wpIn_wide (n := 3)).1 ?_
    refine wpIn_rangeFunc_ownF rfl (by omega) (gf := 57) (lb := #[.pointer (some ⟨w7.heap.size, 0, none⟩)]) rfl trivial (enters_of Try.func57 (by kernel_rfl) rfl)
      (each_stops 2 (by omega) w7.heap.size p (fun _ _ => True) w8 X8.out) (fun _ _ => trivial) (fun _ _ _ _ _ _ _ _ => trivial) (Below.refl _ _) (fun _ => rfl)
      (fun pre W => Cm W w1.heap.size 39 (ints (rowF (nrowAt nx n j (pre.map Fin.val)))) ∧ Cm W w.heap.size 39 (ints (rowF fun _ => 0)) ∧ Cm W B 3 [.int .i64 j] ∧ Cm W w5.heap.size 90 (KV u) ∧ Below b w W ∧ Marks w.heap.size W Ds ∧ ClsMap Try.prog 90 W b kl nx n j c' D')
      (fun _ _ _ => False)
      (OwnFrom.and (Own.from (cm_ownG _ _ (fun (pre : List (Fin 16)) => ints (rowF (nrowAt nx n j (pre.map Fin.val))))) _) (OwnFrom.and (Own.from (cm_ownG _ _ (fun _ => ints (rowF fun _ => 0))) _) (OwnFrom.and (Own.from (cm_ownG _ _ (fun _ => [.int .i64 j])) _) (OwnFrom.and (Own.from (cm_ownG _ _ (fun _ => KV u)) _)
        (OwnFrom.and (ownFrom_below (by omega) (by omega)) (OwnFrom.and (fun s A A' row hs hg hr => hs.from HDL.out hg (fun r e => (hr r e).1)) (fun s A A' row hs hg hr => hs.kept hg (fun e => by have := (hr _ e.symm).1; omega))))))))
      (fun _ _ _ _ _ hs _ _ => hs)
      ⟨by rw [List.map_nil, nrowAt_nil]; exact N8.out, R8.out, C8.out, Y8.out, B8.out, K8.out, M8.out⟩
      (fun x => { tmps := #[.map (some b), undef, .pointer (some ⟨w.heap.size, 0, none⟩), .pointer (some ⟨w1.heap.size, 0, none⟩), .pointer (some ⟨B, 0, none⟩), .pointer (some ⟨w5.heap.size, 0, none⟩), .int .i64 ((x.val : Nat) : Int), .map (some b), .int .i64 q, .bool true, u10, u11, .map (some b), .agg (KV u).toArray, .map (some b), .agg (KV u).toArray, .agg (bL p).toArray, .func (.func 57) #[] #[.pointer (some ⟨w7.heap.size, 0, none⟩)], .int .i64 ((x.val : Nat) : Int), u19, u20, u21, u22, u23, u24, u25], defers := [] }) ?assign ?body ?done ?stop
    case assign =>
      intro l x W K hK
      gi_wp2
      simpa using hK
    case body =>
      rintro l pre x W ⟨hN, hR, hC, hY, hB2, hK, hM2⟩ hlt
      have hx16 : ((x.val : Nat) : Int) < 16 := by have := x.isLt; omega
      have hx0 : (0 : Int) ≤ ((x.val : Nat) : Int) := Int.natCast_nonneg _
      have ck := rowF_cell hN x.isLt
      have fk : W.frozen? ⟨w1.heap.size, x.val, none⟩ = false := hN.frozen _
      have c4 : W.cell? ⟨B, 0, none⟩ = some (.int .i64 j) := by rw [hC.cell]; rfl
      have qN := Lib.hid hN
      have qR := Lib.hid hR
      have qC := Lib.hid hC
      have qY := Lib.hid hY
      have qB := Lib.hid hB2
      have qK := Lib.hid hK
      have qM := Lib.hid hM2
      clear hN hR hC hY hB2 hK hM2
      generalize nrowAt nx n j (pre.map Fin.val) x.val = zz at ck
      gi_wp2
      refine ⟨KeepsOthers.setCell _ _ _, trivial, ?_, qR.out.other (by omega) _ _, qC.out.other (by omega) _ _, qY.out.other (by omega) _ _, qB.out.setCell (p := ⟨w1.heap.size, x.val, none⟩) (by show b ≤ w1.heap.size; omega) _, qK.out.setCell _ _, qM.out.kept (at_grown (At.setCell W w1.heap.size x.val _)) (by simp; omega)⟩
      have h1 := qN.out.set x.val (.int .i64 j)
      rw [ints_set, rowF_set, nrowAt_app] at h1
      rw [List.map_append]
      exact h1
    case done =>
      rintro E ys W hE hys ⟨hN, hR, hC, hY, hB2, hK, hM2⟩ hK0
      rw [hys, HP.out, nrowAt_end hn huj] at hN
      have qN := Lib.hid hN
      have qR := Lib.hid hR
      have qC := Lib.hid hC
      have qY := Lib.hid hY
      have qB := Lib.hid hB2
      have qK := Lib.hid (hK.push HDL.out hE (by omega) hK0)
      have qM := Lib.hid hM2
      have hYl := hY.lt
      have c4 : W.cell? ⟨B, 0, none⟩ = some (.int .i64 j) := by rw [hC.cell]; rfl
      clear hN hR hC hY hB2 hK hM2 hK0 hys
      have hj0 : (0 : Int) ≤ (j : Int) := Int.natCast_nonneg _
      have hj17 : (j : Int) < 16 := by omega
      have tk14 : True := trivial
      have tk15 : True := trivial
      have tk16 : True := trivial
      go_wp2_with
        (first
          | (have _t := tk14; clear _t tk14; refine wpList_loadM rfl 90 (.tmp 5) rfl w5.heap.size 0 rfl 90 (KV u) (KV u) qY.out (fun j _ => by rw [Nat.zero_add]) _ Try.underlying90 rfl (by rw [HU.out.1]; exact Try.sizeKey) ?_)
          | (have _t := tk15; clear _t tk15; at_delete; refine wpList_delete_own _ rfl _ _ 87 90 rfl 60 lawK Try.underlying87 HeldR b c' D' rfl qM.out.own _ (kl u) rfl HKEY.out ?_
             intro w9 hown9 hturn9
             have hg9 := hturn9.grown
             have M9 := Lib.hid (qM.out.drop HZ.out hu huj hown9)
             have N9 := Lib.hid (qN.out.kept hg9 (by simp; omega))
             have R9 := Lib.hid (qR.out.kept hg9 (by simp; omega))
             have C9 := Lib.hid (qC.out.kept hg9 (by simp; omega))
             have K9 := Lib.hid (qK.out.kept hg9 (fun r e => by cases e; obtain ⟨es, ck, _, _, h1, _⟩ := hturn9; exact ⟨_, h1, fun h => by cases h⟩))
             have B9 : Hid (Below b w w9) := Lib.hid (qB.out.grown hg9 (by omega) (fun k e => by cases e; exact Nat.le_refl _))
             have lt9 : W.heap.size ≤ w9.heap.size := hg9.size
             have c9 : w9.cell? ⟨B, 0, none⟩ = some (.int .i64 j) := by rw [C9.out.cell]; rfl
             clear hown9 hturn9 hg9 qM qN qR qC qK qB qY c4)
          | (have _t := tk16; clear _t tk16; refine wpList_allocM (o := ⟨some 4, _, _, _, _, _⟩) rfl 3 rfl [.int .i64 0] Try.allocIntF ?_
             intro w10 hc1 hb1 hs1
             have C10 := Lib.hid hc1
             have M10 := Lib.hid (M9.out.below hb1)
             have N10 := Lib.hid (N9.out.all hb1)
             have R10 := Lib.hid (R9.out.all hb1)
             have K10 := Lib.hid (K9.out.below hb1)
             have B10 := Lib.hid (B9.out.trans (hb1.mono (by omega)))
             have lt10 : w9.heap.size < w10.heap.size := C10.out.lt
             have c10 : w10.cell? ⟨w9.heap.size, 0, none⟩ = some (.int .i64 0) := by rw [C10.out.cell]; rfl
             have f10 : w10.frozen? ⟨w9.heap.size, 0, none⟩ = false := C10.out.frozen 0
             clear hc1 hb1 hs1 M9 N9 R9 K9 B9 c9))
      have hC := (C10.out.set 0 (.int .i64 j)).set 0 (.int .i64 ((j : Int) + 1))
      have e1 : [Value.int .i64 0] = ([Value.int .i64 0] : List Value) := rfl
      refine ⟨⟨_, _, _, _, _, _, _, _, _, _, _, _, _, _, _, _, _, _, _, _, _, j + 1, w9.heap.size, E :: Ds, Lib.hid ⟨(K10.out.setCell _ _).setCell _ _, ⟨c', _, (M10.out.kept (at_grown (At.setCell w10 w9.heap.size 0 _)) (by simp; omega)).kept (at_grown (At.setCell _ w9.heap.size 0 _)) (by simp; omega)⟩, (N10.out.other (by omega) _ _).other (by omega) _ _, (R10.out.other (by omega) _ _).other (by omega) _ _, hC, by omega, by omega, (B10.out.setCell (p := ⟨w9.heap.size, 0, none⟩) (by show b ≤ w9.heap.size; omega) _).setCell (p := ⟨w9.heap.size, 0, none⟩) (by show b ≤ w9.heap.size; omega) _, by simp [World.setCell]; omega⟩, rfl⟩, ?_⟩
      have n1 : numAt (.pointer (some ⟨B, 0, none⟩)) wr = j := numAt_eq HC.out
      have n2 : numAt (.pointer (some ⟨w9.heap.size, 0, none⟩)) ((w10.setCell ⟨w9.heap.size, 0, none⟩ (.int .i64 j)).setCell ⟨w9.heap.size, 0, none⟩ (.int .i64 ((j : Int) + 1))) = j + 1 := numAt_eq (j := j + 1) hC
      show 17 - numAt (.pointer (some ⟨w9.heap.size, 0, none⟩)) _ < 17 - numAt (.pointer (some ⟨B, 0, none⟩)) wr
      rw [n1, n2]
      omega
    case stop =>
      rintro E cc pre W _ _ h _
      exact h.elim
end Go.Proofs.Ytodjohdbngbpaab

/-
  grid.split: the classes of the step after some classes. Condition: the model is valid, and the classes are numbers of worlds.
-/
namespace Go.Proofs.Ytodjohdbngbpaab
open Go.RowKit Go.WideShapes
open Go Go.Deep
set_option linter.unusedSimpArgs false

theorem Try.cellsKey : Try.prog.cellsOf 90 = 1 + 3 * 16 := by kernel_rfl
theorem Try.cellsMet : Try.prog.cellsOf 88 = 3 * 16 := by kernel_rfl
theorem Try.cellsSet : Try.prog.cellsOf 60 = 16 := by kernel_rfl
theorem Try.cellsBool : Try.prog.cellsOf 4 = 1 := by kernel_rfl
theorem Try.cellsInt : Try.prog.cellsOf 3 = 1 := by kernel_rfl
theorem Try.types3 : 3 ≤ Try.prog.types.size := of_decide_eq_true (by kernel_rfl)
theorem choose_key {P : Program} {K : TypeId} {N : Nat} {kv : Nat → Value} (h : ∀ i, i < N → ∃ l, keyOf P K (kv i) = some l) : ∃ kl : Nat → Lit, ∀ i, i < N → keyOf P K (kv i) = some (kl i) := by
  classical
  refine ⟨fun i => if hi : i < N then Classical.choose (h i hi) else .bool false, fun i hi => ?_⟩
  simp only [hi, dif_pos]
  exact Classical.choose_spec (h i hi)
theorem key_of (m : Md) (c : List Int) (hc : inRow m c) (hn : m.facts.length ≤ 16) (i : Nat) (hi : i < m.facts.length) : ∃ l, keyOf Try.prog 90 (.agg (keyV m c i).toArray) = some l := by
  have hb := hc.2 i hi
  exact keyOf_key Try.underlying90 rfl rfl rfl rfl (by decide) (by decide) Try.underlying3 Try.cellsInt Try.underlying88 Try.underlying60 Try.underlying4 Try.cellsKey Try.cellsMet Try.cellsSet Try.cellsBool Try.keyType Try.types3
    (WalkArith.wf_i64 (by omega)) (by simp only [List.length_append, bL_len]) (keyV_bools m c i)
theorem keyV_len (m : Md) (c : List Int) (i : Nat) : (keyV m c i).length = 49 := by unfold keyV; simp [bL_len]
theorem keyV_one {m : Md} {c : List Int} {i : Nat} {v : Value} (h : v ∈ keyV m c i) : v.oneCell' = true := by
  unfold keyV at h
  rcases List.mem_cons.1 h with rfl | h
  · rfl
  · rcases List.mem_append.1 h with h | h
    · exact bL_one h
    · rcases List.mem_append.1 h with h | h <;> exact bL_one h
/-- the key that keyOf fills in -/
theorem kL_key {m : Md} {c : List Int} (hn : m.facts.length ≤ 16) (i : Nat) : kL (c.getD i 0) (metM m.blocks m.facts.length i (fun v => c.getD v 0)) m.blocks.length = keyV m c i := by
  have g : ∀ k, bL (fun y => decide (k < m.blocks.length) && metM m.blocks m.facts.length i (fun v => c.getD v 0) k y) = bL (metB m c k i) := fun k => bL_congr fun y _ => by
    unfold metB
    congr 1
    show (List.range 16).any (fun v => blkB m.blocks m.facts.length k i v && (c.getD v 0 == (y : Int))) = _
    rw [Bool.eq_iff_iff, setB_in, List.any_eq_true]
    constructor
    · rintro ⟨v, _, h⟩
      rw [Bool.and_eq_true, beq_iff_eq] at h
      have h1 := h.1
      unfold blkB cut at h1
      rw [Bool.and_eq_true, decide_eq_true_eq, beq_iff_eq] at h1
      exact ⟨v, h1.1, by unfold sameW; rw [beq_iff_eq]; exact h1.2.symm, h.2⟩
    · rintro ⟨v, hv, h1, h2⟩
      refine ⟨v, List.mem_range.2 (by omega), ?_⟩
      unfold sameW at h1
      rw [beq_iff_eq] at h1
      rw [Bool.and_eq_true, beq_iff_eq]
      refine ⟨?_, h2⟩
      unfold blkB cut
      rw [Bool.and_eq_true, decide_eq_true_eq, beq_iff_eq]
      exact ⟨hv, h1.symm⟩
  unfold kL keyV
  rw [g 0, g 1, g 2]
theorem inRow_row {m : Md} {c : List Int} (hc : inRow m c) (hn : m.facts.length ≤ 16) : ∀ v, v < 16 → 0 ≤ c.getD v 0 ∧ c.getD v 0 < 16 := by
  intro v _
  rcases Nat.lt_or_ge v m.facts.length with h | h
  · have := hc.2 v h; omega
  · rw [List.getD_eq_getElem?_getD, List.getElem?_eq_none (by rw [hc.1]; exact h)]; exact ⟨by decide, by decide⟩

set_option maxRecDepth 100000 in
set_option maxHeartbeats 32000000 in
theorem split_any (m : Md) (c : List Int) (hm : mdOk m = true) (hc : inRow m c) (w : World) :
    Calls Try.prog 50 #[.agg (ints (gL m.facts.length m.blocks.length m.facts m.blocks m.actual)).toArray, .agg (ints (pad c)).toArray] w
      fun e w' => e = .returned (.agg (ints (pad (finer m c))).toArray) ∧ Below w.heap.size w w' := by
  obtain ⟨p1, p2, p3, p4, -, -, -, -⟩ := mdOk_parts hm
  have hs := md_small hm
  rw [rowF_pad c (by rw [hc.1]; exact p2)]
  obtain ⟨kl, hkl⟩ := choose_key (fun i hi => key_of m c hc p2 i hi)
  have HZ := Lib.hid (keyz_of lawK hc p2 p4 hkl)
  have HKL := Lib.hid hkl
  have HL : Hid ((ints (gL m.facts.length m.blocks.length m.facts m.blocks m.actual)).length = 67) := Lib.hid (by rw [ints_len]; exact gL_len hs)
  have HC0 := Lib.hid (fun (W : World) b T (h : Cm W b T (ints (gL m.facts.length m.blocks.length m.facts m.blocks m.actual))) => h.g0)
  have KK : Hid (∀ i, i < 16 → ∀ W, Calls Try.prog 58 #[.agg (ints (gL m.facts.length m.blocks.length m.facts m.blocks m.actual)).toArray, .int .i64 (i : Nat), .agg (ints (rowF fun i => c.getD i 0)).toArray] W
      fun e w' => e = .returned (.agg (keyV m c i).toArray) ∧ Below W.heap.size W w') := Lib.hid (fun i hi W => by
    have h := keyOf_any m.facts.length m.blocks.length m.actual m.facts m.blocks hs p2 p4 i hi (fun v => c.getD v 0) (inRow_row hc p2) W
    rw [kL_key p2 i] at h
    exact h)
  have HKN := Lib.hid (keyV_len m c)
  have HKO := Lib.hid (fun i v (hv : v ∈ keyV m c i) => keyV_one hv)
  have KT := Lib.hid (fun b n' D W (h : ClsMap Try.prog 90 W b kl (nxt m c) m.facts.length 0 n' D) => takeNumbers_any b m.facts.length n' (keyV m c) kl (nxt m c) D W p2 (fun i _ => ⟨keyV_len m c i, fun v hv => keyV_one hv⟩) HZ.out h)
  have HE := Lib.hid (fun J (h : ∀ w, w < m.facts.length → nxt m c w < J) => nrow_end (m := m) (c := c) (j := J) p2 h)
  clear hs hm hc hkl p3 p4
  generalize nxt m c = nx at *
  generalize keyV m c = KV at *
  have HRS : Hid ((ints (pad (finer m c))).length = 16) := Lib.hid (by rw [ints_len, pad_len (by rw [finer_len]; exact p2)])
  generalize pad (finer m c) = RES at *
  generalize (fun i => c.getD i 0) = g at *
  generalize gL m.facts.length m.blocks.length m.facts m.blocks m.actual = G at *
  generalize m.facts.length = n at *
  obtain ⟨Z0, HZL, HAK⟩ : ∃ Z : List Value, Hid (Z.length = 49) ∧ Hid (∀ W : World, (Instr.alloc 90 true (.tuple #[])).run Try.prog W = .ok (.pointer (some ⟨W.heap.size, 0, none⟩)) (W.alloc (.cells Z.toArray 90))) := ⟨_, Lib.hid (kL_len 0 (fun _ _ => false) 0), Lib.hid Try.allocKey⟩
  have hmm := @run_makeMap Try.prog
  go_enter Try.func50, Try.ntmps50
  have tk1 : True := trivial
  go_wp2_with
    (first
      | (have _t := tk1; clear _t tk1; refine wpList_allocM (o := ⟨some 4, _, _, _, _, _⟩) rfl 39 rfl (ints (rowF fun _ => 0)) Try.allocRowF ?_
         intro w1 hc1 hb1 hs1
         have G1 : Hid (Cm w1 w.heap.size 42 (ints G)) := Lib.hid (Cm.all ((Cm.new rfl).alloc _) hb1)
         have V1 : Hid (Cm w1 (w.heap.size + 1) 39 (ints (rowF g))) := Lib.hid (Cm.all (Cm.new (by simp)) hb1)
         have R1 : Hid (Cm w1 (w.heap.size + 1 + 1) 39 (ints (rowF fun _ => 0))) := Lib.hid (by simpa using hc1)
         have B1 : Hid (Below w.heap.size w w1) := Lib.hid (Below.trans (by go_grown) (hb1.mono (by simp; omega)))
         have lt1 : w.heap.size + 1 + 1 < w1.heap.size := R1.out.lt
         have c1 := HC0.out _ _ _ (G1.out.alloc (.map #[] 0))
         clear hc1 hb1 hs1))
  clear c1
  have M2 : Hid (ClsMap Try.prog 90 (w1.alloc (.map #[] 0)) w1.heap.size kl nx 0 0 0 (.map [])) := Lib.hid (ClsMap.made w1 _ _ kl nx)
  have hb2 : Below w1.heap.size w1 (w1.alloc (.map #[] 0)) := by go_grown
  have G2 := Lib.hid (G1.out.all hb2)
  have V2 := Lib.hid (V1.out.all hb2)
  have R2 := Lib.hid (R1.out.all hb2)
  have B2 := Lib.hid (B1.out.trans (hb2.mono (by omega)))
  have lt2 : w1.heap.size < (w1.alloc (.map #[] 0)).heap.size := by simp
  clear hb2 G1 V1 R1 B1
  generalize w1.alloc (.map #[] 0) = w2 at *
  go_loopw [12] (fun iv wr => ∃ (k : Nat) (D : DataW Value), k ≤ n ∧ iv = .int .i64 k ∧ Hid (ClsMap Try.prog 90 wr w1.heap.size kl nx k 0 k D) ∧ Hid (Cm wr w.heap.size 42 (ints G)) ∧ Hid (Cm wr (w.heap.size + 1) 39 (ints (rowF g))) ∧ Hid (Cm wr (w.heap.size + 1 + 1) 39 (ints (rowF fun _ => 0))) ∧ Hid (Below w.heap.size w wr)) (fun iv _ => n - (intOf iv).toNat)
  case atStart => exact ⟨0, _, Nat.zero_le _, rfl, M2, G2, V2, R2, B2⟩
  case round =>
    clear M2 G2 V2 R2 B2
    obtain ⟨k, D, hk, rfl, MR, GR, VR, RR, BR⟩ := hrel
    have ltr : w1.heap.size < wr.heap.size := MR.out.own.lt
    by_cases hlt : k < n
    · have hk0 : (0 : Int) ≤ (k : Int) := Int.natCast_nonneg _
      have hk16 : k < 16 := by omega
      have hk16' : (k : Int) < 16 := by omega
      have hlt' : (k : Int) < (n : Int) := by omega
      have HKk := Lib.hid (KK.out k hk16)
      have HKEY := Lib.hid (HKL.out k hlt)
      have HLK := Lib.hid (MR.out.look HZ.out hlt)
      have HU := Lib.hid (clsB_upd nx k)
      have HV1 := Lib.hid (HKN.out k)
      have HV2 := Lib.hid (HKO.out k)
      have tk2 : True := trivial
      have tk3 : True := trivial
      have tk4 : True := trivial
      have tk5 : True := trivial
      have tk6 : True := trivial
      have tk7 : True := trivial
      have tk8 : True := trivial
      have tk9 : True := trivial
      have tk10 : True := trivial
      have tk11 : True := trivial
      have tk12 : True := trivial
      have tk13 : True := trivial
      go_wp2_with
        (first
          | (have _t := tk2; clear _t tk2; refine wpList_loadM rfl 42 (.tmp 2) rfl w.heap.size 0 rfl 42 (ints G) (ints G) GR.out (fun j _ => by rw [Nat.zero_add]) _ Try.underlying42 rfl (by rw [HL.out]; exact Try.sizeGrid) ?_)
          | (have _t := tk3; clear _t tk3; refine wpList_loadM rfl 39 (.tmp 3) rfl (w.heap.size + 1) 0 rfl 39 (ints (rowF g)) _ VR.out (fun j _ => by rw [Nat.zero_add]) _ Try.underlying39 rfl (by rw [rowF_ints_len]; exact Try.sizeRow) ?_)
          | (have _t := tk4; clear _t tk4; go_at_call 58; (with_reducible refine (HKk.out _).mono ?_); rintro e w4 ⟨rfl, hb4⟩; have M4 := Lib.hid (MR.out.below hb4); have G4 := Lib.hid (GR.out.all hb4); have V4 := Lib.hid (VR.out.all hb4); have R4 := Lib.hid (RR.out.all hb4); have B4 := Lib.hid (BR.out.trans (hb4.mono BR.out.size)); have lt4 : wr.heap.size ≤ w4.heap.size := hb4.size; clear hb4 MR GR VR RR BR)
          | (have _t := tk5; clear _t tk5; refine wpList_allocM (o := ⟨some 7, _, _, _, _, _⟩) rfl 90 rfl Z0 HAK.out ?_
             intro w5 hc5 hb5 hs5
             have Y5 := Lib.hid hc5
             have M5 := Lib.hid (M4.out.below hb5)
             have G5 := Lib.hid (G4.out.all hb5)
             have V5 := Lib.hid (V4.out.all hb5)
             have R5 := Lib.hid (R4.out.all hb5)
             have B5 := Lib.hid (B4.out.trans (hb5.mono B4.out.size))
             have lt5 : w4.heap.size < w5.heap.size := Y5.out.lt
             clear hc5 hb5 hs5 M4 G4 V4 R4 B4)
          | (have _t := tk6; clear _t tk6; refine wpList_storeM rfl 90 (.tmp 7) (.tmp 18) rfl w4.heap.size 0 rfl (KV k) rfl 90 _ Y5.out (by rw [HZL.out, HV1.out]; exact Nat.le_refl _) (by rw [HV1.out]; exact Try.sizeKey) HV2.out ?_
             intro w6 hc7 ha7
             rw [lay'_all (by rw [HZL.out, HV1.out])] at hc7
             have Y6 := Lib.hid hc7
             have M6 := Lib.hid (M5.out.kept (at_grown ha7) (by simp; omega))
             have G6 := Lib.hid (ha7.cm G5.out (by omega))
             have V6 := Lib.hid (ha7.cm V5.out (by omega))
             have R6 := Lib.hid (ha7.cm R5.out (by omega))
             have B6 : Hid (Below w.heap.size w w6) := Lib.hid (B5.out.trans (ha7.below (by omega)))
             have lt6 : w5.heap.size ≤ w6.heap.size := Nat.le_of_eq ha7.size.symm
             clear hc7 ha7 Y5 M5 G5 V5 R5 B5)
          | (have _t := tk7; clear _t tk7; refine wpList_loadM rfl 90 (.tmp 7) rfl w4.heap.size 0 rfl 90 (KV k) (KV k) Y6.out (fun j _ => by rw [Nat.zero_add]) _ Try.underlying90 rfl (by rw [HV1.out]; exact Try.sizeKey) ?_)
          | (have _t := tk8; clear _t tk8; at_lookup; refine wpList_lookup_held _ rfl _ _ 87 60 rfl lawK Try.underlying87 (Try.zeroSet _) rfl M6.out.own _ (kl k) rfl HKEY.out HLK.out ?_)
          | (have _t := tk9; clear _t tk9; refine wpList_allocM (o := ⟨some 8, _, _, _, _, _⟩) rfl 60 rfl (bL (fun _ => false)) Try.allocSet ?_
             intro w7 hc5 hb5 hs5
             have S7 := Lib.hid hc5
             have Y7 := Lib.hid (Y6.out.all hb5)
             have M7 := Lib.hid (M6.out.below hb5)
             have G7 := Lib.hid (G6.out.all hb5)
             have V7 := Lib.hid (V6.out.all hb5)
             have R7 := Lib.hid (R6.out.all hb5)
             have B7 := Lib.hid (B6.out.trans (hb5.mono B6.out.size))
             have lt7 : w6.heap.size < w7.heap.size := S7.out.lt
             clear hc5 hb5 hs5 M6 G6 V6 R6 B6 Y6)
          | (have _t := tk10; clear _t tk10; refine wpList_storeM rfl 60 (.tmp 8) (.tmp 21) rfl w6.heap.size 0 rfl (bL (clsB nx k k)) rfl 60 _ S7.out (by rw [bL_len, bL_len]; exact Nat.le_refl _) (by rw [bL_len]; exact Try.sizeSet) (fun v hv => bL_one hv) ?_
             intro w8 hc7 ha7
             rw [lay'_all (by rw [bL_len, bL_len])] at hc7
             have ck := set_store _ hk16 hc7
             have fk : w8.frozen? ⟨w6.heap.size, k, none⟩ = false := hc7.frozen k
             have S9 := Lib.hid (hc7.set k (.bool true))
             rw [bL_set, HU.out] at S9
             have Y9 := Lib.hid ((ha7.cm Y7.out (by omega)).other (b' := w6.heap.size) (by omega) k (.bool true))
             have M9 := Lib.hid ((M7.out.kept (at_grown ha7) (by simp; omega)).kept (at_grown (At.setCell w8 w6.heap.size k (.bool true))) (by simp; omega))
             have G9 := Lib.hid ((ha7.cm G7.out (by omega)).other (b' := w6.heap.size) (by omega) k (.bool true))
             have V9 := Lib.hid ((ha7.cm V7.out (by omega)).other (b' := w6.heap.size) (by omega) k (.bool true))
             have R9 := Lib.hid ((ha7.cm R7.out (by omega)).other (b' := w6.heap.size) (by omega) k (.bool true))
             have B9 : Hid (Below w.heap.size w (w8.setCell ⟨w6.heap.size, k, none⟩ (.bool true))) := Lib.hid ((B7.out.trans (ha7.below (by omega))).setCell (p := ⟨w6.heap.size, k, none⟩) (by show _ ≤ w6.heap.size; omega) _)
             have lt8 : w7.heap.size ≤ w8.heap.size := Nat.le_of_eq ha7.size.symm
             clear hc7 ha7 S7 M7 G7 V7 R7 B7 Y7)
          | (have _t := tk11; clear _t tk11; refine wpList_loadM rfl 90 (.tmp 7) rfl w4.heap.size 0 rfl 90 (KV k) (KV k) Y9.out (fun j _ => by rw [Nat.zero_add]) _ Try.underlying90 rfl (by rw [HV1.out]; exact Try.sizeKey) ?_)
          | (have _t := tk12; clear _t tk12; refine wpList_loadM rfl 60 (.tmp 8) rfl w6.heap.size 0 rfl 60 _ _ S9.out (fun j _ => by rw [Nat.zero_add]) _ Try.underlying60 rfl (by rw [bL_len]; exact Try.sizeSet) ?_)
          | (have _t := tk13; clear _t tk13; at_mapUpdate; refine wpList_mapUpdate_own _ rfl _ _ _ 87 rfl 90 60 lawK Try.underlying87 HeldR w1.heap.size k D rfl M9.out.own (by unfold maxLen; omega) _ _ (kl k) rfl rfl HKEY.out (.held (.agg (bL (clsB nx (k + 1) k)).toArray)) [] rfl ?_
             intro w10 hown10 hg10
             have M10 := Lib.hid (M9.out.push HZ.out hlt lawK hown10)
             have G10 := Lib.hid (G9.out.kept hg10 (by simp; omega))
             have V10 := Lib.hid (V9.out.kept hg10 (by simp; omega))
             have R10 := Lib.hid (R9.out.kept hg10 (by simp; omega))
             have B10 : Hid (Below w.heap.size w w10) := Lib.hid (B9.out.grown hg10 B9.out.size (fun j e => by cases e; omega))
             clear hown10 hg10 M9 G9 V9 R9 B9 S9 Y9 ck fk))
      go_roundw
      case rel => exact ⟨k + 1, _, by omega, by go_num, M10, G10, V10, R10, B10⟩
      case measure => simp [intOf]; omega
    · obtain rfl : k = n := by omega
      have KTn := Lib.hid (KT.out _ _ _ _ MR.out)
      have tk14 : True := trivial
      have tk15 : True := trivial
      go_wp2_with
        (first
          | (have _t := tk14; clear _t tk14; go_at_call 59; (with_reducible refine KTn.out.mono ?_); rintro e w4 ⟨⟨J, hJ, rfl⟩, hb4⟩; rw [HE.out J hJ]; have R4 := Lib.hid (RR.out.below hb4 (by omega)); have B4 := Lib.hid (BR.out.trans (hb4.mono (by omega))); clear hb4)
          | (have _t := tk15; clear _t tk15; refine wpList_storeM rfl 39 (.tmp 4) (.tmp 29) rfl (w.heap.size + 1 + 1) 0 rfl (ints RES) rfl 39 _ R4.out (by rw [rowF_ints_len, HRS.out]; exact Nat.le_refl _) (by rw [HRS.out]; exact Try.sizeRow) (fun v hv => ints_one hv) ?_
             intro w9 hc9 ha9
             rw [lay'_all (by rw [rowF_ints_len, HRS.out])] at hc9
             have C9 := Lib.hid hc9
             have B9 : Hid (Below w.heap.size w w9) := Lib.hid (B4.out.trans (ha9.below (by omega)))
             clear hc9 ha9))
      refine bodyPost_ret (results_mid1 Try.results50 _ _ (w.heap.size + 1 + 1) (ints RES) _ rfl C9.out.whole Try.underlying39 rfl (by rw [HRS.out]; exact Try.sizeRow)) rfl ?_
      exact ⟨rfl, B9.out⟩
end Go.Proofs.Ytodjohdbngbpaab

/-
  grid.steps, grid.classes: the classes of all steps, and the last ones. Condition: the model is valid.
-/
namespace Go.Proofs.Ytodjohdbngbpaab
open Go.RowKit Go.WideShapes
open Go Go.Deep
set_option linter.unusedSimpArgs false

theorem Try.bsRow (w : World) (f : Nat → Int) : (Instr.buildSlice 71 1 #[(0, .agg (ints (rowF f)).toArray)]).run Try.prog w = .ok (.slice (some ⟨w.heap.size, 0, none⟩) 1 1) (w.alloc (.cells (ints (rowF f)).toArray 39)) := by kernel_rfl
theorem Try.infoRow : (Try.prog.info? 39).map (fun i => (i.zero, i.size, i.bytes)) = some (some (.agg (ints (rowF fun _ => 0)).toArray), 16, 128) := by kernel_rfl
/-- the cells of the classes of a step -/
def cF (m : Md) (k : Nat) : Nat → Int := fun i => (clsAt m k).getD i 0
def rowsV (m : Md) (n : Nat) : List Value := (List.range n).flatMap fun k => ints (rowF (cF m k))
theorem rowsV_succ (m : Md) (n : Nat) : rowsV m (n + 1) = rowsV m n ++ ints (rowF (cF m n)) := by unfold rowsV; rw [List.range_succ, List.flatMap_append]; simp
theorem cF_pad {m : Md} (hn : m.facts.length ≤ 16) (k : Nat) : pad (clsAt m k) = rowF (cF m k) := rowF_pad _ (by rw [clsAt_len]; exact hn)
theorem cF_same {m : Md} (hn : m.facts.length ≤ 16) {j k : Nat} : rowF (cF m j) = rowF (cF m k) ↔ clsAt m j = clsAt m k := by
  constructor
  · intro h
    apply List.ext_getElem?
    intro i
    rcases Nat.lt_or_ge i m.facts.length with hi | hi
    · have h1 : cF m j i = cF m k i := by
        have := congrArg (fun l => l.getD i 0) h
        simp only [rowF_get _ (show i < 16 by omega)] at this
        exact this
      rw [getD_some 0 (by rw [clsAt_len]; exact hi), getD_some 0 (by rw [clsAt_len]; exact hi)]
      exact congrArg some h1
    · rw [List.getElem?_eq_none (by rw [clsAt_len]; exact hi), List.getElem?_eq_none (by rw [clsAt_len]; exact hi)]
  · intro h; unfold cF; rw [h]
/-- how long a slice is -/
def lenOf : Value → Nat
  | .slice _ n _ => n
  | _ => 0
theorem own_len {w : World} {base n sz : Nat} {E : TypeId} {v : Value} {xs : List Value} (h : w.ownsRow base E sz v n xs) : lenOf v = n := by
  rcases h.2 with ⟨rfl, h0⟩ | ⟨g, cap, cur, rfl, _⟩
  · exact h0.symm
  · rfl

set_option maxRecDepth 100000 in
set_option maxHeartbeats 32000000 in
theorem steps_any (m : Md) (hm : mdOk m = true) (w : World) :
    Calls Try.prog 43 #[.agg (ints (gL m.facts.length m.blocks.length m.facts m.blocks m.actual)).toArray] w
      fun e w' => ∃ v, e = .returned v ∧ w'.ownsRow w.heap.size 39 16 v (stab m + 1) (rowsV m (stab m + 1)) ∧ Below w.heap.size w w' := by
  obtain ⟨p1, p2, p3, p4, -, -, -, -⟩ := mdOk_parts hm
  have hs := md_small hm
  have KS := Lib.hid (fun k W => split_any m (clsAt m k) hm (clsAt_row k) W)
  have HL : Hid ((ints (gL m.facts.length m.blocks.length m.facts m.blocks m.actual)).length = 67) := Lib.hid (by rw [ints_len]; exact gL_len hs)
  have HC0 := Lib.hid (fun (W : World) b T (h : Cm W b T (ints (gL m.facts.length m.blocks.length m.facts m.blocks m.actual))) => h.g0)
  have HF : Hid (∀ j, j < (ints (pad m.facts)).length → (ints (gL m.facts.length m.blocks.length m.facts m.blocks m.actual))[2 + j]? = (ints (pad m.facts))[j]?) := Lib.hid (fun j hj => by rw [ints_len, pad_len hs.1] at hj; rw [ints_get, ints_get, gL_f hs hj])
  have HFL : Hid ((ints (pad m.facts)).length = 16) := Lib.hid (by rw [ints_len, pad_len hs.1])
  have KN := Lib.hid (fun W => numbered_any (pad m.facts) m.facts.length W (pad_len hs.1) p2)
  rw [pad_take' rfl, show num m.facts = clsAt m 0 from rfl, cF_pad p2] at KN
  have KS : Hid (∀ k W, Calls Try.prog 50 #[.agg (ints (gL m.facts.length m.blocks.length m.facts m.blocks m.actual)).toArray, .agg (ints (rowF (cF m k))).toArray] W fun e W' => e = .returned (.agg (ints (rowF (cF m (k + 1)))).toArray) ∧ Below W.heap.size W W') := Lib.hid (fun k W => by
    have h := KS.out k W
    rw [show finer m (clsAt m k) = clsAt m (k + 1) from rfl, cF_pad p2, cF_pad p2] at h
    exact h)
  have HEQ := Lib.hid (fun k W => run_row_eq (rowF (cF m (k + 1))) (rowF (cF m k)) (rowF_len _) (rowF_len _) W)
  have HSM := Lib.hid (fun k => cF_same (m := m) p2 (j := k + 1) (k := k))
  have HEN := Lib.hid (fun j h => clsAt_ends (m := m) p1 (j := j) h)
  have HST := Lib.hid (fun j h hs => stab_at (m := m) p1 (j := j) h hs)
  have HRS := Lib.hid (rowsV_succ m)
  obtain ⟨i0, hi, hz0, hz1, hz2⟩ := info_parts Try.infoRow
  clear hs
  generalize gL m.facts.length m.blocks.length m.facts m.blocks m.actual = G at *
  go_enter Try.func43, Try.ntmps43
  have x1 : Cm (w.alloc (.cells (ints G).toArray 42)) w.heap.size 42 (ints G) := Cm.new rfl
  have G0 := Lib.hid x1
  have B0 : Hid (Below w.heap.size w (w.alloc (.cells (ints G).toArray 42))) := Lib.hid (by go_grown)
  have c0 := HC0.out _ _ _ x1
  clear x1
  have tk1 : True := trivial
  have tk2 : True := trivial
  have tk3 : True := trivial
  have tk4 : True := trivial
  have tk5 : True := trivial
  have tk6 : True := trivial
  go_wp2_with
    (first
      | (have _t := tk1; clear _t tk1; refine wpList_loadM rfl 39 (.tmp 6) rfl w.heap.size 2 rfl 42 (ints G) (ints (pad m.facts)) G0.out HF.out _ Try.underlying39 rfl (by rw [HFL.out]; exact Try.sizeRow) ?_)
      | (have _t := tk2; clear _t tk2; go_at_call 36; (with_reducible refine (KN.out _).mono ?_); rintro e w1 ⟨rfl, hb1⟩; have G1 := Lib.hid (G0.out.all hb1); have B1 := Lib.hid (B0.out.trans (hb1.mono B0.out.size)); have lt1 : w.heap.size < w1.heap.size := G1.out.lt; clear hb1 c0 G0 B0)
      | (have _t := tk3; clear _t tk3; refine wpList_allocM (o := ⟨some 3, _, _, _, _, _⟩) rfl 39 rfl (ints (rowF fun _ => 0)) Try.allocRowF ?_
         intro w2 hc1 hb1 hs1
         have C2 := Lib.hid hc1
         have G2 := Lib.hid (G1.out.all hb1)
         have B2 := Lib.hid (B1.out.trans (hb1.mono B1.out.size))
         have lt2 : w1.heap.size < w2.heap.size := C2.out.lt
         clear hc1 hb1 hs1 G1 B1)
      | (have _t := tk4; clear _t tk4; refine wpList_storeM rfl 39 (.tmp 3) (.tmp 10) rfl w1.heap.size 0 rfl (ints (rowF (cF m 0))) rfl 39 _ C2.out (by rw [rowF_ints_len, rowF_ints_len]; exact Nat.le_refl _) (by rw [rowF_ints_len]; exact Try.sizeRow) (fun v hv => ints_one hv) ?_
         intro w3 hc3 ha3
         rw [lay'_all (by rw [rowF_ints_len, rowF_ints_len])] at hc3
         have C3 := Lib.hid hc3
         have G3 := Lib.hid (ha3.cm G2.out (by omega))
         have B3 : Hid (Below w.heap.size w w3) := Lib.hid (B2.out.trans (ha3.below (by omega)))
         have lt3 : w2.heap.size ≤ w3.heap.size := Nat.le_of_eq ha3.size.symm
         clear hc3 ha3 C2 G2 B2)
      | (have _t := tk5; clear _t tk5; refine wpList_loadM rfl 39 (.tmp 3) rfl w1.heap.size 0 rfl 39 _ _ C3.out (fun j _ => by rw [Nat.zero_add]) _ Try.underlying39 rfl (by rw [rowF_ints_len]; exact Try.sizeRow) ?_)
      | (have _t := tk6; clear _t tk6; refine wpList_buildSliceM rfl 71 1 _ rfl #[(0, .agg (ints (rowF (cF m 0))).toArray)] (by simp only [List.map_toArray, List.map_cons, List.map_nil]; rfl) (ints (rowF (cF m 0))) 39 (Try.bsRow _ _) ?_
         intro w4 hc4 hb4
         have S4 := Lib.hid (own_cm1 (base := w3.heap.size) hc4 (Nat.le_refl _))
         have C4 := Lib.hid (C3.out.all hb4)
         have G4 := Lib.hid (G3.out.all hb4)
         have B4 := Lib.hid (B3.out.trans (hb4.mono B3.out.size))
         have lt4 : w3.heap.size < w4.heap.size := hc4.lt
         clear hc4 hb4 C3 G3 B3))
  rw [rowF_ints_len] at S4
  go_loopw [4] (fun sv wr => ∃ (k : Nat) (sv' : Value), sv' = sv ∧ k + 1 ≤ m.facts.length ∧ Hid (∀ i, i < k → clsAt m (i + 1) ≠ clsAt m i) ∧ Hid (wr.ownsRow w3.heap.size 39 16 sv' (k + 1) (rowsV m (k + 1))) ∧ Hid (Cm wr w1.heap.size 39 (ints (rowF (cF m k)))) ∧ Hid (Cm wr w.heap.size 42 (ints G)) ∧ Hid (Below w.heap.size w wr) ∧ w3.heap.size ≤ wr.heap.size) (fun sv _ => 17 - lenOf sv)
  case atStart => exact ⟨0, _, rfl, p1, Lib.hid (fun i h => by omega), Lib.hid (by rw [HRS.out]; exact S4.out), C4, G4, B4, by omega⟩
  case round =>
    clear S4 C4 G4 B4
    obtain ⟨k, sv, rfl, hk, HNE, SR, CR, GR, BR, ltr⟩ := hrel
    have HKS := Lib.hid (KS.out k)
    have HSB : Hid (∀ q, sv.ownBlock = some q → w3.heap.size ≤ q ∧ q < wr.heap.size) := Lib.hid (fun q hq => SR.out.lt q hq)
    have HLN := Lib.hid (own_len SR.out)
    by_cases hcc : clsAt m (k + 1) = clsAt m k
    · have heq : ∀ W : World, (Op.equalIn 10000 39 (.agg (ints (rowF (cF m (k + 1)))).toArray) (.agg (ints (rowF (cF m k))).toArray)).run Try.prog W = .ok true W := fun W => by have h := HEQ.out k W; rwa [decide_eq_true ((HSM.out k).2 hcc)] at h
      have HS := Lib.hid (HST.out k HNE.out hcc)
      clear hcc
      have tk7 : True := trivial
      have tk8 : True := trivial
      have tk9 : True := trivial
      have tk10 : True := trivial
      have tk11 : True := trivial
      have tk12 : True := trivial
      have tk13 : True := trivial
      go_wp2_with
        (first
          | (have _t := tk7; clear _t tk7; refine wpList_loadM rfl 42 (.tmp 1) rfl w.heap.size 0 rfl 42 (ints G) (ints G) GR.out (fun j _ => by rw [Nat.zero_add]) _ Try.underlying42 rfl (by rw [HL.out]; exact Try.sizeGrid) ?_)
          | (have _t := tk8; clear _t tk8; refine wpList_loadM rfl 39 (.tmp 3) rfl w1.heap.size 0 rfl 39 _ _ CR.out (fun j _ => by rw [Nat.zero_add]) _ Try.underlying39 rfl (by rw [rowF_ints_len]; exact Try.sizeRow) ?_)
          | (have _t := tk9; clear _t tk9; go_at_call 50; (with_reducible refine (HKS.out _).mono ?_); rintro e w5 ⟨rfl, hb5⟩; have S5 := Lib.hid (own_below' SR.out hb5); have C5 := Lib.hid (CR.out.all hb5); have G5 := Lib.hid (GR.out.all hb5); have B5 := Lib.hid (BR.out.trans (hb5.mono BR.out.size)); have lt5 : wr.heap.size ≤ w5.heap.size := hb5.size; clear hb5 SR CR GR BR)
          | (have _t := tk10; clear _t tk10; refine wpList_allocM (o := ⟨some 5, _, _, _, _, _⟩) rfl 39 rfl (ints (rowF fun _ => 0)) Try.allocRowF ?_
             intro w6 hc1 hb1 hs1
             have N6 := Lib.hid hc1
             have S6 := Lib.hid (own_below' S5.out hb1)
             have C6 := Lib.hid (C5.out.all hb1)
             have G6 := Lib.hid (G5.out.all hb1)
             have B6 := Lib.hid (B5.out.trans (hb1.mono B5.out.size))
             have lt6 : w5.heap.size < w6.heap.size := N6.out.lt
             clear hc1 hb1 hs1 S5 C5 G5 B5)
          | (have _t := tk11; clear _t tk11; refine wpList_storeM rfl 39 (.tmp 5) (.tmp 15) rfl w5.heap.size 0 rfl (ints (rowF (cF m (k + 1)))) rfl 39 _ N6.out (by rw [rowF_ints_len, rowF_ints_len]; exact Nat.le_refl _) (by rw [rowF_ints_len]; exact Try.sizeRow) (fun v hv => ints_one hv) ?_
             intro w7 hc3 ha3
             rw [lay'_all (by rw [rowF_ints_len, rowF_ints_len])] at hc3
             have N7 := Lib.hid hc3
             have S7 : Hid (w7.ownsRow w3.heap.size 39 16 sv (k + 1) (rowsV m (k + 1))) := Lib.hid (S6.out.kept (at_grown ha3) (.inr (fun e => by have := (HSB.out _ e).2; omega)))
             have C7 := Lib.hid (ha3.cm C6.out (by omega))
             have G7 := Lib.hid (ha3.cm G6.out (by omega))
             have B7 : Hid (Below w.heap.size w w7) := Lib.hid (B6.out.trans (ha3.below (by omega)))
             have lt7 : w6.heap.size ≤ w7.heap.size := Nat.le_of_eq ha3.size.symm
             clear hc3 ha3 N6 S6 C6 G6 B6)
          | (have _t := tk12; clear _t tk12; refine wpList_loadM rfl 39 (.tmp 5) rfl w5.heap.size 0 rfl 39 _ _ N7.out (fun j _ => by rw [Nat.zero_add]) _ Try.underlying39 rfl (by rw [rowF_ints_len]; exact Try.sizeRow) ?_)
          | (have _t := tk13; clear _t tk13; refine wpList_loadM rfl 39 (.tmp 3) rfl w1.heap.size 0 rfl 39 _ _ C7.out (fun j _ => by rw [Nat.zero_add]) _ Try.underlying39 rfl (by rw [rowF_ints_len]; exact Try.sizeRow) ?_))
      go_ret
      rw [HS.out]
      exact ⟨_, rfl, own_mono S7.out (by omega), B7.out⟩
    · have heq : ∀ W : World, (Op.equalIn 10000 39 (.agg (ints (rowF (cF m (k + 1)))).toArray) (.agg (ints (rowF (cF m k))).toArray)).run Try.prog W = .ok false W := fun W => by have h := HEQ.out k W; rwa [decide_eq_false (fun e => hcc ((HSM.out k).1 e))] at h
      have HN2 : Hid (∀ i, i < k + 1 → clsAt m (i + 1) ≠ clsAt m i) := Lib.hid (fun i h => by
        rcases Nat.lt_or_eq_of_le (Nat.le_of_lt_succ h) with h1 | h1
        · exact HNE.out i h1
        · subst h1; exact hcc)
      have hk2 := HEN.out (k + 1) HN2.out
      clear hcc
      have tk14 : True := trivial
      have tk15 : True := trivial
      have tk16 : True := trivial
      have tk17 : True := trivial
      have tk18 : True := trivial
      have tk19 : True := trivial
      have tk20 : True := trivial
      have tk21 : True := trivial
      have tk22 : True := trivial
      have tk23 : True := trivial
      have tk24 : True := trivial
      have tk25 : True := trivial
      go_wp2_with
        (first
          | (have _t := tk14; clear _t tk14; refine wpList_loadM rfl 42 (.tmp 1) rfl w.heap.size 0 rfl 42 (ints G) (ints G) GR.out (fun j _ => by rw [Nat.zero_add]) _ Try.underlying42 rfl (by rw [HL.out]; exact Try.sizeGrid) ?_)
          | (have _t := tk15; clear _t tk15; refine wpList_loadM rfl 39 (.tmp 3) rfl w1.heap.size 0 rfl 39 _ _ CR.out (fun j _ => by rw [Nat.zero_add]) _ Try.underlying39 rfl (by rw [rowF_ints_len]; exact Try.sizeRow) ?_)
          | (have _t := tk16; clear _t tk16; go_at_call 50; (with_reducible refine (HKS.out _).mono ?_); rintro e w5 ⟨rfl, hb5⟩; have S5 := Lib.hid (own_below' SR.out hb5); have C5 := Lib.hid (CR.out.all hb5); have G5 := Lib.hid (GR.out.all hb5); have B5 := Lib.hid (BR.out.trans (hb5.mono BR.out.size)); have lt5 : wr.heap.size ≤ w5.heap.size := hb5.size; clear hb5 SR CR GR BR)
          | (have _t := tk17; clear _t tk17; refine wpList_allocM (o := ⟨some 5, _, _, _, _, _⟩) rfl 39 rfl (ints (rowF fun _ => 0)) Try.allocRowF ?_
             intro w6 hc1 hb1 hs1
             have N6 := Lib.hid hc1
             have S6 := Lib.hid (own_below' S5.out hb1)
             have C6 := Lib.hid (C5.out.all hb1)
             have G6 := Lib.hid (G5.out.all hb1)
             have B6 := Lib.hid (B5.out.trans (hb1.mono B5.out.size))
             have lt6 : w5.heap.size < w6.heap.size := N6.out.lt
             clear hc1 hb1 hs1 S5 C5 G5 B5)
          | (have _t := tk18; clear _t tk18; refine wpList_storeM rfl 39 (.tmp 5) (.tmp 15) rfl w5.heap.size 0 rfl (ints (rowF (cF m (k + 1)))) rfl 39 _ N6.out (by rw [rowF_ints_len, rowF_ints_len]; exact Nat.le_refl _) (by rw [rowF_ints_len]; exact Try.sizeRow) (fun v hv => ints_one hv) ?_
             intro w7 hc3 ha3
             rw [lay'_all (by rw [rowF_ints_len, rowF_ints_len])] at hc3
             have N7 := Lib.hid hc3
             have S7 : Hid (w7.ownsRow w3.heap.size 39 16 sv (k + 1) (rowsV m (k + 1))) := Lib.hid (S6.out.kept (at_grown ha3) (.inr (fun e => by have := (HSB.out _ e).2; omega)))
             have C7 := Lib.hid (ha3.cm C6.out (by omega))
             have G7 := Lib.hid (ha3.cm G6.out (by omega))
             have B7 : Hid (Below w.heap.size w w7) := Lib.hid (B6.out.trans (ha3.below (by omega)))
             have lt7 : w6.heap.size ≤ w7.heap.size := Nat.le_of_eq ha3.size.symm
             clear hc3 ha3 N6 S6 C6 G6 B6)
          | (have _t := tk19; clear _t tk19; refine wpList_loadM rfl 39 (.tmp 5) rfl w5.heap.size 0 rfl 39 _ _ N7.out (fun j _ => by rw [Nat.zero_add]) _ Try.underlying39 rfl (by rw [rowF_ints_len]; exact Try.sizeRow) ?_)
          | (have _t := tk20; clear _t tk20; refine wpList_loadM rfl 39 (.tmp 3) rfl w1.heap.size 0 rfl 39 _ _ C7.out (fun j _ => by rw [Nat.zero_add]) _ Try.underlying39 rfl (by rw [rowF_ints_len]; exact Try.sizeRow) ?_)
          | (have _t := tk21; clear _t tk21; refine wpList_loadM rfl 39 (.tmp 5) rfl w5.heap.size 0 rfl 39 _ _ N7.out (fun j _ => by rw [Nat.zero_add]) _ Try.underlying39 rfl (by rw [rowF_ints_len]; exact Try.sizeRow) ?_)
          | (have _t := tk22; clear _t tk22; refine wpList_storeM rfl 39 (.tmp 3) (.tmp 20) rfl w1.heap.size 0 rfl (ints (rowF (cF m (k + 1)))) rfl 39 _ C7.out (by rw [rowF_ints_len, rowF_ints_len]; exact Nat.le_refl _) (by rw [rowF_ints_len]; exact Try.sizeRow) (fun v hv => ints_one hv) ?_
             intro w8 hc3 ha3
             rw [lay'_all (by rw [rowF_ints_len, rowF_ints_len])] at hc3
             have C8 := Lib.hid hc3
             have S8 : Hid (w8.ownsRow w3.heap.size 39 16 sv (k + 1) (rowsV m (k + 1))) := Lib.hid (S7.out.kept (at_grown ha3) (.inr (fun e => by have := (HSB.out _ e).1; omega)))
             have G8 := Lib.hid (ha3.cm G7.out (by omega))
             have B8 : Hid (Below w.heap.size w w8) := Lib.hid (B7.out.trans (ha3.below (by omega)))
             have lt8 : w7.heap.size ≤ w8.heap.size := Nat.le_of_eq ha3.size.symm
             clear hc3 ha3 N7 S7 C7 G7 B7)
          | (have _t := tk23; clear _t tk23; refine wpList_loadM rfl 39 (.tmp 3) rfl w1.heap.size 0 rfl 39 _ _ C8.out (fun j _ => by rw [Nat.zero_add]) _ Try.underlying39 rfl (by rw [rowF_ints_len]; exact Try.sizeRow) ?_)
          | (have _t := tk24; clear _t tk24; refine wpList_buildSliceM rfl 71 1 _ rfl #[(0, .agg (ints (rowF (cF m (k + 1)))).toArray)] (by simp only [List.map_toArray, List.map_cons, List.map_nil]; rfl) (ints (rowF (cF m (k + 1)))) 39 (Try.bsRow _ _) ?_
             intro w9 hc4 hb4
             have T9 := Lib.hid hc4
             have S9 := Lib.hid (own_below' S8.out hb4)
             have C9 := Lib.hid (C8.out.all hb4)
             have G9 := Lib.hid (G8.out.all hb4)
             have B9 := Lib.hid (B8.out.trans (hb4.mono B8.out.size))
             have lt9 : w8.heap.size < w9.heap.size := hc4.lt
             clear hc4 hb4 S8 C8 G8 B8)
          | (have _t := tk25; clear _t tk25; at_builtin; refine wpList_append_own_at _ rfl _ _ 71 rfl w3.heap.size 39 i0 (.agg (ints (rowF fun _ => 0)).toArray) 16 128 Try.underlying71 hi hz0 hz1 hz2 rfl (by decide) sv (k + 1) _ rfl S9.out ⟨w8.heap.size, 0, none⟩ 1 1 (ints (rowF (cF m (k + 1)))) rfl (by rw [rowF_ints_len]) (fun j u hu => by rw [← hu, ← T9.out.cell, addr_add0, Nat.zero_add]) (fun v hv => ints_one hv) (by unfold maxLen; omega) (by omega) (by omega) ?_
             intro sv' w10 hown hg10 _ _
             have S10 := Lib.hid hown
             rw [← HRS.out] at S10
             have C10 := Lib.hid (C9.out.kept hg10 (fun e => by have := (HSB.out _ e.symm).1; omega))
             have G10 := Lib.hid (G9.out.kept hg10 (fun e => by have := (HSB.out _ e.symm).1; omega))
             have B10 : Hid (Below w.heap.size w w10) := Lib.hid (B9.out.grown hg10 B9.out.size (fun j e => by have := (HSB.out _ e).1; omega))
             have lt10 : w9.heap.size ≤ w10.heap.size := hg10.size
             clear hown hg10 S9 C9 G9 B9 T9))
      go_roundw
      case rel => exact ⟨k + 1, _, rfl, by omega, HN2, S10, C10, G10, B10, by omega⟩
      case measure => rw [own_len S10.out, HLN.out]; omega
end Go.Proofs.Ytodjohdbngbpaab

/-
  grid.classes and impl.ClassesOf. No condition but the readings.
-/
namespace Go.Proofs.Ytodjohdbngbpaab
open Go.RowKit Go.WideShapes
open Go Go.Deep
set_option linter.unusedSimpArgs false

theorem rowsV_len (m : Md) : ∀ n, (rowsV m n).length = n * 16
  | 0 => rfl
  | n + 1 => by rw [rowsV_succ, List.length_append, rowsV_len m n, rowF_ints_len]; omega
/-- the last row of the classes of the steps -/
theorem own_last {w : World} {base : Nat} {T : TypeId} {v : Value} {m : Md} {n : Nat} (h : w.ownsRow base T 16 v (n + 1) (rowsV m (n + 1))) : ∃ g cap cs, v = .slice (some ⟨g, 0, none⟩) (n + 1) cap ∧ base ≤ g ∧ g < w.heap.size ∧ n + 1 ≤ cap ∧ cap ≤ maxLen ∧ Cm w g T cs ∧ ∀ j, j < (ints (rowF (cF m n))).length → cs[n * 16 + j]? = (ints (rowF (cF m n)))[j]? := by
  rcases h.2 with ⟨_, h0⟩ | ⟨g, cap, cur, rfl, hb, hg, h1, h2, h3, h4⟩
  · omega
  · refine ⟨g, cap, cur.toList, rfl, hb, (Array.getElem?_eq_some_iff.1 hg).1, h1, h2, ?_, fun j hj => ?_⟩
    · unfold Cm; rw [hg]
    · rw [rowF_ints_len] at hj
      have e1 : cur.toList[n * 16 + j]? = (cur.toList.take ((n + 1) * 16))[n * 16 + j]? := by rw [List.getElem?_take_of_lt (by omega)]
      rw [e1, h4, rowsV_succ, List.getElem?_append_right (by rw [rowsV_len]; omega), rowsV_len, Nat.add_sub_cancel_left]

set_option maxRecDepth 100000 in
set_option maxHeartbeats 16000000 in
theorem classes_any (m : Md) (hm : mdOk m = true) (w : World) :
    Calls Try.prog 32 #[.agg (ints (gL m.facts.length m.blocks.length m.facts m.blocks m.actual)).toArray] w
      fun e w' => e = .returned (.agg (ints (pad (lastC m))).toArray) ∧ Below w.heap.size w w' := by
  obtain ⟨p1, p2, p3, p4, -, -, -, -⟩ := mdOk_parts hm
  have hs := md_small hm
  have KS := Lib.hid (fun W => steps_any m hm W)
  have HL : Hid ((ints (gL m.facts.length m.blocks.length m.facts m.blocks m.actual)).length = 67) := Lib.hid (by rw [ints_len]; exact gL_len hs)
  have hst : stab m ≤ 16 := by
    unfold stab
    cases hf : (List.range m.facts.length).find? fun j => decide (clsAt m (j + 1) = clsAt m j) with
    | none => simp
    | some j => have := List.mem_range.1 (List.mem_of_find?_eq_some hf); simp; omega
  rw [show lastC m = clsAt m (stab m) from rfl, cF_pad p2]
  clear hs hm
  generalize gL m.facts.length m.blocks.length m.facts m.blocks m.actual = G at *
  generalize stab m = s at *
  have s0 : (0 : Int) ≤ (s : Int) := Int.natCast_nonneg _
  go_enter Try.func32, Try.ntmps32
  have tk1 : True := trivial
  have tk2 : True := trivial
  have tk3 : True := trivial
  have tk4 : True := trivial
  have tk5 : True := trivial
  go_wp2_with
    (first
      | (have _t := tk1; clear _t tk1; refine wpList_allocM (o := ⟨some 2, _, _, _, _, _⟩) rfl 39 rfl (ints (rowF fun _ => 0)) Try.allocRowF ?_
         intro w1 hc1 hb1 hs1
         have G1 : Hid (Cm w1 w.heap.size 42 (ints G)) := Lib.hid (Cm.all (Cm.new rfl) hb1)
         have R1 : Hid (Cm w1 (w.heap.size + 1) 39 (ints (rowF fun _ => 0))) := Lib.hid (by simpa using hc1)
         have B1 : Hid (Below w.heap.size w w1) := Lib.hid (Below.trans (by go_grown) (hb1.mono (by simp)))
         have lt1 : w.heap.size + 1 < w1.heap.size := R1.out.lt
         clear hc1 hb1 hs1)
      | (have _t := tk2; clear _t tk2; refine wpList_loadM rfl 42 (.tmp 1) rfl w.heap.size 0 rfl 42 (ints G) (ints G) G1.out (fun j _ => by rw [Nat.zero_add]) _ Try.underlying42 rfl (by rw [HL.out]; exact Try.sizeGrid) ?_)
      | (have _t := tk3; clear _t tk3; go_at_call 43; (with_reducible refine (KS.out _).mono ?_); rintro e w2 ⟨v2, rfl, ho2, hb2⟩
         obtain ⟨g, cap, cs, rfl, hg1, hg2, hc1, hc2, hcm, hcs⟩ := own_last ho2
         have R2 := Lib.hid (R1.out.all hb2)
         have B2 := Lib.hid (B1.out.trans (hb2.mono B1.out.size))
         have C2 := Lib.hid hcm
         have D2 := Lib.hid hcs
         unfold maxLen at hc2
         clear hb2 ho2 hcm hcs)
      | (have _t := tk4; clear _t tk4; refine wpList_loadM rfl 39 (.tmp 10) rfl g (s * 16) rfl 39 cs (ints (rowF (cF m s))) C2.out D2.out _ Try.underlying39 rfl (by rw [rowF_ints_len]; exact Try.sizeRow) ?_)
      | (have _t := tk5; clear _t tk5; refine wpList_storeM rfl 39 (.tmp 2) (.tmp 11) rfl (w.heap.size + 1) 0 rfl (ints (rowF (cF m s))) rfl 39 _ R2.out (by rw [rowF_ints_len, rowF_ints_len]; exact Nat.le_refl _) (by rw [rowF_ints_len]; exact Try.sizeRow) (fun v hv => ints_one hv) ?_
         intro w9 hc9 ha9
         rw [lay'_all (by rw [rowF_ints_len, rowF_ints_len])] at hc9
         have C9 := Lib.hid hc9
         have B9 : Hid (Below w.heap.size w w9) := Lib.hid (B2.out.trans (ha9.below (by omega)))
         clear hc9 ha9))
  refine bodyPost_ret (results_mid1 Try.results32 _ _ (w.heap.size + 1) (ints (rowF (cF m s))) _ rfl C9.out.whole Try.underlying39 rfl (by rw [rowF_ints_len]; exact Try.sizeRow)) rfl ?_
  exact ⟨rfl, B9.out⟩

end Go.Proofs.Ytodjohdbngbpaab
