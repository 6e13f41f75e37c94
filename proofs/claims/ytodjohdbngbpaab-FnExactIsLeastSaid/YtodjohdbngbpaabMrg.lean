/-
  Grids as functions: sixty-seven numbers by a function; what grid.merged has laid down. No program but its types' numbers.
-/
import Derived.Test.YtodjohdbngbpaabZRen
import Derived.Test.YtodjohdbngbpaabZKey
namespace Go.Proofs.Ytodjohdbngbpaab
open Go.RowKit Go.WideShapes
open Go Go.Deep
set_option linter.unusedSimpArgs false

def gG (h : Nat → Int) : List Int := (List.range 67).map h
theorem gG_len (h : Nat → Int) : (gG h).length = 67 := by simp [gG]
theorem gG_get (h : Nat → Int) {i : Nat} (hi : i < 67) : (gG h)[i]? = some (h i) := by
  unfold gG; rw [List.getElem?_map, List.getElem?_range hi]; rfl
theorem gG_set (h : Nat → Int) (i : Nat) (y : Int) : (gG h).set i y = gG (updI h i y) := by
  apply List.ext_getElem?
  intro k
  unfold gG
  rw [List.getElem?_set]
  rcases Nat.lt_or_ge k 67 with hk | hk
  · rw [List.getElem?_map, List.getElem?_map, List.getElem?_range hk]
    by_cases e : i = k
    · subst e; simp [hk, updI]
    · simp [e, updI, Ne.symm e]
  · simp [hk]
    intro; omega
theorem Cm.gg {w : World} {b : Nat} {T : TypeId} {h : Nat → Int} (hc : Cm w b T (ints (gG h))) {i : Nat} (hi : i < 67) : w.cell? ⟨b, i, none⟩ = some (.int .i64 (h i)) := by rw [hc.cell, ints_get, gG_get h hi]; rfl
theorem Cm.ggset {w : World} {b : Nat} {T : TypeId} {h : Nat → Int} (hc : Cm w b T (ints (gG h))) (i : Nat) (y : Int) : Cm (w.setCell ⟨b, i, none⟩ (.int .i64 y)) b T (ints (gG (updI h i y))) := by
  have := hc.set i (.int .i64 y)
  rwa [ints_set, gG_set] at this
/-- a function says what a grid's lists say -/
structure GF (h : Nat → Int) (n a : Int) (f : List Int) (rows : List (List Int)) (c : Int) : Prop where
  h0 : h 0 = n
  h1 : h 1 = a
  hf : ∀ i, i < 16 → h (2 + i) = f.getD i 0
  hr : ∀ k i, k < 3 → i < 16 → h (18 + k * 16 + i) = (rows.getD k []).getD i 0
  hc : h 66 = c
theorem GF.eq {h : Nat → Int} {n a c : Int} {f : List Int} {rows : List (List Int)} (g : GF h n a f rows c) (hs : small f rows) : gL n a f rows c = gG h := by
  apply List.ext_getElem?
  intro i
  rcases Nat.lt_or_ge i 67 with hi | hi
  · rw [gG_get h hi]
    by_cases e0 : i = 0
    · subst e0; rw [gL_0, g.h0]
    by_cases e1 : i = 1
    · subst e1; rw [gL_1, g.h1]
    by_cases e2 : i < 18
    · obtain ⟨j, rfl⟩ : ∃ j, i = 2 + j := ⟨i - 2, by omega⟩
      rw [gL_f hs (by omega), pad_get (by omega) hs.1, g.hf j (by omega)]
    by_cases e3 : i < 66
    · obtain ⟨k, j, hk, hj, rfl⟩ : ∃ k j, k < 3 ∧ j < 16 ∧ i = 18 + k * 16 + j := ⟨(i - 18) / 16, (i - 18) % 16, by omega, by omega, by omega⟩
      rw [gL_r hs hk hj, pad_get hj (hs.2 k), g.hr k j hk hj]
    · obtain rfl : i = 66 := by omega
      rw [gL_66 hs, g.hc]
  · rw [List.getElem?_eq_none (by rw [gL_len hs]; exact hi), List.getElem?_eq_none (by rw [gG_len]; exact hi)]
/-- .. and each grid's lists have such a function -/
def gfun (n a : Int) (f : List Int) (rows : List (List Int)) (c : Int) : Nat → Int := fun i => if i = 0 then n else if i = 1 then a else if i < 18 then f.getD (i - 2) 0 else if i < 66 then (rows.getD ((i - 18) / 16) []).getD ((i - 18) % 16) 0 else c
theorem gfun_gf (n a : Int) (f : List Int) (rows : List (List Int)) (c : Int) : GF (gfun n a f rows c) n a f rows c := by
  refine ⟨by simp [gfun], by simp [gfun], fun i hi => ?_, fun k i hk hi => ?_, by simp [gfun]⟩
  · unfold gfun
    rw [if_neg (by omega), if_neg (by omega), if_pos (by omega)]
    congr 1; omega
  · unfold gfun
    rw [if_neg (by omega), if_neg (by omega), if_neg (by omega), if_pos (by omega)]
    have e1 : (18 + k * 16 + i - 18) / 16 = k := by omega
    have e2 : (18 + k * 16 + i - 18) % 16 = i := by omega
    rw [e1, e2]
/-- the number of classes among the first w worlds -/
def qAt (c : List Int) (w : Nat) : Nat := (lst (newP c) w).length
/-- what the merged grid holds when the first w worlds and j agents of the next one have been laid down -/
structure Mgd (m : Md) (c : List Int) (h : Nat → Int) (q q' j : Nat) (act : Int) : Prop where
  n : h 0 = (q' : Int)
  a : h 1 = (m.blocks.length : Int)
  f : ∀ i, i < 16 → h (2 + i) = if i < q' then m.facts.getD ((firstsC c).getD i 0) 0 else 0
  r : ∀ k i, k < 3 → i < 16 → h (18 + k * 16 + i) = if i < (if k < j then q' else q) ∧ k < m.blocks.length then ((headL (setB m c k ((firstsC c).getD i 0)) : Nat) : Int) else 0
  c : h 66 = act
theorem qAt_succ (c : List Int) (w : Nat) : qAt c (w + 1) = if newP c w then qAt c w + 1 else qAt c w := by
  unfold qAt; rw [lst_succ]; cases newP c w <;> simp
theorem qAt_le (c : List Int) (w : Nat) : qAt c w ≤ w := lst_len _ _
/-- the class of a world: a new one gets the next number -/
theorem cls_new {c : List Int} (hc : ordOk c = true) {w : Nat} (hw : w < c.length) (h : newP c w = true) : c.getD w 0 = (qAt c w : Int) ∧ (firstsC c).getD (qAt c w) 0 = w := ⟨ord_new hc hw h, (lst_at h hw).2⟩
theorem cls_old {c : List Int} (hc : ordOk c = true) {w : Nat} (hw : w < c.length) (h : newP c w = false) : ∃ a : Nat, c.getD w 0 = (a : Int) ∧ a < qAt c w ∧ (firstsC c).getD a 0 < c.length ∧ c.getD ((firstsC c).getD a 0) 0 = (a : Int) := by
  obtain ⟨a, h1, h2, h3⟩ := first_of hc hw
  obtain ⟨h4, h5⟩ := first_in hc h2
  have hlt : (firstsC c).getD a 0 < w := by
    rw [h3]
    unfold newP at h
    simpa using h
  refine ⟨a, h1, ?_, h4, h5⟩
  have hn : newP c ((firstsC c).getD a 0) = true := by rw [h3]; exact new_first hw
  obtain ⟨h6, h7⟩ := lst_at hn h4
  have e : (lst (newP c) ((firstsC c).getD a 0)).length = a := nodup_getD (lst_nodup _ _) h6 h2 h7
  obtain ⟨h8, -⟩ := lst_at hn hlt
  unfold qAt
  omega
/-- the least class that the block of each class meets -/
def hdL (m : Md) (c : List Int) (k : Nat) : List Int := (firstsC c).map fun w => ((headL (setB m c k w) : Nat) : Int)
theorem hdL_len (m : Md) (c : List Int) (k : Nat) : (hdL m c k).length = (firstsC c).length := by simp [hdL]
theorem hdL_get {m : Md} {c : List Int} {k i : Nat} (h : i < (firstsC c).length) : (hdL m c k).getD i 0 = ((headL (setB m c k ((firstsC c).getD i 0)) : Nat) : Int) := by
  unfold hdL
  rw [List.getD_eq_getElem?_getD, List.getElem?_map, List.getElem?_eq_getElem h, List.getD_eq_getElem?_getD, List.getElem?_eq_getElem h]; rfl
theorem headL_congr {p q : Nat → Bool} (h : ∀ i, i < 16 → p i = q i) : headL p = headL q := by unfold headL; rw [lst_congr h]
theorem metG_set {m : Md} {c : List Int} (hn : m.facts.length ≤ 16) (k i y : Nat) : metG m.blocks m.facts.length k i (fun v => c.getD v 0) y = setB m c k i y := by
  show (List.range 16).any (fun v => blkB m.blocks m.facts.length k i v && (c.getD v 0 == (y : Int))) = _
  rw [Bool.eq_iff_iff, setB_in, List.any_eq_true]
  constructor
  · rintro ⟨v, _, h⟩
    rw [Bool.and_eq_true, beq_iff_eq] at h
    have h1 := h.1
    unfold blkB cut at h1
    rw [Bool.and_eq_true, decide_eq_true_eq, beq_iff_eq] at h1
    exact ⟨v, h1.1, by unfold sameW; rw [beq_iff_eq]; exact h1.2.symm, h.2⟩
  · rintro ⟨v, hv, h1, h2⟩
    refine ⟨v, List.mem_range.2 (by omega), ?_⟩
    unfold sameW at h1
    rw [beq_iff_eq] at h1
    rw [Bool.and_eq_true, beq_iff_eq]
    refine ⟨?_, h2⟩
    unfold blkB cut
    rw [Bool.and_eq_true, decide_eq_true_eq, beq_iff_eq]
    exact ⟨hv, h1.symm⟩
theorem Stable.hd_link {m : Md} {c : List Int} (s : Stable m c) (hn : m.facts.length ≤ 16) {k : Nat} (hk : k < m.blocks.length) : num (hdL m c k) = num (linkL m c k) := by
  refine s.num_link hk (hdL_len m c k) fun a b ha hb => ?_
  rw [hdL_get ha, hdL_get hb]
  have e := s.equ hk
  have hfl : (firstsC c).length ≤ 16 := by have := firsts_len c; rw [s.len] at this; omega
  have hset : ∀ x y, x < (firstsC c).length → y < 16 → setB m c k ((firstsC c).getD x 0) y = true → y < (firstsC c).length := fun x y hx hy h => by
    obtain ⟨v, hv, _, hc⟩ := setB_in.1 h
    obtain ⟨a', h1, h2, _⟩ := first_of s.ord (v := v) (by rw [s.len]; exact hv)
    rw [hc] at h1
    have : y = a' := Int.ofNat.inj h1
    omega
  constructor
  · intro h
    have hh : headL (setB m c k ((firstsC c).getD a 0)) = headL (setB m c k ((firstsC c).getD b 0)) := Int.ofNat.inj h
    obtain ⟨a1, a2, _⟩ := headL_at (p := setB m c k ((firstsC c).getD a 0)) (i := a) (by omega) (e.refl a ha)
    obtain ⟨b1, b2, _⟩ := headL_at (p := setB m c k ((firstsC c).getD b 0)) (i := b) (by omega) (e.refl b hb)
    have hx := hset a _ ha a1 a2
    rw [hh] at a2 hx
    exact e.trans a _ b ha hx hb a2 (e.symm b _ hb hx b2)
  · intro h
    congr 1
    refine headL_congr fun y hy => ?_
    rw [Bool.eq_iff_iff]
    constructor
    · intro h2
      have hy' := hset a y ha hy h2
      exact e.trans b a y hb ha hy' (e.symm a b ha hb h) h2
    · intro h2
      have hy' := hset b y hb hy h2
      exact e.trans a b y ha hb hy' h h2
theorem Mgd.start (m : Md) (c : List Int) (act : Int) : Mgd m c (gfun 0 m.blocks.length [] [] act) 0 0 0 act := by
  have g := gfun_gf 0 m.blocks.length [] [] act
  exact ⟨g.h0, g.h1, fun i hi => by rw [g.hf i hi]; simp, fun k i hk hi => by rw [g.hr k i hk hi]; simp, g.hc⟩
/-- a world's number and facts -/
theorem Mgd.facts {m : Md} {c : List Int} {h : Nat → Int} {q q' a : Nat} {act x : Int} (g : Mgd m c h q q 0 act) (ha : a < q') (hq : ∀ i, i < q' → i ≠ a → i < q) (hqq : q ≤ q') (ha16 : a < 16) (hx : x = m.facts.getD ((firstsC c).getD a 0) 0) :
    Mgd m c (updI (updI h 0 (q' : Int)) (2 + a) x) q q' 0 act := by
  refine ⟨?_, ?_, fun i hi => ?_, fun k i hk hi => ?_, ?_⟩
  · unfold updI; rw [if_neg (by omega), if_pos rfl]
  · have : ¬ (1 = 2 + a) := by omega
    simp [updI, this]; exact g.a
  · unfold updI
    by_cases e : i = a
    · subst e; rw [if_pos rfl, if_pos ha, hx]
    · rw [if_neg (by omega), if_neg (by omega), g.f i hi]
      by_cases h1 : i < q
      · rw [if_pos h1, if_pos (by omega)]
      · rw [if_neg h1, if_neg (fun h2 => h1 (hq i h2 e))]
  · unfold updI
    rw [if_neg (by omega), if_neg (by omega), g.r k i hk hi]
    simp
  · unfold updI
    rw [if_neg (by omega), if_neg (by omega), g.c]
/-- a world's block of one agent -/
theorem Mgd.block {m : Md} {c : List Int} {h : Nat → Int} {q q' a j : Nat} {act x : Int} (g : Mgd m c h q q' j act) (hj : j < m.blocks.length) (hA : m.blocks.length ≤ 3) (ha : a < q') (hq : ∀ i, i < q' → i ≠ a → i < q) (hqq : q ≤ q') (ha16 : a < 16) (hx : x = ((headL (setB m c j ((firstsC c).getD a 0)) : Nat) : Int)) :
    Mgd m c (updI h (18 + j * 16 + a) x) q q' (j + 1) act := by
  refine ⟨?_, ?_, fun i hi => ?_, fun k i hk hi => ?_, ?_⟩
  · unfold updI; rw [if_neg (by omega)]; exact g.n
  · unfold updI; rw [if_neg (by omega)]; exact g.a
  · unfold updI; rw [if_neg (by omega)]; exact g.f i hi
  · unfold updI
    by_cases e : 18 + k * 16 + i = 18 + j * 16 + a
    · have h1 : k = j := by omega
      have h2 : i = a := by omega
      subst h1 h2
      rw [if_pos e, show (if k < k + 1 then q' else q) = q' from if_pos (by omega), if_pos ⟨ha, hj⟩, hx]
    · rw [if_neg e, g.r k i hk hi]
      by_cases hkj : k < j
      · rw [show (if k < j then q' else q) = q' from if_pos hkj, show (if k < j + 1 then q' else q) = q' from if_pos (by omega)]
      · rw [show (if k < j then q' else q) = q from if_neg hkj]
        by_cases hk2 : k = j
        · subst hk2
          have hne : i ≠ a := fun e2 => e (by omega)
          rw [show (if k < k + 1 then q' else q) = q' from if_pos (by omega)]
          by_cases h1 : i < q
          · rw [if_pos ⟨h1, hj⟩, if_pos ⟨by omega, hj⟩]
          · rw [if_neg (fun h2 => h1 h2.1), if_neg (fun h2 => h1 (hq i h2.1 hne))]
        · rw [show (if k < j + 1 then q' else q) = q from if_neg (by omega)]
  · unfold updI; rw [if_neg (by omega)]; exact g.c
theorem Mgd.next {m : Md} {c : List Int} {h : Nat → Int} {q q' : Nat} {act : Int} (g : Mgd m c h q q' m.blocks.length act) : Mgd m c h q' q' 0 act :=
  ⟨g.n, g.a, g.f, fun k i hk hi => by
    rw [g.r k i hk hi]
    by_cases hkA : k < m.blocks.length
    · simp [hkA]
    · rw [if_neg (fun h => hkA h.2), if_neg (fun h => hkA h.2)], g.c⟩
theorem Mgd.finish {m : Md} {c : List Int} {h : Nat → Int} {act : Int} (g : Mgd m c h (firstsC c).length (firstsC c).length 0 act) (hf : (firstsC c).length ≤ 16) (_hA : m.blocks.length ≤ 3) :
    gL (firstsC c).length m.blocks.length (pick m.facts (firstsC c)) ((List.range m.blocks.length).map (hdL m c)) act = gG h ∧ small (pick m.facts (firstsC c)) ((List.range m.blocks.length).map (hdL m c)) := by
  have hrow : ∀ k, ((List.range m.blocks.length).map (hdL m c)).getD k [] = if k < m.blocks.length then hdL m c k else [] := fun k => by
    rw [List.getD_eq_getElem?_getD, List.getElem?_map]
    rcases Nat.lt_or_ge k m.blocks.length with h | h
    · rw [List.getElem?_range h, if_pos h]; rfl
    · rw [List.getElem?_eq_none (by simpa using h), if_neg (by omega)]; rfl
  have hs : small (pick m.facts (firstsC c)) ((List.range m.blocks.length).map (hdL m c)) := ⟨by rw [pick_len]; exact hf, fun k => by
    rw [hrow k]
    split
    · rw [hdL_len]; exact hf
    · simp⟩
  refine ⟨GF.eq ⟨g.n, g.a, fun i hi => ?_, fun k i hk hi => ?_, g.c⟩ hs, hs⟩
  · rw [g.f i hi]
    rcases Nat.lt_or_ge i (firstsC c).length with h1 | h1
    · rw [if_pos h1]
      unfold pick
      rw [List.getD_eq_getElem?_getD (l := List.map _ _), List.getElem?_map, List.getElem?_eq_getElem h1, List.getD_eq_getElem?_getD (l := firstsC c), List.getElem?_eq_getElem h1]; rfl
    · rw [if_neg (by omega), List.getD_eq_getElem?_getD, List.getElem?_eq_none (by rw [pick_len]; exact h1)]; rfl
  · rw [g.r k i hk hi, hrow k]
    simp only [Nat.not_lt_zero, if_false]
    by_cases hkA : k < m.blocks.length
    · rw [if_pos hkA]
      rcases Nat.lt_or_ge i (firstsC c).length with h1 | h1
      · rw [if_pos ⟨h1, hkA⟩, hdL_get h1]
      · rw [if_neg (fun h => by omega), List.getD_eq_getElem?_getD, List.getElem?_eq_none (by rw [hdL_len]; exact h1)]; rfl
    · rw [if_neg (fun h => hkA h.2), if_neg hkA]; simp
end Go.Proofs.Ytodjohdbngbpaab
