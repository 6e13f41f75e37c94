/-
  Contract of impl.FormulaOk.
-/
import Derived.Test.YtcdccdcalmnocaaForm
namespace Go.Proofs.Ytcdccdcalmnocaa
open Go.RowKit
open Go Go.Deep

set_option maxHeartbeats 1000000 in
theorem usedBy_any (x : Nd) (w : World) (hp : 1 ≤ usesI x.op → 0 ≤ x.a) (hq : usesI x.op = 2 → 0 ≤ x.b) :
    Calls Try.prog 43 #[x.v] w fun e w' => ∃ g, e = .returned (.slice (some ⟨g, 0, none⟩) (usedOf x).length 2) ∧ g < w'.heap.size ∧ w.heap.size ≤ g ∧ (∀ j, j < (usedOf x).length → w'.cell? ⟨g, j, none⟩ = some (.int .i64 ((usedOf x).getD j 0 : Nat))) ∧ Below w.heap.size w w' := by
  obtain ⟨op, n, a, b⟩ := x
  have hu := usesI_le op
  have C := fun W => countParts_any op W
  have e0 : usesI op = 0 → usedOf ⟨op, n, a, b⟩ = [] := fun h => by unfold usedOf; rw [h]; rfl
  have e1 : usesI op = 1 → usedOf ⟨op, n, a, b⟩ = [a.toNat] := fun h => by unfold usedOf; rw [h]; rfl
  have e2 : usesI op = 2 → usedOf ⟨op, n, a, b⟩ = [a.toNat, b.toNat] := fun h => by unfold usedOf; rw [h]; rfl
  simp only [] at hp hq
  unfold Nd.v
  simp only []
  generalize usesI op = u at *
  have hu' : u = 0 ∨ u = 1 ∨ u = 2 := by omega
  clear hu
  have KC := Lib.hid C
  clear C
  rcases hu' with rfl | rfl | rfl
  · rw [e0 rfl]
    clear e0 e1 e2 hp hq
    go_enter Try.func43, Try.ntmps43
    go_wp2_with fail
    refine (KC.out _).mono ?_
    rintro e w' ⟨rfl, rfl⟩
    go_wp2
    go_ret
    exact ⟨_, rfl, by simp, by simp, fun j hj => absurd hj (by simp), ((Below.refl _ _).alloc (Nat.le_refl _) _).alloc (by simp) _⟩
  · rw [e1 rfl]
    have ha := hp (by decide)
    obtain ⟨p, rfl⟩ : ∃ p : Nat, a = p := ⟨a.toNat, by omega⟩
    clear e0 e1 e2 hp hq ha
    go_enter Try.func43, Try.ntmps43
    go_wp2_with fail
    refine (KC.out _).mono ?_
    rintro e w' ⟨rfl, rfl⟩
    go_wp2
    go_ret
    refine ⟨_, rfl, by simp, by simp, fun j hj => ?_, ((Below.refl _ _).alloc (Nat.le_refl _) _).alloc (by simp) _⟩
    obtain rfl : j = 0 := by have : j < 1 := hj; omega
    rw [World.cell?_alloc_at _ _ _ _ (by simp)]; rfl
  · rw [e2 rfl]
    have ha := hp (by decide)
    have hb := hq rfl
    obtain ⟨p, rfl⟩ : ∃ p : Nat, a = p := ⟨a.toNat, by omega⟩
    obtain ⟨q, rfl⟩ : ∃ q : Nat, b = q := ⟨b.toNat, by omega⟩
    clear e0 e1 e2 hp hq ha hb
    go_enter Try.func43, Try.ntmps43
    go_wp2_with fail
    refine (KC.out _).mono ?_
    rintro e w' ⟨rfl, rfl⟩
    go_wp2
    go_ret
    refine ⟨_, rfl, by simp, by simp, fun j hj => ?_, ((Below.refl _ _).alloc (Nat.le_refl _) _).alloc (by simp) _⟩
    have hj' : j = 0 ∨ j = 1 := by have : j < 2 := hj; omega
    rcases hj' with rfl | rfl
    · rw [World.cell?_alloc_at _ _ _ _ (by simp)]; rfl
    · rw [World.cell?_alloc_at _ _ _ _ (by simp)]; rfl

def zero40 : Array Value := (List.replicate 40 (Value.int .i64 0)).toArray
theorem alloc_uses (w : World) : (Instr.alloc 48 true (.tuple #[])).run Try.prog w = .ok (.pointer (some ⟨w.heap.size, 0, none⟩)) (w.alloc (.cells zero40 48)) := by kernel_rfl
/-- the row of uses -/
def UsRow (w : World) (B : Nat) (T : TypeId) (n : Nat) (us : List Nat) : Prop := w.rowIs B T n (fun j => .int .i64 (us.count j : Nat))
theorem UsRow.start (w : World) : UsRow (w.alloc (.cells zero40 48)) w.heap.size 48 40 [] := by
  have h := World.rowIs_alloc w zero40 48 (fun j => .int .i64 (([] : List Nat).count j : Nat)) (fun i hi => by
    have hi : i < 40 := hi
    rw [show zero40[i]? = (List.replicate 40 (Value.int .i64 0))[i]? by simp [zero40], List.getElem?_replicate, if_pos hi]; rfl)
  exact h
theorem UsRow.below {w w' : World} {B C : Nat} {T : TypeId} {n : Nat} {us : List Nat} (h : UsRow w B T n us) (hb : Below C w w') (hB : w.heap.size ≤ C) : UsRow w' B T n us :=
  h.of_block (hb.block B (Nat.lt_of_lt_of_le h.lt hB))
theorem UsRow.alloc {w : World} {B : Nat} {T : TypeId} {n : Nat} {us : List Nat} (h : UsRow w B T n us) (o : Obj) : UsRow (w.alloc o) B T n us := World.rowIs.alloc h o
theorem UsRow.push {w : World} {B : Nat} {T : TypeId} {n : Nat} {us : List Nat} (h : UsRow w B T n us) (m : Nat) : UsRow (w.setCell ⟨B, m, none⟩ (.int .i64 ((us.count m : Nat) + 1 : Int))) B T n (us ++ [m]) := by
  refine (h.set m _).congr fun j _ => ?_
  by_cases e : j = m
  · subst e
    rw [if_pos rfl, List.count_append, count1, if_pos rfl]
    simp
  · rw [if_neg e, List.count_append, count1, if_neg e]
    simp
theorem allUsed_len (xs : List Nd) : (allUsed xs).length ≤ 2 * xs.length := by
  induction xs with
  | nil => simp [allUsed]
  | cons x xs ih =>
    have : (usedOf x).length ≤ 2 := by unfold usedOf; rw [List.length_take]; simp; omega
    simp only [allUsed, List.flatMap_cons, List.length_append, List.length_cons] at *
    omega
theorem allUsed_take (xs : List Nd) {k : Nat} (hk : k < xs.length) : allUsed (xs.take (k + 1)) = allUsed (xs.take k) ++ usedOf (xs.getD k default) := by
  have e : xs.take (k + 1) = xs.take k ++ [xs.getD k default] := by
    rw [List.take_succ_eq_append_getElem hk, List.getD_eq_getElem?_getD, List.getElem?_eq_getElem hk]; rfl
  rw [e, allUsed_app]; simp [allUsed]
theorem formNot_at {xs : List Nd} {k : Nat} (hk : k < xs.length) (h : okAt (xs.getD k default) k = false) : formOk xs = false := by
  cases hf : formOk xs with
  | false => rfl
  | true => rw [nodesOk_at (formOk_parts hf).2.2.1 hk] at h; cases h
theorem formNot_once {xs : List Nd} {k : Nat} (hk : k < xs.length - 1) (h : (allUsed xs).count k ≠ 1) : formOk xs = false := by
  cases hf : formOk xs with
  | false => rfl
  | true => exact absurd ((formOk_parts hf).2.2.2 k hk) h
theorem formNot_len {xs : List Nd} (h : xs.length < 1 ∨ 40 < xs.length) : formOk xs = false := by
  cases hf : formOk xs with
  | false => rfl
  | true => have := formOk_parts hf; omega
theorem formYes {xs : List Nd} (h1 : 1 ≤ xs.length) (h2 : xs.length ≤ 40) (h3 : ∀ j, j < xs.length → okAt (xs.getD j default) j = true) (h4 : ∀ j, j < xs.length - 1 → (allUsed xs).count j = 1) : formOk xs = true := by
  unfold formOk nodesOk onceOk
  simp only [Bool.and_eq_true, decide_eq_true_eq, List.all_eq_true, List.mem_range]
  exact ⟨⟨⟨h1, h2⟩, h3⟩, h4⟩

theorem used_at {x : Nd} {k : Nat} (h : okAt x k = true) {j : Nat} (hj : j < (usedOf x).length) : (usedOf x).getD j 0 < k := by
  have hp := okAt_parts h
  have hu := usesI_le x.op
  unfold usedOf at hj ⊢
  match hn : usesI x.op with
  | 0 => rw [hn] at hj; simp at hj
  | 1 =>
    rw [hn] at hj
    have := hp.2.1 (by omega)
    have : j = 0 := by simp at hj; omega
    subst this
    show x.a.toNat < k
    omega
  | 2 =>
    rw [hn] at hj
    have := hp.2.1 (by omega)
    have := hp.2.2.1 hn
    have : j = 0 ∨ j = 1 := by simp at hj; omega
    rcases this with rfl | rfl
    · show x.a.toNat < k
      omega
    · show x.b.toNat < k
      omega
  | n + 3 => omega
theorem take_getD {us : List Nat} {j : Nat} (hj : j < us.length) : us.take (j + 1) = us.take j ++ [us.getD j 0] := by
  rw [List.take_succ_eq_append_getElem hj, List.getD_eq_getElem?_getD, List.getElem?_eq_getElem hj]; rfl

set_option maxRecDepth 100000 in
set_option maxHeartbeats 4000000 in
theorem implOk_any (v : Value) (xs : List Nd) (w : World) (hr : Ns w v xs) :
    Calls Try.prog 16 #[v] w fun e w' => e = .returned (.bool (formOk xs)) ∧ Below w.heap.size w w' := by
  obtain ⟨a, cap, rfl, h1, h2, h3⟩ := hr.parts
  have HR := Lib.hid hr
  have KEY := Lib.hid h3
  clear h3 hr
  unfold maxLen at h2
  by_cases hl1 : xs.length < 1
  · rw [formNot_len (.inl hl1)]
    go_enter Try.func16, Try.ntmps16
    go_wp2
    go_ret
    exact ⟨rfl, Below.refl _ _⟩
  by_cases hl2 : 40 < xs.length
  · rw [formNot_len (.inr hl2)]
    go_enter Try.func16, Try.ntmps16
    go_wp2
    go_ret
    exact ⟨rfl, Below.refl _ _⟩
  generalize hfo : formOk xs = res
  have HF := Lib.hid hfo
  clear hfo
  go_enter Try.func16, Try.ntmps16
  go_wp2_with (refine wpList_alloc rfl 48 rfl _ (alloc_uses _) ?_)
  go_loopw [19] (fun iv wr => ∃ k : Nat, k ≤ xs.length ∧ iv = .int .i64 k ∧ Hid (∀ j, j < k → okAt (xs.getD j default) j = true) ∧ Hid (UsRow wr w.heap.size 48 40 (allUsed (xs.take k))) ∧ Hid (Below w.heap.size w wr)) (fun iv _ => xs.length - (intOf iv).toNat)
  case atStart => exact ⟨0, Nat.zero_le _, rfl, Lib.hid (fun j hj => absurd hj (Nat.not_lt_zero _)), Lib.hid (by simpa [allUsed] using UsRow.start w), Lib.hid ((Below.refl _ _).alloc (Nat.le_refl _) _)⟩
  case round =>
    obtain ⟨k, hk, rfl, HK, HU, HB⟩ := hrel
    by_cases hlt : k < xs.length
    · obtain ⟨b, o, rfl, hb, c0, c1, c2, c3⟩ := KEY.out k hlt
      rw [← HB.out.cell (p := ⟨b, o + k * 4, none⟩) hb] at c0
      rw [← HB.out.cell (p := ⟨b, o + k * 4 + 1, none⟩) hb] at c1
      rw [← HB.out.cell (p := ⟨b, o + k * 4 + 2, none⟩) hb] at c2
      rw [← HB.out.cell (p := ⟨b, o + k * 4 + 3, none⟩) hb] at c3
      generalize hx : xs.getD k default = x at c0 c1 c2 c3
      have HX := Lib.hid hx
      clear hx
      cases hok : okAt x k with
      | false =>
        have HR0 : Hid (res = false) := Lib.hid (HF.out.symm.trans (formNot_at hlt (by rw [HX.out]; exact hok)))
        have H := fun W => nodeOk_any x k W
        rw [hok] at H
        have K := Lib.hid H
        clear H hok
        go_wp2_with fail
        refine (K.out _).mono ?_
        rintro e w2 ⟨rfl, hb2⟩
        have HB2 := Lib.hid hb2; clear hb2
        have hsz := HB.out.size
        go_wp2
        go_ret
        exact ⟨ret_bool HR0.out.symm, ((HB.out.alloc hsz _)).trans (HB2.out.mono (by simp; omega))⟩
      | true =>
        have H := fun W => nodeOk_any x k W
        rw [hok] at H
        have K := Lib.hid H
        clear H
        have hp := okAt_parts hok
        have HOK := Lib.hid hok
        have HP := Lib.hid hp
        clear hok hp
        have hg := HU.out.lt
        have hsz := HB.out.size
        go_wp2_with fail
        refine (K.out _).mono ?_
        rintro e w2 ⟨rfl, hb2⟩
        have HU2 := Lib.hid ((HU.out.alloc (.cells #[.int .i64 x.op, .int .i64 x.n, .int .i64 x.a, .int .i64 x.b] 44)).below hb2 (Nat.le_refl _))
        have HB2 := Lib.hid ((HB.out.alloc hsz _).trans (hb2.mono (by simp; omega)))
        obtain ⟨g0, g1, g2, g3⟩ : w2.cell? ⟨wr.heap.size, 0, none⟩ = some (.int .i64 x.op) ∧ w2.cell? ⟨wr.heap.size, 1, none⟩ = some (.int .i64 x.n) ∧ w2.cell? ⟨wr.heap.size, 2, none⟩ = some (.int .i64 x.a) ∧ w2.cell? ⟨wr.heap.size, 3, none⟩ = some (.int .i64 x.b) := by
          refine ⟨?_, ?_, ?_, ?_⟩ <;> (rw [hb2.cell (p := ⟨wr.heap.size, _, none⟩) (by simp), World.cell?_alloc_at _ _ _ _ rfl]; rfl)
        clear hb2
        go_wp2_with fail
        refine (usedBy_any x _ (fun h => (HP.out.2.1 h).1) (fun h => (HP.out.2.2.1 h).1)).mono ?_
        rintro e w3 ⟨g, rfl, hgl, hgb, hgc, hb3⟩
        have HU3 := Lib.hid (HU2.out.below hb3 (Nat.le_refl _))
        have HC3 := Lib.hid hgc
        have hz2 := HB2.out.size
        have HB3 := Lib.hid (HB2.out.trans (hb3.mono hz2))
        have hB2 := HU2.out.lt
        have hlu : (usedOf x).length ≤ 2 := by unfold usedOf; rw [List.length_take]; simp; omega
        have hal := allUsed_len (xs.take k)
        have htl : (xs.take k).length ≤ k := by rw [List.length_take]; omega
        clear hgc hb3 g0 g1 g2 g3 c0 c1 c2 c3 hb
        go_wp2
        go_loopw [31] (fun jv wq => ∃ j : Nat, j ≤ (usedOf x).length ∧ jv = .int .i64 j ∧ Hid (UsRow wq w.heap.size 48 40 (allUsed (xs.take k) ++ (usedOf x).take j)) ∧ Hid (∀ j, j < (usedOf x).length → wq.cell? ⟨g, j, none⟩ = some (.int .i64 ((usedOf x).getD j 0 : Nat))) ∧ Hid (Below w.heap.size w wq)) (fun jv _ => (usedOf x).length - (intOf jv).toNat)
        case atStart => exact ⟨0, Nat.zero_le _, rfl, by simpa using HU3, HC3, HB3⟩
        case round =>
          obtain ⟨j, hj, rfl, HU4, HC4, HB4⟩ := hrel
          by_cases hlj : j < (usedOf x).length
          · have hcj := HC4.out j hlj
            have hm := used_at HOK.out hlj
            have HT := Lib.hid (take_getD hlj)
            generalize (usedOf x).getD j 0 = m at hcj hm HT
            have hct := HU4.out.cell (i := m) (by omega)
            have hft := HU4.out.frozen m
            have hcnt : (allUsed (xs.take k) ++ (usedOf x).take j).count m ≤ 82 := by
              have h1 := List.count_le_length (a := m) (l := allUsed (xs.take k) ++ (usedOf x).take j)
              rw [List.length_append, List.length_take] at h1
              omega
            have HPU := Lib.hid (HU4.out.push m)
            generalize (allUsed (xs.take k) ++ (usedOf x).take j).count m = cnt at hct hcnt HPU
            have hcnt0 : (0 : Int) ≤ (cnt : Int) := Int.natCast_nonneg _
            go_wp2
            go_roundw
            case rel =>
              refine ⟨j + 1, by omega, by go_num, Lib.hid ?_, Lib.hid (fun i hi => ?_), Lib.hid (HB4.out.setCell (Nat.le_refl _) _)⟩
              · rw [HT.out, ← List.append_assoc]; exact HPU.out
              · rw [World.cell?_setCell_far _ ⟨w.heap.size, m, none⟩ ⟨g, i, none⟩ _ (by show w.heap.size ≠ g; omega)]; exact HC4.out i hi
            case measure => simp [intOf]; omega
          · obtain rfl : j = (usedOf x).length := by omega
            go_wp2
            go_roundw
            case rel =>
              refine ⟨k + 1, by omega, by go_num, Lib.hid (fun i hi => ?_), Lib.hid ?_, HB4⟩
              · rcases Nat.lt_or_ge i k with h | h
                · exact HK.out i h
                · obtain rfl : i = k := by omega
                  rw [HX.out]; exact HOK.out
              · rw [allUsed_take xs hlt, HX.out]
                have := HU4.out
                rwa [List.take_of_length_le (Nat.le_refl _)] at this
            case measure => simp [intOf]; omega
    · obtain rfl : k = xs.length := by omega
      rw [List.take_of_length_le (Nat.le_refl _)] at HU
      have hal := allUsed_len xs
      go_wp2
      go_loop [45] (fun iv => ∃ j : Nat, j ≤ xs.length - 1 ∧ iv = .int .i64 j ∧ Hid (∀ i, i < j → (allUsed xs).count i = 1)) (fun iv => xs.length - (intOf iv).toNat)
      case atStart => exact ⟨0, Nat.zero_le _, rfl, Lib.hid (fun j hj => absurd hj (Nat.not_lt_zero _))⟩
      case round =>
        obtain ⟨j, hj, rfl, HJ⟩ := hrel
        by_cases hlj : j < xs.length - 1
        · have hct := HU.out.cell (i := j) (by omega)
          generalize hcn : (allUsed xs).count j = cnt at hct
          have HCN := Lib.hid hcn
          clear hcn
          by_cases hc1 : cnt = 1
          · subst hc1
            go_wp2
            go_round
            case rel =>
              refine ⟨j + 1, by omega, by go_num, Lib.hid (fun i hi => ?_)⟩
              rcases Nat.lt_or_ge i j with h | h
              · exact HJ.out i h
              · obtain rfl : i = j := by omega
                exact HCN.out
            case measure => simp [intOf]; omega
          · have HR0 : Hid (res = false) := Lib.hid (HF.out.symm.trans (formNot_once hlj (by rw [HCN.out]; exact hc1)))
            have hne : ((cnt : Int) == 1) = false := by simp; omega
            have hne' : ((cnt : Int) != 1) = true := by simp; omega
            have HC1 := Lib.hid hc1
            clear hc1
            go_wp2
            go_ret
            exact ⟨ret_bool HR0.out.symm, HB.out⟩
        · have HR1 : Hid (res = true) := Lib.hid (HF.out.symm.trans (formYes (by omega) (by omega) HK.out (fun i hi => HJ.out i (by omega))))
          obtain rfl : j = xs.length - 1 := by omega
          go_wp2
          go_ret
          exact ⟨ret_bool HR1.out.symm, HB.out⟩

end Go.Proofs.Ytcdccdcalmnocaa
