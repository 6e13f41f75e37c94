/-
  Contract of impl.FirstSafe; what the other functions of hands answer comes along. No condition.
-/
import Derived.Test.YteahjnobnbafiaaDoorCic
import Derived.Test.YteahjnobnbafiaaDoorCib
import Derived.Test.YteahjnobnbafiaaDoorCdr
import Derived.Test.YteahjnobnbafiaaDoorCdt
namespace Go.Proofs.YteahjnobnbafiaaDoor
open Go.RowKit Go.WideShapes
open Go Go.Deep
set_option linter.unusedSimpArgs false

theorem sorted_uniq : ∀ {a b : List Int}, a.Pairwise (· ≤ ·) → b.Pairwise (· ≤ ·) → a.Perm b → a = b
  | [], b, _, _, hp => hp.nil_eq
  | x :: r, [], _, _, hp => by have := hp.length_eq; simp at this
  | x :: r, y :: s, ha, hb, hp => by
    have h1 : x ≤ y := by
      rcases List.mem_cons.1 (hp.mem_iff.2 (List.mem_cons_self ..)) with h | h
      · omega
      · exact List.rel_of_pairwise_cons ha h
    have h2 : y ≤ x := by
      rcases List.mem_cons.1 (hp.mem_iff.1 (List.mem_cons_self ..)) with h | h
      · omega
      · exact List.rel_of_pairwise_cons hb h
    have e : x = y := by omega
    subst e
    rw [sorted_uniq ha.of_cons hb.of_cons ((List.perm_cons x).1 hp)]
def sortI (l : List Int) : List Int := l.mergeSort fun x y => decide (x ≤ y)
theorem sort_ins {x : Int} {M : List Int} (ha : M.Pairwise (· < ·)) (hx : x ∉ M) : sortI ([x] ++ M) = insL x M := by
  refine sorted_uniq ?_ ((ins_asc ha hx).imp (fun h => by omega)) ((List.mergeSort_perm _ _).trans (ins_perm x M).symm)
  have := List.pairwise_mergeSort (le := fun x y : Int => decide (x ≤ y)) (fun a b c h1 h2 => by simp only [decide_eq_true_eq] at *; omega) (fun a b => by simp only [Bool.or_eq_true, decide_eq_true_eq]; omega) ([x] ++ M)
  exact this.imp (fun h => by simpa using h)
theorem clsh_self {d : Dl} {x : Int} (hd : dealR d = true) (h : x ∈ handsR d) : clshD d x x = true := by
  have hf := deal_facts hd
  have hp : pop x.toNat = d.a.toNat := by
    unfold handsR at h
    rw [if_pos hd] at h
    exact (handsTo_mem h).2.2
  unfold clshD; rw [and_self_pop, hp, decide_eq_true_eq]; omega
theorem first_sort {d : Dl} {hand size : Int} (hh : hand ∈ handsR d) (hd : dealR d = true) (hs : 1 ≤ size ∧ size ≤ 7) : firstR d hand size = (complS d (size.toNat - 1) [hand] (fitP d hand (handsR d))).map sortI := by
  have hf := deal_facts hd
  rw [first_prog hd hh hs hf.2.2.2.2.1 (by omega), compl_find, Option.map_map]
  cases hc : (combsL (size.toNat - 1) (fitP d hand (handsR d))).find? (fun M => pairP d M && hidesP d ([hand] ++ M)) with
  | none => rfl
  | some M =>
    have hM := combs_sub (List.mem_of_find?_eq_some hc)
    show some (insL hand M) = some (sortI ([hand] ++ M))
    rw [sort_ins]
    · exact ((hands_asc d).filter _).sublist hM.1
    · intro hm
      have := (List.mem_filter.1 (hM.1.subset hm)).2
      rw [clsh_self hd hh] at this
      cases this
theorem compl_len {d : Dl} {k : Nat} {b W o : List Int} (h : complS d k b W = some o) : o.length = b.length + k := by
  rw [compl_find] at h
  cases hc : (combsL k W).find? (fun M => pairP d M && hidesP d (b ++ M)) with
  | none => rw [hc] at h; cases h
  | some M =>
    rw [hc] at h
    injection h with h
    rw [← h, List.length_append, (combs_sub (List.mem_of_find?_eq_some hc)).2]
theorem first_no {d : Dl} {hand size : Int} (h : hasI (handsR d) hand = false ∨ ¬ (1 ≤ size ∧ size ≤ 7)) : firstR d hand size = none := by
  unfold firstR
  rw [if_neg]
  simp only [Bool.and_eq_true, decide_eq_true_eq]
  rintro ⟨-, h1, h2⟩
  rcases h with h | h
  · rw [h] at h1; cases h1
  · exact h h2

end Go.Proofs.YteahjnobnbafiaaDoor
