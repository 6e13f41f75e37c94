/-
  Common knowledge as a fixed point, what all know and what each one knows, the length of the chain: in mathematics. No program but its types' numbers.
-/
import Derived.Test.YthjfanhhindjlaaGreatBal
import Derived.Test.YthjfanhhindjlaaGreatPub
namespace Go.Proofs.YthjfanhhindjlaaGreat
open Go.RowKit Go.WideShapes
open Go Go.Deep
set_option linter.unusedSimpArgs false

theorem and_ev {m : Md} {a b : Tm} {u : Nat} (hu : u < m.facts.length) : evI (.joint 4 a b) m u = (evI a m u && evI b m u) := by
  unfold evI; rw [if_pos rfl, cut_at hu]
  cases a <;> cases b <;> rfl
theorem reach_more {m : Md} {u v w : Nat} (h : reachB m.blocks m.facts.length m.blocks.length u v = true) (hv : v < m.facts.length) (hw : w < m.facts.length) (hn : nearM m v w = true) : reachB m.blocks m.facts.length m.blocks.length u w = true := by
  refine wsh_more (fun _ _ => stepP_in) h ?_
  unfold stepP
  rw [decide_eq_true hv, decide_eq_true hw]
  exact hn
theorem reach_thru {m : Md} {u v w : Nat} (h : reachB m.blocks m.facts.length m.blocks.length u v = true) (h' : reachB m.blocks m.facts.length m.blocks.length v w = true) : reachB m.blocks m.facts.length m.blocks.length u w = true :=
  wsh_least (T := fun k => reachB m.blocks m.facts.length m.blocks.length u k) (fun _ _ hi hr => wsh_more (fun _ _ => stepP_in) hi hr) h h'
/-- common is what all know to be true and to be common -/
theorem common_fix {m : Md} (hm : mdOk m = true) {t : Tm} {n n' : Int} {u : Nat} (hu : u < m.facts.length) : evI (.know 8 n t) m u = evI (.know 7 n' (.joint 4 t (.know 8 n t))) m u := by
  have hn := (mdOk_parts hm).2.1
  rw [Bool.eq_iff_iff, common_ev hn hu, every_ev hn hu]
  constructor
  · intro h y hy hnr
    have hr := reach_more (wsh_refl _ _ _) hu hy hnr
    rw [and_ev hy, Bool.and_eq_true, common_ev hn hy]
    exact ⟨h y hr, fun z hz => h z (reach_thru hr hz)⟩
  · intro h
    have := h u hu (nearM_refl hm u)
    rw [and_ev hu, Bool.and_eq_true, common_ev hn hu] at this
    exact this.2
/-- all know is what each one knows -/
theorem every_each {m : Md} (hn : m.facts.length ≤ 16) {t : Tm} {n : Int} {u : Nat} (hu : u < m.facts.length) : evI (.know 7 n t) m u = true ↔ ∀ k : Nat, k < m.blocks.length → evI (.know 5 (k : Int) t) m u = true := by
  rw [every_ev hn hu]
  constructor
  · intro h k hk
    rw [know_ev hn hu]
    intro y hy
    obtain ⟨y1, y2⟩ := mem_blkD.1 hy
    exact h y y1 (nearM_iff.2 ⟨k, hk, by rw [sameW_comm]; exact y2⟩)
  · intro h y hy hnr
    obtain ⟨k, hk, e⟩ := nearM_iff.1 hnr
    exact (know_ev hn hu).1 (h k hk) y (mem_blkD.2 ⟨hy, by rw [sameW_comm]; exact e⟩)
/-- what all know k times, by terms -/
theorem every_term {m : Md} (hn : m.facts.length ≤ 16) {t : Tm} {n : Int} {u : Nat} (hu : u < m.facts.length) : evI (.know 7 n t) m u = everyB m (evI t m) u := by
  rw [Bool.eq_iff_iff, every_ev hn hu, everyB_iff]; rfl
theorem common_depth {m : Md} (hm : mdOk m = true) {t : Tm} {n : Int} {u : Nat} (hu : u < m.facts.length) : evI (.know 8 n t) m u = true ↔ falseK m (evI t m) u = none := by
  rw [common_ev (mdOk_parts hm).2.1 hu, falseK_common hm hu]
/-- the chain's worlds are as far as their places -/
theorem chain_ball {m : Md} (hm : mdOk m = true) {p : Nat → Bool} {k u : Nat} (hu : u < m.facts.length) (h : falseK m p u = some k) : ∀ i, i ≤ k → ballB m i u ((chainK m p k u).getD i 0) = true := by
  obtain ⟨c1, c2, c3, c4⟩ := chain_good hm hu h
  intro i
  induction i with
  | zero => intro _; rw [c4]; exact ball_self m u
  | succ i ih =>
    intro hi
    have hl := chainK_len m p k u
    have hin : ∀ j, j ≤ k → (chainK m p k u).getD j 0 < m.facts.length := fun j hj => c1 _ (getD_memN (by omega))
    exact ball_succ.2 ⟨hin _ hi, _, hin i (by omega), ih (by omega), c2 i (by omega)⟩
theorem chain_dist {m : Md} (hm : mdOk m = true) {p : Nat → Bool} {k u : Nat} (hu : u < m.facts.length) (h : falseK m p u = some k) : distB m u ((chainK m p k u).getD k 0) = some k := by
  obtain ⟨c1, c2, c3, c4⟩ := chain_good hm hu h
  obtain ⟨a1, a2, a3, a4⟩ := falseK_some hm hu h
  refine leastK_some.2 ⟨a3, chain_ball hm hu h k (Nat.le_refl _), fun j hj => ?_⟩
  cases e : ballB m j u ((chainK m p k u).getD k 0) with
  | false => rfl
  | true =>
    have := (everyK_iff hu).1 (a2 j hj) _ e
    rw [this] at c3; cases c3
end Go.Proofs.YthjfanhhindjlaaGreat
