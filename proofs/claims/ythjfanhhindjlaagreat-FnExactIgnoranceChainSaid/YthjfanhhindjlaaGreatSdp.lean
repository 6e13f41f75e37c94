/-
  SharedDepth of the program. No condition but the readings.
-/
import Derived.Test.YthjfanhhindjlaaGreatDbt
namespace Go.Proofs.YthjfanhhindjlaaGreat
open Go.RowKit Go.WideShapes
open Go Go.Deep
set_option linter.unusedSimpArgs false

theorem wid_at {rows : List (List Int)} {n a : Nat} {p : Nat → Bool} {j : Nat} : wid rows n a p j = true ↔ j < n ∧ ∃ i, i < 16 ∧ p i = true ∧ near rows a i j = true := by
  unfold wid widK
  rw [Bool.and_eq_true, decide_eq_true_eq, List.any_eq_true]
  exact ⟨fun ⟨h, i, hi, hn⟩ => ⟨h, i, (mem_lst.1 hi).1, (mem_lst.1 hi).2, hn⟩, fun ⟨h, i, h1, h2, hn⟩ => ⟨h, i, mem_lst.2 ⟨h1, h2⟩, hn⟩⟩
/-- the levels around the worlds where p is false -/
theorem lev_every {m : Md} (hm : mdOk m = true) {p : Nat → Bool} : ∀ k u, u < m.facts.length → levP m.blocks m.facts.length m.blocks.length (cut m.facts.length fun i => !p i) k u = !(everyK m p k u)
  | 0, u, hu => by
    show cut m.facts.length (fun i => !p i) u = !(p u)
    unfold cut; rw [decide_eq_true hu, Bool.true_and]
  | k + 1, u, hu => by
    have ih := lev_every hm (p := p) k
    have h16 := (mdOk_parts hm).2.1
    show wid _ _ _ _ u = !(everyB m (everyK m p k) u)
    have hin := levP_in (rows := m.blocks) (a := m.blocks.length) (p := cut m.facts.length fun i => !p i) (fun i h => cut_in h) k
    rw [Bool.eq_iff_iff, wid_at, Bool.not_eq_true', ← Bool.not_eq_true, everyB_iff]
    constructor
    · rintro ⟨_, i, hi, hp, hn⟩ hall
      have hi' := hin i hp
      rw [ih i hi'] at hp
      rw [hall i hi' (nearM_symm hn)] at hp
      cases hp
    · intro hno
      refine ⟨hu, ?_⟩
      refine Classical.byContradiction fun hn => hno fun v hv hnv => ?_
      cases e : everyK m p k v with
      | true => rfl
      | false => exact absurd ⟨v, by omega, by rw [ih v hv, e]; rfl, nearM_symm hnv⟩ hn
theorem idx_false {m : Md} (hm : mdOk m = true) {xs : List Nd} {u : Nat} (hu : u < m.facts.length) : idxI (fun k => doubtP m xs k u) m.facts.length = match falseK m (evP m xs) u with | some k => (k : Int) | none => -1 := by
  unfold idxI falseK
  rw [show (fun k => doubtP m xs k u) = fun k => !(everyK m (evP m xs) k u) from funext fun k => lev_every hm k u hu]
  cases leastK (fun k => !everyK m (evP m xs) k u) m.facts.length <;> rfl
/-- how often all know that all know it -/
def sdR (m : Md) (xs : List Nd) : Int := if evOk m xs then depthK m (evP m xs) m.actual.toNat else -1

end Go.Proofs.YthjfanhhindjlaaGreat
