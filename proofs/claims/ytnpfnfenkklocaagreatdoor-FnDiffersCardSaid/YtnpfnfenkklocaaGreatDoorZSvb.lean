/- ZSvb -/
import Derived.Test.YtnpfnfenkklocaaGreatDoorTru
set_option maxRecDepth 100000
set_option maxHeartbeats 64000000
namespace Go.Proofs.YtnpfnfenkklocaaGreatDoor
open Go.RowKit Go.WideShapes
open Go Go.Deep
set_option linter.unusedSimpArgs false
theorem evOk_parts {m : Md} {xs : List Nd} (h : evOk m xs = true) : mdOk m = true ∧ formOk xs = true ∧ agentsOk xs m.blocks.length = true := by
  unfold evOk at h; rw [Bool.and_eq_true, Bool.and_eq_true] at h; exact ⟨h.1.1, h.1.2, h.2⟩
section
variable {P : Program}
end
def whereR (m : Md) (xs : List Nd) : List Int := if evOk m xs then nums (lst (evP m xs) 16) else []
theorem truthIn_gen (lo hi : Nat) (v v2 : Value) (m : Md) (xs : List Nd) (w : World) (hr : Mv lo hi w v m) (hhi : hi ≤ w.heap.size) (hr2 : Ns w v2 xs) :
    ∃ (G : List Int) (P : Nat → Bool), (ints G).length = 67 ∧ (evOk m xs = true → (ints G)[0]? = some (.int .i64 m.facts.length) ∧ (ints G)[66]? = some (.int .i64 m.actual) ∧ P = evP m xs ∧ G = gM m) ∧ (evOk m xs = false → P = fun _ => false) ∧
      ∀ W, Below w.heap.size w W → Calls Tryz.prog 45 #[v, v2] W fun e w' => e = .returned (.tuple #[.agg (ints G).toArray, .agg (bL P).toArray, .bool (evOk m xs)]) ∧ Below W.heap.size W w' := by
  have K := fun W (h : Below w.heap.size w W) => truthIn_any lo hi v v2 m xs W (hr.keeps (Keeps.of_all h)) (Nat.le_trans hhi h.size) (hr2.below h (Nat.le_refl _))
  unfold TrAns at K
  cases hok : evOk m xs with
  | true =>
    rw [hok] at K
    have hs := md_small (evOk_parts hok).1
    refine ⟨gM m, evP m xs, by rw [ints_len]; exact gL_len hs, fun _ => ⟨rfl, ?_, rfl, rfl⟩, fun h => absurd h (by decide), fun W h => K W h⟩
    unfold ints gM
    rw [List.getElem?_map, gL_66 hs]; rfl
  | false =>
    rw [hok] at K
    exact ⟨gL 0 0 [] [] 0, fun _ => false, rfl, fun h => absurd h (by decide), fun _ => rfl, fun W h => K W h⟩
end Go.Proofs.YtnpfnfenkklocaaGreatDoor
