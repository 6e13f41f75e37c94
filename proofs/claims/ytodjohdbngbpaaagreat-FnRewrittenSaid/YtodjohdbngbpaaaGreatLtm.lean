/-
  A term is read back from its layout. No program text.
-/
import Derived.Test.YtodjohdbngbpaaaGreatZTmx
import Derived.Test.YtodjohdbngbpaaaGreatZForm
namespace Go.Proofs.YtodjohdbngbpaaaGreat
open Go.RowKit Go.WideShapes
open Go Go.Deep
set_option linter.unusedSimpArgs false

theorem size_pos : ∀ t : Tm, 1 ≤ t.size
  | .leaf _ _ => Nat.le_refl _
  | .deny _ => by simp only [Tm.size]; omega
  | .know _ _ _ => by simp only [Tm.size]; omega
  | .joint _ _ _ => by simp only [Tm.size]; omega
/-- a term is read back from its layout -/
theorem lay_at : ∀ (T : Tm) (k : Nat) (xs : List Nd), T.wf → nodesOk xs = true → (∀ j, j < T.size → xs.getD (k + j) default = (lay k T).getD j default) → k + T.size ≤ xs.length → tmAt xs (k + T.size - 1) = T
  | .leaf op n, k, xs, hw, hn, h, hl => by
    have h0 := h 0 (by simp [Tm.size])
    simp only [Tm.size] at hl
    rw [show k + (Tm.leaf op n).size - 1 = k by simp [Tm.size], tmAt_eq hn (by omega), show k = k + 0 by omega, h0]
    exact mkTm_leaf hw.1 _ _
  | .deny a, k, xs, hw, hn, h, hl => by
    have hp := size_pos a
    simp only [Tm.size] at hl
    have h0 := h a.size (by simp [Tm.size])
    rw [lay, show a.size = (lay k a).length + 0 by rw [lay_len]; rfl, getD_app_right, lay_len] at h0
    rw [show k + (Tm.deny a).size - 1 = k + (a.size + 0) by simp [Tm.size], tmAt_eq hn (by omega), h0]
    show mkTm 3 0 (tmAt xs (((k + a.size : Nat) : Int) - 1).toNat) _ = _
    rw [mkTm_deny, show (((k + a.size : Nat) : Int) - 1).toNat = k + a.size - 1 by omega, lay_at a k xs hw hn (fun j hj => by rw [h j (by simp [Tm.size]; omega), lay, getD_app_left (by rw [lay_len]; exact hj)]) (by omega)]
  | .know op n a, k, xs, hw, hn, h, hl => by
    have hp := size_pos a
    simp only [Tm.size] at hl
    have h0 := h a.size (by simp [Tm.size])
    rw [lay, show a.size = (lay k a).length + 0 by rw [lay_len]; rfl, getD_app_right, lay_len] at h0
    rw [show k + (Tm.know op n a).size - 1 = k + (a.size + 0) by simp [Tm.size], tmAt_eq hn (by omega), h0]
    show mkTm op n (tmAt xs (((k + a.size : Nat) : Int) - 1).toNat) _ = _
    rw [mkTm_know hw.1, show (((k + a.size : Nat) : Int) - 1).toNat = k + a.size - 1 by omega, lay_at a k xs hw.2.2.2 hn (fun j hj => by rw [h j (by simp [Tm.size]; omega), lay, getD_app_left (by rw [lay_len]; exact hj)]) (by omega)]
  | .joint op a b, k, xs, hw, hn, h, hl => by
    have hp := size_pos a
    have hq := size_pos b
    simp only [Tm.size] at hl
    have h0 := h (a.size + b.size) (by simp [Tm.size])
    rw [lay, show a.size + b.size = (lay k a ++ lay (k + a.size) b).length + 0 by rw [List.length_append, lay_len, lay_len]; rfl, getD_app_right, List.length_append, lay_len, lay_len] at h0
    rw [show k + (Tm.joint op a b).size - 1 = k + (a.size + b.size + 0) by simp [Tm.size], tmAt_eq hn (by omega), h0]
    show mkTm op 0 (tmAt xs (((k + a.size : Nat) : Int) - 1).toNat) (tmAt xs (((k + a.size + b.size : Nat) : Int) - 1).toNat) = _
    rw [mkTm_joint hw.1, show (((k + a.size : Nat) : Int) - 1).toNat = k + a.size - 1 by omega, show (((k + a.size + b.size : Nat) : Int) - 1).toNat = k + a.size + b.size - 1 by omega,
      lay_at a k xs hw.2.1 hn (fun j hj => by rw [h j (by simp [Tm.size]; omega), lay, getD_app_left (by rw [List.length_append, lay_len, lay_len]; omega), getD_app_left (by rw [lay_len]; exact hj)]) (by omega),
      lay_at b (k + a.size) xs hw.2.2 hn (fun j hj => by
        rw [Nat.add_assoc, h (a.size + j) (by simp [Tm.size]; omega), lay, getD_app_left (by rw [List.length_append, lay_len, lay_len]; omega), show a.size + j = (lay k a).length + j by rw [lay_len], getD_app_right]) (by omega)]
theorem lay_tm {T : Tm} (hw : T.wf) (hs : T.size ≤ 40) : tmAt (lay 0 T) ((lay 0 T).length - 1) = T := by
  have h := lay_at T 0 (lay 0 T) hw (formOk_parts (lay_formOk hw hs)).2.2.1 (fun j _ => by rw [Nat.zero_add]) (by rw [lay_len]; omega)
  rw [lay_len]
  rwa [Nat.zero_add] at h
end Go.Proofs.YtodjohdbngbpaaaGreat
