/-
  Hands of cards: how long the answers are. Mathematics; no program text.
-/
import Derived.Test.YteahjnobnbafiaaDoorCdi
namespace Go.Proofs.YteahjnobnbafiaaDoor

theorem handsR_len (d : Dl) : (handsR d).length ≤ 128 := by
  unfold handsR
  split
  · rename_i hd
    have hn : d.n ≤ 7 := by
      unfold dealR at hd
      simp only [Bool.and_eq_true, decide_eq_true_eq] at hd
      unfold Dl.n
      omega
    exact Nat.le_trans (handsTo_len d.a.toNat (2 ^ d.n)) (pow_le hn)
  · simp
theorem goS_len {hand : Int} {ok : List Int → Bool} {next : List Int → List Int → Option (List Int)} {n : Nat} (h : ∀ r l o, next r l = some o → o.length = l.length + n) : ∀ (r l o : List Int), goS hand ok next r l = some o → o.length = l.length + (n + 1)
  | [], _, _, e => by cases e
  | a :: r, l, o, e => by
    unfold goS at e
    split at e
    · exact goS_len h r l o e
    · split at e
      · rename_i x hx
        injection e with e
        subst e
        have := h _ _ _ hx
        rw [this, List.length_append]; simp; omega
      · exact goS_len h r l o e
theorem srchS_len {hand : Int} {ok fin : List Int → Bool} : ∀ (k : Nat) (r l o : List Int), srchS hand ok fin k r l = some o → o.length = l.length + k
  | 0, _, l, o, e => by
    unfold srchS at e
    split at e
    · injection e with e; rw [← e]; rfl
    · cases e
  | k + 1, r, l, o, e => goS_len (fun r l o e => srchS_len k r l o e) r l o e
theorem firstR_some {d : Dl} {hand size : Int} {o : List Int} (h : firstR d hand size = some o) : 1 ≤ size ∧ size ≤ 7 ∧ (o.length : Int) = size := by
  unfold firstR at h
  split at h
  · rename_i hc
    simp only [Bool.and_eq_true, decide_eq_true_eq] at hc
    have := srchS_len _ _ _ _ h
    simp at this
    omega
  · cases h
theorem firstR_len (d : Dl) (hand size : Int) : ((firstR d hand size).getD []).length ≤ 7 := by
  cases h : firstR d hand size with
  | none => simp
  | some o => have := firstR_some h; simp only [Option.getD_some]; omega
end Go.Proofs.YteahjnobnbafiaaDoor
