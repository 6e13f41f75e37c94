/-
  What a search finds is safe and has the hand; the hands of the drawn deals; two lists reckoned out. Mathematics; no program text.
-/
import Derived.Test.YteahjnobnbafiaaDoorCdl
import Derived.Test.YteahjnobnbafiaaDoorCdt
import Derived.Test.YteahjnobnbafiaaDoorCdv
namespace Go.Proofs.YteahjnobnbafiaaDoor

theorem goS_some {hand : Int} {ok : List Int → Bool} {next : List Int → List Int → Option (List Int)} : ∀ (r l o : List Int), goS hand ok next r l = some o → ∃ r' l', ok l' = true ∧ next r' l' = some o
  | [], _, _, e => by cases e
  | a :: r, l, o, e => by
    unfold goS at e
    split at e
    · exact goS_some r l o e
    · rename_i hc
      split at e
      · rename_i x hx
        injection e with e
        subst e
        rw [Bool.or_eq_true, not_or] at hc
        exact ⟨r, l ++ [a], by simpa using hc.2, hx⟩
      · exact goS_some r l o e
theorem srch_ok {hand : Int} {ok fin : List Int → Bool} : ∀ (k : Nat) (r l o : List Int), srchS hand ok fin (k + 1) r l = some o → ok o = true ∧ fin o = true ∧ hasI o hand = true
  | 0, r, l, o, e => by
    obtain ⟨r', l', h1, h2⟩ := goS_some r l o e
    unfold srchS at h2
    split at h2
    · rename_i hc
      injection h2 with h2
      subst h2
      rw [Bool.and_eq_true] at hc
      exact ⟨h1, hc.2, hc.1⟩
    · cases h2
  | k + 1, r, l, o, e => by
    obtain ⟨r', l', _, h2⟩ := goS_some r l o e
    exact srch_ok k r' l' o h2
theorem firstR_ok {d : Dl} {hand size : Int} {o : List Int} (h : firstR d hand size = some o) : hasI o hand = true ∧ safeR d o = true := by
  have h1 := firstR_some h
  unfold firstR at h
  split at h
  · obtain ⟨k, hk⟩ : ∃ k, size.toNat = k + 1 := ⟨size.toNat - 1, by omega⟩
    rw [hk] at h
    have := srch_ok k _ _ _ h
    unfold safeR
    exact ⟨this.2.2, by rw [this.1, this.2.1]; rfl⟩
  · cases h
theorem deals_hands : ∀ d ∈ dealsL, 1 ≤ (handsR d).length := by decide +kernel
theorem big_safe : safeR ⟨3, 3, 1⟩ [7, 25, 42, 52, 76, 82, 97] = true := by decide +kernel
theorem big_not : safeR ⟨3, 3, 1⟩ [7, 25] = false := by decide +kernel
end Go.Proofs.YteahjnobnbafiaaDoor
