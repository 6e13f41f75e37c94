/-
  Contract of Deal.fitting. Conditions: a valid deal, hands from 0 to 127, at most 1048576 of them.
-/
import Derived.Test.YteahjnobnbafiaaDoorCig
namespace Go.Proofs.YteahjnobnbafiaaDoor
open Go.RowKit Go.WideShapes
open Go Go.Deep
set_option linter.unusedSimpArgs false

/-- copy of a list of numbers to the head of a block of one's own -/
theorem wpList_copyL {P : Program} {lo hi : Nat} {w : World} {ops : Array Oper} {rest : List Oper} {o : Oper} {a : Act} {Q : Exit → Act → World → Prop} (hgd : o.guard = none) (d s : Operand) (T E : TypeId)
    (ho : o.op = .call { callee := .builtin .copy, args := #[d, s], argTypes := #[T, T] }) (hu : P.underlying T = some (.slice E)) (hsz : (P.info? E).map (·.size) = some 1)
    (b dLen dCap : Nat) (hd : a.eval d = .slice (some ⟨b, 0, none⟩) dLen dCap) (v : Value) (l : List Int) (hs : a.eval s = v) (hv : Iv lo hi w v l) (hl : l.length ≤ dLen)
    (B : TypeId) (cs : List Value) (hc : Cm w b B cs) (hfit : l.length ≤ cs.length)
    (h : ∀ w', Cm w' b B (lay' cs 0 (ints l)) → At b w w' → wpList P ops Q rest (a.put o.dst (goInt l.length)) w') : wpList P ops Q (o :: rest) a w := by
  replace h := h _ (hc.sets (ints l) 0) (At.setCells w b 0 (ints l))
  obtain ⟨ad, cap, rfl, _, _, h3⟩ := hv.parts
  rcases Nat.eq_zero_or_pos l.length with h0 | h0
  · obtain rfl : l = [] := List.length_eq_zero_iff.1 h0
    exact wpList_copy_nothing hgd d s T T ho E hu hsz _ _ _ _ _ _ hd hs (by simp) h
  · obtain ⟨b', o', rfl, _⟩ := h3 0 h0
    have hmin : (ints l).length = Nat.min l.length dLen := by rw [ints_len]; exact (Nat.min_eq_left hl).symm
    have hrun := run_copy_cells (P := P) w T T o.type E b 0 dLen dCap ⟨b', o', none⟩ l.length cap (ints l) hu hsz hmin
      (fun j u hj => by
        have hj' : j < l.length := by
          rcases Nat.lt_or_ge j l.length with h' | h'
          · exact h'
          · rw [List.getElem?_eq_none (by rw [ints_len]; exact h')] at hj; cases hj
        obtain ⟨b2, o2, e, _, _, _, hcj⟩ := h3 j hj'
        cases e
        rw [addr_add0, hcj, ← hj, ints_at hj'])
      (fun j hj => (hc.there 0 l.length (by omega) j (by rw [← ints_len l]; exact hj)).1) (fun j hj => (hc.there 0 l.length (by omega) j (by rw [← ints_len l]; exact hj)).2) (fun u hu => by obtain ⟨x, -, rfl⟩ := List.mem_map.1 hu; rfl)
    refine wpList_plain hgd fun K hK => ?_
    unfold Oper.wp
    simp [execOp, ho, resolve, invoke, builtin, hd, hs, hrun, Result.andThen]
    rw [ints_len]
    exact hK _ _ h
theorem own_whole {w : World} {base b n : Nat} {E : TypeId} {xs : List Value} (h : w.ownsRow base E 1 (.slice (some ⟨b, 0, none⟩) n n) n xs) : Cm w b E xs := by
  rcases h.2 with ⟨h0, -⟩ | ⟨g', cap', cur, hv, -, hg, -, -, hcs, htake⟩
  · cases h0
  cases hv
  rw [Nat.mul_one] at hcs htake
  unfold Cm
  rw [hg, ← htake, List.take_of_length_le (by simp [hcs])]
theorem ends_row {w0 w w' : World} {b cap : Nat} {m : List Int} (hb : Below w0.heap.size w0 w) (hg : w.grownBy w' (some b)) (hlt : w0.heap.size ≤ b) (hbw : b < w.heap.size) (ho : w'.ownsRow b 3 1 (.slice (some ⟨b, 0, none⟩) m.length cap) m.length (ints m)) : IntsAns w0 m (.returned (.slice (some ⟨b, 0, none⟩) m.length cap)) w' := by
  refine ⟨_, rfl, ⟨?_, ?_⟩, hb.grown hg hb.size (fun k hk => by cases hk; exact hlt)⟩
  · rcases ho.2 with ⟨h0, -⟩ | ⟨g', cap', cur, hv, _, h3, h4, h5, h6, h7⟩
    · cases h0
    cases hv
    rw [ints_len]
    exact ⟨by simp [ints], .inr ⟨b, _, cur, rfl, hlt, h3, h4, h5, h6, h7⟩⟩
  · intro k hk
    cases hk
    exact Nat.lt_of_lt_of_le hbw hg.size
end Go.Proofs.YteahjnobnbafiaaDoor
