/-
  Contracts of spec.l03World, spec.SameBlock, impl.SameBlock.
-/
import Derived.Test.YtegmoojjffkacaaSok
namespace Go.Proofs.Ytegmoojjffkacaa
open Go.RowKit Go.WideShapes
open Go Go.Deep
set_option linter.unusedSimpArgs false

set_option maxRecDepth 100000 in
set_option maxHeartbeats 2000000 in
theorem specWorld_any (lo hi : Nat) (v : Value) (m : Md) (x : Int) (w : World) (hr : Mv lo hi w v m) :
    Calls Try.prog 64 #[v, .int .i64 x] w fun e w' => e = .returned (.bool (inB x m.facts.length)) ∧ Below w.heap.size w w' := by
  obtain ⟨fv, bv, rfl, hf, hb⟩ := hr
  obtain ⟨fa, fc, rfl⟩ := hf.form
  clear hf hb
  rcases Int.lt_or_le x 0 with h | h
  · rw [inB_low h]
    go_enter Try.func64, Try.ntmps64
    go_wp2
    go_ret
    exact ⟨rfl, by go_grown⟩
  · rcases Int.lt_or_le x m.facts.length with h2 | h2
    · rw [inB_yes h h2]
      go_enter Try.func64, Try.ntmps64
      go_wp2
      go_ret
      exact ⟨rfl, by go_grown⟩
    · rw [inB_high h2]
      go_enter Try.func64, Try.ntmps64
      go_wp2
      go_ret
      exact ⟨ret_bool (decide_eq_false (by omega)), by go_grown⟩

/-- an operation that yields in every world of S is taken first; its slot named -/
theorem wpAnyH_takeD {P : Program} {ops : Array Oper} {Q : Exit → Act → World → Prop} {md : Region.Mode} {S : World → Prop} {i : Nat} {oi : Oper} {v : Value} {fuel : Nat} {listed : Array Bool} {a : Act} {w : World} (d : Nat) (hi : ops[i]? = some oi) (hd : oi.dst = some d)
    (hs : Region.noSelect ops = true) (hf : Region.free md ops listed i = true) (hr : (Region.ready md ops listed).contains i = true)
    (hQ : ∀ c a w, Q (.panic c) (a.put oi.dst v) w → Q (.panic c) a w) (hy : YieldsIf P ops S oi v a) (hS : S w)
    (h : wpAnyH P md ops Q S fuel (listed.setIfInBounds i true) (a.put (some d) v) w) : wpAnyH P md ops Q S (fuel + 1) listed a w :=
  wpAnyH_take hi hs hf hr hQ hy hS (by rw [hd]; exact h)
def sameB (m : Md) (a i j : Int) : Bool :=
  specOk m && inB a m.blocks.length && inB i m.facts.length && inB j m.facts.length && decide ((m.blocks.getD a.toNat []).getD i.toNat 0 = (m.blocks.getD a.toNat []).getD j.toNat 0)

end Go.Proofs.Ytegmoojjffkacaa
