/-
  FnCommon in mathematics: common knowledge as a fixed point for the program's truth, who knows, what is silent. No program but its types' numbers.
-/
import Derived.Test.YthjfanhhindjlaaGreatCom
import Derived.Test.YthjfanhhindjlaaGreatWkn
import Derived.Test.YthjfanhhindjlaaGreatIsi
import Derived.Test.YthjfanhhindjlaaGreatZDrg
namespace Go.Proofs.YthjfanhhindjlaaGreat
open Go.RowKit Go.WideShapes
open Go Go.Deep
set_option linter.unusedSimpArgs false

theorem eqB_of {p q : Nat → Bool} {n : Nat} (hp : ∀ i, p i = true → i < n) (hq : ∀ i, q i = true → i < n) (h : ∀ i, i < n → p i = q i) : eqB p q = true := by
  unfold eqB
  rw [List.all_eq_true]
  intro i _
  rw [beq_iff_eq]
  rcases Nat.lt_or_ge i n with h1 | h1
  · exact h i h1
  · have e1 : p i = false := by
      cases e : p i with
      | false => rfl
      | true => have := hp i e; omega
    have e2 : q i = false := by
      cases e : q i with
      | false => rfl
      | true => have := hq i e; omega
    rw [e1, e2]
theorem fix_eq {m : Md} (hm : mdOk m = true) (t : Tm) : eqB (evI (.know 8 0 t) m) (evI (.know 7 0 (.joint 4 t (.know 8 0 t))) m) = true :=
  eqB_of (n := m.facts.length) (fun i h => evI_in _ m i (mdOk_parts hm).2.1 h) (fun i h => evI_in _ m i (mdOk_parts hm).2.1 h) fun _ hi => common_fix hm hi
theorem each_eq {m : Md} (hm : mdOk m = true) (h2 : m.blocks.length = 2) (t : Tm) : eqB (evI (.know 7 0 t) m) (evI (.joint 4 (.know 5 0 t) (.know 5 1 t)) m) = true := by
  have hn := (mdOk_parts hm).2.1
  refine eqB_of (n := m.facts.length) (fun i h => evI_in _ m i hn h) (fun i h => evI_in _ m i hn h) fun i hi => ?_
  rw [Bool.eq_iff_iff, every_each hn hi, and_ev hi, Bool.and_eq_true]
  constructor
  · intro h
    exact ⟨h 0 (by omega), h 1 (by omega)⟩
  · rintro ⟨h0, h1⟩ k hk
    have : k = 0 ∨ k = 1 := by omega
    rcases this with rfl | rfl
    · exact h0
    · exact h1
theorem silent_common {m : Md} (hm : mdOk m = true) {t : Tm} (hw : t.wf) (hs : t.size ≤ 40) (h2 : 2 ≤ m.blocks.length) (ha : t.ag 2) : silentR m (lay 0 t) = evI (.know 8 0 t) m m.actual.toNat := by
  obtain ⟨p1, p2, -, -, -, -, p7, p8⟩ := mdOk_parts hm
  have hu : m.actual.toNat < m.facts.length := by omega
  rw [Bool.eq_iff_iff, common_ev p2 hu]
  unfold silentR
  rw [evOk_lay hm hw hs (A := 2) (by omega) h2 ha, evP_lay hw hs, Bool.true_and, List.all_eq_true]
  constructor
  · intro h v hv
    exact h v (mem_lst.2 ⟨by have := wsh_in (fun _ _ => stepP_in) hu hv; omega, hv⟩)
  · intro h v hv
    exact h v (mem_lst.1 hv).2
theorem who_all {m : Md} (hm : mdOk m = true) {t : Tm} (hw : t.wf) (hs : t.size ≤ 40) (h2 : 2 ≤ m.blocks.length) (ha : t.ag 2) : decide ((whoR m (lay 0 t)).length = m.blocks.length) = evI (.know 7 0 t) m m.actual.toNat := by
  obtain ⟨p1, p2, -, -, -, -, p7, p8⟩ := mdOk_parts hm
  have hu : m.actual.toNat < m.facts.length := by omega
  rw [Bool.eq_iff_iff, decide_eq_true_eq, every_each p2 hu]
  unfold whoR
  rw [evOk_lay hm hw hs (A := 2) (by omega) h2 ha, if_pos rfl, nums_len, lst_full]
  have hk : ∀ k : Nat, whoP m (lay 0 t) k = evI (.know 5 (k : Int) t) m m.actual.toNat := fun k => by
    unfold whoP
    rw [evP_lay hw hs, show evI (.know 5 (k : Int) t) m = cut m.facts.length (fun w => subB (blkB m.blocks m.facts.length k w) (evI t m)) from rfl, cut_at hu]
  exact ⟨fun h k hk' => by rw [← hk]; exact h k hk', fun h k hk' => by rw [hk]; exact h k hk'⟩
theorem holds_lay {m : Md} (hm : mdOk m = true) {t : Tm} (hw : t.wf) (hs : t.size ≤ 40) (h2 : 2 ≤ m.blocks.length) (ha : t.ag 2) : holdsR m (lay 0 t) = evI t m m.actual.toNat := by
  unfold holdsR; rw [evOk_lay hm hw hs (A := 2) (by omega) h2 ha, evP_lay hw hs, Bool.true_and]
theorem truthA_lay {m : Md} (hm : mdOk m = true) {t : Tm} (hw : t.wf) (hs : t.size ≤ 40) (h2 : 2 ≤ m.blocks.length) (ha : t.ag 2) : truthA m (lay 0 t) = (List.range m.facts.length).map (evI t m) ∧ evOk m (lay 0 t) = true := by
  have h := evOk_lay hm hw hs (A := 2) (by omega) h2 ha
  unfold truthA truthR
  rw [if_pos h, evP_lay hw hs]
  exact ⟨rfl, h⟩
end Go.Proofs.YthjfanhhindjlaaGreat
