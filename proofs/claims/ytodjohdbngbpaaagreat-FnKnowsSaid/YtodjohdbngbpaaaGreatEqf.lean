/-
  Contracts of slices.EqualFunc of two lists of lists of ints with slices.Equal; spec.SameModel, impl.SameModel.
-/
import Derived.Test.YtodjohdbngbpaaaGreatSme
namespace Go.Proofs.YtodjohdbngbpaaaGreat
open Go.RowKit Go.WideShapes
open Go Go.Deep

theorem llist_same {l l' : List (List Int)} (h : l.length = l'.length) (hk : ∀ j, j < l.length → l.getD j [] = l'.getD j []) : l = l' := by
  apply List.ext_getElem?
  intro j
  rcases Nat.lt_or_ge j l.length with hj | hj
  · have := hk j hj
    rw [List.getD_eq_getElem?_getD, List.getD_eq_getElem?_getD, List.getElem?_eq_getElem hj, List.getElem?_eq_getElem (show j < l'.length by omega)] at this
    rw [List.getElem?_eq_getElem hj, List.getElem?_eq_getElem (show j < l'.length by omega)]
    simpa using this
  · rw [List.getElem?_eq_none hj, List.getElem?_eq_none (by omega)]
theorem llist_differ {l l' : List (List Int)} (h : l.length ≠ l'.length) : decide (l = l') = false := decide_eq_false (fun e => h (by rw [e]))
theorem llist_differ_at {l l' : List (List Int)} {k : Nat} (h : l.getD k [] ≠ l'.getD k []) : decide (l = l') = false := decide_eq_false (fun e => h (by rw [e]))

set_option maxRecDepth 100000 in
set_option maxHeartbeats 4000000 in
theorem equalFunc_any (lo hi lo' hi' : Nat) (u v : Value) (l l' : List (List Int)) (w : World) (hu : Ivv lo hi w u l) (hv : Ivv lo' hi' w v l') :
    Calls Tryz.prog 67 #[u, v, .func (.func 66) #[] #[]] w fun e w' => e = .returned (.bool (decide (l = l'))) ∧ ∃ n, w' = w.drewN n := by
  have KU := Lib.hid (fun n => hu.keeps (w' := w.drewN n) (Keeps.of_all (below_drewN' (Below.refl _ _) n)))
  have KV := Lib.hid (fun n => hv.keeps (w' := w.drewN n) (Keeps.of_all (below_drewN' (Below.refl _ _) n)))
  obtain ⟨a1, c1, rfl, hc1, hm1, h1⟩ := hu.parts
  obtain ⟨a2, c2, rfl, hc2, hm2, h2⟩ := hv.parts
  clear h1 h2 hu hv
  unfold maxLen at hm1 hm2
  obtain ⟨R, hR⟩ : ∃ R, R = decide (l = l') := ⟨_, rfl⟩
  rw [← hR]
  have HR := Lib.hid hR
  clear hR
  by_cases hl : l.length = l'.length
  · rw [← hl] at hc2 KV ⊢
    have HL := Lib.hid hl
    clear hl
    go_enter Tryz.func67, Tryz.ntmps67
    go_wp2
    go_loopw [17] (fun i wr => ∃ k n : Nat, k ≤ l.length ∧ i = .int .i64 k ∧ wr = w.drewN n ∧ Hid (∀ j, j < k → l.getD j [] = l'.getD j [])) (fun i _ => l.length - (intOf i).toNat)
    case atStart => exact ⟨0, 0, Nat.zero_le _, rfl, rfl, Lib.hid (fun j hj => absurd hj (by omega))⟩
    case round =>
      obtain ⟨k, n, hk, rfl, rfl, HK⟩ := hrel
      by_cases hlt : k < l.length
      · obtain ⟨b1, o1, x1, rfl, _, _, hb1, d0, hx1⟩ := (KU.out n).row rfl k hlt
        obtain ⟨b2, o2, x2, rfl, _, _, hb2, e0, hx2⟩ := (KV.out n).row rfl k (by rw [← HL.out]; exact hlt)
        have KE := Lib.hid (sliceEqual_any _ _ _ _ _ _ _ _ _ hx1 hx2)
        obtain ⟨f1, g1, rfl⟩ := hx1.form
        obtain ⟨f2, g2, rfl⟩ := hx2.form
        clear hx1 hx2
        have HY : Hid (l.getD k [] = l'.getD k [] → ∀ j, j < k + 1 → l.getD j [] = l'.getD j []) := Lib.hid (fun h j hj => by
          rcases Nat.lt_or_ge j k with h1 | h1
          · exact HK.out j h1
          · rw [show j = k by omega]; exact h)
        have HN : Hid (l.getD k [] ≠ l'.getD k [] → R = false) := Lib.hid (fun h => by rw [HR.out, llist_differ_at h])
        generalize l.getD k [] = x at d0 HY HN KE
        generalize l'.getD k [] = y at e0 HY HN KE
        by_cases hxy : x = y
        · have HY2 := Lib.hid (HY.out hxy)
          rw [decide_eq_true hxy] at KE
          clear hxy
          go_wp2_with fail
          refine KE.out.mono ?_
          rintro e w1 ⟨rfl, q, rfl⟩
          go_wp2
          go_roundw
          case rel => exact ⟨k + 1, _, by omega, by go_num, by first | rfl | exact World.drewN_drewN .., HY2⟩
          case measure => simp [intOf]; omega
        · have HN2 := Lib.hid (HN.out hxy)
          rw [decide_eq_false hxy] at KE
          clear hxy
          go_wp2_with fail
          refine KE.out.mono ?_
          rintro e w1 ⟨rfl, q, rfl⟩
          go_wp2
          go_ret
          exact ⟨ret_bool HN2.out.symm, _, rfl⟩
      · obtain rfl : k = l.length := by omega
        go_wp2
        go_ret
        exact ⟨ret_bool (by rw [HR.out, decide_eq_true (llist_same HL.out HK.out)]), _, rfl⟩
  · have HN : Hid (R = false) := Lib.hid (by rw [HR.out, llist_differ hl])
    have hne : ((l.length : Int) != (l'.length : Int)) = true := by rw [bne_iff_ne]; omega
    go_enter Tryz.func67, Tryz.ntmps67
    go_wp2
    go_ret
    exact ⟨ret_bool HN.out.symm, 0, rfl⟩

def sameM (m m' : Md) : Bool := decide (m.facts = m'.facts) && decide (m.blocks = m'.blocks) && decide (m.actual = m'.actual)

set_option maxRecDepth 100000 in
set_option maxHeartbeats 8000000 in
theorem implSameM_any (lo hi lo' hi' : Nat) (u v : Value) (m m' : Md) (w : World) (hu : Mv lo hi w u m) (hv : Mv lo' hi' w v m') :
    Calls Tryz.prog 24 #[u, v] w fun e w' => e = .returned (.bool (sameM m m')) ∧ Below w.heap.size w w' := by
  obtain ⟨R, hR⟩ : ∃ R, R = sameM m m' := ⟨_, rfl⟩
  rw [← hR]
  unfold sameM at hR
  have HR := Lib.hid hR
  clear hR
  obtain ⟨fu, bu, rfl, hfu, hbu⟩ := hu
  obtain ⟨fv, bv, rfl, hfv, hbv⟩ := hv
  have KE := Lib.hid (fun W (h : Below w.heap.size w W) => sliceEqual_any lo hi lo' hi' fu fv m.facts m'.facts W (hfu.keeps (Keeps.of_all h)) (hfv.keeps (Keeps.of_all h)))
  have KF := Lib.hid (fun W (h : Below w.heap.size w W) => equalFunc_any lo hi lo' hi' bu bv m.blocks m'.blocks W (hbu.keeps (Keeps.of_all h)) (hbv.keeps (Keeps.of_all h)))
  obtain ⟨a1, c1, rfl⟩ := hfu.form
  obtain ⟨a2, c2, rfl⟩ := hfv.form
  obtain ⟨a3, c3, rfl, z1, z2, z3⟩ := hbu.parts
  obtain ⟨a4, c4, rfl, z4, z5, z6⟩ := hbv.parts
  clear hfu hfv hbu hbv z1 z2 z3 z4 z5 z6
  by_cases hf : m.facts = m'.facts
  · rw [decide_eq_true hf] at KE HR
    clear hf
    by_cases hb : m.blocks = m'.blocks
    · rw [decide_eq_true hb] at KF HR
      clear hb
      by_cases ha : m.actual = m'.actual
      · have HR' : Hid (R = true) := Lib.hid (by rw [HR.out, decide_eq_true ha]; rfl)
        have hq : (m.actual == m'.actual) = true := by rw [ha]; simp
        clear HR ha
        go_enter Tryz.func24, Tryz.ntmps24
        go_wp2_with fail
        refine (KE.out _ (by go_grown)).mono ?_
        rintro e w1 ⟨rfl, q1, rfl⟩
        go_wp2_with fail
        refine (KF.out _ (below_drewN' (by go_grown) _)).mono ?_
        rintro e w2 ⟨rfl, q2, rfl⟩
        go_wp2
        go_ret
        exact ⟨ret_bool HR'.out.symm, below_drewN' (by go_grown) _⟩
      · have HR' : Hid (R = false) := Lib.hid (by rw [HR.out, decide_eq_false ha]; rfl)
        have hq : (m.actual == m'.actual) = false := by rw [beq_eq_false_iff_ne]; exact ha
        clear HR ha
        go_enter Tryz.func24, Tryz.ntmps24
        go_wp2_with fail
        refine (KE.out _ (by go_grown)).mono ?_
        rintro e w1 ⟨rfl, q1, rfl⟩
        go_wp2_with fail
        refine (KF.out _ (below_drewN' (by go_grown) _)).mono ?_
        rintro e w2 ⟨rfl, q2, rfl⟩
        go_wp2
        go_ret
        exact ⟨ret_bool HR'.out.symm, below_drewN' (by go_grown) _⟩
    · rw [decide_eq_false hb] at KF HR
      have HR' : Hid (R = false) := Lib.hid (by rw [HR.out]; rfl)
      clear HR hb
      go_enter Tryz.func24, Tryz.ntmps24
      go_wp2_with fail
      refine (KE.out _ (by go_grown)).mono ?_
      rintro e w1 ⟨rfl, q1, rfl⟩
      go_wp2_with fail
      refine (KF.out _ (below_drewN' (by go_grown) _)).mono ?_
      rintro e w2 ⟨rfl, q2, rfl⟩
      go_wp2
      go_ret
      exact ⟨ret_bool HR'.out.symm, below_drewN' (by go_grown) _⟩
  · rw [decide_eq_false hf] at KE HR
    have HR' : Hid (R = false) := Lib.hid (by rw [HR.out]; rfl)
    clear HR hf KF
    go_enter Tryz.func24, Tryz.ntmps24
    go_wp2_with fail
    refine (KE.out _ (by go_grown)).mono ?_
    rintro e w1 ⟨rfl, q1, rfl⟩
    go_wp2
    go_ret
    exact ⟨ret_bool HR'.out.symm, below_drewN' (by go_grown) _⟩

end Go.Proofs.YtodjohdbngbpaaaGreat
