/-
  The walk of the law FnClasses: worlds of one class have the same facts and see the same classes: it returns true and writes nothing that was there. No condition.
-/
import Derived.Test.YtmjmehbkeipliaaFmm
import Derived.Test.YtmjmehbkeipliaaMmd
import Derived.Test.YtmjmehbkeipliaaZSet
import Derived.Test.YtmjmehbkeipliaaZKey
import Derived.Test.YtmjmehbkeipliaaZSpc
namespace Go.Proofs.Ytmjmehbkeipliaa
open Go.RowKit Go.WideShapes
open Go Go.Deep
set_option linter.unusedSimpArgs false

/-- among the first y worlds one in the block of u is of the class of x -/
def seesU (L b : List Int) (u x y : Nat) : Bool := (List.range y).any fun v => (b.getD v 0 == b.getD u 0) && (L.getD v 0 == L.getD x 0)
theorem seesU_succ (L b : List Int) (u x y : Nat) : seesU L b u x (y + 1) = (seesU L b u x y || ((b.getD y 0 == b.getD u 0) && (L.getD y 0 == L.getD x 0))) := by
  unfold seesU; rw [List.range_succ, List.any_append]; simp
theorem sees_all {m : Md} (h1 : 1 ≤ m.facts.length) {v u k x : Nat} (hv : v < m.facts.length) (hu : u < m.facts.length) (hk : k < m.blocks.length) (hx : x < m.facts.length) (e : (lastC m).getD v 0 = (lastC m).getD u 0) (hb : (m.blocks.getD k []).getD x 0 = (m.blocks.getD k []).getD v 0) :
    seesU (lastC m) (m.blocks.getD k []) u x m.facts.length = true := by
  obtain ⟨b0, b1⟩ := clsAt_bd (m := m) (j := stab m) hx
  have hc : ((lastC m).getD x 0) = (((lastC m).getD x 0).toNat : Int) := (Int.toNat_of_nonneg b0).symm
  have h2 : setB m (lastC m) k v ((lastC m).getD x 0).toNat = true := setB_in.2 ⟨x, hx, by unfold sameW; rw [hb]; simp, hc⟩
  rw [(tog_iff.1 (lastC_tog h1 hv hu e)).2 k hk _ (by show ((clsAt m (stab m)).getD x 0).toNat < _; omega)] at h2
  obtain ⟨y, hy, hs, hcy⟩ := setB_in.1 h2
  unfold seesU
  rw [List.any_eq_true]
  refine ⟨y, List.mem_range.2 hy, ?_⟩
  unfold sameW at hs
  rw [hs, hcy, ← hc]; simp

set_option maxRecDepth 100000 in
set_option maxHeartbeats 64000000 in
theorem walk_FnClasses (v0 : Value) (len : Nat) (w : World) (h0 : InBytes w v0 len) :
    Calls Try.prog 7 #[v0] w fun e w' => e = .returned (.bool true) ∧ Below w.heap.size w w' := by
  obtain ⟨a0, cap0, rfl, hlc, hcm, -⟩ := id h0
  unfold maxLen at hcm
  by_cases hbig : 1048576 < len
  · clear h0
    go_enter Try.func7, Try.ntmps7
    go_wp2
    go_ret
    exact ⟨rfl, Below.refl _ _⟩
  have hcode := h0.code (by omega)
  have KM : Hid (Calls Try.prog 24 #[.slice a0 len cap0, .int .i64 0, .int .i64 7] w fun e w' => ∃ v m, e = .returned v ∧ Mo w.heap.size w'.heap.size w' v m ∧ drawnM m 7 ∧ Below w.heap.size w w') := Lib.hid (makeModel_any w _ 0 7 (by decide) (by omega) hcode)
  clear h0 hcode
  go_enter Try.func7, Try.ntmps7
  go_wp2_with fail
  refine KM.out.mono ?_
  rintro e w1 ⟨vm, m, rfl, hmo, ⟨hmd, hn7, ha2, hf8⟩, hb1⟩
  clear KM
  have XO := Lib.hid hmo.read
  obtain ⟨p1, p2, p3, p4, -⟩ := mdOk_parts hmd
  obtain ⟨fb, fo, fc, bb, bo, bc, rfl, f1, f2, b1, b2, hfb, hbb, hF, hB⟩ := mv_open hmo.read hmd
  unfold maxLen at f2 b2
  have HF := Lib.hid hF
  have HB := Lib.hid hB
  have HMD := Lib.hid hmd
  have HLL : Hid ((lastC m).length = m.facts.length) := Lib.hid (clsAt_len m _)
  have HFE := Lib.hid (fun v u (hv : v < m.facts.length) (hu : u < m.facts.length) (e : (lastC m).getD v 0 = (lastC m).getD u 0) => clsAt_facts m _ v u hv hu e)
  have HSE := Lib.hid (fun v u k x hv hu hk hx e hb => sees_all (m := m) p1 (v := v) (u := u) (k := k) (x := x) hv hu hk hx e hb)
  have HNB : Hid (nbL (lastC m) = lastC m) := Lib.hid (by unfold nbL; rw [if_neg (by rw [clsAt_len m _ |> (id : (lastC m).length = m.facts.length → _)]; omega)]; exact num_of_ord (clsAt_ord m _))
  have B1 := Lib.hid hb1
  clear hmo hmd hf8 hb1 hF hB ha2 hn7
  have A2 := Lib.hid (Mcell.new (w := w1) (T := 28) (b := w1.heap.size) (fv := .slice (some ⟨fb, fo, none⟩) m.facts.length fc) (bv := .slice (some ⟨bb, bo, none⟩) m.blocks.length bc) (n := m.actual) rfl)
  have hb2 : Below w1.heap.size w1 (w1.alloc (.cells #[.slice (some ⟨fb, fo, none⟩) m.facts.length fc, .slice (some ⟨bb, bo, none⟩) m.blocks.length bc, .int .i64 m.actual] 28)) := by go_grown
  have hz2 : w1.heap.size ≤ (w1.alloc (.cells #[.slice (some ⟨fb, fo, none⟩) m.facts.length fc, .slice (some ⟨bb, bo, none⟩) m.blocks.length bc, .int .i64 m.actual] 28)).heap.size := hb2.size
  have X2 := Lib.hid (XO.out.keeps (Keeps.of_all hb2))
  have T2 := Lib.hid hb2
  have B2 := Lib.hid (B1.out.trans (hb2.mono B1.out.size))
  clear XO hb2
  go_wp2_with fail
  refine (implClasses_any _ _ _ m _ X2.out hz2).mono ?_
  rintro e w3 ⟨vc, rfl, hoc, hb3⟩
  rw [show classR m = lastC m from by unfold classR; rw [HMD.out]; rfl] at hoc
  obtain ⟨cb, co, cc, rfl, c1, c2, hcb, hC⟩ := iv_open hoc.read (by rw [HLL.out]; omega)
  rw [HLL.out] at c1 hC ⊢
  unfold maxLen at c2
  have T3 := Lib.hid (T2.out.trans (hb3.mono hz2))
  have X3 := Lib.hid (A2.out.below hb3)
  have B3 := Lib.hid (B2.out.trans (hb3.mono B2.out.size))
  have HC := Lib.hid hC
  have OC := Lib.hid hoc.read
  rw [HLL.out] at OC
  have z3 : w1.heap.size < w3.heap.size := X3.out.lt
  clear hb3 hoc hC A2 X2 T2 B2
  have KNB := Lib.hid (implNB_any _ _ _ (lastC m) w3 OC.out)
  rw [HNB.out] at KNB
  obtain ⟨xc0, xc1, xc2, xc3, xc4, xc5⟩ := X3.out
  go_wp2_with
    (first
      | (go_at_call 26; (with_reducible refine KNB.out.mono ?_); rintro e w4 ⟨vn, rfl, hon, hb4⟩
         have OC4 := Lib.hid (OC.out.keeps (Keeps.of_all hb4))
         have KSM := Lib.hid (lawSame_any _ _ _ _ _ _ (lastC m) (lastC m) w4 hon.read OC4.out)
         rw [decide_eq_true rfl] at KSM
         have X4 := Lib.hid (X3.out.below hb4)
         have T4 := Lib.hid (T3.out.trans (hb4.mono (by omega)))
         have B4 := Lib.hid (B3.out.trans (hb4.mono B3.out.size))
         have Q4 := Lib.hid hb4
         clear xc0 xc1 xc2 xc3 xc4 xc5 hb4 hon X3 B3
         obtain ⟨xc0, xc1, xc2, xc3, xc4, xc5⟩ := X4.out)
      | (go_at_call 25; (with_reducible refine KSM.out.mono ?_); rintro e w5 ⟨rfl, rfl⟩))
  clear xc0 xc1 xc2 xc3 xc4 xc5 KNB KSM OC OC4
  have z4 : w3.heap.size ≤ w4.heap.size := Q4.out.size
  have HX : Hid (∀ W, Below w4.heap.size w4 W → Mcell W w1.heap.size (.slice (some ⟨fb, fo, none⟩) m.facts.length fc) (.slice (some ⟨bb, bo, none⟩) m.blocks.length bc) m.actual) := Lib.hid (fun W h => X4.out.below h)
  have HFc : Hid (∀ W, Below w4.heap.size w4 W → ∀ j, j < m.facts.length → W.cell? ⟨fb, fo + j, none⟩ = some (.int .i64 (m.facts.getD j 0))) := Lib.hid (fun W h => HF.out W (T4.out.trans (h.mono (by omega))))
  have HCc : Hid (∀ W, Below w4.heap.size w4 W → ∀ j, j < m.facts.length → W.cell? ⟨cb, co + j, none⟩ = some (.int .i64 ((lastC m).getD j 0))) := Lib.hid (fun W h => HC.out W (Q4.out.trans (h.mono z4)))
  have HBc : Hid (∀ k, k < m.blocks.length → ∃ ub uo uc, m.facts.length ≤ uc ∧ uc ≤ 2 ^ 63 - 1 ∧ ∀ W, Below w4.heap.size w4 W → W.cell? ⟨bb, bo + k, none⟩ = some (.slice (some ⟨ub, uo, none⟩) m.facts.length uc) ∧ ∀ i, i < m.facts.length → W.cell? ⟨ub, uo + i, none⟩ = some (.int .i64 ((m.blocks.getD k []).getD i 0))) := Lib.hid (fun k hk => by
    obtain ⟨ub, uo, uc, u1, u2, _, hu⟩ := HB.out k hk
    exact ⟨ub, uo, uc, u1, u2, fun W h => hu W (T4.out.trans (h.mono (by omega)))⟩)
  have hn16 : (m.facts.length : Int) ≤ 16 := by omega
  clear X4 T3 T4 HF HC HB
  generalize lastC m = L at *
  go_loopw [35] (fun iv wr => ∃ v : Nat, v ≤ m.facts.length ∧ iv = .int .i64 v ∧ Hid (Below w4.heap.size w4 wr)) (fun iv _ => m.facts.length - (intOf iv).toNat)
  case atStart => exact ⟨0, Nat.zero_le _, rfl, Lib.hid (Below.refl _ _)⟩
  case round =>
    obtain ⟨v, hv, rfl, BR⟩ := hrel
    by_cases hvn : v < m.facts.length
    case neg =>
      obtain rfl : v = m.facts.length := by omega
      go_wp2
      go_ret
      exact ⟨rfl, B4.out.trans (BR.out.mono B4.out.size)⟩
    have hv0 : (0 : Int) ≤ (v : Int) := Int.natCast_nonneg _
    have hv1 : (v : Int) < (m.facts.length : Int) := by omega
    obtain ⟨xc0, xc1, xc2, xc3, xc4, xc5⟩ := HX.out _ BR.out
    go_wp2
    clear xc0 xc1 xc2 xc3 xc4 xc5
    go_loopw [41] (fun iv wr => ∃ u : Nat, u ≤ m.facts.length ∧ iv = .int .i64 u ∧ Hid (Below w4.heap.size w4 wr)) (fun iv _ => m.facts.length - (intOf iv).toNat)
    case atStart => exact ⟨0, Nat.zero_le _, rfl, BR⟩
    case round =>
      clear BR
      obtain ⟨u, hu, rfl, BR⟩ := hrel
      by_cases hun : u < m.facts.length
      case neg =>
        obtain rfl : u = m.facts.length := by omega
        go_wp2
        go_roundw
        case rel => exact ⟨v + 1, by omega, by go_num, BR⟩
        case measure => simp [intOf]; omega
      have hu0 : (0 : Int) ≤ (u : Int) := Int.natCast_nonneg _
      have hu1 : (u : Int) < (m.facts.length : Int) := by omega
      have l1 := HCc.out _ BR.out v hvn
      have l2 := HCc.out _ BR.out u hun
      by_cases e : L.getD v 0 = L.getD u 0
      case neg =>
        generalize L.getD v 0 = z1 at *
        generalize L.getD u 0 = z2 at *
        have e1 : (z1 == z2) = false := by simpa using e
        go_wp2
        go_quiet (fail)
        go_wp2
        go_roundw
        case rel => exact ⟨u + 1, by omega, by go_num, Lib.hid (below_drewN' BR.out _)⟩
        case measure => simp [intOf]; omega
      have HFv := Lib.hid (HFE.out v u hvn hun e)
      have HSv := Lib.hid (fun k x hk hx hb => HSE.out v u k x hvn hun hk hx e hb)
      have r1 := HFc.out _ BR.out v hvn
      have r2 := HFc.out _ BR.out u hun
      rw [HFv.out] at r1
      rw [e] at l1
      generalize hz : L.getD u 0 = z at l1 l2
      clear hz
      generalize hy : m.facts.getD u 0 = y at r1 r2
      clear hy
      obtain ⟨xc0, xc1, xc2, xc3, xc4, xc5⟩ := HX.out _ BR.out
      go_wp2
      go_quiet (fail)
      go_wp2
      go_quiet (fail)
      go_wp2
      clear xc0 xc1 xc2 xc3 xc4 xc5 l1 l2 r1 r2
      go_loopw [67] (fun iv wr => ∃ k : Nat, k ≤ m.blocks.length ∧ iv = .int .i64 k ∧ Hid (Below w4.heap.size w4 wr)) (fun iv _ => m.blocks.length - (intOf iv).toNat)
      case atStart => exact ⟨0, Nat.zero_le _, rfl, Lib.hid (below_drewN' BR.out _)⟩
      case round =>
        clear BR
        obtain ⟨k, hk, rfl, BR⟩ := hrel
        by_cases hkA : k < m.blocks.length
        case neg =>
          obtain rfl : k = m.blocks.length := by omega
          go_wp2
          go_roundw
          case rel => exact ⟨u + 1, by omega, by go_num, BR⟩
          case measure => simp [intOf]; omega
        have hk0 : (0 : Int) ≤ (k : Int) := Int.natCast_nonneg _
        have hk1 : (k : Int) < (m.blocks.length : Int) := by omega
        obtain ⟨ub, uo, uc, u1, u2, hrow⟩ := HBc.out k hkA
        have HR := Lib.hid (fun W h => (hrow W h).2)
        have cB := (hrow _ BR.out).1
        have HSk := Lib.hid (fun x hx hb => HSv.out k x hkA hx hb)
        clear hrow
        obtain ⟨row, hrow⟩ : ∃ r, r = m.blocks.getD k [] := ⟨_, rfl⟩
        rw [← hrow] at HR HSk
        clear hrow
        obtain ⟨xc0, xc1, xc2, xc3, xc4, xc5⟩ := HX.out _ BR.out
        go_wp2
        clear xc0 xc1 xc2 xc3 xc4 xc5 cB
        go_loopw [74] (fun iv wr => ∃ x : Nat, x ≤ m.facts.length ∧ iv = .int .i64 x ∧ Hid (Below w4.heap.size w4 wr)) (fun iv _ => m.facts.length - (intOf iv).toNat)
        case atStart => exact ⟨0, Nat.zero_le _, rfl, BR⟩
        case round =>
          clear BR
          obtain ⟨x, hx, rfl, BR⟩ := hrel
          by_cases hxn : x < m.facts.length
          case neg =>
            obtain rfl : x = m.facts.length := by omega
            go_wp2
            go_roundw
            case rel => exact ⟨k + 1, by omega, by go_num, BR⟩
            case measure => simp [intOf]; omega
          have hx0 : (0 : Int) ≤ (x : Int) := Int.natCast_nonneg _
          have hx1 : (x : Int) < (m.facts.length : Int) := by omega
          have HSx := Lib.hid (HSk.out x hxn)
          have HS0 : Hid (seesU L row u x 0 = false) := Lib.hid rfl
          have HSS := Lib.hid (seesU_succ L row u x)
          obtain ⟨xc0, xc1, xc2, xc3, xc4, xc5⟩ := HX.out _ BR.out
          go_wp2
          clear xc0 xc1 xc2 xc3 xc4 xc5
          go_loopw [10, 80] (fun fv yv wr => ∃ y : Nat, y ≤ m.facts.length ∧ yv = .int .i64 y ∧ fv = .bool (seesU L row u x y) ∧ Hid (Below w4.heap.size w4 wr)) (fun _ yv _ => m.facts.length - (intOf yv).toNat)
          case atStart => exact ⟨0, Nat.zero_le _, rfl, by rw [HS0.out], BR⟩
          case round =>
            clear BR
            obtain ⟨y, hy, rfl, rfl, BR⟩ := hrel
            have hy0 : (0 : Int) ≤ (y : Int) := Int.natCast_nonneg _
            by_cases hyn : y < m.facts.length
            · have hy1 : (y : Int) < (m.facts.length : Int) := by omega
              have r1 := HR.out _ BR.out y hyn
              have r2 := HR.out _ BR.out u hun
              have l1 := HCc.out _ BR.out y hyn
              have l2 := HCc.out _ BR.out x hxn
              have HSy := Lib.hid (HSS.out y)
              obtain ⟨s, hs⟩ : ∃ s, s = seesU L row u x y := ⟨_, rfl⟩
              rw [← hs] at HSy ⊢
              clear hs HSx
              generalize row.getD y 0 = a1 at *
              generalize row.getD u 0 = a2 at *
              generalize L.getD y 0 = z1 at *
              generalize L.getD x 0 = z2 at *
              cases s with
              | true =>
                go_wp2
                go_quiet (fail)
                go_wp2
                go_roundw
                case rel => exact ⟨y + 1, by omega, by go_num, by rw [HSy.out]; rfl, Lib.hid (below_drewN' BR.out _)⟩
                case measure => simp [intOf]; omega
              | false =>
                by_cases e1 : a1 = a2
                · subst e1
                  by_cases e2 : z1 = z2
                  · subst e2
                    have d2 : (z1 == z1) = true := by simp
                    go_wp2
                    go_quiet (fail)
                    go_wp2
                    go_roundw
                    case rel => exact ⟨y + 1, by omega, by go_num, by rw [HSy.out]; simp, Lib.hid (below_drewN' BR.out _)⟩
                    case measure => simp [intOf]; omega
                  · have d2 : (z1 == z2) = false := by simpa using e2
                    go_wp2
                    go_quiet (fail)
                    go_wp2
                    go_roundw
                    case rel => exact ⟨y + 1, by omega, by go_num, by rw [HSy.out, d2]; simp, Lib.hid (below_drewN' BR.out _)⟩
                    case measure => simp [intOf]; omega
                · have d1 : (a1 == a2) = false := by simpa using e1
                  go_wp2
                  go_quiet (fail)
                  go_wp2
                  go_roundw
                  case rel => exact ⟨y + 1, by omega, by go_num, by rw [HSy.out, d1]; simp, Lib.hid (below_drewN' BR.out _)⟩
                  case measure => simp [intOf]; omega
            · obtain rfl : y = m.facts.length := by omega
              have r1 := HR.out _ BR.out x hxn
              have r2 := HR.out _ BR.out v hvn
              by_cases e1 : row.getD x 0 = row.getD v 0
              · have hs := HSx.out e1
                rw [hs]
                rw [e1] at r1
                generalize row.getD v 0 = a2 at r1 r2
                clear e1 hs
                go_wp2
                go_quiet (fail)
                go_wp2
                go_roundw
                case rel => exact ⟨x + 1, by omega, by go_num, Lib.hid (below_drewN' BR.out _)⟩
                case measure => simp [intOf]; omega
              · generalize row.getD x 0 = a1 at *
                generalize row.getD v 0 = a2 at *
                have d1 : (a1 == a2) = false := by simpa using e1
                generalize seesU L row u x m.facts.length = s at *
                go_wp2
                go_quiet (fail)
                go_wp2
                go_roundw
                case rel => exact ⟨x + 1, by omega, by go_num, Lib.hid (below_drewN' BR.out _)⟩
                case measure => simp [intOf]; omega
end Go.Proofs.Ytmjmehbkeipliaa
