/-
  Contract of spec.l03Reach, its walk. Condition: the model is valid, there is a bool for each world, and the world is one of the model.
-/
import Derived.Test.YtegmoojjffkacaaRsc
namespace Go.Proofs.Ytegmoojjffkacaa
open Go.RowKit Go.WideShapes
open Go Go.Deep
set_option linter.unusedSimpArgs false

set_option maxRecDepth 100000 in
set_option maxHeartbeats 32000000 in
theorem specReach_any (lo hi lo2 hi2 : Nat) (v v2 : Value) (m : Md) (al : List Bool) (x : Nat) (w : World) (hr : Mv lo hi w v m) (hm : mdOk m = true) (hr2 : Bv lo2 hi2 w v2 al) (hal : al.length = m.facts.length) (hx : x < m.facts.length) :
    Calls Try.prog 77 #[v, v2, .int .i64 x] w (BoolsAns w ((List.range m.facts.length).map (reachA m (fun i => al.getD i false) x))) := by
  obtain ⟨p1, p2, p3, p4, p5, -⟩ := mdOk_parts hm
  have PR := Lib.hid (fun k hk => (p5 k hk).1)
  obtain ⟨fv, bv0, rfl, hf, hb⟩ := hr
  obtain ⟨fa, fc, e1⟩ := hf.form
  subst e1
  obtain ⟨ba, bc, e1, hbl, hbc, -⟩ := hb.parts
  subst e1
  unfold maxLen at hbc
  obtain ⟨ab, ao, ac, rfl, hac, hacm, -, -, hab, hacell⟩ := hr2.cells (by omega)
  rw [hal] at hac hacell ⊢
  unfold maxLen at hacm
  obtain ⟨alf, half⟩ : ∃ f : Nat → Bool, f = fun i => al.getD i false := ⟨_, rfl⟩
  have HAL : Hid (∀ W, Below w.heap.size w W → ∀ j, j < m.facts.length → W.cell? ⟨ab, ao + j, none⟩ = some (.bool (alf j))) := Lib.hid (fun W hW j hj => (hW.cell (p := ⟨ab, ao + j, none⟩) hab).trans (by rw [hacell j hj, half]))
  rw [← half]
  have HCB : Hid (∀ W, Below w.heap.size w W → ∀ j, j < m.blocks.length → ∃ b o ub uo uc, ba = some ⟨b, o, none⟩ ∧ b < w.heap.size ∧ m.facts.length ≤ uc ∧ uc ≤ 2 ^ 63 - 1 ∧ W.cell? ⟨b, o + j, none⟩ = some (.slice (some ⟨ub, uo, none⟩) m.facts.length uc) ∧ ub < w.heap.size ∧ ∀ i, i < m.facts.length → W.cell? ⟨ub, uo + i, none⟩ = some (.int .i64 ((m.blocks.getD j []).getD i 0))) := Lib.hid (fun W hW j hj => by
    obtain ⟨b, o, u, e, _, _, hlt, hc, hu⟩ := hb.row rfl j hj
    have hrl := PR.out j hj
    obtain ⟨ua, uc, e2, h1, h2, _⟩ := hu.parts
    subst e2
    obtain ⟨ub, uo, e2⟩ := hu.addr (by omega)
    subst e2
    obtain ⟨a', cap', e3, _, _, h4⟩ := hu.parts
    cases e3
    obtain ⟨b4, o4, e4, _, _, hlt4, _⟩ := h4 0 (by omega)
    cases e4
    refine ⟨b, o, ub, uo, uc, e, hlt, by omega, h2, (hW.cell (p := ⟨b, o + j, none⟩) hlt).trans (by rw [hc, hrl]), hlt4, fun i hi => ?_⟩
    obtain ⟨b', o', e5, hc5⟩ := hu.at' hW i (by omega)
    cases e5; exact hc5)
  have HST : Hid (∀ i j, stepA m alf i j = true → i < m.facts.length ∧ j < m.facts.length) := Lib.hid (fun i j => stepA_in)
  have HRD : Hid (reachA m alf x = wsh (stepA m alf) m.facts.length x) := Lib.hid rfl
  rw [HRD.out]
  have hx0 : (0 : Int) ≤ (x : Int) := Int.natCast_nonneg _
  have hxn : (x : Int) < (m.facts.length : Int) := by omega
  have hlen : (m.facts.length : Int) ≤ 16 := by omega
  clear hf hb hr2 hm hal hacell half p5 HRD
  have H16 := Lib.hid p2
  have HMK : Hid (bools (List.replicate m.facts.length false) = bools (seenL m.facts.length [])) := Lib.hid (by
    congr 1; unfold seenL
    apply List.ext_getElem?
    intro i
    rcases Nat.lt_or_ge i m.facts.length with h | h
    · rw [List.getElem?_replicate, if_pos h, List.getElem?_map, List.getElem?_range h]; rfl
    · rw [List.getElem?_eq_none (by simpa using h), List.getElem?_eq_none (by simpa using h)])
  go_enter Try.func77, Try.ntmps77
  have tk1 : True := trivial
  go_wp2_with
    (first
      | (have _t := tk1; clear _t tk1; refine wpList_makeM rfl (.tmp 15) (.tmp 15) 53 16 rfl rfl 4 (.bool false) 1 Try.underlying53 Try.infoB m.facts.length .i64 .i64 rfl rfl (by omega) (by unfold maxLen; omega) (bools (List.replicate m.facts.length false)) (madeB m.facts.length) ?_
         intro w1 hz hb1
         rw [HMK.out] at hz
         have X1 := Lib.hid (Mcell.below (Mcell.new (w := w) (T := 27) (b := w.heap.size) (fv := .slice fa m.facts.length fc) (bv := .slice ba m.blocks.length bc) (n := m.actual) rfl) hb1)
         have Z1 : Hid (Cm w1 (w.heap.size + 1) 4 (bools (seenL m.facts.length []))) := Lib.hid (by simpa using hz)
         have B1 : Hid (Below w.heap.size w w1) := Lib.hid (Below.trans (by go_grown) (hb1.mono (by simp)))
         have hq1 : w.heap.size + 1 < w1.heap.size := Z1.out.lt
         have ck : (w1.alloc (.cells #[.int .i64 x] 3)).cell? ⟨w.heap.size + 1, x, none⟩ = some (.bool (decide (x ∈ []))) := by rw [(Z1.out.alloc _).cell]; exact seenL_get (by omega)
         have fk : (w1.alloc (.cells #[.int .i64 x] 3)).frozen? ⟨w.heap.size + 1, x, none⟩ = false := (Z1.out.alloc _).frozen _
         clear hz hb1))
  clear ck fk
  have hsz : (w1.setCell ⟨w.heap.size + 1, x, none⟩ (.bool true)).heap.size = w1.heap.size := by simp [World.setCell]
  have X2 := Lib.hid ((X1.out.other (b' := w.heap.size + 1) (by omega) x (.bool true)).alloc (.cells #[.int .i64 x] 3))
  have Z2 : Hid (Cm ((w1.setCell ⟨w.heap.size + 1, x, none⟩ (.bool true)).alloc (.cells #[.int .i64 x] 3)) (w.heap.size + 1) 4 (bools (seenL m.facts.length [x]))) := Lib.hid (by have h := (Z1.out.set x (.bool true)).alloc (.cells #[.int .i64 x] 3); rw [seenL_push] at h; exact h)
  have B2 : Hid (Below w.heap.size w ((w1.setCell ⟨w.heap.size + 1, x, none⟩ (.bool true)).alloc (.cells #[.int .i64 x] 3))) := Lib.hid ((B1.out.setCell (by show _ ≤ w.heap.size + 1; omega) _).alloc (by rw [hsz]; omega) _)
  have Q2 : Hid (((w1.setCell ⟨w.heap.size + 1, x, none⟩ (.bool true)).alloc (.cells #[.int .i64 x] 3)).ownsRow w1.heap.size 3 1 (.slice (some ⟨w1.heap.size, 0, none⟩) 1 1) [x].length (ints (nums [x]))) := Lib.hid (by
    have h := World.ownsRow_lit (base := w1.heap.size) (e := 3) (size := 1) (w1.setCell ⟨w.heap.size + 1, x, none⟩ (.bool true)) #[.int .i64 x] 1 (by rw [hsz]; exact Nat.le_refl _) (by decide) rfl
    rw [hsz] at h; exact h)
  have hz2 : w1.heap.size ≤ ((w1.setCell ⟨w.heap.size + 1, x, none⟩ (.bool true)).alloc (.cells #[.int .i64 x] 3)).heap.size := by simp [World.setCell]
  clear X1 Z1 B1 HMK hsz
  generalize (w1.setCell ⟨w.heap.size + 1, x, none⟩ (.bool true)).alloc (.cells #[.int .i64 x] 3) = w2 at *
  go_loopw [8, 9] (fun qv iv wr => ∃ (t : Nat) (q : List Nat) (qv' : Value), iv = .int .i64 t ∧ qv' = qv ∧ t ≤ q.length ∧ Hid (bfs (stepA m alf) m.facts.length x q t) ∧ Hid (wr.ownsRow w1.heap.size 3 1 qv' q.length (ints (nums q))) ∧ Hid (Cm wr (w.heap.size + 1) 4 (bools (seenL m.facts.length q))) ∧ Hid (Mcell wr w.heap.size (.slice fa m.facts.length fc) (.slice ba m.blocks.length bc) m.actual) ∧ Hid (Below w.heap.size w wr) ∧ w1.heap.size ≤ wr.heap.size) (fun _ iv _ => m.facts.length - (intOf iv).toNat)
  case atStart => exact ⟨0, [x], _, rfl, rfl, Nat.zero_le _, Lib.hid (bfs_0 (by omega)), Q2, Z2, X2, B2, hz2⟩
  case round =>
    clear X2 Z2 B2 Q2 hz2
    obtain ⟨t, q, qv, rfl, rfl, htq, HB, QR, ZR, XR, BR, hwr⟩ := hrel
    have hqn := nodup_len m.facts.length q HB.out.1 HB.out.2.1
    obtain ⟨qa, qc, e1⟩ := own_form QR.out
    subst e1
    by_cases hlt : t < q.length
    · have hut : q.getD t 0 < m.facts.length := HB.out.2.1 _ (by rw [List.getD_eq_getElem?_getD, List.getElem?_eq_getElem hlt]; exact List.getElem_mem _)
      have HU0 : ∃ u, Hid (q.getD t 0 = u) ∧ u < m.facts.length := ⟨_, Lib.hid rfl, hut⟩
      obtain ⟨u, HU, hun⟩ := HU0
      clear hut
      go_wp2
      go_loopw [8, 30] (fun qv iv wr => ∃ (j : Nat) (q : List Nat) (qv' : Value), iv = .int .i64 j ∧ qv' = qv ∧ j ≤ m.facts.length ∧ t < q.length ∧ Hid (q.getD t 0 = u) ∧ Hid (bfs (stepA m alf) m.facts.length x q t) ∧ Hid (doneTo (stepA m alf) q u j) ∧ Hid (wr.ownsRow w1.heap.size 3 1 qv' q.length (ints (nums q))) ∧ Hid (Cm wr (w.heap.size + 1) 4 (bools (seenL m.facts.length q))) ∧ Hid (Mcell wr w.heap.size (.slice fa m.facts.length fc) (.slice ba m.blocks.length bc) m.actual) ∧ Hid (Below w.heap.size w wr) ∧ w1.heap.size ≤ wr.heap.size) (fun _ iv _ => m.facts.length - (intOf iv).toNat)
      case atStart => exact ⟨0, q, _, rfl, rfl, Nat.zero_le _, hlt, HU, HB, Lib.hid (fun i hi => by omega), QR, ZR, XR, BR, hwr⟩
      case round =>
        clear HU HB QR ZR XR BR hwr hqn htq hlt
        obtain ⟨j, q, qv, rfl, rfl, hjn, hlt, HU, HB, HD, QR, ZR, XR, BR, hwr⟩ := hrel
        by_cases hj : j < m.facts.length
        · obtain ⟨xc0, xc1, xc2, xc3, xc4, xc5⟩ := XR.out
          go_wp2
          clear xc0 xc1 xc2 xc3 xc4 xc5
          go_loopw [8, 36] (fun qv iv wr => ∃ (k : Nat) (q : List Nat) (qv' : Value), iv = .int .i64 k ∧ qv' = qv ∧ k ≤ m.blocks.length ∧ t < q.length ∧ Hid (q.getD t 0 = u) ∧ Hid (bfs (stepA m alf) m.facts.length x q t) ∧ Hid (doneTo (stepA m alf) q u j) ∧ Hid (doneA m alf q u j k) ∧ Hid (wr.ownsRow w1.heap.size 3 1 qv' q.length (ints (nums q))) ∧ Hid (Cm wr (w.heap.size + 1) 4 (bools (seenL m.facts.length q))) ∧ Hid (Mcell wr w.heap.size (.slice fa m.facts.length fc) (.slice ba m.blocks.length bc) m.actual) ∧ Hid (Below w.heap.size w wr) ∧ w1.heap.size ≤ wr.heap.size) (fun _ iv _ => m.blocks.length - (intOf iv).toNat)
          case atStart => exact ⟨0, q, _, rfl, rfl, Nat.zero_le _, hlt, HU, HB, HD, Lib.hid (fun i hi => by omega), QR, ZR, XR, BR, hwr⟩
          case round =>
            clear HU HB HD QR ZR XR BR hwr hlt
            obtain ⟨k, q, qv, rfl, rfl, hkn, hlt, HU, HB, HD, HA, QR, ZR, XR, BR, hwr⟩ := hrel
            by_cases hk : k < m.blocks.length
            · have hqn := nodup_len m.facts.length q HB.out.1 HB.out.2.1
              obtain ⟨b, o, ub, uo, uc, rfl, hbw, huc, hucm, hcb, hubw, hcr⟩ := HCB.out _ BR.out k hk
              have r1 := hcr j hj
              have r2 := hcr u hun
              have ca := HAL.out _ BR.out j hj
              have cs : wr.cell? ⟨w.heap.size + 1, j, none⟩ = some (.bool (decide (j ∈ q))) := by rw [ZR.out.cell]; exact seenL_get hj
              have fs := ZR.out.frozen j
              obtain ⟨qb, qc, e1, hqb, hqlt, hqc, hqcm⟩ : ∃ qb qc, qv = .slice (some ⟨qb, 0, none⟩) q.length qc ∧ w1.heap.size ≤ qb ∧ qb < wr.heap.size ∧ q.length ≤ qc ∧ qc ≤ maxLen := by
                rcases QR.out.2 with ⟨_, h0⟩ | ⟨g, cap, cur, e, h1, h2, h3, h4, _⟩
                · omega
                · exact ⟨g, cap, e, h1, (Array.getElem?_eq_some_iff.1 h2).1, h3, h4⟩
              subst e1
              unfold maxLen at hqcm
              have cq : wr.cell? ⟨qb, t, none⟩ = some (.int .i64 u) := by
                have h := QR.out.cellAt t (by omega)
                rw [h, ints_at (by rw [nums_len]; exact hlt), nums_getD hlt, ← HU.out, List.getD_eq_getElem?_getD, List.getElem?_eq_getElem hlt]; rfl
              have HSY := Lib.hid (stepA_yes (m := m) (al := alf) (u := u) (j := j) (k := k) hun hj)
              have HAN := Lib.hid (doneA_next HA.out)
              obtain ⟨y1, hy1⟩ : ∃ y, y = (m.blocks.getD k []).getD j 0 := ⟨_, rfl⟩
              obtain ⟨y2, hy2⟩ : ∃ y, y = (m.blocks.getD k []).getD u 0 := ⟨_, rfl⟩
              rw [← hy1] at r1 HSY HAN
              rw [← hy2] at r2 HSY HAN
              clear hy1 hy2 hcr
              obtain ⟨s0, hs0⟩ : ∃ s, s = decide (j ∈ q) := ⟨_, rfl⟩
              rw [← hs0] at cs
              have HS0 := Lib.hid hs0
              obtain ⟨a0, ha0⟩ : ∃ s, s = alf j := ⟨_, rfl⟩
              rw [← ha0] at ca HSY HAN
              obtain ⟨e0, he0⟩ : ∃ s, s = (y1 == y2) := ⟨_, rfl⟩
              have he := he0.symm
              have HE0 := Lib.hid he0
              clear hs0 ha0 he0
              have u0 : (0 : Int) ≤ (u : Int) := Int.natCast_nonneg _
              have un : (u : Int) < (m.facts.length : Int) := by omega
              have t0 : (0 : Int) ≤ (t : Int) := Int.natCast_nonneg _
              have tq : (t : Int) < (q.length : Int) := by omega
              have j0 : (0 : Int) ≤ (j : Int) := Int.natCast_nonneg _
              have jn : (j : Int) < (m.facts.length : Int) := by omega
              go_wp2
              cases a0 with
              | false =>
                go_quiet (fail)
                clear r1 r2 ca cs fs cq he
                go_wp2
                go_roundw
                case rel => exact ⟨k + 1, q, _, by go_num, rfl, by omega, hlt, HU, HB, HD, Lib.hid (HAN.out (fun h => by cases h)), Lib.hid (own_drewN QR.out _), Lib.hid (ZR.out.drewN _), Lib.hid (XR.out.drewN _), Lib.hid (below_drewN' BR.out _), hwr⟩
                case measure => simp [intOf]; omega
              | true =>
                cases s0 with
                | true =>
                  go_quiet (fail)
                  clear r1 r2 ca cs fs cq he
                  go_wp2
                  go_roundw
                  case rel => exact ⟨k + 1, q, _, by go_num, rfl, by omega, hlt, HU, HB, HD, Lib.hid (HAN.out (fun _ _ => of_decide_eq_true HS0.out.symm)), Lib.hid (own_drewN QR.out _), Lib.hid (ZR.out.drewN _), Lib.hid (XR.out.drewN _), Lib.hid (below_drewN' BR.out _), hwr⟩
                  case measure => simp [intOf]; omega
                | false =>
                  cases e0 with
                  | false =>
                    go_quiet (fail)
                    clear r1 r2 ca cs fs cq he
                    go_wp2
                    go_roundw
                    case rel => exact ⟨k + 1, q, _, by go_num, rfl, by omega, hlt, HU, HB, HD, Lib.hid (HAN.out (fun _ h => by subst h; have := HE0.out; simp at this)), Lib.hid (own_drewN QR.out _), Lib.hid (ZR.out.drewN _), Lib.hid (XR.out.drewN _), Lib.hid (below_drewN' BR.out _), hwr⟩
                    case measure => simp [intOf]; omega
                  | true =>
                    go_quiet (fail)
                    clear r1 r2 ca cq he
                    have hjq : j ∉ q := of_decide_eq_false HS0.out.symm
                    have hy : y1 = y2 := by have := HE0.out; simpa using this.symm
                    have HST2 := Lib.hid (HSY.out rfl hk hy)
                    have HB2 := Lib.hid (bfs_push HST.out HB.out hlt HU.out hjq HST2.out)
                    have HD2 := Lib.hid (doneTo_push (k := j) HD.out)
                    have HU2 : Hid ((q ++ [j]).getD t 0 = u) := Lib.hid (by rw [getD_appN hlt]; exact HU.out)
                    have HA2 : Hid (doneA m alf (q ++ [j]) u j (k + 1)) := Lib.hid (fun _ _ _ _ => by simp)
                    have HQ : Hid (∀ nn, ((wr.drewN nn).setCell ⟨w.heap.size + 1, j, none⟩ (.bool true)).ownsRow w1.heap.size 3 1 (.slice (some ⟨qb, 0, none⟩) q.length qc) q.length (ints (nums q))) := Lib.hid (fun nn => own_keeps (own_drewN QR.out nn) (fun k hk => Below.heap_setCell _ _ _ _ (by cases hk; show qb ≠ w.heap.size + 1; omega)))
                    have HZ0 : Hid (∀ nn, Cm ((wr.drewN nn).setCell ⟨w.heap.size + 1, j, none⟩ (.bool true)) (w.heap.size + 1) 4 (bools (seenL m.facts.length (q ++ [j])))) := Lib.hid (fun nn => by have h := (ZR.out.drewN nn).set j (.bool true); rw [seenL_push] at h; exact h)
                    have HX0 : Hid (∀ nn, Mcell ((wr.drewN nn).setCell ⟨w.heap.size + 1, j, none⟩ (.bool true)) w.heap.size (.slice fa m.facts.length fc) (.slice (some ⟨b, o, none⟩) m.blocks.length bc) m.actual) := Lib.hid (fun nn => (XR.out.drewN nn).other (b' := w.heap.size + 1) (by omega) j (.bool true))
                    have HB0 : Hid (∀ nn, Below w.heap.size w ((wr.drewN nn).setCell ⟨w.heap.size + 1, j, none⟩ (.bool true))) := Lib.hid (fun nn => (below_drewN' BR.out nn).setCell (by show _ ≤ w.heap.size + 1; omega) _)
                    have HSZ : Hid (∀ nn, ((wr.drewN nn).setCell ⟨w.heap.size + 1, j, none⟩ (.bool true)).heap.size = wr.heap.size) := Lib.hid (fun nn => by simp [World.setCell])
                    clear hjq hy QR HSY HAN ZR XR BR HB HD HU HA HCB
                    have tk2 : True := trivial
                    go_wp2_with
                      (first
                        | (have _t := tk2; clear _t tk2; at_builtin; refine wpList_pushL rfl (.tmp 68) (.tmp 70) 22 71 rfl rfl 3 (.int .i64 0) 8 Try.underlying22 Try.infoI rfl w1.heap.size (.int .i64 j) (.slice (some ⟨qb, 0, none⟩) q.length qc) q.length (ints (nums q)) (HQ.out _) rfl wr.heap.size rfl (HSZ.out _).symm rfl (by unfold maxLen; omega) (by omega) (by rw [HSZ.out]; omega) ?_
                           intro v6 w6 hown hg
                           have Q6 := Lib.hid hown
                           have G6 := Lib.hid hg
                           clear hown hg))
                    clear cs fs
                    have hsz6 := G6.out.size
                    rw [HSZ.out] at hsz6
                    go_roundw
                    case rel =>
                      refine ⟨k + 1, q ++ [j], _, by go_num, rfl, by omega, by rw [List.length_append]; omega, HU2, HB2, HD2, HA2, Lib.hid ?_, Lib.hid ((HZ0.out _).of_block (G6.out.block (by rw [HSZ.out]; omega) (by show some qb ≠ some _; intro e; cases e; omega))), Lib.hid ((HX0.out _).of_block (G6.out.block (by rw [HSZ.out]; omega) (by show some qb ≠ some _; intro e; cases e; omega))), Lib.hid ((HB0.out _).trans (G6.out.below (by rw [HSZ.out]; omega) (fun k hk => by cases hk; show w.heap.size ≤ qb; omega))), by omega⟩
                      rw [nums_app, ints_app, List.length_append]
                      exact Q6.out
                    case measure => simp [intOf]; omega
            · have HD2 := Lib.hid (doneTo_next HD.out (by rw [show m.blocks.length = k by omega]; exact HA.out))
              go_wp2
              go_roundw
              case rel => exact ⟨j + 1, q, _, by go_num, rfl, by omega, hlt, HU, HB, HD2, QR, ZR, XR, BR, hwr⟩
              case measure => simp [intOf]; omega
        · have HB2 := Lib.hid (bfs_next HB.out HST.out HU.out (by rw [show m.facts.length = j by omega]; exact HD.out))
          have hqn := nodup_len m.facts.length q HB.out.1 HB.out.2.1
          go_wp2
          go_roundw
          case rel => exact ⟨t + 1, q, _, by go_num, rfl, by omega, HB2, QR, ZR, XR, BR, hwr⟩
          case measure => simp [intOf]; omega
    · have HEND := Lib.hid (bfs_end HB.out (by omega))
      have ZF := Lib.hid (cm_own ZR.out (by rw [bools_len, seenL_len]) (by have := H16.out; unfold maxLen; omega))
      rw [HEND.out] at ZF
      clear ZR
      go_wp2
      go_ret
      exact ⟨_, rfl, ⟨by rw [bools_len, List.length_map, List.length_range]; exact own_mono ZF.out (by omega), fun k hk => by cases hk; show w.heap.size + 1 < _; omega⟩, BR.out⟩
end Go.Proofs.Ytegmoojjffkacaa
