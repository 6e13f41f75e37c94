/-
  spec.l06Against: the texts of the differences of a world and some worlds, one after the other. Condition: every one of them differs in class at the step; each difference's text is as rec says.
-/
import Derived.Test.YtnpfnfenkklocaaGreatDoorDfs
import Derived.Test.YtnpfnfenkklocaaGreatDoorDis
import Derived.Test.YtnpfnfenkklocaaGreatDoorZSpc
namespace Go.Proofs.YtnpfnfenkklocaaGreatDoor
open Go.RowKit Go.WideShapes
open Go Go.Deep
set_option linter.unusedSimpArgs false

theorem ivv_open {lo hi : Nat} {w : World} {v : Value} {ll : List (List Int)} {s : Nat} (h : Ivv lo hi w v ll) (hs : s < ll.length) (hp : 0 < (ll.getD s []).length) : ∃ bb bo bc ub uo uc, v = .slice (some ⟨bb, bo, none⟩) ll.length bc ∧ ll.length ≤ bc ∧ bc ≤ maxLen ∧ bb < w.heap.size ∧ (ll.getD s []).length ≤ uc ∧ uc ≤ maxLen ∧
    ∀ W, Below w.heap.size w W → W.cell? ⟨bb, bo + s, none⟩ = some (.slice (some ⟨ub, uo, none⟩) (ll.getD s []).length uc) ∧ ∀ i, i < (ll.getD s []).length → W.cell? ⟨ub, uo + i, none⟩ = some (.int .i64 ((ll.getD s []).getD i 0)) := by
  obtain ⟨ba, bc, rfl, b1, b2, -⟩ := h.parts
  obtain ⟨bb, bo, u0, rfl, _, _, hbb, hc, hu⟩ := h.row rfl s hs
  obtain ⟨ub, uo, uc, rfl, h1, h2, h3, h4⟩ := iv_open hu hp
  exact ⟨bb, bo, bc, ub, uo, uc, rfl, b1, b2, hbb, h1, h2, fun W hW => ⟨(hW.cell (p := ⟨bb, bo + s, none⟩) hbb).trans hc, h4 W hW⟩⟩

set_option maxRecDepth 100000 in
set_option maxHeartbeats 32000000 in
theorem specAgainst_any (lo hi lo2 hi2 lo3 hi3 : Nat) (v sv vv : Value) (m : Md) (x s : Nat) (L : List Nat) (rec : Nat → List UInt8) (w : World) (hr : Mv lo hi w v m) (hS : Ivv lo2 hi2 w sv (stepsL m (stab m + 1))) (hv : Iv lo3 hi3 w vv (nums L)) (h0 : 0 < L.length) (h16 : L.length ≤ 16) (hs : s ≤ stab m) (_hst : stab m ≤ 16)
    (hx : x < m.facts.length) (hL : ∀ y ∈ L, y < m.facts.length ∧ (clsAt m s).getD x 0 ≠ (clsAt m s).getD y 0) (hrec : ∀ y ∈ L, 0 < (rec y).length ∧ (rec y).length ≤ 100000)
    (hD : ∀ y ∈ L, ∀ W, Below w.heap.size w W → Calls Tryz.prog 27 #[v, sv, .int .i64 x, .int .i64 y] W fun e w' => e = .returned (.string ⟨(rec y).toArray⟩) ∧ Below W.heap.size W w') :
    Calls Tryz.prog 59 #[v, sv, .int .i64 x, vv, .int .i64 s] w fun e w' => e = .returned (.string ⟨(agS rec L []).toArray⟩) ∧ Below w.heap.size w w' := by
  have hcl : (clsAt m s).length = m.facts.length := clsAt_len m s
  have hgs : (stepsL m (stab m + 1)).getD s [] = clsAt m s := stepsL_get (by omega)
  obtain ⟨bb, bo, bc, cb, co, cc, rfl, b1, b2, hbb, c1, c2, hC⟩ := ivv_open hS (show s < (stepsL m (stab m + 1)).length by rw [stepsL_len]; omega) (by rw [hgs, hcl]; omega)
  rw [hgs, hcl] at c1 hC
  rw [stepsL_len] at b1
  simp only [stepsL_len] at hD ⊢
  obtain ⟨ub, uo, uc, rfl, u1, u2, u3, hU⟩ := iv_open hv (by rw [nums_len]; exact h0)
  rw [nums_len] at u1 hU ⊢
  unfold maxLen at b2 c2 u2
  have HU := Lib.hid (fun W (h : Below w.heap.size w W) j (hj : j < L.length) => (hU W h j hj).trans (by rw [nums_at hj]))
  have HC := Lib.hid hC
  have HM := Lib.hid (fun j (hj : j < L.length) => hL (L.getD j 0) (by rw [List.getD_eq_getElem?_getD, List.getElem?_eq_getElem hj]; exact List.getElem_mem hj))
  obtain ⟨fv, bv, rfl, hf, hb⟩ := hr
  have hs0 : (0 : Int) ≤ (s : Int) := Int.natCast_nonneg _
  have hs1 : (s : Int) < (stab m : Int) + 1 := by omega
  have hx0 : (0 : Int) ≤ (x : Int) := Int.natCast_nonneg _
  have hxn : (x : Int) < (m.facts.length : Int) := by omega
  clear hf hb hS hv hU hC hcl hgs hL
  go_enter Tryz.func59, Tryz.ntmps59
  go_wp2
  have x1 : Mcell (w.alloc (.cells #[fv, bv, .int .i64 m.actual] 30)) w.heap.size fv bv m.actual := Mcell.new rfl
  have q1 : Below w.heap.size w (w.alloc (.cells #[fv, bv, .int .i64 m.actual] 30)) := by go_grown
  generalize w.alloc (.cells #[fv, bv, .int .i64 m.actual] 30) = w1 at *
  have X1 := Lib.hid x1
  have B1 := Lib.hid q1
  clear x1 q1
  go_loopw [12, 19] (fun nv iv wr => ∃ k : Nat, k ≤ L.length ∧ iv = .int .i64 k ∧ nv = .int .i64 k ∧ Hid (Mcell wr w.heap.size fv bv m.actual) ∧ Hid (Below w.heap.size w wr)) (fun _ iv _ => L.length - (intOf iv).toNat)
  case atStart => exact ⟨0, Nat.zero_le _, rfl, rfl, X1, B1⟩
  case round =>
    clear X1 B1
    obtain ⟨k, hk, rfl, rfl, XR, BR⟩ := hrel
    by_cases hlt : k < L.length
    · have hk0 : (0 : Int) ≤ (k : Int) := Int.natCast_nonneg _
      have hkn : (k : Int) < (L.length : Int) := by omega
      have hu := HU.out _ BR.out k hlt
      obtain ⟨hyn, hne⟩ := HM.out k hlt
      generalize L.getD k 0 = y at *
      have hy0 : (0 : Int) ≤ (y : Int) := Int.natCast_nonneg _
      have hy1 : (y : Int) < (m.facts.length : Int) := by omega
      obtain ⟨r0, r1⟩ := HC.out _ BR.out
      have rx := r1 x hx
      have ry := r1 y hyn
      clear r1
      generalize (clsAt m s).getD x 0 = z1 at *
      generalize (clsAt m s).getD y 0 = z2 at *
      have e1 : (z1 == z2) = false := by simpa using hne
      go_wp2
      go_quiet (fail)
      clear r0 rx ry hu
      go_wp2
      go_roundw
      case rel => exact ⟨k + 1, by omega, by go_num, by go_num, Lib.hid (XR.out.drewN _), Lib.hid (below_drewN' BR.out _)⟩
      case measure => simp [intOf]; omega
    · obtain rfl : k = L.length := by omega
      go_wp2
      have HA0 : Hid (agS rec (L.drop 0) [] = agS rec L []) := Lib.hid rfl
      go_loopw [11, 12, 43] (fun tv nv iv w2 => ∃ (k : Nat) (acc : List UInt8), k ≤ L.length ∧ iv = .int .i64 k ∧ nv = .int .i64 ((L.length : Int) - k) ∧ tv = .string ⟨acc.toArray⟩ ∧ acc.length ≤ 80 ∧ Hid (agS rec (L.drop k) acc = agS rec L []) ∧ Hid (0 < k → 0 < acc.length) ∧ Hid (Mcell w2 w.heap.size fv bv m.actual) ∧ Hid (Below w.heap.size w w2)) (fun _ _ iv _ => L.length - (intOf iv).toNat)
      case atStart => exact ⟨0, [], Nat.zero_le _, rfl, by simp, rfl, by simp, HA0, Lib.hid (fun h => absurd h (by decide)), XR, BR⟩
      case round =>
        clear XR BR HA0 hk
        obtain ⟨k, acc, hk, rfl, rfl, rfl, hac, HA, HP, XR, BR⟩ := hrel
        by_cases hlt : k < L.length
        · have hk0 : (0 : Int) ≤ (k : Int) := Int.natCast_nonneg _
          have hkn : (k : Int) < (L.length : Int) := by omega
          have hu := HU.out _ BR.out k hlt
          obtain ⟨hyn, hne⟩ := HM.out k hlt
          have hyL : L.getD k 0 ∈ L := by rw [List.getD_eq_getElem?_getD, List.getElem?_eq_getElem hlt]; exact List.getElem_mem hlt
          have KD := Lib.hid (hD _ hyL)
          obtain ⟨q1, q2⟩ := hrec _ hyL
          have HDR : Hid (L.drop k = L.getD k 0 :: L.drop (k + 1)) := Lib.hid (by rw [List.drop_eq_getElem_cons hlt, List.getD_eq_getElem?_getD, List.getElem?_eq_getElem hlt]; rfl)
          clear hyL
          generalize L.getD k 0 = y at *
          have hy0 : (0 : Int) ≤ (y : Int) := Int.natCast_nonneg _
          have hy1 : (y : Int) < (m.facts.length : Int) := by omega
          obtain ⟨r0, r1⟩ := HC.out _ BR.out
          have rx := r1 x hx
          have ry := r1 y hyn
          clear r1
          generalize (clsAt m s).getD x 0 = z1 at *
          generalize (clsAt m s).getD y 0 = z2 at *
          have e1 : (z1 == z2) = false := by simpa using hne
          have xc0 : ∀ n, (wr.drewN n).cell? ⟨w.heap.size, 0, none⟩ = some fv := fun n => (XR.out.drewN n).1
          have xc1 : ∀ n, (wr.drewN n).cell? ⟨w.heap.size, 1, none⟩ = some bv := fun n => (XR.out.drewN n).2.1
          have xc2 : ∀ n, (wr.drewN n).cell? ⟨w.heap.size, 2, none⟩ = some (.int .i64 m.actual) := fun n => (XR.out.drewN n).2.2.1
          by_cases hlast : k + 1 < L.length
          · have hn1 : (1 : Int) < (L.length : Int) - k := by omega
            obtain ⟨T, hT⟩ : ∃ T, T = acc ++ [38] ++ rec y := ⟨_, rfl⟩
            have hA1 : (({ data := acc.toArray } : ByteArray) ++ { data := #[38] }) = { data := (acc ++ [38]).toArray } := ByteArray.mk_append_mk acc [38]
            have hA2 : (({ data := (acc ++ [38]).toArray } : ByteArray) ++ { data := (rec y).toArray }) = { data := T.toArray } := by rw [hT]; exact ByteArray.mk_append_mk _ _
            have hTs : (({ data := T.toArray } : ByteArray)).size = T.length := by simp [ByteArray.size]
            have hTp : 0 < T.length := by rw [hT]; simp only [List.length_append]; omega
            have hTl : T.length ≤ 200000 := by rw [hT]; simp only [List.length_append, List.length_cons, List.length_nil]; omega
            have hie : (L.drop (k + 1)).isEmpty = false := by rw [List.isEmpty_eq_false_iff]; intro h; have := congrArg List.length h; rw [List.length_drop] at this; simp at this; omega
            have HA2 : Hid (agS rec L [] = if 80 < T.length then T else agS rec (L.drop (k + 1)) T) := Lib.hid (by rw [← HA.out, HDR.out, agS, hie, hT]; simp)
            have HTd := Lib.hid hT
            clear hT hie HA HDR
            by_cases h80 : 80 < T.length
            · have h80' : (80 : Int) < (T.length : Int) := by omega
              have HF := Lib.hid (HA2.out.trans (if_pos h80))
              go_wp2
              go_quiet (fail)
              clear r0 rx ry hu
              go_wp2_with (go_at_call 27; refine (KD.out _ (below_drewN' BR.out _)).mono ?_; rintro e w5 ⟨rfl, hb5⟩; have X5 := Lib.hid ((XR.out.drewN _).below hb5); have B5 := Lib.hid ((below_drewN' BR.out _).trans (hb5.mono BR.out.size)); clear hb5)
              clear xc0 xc1 xc2
              go_ret
              exact ⟨by rw [HF.out]; rfl, B5.out⟩
            · have h80' : decide ((80 : Int) < (T.length : Int)) = false := decide_eq_false (by omega)
              have HF := Lib.hid (HA2.out.trans (if_neg h80)).symm
              go_wp2
              go_quiet (fail)
              clear r0 rx ry hu
              go_wp2_with (go_at_call 27; refine (KD.out _ (below_drewN' BR.out _)).mono ?_; rintro e w5 ⟨rfl, hb5⟩; have X5 := Lib.hid ((XR.out.drewN _).below hb5); have B5 := Lib.hid ((below_drewN' BR.out _).trans (hb5.mono BR.out.size)); clear hb5)
              clear xc0 xc1 xc2
              go_roundw
              case rel => exact ⟨k + 1, T, by omega, by go_num, by go_num, rfl, by omega, HF, Lib.hid (fun _ => hTp), X5, B5⟩
              case measure => simp [intOf]; omega
          · have hn1 : decide ((1 : Int) < (L.length : Int) - k) = false := decide_eq_false (by omega)
            obtain ⟨T, hT⟩ : ∃ T, T = acc ++ rec y := ⟨_, rfl⟩
            have hA2 : (({ data := acc.toArray } : ByteArray) ++ { data := (rec y).toArray }) = { data := T.toArray } := by rw [hT]; exact ByteArray.mk_append_mk _ _
            have hTs : (({ data := T.toArray } : ByteArray)).size = T.length := by simp [ByteArray.size]
            have hTp : 0 < T.length := by rw [hT]; simp only [List.length_append]; omega
            have hTl : T.length ≤ 200000 := by rw [hT]; simp only [List.length_append, List.length_cons, List.length_nil]; omega
            have hie : (L.drop (k + 1)).isEmpty = true := by rw [List.isEmpty_iff, List.drop_eq_nil_iff]; omega
            have HA2 : Hid (agS rec L [] = if 80 < T.length then T else agS rec (L.drop (k + 1)) T) := Lib.hid (by rw [← HA.out, HDR.out, agS, hie, hT]; simp)
            have HTd := Lib.hid hT
            clear hT hie HA HDR
            by_cases h80 : 80 < T.length
            · have h80' : (80 : Int) < (T.length : Int) := by omega
              have HF := Lib.hid (HA2.out.trans (if_pos h80))
              go_wp2
              go_quiet (fail)
              clear r0 rx ry hu
              go_wp2_with (go_at_call 27; refine (KD.out _ (below_drewN' BR.out _)).mono ?_; rintro e w5 ⟨rfl, hb5⟩; have X5 := Lib.hid ((XR.out.drewN _).below hb5); have B5 := Lib.hid ((below_drewN' BR.out _).trans (hb5.mono BR.out.size)); clear hb5)
              clear xc0 xc1 xc2
              go_ret
              exact ⟨by rw [HF.out]; rfl, B5.out⟩
            · have h80' : decide ((80 : Int) < (T.length : Int)) = false := decide_eq_false (by omega)
              have HF := Lib.hid (HA2.out.trans (if_neg h80)).symm
              go_wp2
              go_quiet (fail)
              clear r0 rx ry hu
              go_wp2_with (go_at_call 27; refine (KD.out _ (below_drewN' BR.out _)).mono ?_; rintro e w5 ⟨rfl, hb5⟩; have X5 := Lib.hid ((XR.out.drewN _).below hb5); have B5 := Lib.hid ((below_drewN' BR.out _).trans (hb5.mono BR.out.size)); clear hb5)
              clear xc0 xc1 xc2
              go_roundw
              case rel => exact ⟨k + 1, T, by omega, by go_num, by go_num, rfl, by omega, HF, Lib.hid (fun _ => hTp), X5, B5⟩
              case measure => simp [intOf]; omega
        · obtain rfl : k = L.length := by omega
          have hpa := HP.out h0
          have HF : Hid (agS rec L [] = acc) := Lib.hid (by rw [← HA.out, List.drop_length, agS])
          have hsz : ∀ h : (({ data := acc.toArray } : ByteArray) = { data := #[] }), False := fun h => by
            have := congrArg ByteArray.size h
            simp [ByteArray.size] at this
            rw [this] at hpa; simp at hpa
          go_wp2
          · rename_i h
            exfalso
            first | exact hsz h | exact hsz (by simpa using h) | (simp at h; rw [h] at hpa; simp at hpa)
          · go_ret
            exact ⟨by rw [HF.out]; rfl, BR.out⟩
end Go.Proofs.YtnpfnfenkklocaaGreatDoor
