/- ZDfe -/
import Derived.Test.YtnpfnfenkklocaaGreatDoorZDfm
import Derived.Test.YtnpfnfenkklocaaGreatDoorSpecR
set_option maxRecDepth 100000
set_option maxHeartbeats 64000000
namespace Go.Proofs.YtnpfnfenkklocaaGreatDoor
open Go.RowKit Go.WideShapes
open Go Go.Deep
set_option linter.unusedSimpArgs false
theorem ivv_open {lo hi : Nat} {w : World} {v : Value} {ll : List (List Int)} {s : Nat} (h : Ivv lo hi w v ll) (hs : s < ll.length) (hp : 0 < (ll.getD s []).length) : ∃ bb bo bc ub uo uc, v = .slice (some ⟨bb, bo, none⟩) ll.length bc ∧ ll.length ≤ bc ∧ bc ≤ maxLen ∧ bb < w.heap.size ∧ (ll.getD s []).length ≤ uc ∧ uc ≤ maxLen ∧
    ∀ W, Below w.heap.size w W → W.cell? ⟨bb, bo + s, none⟩ = some (.slice (some ⟨ub, uo, none⟩) (ll.getD s []).length uc) ∧ ∀ i, i < (ll.getD s []).length → W.cell? ⟨ub, uo + i, none⟩ = some (.int .i64 ((ll.getD s []).getD i 0)) := by
  obtain ⟨ba, bc, rfl, b1, b2, -⟩ := h.parts
  obtain ⟨bb, bo, u0, rfl, _, _, hbb, hc, hu⟩ := h.row rfl s hs
  obtain ⟨ub, uo, uc, rfl, h1, h2, h3, h4⟩ := iv_open hu hp
  exact ⟨bb, bo, bc, ub, uo, uc, rfl, b1, b2, hbb, h1, h2, fun W hW => ⟨(hW.cell (p := ⟨bb, bo + s, none⟩) hbb).trans hc, h4 W hW⟩⟩
theorem specAgainst_any (lo hi lo2 hi2 lo3 hi3 : Nat) (v sv vv : Value) (m : Md) (x s : Nat) (L : List Nat) (rec : Nat → List UInt8) (w : World) (hr : Mv lo hi w v m) (hS : Ivv lo2 hi2 w sv (stepsL m (stab m + 1))) (hv : Iv lo3 hi3 w vv (nums L)) (h0 : 0 < L.length) (h16 : L.length ≤ 16) (hs : s ≤ stab m) (_hst : stab m ≤ 16)
    (hx : x < m.facts.length) (hL : ∀ y ∈ L, y < m.facts.length ∧ (clsAt m s).getD x 0 ≠ (clsAt m s).getD y 0) (hrec : ∀ y ∈ L, 0 < (rec y).length ∧ (rec y).length ≤ 100000)
    (hD : ∀ y ∈ L, ∀ W, Below w.heap.size w W → Calls Tryz.prog 27 #[v, sv, .int .i64 x, .int .i64 y] W fun e w' => e = .returned (.string ⟨(rec y).toArray⟩) ∧ Below W.heap.size W w') :
    Calls Tryz.prog 59 #[v, sv, .int .i64 x, vv, .int .i64 s] w fun e w' => e = .returned (.string ⟨(agS rec L []).toArray⟩) ∧ Below w.heap.size w w' := by
  have hcl : (clsAt m s).length = m.facts.length := clsAt_len m s
  have hgs : (stepsL m (stab m + 1)).getD s [] = clsAt m s := stepsL_get (by omega)
  obtain ⟨bb, bo, bc, cb, co, cc, rfl, b1, b2, hbb, c1, c2, hC⟩ := ivv_open hS (show s < (stepsL m (stab m + 1)).length by rw [stepsL_len]; omega) (by rw [hgs, hcl]; omega)
  rw [hgs, hcl] at c1 hC
  rw [stepsL_len] at b1
  simp only [stepsL_len] at hD ⊢
  obtain ⟨ub, uo, uc, rfl, u1, u2, u3, hU⟩ := iv_open hv (by rw [nums_len]; exact h0)
  rw [nums_len] at u1 hU ⊢
  unfold maxLen at b2 c2 u2
  have HU := hid (fun W (h : Below w.heap.size w W) j (hj : j < L.length) => (hU W h j hj).trans (by rw [nums_at hj]))
  have HC := hid hC
  have HM := hid (fun j (hj : j < L.length) => hL (L.getD j 0) (by rw [List.getD_eq_getElem?_getD, List.getElem?_eq_getElem hj]; exact List.getElem_mem hj))
  obtain ⟨fv, bv, rfl, hf, hb⟩ := hr
  have hs0 : (0 : Int) ≤ (s : Int) := Int.natCast_nonneg _
  have hs1 : (s : Int) < (stab m : Int) + 1 := by omega
  have hx0 : (0 : Int) ≤ (x : Int) := Int.natCast_nonneg _
  have hxn : (x : Int) < (m.facts.length : Int) := by omega
  clear hf hb hS hv hU hC hcl hgs hL
  go_enter Tryz.func59, Tryz.ntmps59
  go_wp2
  have x1 : Mcell (w.alloc (.cells #[fv, bv, .int .i64 m.actual] 30)) w.heap.size fv bv m.actual := Mcell.new rfl
  have q1 : Below w.heap.size w (w.alloc (.cells #[fv, bv, .int .i64 m.actual] 30)) := by go_grown
  generalize w.alloc (.cells #[fv, bv, .int .i64 m.actual] 30) = w1 at *
  have X1 := hid x1
  have B1 := hid q1
  clear x1 q1
  go_loopw [12, 19] (fun nv iv wr => ∃ k : Nat, k ≤ L.length ∧ iv = .int .i64 k ∧ nv = .int .i64 k ∧ Hid (Mcell wr w.heap.size fv bv m.actual) ∧ Hid (Below w.heap.size w wr)) (fun _ iv _ => L.length - (intOf iv).toNat)
  case atStart => exact ⟨0, Nat.zero_le _, rfl, rfl, X1, B1⟩
  case round =>
    clear X1 B1
    obtain ⟨k, hk, rfl, rfl, XR, BR⟩ := hrel
    by_cases hlt : k < L.length
    · have hk0 : (0 : Int) ≤ (k : Int) := Int.natCast_nonneg _
      have hkn : (k : Int) < (L.length : Int) := by omega
      have hu := HU.out _ BR.out k hlt
      obtain ⟨hyn, hne⟩ := HM.out k hlt
      generalize L.getD k 0 = y at *
      have hy0 : (0 : Int) ≤ (y : Int) := Int.natCast_nonneg _
      have hy1 : (y : Int) < (m.facts.length : Int) := by omega
      obtain ⟨r0, r1⟩ := HC.out _ BR.out
      have rx := r1 x hx
      have ry := r1 y hyn
      clear r1
      generalize (clsAt m s).getD x 0 = z1 at *
      generalize (clsAt m s).getD y 0 = z2 at *
      have e1 : (z1 == z2) = false := by simpa using hne
      go_wp2
      go_quiet (fail)
      clear r0 rx ry hu
      go_wp2
      go_roundw
      case rel => exact ⟨k + 1, by omega, by go_num, by go_num, hid (XR.out.drewN _), hid (below_drewN' BR.out _)⟩
      case measure => simp [intOf]; omega
    · obtain rfl : k = L.length := by omega
      go_wp2
      have HA0 : Hid (agS rec (L.drop 0) [] = agS rec L []) := hid rfl
      go_loopw [11, 12, 43] (fun tv nv iv w2 => ∃ (k : Nat) (acc : List UInt8), k ≤ L.length ∧ iv = .int .i64 k ∧ nv = .int .i64 ((L.length : Int) - k) ∧ tv = .string ⟨acc.toArray⟩ ∧ acc.length ≤ 80 ∧ Hid (agS rec (L.drop k) acc = agS rec L []) ∧ Hid (0 < k → 0 < acc.length) ∧ Hid (Mcell w2 w.heap.size fv bv m.actual) ∧ Hid (Below w.heap.size w w2)) (fun _ _ iv _ => L.length - (intOf iv).toNat)
      case atStart => exact ⟨0, [], Nat.zero_le _, rfl, by simp, rfl, by simp, HA0, hid (fun h => absurd h (by decide)), XR, BR⟩
      case round =>
        clear XR BR HA0 hk
        obtain ⟨k, acc, hk, rfl, rfl, rfl, hac, HA, HP, XR, BR⟩ := hrel
        by_cases hlt : k < L.length
        · have hk0 : (0 : Int) ≤ (k : Int) := Int.natCast_nonneg _
          have hkn : (k : Int) < (L.length : Int) := by omega
          have hu := HU.out _ BR.out k hlt
          obtain ⟨hyn, hne⟩ := HM.out k hlt
          have hyL : L.getD k 0 ∈ L := by rw [List.getD_eq_getElem?_getD, List.getElem?_eq_getElem hlt]; exact List.getElem_mem hlt
          have KD := hid (hD _ hyL)
          obtain ⟨q1, q2⟩ := hrec _ hyL
          have HDR : Hid (L.drop k = L.getD k 0 :: L.drop (k + 1)) := hid (by rw [List.drop_eq_getElem_cons hlt, List.getD_eq_getElem?_getD, List.getElem?_eq_getElem hlt]; rfl)
          clear hyL
          generalize L.getD k 0 = y at *
          have hy0 : (0 : Int) ≤ (y : Int) := Int.natCast_nonneg _
          have hy1 : (y : Int) < (m.facts.length : Int) := by omega
          obtain ⟨r0, r1⟩ := HC.out _ BR.out
          have rx := r1 x hx
          have ry := r1 y hyn
          clear r1
          generalize (clsAt m s).getD x 0 = z1 at *
          generalize (clsAt m s).getD y 0 = z2 at *
          have e1 : (z1 == z2) = false := by simpa using hne
          have xc0 : ∀ n, (wr.drewN n).cell? ⟨w.heap.size, 0, none⟩ = some fv := fun n => (XR.out.drewN n).1
          have xc1 : ∀ n, (wr.drewN n).cell? ⟨w.heap.size, 1, none⟩ = some bv := fun n => (XR.out.drewN n).2.1
          have xc2 : ∀ n, (wr.drewN n).cell? ⟨w.heap.size, 2, none⟩ = some (.int .i64 m.actual) := fun n => (XR.out.drewN n).2.2.1
          by_cases hlast : k + 1 < L.length
          · have hn1 : (1 : Int) < (L.length : Int) - k := by omega
            obtain ⟨T, hT⟩ : ∃ T, T = acc ++ [38] ++ rec y := ⟨_, rfl⟩
            have hA1 : (({ data := acc.toArray } : ByteArray) ++ { data := #[38] }) = { data := (acc ++ [38]).toArray } := ByteArray.mk_append_mk acc [38]
            have hA2 : (({ data := (acc ++ [38]).toArray } : ByteArray) ++ { data := (rec y).toArray }) = { data := T.toArray } := by rw [hT]; exact ByteArray.mk_append_mk _ _
            have hTs : (({ data := T.toArray } : ByteArray)).size = T.length := by simp [ByteArray.size]
            have hTp : 0 < T.length := by rw [hT]; simp only [List.length_append]; omega
            have hTl : T.length ≤ 200000 := by rw [hT]; simp only [List.length_append, List.length_cons, List.length_nil]; omega
            have hie : (L.drop (k + 1)).isEmpty = false := by rw [List.isEmpty_eq_false_iff]; intro h; have := congrArg List.length h; rw [List.length_drop] at this; simp at this; omega
            have HA2 : Hid (agS rec L [] = if 80 < T.length then T else agS rec (L.drop (k + 1)) T) := hid (by rw [← HA.out, HDR.out, agS, hie, hT]; simp)
            have HTd := hid hT
            clear hT hie HA HDR
            by_cases h80 : 80 < T.length
            · have h80' : (80 : Int) < (T.length : Int) := by omega
              have HF := hid (HA2.out.trans (if_pos h80))
              go_wp2
              go_quiet (fail)
              clear r0 rx ry hu
              go_wp2_with (go_at_call 27; refine (KD.out _ (below_drewN' BR.out _)).mono ?_; rintro e w5 ⟨rfl, hb5⟩; have X5 := hid ((XR.out.drewN _).below hb5); have B5 := hid ((below_drewN' BR.out _).trans (hb5.mono BR.out.size)); clear hb5)
              clear xc0 xc1 xc2
              go_ret
              exact ⟨by rw [HF.out]; rfl, B5.out⟩
            · have h80' : decide ((80 : Int) < (T.length : Int)) = false := decide_eq_false (by omega)
              have HF := hid (HA2.out.trans (if_neg h80)).symm
              go_wp2
              go_quiet (fail)
              clear r0 rx ry hu
              go_wp2_with (go_at_call 27; refine (KD.out _ (below_drewN' BR.out _)).mono ?_; rintro e w5 ⟨rfl, hb5⟩; have X5 := hid ((XR.out.drewN _).below hb5); have B5 := hid ((below_drewN' BR.out _).trans (hb5.mono BR.out.size)); clear hb5)
              clear xc0 xc1 xc2
              go_roundw
              case rel => exact ⟨k + 1, T, by omega, by go_num, by go_num, rfl, by omega, HF, hid (fun _ => hTp), X5, B5⟩
              case measure => simp [intOf]; omega
          · have hn1 : decide ((1 : Int) < (L.length : Int) - k) = false := decide_eq_false (by omega)
            obtain ⟨T, hT⟩ : ∃ T, T = acc ++ rec y := ⟨_, rfl⟩
            have hA2 : (({ data := acc.toArray } : ByteArray) ++ { data := (rec y).toArray }) = { data := T.toArray } := by rw [hT]; exact ByteArray.mk_append_mk _ _
            have hTs : (({ data := T.toArray } : ByteArray)).size = T.length := by simp [ByteArray.size]
            have hTp : 0 < T.length := by rw [hT]; simp only [List.length_append]; omega
            have hTl : T.length ≤ 200000 := by rw [hT]; simp only [List.length_append, List.length_cons, List.length_nil]; omega
            have hie : (L.drop (k + 1)).isEmpty = true := by rw [List.isEmpty_iff, List.drop_eq_nil_iff]; omega
            have HA2 : Hid (agS rec L [] = if 80 < T.length then T else agS rec (L.drop (k + 1)) T) := hid (by rw [← HA.out, HDR.out, agS, hie, hT]; simp)
            have HTd := hid hT
            clear hT hie HA HDR
            by_cases h80 : 80 < T.length
            · have h80' : (80 : Int) < (T.length : Int) := by omega
              have HF := hid (HA2.out.trans (if_pos h80))
              go_wp2
              go_quiet (fail)
              clear r0 rx ry hu
              go_wp2_with (go_at_call 27; refine (KD.out _ (below_drewN' BR.out _)).mono ?_; rintro e w5 ⟨rfl, hb5⟩; have X5 := hid ((XR.out.drewN _).below hb5); have B5 := hid ((below_drewN' BR.out _).trans (hb5.mono BR.out.size)); clear hb5)
              clear xc0 xc1 xc2
              go_ret
              exact ⟨by rw [HF.out]; rfl, B5.out⟩
            · have h80' : decide ((80 : Int) < (T.length : Int)) = false := decide_eq_false (by omega)
              have HF := hid (HA2.out.trans (if_neg h80)).symm
              go_wp2
              go_quiet (fail)
              clear r0 rx ry hu
              go_wp2_with (go_at_call 27; refine (KD.out _ (below_drewN' BR.out _)).mono ?_; rintro e w5 ⟨rfl, hb5⟩; have X5 := hid ((XR.out.drewN _).below hb5); have B5 := hid ((below_drewN' BR.out _).trans (hb5.mono BR.out.size)); clear hb5)
              clear xc0 xc1 xc2
              go_roundw
              case rel => exact ⟨k + 1, T, by omega, by go_num, by go_num, rfl, by omega, HF, hid (fun _ => hTp), X5, B5⟩
              case measure => simp [intOf]; omega
        · obtain rfl : k = L.length := by omega
          have hpa := HP.out h0
          have HF : Hid (agS rec L [] = acc) := hid (by rw [← HA.out, List.drop_length, agS])
          have hsz : ∀ h : (({ data := acc.toArray } : ByteArray) = { data := #[] }), False := fun h => by
            have := congrArg ByteArray.size h
            simp [ByteArray.size] at this
            rw [this] at hpa; simp at hpa
          go_wp2
          · rename_i h
            exfalso
            first | exact hsz h | exact hsz (by simpa using h) | (simp at h; rw [h] at hpa; simp at hpa)
          · go_ret
            exact ⟨by rw [HF.out]; rfl, BR.out⟩
theorem firstBit_some {a b : Int} {k : Nat} (h : firstBit a b = some k) : k < 4 ∧ bitI a k ≠ bitI b k ∧ ∀ j, j < k → bitI a j = bitI b j := by
  have hk := List.mem_range.1 (List.mem_of_find?_eq_some h)
  have h1 := List.find?_some (p := fun k => bitI a k != bitI b k) h
  refine ⟨hk, by simpa using h1, fun j hj => ?_⟩
  unfold firstBit at h
  obtain ⟨_, l1, l2, hl, hno⟩ := List.find?_eq_some_iff_append.1 h
  have hlen : l1.length = k := by
    have h1 : (List.range 4)[l1.length]? = some k := by rw [hl]; simp
    obtain ⟨h3, h4⟩ := List.getElem?_eq_some_iff.1 h1
    simpa using h4
  have hj1 : j ∈ l1 := by
    have h1 : (List.range 4)[j]? = l1[j]? := by rw [hl, List.getElem?_append_left (by omega)]
    rw [List.getElem?_range (by omega)] at h1
    exact List.mem_of_getElem? h1.symm
  have := hno j hj1
  simpa using this
def factS (a : Int) (k : Nat) : List UInt8 := if bitI a k == 1 then [UInt8.ofNat (97 + k)] else [45, UInt8.ofNat (97 + k)]
theorem differFact_any (lo hi : Nat) (v sv : Value) (m : Md) (x y k : Nat) (w : World) (hr : Mv lo hi w v m) (hm : mdOk m = true) (hx : x < m.facts.length) (hy : y < m.facts.length) (hb : firstBit (m.facts.getD x 0) (m.facts.getD y 0) = some k) :
    Calls Tryz.prog 27 #[v, sv, .int .i64 x, .int .i64 y] w fun e w' => e = .returned (.string ⟨(factS (m.facts.getD x 0) k).toArray⟩) ∧ Below w.heap.size w w' := by
  obtain ⟨p1, p2, p3, p4, p5, p6, -⟩ := mdOk_parts hm
  obtain ⟨fb, fo, fc, bb, bo, bc, rfl, f1, f2, b1, b2, hfb, hbb, hF, hB⟩ := mv_open hr hm
  unfold maxLen at f2 b2
  obtain ⟨k4, hne, heq⟩ := firstBit_some hb
  obtain ⟨a0, a1⟩ := p6 x hx
  obtain ⟨e0, e1⟩ := p6 y hy
  have HF := hid (fun W hW => And.intro (hF W hW x hx) (hF W hW y hy))
  have hab : m.facts.getD x 0 ≠ m.facts.getD y 0 := fun h => hne (by rw [h])
  clear hr hm hF hB p5 p6 hb
  generalize m.facts.getD x 0 = a at *
  generalize m.facts.getD y 0 = b at *
  have KA := hid (fun j W (hj : j < 4) => l03Bit_any a j W a0 a1 hj)
  have KB := hid (fun j W (hj : j < 4) => l03Bit_any b j W e0 e1 hj)
  have HEQ := hid heq
  have HNE := hid hne
  have hx0 : (0 : Int) ≤ (x : Int) := Int.natCast_nonneg _
  have hxn : (x : Int) < (m.facts.length : Int) := by omega
  have hy0 : (0 : Int) ≤ (y : Int) := Int.natCast_nonneg _
  have hyn : (y : Int) < (m.facts.length : Int) := by omega
  have hab' : (a == b) = false := by simpa using hab
  clear heq hne hab a0 a1 e0 e1
  go_enter Tryz.func27, Tryz.ntmps27
  go_wp2
  have x1 : Mcell (w.alloc (.cells #[.slice (some ⟨fb, fo, none⟩) m.facts.length fc, .slice (some ⟨bb, bo, none⟩) m.blocks.length bc, .int .i64 m.actual] 30)) w.heap.size (.slice (some ⟨fb, fo, none⟩) m.facts.length fc) (.slice (some ⟨bb, bo, none⟩) m.blocks.length bc) m.actual := Mcell.new rfl
  have q1 : Below w.heap.size w (w.alloc (.cells #[.slice (some ⟨fb, fo, none⟩) m.facts.length fc, .slice (some ⟨bb, bo, none⟩) m.blocks.length bc, .int .i64 m.actual] 30)) := by go_grown
  generalize w.alloc (.cells #[.slice (some ⟨fb, fo, none⟩) m.facts.length fc, .slice (some ⟨bb, bo, none⟩) m.blocks.length bc, .int .i64 m.actual] 30) = w1 at *
  have X1 := hid x1
  have B1 := hid q1
  clear x1 q1
  obtain ⟨xc0, xc1, xc2, -⟩ := X1.out
  obtain ⟨g1, g2⟩ := HF.out _ B1.out
  go_quiet (fail)
  go_wp2
  clear xc0 xc1 xc2 g1 g2
  go_loopw [9] (fun iv wr => ∃ j : Nat, j ≤ k ∧ iv = .int .i64 j ∧ Hid (Mcell wr w.heap.size (.slice (some ⟨fb, fo, none⟩) m.facts.length fc) (.slice (some ⟨bb, bo, none⟩) m.blocks.length bc) m.actual) ∧ Hid (Below w.heap.size w wr)) (fun iv _ => 4 - (intOf iv).toNat)
  case atStart => exact ⟨0, Nat.zero_le _, rfl, hid (X1.out.drewN _), hid (below_drewN' B1.out _)⟩
  case round =>
    clear X1 B1
    obtain ⟨j, hj, rfl, XR, BR⟩ := hrel
    have hj0 : (0 : Int) ≤ (j : Int) := Int.natCast_nonneg _
    have hj4 : (j : Int) < 4 := by omega
    obtain ⟨xc0, xc1, xc2, -⟩ := XR.out
    obtain ⟨g1, g2⟩ := HF.out _ BR.out
    have KAj := hid (fun W => KA.out j W (by omega))
    have KBj := hid (fun W => KB.out j W (by omega))
    by_cases hlt : j < k
    · have he := HEQ.out j hlt
      rw [← he] at KBj
      clear he
      generalize bitI a j = z at *
      go_wp2
      go_quiet ((first | (go_at_call_of 56 (Value.int .i64 a); exact quiet_eq (KAj.out _)) | (go_at_call_of 56 (Value.int .i64 b); exact quiet_eq (KBj.out _))))
      go_wp2
      clear xc0 xc1 xc2 g1 g2
      go_roundw
      case rel => exact ⟨j + 1, by omega, by go_num, hid (XR.out.drewN _), hid (below_drewN' BR.out _)⟩
      case measure => simp [intOf]; omega
    · obtain rfl : j = k := by omega
      have hne := HNE.out
      have HT : Hid (factS a j = if bitI a j == 1 then [UInt8.ofNat (97 + j)] else [45, UInt8.ofNat (97 + j)]) := hid rfl
      clear KA KB HEQ HNE
      have hz : (bitI a j == bitI b j) = false := by simpa using hne
      have hza := bitI_01 a j
      clear hne
      generalize bitI a j = z at *
      generalize bitI b j = z' at *
      have hw1 : IntKind.i64.wrap (97 + (j : Int)) = 97 + (j : Int) := IntWalk.i64_in _ (by omega)
      have hw2 : IntKind.u8.wrap (97 + (j : Int)) = 97 + (j : Int) := IntWalk.u8_in _ (by omega)
      have hcv := fun W => run_bytes_one (P := Tryz.prog) Tryz.underlying37 Tryz.underlying5 Tryz.underlying9 W (97 + (j : Int))
      go_wp2
      go_quiet ((first | (go_at_call_of 56 (Value.int .i64 a); exact quiet_eq (KAj.out _)) | (go_at_call_of 56 (Value.int .i64 b); exact quiet_eq (KBj.out _))))
      generalize hq : World.drewN wr _ = wq at *
      obtain ⟨n, hn⟩ : ∃ n, wq = wr.drewN n := ⟨_, hq.symm⟩
      have XQ : Hid (Mcell wq w.heap.size (.slice (some ⟨fb, fo, none⟩) m.facts.length fc) (.slice (some ⟨bb, bo, none⟩) m.blocks.length bc) m.actual) := hid (hn ▸ XR.out.drewN n)
      have BQ : Hid (Below w.heap.size w wq) := hid (hn ▸ below_drewN' BR.out n)
      have hqq : wq.heap.size = wr.heap.size := by rw [hn]; rfl
      have HQQ := hid hqq
      clear hq hn hqq xc0 xc1 xc2 g1 g2
      have ba : ∀ cs T, Below w.heap.size w (wq.alloc (.cells cs T)) := fun cs T => BQ.out.alloc BQ.out.size _
      have xc0 : ∀ cs T, (wq.alloc (.cells cs T)).cell? ⟨w.heap.size, 0, none⟩ = some (.slice (some ⟨fb, fo, none⟩) m.facts.length fc) := fun cs T => (XQ.out.alloc _).1
      have g1 : ∀ cs T, (wq.alloc (.cells cs T)).cell? ⟨fb, fo + x, none⟩ = some (.int .i64 a) := fun cs T => (HF.out _ (ba cs T)).1
      have BA := hid ba
      clear ba
      have HU : Hid (UInt8.ofNat (97 + j) = 97 + UInt8.ofNat j) := hid (by rw [UInt8.ofNat_add]; rfl)
      rcases hza with rfl | rfl
      · go_wp2_with (go_at_call 56; refine (KAj.out _).mono ?_; rintro e w' ⟨rfl, rfl⟩)
        go_ret
        exact ⟨ret_str (by rw [HT.out, if_neg (by decide), HU.out]; exact ByteArray.mk_append_mk [45] [97 + UInt8.ofNat j]), BA.out _ _⟩
      · go_wp2_with (go_at_call 56; refine (KAj.out _).mono ?_; rintro e w' ⟨rfl, rfl⟩)
        go_ret
        exact ⟨ret_str (by rw [HT.out, if_pos (by decide), HU.out]), BA.out _ _⟩
def stepS (k : Nat) (b : Bool) (ag : List UInt8) : List UInt8 := if b then [45, 75, UInt8.ofNat (48 + k), 45] ++ ag else [75, UInt8.ofNat (48 + k), 45] ++ ag
theorem differStep_any (lo hi lo2 hi2 : Nat) (v sv : Value) (m : Md) (x y k s z : Nat) (b : Bool) (ag : List UInt8) (w : World) (hr : Mv lo hi w v m) (hm : mdOk m = true) (hS : Ivv lo2 hi2 w sv (stepsL m (stab m + 1))) (hx : x < m.facts.length) (hy : y < m.facts.length) (hfe : m.facts.getD x 0 = m.facts.getD y 0)
    (hs : s < stab m) (hst : stab m ≤ 16) (hsm : ∀ j, j ≤ stab m → ((clsAt m j).getD x 0 = (clsAt m j).getD y 0 ↔ j ≤ s)) (hk : k < m.blocks.length)
    (he : ∀ j, j < k → missing m (clsAt m s) j x y = none ∧ missing m (clsAt m s) j y x = none) (hz : (b = true ∧ missing m (clsAt m s) k x y = some z) ∨ (b = false ∧ missing m (clsAt m s) k x y = none ∧ missing m (clsAt m s) k y x = some z)) (hag : ag.length ≤ 200000)
    (hA : ∀ W lo3 hi3 vv, Below w.heap.size w W → Iv lo3 hi3 W vv (nums (blkD m k (if b then y else x))) → Calls Tryz.prog 59 #[v, sv, .int .i64 z, vv, .int .i64 s] W fun e w' => e = .returned (.string ⟨ag.toArray⟩) ∧ Below W.heap.size W w') :
    Calls Tryz.prog 27 #[v, sv, .int .i64 x, .int .i64 y] w fun e w' => e = .returned (.string ⟨(stepS k b ag).toArray⟩) ∧ Below w.heap.size w w' := by
  obtain ⟨p1, p2, p3, p4, p5, p6, -⟩ := mdOk_parts hm
  have hgs : ∀ j, j ≤ stab m → (stepsL m (stab m + 1)).getD j [] = clsAt m j := fun j hj => stepsL_get (by omega)
  have hrow : ∃ sb so sc, sv = .slice (some ⟨sb, so, none⟩) (stab m + 1) sc ∧ stab m + 1 ≤ sc ∧ sc ≤ maxLen ∧ ∀ j, j ≤ stab m → ∃ ub uo uc, m.facts.length ≤ uc ∧ uc ≤ maxLen ∧ Iv lo2 hi2 w (.slice (some ⟨ub, uo, none⟩) m.facts.length uc) (clsAt m j) ∧
      ∀ W, Below w.heap.size w W → W.cell? ⟨sb, so + j, none⟩ = some (.slice (some ⟨ub, uo, none⟩) m.facts.length uc) ∧ ∀ i, i < m.facts.length → W.cell? ⟨ub, uo + i, none⟩ = some (.int .i64 ((clsAt m j).getD i 0)) := by
    obtain ⟨sa, sc, rfl, s1, s2, hrw⟩ := hS.parts
    rw [stepsL_len] at s1 hrw ⊢
    obtain ⟨sb, so, u, rfl, -⟩ := hrw 0 (by omega)
    refine ⟨sb, so, sc, rfl, s1, s2, fun j hj => ?_⟩
    obtain ⟨sb', so', u', e, _, _, hlt, hc, hu⟩ := hrw j (by omega)
    cases e
    rw [hgs j hj] at hu
    obtain ⟨ub, uo, uc, rfl, h1, h2, h3, h4⟩ := iv_open hu (by rw [clsAt_len]; omega)
    rw [clsAt_len] at h1 h4 hc hu
    exact ⟨ub, uo, uc, h1, h2, hu, fun W hW => ⟨(hW.cell (p := ⟨sb, so + j, none⟩) hlt).trans hc, h4 W hW⟩⟩
  obtain ⟨sb, so, sc, rfl, s1, s2, hRow⟩ := hrow
  have hinr : inRow m (clsAt m s) := ⟨clsAt_len m s, fun u hu => clsAt_bd hu⟩
  obtain ⟨rb, ro, rc, t1, t2, t3, t4⟩ := hRow s (by omega)
  have HRS := hid t4
  have KM := hid (fun j u u' W (hW : Below w.heap.size w W) (hj : j < m.blocks.length) (hu : u < m.facts.length) (hu' : u' < m.facts.length) => specMiss_any lo hi lo2 hi2 v (.slice (some ⟨rb, ro, none⟩) m.facts.length rc) m (clsAt m s) j u u' W (hr.keeps (Keeps.of_all hW)) hm (t3.keeps (Keeps.of_all hW)) hinr hj hu hu')
  have KB := hid (fun u W (hW : Below w.heap.size w W) (hu : u < m.facts.length) => specBlk_any lo hi v m k u W (hr.keeps (Keeps.of_all hW)) hm hk hu)
  unfold IntsAns at KB
  have KF := hid (fun W => specSmall_any (k : Int) W (by omega))
  have HROW := hid hRow
  have HSM := hid hsm
  have HE := hid he
  have HZ := hid hz
  have KA := hid hA
  obtain ⟨fb, fo, fc, bb, bo, bc, rfl, f1, f2, b1, b2, hfb, hbb, hF, hB⟩ := mv_open hr hm
  unfold maxLen at f2 b2 s2 t2
  have HF := hid (fun W hW => And.intro (hF W hW x hx) (hF W hW y hy))
  rw [← hfe] at HF
  have HXN := hid hx
  have HYN := hid hy
  have HKN := hid hk
  have hx0 : (0 : Int) ≤ (x : Int) := Int.natCast_nonneg _
  have hxn : (x : Int) < (m.facts.length : Int) := by omega
  have hy0 : (0 : Int) ≤ (y : Int) := Int.natCast_nonneg _
  have hyn : (y : Int) < (m.facts.length : Int) := by omega
  have hs0 : (0 : Int) ≤ (s : Int) := Int.natCast_nonneg _
  have hss : (s : Int) < (stab m : Int) + 1 := by omega
  have hkn : (k : Int) < (m.blocks.length : Int) := by omega
  clear hr hm hS hF hB p5 p6 hsm he hz hA hRow hgs hinr t3 t4 hfe hx hy hk
  generalize m.facts.getD x 0 = a at *
  go_enter Tryz.func27, Tryz.ntmps27
  go_wp2
  have x1 : Mcell (w.alloc (.cells #[.slice (some ⟨fb, fo, none⟩) m.facts.length fc, .slice (some ⟨bb, bo, none⟩) m.blocks.length bc, .int .i64 m.actual] 30)) w.heap.size (.slice (some ⟨fb, fo, none⟩) m.facts.length fc) (.slice (some ⟨bb, bo, none⟩) m.blocks.length bc) m.actual := Mcell.new rfl
  have q1 : Below w.heap.size w (w.alloc (.cells #[.slice (some ⟨fb, fo, none⟩) m.facts.length fc, .slice (some ⟨bb, bo, none⟩) m.blocks.length bc, .int .i64 m.actual] 30)) := by go_grown
  generalize w.alloc (.cells #[.slice (some ⟨fb, fo, none⟩) m.facts.length fc, .slice (some ⟨bb, bo, none⟩) m.blocks.length bc, .int .i64 m.actual] 30) = w1 at *
  have X1 := hid x1
  have B1 := hid q1
  clear x1 q1
  obtain ⟨xc0, xc1, xc2, -⟩ := X1.out
  obtain ⟨g1, g2⟩ := HF.out _ B1.out
  go_quiet (fail)
  go_wp2
  clear xc0 xc1 xc2 g1 g2
  go_loopw [11] (fun iv wr => ∃ j : Nat, j ≤ s ∧ iv = .int .i64 j ∧ Hid (Mcell wr w.heap.size (.slice (some ⟨fb, fo, none⟩) m.facts.length fc) (.slice (some ⟨bb, bo, none⟩) m.blocks.length bc) m.actual) ∧ Hid (Below w.heap.size w wr)) (fun iv _ => 17 - (intOf iv).toNat)
  case atStart => exact ⟨0, Nat.zero_le _, rfl, hid (X1.out.drewN _), hid (below_drewN' B1.out _)⟩
  case round =>
    clear X1 B1
    obtain ⟨j, hj, rfl, XR, BR⟩ := hrel
    have hj0 : (0 : Int) ≤ (j : Int) := Int.natCast_nonneg _
    have hj1 : (j : Int) < (stab m : Int) + 1 - 1 := by omega
    have hj2 : (j : Int) < (stab m : Int) := by omega
    have hj3 : (j : Int) + 1 < (stab m : Int) + 1 := by omega
    obtain ⟨ub, uo, uc, u1, u2, -, u4⟩ := HROW.out (j + 1) (by omega)
    unfold maxLen at u2
    obtain ⟨r0, r1⟩ := u4 _ BR.out
    have rx := r1 x HXN.out
    have ry := r1 y HYN.out
    have hiff := HSM.out (j + 1) (by omega)
    clear r1 u4
    by_cases hlt : j < s
    · have e := hiff.2 (by omega)
      rw [← e] at ry
      clear hiff e
      generalize (clsAt m (j + 1)).getD x 0 = z1 at *
      go_wp2
      go_quiet (fail)
      go_wp2
      clear r0 rx ry
      go_roundw
      case rel => exact ⟨j + 1, by omega, by go_num, hid (XR.out.drewN _), hid (below_drewN' BR.out _)⟩
      case measure => simp [intOf]; omega
    · obtain rfl : s = j := by omega
      have hne : ¬ (clsAt m (s + 1)).getD x 0 = (clsAt m (s + 1)).getD y 0 := fun h => by have := hiff.1 h; omega
      clear hiff
      generalize (clsAt m (s + 1)).getD x 0 = z1 at *
      generalize (clsAt m (s + 1)).getD y 0 = z2 at *
      have e1 : (z1 == z2) = false := by simpa using hne
      clear hne
      obtain ⟨xc0, xc1, xc2, -⟩ := XR.out
      go_wp2
      go_quiet (fail)
      go_wp2
      clear r0 rx ry xc0 xc1 xc2 hj0 hj1 hj2 hj3 e1
      obtain ⟨wo, rfl⟩ : ∃ wo : World, wo = wr := ⟨_, rfl⟩
      go_loopw [89] (fun iv w3 => ∃ j : Nat, j ≤ k ∧ iv = .int .i64 j ∧ Hid (Mcell w3 w.heap.size (.slice (some ⟨fb, fo, none⟩) m.facts.length fc) (.slice (some ⟨bb, bo, none⟩) m.blocks.length bc) m.actual) ∧ Hid (Below w.heap.size w w3)) (fun iv _ => 4 - (intOf iv).toNat)
      case atStart => exact ⟨0, Nat.zero_le _, rfl, hid (XR.out.drewN _), hid (below_drewN' BR.out _)⟩
      case round =>
        clear XR BR HSM HROW hj
        obtain ⟨q, hq, rfl, X3, B3⟩ := hrel
        have hq0 : (0 : Int) ≤ (q : Int) := Int.natCast_nonneg _
        have hqn : (q : Int) < (m.blocks.length : Int) := by omega
        have HQB : Hid (q < m.blocks.length) := hid (by omega)
        by_cases hlt : q < k
        · have KX1 := hid (fun W hW => KM.out q x y W hW HQB.out HXN.out HYN.out)
          have KX2 := hid (fun W hW => KM.out q y x W hW HQB.out HYN.out HXN.out)
          rw [(HE.out q hlt).1] at KX1
          rw [(HE.out q hlt).2] at KX2
          obtain ⟨r, hr⟩ : ∃ r : Int, r = missV none := ⟨_, rfl⟩
          rw [← hr] at KX1 KX2
          obtain rfl : r = -1 := hr
          go_wp2
          have HRG := hid (fun W (h : Below wr.heap.size wr W) => (X3.out.below h).range)
          have HRSW := hid (fun W (h : Below wr.heap.size wr W) => (HRS.out W (B3.out.trans (h.mono B3.out.size))).1)
          refine regionL (fun U => Below wr.heap.size wr U) [] (by kernel_rfl) (Below.refl _ _).drew (fun hHeld => ?_)
          refine takeA (i := 0) (v := (.agg #[.slice (some ⟨fb, fo, none⟩) m.facts.length fc, .slice (some ⟨bb, bo, none⟩) m.blocks.length bc, .int .i64 m.actual])) 92 rfl rfl (by kernel_rfl) (by kernel_rfl) (by kernel_rfl) (by kernel_rfl) (fun _ _ _ h => h) (yieldsIf_load_mid (by rfl) 30 _ rfl w.heap.size 0 rfl [.slice (some ⟨fb, fo, none⟩) m.facts.length fc, .slice (some ⟨bb, bo, none⟩) m.blocks.length bc, .int .i64 m.actual] _ HRG.out Tryz.underlying30 rfl Tryz.sizeMd) hHeld ?_
          simp only [Act.put, zA, zB, zC]
          refine takeA (i := 1) (v := .int .i64 q) 93 rfl rfl (by kernel_rfl) (by kernel_rfl) (by kernel_rfl) (by kernel_rfl) (fun _ _ _ h => h) (Or.inl ⟨by rfl, by intro W hSw; go_simp⟩) hHeld ?_
          simp only [Act.put, zA, zB, zC]
          refine takeA (i := 2) (v := (.slice (some ⟨sb, so, none⟩) (stab m + 1) sc)) 94 rfl rfl (by kernel_rfl) (by kernel_rfl) (by kernel_rfl) (by kernel_rfl) (fun _ _ _ h => h) (Or.inl ⟨by rfl, by intro W hSw; go_simp⟩) hHeld ?_
          simp only [Act.put, zA, zB, zC]
          refine takeA (i := 3) (v := .int .i64 s) 95 rfl rfl (by kernel_rfl) (by kernel_rfl) (by kernel_rfl) (by kernel_rfl) (fun _ _ _ h => h) (Or.inl ⟨by rfl, by intro W hSw; go_simp⟩) hHeld ?_
          simp only [Act.put, zA, zB, zC]
          refine takeA (i := 6) (v := .int .i64 x) 98 rfl rfl (by kernel_rfl) (by kernel_rfl) (by kernel_rfl) (by kernel_rfl) (fun _ _ _ h => h) (Or.inl ⟨by rfl, by intro W hSw; go_simp⟩) hHeld ?_
          simp only [Act.put, zA, zB, zC]
          refine takeA (i := 7) (v := .int .i64 y) 99 rfl rfl (by kernel_rfl) (by kernel_rfl) (by kernel_rfl) (by kernel_rfl) (fun _ _ _ h => h) (Or.inl ⟨by rfl, by intro W hSw; go_simp⟩) hHeld ?_
          simp only [Act.put, zA, zB, zC]
          refine takeA (i := 4) (v := .pointer (some ⟨sb, so + s, none⟩)) 96 rfl rfl (by kernel_rfl) (by kernel_rfl) (by kernel_rfl) (by kernel_rfl) (fun _ _ _ h => h) (Or.inl ⟨by rfl, by intro W hSw; go_simp⟩) hHeld ?_
          simp only [Act.put, zA, zB, zC]
          refine takeA (i := 5) (v := .slice (some ⟨rb, ro, none⟩) m.facts.length rc) 97 rfl rfl (by kernel_rfl) (by kernel_rfl) (by kernel_rfl) (by kernel_rfl) (fun _ _ _ h => h) (Or.inl ⟨by rfl, by intro W hSw; have c1 := HRSW.out _ hSw; go_simp⟩) hHeld ?_
          simp only [Act.put, zA, zB, zC]
          generalize (World.drew _) = wd at hHeld ⊢
          refine onlyL (i := 8) (by kernel_rfl) rfl (by rfl) (fun K hK => ?_)
          go_simp
          refine (KX1.out _ (B3.out.trans (hHeld.mono B3.out.size))).mono ?_
          rintro e w4 ⟨rfl, hb4⟩
          have t4 : Below wr.heap.size wr w4 := hHeld.trans (hb4.mono hHeld.size)
          have X4 := hid (X3.out.below t4)
          have B4 := hid (B3.out.trans (t4.mono B3.out.size))
          clear hb4 hHeld
          refine hK.out _ _ (fun _ => t4) (fun _ => ?_)
          clear hK K
          have hHeld := t4
          try simp only [Act.put, zA, zB, zC]
          refine takeA (i := 9) (v := .int .i64 (-1)) 13 rfl rfl (by kernel_rfl) (by kernel_rfl) (by kernel_rfl) (by kernel_rfl) (fun _ _ _ h => h) (Or.inl ⟨by rfl, by intro W hSw; go_simp⟩) hHeld ?_
          simp only [Act.put, zA, zB, zC]
          clear hHeld t4
          refine doneL (by kernel_rfl) ?_ _
          try simp only [Act.put, zA, zB, zC]
          clear HRG HRSW
          go_wp2
          have HRG := hid (fun W (h : Below w4.heap.size w4 W) => (X4.out.below h).range)
          have HRSW := hid (fun W (h : Below w4.heap.size w4 W) => (HRS.out W (B4.out.trans (h.mono B4.out.size))).1)
          refine regionL (fun U => Below w4.heap.size w4 U) [] (by kernel_rfl) (Below.refl _ _).drew (fun hHeld => ?_)
          refine takeA (i := 0) (v := (.agg #[.slice (some ⟨fb, fo, none⟩) m.facts.length fc, .slice (some ⟨bb, bo, none⟩) m.blocks.length bc, .int .i64 m.actual])) 117 rfl rfl (by kernel_rfl) (by kernel_rfl) (by kernel_rfl) (by kernel_rfl) (fun _ _ _ h => h) (yieldsIf_load_mid (by rfl) 30 _ rfl w.heap.size 0 rfl [.slice (some ⟨fb, fo, none⟩) m.facts.length fc, .slice (some ⟨bb, bo, none⟩) m.blocks.length bc, .int .i64 m.actual] _ HRG.out Tryz.underlying30 rfl Tryz.sizeMd) hHeld ?_
          simp only [Act.put, zA, zB, zC]
          refine takeA (i := 1) (v := .int .i64 q) 118 rfl rfl (by kernel_rfl) (by kernel_rfl) (by kernel_rfl) (by kernel_rfl) (fun _ _ _ h => h) (Or.inl ⟨by rfl, by intro W hSw; go_simp⟩) hHeld ?_
          simp only [Act.put, zA, zB, zC]
          refine takeA (i := 2) (v := (.slice (some ⟨sb, so, none⟩) (stab m + 1) sc)) 119 rfl rfl (by kernel_rfl) (by kernel_rfl) (by kernel_rfl) (by kernel_rfl) (fun _ _ _ h => h) (Or.inl ⟨by rfl, by intro W hSw; go_simp⟩) hHeld ?_
          simp only [Act.put, zA, zB, zC]
          refine takeA (i := 3) (v := .int .i64 s) 120 rfl rfl (by kernel_rfl) (by kernel_rfl) (by kernel_rfl) (by kernel_rfl) (fun _ _ _ h => h) (Or.inl ⟨by rfl, by intro W hSw; go_simp⟩) hHeld ?_
          simp only [Act.put, zA, zB, zC]
          refine takeA (i := 6) (v := .int .i64 y) 123 rfl rfl (by kernel_rfl) (by kernel_rfl) (by kernel_rfl) (by kernel_rfl) (fun _ _ _ h => h) (Or.inl ⟨by rfl, by intro W hSw; go_simp⟩) hHeld ?_
          simp only [Act.put, zA, zB, zC]
          refine takeA (i := 7) (v := .int .i64 x) 124 rfl rfl (by kernel_rfl) (by kernel_rfl) (by kernel_rfl) (by kernel_rfl) (fun _ _ _ h => h) (Or.inl ⟨by rfl, by intro W hSw; go_simp⟩) hHeld ?_
          simp only [Act.put, zA, zB, zC]
          refine takeA (i := 4) (v := .pointer (some ⟨sb, so + s, none⟩)) 121 rfl rfl (by kernel_rfl) (by kernel_rfl) (by kernel_rfl) (by kernel_rfl) (fun _ _ _ h => h) (Or.inl ⟨by rfl, by intro W hSw; go_simp⟩) hHeld ?_
          simp only [Act.put, zA, zB, zC]
          refine takeA (i := 5) (v := .slice (some ⟨rb, ro, none⟩) m.facts.length rc) 122 rfl rfl (by kernel_rfl) (by kernel_rfl) (by kernel_rfl) (by kernel_rfl) (fun _ _ _ h => h) (Or.inl ⟨by rfl, by intro W hSw; have c1 := HRSW.out _ hSw; go_simp⟩) hHeld ?_
          simp only [Act.put, zA, zB, zC]
          generalize (World.drew _) = wd at hHeld ⊢
          refine onlyL (i := 8) (by kernel_rfl) rfl (by rfl) (fun K hK => ?_)
          go_simp
          refine (KX2.out _ (B4.out.trans (hHeld.mono B4.out.size))).mono ?_
          rintro e w5 ⟨rfl, hb5⟩
          have t5 : Below w4.heap.size w4 w5 := hHeld.trans (hb5.mono hHeld.size)
          have X5 := hid (X4.out.below t5)
          have B5 := hid (B4.out.trans (t5.mono B4.out.size))
          clear hb5 hHeld
          refine hK.out _ _ (fun _ => t5) (fun _ => ?_)
          clear hK K
          have hHeld := t5
          try simp only [Act.put, zA, zB, zC]
          refine takeA (i := 9) (v := .int .i64 (-1)) 13 rfl rfl (by kernel_rfl) (by kernel_rfl) (by kernel_rfl) (by kernel_rfl) (fun _ _ _ h => h) (Or.inl ⟨by rfl, by intro W hSw; go_simp⟩) hHeld ?_
          simp only [Act.put, zA, zB, zC]
          clear hHeld t5
          refine doneL (by kernel_rfl) ?_ _
          try simp only [Act.put, zA, zB, zC]
          clear HRG HRSW
          go_wp2
          go_roundw
          case rel => exact ⟨q + 1, by omega, by go_num, X5, B5⟩
          case measure => simp [intOf]; omega
        · obtain rfl : q = k := by omega
          clear HE hlt
          have KX1 := hid (fun W hW => KM.out q x y W hW HQB.out HXN.out HYN.out)
          have KX2 := hid (fun W hW => KM.out q y x W hW HQB.out HYN.out HXN.out)
          have zk : (str [UInt8.ofNat (48 + (q : Int).toNat)]).size ≤ 1 := Nat.le_refl _
          have zg : (⟨ag.toArray⟩ : ByteArray).size ≤ 200000 := hag
          have HT1 : Hid (⟨#[45, 75]⟩ ++ str [UInt8.ofNat (48 + (q : Int).toNat)] ++ ⟨#[45]⟩ ++ ⟨ag.toArray⟩ = (⟨(stepS q true ag).toArray⟩ : ByteArray)) := hid (by
            show str [45, 75] ++ str [UInt8.ofNat (48 + (q : Int).toNat)] ++ str [45] ++ str ag = str _
            rw [str_app, str_app, str_app]; unfold stepS; rw [if_pos rfl, Int.toNat_natCast]; rfl)
          have HT2 : Hid (⟨#[75]⟩ ++ str [UInt8.ofNat (48 + (q : Int).toNat)] ++ ⟨#[45]⟩ ++ ⟨ag.toArray⟩ = (⟨(stepS q false ag).toArray⟩ : ByteArray)) := hid (by
            show str [75] ++ str [UInt8.ofNat (48 + (q : Int).toNat)] ++ str [45] ++ str ag = str _
            rw [str_app, str_app, str_app]; unfold stepS; rw [if_neg (by decide), Int.toNat_natCast]; rfl)
          generalize str [UInt8.ofNat (48 + (q : Int).toNat)] = sk at *
          generalize (⟨ag.toArray⟩ : ByteArray) = sg at *
          have hz0 : (0 : Int) ≤ (z : Int) := Int.natCast_nonneg _
          rcases HZ.out with ⟨rfl, e1⟩ | ⟨rfl, e1, e2⟩
          · rw [e1] at KX1
            obtain ⟨r, hr⟩ : ∃ r : Int, r = missV (some z) := ⟨_, rfl⟩
            rw [← hr] at KX1
            obtain rfl : r = (z : Int) := hr
            have HT := hid HT1.out
            clear e1 HZ KX2 HT1 HT2
            simp only [if_true] at KA
            go_wp2
            have HRG := hid (fun W (h : Below wr.heap.size wr W) => (X3.out.below h).range)
            have HRSW := hid (fun W (h : Below wr.heap.size wr W) => (HRS.out W (B3.out.trans (h.mono B3.out.size))).1)
            refine regionL (fun U => Below wr.heap.size wr U) [] (by kernel_rfl) (Below.refl _ _).drew (fun hHeld => ?_)
            refine takeA (i := 0) (v := (.agg #[.slice (some ⟨fb, fo, none⟩) m.facts.length fc, .slice (some ⟨bb, bo, none⟩) m.blocks.length bc, .int .i64 m.actual])) 92 rfl rfl (by kernel_rfl) (by kernel_rfl) (by kernel_rfl) (by kernel_rfl) (fun _ _ _ h => h) (yieldsIf_load_mid (by rfl) 30 _ rfl w.heap.size 0 rfl [.slice (some ⟨fb, fo, none⟩) m.facts.length fc, .slice (some ⟨bb, bo, none⟩) m.blocks.length bc, .int .i64 m.actual] _ HRG.out Tryz.underlying30 rfl Tryz.sizeMd) hHeld ?_
            simp only [Act.put, zA, zB, zC]
            refine takeA (i := 1) (v := .int .i64 q) 93 rfl rfl (by kernel_rfl) (by kernel_rfl) (by kernel_rfl) (by kernel_rfl) (fun _ _ _ h => h) (Or.inl ⟨by rfl, by intro W hSw; go_simp⟩) hHeld ?_
            simp only [Act.put, zA, zB, zC]
            refine takeA (i := 2) (v := (.slice (some ⟨sb, so, none⟩) (stab m + 1) sc)) 94 rfl rfl (by kernel_rfl) (by kernel_rfl) (by kernel_rfl) (by kernel_rfl) (fun _ _ _ h => h) (Or.inl ⟨by rfl, by intro W hSw; go_simp⟩) hHeld ?_
            simp only [Act.put, zA, zB, zC]
            refine takeA (i := 3) (v := .int .i64 s) 95 rfl rfl (by kernel_rfl) (by kernel_rfl) (by kernel_rfl) (by kernel_rfl) (fun _ _ _ h => h) (Or.inl ⟨by rfl, by intro W hSw; go_simp⟩) hHeld ?_
            simp only [Act.put, zA, zB, zC]
            refine takeA (i := 6) (v := .int .i64 x) 98 rfl rfl (by kernel_rfl) (by kernel_rfl) (by kernel_rfl) (by kernel_rfl) (fun _ _ _ h => h) (Or.inl ⟨by rfl, by intro W hSw; go_simp⟩) hHeld ?_
            simp only [Act.put, zA, zB, zC]
            refine takeA (i := 7) (v := .int .i64 y) 99 rfl rfl (by kernel_rfl) (by kernel_rfl) (by kernel_rfl) (by kernel_rfl) (fun _ _ _ h => h) (Or.inl ⟨by rfl, by intro W hSw; go_simp⟩) hHeld ?_
            simp only [Act.put, zA, zB, zC]
            refine takeA (i := 4) (v := .pointer (some ⟨sb, so + s, none⟩)) 96 rfl rfl (by kernel_rfl) (by kernel_rfl) (by kernel_rfl) (by kernel_rfl) (fun _ _ _ h => h) (Or.inl ⟨by rfl, by intro W hSw; go_simp⟩) hHeld ?_
            simp only [Act.put, zA, zB, zC]
            refine takeA (i := 5) (v := .slice (some ⟨rb, ro, none⟩) m.facts.length rc) 97 rfl rfl (by kernel_rfl) (by kernel_rfl) (by kernel_rfl) (by kernel_rfl) (fun _ _ _ h => h) (Or.inl ⟨by rfl, by intro W hSw; have c1 := HRSW.out _ hSw; go_simp⟩) hHeld ?_
            simp only [Act.put, zA, zB, zC]
            generalize (World.drew _) = wd at hHeld ⊢
            refine onlyL (i := 8) (by kernel_rfl) rfl (by rfl) (fun K hK => ?_)
            go_simp
            refine (KX1.out _ (B3.out.trans (hHeld.mono B3.out.size))).mono ?_
            rintro e w4 ⟨rfl, hb4⟩
            have t4 : Below wr.heap.size wr w4 := hHeld.trans (hb4.mono hHeld.size)
            have X4 := hid (X3.out.below t4)
            have B4 := hid (B3.out.trans (t4.mono B3.out.size))
            clear hb4 hHeld
            refine hK.out _ _ (fun _ => t4) (fun _ => ?_)
            clear hK K
            have hHeld := t4
            try simp only [Act.put, zA, zB, zC]
            refine takeA (i := 9) (v := .int .i64 z) 13 rfl rfl (by kernel_rfl) (by kernel_rfl) (by kernel_rfl) (by kernel_rfl) (fun _ _ _ h => h) (Or.inl ⟨by rfl, by intro W hSw; go_simp⟩) hHeld ?_
            simp only [Act.put, zA, zB, zC]
            clear hHeld t4
            refine doneL (by kernel_rfl) ?_ _
            try simp only [Act.put, zA, zB, zC]
            clear HRG HRSW
            go_wp2
            have zl0 : (⟨#[45, 75]⟩ : ByteArray).size ≤ 2 := by decide
            have zl1 : (⟨#[45]⟩ : ByteArray).size = 1 := rfl
            have hadd0 := fun W => run_string_add_sum (P := Tryz.prog) W ⟨#[45, 75]⟩ sk (by omega)
            have hadd1 := fun W => run_string_add_sum (P := Tryz.prog) W (⟨#[45, 75]⟩ ++ sk) ⟨#[45]⟩ (by simp only [ByteArray.size_append]; omega)
            have hadd2 := fun W => run_string_add_sum (P := Tryz.prog) W (⟨#[45, 75]⟩ ++ sk ++ ⟨#[45]⟩) sg (by simp only [ByteArray.size_append]; omega)
            clear zl0 zl1 zk zg
            have HRG := hid (fun W (h : Below w4.heap.size w4 W) => (X4.out.below h).range)
            have HRSW := hid (fun W (h : Below w4.heap.size w4 W) => (HRS.out W (B4.out.trans (h.mono B4.out.size))).1)
            refine regionL (fun U => Below w4.heap.size w4 U) [] (by kernel_rfl) (Below.refl _ _).drew (fun hHeld => ?_)
            refine takeA (i := 0) (v := .int .i64 q) 103 rfl rfl (by kernel_rfl) (by kernel_rfl) (by kernel_rfl) (by kernel_rfl) (fun _ _ _ h => h) (Or.inl ⟨by rfl, by intro W hSw; go_simp⟩) hHeld ?_
            simp only [Act.put, zA, zB, zC]
            refine takeA (i := 4) (v := (.agg #[.slice (some ⟨fb, fo, none⟩) m.facts.length fc, .slice (some ⟨bb, bo, none⟩) m.blocks.length bc, .int .i64 m.actual])) 107 rfl rfl (by kernel_rfl) (by kernel_rfl) (by kernel_rfl) (by kernel_rfl) (fun _ _ _ h => h) (yieldsIf_load_mid (by rfl) 30 _ rfl w.heap.size 0 rfl [.slice (some ⟨fb, fo, none⟩) m.facts.length fc, .slice (some ⟨bb, bo, none⟩) m.blocks.length bc, .int .i64 m.actual] _ HRG.out Tryz.underlying30 rfl Tryz.sizeMd) hHeld ?_
            simp only [Act.put, zA, zB, zC]
            refine takeA (i := 5) (v := (.slice (some ⟨sb, so, none⟩) (stab m + 1) sc)) 108 rfl rfl (by kernel_rfl) (by kernel_rfl) (by kernel_rfl) (by kernel_rfl) (fun _ _ _ h => h) (Or.inl ⟨by rfl, by intro W hSw; go_simp⟩) hHeld ?_
            simp only [Act.put, zA, zB, zC]
            refine takeA (i := 6) (v := .int .i64 z) 109 rfl rfl (by kernel_rfl) (by kernel_rfl) (by kernel_rfl) (by kernel_rfl) (fun _ _ _ h => h) (Or.inl ⟨by rfl, by intro W hSw; go_simp⟩) hHeld ?_
            simp only [Act.put, zA, zB, zC]
            refine takeA (i := 7) (v := (.agg #[.slice (some ⟨fb, fo, none⟩) m.facts.length fc, .slice (some ⟨bb, bo, none⟩) m.blocks.length bc, .int .i64 m.actual])) 110 rfl rfl (by kernel_rfl) (by kernel_rfl) (by kernel_rfl) (by kernel_rfl) (fun _ _ _ h => h) (yieldsIf_load_mid (by rfl) 30 _ rfl w.heap.size 0 rfl [.slice (some ⟨fb, fo, none⟩) m.facts.length fc, .slice (some ⟨bb, bo, none⟩) m.blocks.length bc, .int .i64 m.actual] _ HRG.out Tryz.underlying30 rfl Tryz.sizeMd) hHeld ?_
            simp only [Act.put, zA, zB, zC]
            refine takeA (i := 8) (v := .int .i64 q) 111 rfl rfl (by kernel_rfl) (by kernel_rfl) (by kernel_rfl) (by kernel_rfl) (fun _ _ _ h => h) (Or.inl ⟨by rfl, by intro W hSw; go_simp⟩) hHeld ?_
            simp only [Act.put, zA, zB, zC]
            refine takeA (i := 9) (v := .int .i64 y) 112 rfl rfl (by kernel_rfl) (by kernel_rfl) (by kernel_rfl) (by kernel_rfl) (fun _ _ _ h => h) (Or.inl ⟨by rfl, by intro W hSw; go_simp⟩) hHeld ?_
            simp only [Act.put, zA, zB, zC]
            refine takeA (i := 11) (v := .int .i64 s) 114 rfl rfl (by kernel_rfl) (by kernel_rfl) (by kernel_rfl) (by kernel_rfl) (fun _ _ _ h => h) (Or.inl ⟨by rfl, by intro W hSw; go_simp⟩) hHeld ?_
            simp only [Act.put, zA, zB, zC]
            generalize (World.drew _) = wd at hHeld ⊢
            refine onlyL (i := 1) (by kernel_rfl) rfl (by rfl) (fun K hK => ?_)
            go_simp
            refine (KF.out _).mono ?_
            rintro e w11 ⟨rfl, hb11⟩
            have t11 : Below w4.heap.size w4 w11 := hHeld.trans (hb11.mono hHeld.size)
            clear hb11 hHeld
            refine hK.out _ _ (fun _ => t11) (fun _ => ?_)
            clear hK K
            have hHeld := t11
            try simp only [Act.put, zA, zB, zC]
            refine takeA (i := 2) (v := .string (⟨#[45, 75]⟩ ++ sk)) 105 rfl rfl (by kernel_rfl) (by kernel_rfl) (by kernel_rfl) (by kernel_rfl) (fun _ _ _ h => h) (Or.inl ⟨by rfl, by intro W hSw; go_simp⟩) hHeld ?_
            simp only [Act.put, zA, zB, zC]
            refine takeA (i := 3) (v := .string (⟨#[45, 75]⟩ ++ sk ++ ⟨#[45]⟩)) 106 rfl rfl (by kernel_rfl) (by kernel_rfl) (by kernel_rfl) (by kernel_rfl) (fun _ _ _ h => h) (Or.inl ⟨by rfl, by intro W hSw; go_simp⟩) hHeld ?_
            simp only [Act.put, zA, zB, zC]
            clear hHeld
            refine onlyL (i := 10) (by kernel_rfl) rfl (by rfl) (fun K hK => ?_)
            go_simp
            refine (KB.out y _ (B4.out.trans (t11.mono B4.out.size)) HYN.out).mono ?_
            rintro e w12 ⟨v12, rfl, ho12, hb12⟩
            have t12 : Below w4.heap.size w4 w12 := t11.trans (hb12.mono t11.size)
            have R12 := hid ho12.read
            obtain ⟨va, vc, hv⟩ := ho12.read.form
            subst hv
            clear hb12 ho12
            refine hK.out _ _ (fun _ => t12) (fun _ => ?_)
            clear hK K
            try simp only [Act.put, zA, zB, zC]
            refine onlyL (i := 12) (by kernel_rfl) rfl (by rfl) (fun K hK => ?_)
            go_simp
            refine (KA.out _ _ _ _ (B4.out.trans (t12.mono B4.out.size)) R12.out).mono ?_
            rintro e w13 ⟨rfl, hb13⟩
            have t13 : Below w4.heap.size w4 w13 := t12.trans (hb13.mono t12.size)
            clear hb13
            refine hK.out _ _ (fun _ => t13) (fun _ => ?_)
            clear hK K
            have hHeld := t13
            try simp only [Act.put, zA, zB, zC]
            refine takeA (i := 13) (v := .string (⟨#[45, 75]⟩ ++ sk ++ ⟨#[45]⟩ ++ sg)) 116 rfl rfl (by kernel_rfl) (by kernel_rfl) (by kernel_rfl) (by kernel_rfl) (fun _ _ _ h => h) (Or.inl ⟨by rfl, by intro W hSw; go_simp⟩) hHeld ?_
            simp only [Act.put, zA, zB, zC]
            refine takeA (i := 14) (v := .string (⟨#[45, 75]⟩ ++ sk ++ ⟨#[45]⟩ ++ sg)) 8 rfl rfl (by kernel_rfl) (by kernel_rfl) (by kernel_rfl) (by kernel_rfl) (fun _ _ _ h => h) (Or.inl ⟨by rfl, by intro W hSw; go_simp⟩) hHeld ?_
            simp only [Act.put, zA, zB, zC]
            clear hHeld
            refine doneL (by kernel_rfl) ?_ _
            try simp only [Act.put, zA, zB, zC]
            go_wp2
            go_ret
            exact ⟨ret_str HT.out, B4.out.trans (t13.mono B4.out.size)⟩
          · rw [e1] at KX1
            rw [e2] at KX2
            obtain ⟨r, hr⟩ : ∃ r : Int, r = missV none := ⟨_, rfl⟩
            rw [← hr] at KX1
            obtain rfl : r = -1 := hr
            obtain ⟨r, hr⟩ : ∃ r : Int, r = missV (some z) := ⟨_, rfl⟩
            rw [← hr] at KX2
            obtain rfl : r = (z : Int) := hr
            have HT := hid HT2.out
            clear e1 e2 HZ HT1 HT2
            simp only [Bool.false_eq_true, if_false] at KA
            go_wp2
            have HRG := hid (fun W (h : Below wr.heap.size wr W) => (X3.out.below h).range)
            have HRSW := hid (fun W (h : Below wr.heap.size wr W) => (HRS.out W (B3.out.trans (h.mono B3.out.size))).1)
            refine regionL (fun U => Below wr.heap.size wr U) [] (by kernel_rfl) (Below.refl _ _).drew (fun hHeld => ?_)
            refine takeA (i := 0) (v := (.agg #[.slice (some ⟨fb, fo, none⟩) m.facts.length fc, .slice (some ⟨bb, bo, none⟩) m.blocks.length bc, .int .i64 m.actual])) 92 rfl rfl (by kernel_rfl) (by kernel_rfl) (by kernel_rfl) (by kernel_rfl) (fun _ _ _ h => h) (yieldsIf_load_mid (by rfl) 30 _ rfl w.heap.size 0 rfl [.slice (some ⟨fb, fo, none⟩) m.facts.length fc, .slice (some ⟨bb, bo, none⟩) m.blocks.length bc, .int .i64 m.actual] _ HRG.out Tryz.underlying30 rfl Tryz.sizeMd) hHeld ?_
            simp only [Act.put, zA, zB, zC]
            refine takeA (i := 1) (v := .int .i64 q) 93 rfl rfl (by kernel_rfl) (by kernel_rfl) (by kernel_rfl) (by kernel_rfl) (fun _ _ _ h => h) (Or.inl ⟨by rfl, by intro W hSw; go_simp⟩) hHeld ?_
            simp only [Act.put, zA, zB, zC]
            refine takeA (i := 2) (v := (.slice (some ⟨sb, so, none⟩) (stab m + 1) sc)) 94 rfl rfl (by kernel_rfl) (by kernel_rfl) (by kernel_rfl) (by kernel_rfl) (fun _ _ _ h => h) (Or.inl ⟨by rfl, by intro W hSw; go_simp⟩) hHeld ?_
            simp only [Act.put, zA, zB, zC]
            refine takeA (i := 3) (v := .int .i64 s) 95 rfl rfl (by kernel_rfl) (by kernel_rfl) (by kernel_rfl) (by kernel_rfl) (fun _ _ _ h => h) (Or.inl ⟨by rfl, by intro W hSw; go_simp⟩) hHeld ?_
            simp only [Act.put, zA, zB, zC]
            refine takeA (i := 6) (v := .int .i64 x) 98 rfl rfl (by kernel_rfl) (by kernel_rfl) (by kernel_rfl) (by kernel_rfl) (fun _ _ _ h => h) (Or.inl ⟨by rfl, by intro W hSw; go_simp⟩) hHeld ?_
            simp only [Act.put, zA, zB, zC]
            refine takeA (i := 7) (v := .int .i64 y) 99 rfl rfl (by kernel_rfl) (by kernel_rfl) (by kernel_rfl) (by kernel_rfl) (fun _ _ _ h => h) (Or.inl ⟨by rfl, by intro W hSw; go_simp⟩) hHeld ?_
            simp only [Act.put, zA, zB, zC]
            refine takeA (i := 4) (v := .pointer (some ⟨sb, so + s, none⟩)) 96 rfl rfl (by kernel_rfl) (by kernel_rfl) (by kernel_rfl) (by kernel_rfl) (fun _ _ _ h => h) (Or.inl ⟨by rfl, by intro W hSw; go_simp⟩) hHeld ?_
            simp only [Act.put, zA, zB, zC]
            refine takeA (i := 5) (v := .slice (some ⟨rb, ro, none⟩) m.facts.length rc) 97 rfl rfl (by kernel_rfl) (by kernel_rfl) (by kernel_rfl) (by kernel_rfl) (fun _ _ _ h => h) (Or.inl ⟨by rfl, by intro W hSw; have c1 := HRSW.out _ hSw; go_simp⟩) hHeld ?_
            simp only [Act.put, zA, zB, zC]
            generalize (World.drew _) = wd at hHeld ⊢
            refine onlyL (i := 8) (by kernel_rfl) rfl (by rfl) (fun K hK => ?_)
            go_simp
            refine (KX1.out _ (B3.out.trans (hHeld.mono B3.out.size))).mono ?_
            rintro e w4 ⟨rfl, hb4⟩
            have t4 : Below wr.heap.size wr w4 := hHeld.trans (hb4.mono hHeld.size)
            have X4 := hid (X3.out.below t4)
            have B4 := hid (B3.out.trans (t4.mono B3.out.size))
            clear hb4 hHeld
            refine hK.out _ _ (fun _ => t4) (fun _ => ?_)
            clear hK K
            have hHeld := t4
            try simp only [Act.put, zA, zB, zC]
            refine takeA (i := 9) (v := .int .i64 (-1)) 13 rfl rfl (by kernel_rfl) (by kernel_rfl) (by kernel_rfl) (by kernel_rfl) (fun _ _ _ h => h) (Or.inl ⟨by rfl, by intro W hSw; go_simp⟩) hHeld ?_
            simp only [Act.put, zA, zB, zC]
            clear hHeld t4
            refine doneL (by kernel_rfl) ?_ _
            try simp only [Act.put, zA, zB, zC]
            clear HRG HRSW
            go_wp2
            have HRG := hid (fun W (h : Below w4.heap.size w4 W) => (X4.out.below h).range)
            have HRSW := hid (fun W (h : Below w4.heap.size w4 W) => (HRS.out W (B4.out.trans (h.mono B4.out.size))).1)
            refine regionL (fun U => Below w4.heap.size w4 U) [] (by kernel_rfl) (Below.refl _ _).drew (fun hHeld => ?_)
            refine takeA (i := 0) (v := (.agg #[.slice (some ⟨fb, fo, none⟩) m.facts.length fc, .slice (some ⟨bb, bo, none⟩) m.blocks.length bc, .int .i64 m.actual])) 117 rfl rfl (by kernel_rfl) (by kernel_rfl) (by kernel_rfl) (by kernel_rfl) (fun _ _ _ h => h) (yieldsIf_load_mid (by rfl) 30 _ rfl w.heap.size 0 rfl [.slice (some ⟨fb, fo, none⟩) m.facts.length fc, .slice (some ⟨bb, bo, none⟩) m.blocks.length bc, .int .i64 m.actual] _ HRG.out Tryz.underlying30 rfl Tryz.sizeMd) hHeld ?_
            simp only [Act.put, zA, zB, zC]
            refine takeA (i := 1) (v := .int .i64 q) 118 rfl rfl (by kernel_rfl) (by kernel_rfl) (by kernel_rfl) (by kernel_rfl) (fun _ _ _ h => h) (Or.inl ⟨by rfl, by intro W hSw; go_simp⟩) hHeld ?_
            simp only [Act.put, zA, zB, zC]
            refine takeA (i := 2) (v := (.slice (some ⟨sb, so, none⟩) (stab m + 1) sc)) 119 rfl rfl (by kernel_rfl) (by kernel_rfl) (by kernel_rfl) (by kernel_rfl) (fun _ _ _ h => h) (Or.inl ⟨by rfl, by intro W hSw; go_simp⟩) hHeld ?_
            simp only [Act.put, zA, zB, zC]
            refine takeA (i := 3) (v := .int .i64 s) 120 rfl rfl (by kernel_rfl) (by kernel_rfl) (by kernel_rfl) (by kernel_rfl) (fun _ _ _ h => h) (Or.inl ⟨by rfl, by intro W hSw; go_simp⟩) hHeld ?_
            simp only [Act.put, zA, zB, zC]
            refine takeA (i := 6) (v := .int .i64 y) 123 rfl rfl (by kernel_rfl) (by kernel_rfl) (by kernel_rfl) (by kernel_rfl) (fun _ _ _ h => h) (Or.inl ⟨by rfl, by intro W hSw; go_simp⟩) hHeld ?_
            simp only [Act.put, zA, zB, zC]
            refine takeA (i := 7) (v := .int .i64 x) 124 rfl rfl (by kernel_rfl) (by kernel_rfl) (by kernel_rfl) (by kernel_rfl) (fun _ _ _ h => h) (Or.inl ⟨by rfl, by intro W hSw; go_simp⟩) hHeld ?_
            simp only [Act.put, zA, zB, zC]
            refine takeA (i := 4) (v := .pointer (some ⟨sb, so + s, none⟩)) 121 rfl rfl (by kernel_rfl) (by kernel_rfl) (by kernel_rfl) (by kernel_rfl) (fun _ _ _ h => h) (Or.inl ⟨by rfl, by intro W hSw; go_simp⟩) hHeld ?_
            simp only [Act.put, zA, zB, zC]
            refine takeA (i := 5) (v := .slice (some ⟨rb, ro, none⟩) m.facts.length rc) 122 rfl rfl (by kernel_rfl) (by kernel_rfl) (by kernel_rfl) (by kernel_rfl) (fun _ _ _ h => h) (Or.inl ⟨by rfl, by intro W hSw; have c1 := HRSW.out _ hSw; go_simp⟩) hHeld ?_
            simp only [Act.put, zA, zB, zC]
            generalize (World.drew _) = wd at hHeld ⊢
            refine onlyL (i := 8) (by kernel_rfl) rfl (by rfl) (fun K hK => ?_)
            go_simp
            refine (KX2.out _ (B4.out.trans (hHeld.mono B4.out.size))).mono ?_
            rintro e w5 ⟨rfl, hb5⟩
            have t5 : Below w4.heap.size w4 w5 := hHeld.trans (hb5.mono hHeld.size)
            have X5 := hid (X4.out.below t5)
            have B5 := hid (B4.out.trans (t5.mono B4.out.size))
            clear hb5 hHeld
            refine hK.out _ _ (fun _ => t5) (fun _ => ?_)
            clear hK K
            have hHeld := t5
            try simp only [Act.put, zA, zB, zC]
            refine takeA (i := 9) (v := .int .i64 z) 13 rfl rfl (by kernel_rfl) (by kernel_rfl) (by kernel_rfl) (by kernel_rfl) (fun _ _ _ h => h) (Or.inl ⟨by rfl, by intro W hSw; go_simp⟩) hHeld ?_
            simp only [Act.put, zA, zB, zC]
            clear hHeld t5
            refine doneL (by kernel_rfl) ?_ _
            try simp only [Act.put, zA, zB, zC]
            clear HRG HRSW
            go_wp2
            have zl0 : (⟨#[75]⟩ : ByteArray).size ≤ 2 := by decide
            have zl1 : (⟨#[45]⟩ : ByteArray).size = 1 := rfl
            have hadd0 := fun W => run_string_add_sum (P := Tryz.prog) W ⟨#[75]⟩ sk (by omega)
            have hadd1 := fun W => run_string_add_sum (P := Tryz.prog) W (⟨#[75]⟩ ++ sk) ⟨#[45]⟩ (by simp only [ByteArray.size_append]; omega)
            have hadd2 := fun W => run_string_add_sum (P := Tryz.prog) W (⟨#[75]⟩ ++ sk ++ ⟨#[45]⟩) sg (by simp only [ByteArray.size_append]; omega)
            clear zl0 zl1 zk zg
            have HRG := hid (fun W (h : Below w5.heap.size w5 W) => (X5.out.below h).range)
            have HRSW := hid (fun W (h : Below w5.heap.size w5 W) => (HRS.out W (B5.out.trans (h.mono B5.out.size))).1)
            refine regionL (fun U => Below w5.heap.size w5 U) [] (by kernel_rfl) (Below.refl _ _).drew (fun hHeld => ?_)
            refine takeA (i := 0) (v := .int .i64 q) 128 rfl rfl (by kernel_rfl) (by kernel_rfl) (by kernel_rfl) (by kernel_rfl) (fun _ _ _ h => h) (Or.inl ⟨by rfl, by intro W hSw; go_simp⟩) hHeld ?_
            simp only [Act.put, zA, zB, zC]
            refine takeA (i := 4) (v := (.agg #[.slice (some ⟨fb, fo, none⟩) m.facts.length fc, .slice (some ⟨bb, bo, none⟩) m.blocks.length bc, .int .i64 m.actual])) 132 rfl rfl (by kernel_rfl) (by kernel_rfl) (by kernel_rfl) (by kernel_rfl) (fun _ _ _ h => h) (yieldsIf_load_mid (by rfl) 30 _ rfl w.heap.size 0 rfl [.slice (some ⟨fb, fo, none⟩) m.facts.length fc, .slice (some ⟨bb, bo, none⟩) m.blocks.length bc, .int .i64 m.actual] _ HRG.out Tryz.underlying30 rfl Tryz.sizeMd) hHeld ?_
            simp only [Act.put, zA, zB, zC]
            refine takeA (i := 5) (v := (.slice (some ⟨sb, so, none⟩) (stab m + 1) sc)) 133 rfl rfl (by kernel_rfl) (by kernel_rfl) (by kernel_rfl) (by kernel_rfl) (fun _ _ _ h => h) (Or.inl ⟨by rfl, by intro W hSw; go_simp⟩) hHeld ?_
            simp only [Act.put, zA, zB, zC]
            refine takeA (i := 6) (v := .int .i64 z) 134 rfl rfl (by kernel_rfl) (by kernel_rfl) (by kernel_rfl) (by kernel_rfl) (fun _ _ _ h => h) (Or.inl ⟨by rfl, by intro W hSw; go_simp⟩) hHeld ?_
            simp only [Act.put, zA, zB, zC]
            refine takeA (i := 7) (v := (.agg #[.slice (some ⟨fb, fo, none⟩) m.facts.length fc, .slice (some ⟨bb, bo, none⟩) m.blocks.length bc, .int .i64 m.actual])) 135 rfl rfl (by kernel_rfl) (by kernel_rfl) (by kernel_rfl) (by kernel_rfl) (fun _ _ _ h => h) (yieldsIf_load_mid (by rfl) 30 _ rfl w.heap.size 0 rfl [.slice (some ⟨fb, fo, none⟩) m.facts.length fc, .slice (some ⟨bb, bo, none⟩) m.blocks.length bc, .int .i64 m.actual] _ HRG.out Tryz.underlying30 rfl Tryz.sizeMd) hHeld ?_
            simp only [Act.put, zA, zB, zC]
            refine takeA (i := 8) (v := .int .i64 q) 136 rfl rfl (by kernel_rfl) (by kernel_rfl) (by kernel_rfl) (by kernel_rfl) (fun _ _ _ h => h) (Or.inl ⟨by rfl, by intro W hSw; go_simp⟩) hHeld ?_
            simp only [Act.put, zA, zB, zC]
            refine takeA (i := 9) (v := .int .i64 x) 137 rfl rfl (by kernel_rfl) (by kernel_rfl) (by kernel_rfl) (by kernel_rfl) (fun _ _ _ h => h) (Or.inl ⟨by rfl, by intro W hSw; go_simp⟩) hHeld ?_
            simp only [Act.put, zA, zB, zC]
            refine takeA (i := 11) (v := .int .i64 s) 139 rfl rfl (by kernel_rfl) (by kernel_rfl) (by kernel_rfl) (by kernel_rfl) (fun _ _ _ h => h) (Or.inl ⟨by rfl, by intro W hSw; go_simp⟩) hHeld ?_
            simp only [Act.put, zA, zB, zC]
            generalize (World.drew _) = wd at hHeld ⊢
            refine onlyL (i := 1) (by kernel_rfl) rfl (by rfl) (fun K hK => ?_)
            go_simp
            refine (KF.out _).mono ?_
            rintro e w11 ⟨rfl, hb11⟩
            have t11 : Below w5.heap.size w5 w11 := hHeld.trans (hb11.mono hHeld.size)
            clear hb11 hHeld
            refine hK.out _ _ (fun _ => t11) (fun _ => ?_)
            clear hK K
            have hHeld := t11
            try simp only [Act.put, zA, zB, zC]
            refine takeA (i := 2) (v := .string (⟨#[75]⟩ ++ sk)) 130 rfl rfl (by kernel_rfl) (by kernel_rfl) (by kernel_rfl) (by kernel_rfl) (fun _ _ _ h => h) (Or.inl ⟨by rfl, by intro W hSw; go_simp⟩) hHeld ?_
            simp only [Act.put, zA, zB, zC]
            refine takeA (i := 3) (v := .string (⟨#[75]⟩ ++ sk ++ ⟨#[45]⟩)) 131 rfl rfl (by kernel_rfl) (by kernel_rfl) (by kernel_rfl) (by kernel_rfl) (fun _ _ _ h => h) (Or.inl ⟨by rfl, by intro W hSw; go_simp⟩) hHeld ?_
            simp only [Act.put, zA, zB, zC]
            clear hHeld
            refine onlyL (i := 10) (by kernel_rfl) rfl (by rfl) (fun K hK => ?_)
            go_simp
            refine (KB.out x _ (B5.out.trans (t11.mono B5.out.size)) HXN.out).mono ?_
            rintro e w12 ⟨v12, rfl, ho12, hb12⟩
            have t12 : Below w5.heap.size w5 w12 := t11.trans (hb12.mono t11.size)
            have R12 := hid ho12.read
            obtain ⟨va, vc, hv⟩ := ho12.read.form
            subst hv
            clear hb12 ho12
            refine hK.out _ _ (fun _ => t12) (fun _ => ?_)
            clear hK K
            try simp only [Act.put, zA, zB, zC]
            refine onlyL (i := 12) (by kernel_rfl) rfl (by rfl) (fun K hK => ?_)
            go_simp
            refine (KA.out _ _ _ _ (B5.out.trans (t12.mono B5.out.size)) R12.out).mono ?_
            rintro e w13 ⟨rfl, hb13⟩
            have t13 : Below w5.heap.size w5 w13 := t12.trans (hb13.mono t12.size)
            clear hb13
            refine hK.out _ _ (fun _ => t13) (fun _ => ?_)
            clear hK K
            have hHeld := t13
            try simp only [Act.put, zA, zB, zC]
            refine takeA (i := 13) (v := .string (⟨#[75]⟩ ++ sk ++ ⟨#[45]⟩ ++ sg)) 141 rfl rfl (by kernel_rfl) (by kernel_rfl) (by kernel_rfl) (by kernel_rfl) (fun _ _ _ h => h) (Or.inl ⟨by rfl, by intro W hSw; go_simp⟩) hHeld ?_
            simp only [Act.put, zA, zB, zC]
            refine takeA (i := 14) (v := .string (⟨#[75]⟩ ++ sk ++ ⟨#[45]⟩ ++ sg)) 8 rfl rfl (by kernel_rfl) (by kernel_rfl) (by kernel_rfl) (by kernel_rfl) (fun _ _ _ h => h) (Or.inl ⟨by rfl, by intro W hSw; go_simp⟩) hHeld ?_
            simp only [Act.put, zA, zB, zC]
            clear hHeld
            refine doneL (by kernel_rfl) ?_ _
            try simp only [Act.put, zA, zB, zC]
            go_wp2
            go_ret
            exact ⟨ret_str HT.out, B5.out.trans (t13.mono B5.out.size)⟩
theorem stab_le {m : Md} (hn : m.facts.length ≤ 16) : stab m ≤ 16 := by
  unfold stab
  cases hf : (List.range m.facts.length).find? fun j => decide (clsAt m (j + 1) = clsAt m j) with
  | none => simp
  | some j => have := List.mem_range.1 (List.mem_of_find?_eq_some hf); simp; omega
theorem same_iff {m : Md} {v w : Nat} (hv : v < m.facts.length) (hw : w < m.facts.length) (hl : sameAt m (stab m) v w = false) (h0 : sameAt m 0 v w = true) : ∀ k, k ≤ stab m → ((clsAt m k).getD v 0 = (clsAt m k).getD w 0 ↔ k ≤ stepOf m v w) := fun k _ => by
  obtain ⟨t1, t2, t3⟩ := stepOf_at hl h0
  constructor
  · intro h
    rcases Nat.lt_or_ge (stepOf m v w) k with h1 | h1
    · have h2 : sameAt m k v w = true := by unfold sameAt; rw [beq_iff_eq]; exact h
      have := sameAt_down hv hw (show stepOf m v w + 1 ≤ k by omega) h2
      rw [t3] at this; cases this
    · exact h1
  · intro h
    have := sameAt_down hv hw h t1
    unfold sameAt at this
    exact beq_iff_eq.1 this
theorem specDiffer_any (lo hi lo2 hi2 : Nat) (v sv : Value) (m : Md) (hm : mdOk m = true) (B0 : World) (hr : Mv lo hi B0 v m) (hS : Ivv lo2 hi2 B0 sv (stepsL m (stab m + 1))) : ∀ (f x y : Nat) (w : World), f ≤ 1000 → x < m.facts.length → y < m.facts.length → sameAt m (stab m) x y = false →
    (sameAt m 0 x y = true → stepOf m x y + 1 < f) → 0 < f → Below B0.heap.size B0 w →
    Calls Tryz.prog 27 #[v, sv, .int .i64 x, .int .i64 y] w fun e w' => e = .returned (.string ⟨(difS m f x y).toArray⟩) ∧ Below w.heap.size w w'
  | 0, _, _, _, _, _, _, _, _, h, _ => absurd h (by decide)
  | f + 1, x, y, w, hf9, hx, hy, hl, hs, _, hB => by
    obtain ⟨p1, p2, p3, p4, p5, p6, -⟩ := mdOk_parts hm
    unfold difS
    cases hb : firstBit (m.facts.getD x 0) (m.facts.getD y 0) with
    | some k => exact differFact_any lo hi v sv m x y k w (hr.keeps (Keeps.of_all hB)) hm hx hy hb
    | none =>
      simp only
      have hfe := firstBit_none (p6 x hx) (p6 y hy) hb
      have h0 := (sameAt_0 hx hy).2 hfe
      obtain ⟨s1, s2, s3⟩ := stepOf_at hl h0
      have hfu := hs h0
      have hiff := same_iff hx hy hl h0
      have hcl' : ∀ u, u < m.facts.length → 0 ≤ (clsAt m (stepOf m x y)).getD u 0 := fun u hu => (clsAt_bd hu).1
      have htog : tog m (clsAt m (stepOf m x y)) x y = false := by
        cases h : tog m (clsAt m (stepOf m x y)) x y with
        | false => rfl
        | true =>
          have := (finer_same hx hy).2 h
          unfold sameAt at s3
          rw [show clsAt m (stepOf m x y + 1) = finer m (clsAt m (stepOf m x y)) from rfl, this] at s3
          simp at s3
      have hse : (clsAt m (stepOf m x y)).getD x 0 = (clsAt m (stepOf m x y)).getD y 0 := by unfold sameAt at s1; exact beq_iff_eq.1 s1
      obtain ⟨k, b, z, hp, hk, hA, hBf⟩ := pickA_some hcl' hse htog
      rw [hp]
      obtain ⟨e1, e2⟩ := pick_parts hp
      have hrec : ∀ u v', u < m.facts.length → v' < m.facts.length → (clsAt m (stepOf m x y)).getD u 0 ≠ (clsAt m (stepOf m x y)).getD v' 0 → ∀ W, Below B0.heap.size B0 W →
          Calls Tryz.prog 27 #[v, sv, .int .i64 u, .int .i64 v'] W fun e w' => e = .returned (.string ⟨(difS m f u v').toArray⟩) ∧ Below W.heap.size W w' := by
        intro u v' hu hv hne W hW
        have huv : sameAt m (stepOf m x y) u v' = false := by
          cases h : sameAt m (stepOf m x y) u v' with
          | false => rfl
          | true => unfold sameAt at h; exact absurd (beq_iff_eq.1 h) hne
        have hup : ∀ j, stepOf m x y ≤ j → sameAt m j u v' = false := fun j hj => by
          cases h : sameAt m j u v' with
          | false => rfl
          | true => have := sameAt_down hu hv hj h; rw [huv] at this; cases this
        refine specDiffer_any lo hi lo2 hi2 v sv m hm B0 hr hS f u v' W (by omega) hu hv (hup _ (by omega)) (fun h0' => ?_) (by omega) hW
        obtain ⟨t1, t2, t3⟩ := stepOf_at (hup _ (by omega)) h0'
        rcases Nat.lt_or_ge (stepOf m u v') (stepOf m x y) with h | h
        · omega
        · rw [hup _ h] at t1; cases t1
      have hpos : ∀ u, 0 < (difS m f z u).length ∧ (difS m f z u).length ≤ 100000 := fun u => ⟨difS_pos m f z u, by have := difS_len m f z u; omega⟩
      have hagl : ∀ u, (agS (difS m f z) (blkD m k u) []).length ≤ 200000 := fun u => by have := agS_len (rec := difS m f z) (R := 100000) (fun y => (hpos y).2) (blkD m k u) [] (by simp); omega
      have hall : ∀ u, u < m.facts.length → z < m.facts.length → (∀ v' ∈ blkD m k u, (clsAt m (stepOf m x y)).getD z 0 ≠ (clsAt m (stepOf m x y)).getD v' 0) → ∀ W lo3 hi3 vv, Below w.heap.size w W → Iv lo3 hi3 W vv (nums (blkD m k u)) →
          Calls Tryz.prog 59 #[v, sv, .int .i64 z, vv, .int .i64 (stepOf m x y : Nat)] W fun e w' => e = .returned (.string ⟨(agS (difS m f z) (blkD m k u) []).toArray⟩) ∧ Below W.heap.size W w' := by
        intro u hu hz hne W lo3 hi3 vv hW hv
        have hBW := hB.trans (hW.mono hB.size)
        refine specAgainst_any lo hi lo2 hi2 lo3 hi3 v sv vv m z (stepOf m x y) (blkD m k u) (difS m f z) W (hr.keeps (Keeps.of_all hBW)) (hS.keeps (Keeps.of_all hBW)) hv (blkD_pos hu) (Nat.le_trans (lst_len _ _) p2) (by omega) (stab_le p2) hz (fun v' hv' => ⟨(mem_blkD.1 hv').1, hne v' hv'⟩) (fun v' _ => hpos v') (fun v' hv' W2 hW2 => hrec z v' hz (mem_blkD.1 hv').1 (hne v' hv') W2 (hBW.trans (hW2.mono hBW.size)))
      cases b with
      | true =>
        obtain ⟨q1, q2⟩ := hA rfl
        exact differStep_any lo hi lo2 hi2 v sv m x y k (stepOf m x y) z true _ w (hr.keeps (Keeps.of_all hB)) hm (hS.keeps (Keeps.of_all hB)) hx hy hfe (by omega) (stab_le p2) hiff hk e1 e2 (hagl y) (hall y hy (mem_blkD.1 q1).1 q2)
      | false =>
        obtain ⟨q1, q2⟩ := hBf rfl
        exact differStep_any lo hi lo2 hi2 v sv m x y k (stepOf m x y) z false _ w (hr.keeps (Keeps.of_all hB)) hm (hS.keeps (Keeps.of_all hB)) hx hy hfe (by omega) (stab_le p2) hiff hk e1 e2 (hagl x) (hall x hx (mem_blkD.1 q1).1 q2)
theorem specDiffOf_any (lo hi : Nat) (v : Value) (m : Md) (a b : Int) (w : World) (hr : Mv lo hi w v m) :
    Calls Tryz.prog 6 #[v, .int .i64 a, .int .i64 b] w (Ans w (diffR m a b)) := by
  have KO := hid (fun W (h : Below w.heap.size w W) => specOk_any lo hi v m W (hr.keeps (Keeps.of_all h)))
  rw [specOk_mdOk] at KO
  have KWa := hid (fun W (h : Below w.heap.size w W) => specWorld_any lo hi v m a W (hr.keeps (Keeps.of_all h)))
  have KWb := hid (fun W (h : Below w.heap.size w W) => specWorld_any lo hi v m b W (hr.keeps (Keeps.of_all h)))
  obtain ⟨R, hR⟩ : ∃ R, R = diffR m a b := ⟨_, rfl⟩
  rw [← hR]
  have HR := hid hR
  have HMV := hid hr
  clear hR
  obtain ⟨fv, bv, rfl, hf, hbb⟩ := id hr
  obtain ⟨fa, fc, rfl⟩ := hf.form
  clear hf hbb hr
  cases hok : mdOk m with
  | false =>
    have HN : Hid (R = none) := hid (HR.out.trans (by unfold diffR; rw [hok]; rfl))
    rw [hok] at KO
    clear hok
    go_enter Tryz.func6, Tryz.ntmps6
    go_wp2_with fail
    refine (KO.out _ (by go_grown)).mono ?_
    rintro e w1 ⟨rfl, hb1⟩
    have X1 := hid (Mcell.below (b := w.heap.size) (Mcell.new (w := w) (T := 30) (fv := .slice fa m.facts.length fc) (bv := bv) (n := m.actual) rfl) hb1)
    have B1 : Hid (Below w.heap.size w w1) := hid (Below.trans (by go_grown) (hb1.mono (by simp)))
    clear hb1
    obtain ⟨xc0, xc1, xc2, -⟩ := X1.out
    go_wp2
    go_returns
    rw [HN.out]
    exact Ans.none_of B1.out
  | true =>
    rw [hok] at KO
    cases ha : inB a m.facts.length with
    | false =>
      have HN : Hid (R = none) := hid (HR.out.trans (by unfold diffR; rw [ha]; simp))
      rw [ha] at KWa
      clear ha hok
      go_enter Tryz.func6, Tryz.ntmps6
      go_wp2_with fail
      refine (KO.out _ (by go_grown)).mono ?_
      rintro e w1 ⟨rfl, hb1⟩
      have X1 := hid (Mcell.below (b := w.heap.size) (Mcell.new (w := w) (T := 30) (fv := .slice fa m.facts.length fc) (bv := bv) (n := m.actual) rfl) hb1)
      have B1 : Hid (Below w.heap.size w w1) := hid (Below.trans (by go_grown) (hb1.mono (by simp)))
      clear hb1
      obtain ⟨xc0, xc1, xc2, -⟩ := X1.out
      go_wp2_with fail
      clear xc0 xc1 xc2
      refine (KWa.out _ B1.out).mono ?_
      rintro e w2 ⟨rfl, hb2⟩
      have X2 := hid (X1.out.below hb2)
      have B2 := hid (B1.out.trans (hb2.mono B1.out.size))
      clear hb2
      obtain ⟨xc0, xc1, xc2, -⟩ := X2.out
      go_wp2
      go_returns
      rw [HN.out]
      exact Ans.none_of B2.out
    | true =>
      rw [ha] at KWa
      cases hb : inB b m.facts.length with
      | false =>
        have HN : Hid (R = none) := hid (HR.out.trans (by unfold diffR; rw [hb]; simp))
        rw [hb] at KWb
        clear ha hb hok
        go_enter Tryz.func6, Tryz.ntmps6
        go_wp2_with fail
        refine (KO.out _ (by go_grown)).mono ?_
        rintro e w1 ⟨rfl, hb1⟩
        have X1 := hid (Mcell.below (b := w.heap.size) (Mcell.new (w := w) (T := 30) (fv := .slice fa m.facts.length fc) (bv := bv) (n := m.actual) rfl) hb1)
        have B1 : Hid (Below w.heap.size w w1) := hid (Below.trans (by go_grown) (hb1.mono (by simp)))
        clear hb1
        obtain ⟨xc0, xc1, xc2, -⟩ := X1.out
        go_wp2_with fail
        clear xc0 xc1 xc2
        refine (KWa.out _ B1.out).mono ?_
        rintro e w2 ⟨rfl, hb2⟩
        have X2 := hid (X1.out.below hb2)
        have B2 := hid (B1.out.trans (hb2.mono B1.out.size))
        clear hb2
        obtain ⟨xc0, xc1, xc2, -⟩ := X2.out
        go_wp2_with fail
        clear xc0 xc1 xc2
        refine (KWb.out _ B2.out).mono ?_
        rintro e w3 ⟨rfl, hb3⟩
        have X3 := hid (X2.out.below hb3)
        have B3 := hid (B2.out.trans (hb3.mono B2.out.size))
        clear hb3
        obtain ⟨xc0, xc1, xc2, -⟩ := X3.out
        go_wp2
        go_returns
        rw [HN.out]
        exact Ans.none_of B3.out
      | true =>
        rw [hb] at KWb
        have hn0 : (0 : Int) ≤ (m.facts.length : Int) := Int.natCast_nonneg _
        by_cases h8 : 8 < m.facts.length
        · have HN : Hid (R = none) := hid (HR.out.trans (by unfold diffR; rw [decide_eq_false (show ¬ m.facts.length ≤ 8 by omega)]; simp))
          have h8' : (8 : Int) < (m.facts.length : Int) := by omega
          clear ha hb hok h8
          go_enter Tryz.func6, Tryz.ntmps6
          go_wp2_with fail
          refine (KO.out _ (by go_grown)).mono ?_
          rintro e w1 ⟨rfl, hb1⟩
          have X1 := hid (Mcell.below (b := w.heap.size) (Mcell.new (w := w) (T := 30) (fv := .slice fa m.facts.length fc) (bv := bv) (n := m.actual) rfl) hb1)
          have B1 : Hid (Below w.heap.size w w1) := hid (Below.trans (by go_grown) (hb1.mono (by simp)))
          clear hb1
          obtain ⟨xc0, xc1, xc2, -⟩ := X1.out
          go_wp2_with fail
          clear xc0 xc1 xc2
          refine (KWa.out _ B1.out).mono ?_
          rintro e w2 ⟨rfl, hb2⟩
          have X2 := hid (X1.out.below hb2)
          have B2 := hid (B1.out.trans (hb2.mono B1.out.size))
          clear hb2
          obtain ⟨xc0, xc1, xc2, -⟩ := X2.out
          go_wp2_with fail
          clear xc0 xc1 xc2
          refine (KWb.out _ B2.out).mono ?_
          rintro e w3 ⟨rfl, hb3⟩
          have X3 := hid (X2.out.below hb3)
          have B3 := hid (B2.out.trans (hb3.mono B2.out.size))
          clear hb3
          obtain ⟨xc0, xc1, xc2, -⟩ := X3.out
          go_wp2
          go_returns
          rw [HN.out]
          exact Ans.none_of B3.out
        · have h8' : decide ((8 : Int) < (m.facts.length : Int)) = false := decide_eq_false (by omega)
          have b1 : 0 ≤ a ∧ a < m.facts.length := by unfold inB at ha; simpa using ha
          have b2 : 0 ≤ b ∧ b < m.facts.length := by unfold inB at hb; simpa using hb
          obtain ⟨x, rfl⟩ : ∃ x : Nat, a = x := ⟨a.toNat, by omega⟩
          obtain ⟨y, rfl⟩ : ∃ y : Nat, b = y := ⟨b.toNat, by omega⟩
          have hxn : x < m.facts.length := by omega
          have hyn : y < m.facts.length := by omega
          obtain ⟨b10, b11⟩ := b1
          obtain ⟨b20, b21⟩ := b2
          have hp2 := (mdOk_parts hok).2.1
          have hst := stab_le hp2
          have KS := hid (fun W (h : Below w.heap.size w W) => specSteps_any lo hi _ m W (HMV.out.keeps (Keeps.of_all h)) hok)
          have KD := hid (fun lo2 hi2 sv W (h : Below w.heap.size w W) (hS : Ivv lo2 hi2 W sv (stepsL m (stab m + 1))) hl => specDiffer_any lo hi lo2 hi2 _ sv m hok W (HMV.out.keeps (Keeps.of_all h)) hS (stab m + 2) x y W (by omega) hxn hyn hl (fun h0 => by have := (stepOf_at hl h0).2.1; omega) (by omega) (Below.refl _ _))
          have HD : Hid (R = if (lastC m).getD x 0 = (lastC m).getD y 0 then none else parsed (difS m (stab m + 2) x y)) := hid (by
            rw [HR.out]; unfold diffR
            rw [hok, ha, hb, decide_eq_true (show m.facts.length ≤ 8 by omega), Int.toNat_natCast, Int.toNat_natCast, (difS_cut (stab m + 2) x y hxn hyn).parsed]
            by_cases e : (lastC m).getD x 0 = (lastC m).getD y 0
            · rw [if_pos e, e]; simp
            · rw [if_neg e, beq_eq_false_iff_ne.2 e]; rfl)
          have KP := hid (fun W => parse_str (difS m (stab m + 2) x y) W)
          have HXN := hid hxn
          have HYN := hid hyn
          have hs0 : (0 : Int) ≤ (stab m : Int) := Int.natCast_nonneg _
          have hs1 : (stab m : Int) + 1 - 1 = (stab m : Int) := by omega
          have HCL := hid (clsAt_len m)
          clear ha hb h8 hok hxn hyn HR HMV
          by_cases hsame : (lastC m).getD x 0 = (lastC m).getD y 0
          · have HN := hid (HD.out.trans (if_pos hsame))
            go_enter Tryz.func6, Tryz.ntmps6
            go_wp2_with fail
            refine (KO.out _ (by go_grown)).mono ?_
            rintro e w1 ⟨rfl, hb1⟩
            have X1 := hid (Mcell.below (b := w.heap.size) (Mcell.new (w := w) (T := 30) (fv := .slice fa m.facts.length fc) (bv := bv) (n := m.actual) rfl) hb1)
            have B1 : Hid (Below w.heap.size w w1) := hid (Below.trans (by go_grown) (hb1.mono (by simp)))
            clear hb1
            obtain ⟨xc0, xc1, xc2, -⟩ := X1.out
            go_wp2_with fail
            clear xc0 xc1 xc2
            refine (KWa.out _ B1.out).mono ?_
            rintro e w2 ⟨rfl, hb2⟩
            have X2 := hid (X1.out.below hb2)
            have B2 := hid (B1.out.trans (hb2.mono B1.out.size))
            clear hb2
            obtain ⟨xc0, xc1, xc2, -⟩ := X2.out
            go_wp2_with fail
            clear xc0 xc1 xc2
            refine (KWb.out _ B2.out).mono ?_
            rintro e w3 ⟨rfl, hb3⟩
            have X3 := hid (X2.out.below hb3)
            have B3 := hid (B2.out.trans (hb3.mono B2.out.size))
            clear hb3
            obtain ⟨xc0, xc1, xc2, -⟩ := X3.out
            go_wp2_with fail
            clear xc0 xc1 xc2
            refine (KS.out _ B3.out).mono ?_
            rintro e w4 ⟨v4, vs, rfl, ho4, hb4⟩
            have IV4 := hid ho4.read
            obtain ⟨g, cap, ra, rc, rfl, hg1, hg2, hg3, hg4, hru, hri, hrc⟩ := ioo_row ho4 (k := stab m) (by rw [stepsL_len]; omega)
            rw [stepsL_len] at hg3 ho4 IV4 ⊢
            rw [stepsL_get (by omega)] at hru hri
            rw [HCL.out] at hru
            rw [hru] at hrc hri
            have c1 := hrc w4 (Below.refl _ _)
            have HRI := hid hri
            have X4 := hid (X3.out.below hb4)
            have B4 := hid (B3.out.trans (hb4.mono B3.out.size))
            unfold maxLen at hg4
            clear hru hri hrc ho4 hb4
            obtain ⟨xc0, xc1, xc2, -⟩ := X4.out
            obtain ⟨rb, ro, rc', hrv, r1, r2, -, r4⟩ := iv_open HRI.out (by rw [HCL.out]; omega)
            rw [HCL.out] at hrv r1 r4
            obtain ⟨rfl, rfl⟩ : ra = some ⟨rb, ro, none⟩ ∧ rc = rc' := by cases hrv; exact ⟨rfl, rfl⟩
            unfold maxLen at r2
            have rx := r4 w4 (Below.refl _ _) x HXN.out
            have ry := r4 w4 (Below.refl _ _) y HYN.out
            have hla : (clsAt m (stab m)).getD x 0 = (lastC m).getD x 0 := rfl
            have hlb : (clsAt m (stab m)).getD y 0 = (lastC m).getD y 0 := rfl
            rw [hla] at rx
            rw [hlb] at ry
            clear hrv r4 hla hlb
            rw [← hsame] at ry
            clear hsame
            generalize (lastC m).getD x 0 = z1 at *
            go_wp2
            go_quiet (fail)
            go_wp2
            go_returns
            rw [HN.out]
            exact Ans.none_of (below_drewN' B4.out _)
          · have HN := hid (HD.out.trans (if_neg hsame))
            have hl : sameAt m (stab m) x y = false := by unfold sameAt; exact beq_eq_false_iff_ne.2 hsame
            have HL := hid hl
            rw [← HN.out] at KP
            unfold Ans at KP
            clear hl
            go_enter Tryz.func6, Tryz.ntmps6
            go_wp2_with fail
            refine (KO.out _ (by go_grown)).mono ?_
            rintro e w1 ⟨rfl, hb1⟩
            have X1 := hid (Mcell.below (b := w.heap.size) (Mcell.new (w := w) (T := 30) (fv := .slice fa m.facts.length fc) (bv := bv) (n := m.actual) rfl) hb1)
            have B1 : Hid (Below w.heap.size w w1) := hid (Below.trans (by go_grown) (hb1.mono (by simp)))
            clear hb1
            obtain ⟨xc0, xc1, xc2, -⟩ := X1.out
            go_wp2_with fail
            clear xc0 xc1 xc2
            refine (KWa.out _ B1.out).mono ?_
            rintro e w2 ⟨rfl, hb2⟩
            have X2 := hid (X1.out.below hb2)
            have B2 := hid (B1.out.trans (hb2.mono B1.out.size))
            clear hb2
            obtain ⟨xc0, xc1, xc2, -⟩ := X2.out
            go_wp2_with fail
            clear xc0 xc1 xc2
            refine (KWb.out _ B2.out).mono ?_
            rintro e w3 ⟨rfl, hb3⟩
            have X3 := hid (X2.out.below hb3)
            have B3 := hid (B2.out.trans (hb3.mono B2.out.size))
            clear hb3
            obtain ⟨xc0, xc1, xc2, -⟩ := X3.out
            go_wp2_with fail
            clear xc0 xc1 xc2
            refine (KS.out _ B3.out).mono ?_
            rintro e w4 ⟨v4, vs, rfl, ho4, hb4⟩
            have IV4 := hid ho4.read
            obtain ⟨g, cap, ra, rc, rfl, hg1, hg2, hg3, hg4, hru, hri, hrc⟩ := ioo_row ho4 (k := stab m) (by rw [stepsL_len]; omega)
            rw [stepsL_len] at hg3 ho4 IV4 ⊢
            rw [stepsL_get (by omega)] at hru hri
            rw [HCL.out] at hru
            rw [hru] at hrc hri
            have c1 := hrc w4 (Below.refl _ _)
            have HRI := hid hri
            have X4 := hid (X3.out.below hb4)
            have B4 := hid (B3.out.trans (hb4.mono B3.out.size))
            unfold maxLen at hg4
            clear hru hri hrc ho4 hb4
            obtain ⟨xc0, xc1, xc2, -⟩ := X4.out
            obtain ⟨rb, ro, rc', hrv, r1, r2, -, r4⟩ := iv_open HRI.out (by rw [HCL.out]; omega)
            rw [HCL.out] at hrv r1 r4
            obtain ⟨rfl, rfl⟩ : ra = some ⟨rb, ro, none⟩ ∧ rc = rc' := by cases hrv; exact ⟨rfl, rfl⟩
            unfold maxLen at r2
            have rx := r4 w4 (Below.refl _ _) x HXN.out
            have ry := r4 w4 (Below.refl _ _) y HYN.out
            have hla : (clsAt m (stab m)).getD x 0 = (lastC m).getD x 0 := rfl
            have hlb : (clsAt m (stab m)).getD y 0 = (lastC m).getD y 0 := rfl
            rw [hla] at rx
            rw [hlb] at ry
            clear hrv r4 hla hlb
            have e1 : ((lastC m).getD x 0 == (lastC m).getD y 0) = false := by simpa using hsame
            clear hsame
            generalize (lastC m).getD x 0 = z1 at *
            generalize (lastC m).getD y 0 = z2 at *
            go_wp2
            go_quiet (fail)
            go_wp2_with fail
            clear xc0 xc1 xc2 rx ry c1
            refine (KD.out _ _ _ _ (below_drewN' B4.out _) (IV4.out.keeps (Keeps.of_all (below_drewN' (Below.refl _ _) _))) HL.out).mono ?_
            rintro e w5 ⟨rfl, hb5⟩
            have B5 := hid ((below_drewN' B4.out _).trans (hb5.mono (below_drewN' B4.out _).size))
            clear hb5
            go_wp2_with fail
            refine (KP.out _).mono ?_
            rintro e w6 ⟨v6, rfl, ho6, hb6⟩
            have O6 := hid ho6; have B6 := hid hb6; clear ho6 hb6
            go_wp2
            go_returns
            exact Ans.later B5.out ⟨_, rfl, O6.out, B6.out⟩
end Go.Proofs.YtnpfnfenkklocaaGreatDoor
