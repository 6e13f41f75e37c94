/-
  spec.l06Differ: the text of a formula that tells two worlds apart: by a fact; by the first agent that sees other classes. Conditions: the model is valid; what the parts answer is given.
-/
import Derived.Test.YtnpfnfenkklocaaGreatDoorDag
import Derived.Test.YtnpfnfenkklocaaGreatDoorDfx
import Derived.Test.YtnpfnfenkklocaaGreatDoorZCmb
import Derived.Test.YtnpfnfenkklocaaGreatDoorZReg
namespace Go.Proofs.YtnpfnfenkklocaaGreatDoor
open Go.RowKit Go.WideShapes
open Go Go.Deep
set_option linter.unusedSimpArgs false

/-- the first bit in which two numbers differ -/
theorem firstBit_some {a b : Int} {k : Nat} (h : firstBit a b = some k) : k < 4 ∧ bitI a k ≠ bitI b k ∧ ∀ j, j < k → bitI a j = bitI b j := by
  have hk := List.mem_range.1 (List.mem_of_find?_eq_some h)
  have h1 := List.find?_some (p := fun k => bitI a k != bitI b k) h
  refine ⟨hk, by simpa using h1, fun j hj => ?_⟩
  unfold firstBit at h
  obtain ⟨_, l1, l2, hl, hno⟩ := List.find?_eq_some_iff_append.1 h
  have hlen : l1.length = k := by
    have h1 : (List.range 4)[l1.length]? = some k := by rw [hl]; simp
    obtain ⟨h3, h4⟩ := List.getElem?_eq_some_iff.1 h1
    simpa using h4
  have hj1 : j ∈ l1 := by
    have h1 : (List.range 4)[j]? = l1[j]? := by rw [hl, List.getElem?_append_left (by omega)]
    rw [List.getElem?_range (by omega)] at h1
    exact List.mem_of_getElem? h1.symm
  have := hno j hj1
  simpa using this
/-- the text of a fact -/
def factS (a : Int) (k : Nat) : List UInt8 := if bitI a k == 1 then [UInt8.ofNat (97 + k)] else [45, UInt8.ofNat (97 + k)]

set_option maxRecDepth 100000 in
set_option maxHeartbeats 32000000 in
theorem differFact_any (lo hi : Nat) (v sv : Value) (m : Md) (x y k : Nat) (w : World) (hr : Mv lo hi w v m) (hm : mdOk m = true) (hx : x < m.facts.length) (hy : y < m.facts.length) (hb : firstBit (m.facts.getD x 0) (m.facts.getD y 0) = some k) :
    Calls Tryz.prog 27 #[v, sv, .int .i64 x, .int .i64 y] w fun e w' => e = .returned (.string ⟨(factS (m.facts.getD x 0) k).toArray⟩) ∧ Below w.heap.size w w' := by
  obtain ⟨p1, p2, p3, p4, p5, p6, -⟩ := mdOk_parts hm
  obtain ⟨fb, fo, fc, bb, bo, bc, rfl, f1, f2, b1, b2, hfb, hbb, hF, hB⟩ := mv_open hr hm
  unfold maxLen at f2 b2
  obtain ⟨k4, hne, heq⟩ := firstBit_some hb
  obtain ⟨a0, a1⟩ := p6 x hx
  obtain ⟨e0, e1⟩ := p6 y hy
  have HF := Lib.hid (fun W hW => And.intro (hF W hW x hx) (hF W hW y hy))
  have hab : m.facts.getD x 0 ≠ m.facts.getD y 0 := fun h => hne (by rw [h])
  clear hr hm hF hB p5 p6 hb
  generalize m.facts.getD x 0 = a at *
  generalize m.facts.getD y 0 = b at *
  have KA := Lib.hid (fun j W (hj : j < 4) => l03Bit_any a j W a0 a1 hj)
  have KB := Lib.hid (fun j W (hj : j < 4) => l03Bit_any b j W e0 e1 hj)
  have HEQ := Lib.hid heq
  have HNE := Lib.hid hne
  have hx0 : (0 : Int) ≤ (x : Int) := Int.natCast_nonneg _
  have hxn : (x : Int) < (m.facts.length : Int) := by omega
  have hy0 : (0 : Int) ≤ (y : Int) := Int.natCast_nonneg _
  have hyn : (y : Int) < (m.facts.length : Int) := by omega
  have hab' : (a == b) = false := by simpa using hab
  clear heq hne hab a0 a1 e0 e1
  go_enter Tryz.func27, Tryz.ntmps27
  go_wp2
  have x1 : Mcell (w.alloc (.cells #[.slice (some ⟨fb, fo, none⟩) m.facts.length fc, .slice (some ⟨bb, bo, none⟩) m.blocks.length bc, .int .i64 m.actual] 30)) w.heap.size (.slice (some ⟨fb, fo, none⟩) m.facts.length fc) (.slice (some ⟨bb, bo, none⟩) m.blocks.length bc) m.actual := Mcell.new rfl
  have q1 : Below w.heap.size w (w.alloc (.cells #[.slice (some ⟨fb, fo, none⟩) m.facts.length fc, .slice (some ⟨bb, bo, none⟩) m.blocks.length bc, .int .i64 m.actual] 30)) := by go_grown
  generalize w.alloc (.cells #[.slice (some ⟨fb, fo, none⟩) m.facts.length fc, .slice (some ⟨bb, bo, none⟩) m.blocks.length bc, .int .i64 m.actual] 30) = w1 at *
  have X1 := Lib.hid x1
  have B1 := Lib.hid q1
  clear x1 q1
  obtain ⟨xc0, xc1, xc2, -⟩ := X1.out
  obtain ⟨g1, g2⟩ := HF.out _ B1.out
  go_quiet (fail)
  go_wp2
  clear xc0 xc1 xc2 g1 g2
  go_loopw [9] (fun iv wr => ∃ j : Nat, j ≤ k ∧ iv = .int .i64 j ∧ Hid (Mcell wr w.heap.size (.slice (some ⟨fb, fo, none⟩) m.facts.length fc) (.slice (some ⟨bb, bo, none⟩) m.blocks.length bc) m.actual) ∧ Hid (Below w.heap.size w wr)) (fun iv _ => 4 - (intOf iv).toNat)
  case atStart => exact ⟨0, Nat.zero_le _, rfl, Lib.hid (X1.out.drewN _), Lib.hid (below_drewN' B1.out _)⟩
  case round =>
    clear X1 B1
    obtain ⟨j, hj, rfl, XR, BR⟩ := hrel
    have hj0 : (0 : Int) ≤ (j : Int) := Int.natCast_nonneg _
    have hj4 : (j : Int) < 4 := by omega
    obtain ⟨xc0, xc1, xc2, -⟩ := XR.out
    obtain ⟨g1, g2⟩ := HF.out _ BR.out
    have KAj := Lib.hid (fun W => KA.out j W (by omega))
    have KBj := Lib.hid (fun W => KB.out j W (by omega))
    by_cases hlt : j < k
    · have he := HEQ.out j hlt
      rw [← he] at KBj
      clear he
      generalize bitI a j = z at *
      go_wp2
      go_quiet ((first | (go_at_call_of 56 (Value.int .i64 a); exact quiet_eq (KAj.out _)) | (go_at_call_of 56 (Value.int .i64 b); exact quiet_eq (KBj.out _))))
      go_wp2
      clear xc0 xc1 xc2 g1 g2
      go_roundw
      case rel => exact ⟨j + 1, by omega, by go_num, Lib.hid (XR.out.drewN _), Lib.hid (below_drewN' BR.out _)⟩
      case measure => simp [intOf]; omega
    · obtain rfl : j = k := by omega
      have hne := HNE.out
      have HT : Hid (factS a j = if bitI a j == 1 then [UInt8.ofNat (97 + j)] else [45, UInt8.ofNat (97 + j)]) := Lib.hid rfl
      clear KA KB HEQ HNE
      have hz : (bitI a j == bitI b j) = false := by simpa using hne
      have hza := bitI_01 a j
      clear hne
      generalize bitI a j = z at *
      generalize bitI b j = z' at *
      have hw1 : IntKind.i64.wrap (97 + (j : Int)) = 97 + (j : Int) := IntWalk.i64_in _ (by omega)
      have hw2 : IntKind.u8.wrap (97 + (j : Int)) = 97 + (j : Int) := IntWalk.u8_in _ (by omega)
      have hcv := fun W => run_bytes_one (P := Tryz.prog) Tryz.underlying37 Tryz.underlying5 Tryz.underlying9 W (97 + (j : Int))
      go_wp2
      go_quiet ((first | (go_at_call_of 56 (Value.int .i64 a); exact quiet_eq (KAj.out _)) | (go_at_call_of 56 (Value.int .i64 b); exact quiet_eq (KBj.out _))))
      generalize hq : World.drewN wr _ = wq at *
      obtain ⟨n, hn⟩ : ∃ n, wq = wr.drewN n := ⟨_, hq.symm⟩
      have XQ : Hid (Mcell wq w.heap.size (.slice (some ⟨fb, fo, none⟩) m.facts.length fc) (.slice (some ⟨bb, bo, none⟩) m.blocks.length bc) m.actual) := Lib.hid (hn ▸ XR.out.drewN n)
      have BQ : Hid (Below w.heap.size w wq) := Lib.hid (hn ▸ below_drewN' BR.out n)
      have hqq : wq.heap.size = wr.heap.size := by rw [hn]; rfl
      have HQQ := Lib.hid hqq
      clear hq hn hqq xc0 xc1 xc2 g1 g2
      have ba : ∀ cs T, Below w.heap.size w (wq.alloc (.cells cs T)) := fun cs T => BQ.out.alloc BQ.out.size _
      have xc0 : ∀ cs T, (wq.alloc (.cells cs T)).cell? ⟨w.heap.size, 0, none⟩ = some (.slice (some ⟨fb, fo, none⟩) m.facts.length fc) := fun cs T => (XQ.out.alloc _).1
      have g1 : ∀ cs T, (wq.alloc (.cells cs T)).cell? ⟨fb, fo + x, none⟩ = some (.int .i64 a) := fun cs T => (HF.out _ (ba cs T)).1
      have BA := Lib.hid ba
      clear ba
      have HU : Hid (UInt8.ofNat (97 + j) = 97 + UInt8.ofNat j) := Lib.hid (by rw [UInt8.ofNat_add]; rfl)
      rcases hza with rfl | rfl
      · go_wp2_with (go_at_call 56; refine (KAj.out _).mono ?_; rintro e w' ⟨rfl, rfl⟩)
        go_ret
        exact ⟨ret_str (by rw [HT.out, if_neg (by decide), HU.out]; exact ByteArray.mk_append_mk [45] [97 + UInt8.ofNat j]), BA.out _ _⟩
      · go_wp2_with (go_at_call 56; refine (KAj.out _).mono ?_; rintro e w' ⟨rfl, rfl⟩)
        go_ret
        exact ⟨ret_str (by rw [HT.out, if_pos (by decide), HU.out]), BA.out _ _⟩

/-- the text of a step -/
def stepS (k : Nat) (b : Bool) (ag : List UInt8) : List UInt8 := if b then [45, 75, UInt8.ofNat (48 + k), 45] ++ ag else [75, UInt8.ofNat (48 + k), 45] ++ ag

set_option maxRecDepth 100000 in
set_option maxHeartbeats 64000000 in
theorem differStep_any (lo hi lo2 hi2 : Nat) (v sv : Value) (m : Md) (x y k s z : Nat) (b : Bool) (ag : List UInt8) (w : World) (hr : Mv lo hi w v m) (hm : mdOk m = true) (hS : Ivv lo2 hi2 w sv (stepsL m (stab m + 1))) (hx : x < m.facts.length) (hy : y < m.facts.length) (hfe : m.facts.getD x 0 = m.facts.getD y 0)
    (hs : s < stab m) (hst : stab m ≤ 16) (hsm : ∀ j, j ≤ stab m → ((clsAt m j).getD x 0 = (clsAt m j).getD y 0 ↔ j ≤ s)) (hk : k < m.blocks.length)
    (he : ∀ j, j < k → missing m (clsAt m s) j x y = none ∧ missing m (clsAt m s) j y x = none) (hz : (b = true ∧ missing m (clsAt m s) k x y = some z) ∨ (b = false ∧ missing m (clsAt m s) k x y = none ∧ missing m (clsAt m s) k y x = some z)) (hag : ag.length ≤ 200000)
    (hA : ∀ W lo3 hi3 vv, Below w.heap.size w W → Iv lo3 hi3 W vv (nums (blkD m k (if b then y else x))) → Calls Tryz.prog 59 #[v, sv, .int .i64 z, vv, .int .i64 s] W fun e w' => e = .returned (.string ⟨ag.toArray⟩) ∧ Below W.heap.size W w') :
    Calls Tryz.prog 27 #[v, sv, .int .i64 x, .int .i64 y] w fun e w' => e = .returned (.string ⟨(stepS k b ag).toArray⟩) ∧ Below w.heap.size w w' := by
  obtain ⟨p1, p2, p3, p4, p5, p6, -⟩ := mdOk_parts hm
  have hgs : ∀ j, j ≤ stab m → (stepsL m (stab m + 1)).getD j [] = clsAt m j := fun j hj => stepsL_get (by omega)
  -- what the steps say at each step
  have hrow : ∃ sb so sc, sv = .slice (some ⟨sb, so, none⟩) (stab m + 1) sc ∧ stab m + 1 ≤ sc ∧ sc ≤ maxLen ∧ ∀ j, j ≤ stab m → ∃ ub uo uc, m.facts.length ≤ uc ∧ uc ≤ maxLen ∧ Iv lo2 hi2 w (.slice (some ⟨ub, uo, none⟩) m.facts.length uc) (clsAt m j) ∧
      ∀ W, Below w.heap.size w W → W.cell? ⟨sb, so + j, none⟩ = some (.slice (some ⟨ub, uo, none⟩) m.facts.length uc) ∧ ∀ i, i < m.facts.length → W.cell? ⟨ub, uo + i, none⟩ = some (.int .i64 ((clsAt m j).getD i 0)) := by
    obtain ⟨sa, sc, rfl, s1, s2, hrw⟩ := hS.parts
    rw [stepsL_len] at s1 hrw ⊢
    obtain ⟨sb, so, u, rfl, -⟩ := hrw 0 (by omega)
    refine ⟨sb, so, sc, rfl, s1, s2, fun j hj => ?_⟩
    obtain ⟨sb', so', u', e, _, _, hlt, hc, hu⟩ := hrw j (by omega)
    cases e
    rw [hgs j hj] at hu
    obtain ⟨ub, uo, uc, rfl, h1, h2, h3, h4⟩ := iv_open hu (by rw [clsAt_len]; omega)
    rw [clsAt_len] at h1 h4 hc hu
    exact ⟨ub, uo, uc, h1, h2, hu, fun W hW => ⟨(hW.cell (p := ⟨sb, so + j, none⟩) hlt).trans hc, h4 W hW⟩⟩
  obtain ⟨sb, so, sc, rfl, s1, s2, hRow⟩ := hrow
  have hinr : inRow m (clsAt m s) := ⟨clsAt_len m s, fun u hu => clsAt_bd hu⟩
  obtain ⟨rb, ro, rc, t1, t2, t3, t4⟩ := hRow s (by omega)
  have HRS := Lib.hid t4
  have KM := Lib.hid (fun j u u' W (hW : Below w.heap.size w W) (hj : j < m.blocks.length) (hu : u < m.facts.length) (hu' : u' < m.facts.length) => specMiss_any lo hi lo2 hi2 v (.slice (some ⟨rb, ro, none⟩) m.facts.length rc) m (clsAt m s) j u u' W (hr.keeps (Keeps.of_all hW)) hm (t3.keeps (Keeps.of_all hW)) hinr hj hu hu')
  have KB := Lib.hid (fun u W (hW : Below w.heap.size w W) (hu : u < m.facts.length) => specBlk_any lo hi v m k u W (hr.keeps (Keeps.of_all hW)) hm hk hu)
  unfold IntsAns at KB
  have KF := Lib.hid (fun W => specSmall_any (k : Int) W (by omega))
  have HROW := Lib.hid hRow
  have HSM := Lib.hid hsm
  have HE := Lib.hid he
  have HZ := Lib.hid hz
  have KA := Lib.hid hA
  obtain ⟨fb, fo, fc, bb, bo, bc, rfl, f1, f2, b1, b2, hfb, hbb, hF, hB⟩ := mv_open hr hm
  unfold maxLen at f2 b2 s2 t2
  have HF := Lib.hid (fun W hW => And.intro (hF W hW x hx) (hF W hW y hy))
  rw [← hfe] at HF
  have HXN := Lib.hid hx
  have HYN := Lib.hid hy
  have HKN := Lib.hid hk
  have hx0 : (0 : Int) ≤ (x : Int) := Int.natCast_nonneg _
  have hxn : (x : Int) < (m.facts.length : Int) := by omega
  have hy0 : (0 : Int) ≤ (y : Int) := Int.natCast_nonneg _
  have hyn : (y : Int) < (m.facts.length : Int) := by omega
  have hs0 : (0 : Int) ≤ (s : Int) := Int.natCast_nonneg _
  have hss : (s : Int) < (stab m : Int) + 1 := by omega
  have hkn : (k : Int) < (m.blocks.length : Int) := by omega
  clear hr hm hS hF hB p5 p6 hsm he hz hA hRow hgs hinr t3 t4 hfe hx hy hk
  generalize m.facts.getD x 0 = a at *
  go_enter Tryz.func27, Tryz.ntmps27
  go_wp2
  have x1 : Mcell (w.alloc (.cells #[.slice (some ⟨fb, fo, none⟩) m.facts.length fc, .slice (some ⟨bb, bo, none⟩) m.blocks.length bc, .int .i64 m.actual] 30)) w.heap.size (.slice (some ⟨fb, fo, none⟩) m.facts.length fc) (.slice (some ⟨bb, bo, none⟩) m.blocks.length bc) m.actual := Mcell.new rfl
  have q1 : Below w.heap.size w (w.alloc (.cells #[.slice (some ⟨fb, fo, none⟩) m.facts.length fc, .slice (some ⟨bb, bo, none⟩) m.blocks.length bc, .int .i64 m.actual] 30)) := by go_grown
  generalize w.alloc (.cells #[.slice (some ⟨fb, fo, none⟩) m.facts.length fc, .slice (some ⟨bb, bo, none⟩) m.blocks.length bc, .int .i64 m.actual] 30) = w1 at *
  have X1 := Lib.hid x1
  have B1 := Lib.hid q1
  clear x1 q1
  obtain ⟨xc0, xc1, xc2, -⟩ := X1.out
  obtain ⟨g1, g2⟩ := HF.out _ B1.out
  go_quiet (fail)
  go_wp2
  clear xc0 xc1 xc2 g1 g2
  -- the last shared step
  go_loopw [11] (fun iv wr => ∃ j : Nat, j ≤ s ∧ iv = .int .i64 j ∧ Hid (Mcell wr w.heap.size (.slice (some ⟨fb, fo, none⟩) m.facts.length fc) (.slice (some ⟨bb, bo, none⟩) m.blocks.length bc) m.actual) ∧ Hid (Below w.heap.size w wr)) (fun iv _ => 17 - (intOf iv).toNat)
  case atStart => exact ⟨0, Nat.zero_le _, rfl, Lib.hid (X1.out.drewN _), Lib.hid (below_drewN' B1.out _)⟩
  case round =>
    clear X1 B1
    obtain ⟨j, hj, rfl, XR, BR⟩ := hrel
    have hj0 : (0 : Int) ≤ (j : Int) := Int.natCast_nonneg _
    have hj1 : (j : Int) < (stab m : Int) + 1 - 1 := by omega
    have hj2 : (j : Int) < (stab m : Int) := by omega
    have hj3 : (j : Int) + 1 < (stab m : Int) + 1 := by omega
    obtain ⟨ub, uo, uc, u1, u2, -, u4⟩ := HROW.out (j + 1) (by omega)
    unfold maxLen at u2
    obtain ⟨r0, r1⟩ := u4 _ BR.out
    have rx := r1 x HXN.out
    have ry := r1 y HYN.out
    have hiff := HSM.out (j + 1) (by omega)
    clear r1 u4
    by_cases hlt : j < s
    · have e := hiff.2 (by omega)
      rw [← e] at ry
      clear hiff e
      generalize (clsAt m (j + 1)).getD x 0 = z1 at *
      go_wp2
      go_quiet (fail)
      go_wp2
      clear r0 rx ry
      go_roundw
      case rel => exact ⟨j + 1, by omega, by go_num, Lib.hid (XR.out.drewN _), Lib.hid (below_drewN' BR.out _)⟩
      case measure => simp [intOf]; omega
    · obtain rfl : s = j := by omega
      have hne : ¬ (clsAt m (s + 1)).getD x 0 = (clsAt m (s + 1)).getD y 0 := fun h => by have := hiff.1 h; omega
      clear hiff
      generalize (clsAt m (s + 1)).getD x 0 = z1 at *
      generalize (clsAt m (s + 1)).getD y 0 = z2 at *
      have e1 : (z1 == z2) = false := by simpa using hne
      clear hne
      obtain ⟨xc0, xc1, xc2, -⟩ := XR.out
      go_wp2
      go_quiet (fail)
      go_wp2
      clear r0 rx ry xc0 xc1 xc2 hj0 hj1 hj2 hj3 e1
      obtain ⟨wo, rfl⟩ : ∃ wo : World, wo = wr := ⟨_, rfl⟩
      go_loopw [89] (fun iv w3 => ∃ j : Nat, j ≤ k ∧ iv = .int .i64 j ∧ Hid (Mcell w3 w.heap.size (.slice (some ⟨fb, fo, none⟩) m.facts.length fc) (.slice (some ⟨bb, bo, none⟩) m.blocks.length bc) m.actual) ∧ Hid (Below w.heap.size w w3)) (fun iv _ => 4 - (intOf iv).toNat)
      case atStart => exact ⟨0, Nat.zero_le _, rfl, Lib.hid (XR.out.drewN _), Lib.hid (below_drewN' BR.out _)⟩
      case round =>
        clear XR BR HSM HROW hj
        obtain ⟨q, hq, rfl, X3, B3⟩ := hrel
        have hq0 : (0 : Int) ≤ (q : Int) := Int.natCast_nonneg _
        have hqn : (q : Int) < (m.blocks.length : Int) := by omega
        have HQB : Hid (q < m.blocks.length) := Lib.hid (by omega)
        by_cases hlt : q < k
        · have KX1 := Lib.hid (fun W hW => KM.out q x y W hW HQB.out HXN.out HYN.out)
          have KX2 := Lib.hid (fun W hW => KM.out q y x W hW HQB.out HYN.out HXN.out)
          rw [(HE.out q hlt).1] at KX1
          rw [(HE.out q hlt).2] at KX2
          obtain ⟨r, hr⟩ : ∃ r : Int, r = missV none := ⟨_, rfl⟩
          rw [← hr] at KX1 KX2
          obtain rfl : r = -1 := hr
          go_wp2
          have HRG := Lib.hid (fun W (h : Below wr.heap.size wr W) => (X3.out.below h).range)
          have HRSW := Lib.hid (fun W (h : Below wr.heap.size wr W) => (HRS.out W (B3.out.trans (h.mono B3.out.size))).1)
          refine regionL (fun U => Below wr.heap.size wr U) [] (by kernel_rfl) (Below.refl _ _).drew (fun hHeld => ?_)
          refine takeA (i := 0) (v := (.agg #[.slice (some ⟨fb, fo, none⟩) m.facts.length fc, .slice (some ⟨bb, bo, none⟩) m.blocks.length bc, .int .i64 m.actual])) 92 rfl rfl (by kernel_rfl) (by kernel_rfl) (by kernel_rfl) (by kernel_rfl) (fun _ _ _ h => h) (yieldsIf_load_mid (by rfl) 30 _ rfl w.heap.size 0 rfl [.slice (some ⟨fb, fo, none⟩) m.facts.length fc, .slice (some ⟨bb, bo, none⟩) m.blocks.length bc, .int .i64 m.actual] _ HRG.out Tryz.underlying30 rfl Tryz.sizeMd) hHeld ?_
          simp only [Act.put, List.setIfInBounds_toArray, List.set_cons_zero, List.set_cons_succ]
          refine takeA (i := 1) (v := .int .i64 q) 93 rfl rfl (by kernel_rfl) (by kernel_rfl) (by kernel_rfl) (by kernel_rfl) (fun _ _ _ h => h) (Or.inl ⟨by rfl, by intro W hSw; go_simp⟩) hHeld ?_
          simp only [Act.put, List.setIfInBounds_toArray, List.set_cons_zero, List.set_cons_succ]
          refine takeA (i := 2) (v := (.slice (some ⟨sb, so, none⟩) (stab m + 1) sc)) 94 rfl rfl (by kernel_rfl) (by kernel_rfl) (by kernel_rfl) (by kernel_rfl) (fun _ _ _ h => h) (Or.inl ⟨by rfl, by intro W hSw; go_simp⟩) hHeld ?_
          simp only [Act.put, List.setIfInBounds_toArray, List.set_cons_zero, List.set_cons_succ]
          refine takeA (i := 3) (v := .int .i64 s) 95 rfl rfl (by kernel_rfl) (by kernel_rfl) (by kernel_rfl) (by kernel_rfl) (fun _ _ _ h => h) (Or.inl ⟨by rfl, by intro W hSw; go_simp⟩) hHeld ?_
          simp only [Act.put, List.setIfInBounds_toArray, List.set_cons_zero, List.set_cons_succ]
          refine takeA (i := 6) (v := .int .i64 x) 98 rfl rfl (by kernel_rfl) (by kernel_rfl) (by kernel_rfl) (by kernel_rfl) (fun _ _ _ h => h) (Or.inl ⟨by rfl, by intro W hSw; go_simp⟩) hHeld ?_
          simp only [Act.put, List.setIfInBounds_toArray, List.set_cons_zero, List.set_cons_succ]
          refine takeA (i := 7) (v := .int .i64 y) 99 rfl rfl (by kernel_rfl) (by kernel_rfl) (by kernel_rfl) (by kernel_rfl) (fun _ _ _ h => h) (Or.inl ⟨by rfl, by intro W hSw; go_simp⟩) hHeld ?_
          simp only [Act.put, List.setIfInBounds_toArray, List.set_cons_zero, List.set_cons_succ]
          refine takeA (i := 4) (v := .pointer (some ⟨sb, so + s, none⟩)) 96 rfl rfl (by kernel_rfl) (by kernel_rfl) (by kernel_rfl) (by kernel_rfl) (fun _ _ _ h => h) (Or.inl ⟨by rfl, by intro W hSw; go_simp⟩) hHeld ?_
          simp only [Act.put, List.setIfInBounds_toArray, List.set_cons_zero, List.set_cons_succ]
          refine takeA (i := 5) (v := .slice (some ⟨rb, ro, none⟩) m.facts.length rc) 97 rfl rfl (by kernel_rfl) (by kernel_rfl) (by kernel_rfl) (by kernel_rfl) (fun _ _ _ h => h) (Or.inl ⟨by rfl, by intro W hSw; have c1 := HRSW.out _ hSw; go_simp⟩) hHeld ?_
          simp only [Act.put, List.setIfInBounds_toArray, List.set_cons_zero, List.set_cons_succ]
          generalize (World.drew _) = wd at hHeld ⊢
          refine onlyL (i := 8) (by kernel_rfl) rfl (by rfl) (fun K hK => ?_)
          go_simp
          refine (KX1.out _ (B3.out.trans (hHeld.mono B3.out.size))).mono ?_
          rintro e w4 ⟨rfl, hb4⟩
          have t4 : Below wr.heap.size wr w4 := hHeld.trans (hb4.mono hHeld.size)
          have X4 := Lib.hid (X3.out.below t4)
          have B4 := Lib.hid (B3.out.trans (t4.mono B3.out.size))
          clear hb4 hHeld
          refine hK.out _ _ (fun _ => t4) (fun _ => ?_)
          clear hK K
          have hHeld := t4
          try simp only [Act.put, List.setIfInBounds_toArray, List.set_cons_zero, List.set_cons_succ]
          refine takeA (i := 9) (v := .int .i64 (-1)) 13 rfl rfl (by kernel_rfl) (by kernel_rfl) (by kernel_rfl) (by kernel_rfl) (fun _ _ _ h => h) (Or.inl ⟨by rfl, by intro W hSw; go_simp⟩) hHeld ?_
          simp only [Act.put, List.setIfInBounds_toArray, List.set_cons_zero, List.set_cons_succ]
          clear hHeld t4
          refine doneL (by kernel_rfl) ?_ _
          try simp only [Act.put, List.setIfInBounds_toArray, List.set_cons_zero, List.set_cons_succ]
          clear HRG HRSW
          go_wp2
          have HRG := Lib.hid (fun W (h : Below w4.heap.size w4 W) => (X4.out.below h).range)
          have HRSW := Lib.hid (fun W (h : Below w4.heap.size w4 W) => (HRS.out W (B4.out.trans (h.mono B4.out.size))).1)
          refine regionL (fun U => Below w4.heap.size w4 U) [] (by kernel_rfl) (Below.refl _ _).drew (fun hHeld => ?_)
          refine takeA (i := 0) (v := (.agg #[.slice (some ⟨fb, fo, none⟩) m.facts.length fc, .slice (some ⟨bb, bo, none⟩) m.blocks.length bc, .int .i64 m.actual])) 117 rfl rfl (by kernel_rfl) (by kernel_rfl) (by kernel_rfl) (by kernel_rfl) (fun _ _ _ h => h) (yieldsIf_load_mid (by rfl) 30 _ rfl w.heap.size 0 rfl [.slice (some ⟨fb, fo, none⟩) m.facts.length fc, .slice (some ⟨bb, bo, none⟩) m.blocks.length bc, .int .i64 m.actual] _ HRG.out Tryz.underlying30 rfl Tryz.sizeMd) hHeld ?_
          simp only [Act.put, List.setIfInBounds_toArray, List.set_cons_zero, List.set_cons_succ]
          refine takeA (i := 1) (v := .int .i64 q) 118 rfl rfl (by kernel_rfl) (by kernel_rfl) (by kernel_rfl) (by kernel_rfl) (fun _ _ _ h => h) (Or.inl ⟨by rfl, by intro W hSw; go_simp⟩) hHeld ?_
          simp only [Act.put, List.setIfInBounds_toArray, List.set_cons_zero, List.set_cons_succ]
          refine takeA (i := 2) (v := (.slice (some ⟨sb, so, none⟩) (stab m + 1) sc)) 119 rfl rfl (by kernel_rfl) (by kernel_rfl) (by kernel_rfl) (by kernel_rfl) (fun _ _ _ h => h) (Or.inl ⟨by rfl, by intro W hSw; go_simp⟩) hHeld ?_
          simp only [Act.put, List.setIfInBounds_toArray, List.set_cons_zero, List.set_cons_succ]
          refine takeA (i := 3) (v := .int .i64 s) 120 rfl rfl (by kernel_rfl) (by kernel_rfl) (by kernel_rfl) (by kernel_rfl) (fun _ _ _ h => h) (Or.inl ⟨by rfl, by intro W hSw; go_simp⟩) hHeld ?_
          simp only [Act.put, List.setIfInBounds_toArray, List.set_cons_zero, List.set_cons_succ]
          refine takeA (i := 6) (v := .int .i64 y) 123 rfl rfl (by kernel_rfl) (by kernel_rfl) (by kernel_rfl) (by kernel_rfl) (fun _ _ _ h => h) (Or.inl ⟨by rfl, by intro W hSw; go_simp⟩) hHeld ?_
          simp only [Act.put, List.setIfInBounds_toArray, List.set_cons_zero, List.set_cons_succ]
          refine takeA (i := 7) (v := .int .i64 x) 124 rfl rfl (by kernel_rfl) (by kernel_rfl) (by kernel_rfl) (by kernel_rfl) (fun _ _ _ h => h) (Or.inl ⟨by rfl, by intro W hSw; go_simp⟩) hHeld ?_
          simp only [Act.put, List.setIfInBounds_toArray, List.set_cons_zero, List.set_cons_succ]
          refine takeA (i := 4) (v := .pointer (some ⟨sb, so + s, none⟩)) 121 rfl rfl (by kernel_rfl) (by kernel_rfl) (by kernel_rfl) (by kernel_rfl) (fun _ _ _ h => h) (Or.inl ⟨by rfl, by intro W hSw; go_simp⟩) hHeld ?_
          simp only [Act.put, List.setIfInBounds_toArray, List.set_cons_zero, List.set_cons_succ]
          refine takeA (i := 5) (v := .slice (some ⟨rb, ro, none⟩) m.facts.length rc) 122 rfl rfl (by kernel_rfl) (by kernel_rfl) (by kernel_rfl) (by kernel_rfl) (fun _ _ _ h => h) (Or.inl ⟨by rfl, by intro W hSw; have c1 := HRSW.out _ hSw; go_simp⟩) hHeld ?_
          simp only [Act.put, List.setIfInBounds_toArray, List.set_cons_zero, List.set_cons_succ]
          generalize (World.drew _) = wd at hHeld ⊢
          refine onlyL (i := 8) (by kernel_rfl) rfl (by rfl) (fun K hK => ?_)
          go_simp
          refine (KX2.out _ (B4.out.trans (hHeld.mono B4.out.size))).mono ?_
          rintro e w5 ⟨rfl, hb5⟩
          have t5 : Below w4.heap.size w4 w5 := hHeld.trans (hb5.mono hHeld.size)
          have X5 := Lib.hid (X4.out.below t5)
          have B5 := Lib.hid (B4.out.trans (t5.mono B4.out.size))
          clear hb5 hHeld
          refine hK.out _ _ (fun _ => t5) (fun _ => ?_)
          clear hK K
          have hHeld := t5
          try simp only [Act.put, List.setIfInBounds_toArray, List.set_cons_zero, List.set_cons_succ]
          refine takeA (i := 9) (v := .int .i64 (-1)) 13 rfl rfl (by kernel_rfl) (by kernel_rfl) (by kernel_rfl) (by kernel_rfl) (fun _ _ _ h => h) (Or.inl ⟨by rfl, by intro W hSw; go_simp⟩) hHeld ?_
          simp only [Act.put, List.setIfInBounds_toArray, List.set_cons_zero, List.set_cons_succ]
          clear hHeld t5
          refine doneL (by kernel_rfl) ?_ _
          try simp only [Act.put, List.setIfInBounds_toArray, List.set_cons_zero, List.set_cons_succ]
          clear HRG HRSW
          go_wp2
          go_roundw
          case rel => exact ⟨q + 1, by omega, by go_num, X5, B5⟩
          case measure => simp [intOf]; omega
        · obtain rfl : q = k := by omega
          clear HE hlt
          have KX1 := Lib.hid (fun W hW => KM.out q x y W hW HQB.out HXN.out HYN.out)
          have KX2 := Lib.hid (fun W hW => KM.out q y x W hW HQB.out HYN.out HXN.out)
          have zk : (str [UInt8.ofNat (48 + (q : Int).toNat)]).size ≤ 1 := Nat.le_refl _
          have zg : (⟨ag.toArray⟩ : ByteArray).size ≤ 200000 := hag
          have HT1 : Hid (⟨#[45, 75]⟩ ++ str [UInt8.ofNat (48 + (q : Int).toNat)] ++ ⟨#[45]⟩ ++ ⟨ag.toArray⟩ = (⟨(stepS q true ag).toArray⟩ : ByteArray)) := Lib.hid (by
            show str [45, 75] ++ str [UInt8.ofNat (48 + (q : Int).toNat)] ++ str [45] ++ str ag = str _
            rw [str_app, str_app, str_app]; unfold stepS; rw [if_pos rfl, Int.toNat_natCast]; rfl)
          have HT2 : Hid (⟨#[75]⟩ ++ str [UInt8.ofNat (48 + (q : Int).toNat)] ++ ⟨#[45]⟩ ++ ⟨ag.toArray⟩ = (⟨(stepS q false ag).toArray⟩ : ByteArray)) := Lib.hid (by
            show str [75] ++ str [UInt8.ofNat (48 + (q : Int).toNat)] ++ str [45] ++ str ag = str _
            rw [str_app, str_app, str_app]; unfold stepS; rw [if_neg (by decide), Int.toNat_natCast]; rfl)
          generalize str [UInt8.ofNat (48 + (q : Int).toNat)] = sk at *
          generalize (⟨ag.toArray⟩ : ByteArray) = sg at *
          have hz0 : (0 : Int) ≤ (z : Int) := Int.natCast_nonneg _
          rcases HZ.out with ⟨rfl, e1⟩ | ⟨rfl, e1, e2⟩
          · rw [e1] at KX1
            obtain ⟨r, hr⟩ : ∃ r : Int, r = missV (some z) := ⟨_, rfl⟩
            rw [← hr] at KX1
            obtain rfl : r = (z : Int) := hr
            have HT := Lib.hid HT1.out
            clear e1 HZ KX2 HT1 HT2
            simp only [if_true] at KA
            go_wp2
            have HRG := Lib.hid (fun W (h : Below wr.heap.size wr W) => (X3.out.below h).range)
            have HRSW := Lib.hid (fun W (h : Below wr.heap.size wr W) => (HRS.out W (B3.out.trans (h.mono B3.out.size))).1)
            refine regionL (fun U => Below wr.heap.size wr U) [] (by kernel_rfl) (Below.refl _ _).drew (fun hHeld => ?_)
            refine takeA (i := 0) (v := (.agg #[.slice (some ⟨fb, fo, none⟩) m.facts.length fc, .slice (some ⟨bb, bo, none⟩) m.blocks.length bc, .int .i64 m.actual])) 92 rfl rfl (by kernel_rfl) (by kernel_rfl) (by kernel_rfl) (by kernel_rfl) (fun _ _ _ h => h) (yieldsIf_load_mid (by rfl) 30 _ rfl w.heap.size 0 rfl [.slice (some ⟨fb, fo, none⟩) m.facts.length fc, .slice (some ⟨bb, bo, none⟩) m.blocks.length bc, .int .i64 m.actual] _ HRG.out Tryz.underlying30 rfl Tryz.sizeMd) hHeld ?_
            simp only [Act.put, List.setIfInBounds_toArray, List.set_cons_zero, List.set_cons_succ]
            refine takeA (i := 1) (v := .int .i64 q) 93 rfl rfl (by kernel_rfl) (by kernel_rfl) (by kernel_rfl) (by kernel_rfl) (fun _ _ _ h => h) (Or.inl ⟨by rfl, by intro W hSw; go_simp⟩) hHeld ?_
            simp only [Act.put, List.setIfInBounds_toArray, List.set_cons_zero, List.set_cons_succ]
            refine takeA (i := 2) (v := (.slice (some ⟨sb, so, none⟩) (stab m + 1) sc)) 94 rfl rfl (by kernel_rfl) (by kernel_rfl) (by kernel_rfl) (by kernel_rfl) (fun _ _ _ h => h) (Or.inl ⟨by rfl, by intro W hSw; go_simp⟩) hHeld ?_
            simp only [Act.put, List.setIfInBounds_toArray, List.set_cons_zero, List.set_cons_succ]
            refine takeA (i := 3) (v := .int .i64 s) 95 rfl rfl (by kernel_rfl) (by kernel_rfl) (by kernel_rfl) (by kernel_rfl) (fun _ _ _ h => h) (Or.inl ⟨by rfl, by intro W hSw; go_simp⟩) hHeld ?_
            simp only [Act.put, List.setIfInBounds_toArray, List.set_cons_zero, List.set_cons_succ]
            refine takeA (i := 6) (v := .int .i64 x) 98 rfl rfl (by kernel_rfl) (by kernel_rfl) (by kernel_rfl) (by kernel_rfl) (fun _ _ _ h => h) (Or.inl ⟨by rfl, by intro W hSw; go_simp⟩) hHeld ?_
            simp only [Act.put, List.setIfInBounds_toArray, List.set_cons_zero, List.set_cons_succ]
            refine takeA (i := 7) (v := .int .i64 y) 99 rfl rfl (by kernel_rfl) (by kernel_rfl) (by kernel_rfl) (by kernel_rfl) (fun _ _ _ h => h) (Or.inl ⟨by rfl, by intro W hSw; go_simp⟩) hHeld ?_
            simp only [Act.put, List.setIfInBounds_toArray, List.set_cons_zero, List.set_cons_succ]
            refine takeA (i := 4) (v := .pointer (some ⟨sb, so + s, none⟩)) 96 rfl rfl (by kernel_rfl) (by kernel_rfl) (by kernel_rfl) (by kernel_rfl) (fun _ _ _ h => h) (Or.inl ⟨by rfl, by intro W hSw; go_simp⟩) hHeld ?_
            simp only [Act.put, List.setIfInBounds_toArray, List.set_cons_zero, List.set_cons_succ]
            refine takeA (i := 5) (v := .slice (some ⟨rb, ro, none⟩) m.facts.length rc) 97 rfl rfl (by kernel_rfl) (by kernel_rfl) (by kernel_rfl) (by kernel_rfl) (fun _ _ _ h => h) (Or.inl ⟨by rfl, by intro W hSw; have c1 := HRSW.out _ hSw; go_simp⟩) hHeld ?_
            simp only [Act.put, List.setIfInBounds_toArray, List.set_cons_zero, List.set_cons_succ]
            generalize (World.drew _) = wd at hHeld ⊢
            refine onlyL (i := 8) (by kernel_rfl) rfl (by rfl) (fun K hK => ?_)
            go_simp
            refine (KX1.out _ (B3.out.trans (hHeld.mono B3.out.size))).mono ?_
            rintro e w4 ⟨rfl, hb4⟩
            have t4 : Below wr.heap.size wr w4 := hHeld.trans (hb4.mono hHeld.size)
            have X4 := Lib.hid (X3.out.below t4)
            have B4 := Lib.hid (B3.out.trans (t4.mono B3.out.size))
            clear hb4 hHeld
            refine hK.out _ _ (fun _ => t4) (fun _ => ?_)
            clear hK K
            have hHeld := t4
            try simp only [Act.put, List.setIfInBounds_toArray, List.set_cons_zero, List.set_cons_succ]
            refine takeA (i := 9) (v := .int .i64 z) 13 rfl rfl (by kernel_rfl) (by kernel_rfl) (by kernel_rfl) (by kernel_rfl) (fun _ _ _ h => h) (Or.inl ⟨by rfl, by intro W hSw; go_simp⟩) hHeld ?_
            simp only [Act.put, List.setIfInBounds_toArray, List.set_cons_zero, List.set_cons_succ]
            clear hHeld t4
            refine doneL (by kernel_rfl) ?_ _
            try simp only [Act.put, List.setIfInBounds_toArray, List.set_cons_zero, List.set_cons_succ]
            clear HRG HRSW
            go_wp2
            have zl0 : (⟨#[45, 75]⟩ : ByteArray).size ≤ 2 := by decide
            have zl1 : (⟨#[45]⟩ : ByteArray).size = 1 := rfl
            have hadd0 := fun W => run_string_add_sum (P := Tryz.prog) W ⟨#[45, 75]⟩ sk (by omega)
            have hadd1 := fun W => run_string_add_sum (P := Tryz.prog) W (⟨#[45, 75]⟩ ++ sk) ⟨#[45]⟩ (by simp only [ByteArray.size_append]; omega)
            have hadd2 := fun W => run_string_add_sum (P := Tryz.prog) W (⟨#[45, 75]⟩ ++ sk ++ ⟨#[45]⟩) sg (by simp only [ByteArray.size_append]; omega)
            clear zl0 zl1 zk zg
            have HRG := Lib.hid (fun W (h : Below w4.heap.size w4 W) => (X4.out.below h).range)
            have HRSW := Lib.hid (fun W (h : Below w4.heap.size w4 W) => (HRS.out W (B4.out.trans (h.mono B4.out.size))).1)
            refine regionL (fun U => Below w4.heap.size w4 U) [] (by kernel_rfl) (Below.refl _ _).drew (fun hHeld => ?_)
            refine takeA (i := 0) (v := .int .i64 q) 103 rfl rfl (by kernel_rfl) (by kernel_rfl) (by kernel_rfl) (by kernel_rfl) (fun _ _ _ h => h) (Or.inl ⟨by rfl, by intro W hSw; go_simp⟩) hHeld ?_
            simp only [Act.put, List.setIfInBounds_toArray, List.set_cons_zero, List.set_cons_succ]
            refine takeA (i := 4) (v := (.agg #[.slice (some ⟨fb, fo, none⟩) m.facts.length fc, .slice (some ⟨bb, bo, none⟩) m.blocks.length bc, .int .i64 m.actual])) 107 rfl rfl (by kernel_rfl) (by kernel_rfl) (by kernel_rfl) (by kernel_rfl) (fun _ _ _ h => h) (yieldsIf_load_mid (by rfl) 30 _ rfl w.heap.size 0 rfl [.slice (some ⟨fb, fo, none⟩) m.facts.length fc, .slice (some ⟨bb, bo, none⟩) m.blocks.length bc, .int .i64 m.actual] _ HRG.out Tryz.underlying30 rfl Tryz.sizeMd) hHeld ?_
            simp only [Act.put, List.setIfInBounds_toArray, List.set_cons_zero, List.set_cons_succ]
            refine takeA (i := 5) (v := (.slice (some ⟨sb, so, none⟩) (stab m + 1) sc)) 108 rfl rfl (by kernel_rfl) (by kernel_rfl) (by kernel_rfl) (by kernel_rfl) (fun _ _ _ h => h) (Or.inl ⟨by rfl, by intro W hSw; go_simp⟩) hHeld ?_
            simp only [Act.put, List.setIfInBounds_toArray, List.set_cons_zero, List.set_cons_succ]
            refine takeA (i := 6) (v := .int .i64 z) 109 rfl rfl (by kernel_rfl) (by kernel_rfl) (by kernel_rfl) (by kernel_rfl) (fun _ _ _ h => h) (Or.inl ⟨by rfl, by intro W hSw; go_simp⟩) hHeld ?_
            simp only [Act.put, List.setIfInBounds_toArray, List.set_cons_zero, List.set_cons_succ]
            refine takeA (i := 7) (v := (.agg #[.slice (some ⟨fb, fo, none⟩) m.facts.length fc, .slice (some ⟨bb, bo, none⟩) m.blocks.length bc, .int .i64 m.actual])) 110 rfl rfl (by kernel_rfl) (by kernel_rfl) (by kernel_rfl) (by kernel_rfl) (fun _ _ _ h => h) (yieldsIf_load_mid (by rfl) 30 _ rfl w.heap.size 0 rfl [.slice (some ⟨fb, fo, none⟩) m.facts.length fc, .slice (some ⟨bb, bo, none⟩) m.blocks.length bc, .int .i64 m.actual] _ HRG.out Tryz.underlying30 rfl Tryz.sizeMd) hHeld ?_
            simp only [Act.put, List.setIfInBounds_toArray, List.set_cons_zero, List.set_cons_succ]
            refine takeA (i := 8) (v := .int .i64 q) 111 rfl rfl (by kernel_rfl) (by kernel_rfl) (by kernel_rfl) (by kernel_rfl) (fun _ _ _ h => h) (Or.inl ⟨by rfl, by intro W hSw; go_simp⟩) hHeld ?_
            simp only [Act.put, List.setIfInBounds_toArray, List.set_cons_zero, List.set_cons_succ]
            refine takeA (i := 9) (v := .int .i64 y) 112 rfl rfl (by kernel_rfl) (by kernel_rfl) (by kernel_rfl) (by kernel_rfl) (fun _ _ _ h => h) (Or.inl ⟨by rfl, by intro W hSw; go_simp⟩) hHeld ?_
            simp only [Act.put, List.setIfInBounds_toArray, List.set_cons_zero, List.set_cons_succ]
            refine takeA (i := 11) (v := .int .i64 s) 114 rfl rfl (by kernel_rfl) (by kernel_rfl) (by kernel_rfl) (by kernel_rfl) (fun _ _ _ h => h) (Or.inl ⟨by rfl, by intro W hSw; go_simp⟩) hHeld ?_
            simp only [Act.put, List.setIfInBounds_toArray, List.set_cons_zero, List.set_cons_succ]
            generalize (World.drew _) = wd at hHeld ⊢
            refine onlyL (i := 1) (by kernel_rfl) rfl (by rfl) (fun K hK => ?_)
            go_simp
            refine (KF.out _).mono ?_
            rintro e w11 ⟨rfl, hb11⟩
            have t11 : Below w4.heap.size w4 w11 := hHeld.trans (hb11.mono hHeld.size)
            clear hb11 hHeld
            refine hK.out _ _ (fun _ => t11) (fun _ => ?_)
            clear hK K
            have hHeld := t11
            try simp only [Act.put, List.setIfInBounds_toArray, List.set_cons_zero, List.set_cons_succ]
            refine takeA (i := 2) (v := .string (⟨#[45, 75]⟩ ++ sk)) 105 rfl rfl (by kernel_rfl) (by kernel_rfl) (by kernel_rfl) (by kernel_rfl) (fun _ _ _ h => h) (Or.inl ⟨by rfl, by intro W hSw; go_simp⟩) hHeld ?_
            simp only [Act.put, List.setIfInBounds_toArray, List.set_cons_zero, List.set_cons_succ]
            refine takeA (i := 3) (v := .string (⟨#[45, 75]⟩ ++ sk ++ ⟨#[45]⟩)) 106 rfl rfl (by kernel_rfl) (by kernel_rfl) (by kernel_rfl) (by kernel_rfl) (fun _ _ _ h => h) (Or.inl ⟨by rfl, by intro W hSw; go_simp⟩) hHeld ?_
            simp only [Act.put, List.setIfInBounds_toArray, List.set_cons_zero, List.set_cons_succ]
            clear hHeld
            refine onlyL (i := 10) (by kernel_rfl) rfl (by rfl) (fun K hK => ?_)
            go_simp
            refine (KB.out y _ (B4.out.trans (t11.mono B4.out.size)) HYN.out).mono ?_
            rintro e w12 ⟨v12, rfl, ho12, hb12⟩
            have t12 : Below w4.heap.size w4 w12 := t11.trans (hb12.mono t11.size)
            have R12 := Lib.hid ho12.read
            obtain ⟨va, vc, hv⟩ := ho12.read.form
            subst hv
            clear hb12 ho12
            refine hK.out _ _ (fun _ => t12) (fun _ => ?_)
            clear hK K
            try simp only [Act.put, List.setIfInBounds_toArray, List.set_cons_zero, List.set_cons_succ]
            refine onlyL (i := 12) (by kernel_rfl) rfl (by rfl) (fun K hK => ?_)
            go_simp
            refine (KA.out _ _ _ _ (B4.out.trans (t12.mono B4.out.size)) R12.out).mono ?_
            rintro e w13 ⟨rfl, hb13⟩
            have t13 : Below w4.heap.size w4 w13 := t12.trans (hb13.mono t12.size)
            clear hb13
            refine hK.out _ _ (fun _ => t13) (fun _ => ?_)
            clear hK K
            have hHeld := t13
            try simp only [Act.put, List.setIfInBounds_toArray, List.set_cons_zero, List.set_cons_succ]
            refine takeA (i := 13) (v := .string (⟨#[45, 75]⟩ ++ sk ++ ⟨#[45]⟩ ++ sg)) 116 rfl rfl (by kernel_rfl) (by kernel_rfl) (by kernel_rfl) (by kernel_rfl) (fun _ _ _ h => h) (Or.inl ⟨by rfl, by intro W hSw; go_simp⟩) hHeld ?_
            simp only [Act.put, List.setIfInBounds_toArray, List.set_cons_zero, List.set_cons_succ]
            refine takeA (i := 14) (v := .string (⟨#[45, 75]⟩ ++ sk ++ ⟨#[45]⟩ ++ sg)) 8 rfl rfl (by kernel_rfl) (by kernel_rfl) (by kernel_rfl) (by kernel_rfl) (fun _ _ _ h => h) (Or.inl ⟨by rfl, by intro W hSw; go_simp⟩) hHeld ?_
            simp only [Act.put, List.setIfInBounds_toArray, List.set_cons_zero, List.set_cons_succ]
            clear hHeld
            refine doneL (by kernel_rfl) ?_ _
            try simp only [Act.put, List.setIfInBounds_toArray, List.set_cons_zero, List.set_cons_succ]
            go_wp2
            go_ret
            exact ⟨ret_str HT.out, B4.out.trans (t13.mono B4.out.size)⟩
          · rw [e1] at KX1
            rw [e2] at KX2
            obtain ⟨r, hr⟩ : ∃ r : Int, r = missV none := ⟨_, rfl⟩
            rw [← hr] at KX1
            obtain rfl : r = -1 := hr
            obtain ⟨r, hr⟩ : ∃ r : Int, r = missV (some z) := ⟨_, rfl⟩
            rw [← hr] at KX2
            obtain rfl : r = (z : Int) := hr
            have HT := Lib.hid HT2.out
            clear e1 e2 HZ HT1 HT2
            simp only [Bool.false_eq_true, if_false] at KA
            go_wp2
            have HRG := Lib.hid (fun W (h : Below wr.heap.size wr W) => (X3.out.below h).range)
            have HRSW := Lib.hid (fun W (h : Below wr.heap.size wr W) => (HRS.out W (B3.out.trans (h.mono B3.out.size))).1)
            refine regionL (fun U => Below wr.heap.size wr U) [] (by kernel_rfl) (Below.refl _ _).drew (fun hHeld => ?_)
            refine takeA (i := 0) (v := (.agg #[.slice (some ⟨fb, fo, none⟩) m.facts.length fc, .slice (some ⟨bb, bo, none⟩) m.blocks.length bc, .int .i64 m.actual])) 92 rfl rfl (by kernel_rfl) (by kernel_rfl) (by kernel_rfl) (by kernel_rfl) (fun _ _ _ h => h) (yieldsIf_load_mid (by rfl) 30 _ rfl w.heap.size 0 rfl [.slice (some ⟨fb, fo, none⟩) m.facts.length fc, .slice (some ⟨bb, bo, none⟩) m.blocks.length bc, .int .i64 m.actual] _ HRG.out Tryz.underlying30 rfl Tryz.sizeMd) hHeld ?_
            simp only [Act.put, List.setIfInBounds_toArray, List.set_cons_zero, List.set_cons_succ]
            refine takeA (i := 1) (v := .int .i64 q) 93 rfl rfl (by kernel_rfl) (by kernel_rfl) (by kernel_rfl) (by kernel_rfl) (fun _ _ _ h => h) (Or.inl ⟨by rfl, by intro W hSw; go_simp⟩) hHeld ?_
            simp only [Act.put, List.setIfInBounds_toArray, List.set_cons_zero, List.set_cons_succ]
            refine takeA (i := 2) (v := (.slice (some ⟨sb, so, none⟩) (stab m + 1) sc)) 94 rfl rfl (by kernel_rfl) (by kernel_rfl) (by kernel_rfl) (by kernel_rfl) (fun _ _ _ h => h) (Or.inl ⟨by rfl, by intro W hSw; go_simp⟩) hHeld ?_
            simp only [Act.put, List.setIfInBounds_toArray, List.set_cons_zero, List.set_cons_succ]
            refine takeA (i := 3) (v := .int .i64 s) 95 rfl rfl (by kernel_rfl) (by kernel_rfl) (by kernel_rfl) (by kernel_rfl) (fun _ _ _ h => h) (Or.inl ⟨by rfl, by intro W hSw; go_simp⟩) hHeld ?_
            simp only [Act.put, List.setIfInBounds_toArray, List.set_cons_zero, List.set_cons_succ]
            refine takeA (i := 6) (v := .int .i64 x) 98 rfl rfl (by kernel_rfl) (by kernel_rfl) (by kernel_rfl) (by kernel_rfl) (fun _ _ _ h => h) (Or.inl ⟨by rfl, by intro W hSw; go_simp⟩) hHeld ?_
            simp only [Act.put, List.setIfInBounds_toArray, List.set_cons_zero, List.set_cons_succ]
            refine takeA (i := 7) (v := .int .i64 y) 99 rfl rfl (by kernel_rfl) (by kernel_rfl) (by kernel_rfl) (by kernel_rfl) (fun _ _ _ h => h) (Or.inl ⟨by rfl, by intro W hSw; go_simp⟩) hHeld ?_
            simp only [Act.put, List.setIfInBounds_toArray, List.set_cons_zero, List.set_cons_succ]
            refine takeA (i := 4) (v := .pointer (some ⟨sb, so + s, none⟩)) 96 rfl rfl (by kernel_rfl) (by kernel_rfl) (by kernel_rfl) (by kernel_rfl) (fun _ _ _ h => h) (Or.inl ⟨by rfl, by intro W hSw; go_simp⟩) hHeld ?_
            simp only [Act.put, List.setIfInBounds_toArray, List.set_cons_zero, List.set_cons_succ]
            refine takeA (i := 5) (v := .slice (some ⟨rb, ro, none⟩) m.facts.length rc) 97 rfl rfl (by kernel_rfl) (by kernel_rfl) (by kernel_rfl) (by kernel_rfl) (fun _ _ _ h => h) (Or.inl ⟨by rfl, by intro W hSw; have c1 := HRSW.out _ hSw; go_simp⟩) hHeld ?_
            simp only [Act.put, List.setIfInBounds_toArray, List.set_cons_zero, List.set_cons_succ]
            generalize (World.drew _) = wd at hHeld ⊢
            refine onlyL (i := 8) (by kernel_rfl) rfl (by rfl) (fun K hK => ?_)
            go_simp
            refine (KX1.out _ (B3.out.trans (hHeld.mono B3.out.size))).mono ?_
            rintro e w4 ⟨rfl, hb4⟩
            have t4 : Below wr.heap.size wr w4 := hHeld.trans (hb4.mono hHeld.size)
            have X4 := Lib.hid (X3.out.below t4)
            have B4 := Lib.hid (B3.out.trans (t4.mono B3.out.size))
            clear hb4 hHeld
            refine hK.out _ _ (fun _ => t4) (fun _ => ?_)
            clear hK K
            have hHeld := t4
            try simp only [Act.put, List.setIfInBounds_toArray, List.set_cons_zero, List.set_cons_succ]
            refine takeA (i := 9) (v := .int .i64 (-1)) 13 rfl rfl (by kernel_rfl) (by kernel_rfl) (by kernel_rfl) (by kernel_rfl) (fun _ _ _ h => h) (Or.inl ⟨by rfl, by intro W hSw; go_simp⟩) hHeld ?_
            simp only [Act.put, List.setIfInBounds_toArray, List.set_cons_zero, List.set_cons_succ]
            clear hHeld t4
            refine doneL (by kernel_rfl) ?_ _
            try simp only [Act.put, List.setIfInBounds_toArray, List.set_cons_zero, List.set_cons_succ]
            clear HRG HRSW
            go_wp2
            have HRG := Lib.hid (fun W (h : Below w4.heap.size w4 W) => (X4.out.below h).range)
            have HRSW := Lib.hid (fun W (h : Below w4.heap.size w4 W) => (HRS.out W (B4.out.trans (h.mono B4.out.size))).1)
            refine regionL (fun U => Below w4.heap.size w4 U) [] (by kernel_rfl) (Below.refl _ _).drew (fun hHeld => ?_)
            refine takeA (i := 0) (v := (.agg #[.slice (some ⟨fb, fo, none⟩) m.facts.length fc, .slice (some ⟨bb, bo, none⟩) m.blocks.length bc, .int .i64 m.actual])) 117 rfl rfl (by kernel_rfl) (by kernel_rfl) (by kernel_rfl) (by kernel_rfl) (fun _ _ _ h => h) (yieldsIf_load_mid (by rfl) 30 _ rfl w.heap.size 0 rfl [.slice (some ⟨fb, fo, none⟩) m.facts.length fc, .slice (some ⟨bb, bo, none⟩) m.blocks.length bc, .int .i64 m.actual] _ HRG.out Tryz.underlying30 rfl Tryz.sizeMd) hHeld ?_
            simp only [Act.put, List.setIfInBounds_toArray, List.set_cons_zero, List.set_cons_succ]
            refine takeA (i := 1) (v := .int .i64 q) 118 rfl rfl (by kernel_rfl) (by kernel_rfl) (by kernel_rfl) (by kernel_rfl) (fun _ _ _ h => h) (Or.inl ⟨by rfl, by intro W hSw; go_simp⟩) hHeld ?_
            simp only [Act.put, List.setIfInBounds_toArray, List.set_cons_zero, List.set_cons_succ]
            refine takeA (i := 2) (v := (.slice (some ⟨sb, so, none⟩) (stab m + 1) sc)) 119 rfl rfl (by kernel_rfl) (by kernel_rfl) (by kernel_rfl) (by kernel_rfl) (fun _ _ _ h => h) (Or.inl ⟨by rfl, by intro W hSw; go_simp⟩) hHeld ?_
            simp only [Act.put, List.setIfInBounds_toArray, List.set_cons_zero, List.set_cons_succ]
            refine takeA (i := 3) (v := .int .i64 s) 120 rfl rfl (by kernel_rfl) (by kernel_rfl) (by kernel_rfl) (by kernel_rfl) (fun _ _ _ h => h) (Or.inl ⟨by rfl, by intro W hSw; go_simp⟩) hHeld ?_
            simp only [Act.put, List.setIfInBounds_toArray, List.set_cons_zero, List.set_cons_succ]
            refine takeA (i := 6) (v := .int .i64 y) 123 rfl rfl (by kernel_rfl) (by kernel_rfl) (by kernel_rfl) (by kernel_rfl) (fun _ _ _ h => h) (Or.inl ⟨by rfl, by intro W hSw; go_simp⟩) hHeld ?_
            simp only [Act.put, List.setIfInBounds_toArray, List.set_cons_zero, List.set_cons_succ]
            refine takeA (i := 7) (v := .int .i64 x) 124 rfl rfl (by kernel_rfl) (by kernel_rfl) (by kernel_rfl) (by kernel_rfl) (fun _ _ _ h => h) (Or.inl ⟨by rfl, by intro W hSw; go_simp⟩) hHeld ?_
            simp only [Act.put, List.setIfInBounds_toArray, List.set_cons_zero, List.set_cons_succ]
            refine takeA (i := 4) (v := .pointer (some ⟨sb, so + s, none⟩)) 121 rfl rfl (by kernel_rfl) (by kernel_rfl) (by kernel_rfl) (by kernel_rfl) (fun _ _ _ h => h) (Or.inl ⟨by rfl, by intro W hSw; go_simp⟩) hHeld ?_
            simp only [Act.put, List.setIfInBounds_toArray, List.set_cons_zero, List.set_cons_succ]
            refine takeA (i := 5) (v := .slice (some ⟨rb, ro, none⟩) m.facts.length rc) 122 rfl rfl (by kernel_rfl) (by kernel_rfl) (by kernel_rfl) (by kernel_rfl) (fun _ _ _ h => h) (Or.inl ⟨by rfl, by intro W hSw; have c1 := HRSW.out _ hSw; go_simp⟩) hHeld ?_
            simp only [Act.put, List.setIfInBounds_toArray, List.set_cons_zero, List.set_cons_succ]
            generalize (World.drew _) = wd at hHeld ⊢
            refine onlyL (i := 8) (by kernel_rfl) rfl (by rfl) (fun K hK => ?_)
            go_simp
            refine (KX2.out _ (B4.out.trans (hHeld.mono B4.out.size))).mono ?_
            rintro e w5 ⟨rfl, hb5⟩
            have t5 : Below w4.heap.size w4 w5 := hHeld.trans (hb5.mono hHeld.size)
            have X5 := Lib.hid (X4.out.below t5)
            have B5 := Lib.hid (B4.out.trans (t5.mono B4.out.size))
            clear hb5 hHeld
            refine hK.out _ _ (fun _ => t5) (fun _ => ?_)
            clear hK K
            have hHeld := t5
            try simp only [Act.put, List.setIfInBounds_toArray, List.set_cons_zero, List.set_cons_succ]
            refine takeA (i := 9) (v := .int .i64 z) 13 rfl rfl (by kernel_rfl) (by kernel_rfl) (by kernel_rfl) (by kernel_rfl) (fun _ _ _ h => h) (Or.inl ⟨by rfl, by intro W hSw; go_simp⟩) hHeld ?_
            simp only [Act.put, List.setIfInBounds_toArray, List.set_cons_zero, List.set_cons_succ]
            clear hHeld t5
            refine doneL (by kernel_rfl) ?_ _
            try simp only [Act.put, List.setIfInBounds_toArray, List.set_cons_zero, List.set_cons_succ]
            clear HRG HRSW
            go_wp2
            have zl0 : (⟨#[75]⟩ : ByteArray).size ≤ 2 := by decide
            have zl1 : (⟨#[45]⟩ : ByteArray).size = 1 := rfl
            have hadd0 := fun W => run_string_add_sum (P := Tryz.prog) W ⟨#[75]⟩ sk (by omega)
            have hadd1 := fun W => run_string_add_sum (P := Tryz.prog) W (⟨#[75]⟩ ++ sk) ⟨#[45]⟩ (by simp only [ByteArray.size_append]; omega)
            have hadd2 := fun W => run_string_add_sum (P := Tryz.prog) W (⟨#[75]⟩ ++ sk ++ ⟨#[45]⟩) sg (by simp only [ByteArray.size_append]; omega)
            clear zl0 zl1 zk zg
            have HRG := Lib.hid (fun W (h : Below w5.heap.size w5 W) => (X5.out.below h).range)
            have HRSW := Lib.hid (fun W (h : Below w5.heap.size w5 W) => (HRS.out W (B5.out.trans (h.mono B5.out.size))).1)
            refine regionL (fun U => Below w5.heap.size w5 U) [] (by kernel_rfl) (Below.refl _ _).drew (fun hHeld => ?_)
            refine takeA (i := 0) (v := .int .i64 q) 128 rfl rfl (by kernel_rfl) (by kernel_rfl) (by kernel_rfl) (by kernel_rfl) (fun _ _ _ h => h) (Or.inl ⟨by rfl, by intro W hSw; go_simp⟩) hHeld ?_
            simp only [Act.put, List.setIfInBounds_toArray, List.set_cons_zero, List.set_cons_succ]
            refine takeA (i := 4) (v := (.agg #[.slice (some ⟨fb, fo, none⟩) m.facts.length fc, .slice (some ⟨bb, bo, none⟩) m.blocks.length bc, .int .i64 m.actual])) 132 rfl rfl (by kernel_rfl) (by kernel_rfl) (by kernel_rfl) (by kernel_rfl) (fun _ _ _ h => h) (yieldsIf_load_mid (by rfl) 30 _ rfl w.heap.size 0 rfl [.slice (some ⟨fb, fo, none⟩) m.facts.length fc, .slice (some ⟨bb, bo, none⟩) m.blocks.length bc, .int .i64 m.actual] _ HRG.out Tryz.underlying30 rfl Tryz.sizeMd) hHeld ?_
            simp only [Act.put, List.setIfInBounds_toArray, List.set_cons_zero, List.set_cons_succ]
            refine takeA (i := 5) (v := (.slice (some ⟨sb, so, none⟩) (stab m + 1) sc)) 133 rfl rfl (by kernel_rfl) (by kernel_rfl) (by kernel_rfl) (by kernel_rfl) (fun _ _ _ h => h) (Or.inl ⟨by rfl, by intro W hSw; go_simp⟩) hHeld ?_
            simp only [Act.put, List.setIfInBounds_toArray, List.set_cons_zero, List.set_cons_succ]
            refine takeA (i := 6) (v := .int .i64 z) 134 rfl rfl (by kernel_rfl) (by kernel_rfl) (by kernel_rfl) (by kernel_rfl) (fun _ _ _ h => h) (Or.inl ⟨by rfl, by intro W hSw; go_simp⟩) hHeld ?_
            simp only [Act.put, List.setIfInBounds_toArray, List.set_cons_zero, List.set_cons_succ]
            refine takeA (i := 7) (v := (.agg #[.slice (some ⟨fb, fo, none⟩) m.facts.length fc, .slice (some ⟨bb, bo, none⟩) m.blocks.length bc, .int .i64 m.actual])) 135 rfl rfl (by kernel_rfl) (by kernel_rfl) (by kernel_rfl) (by kernel_rfl) (fun _ _ _ h => h) (yieldsIf_load_mid (by rfl) 30 _ rfl w.heap.size 0 rfl [.slice (some ⟨fb, fo, none⟩) m.facts.length fc, .slice (some ⟨bb, bo, none⟩) m.blocks.length bc, .int .i64 m.actual] _ HRG.out Tryz.underlying30 rfl Tryz.sizeMd) hHeld ?_
            simp only [Act.put, List.setIfInBounds_toArray, List.set_cons_zero, List.set_cons_succ]
            refine takeA (i := 8) (v := .int .i64 q) 136 rfl rfl (by kernel_rfl) (by kernel_rfl) (by kernel_rfl) (by kernel_rfl) (fun _ _ _ h => h) (Or.inl ⟨by rfl, by intro W hSw; go_simp⟩) hHeld ?_
            simp only [Act.put, List.setIfInBounds_toArray, List.set_cons_zero, List.set_cons_succ]
            refine takeA (i := 9) (v := .int .i64 x) 137 rfl rfl (by kernel_rfl) (by kernel_rfl) (by kernel_rfl) (by kernel_rfl) (fun _ _ _ h => h) (Or.inl ⟨by rfl, by intro W hSw; go_simp⟩) hHeld ?_
            simp only [Act.put, List.setIfInBounds_toArray, List.set_cons_zero, List.set_cons_succ]
            refine takeA (i := 11) (v := .int .i64 s) 139 rfl rfl (by kernel_rfl) (by kernel_rfl) (by kernel_rfl) (by kernel_rfl) (fun _ _ _ h => h) (Or.inl ⟨by rfl, by intro W hSw; go_simp⟩) hHeld ?_
            simp only [Act.put, List.setIfInBounds_toArray, List.set_cons_zero, List.set_cons_succ]
            generalize (World.drew _) = wd at hHeld ⊢
            refine onlyL (i := 1) (by kernel_rfl) rfl (by rfl) (fun K hK => ?_)
            go_simp
            refine (KF.out _).mono ?_
            rintro e w11 ⟨rfl, hb11⟩
            have t11 : Below w5.heap.size w5 w11 := hHeld.trans (hb11.mono hHeld.size)
            clear hb11 hHeld
            refine hK.out _ _ (fun _ => t11) (fun _ => ?_)
            clear hK K
            have hHeld := t11
            try simp only [Act.put, List.setIfInBounds_toArray, List.set_cons_zero, List.set_cons_succ]
            refine takeA (i := 2) (v := .string (⟨#[75]⟩ ++ sk)) 130 rfl rfl (by kernel_rfl) (by kernel_rfl) (by kernel_rfl) (by kernel_rfl) (fun _ _ _ h => h) (Or.inl ⟨by rfl, by intro W hSw; go_simp⟩) hHeld ?_
            simp only [Act.put, List.setIfInBounds_toArray, List.set_cons_zero, List.set_cons_succ]
            refine takeA (i := 3) (v := .string (⟨#[75]⟩ ++ sk ++ ⟨#[45]⟩)) 131 rfl rfl (by kernel_rfl) (by kernel_rfl) (by kernel_rfl) (by kernel_rfl) (fun _ _ _ h => h) (Or.inl ⟨by rfl, by intro W hSw; go_simp⟩) hHeld ?_
            simp only [Act.put, List.setIfInBounds_toArray, List.set_cons_zero, List.set_cons_succ]
            clear hHeld
            refine onlyL (i := 10) (by kernel_rfl) rfl (by rfl) (fun K hK => ?_)
            go_simp
            refine (KB.out x _ (B5.out.trans (t11.mono B5.out.size)) HXN.out).mono ?_
            rintro e w12 ⟨v12, rfl, ho12, hb12⟩
            have t12 : Below w5.heap.size w5 w12 := t11.trans (hb12.mono t11.size)
            have R12 := Lib.hid ho12.read
            obtain ⟨va, vc, hv⟩ := ho12.read.form
            subst hv
            clear hb12 ho12
            refine hK.out _ _ (fun _ => t12) (fun _ => ?_)
            clear hK K
            try simp only [Act.put, List.setIfInBounds_toArray, List.set_cons_zero, List.set_cons_succ]
            refine onlyL (i := 12) (by kernel_rfl) rfl (by rfl) (fun K hK => ?_)
            go_simp
            refine (KA.out _ _ _ _ (B5.out.trans (t12.mono B5.out.size)) R12.out).mono ?_
            rintro e w13 ⟨rfl, hb13⟩
            have t13 : Below w5.heap.size w5 w13 := t12.trans (hb13.mono t12.size)
            clear hb13
            refine hK.out _ _ (fun _ => t13) (fun _ => ?_)
            clear hK K
            have hHeld := t13
            try simp only [Act.put, List.setIfInBounds_toArray, List.set_cons_zero, List.set_cons_succ]
            refine takeA (i := 13) (v := .string (⟨#[75]⟩ ++ sk ++ ⟨#[45]⟩ ++ sg)) 141 rfl rfl (by kernel_rfl) (by kernel_rfl) (by kernel_rfl) (by kernel_rfl) (fun _ _ _ h => h) (Or.inl ⟨by rfl, by intro W hSw; go_simp⟩) hHeld ?_
            simp only [Act.put, List.setIfInBounds_toArray, List.set_cons_zero, List.set_cons_succ]
            refine takeA (i := 14) (v := .string (⟨#[75]⟩ ++ sk ++ ⟨#[45]⟩ ++ sg)) 8 rfl rfl (by kernel_rfl) (by kernel_rfl) (by kernel_rfl) (by kernel_rfl) (fun _ _ _ h => h) (Or.inl ⟨by rfl, by intro W hSw; go_simp⟩) hHeld ?_
            simp only [Act.put, List.setIfInBounds_toArray, List.set_cons_zero, List.set_cons_succ]
            clear hHeld
            refine doneL (by kernel_rfl) ?_ _
            try simp only [Act.put, List.setIfInBounds_toArray, List.set_cons_zero, List.set_cons_succ]
            go_wp2
            go_ret
            exact ⟨ret_str HT.out, B5.out.trans (t13.mono B5.out.size)⟩
end Go.Proofs.YtnpfnfenkklocaaGreatDoor
