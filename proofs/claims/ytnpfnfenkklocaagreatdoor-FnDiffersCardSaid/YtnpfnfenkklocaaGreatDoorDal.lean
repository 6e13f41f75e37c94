/- Dal -/
import Derived.Test.YtnpfnfenkklocaaGreatDoorZDfm
set_option maxRecDepth 100000
set_option maxHeartbeats 64000000
namespace Go.Proofs.YtnpfnfenkklocaaGreatDoor
open Go.RowKit Go.WideShapes
open Go Go.Deep
set_option linter.unusedSimpArgs false
theorem iv_tail {w : World} {a b : Nat} {L : List Nat} {ub uo uc : Nat} (h1 : (a :: b :: L).length ≤ uc) (h2 : uc ≤ maxLen) (h3 : ub < w.heap.size) (hc : ∀ j, j < (a :: b :: L).length → w.cell? ⟨ub, uo + j, none⟩ = some (.int .i64 ((nums (a :: b :: L)).getD j 0))) :
    Iv 0 w.heap.size w (.slice (some ⟨ub, uo + 1, none⟩) (b :: L).length (uc - 1)) (nums (b :: L)) := by
  refine ⟨_, _, by rw [ints_len, nums_len], by rw [ints_len, nums_len]; simp only [List.length_cons] at h1 ⊢; omega, by omega, .inr ⟨ub, uo + 1, rfl, Nat.zero_le _, h3, h3, fun j x hx => ?_⟩⟩
  obtain ⟨hj, _⟩ := List.getElem?_eq_some_iff.1 hx
  rw [ints_len, nums_len] at hj
  rw [ints_at (by rw [nums_len]; exact hj)] at hx
  have := hc (j + 1) (by simp only [List.length_cons] at hj ⊢; omega)
  rw [show uo + 1 + j = uo + (j + 1) by omega, this, ← hx]
  rfl
theorem diffAll_any (G : List Int) (hG : G.length = 67) (sv : Value) (T : Nat → Tm) (x : Nat) (B0 : World) : ∀ (L : List Nat), L ≠ [] → (∀ y ∈ L, (T y).wf) →
    (∀ y ∈ L, ∀ W, Below B0.heap.size B0 W → Calls Tryz.prog 33 #[.agg (ints G).toArray, sv, .int .i64 x, .int .i64 y] W (Ans W (combL (T y)))) →
    ∀ (lo hi : Nat) (vv : Value) (w : World), Below B0.heap.size B0 w → Iv lo hi w vv (nums L) →
    Calls Tryz.prog 99 #[.agg (ints G).toArray, sv, .int .i64 x, vv] w (Ans w (combL (conjT (L.map T))))
  | [], h, _, _, _, _, _, _, _, _ => absurd rfl h
  | y :: L, _, hw, hD, lo, hi, vv, w, hB, hv => by
    obtain ⟨ub, uo, uc, rfl, u1, u2, u3, hU⟩ := iv_open hv (by simp [nums])
    rw [nums_len] at u1 hU ⊢
    have HL : Hid ((ints G).length = 67) := hid (by rw [ints_len]; exact hG)
    have KD := hid (fun W (h : Below w.heap.size w W) => hD y (List.mem_cons_self ..) W (hB.trans (h.mono hB.size)))
    have HU : Hid (∀ W, Below w.heap.size w W → W.cell? ⟨ub, uo, none⟩ = some (.int .i64 y)) := hid (fun W hW => by have h := hU W hW 0 (by simp); rw [Nat.add_zero] at h; exact h)
    have c0 : Hid (Cm (w.alloc (.cells (ints G).toArray 59)) w.heap.size 59 (ints G)) := hid (Cm.new rfl)
    have hwy := hw y (List.mem_cons_self ..)
    have huc : uc ≤ 2 ^ 63 - 1 := u2
    have hUg : Tryz.prog.underlying 59 = some _ := Tryz.underlying59
    rcases comb_cases hwy with ⟨k1, k2, k3, k4⟩ | ⟨k1, k2⟩
    · cases L with
      | nil =>
        show Calls _ _ _ _ (Ans w (combL (T y)))
        rw [k1] at KD ⊢
        unfold Ans at KD ⊢
        simp only [Option.isSome_some, Option.getD_some] at KD ⊢
        generalize lay 0 (T y) = xs at *
        clear hD hv hU hw k1 k2 k3 k4 hwy
        simp only [List.length_cons, List.length_nil, Nat.zero_add] at u1 ⊢
        go_enter Tryz.func99, Tryz.ntmps99
        go_wp2
        have b0 : Below w.heap.size w (w.alloc (.cells (ints G).toArray 59)) := by go_grown
        generalize w.alloc (.cells (ints G).toArray 59) = w1 at *
        have B1 := hid b0
        clear b0
        have HGW : Hid (∀ W, Below w1.heap.size w1 W → W.rangeAt w.heap.size 0 (ints G)) := hid (fun W hW => (c0.out.all hW).whole)
        have HUW : Hid (∀ W, Below w1.heap.size w1 W → W.cell? ⟨ub, uo, none⟩ = some (.int .i64 y)) := hid (fun W hW => HU.out W (B1.out.trans (hW.mono B1.out.size)))
        have HUg := hUg
        refine regionL (fun W => Below w1.heap.size w1 W) [] (by kernel_rfl) (Below.refl _ _).drew (fun hHeld => ?_)
        refine takeA (i := 0) (v := .agg (ints G).toArray) 14 rfl rfl (by kernel_rfl) (by kernel_rfl) (by kernel_rfl) (by kernel_rfl) (fun _ _ _ h => h) (yieldsIf_load_mid (by rfl) 59 _ rfl w.heap.size 0 rfl (ints G) _ HGW.out HUg rfl (by rw [HL.out]; exact Tryz.sizeGrid)) hHeld ?_
        simp only [Act.put, zA, zB, zC]
        refine takeA (i := 1) (v := sv) 15 rfl rfl (by kernel_rfl) (by kernel_rfl) (by kernel_rfl) (by kernel_rfl) (fun _ _ _ h => h) (Or.inl ⟨by rfl, by intro W hSw; go_simp⟩) hHeld ?_
        simp only [Act.put, zA, zB, zC]
        refine takeA (i := 2) (v := .int .i64 x) 16 rfl rfl (by kernel_rfl) (by kernel_rfl) (by kernel_rfl) (by kernel_rfl) (fun _ _ _ h => h) (Or.inl ⟨by rfl, by intro W hSw; go_simp⟩) hHeld ?_
        simp only [Act.put, zA, zB, zC]
        refine takeA (i := 3) (v := .slice (some ⟨ub, uo, none⟩) 1 uc) 17 rfl rfl (by kernel_rfl) (by kernel_rfl) (by kernel_rfl) (by kernel_rfl) (fun _ _ _ h => h) (Or.inl ⟨by rfl, by intro W hSw; go_simp⟩) hHeld ?_
        simp only [Act.put, zA, zB, zC]
        refine takeA (i := 4) (v := .pointer (some ⟨ub, uo, none⟩)) 18 rfl rfl (by kernel_rfl) (by kernel_rfl) (by kernel_rfl) (by kernel_rfl) (fun _ _ _ h => h) (Or.inl ⟨by rfl, by intro W hSw; go_simp⟩) hHeld ?_
        simp only [Act.put, zA, zB, zC]
        refine takeA (i := 5) (v := .int .i64 y) 19 rfl rfl (by kernel_rfl) (by kernel_rfl) (by kernel_rfl) (by kernel_rfl) (fun _ _ _ h => h) (Or.inl ⟨by rfl, by intro W hSw; have c1 := HUW.out _ hSw; go_simp⟩) hHeld ?_
        simp only [Act.put, zA, zB, zC]
        generalize w1.drew = wd at hHeld ⊢
        refine onlyL (i := 6) (by kernel_rfl) rfl (by rfl) (fun K hK => ?_)
        go_simp
        refine (KD.out _ (B1.out.trans (hHeld.mono B1.out.size))).mono ?_
        rintro e w5 ⟨v5, rfl, ho5, hb5⟩
        have t5 : Below w1.heap.size w1 w5 := hHeld.trans (hb5.mono hHeld.size)
        have O5 := hid (own_mono ho5 (Nat.le_trans B1.out.size hHeld.size))
        clear ho5 hb5 hHeld
        refine hK.out _ _ (fun _ => t5) (fun _ => ?_)
        clear hK K
        have hHeld := t5
        try simp only [Act.put, zA, zB, zC]
        refine takeA (i := 7) (v := .tuple #[v5, .bool true]) 13 rfl rfl (by kernel_rfl) (by kernel_rfl) (by kernel_rfl) (by kernel_rfl) (fun _ _ _ h => h) (Or.inl ⟨by rfl, by intro W hSw; go_simp⟩) hHeld ?_
        simp only [Act.put, zA, zB, zC]
        refine takeA (i := 8) (v := v5) 21 rfl rfl (by kernel_rfl) (by kernel_rfl) (by kernel_rfl) (by kernel_rfl) (fun _ _ _ h => h) (Or.inl ⟨by rfl, by intro W hSw; go_simp⟩) hHeld ?_
        simp only [Act.put, zA, zB, zC]
        refine takeA (i := 9) (v := .bool true) 22 rfl rfl (by kernel_rfl) (by kernel_rfl) (by kernel_rfl) (by kernel_rfl) (fun _ _ _ h => h) (Or.inl ⟨by rfl, by intro W hSw; go_simp⟩) hHeld ?_
        simp only [Act.put, zA, zB, zC]
        refine takeA (i := 10) (v := v5) 10 rfl rfl (by kernel_rfl) (by kernel_rfl) (by kernel_rfl) (by kernel_rfl) (fun _ _ _ h => h) (Or.inl ⟨by rfl, by intro W hSw; go_simp⟩) hHeld ?_
        simp only [Act.put, zA, zB, zC]
        refine takeA (i := 11) (v := .bool true) 11 rfl rfl (by kernel_rfl) (by kernel_rfl) (by kernel_rfl) (by kernel_rfl) (fun _ _ _ h => h) (Or.inl ⟨by rfl, by intro W hSw; go_simp⟩) hHeld ?_
        simp only [Act.put, zA, zB, zC]
        clear hHeld
        refine doneL (by kernel_rfl) ?_ _
        try simp only [Act.put, zA, zB, zC]
        have B5 : Hid (Below w.heap.size w w5) := hid (B1.out.trans (t5.mono B1.out.size))
        go_wp2
        go_returns
        exact ⟨_, rfl, O5.out, B5.out⟩
      | cons z r =>
        have KR := hid (diffAll_any G hG sv T x B0 (z :: r) (by simp) (fun u hu => hw u (List.mem_cons_of_mem _ hu)) (fun u hu => hD u (List.mem_cons_of_mem _ hu)))
        have KI := hid (fun W (h : Below w.heap.size w W) => iv_tail (w := W) (a := y) (b := z) (L := r) (ub := ub) (uo := uo) (uc := uc) u1 u2 (Nat.lt_of_lt_of_le u3 h.size) (fun j hj => hU W h j hj))
        have HB0 := hid (fun W (h : Below w.heap.size w W) => hB.trans (h.mono hB.size))
        have hwz := conj_wf ((z :: r).map T) (fun t ht => by obtain ⟨u, hu, rfl⟩ := List.mem_map.1 ht; exact hw u (List.mem_cons_of_mem _ hu))
        show Calls _ _ _ _ (Ans w (combL (.joint 4 (T y) (conjT ((z :: r).map T)))))
        rw [k1] at KD
        have hlen : (y :: z :: r).length = (z :: r).length + 1 := rfl
        rw [hlen] at u1 ⊢
        have hlz : 0 < ((z :: r).length : Int) := by simp only [List.length_cons]; omega
        rcases comb_cases hwz with ⟨j1, j2, j3, j4⟩ | ⟨j1, j2⟩
        · -- both fit
          rw [j1] at KR
          have KC := hid (fun u v W hu hv => implConjoin_any u v (lay 0 (T y)) (lay 0 (conjT ((z :: r).map T))) W hu hv)
          rw [k2, j2, k3, j3] at KC
          simp only [Bool.and_self, if_true] at KC
          unfold Ans at KD KR KC ⊢
          simp only [Option.isSome_some, Option.getD_some] at KD KR
          generalize combL (.joint 4 (T y) (conjT ((z :: r).map T))) = R at *
          generalize hR1 : R.isSome = ok at *
          generalize hR2 : R.getD [] = zs at *
          generalize lay 0 (T y) = xs at *
          generalize lay 0 (conjT ((z :: r).map T)) = ys at *
          generalize (z :: r).length = n at *
          generalize nums (z :: r) = NL at *
          clear hR1 hR2 hD hv hU hw hwz k1 k2 k3 k4 j1 j2 j3 j4 hwy
          go_enter Tryz.func99, Tryz.ntmps99
          go_wp2
          have b0 : Below w.heap.size w (w.alloc (.cells (ints G).toArray 59)) := by go_grown
          generalize w.alloc (.cells (ints G).toArray 59) = w1 at *
          have B1 := hid b0
          clear b0
          have HGW : Hid (∀ W, Below w1.heap.size w1 W → W.rangeAt w.heap.size 0 (ints G)) := hid (fun W hW => (c0.out.all hW).whole)
          have HUW : Hid (∀ W, Below w1.heap.size w1 W → W.cell? ⟨ub, uo, none⟩ = some (.int .i64 y)) := hid (fun W hW => HU.out W (B1.out.trans (hW.mono B1.out.size)))
          have HUg := hUg
          refine regionL (fun W => Below w1.heap.size w1 W) [] (by kernel_rfl) (Below.refl _ _).drew (fun hHeld => ?_)
          refine takeA (i := 0) (v := .agg (ints G).toArray) 14 rfl rfl (by kernel_rfl) (by kernel_rfl) (by kernel_rfl) (by kernel_rfl) (fun _ _ _ h => h) (yieldsIf_load_mid (by rfl) 59 _ rfl w.heap.size 0 rfl (ints G) _ HGW.out HUg rfl (by rw [HL.out]; exact Tryz.sizeGrid)) hHeld ?_
          simp only [Act.put, zA, zB, zC]
          refine takeA (i := 1) (v := sv) 15 rfl rfl (by kernel_rfl) (by kernel_rfl) (by kernel_rfl) (by kernel_rfl) (fun _ _ _ h => h) (Or.inl ⟨by rfl, by intro W hSw; go_simp⟩) hHeld ?_
          simp only [Act.put, zA, zB, zC]
          refine takeA (i := 2) (v := .int .i64 x) 16 rfl rfl (by kernel_rfl) (by kernel_rfl) (by kernel_rfl) (by kernel_rfl) (fun _ _ _ h => h) (Or.inl ⟨by rfl, by intro W hSw; go_simp⟩) hHeld ?_
          simp only [Act.put, zA, zB, zC]
          refine takeA (i := 3) (v := .slice (some ⟨ub, uo, none⟩) (n + 1) uc) 17 rfl rfl (by kernel_rfl) (by kernel_rfl) (by kernel_rfl) (by kernel_rfl) (fun _ _ _ h => h) (Or.inl ⟨by rfl, by intro W hSw; go_simp⟩) hHeld ?_
          simp only [Act.put, zA, zB, zC]
          refine takeA (i := 4) (v := .pointer (some ⟨ub, uo, none⟩)) 18 rfl rfl (by kernel_rfl) (by kernel_rfl) (by kernel_rfl) (by kernel_rfl) (fun _ _ _ h => h) (Or.inl ⟨by rfl, by intro W hSw; go_simp <;> (intro h; omega)⟩) hHeld ?_
          simp only [Act.put, zA, zB, zC]
          refine takeA (i := 5) (v := .int .i64 y) 19 rfl rfl (by kernel_rfl) (by kernel_rfl) (by kernel_rfl) (by kernel_rfl) (fun _ _ _ h => h) (Or.inl ⟨by rfl, by intro W hSw; have c1 := HUW.out _ hSw; go_simp⟩) hHeld ?_
          simp only [Act.put, zA, zB, zC]
          generalize w1.drew = wd at hHeld ⊢
          refine onlyL (i := 6) (by kernel_rfl) rfl (by rfl) (fun K hK => ?_)
          go_simp
          refine (KD.out _ (B1.out.trans (hHeld.mono B1.out.size))).mono ?_
          rintro e w5 ⟨v5, rfl, ho5, hb5⟩
          have t5 : Below w1.heap.size w1 w5 := hHeld.trans (hb5.mono hHeld.size)
          have O5 := hid (own_mono ho5 (Nat.le_trans B1.out.size hHeld.size))
          clear ho5 hb5 hHeld
          refine hK.out _ _ (fun _ => t5) (fun _ => ?_)
          clear hK K
          have hHeld := t5
          try simp only [Act.put, zA, zB, zC]
          refine takeA (i := 7) (v := .tuple #[v5, .bool true]) 13 rfl rfl (by kernel_rfl) (by kernel_rfl) (by kernel_rfl) (by kernel_rfl) (fun _ _ _ h => h) (Or.inl ⟨by rfl, by intro W hSw; go_simp⟩) hHeld ?_
          simp only [Act.put, zA, zB, zC]
          refine takeA (i := 8) (v := v5) 21 rfl rfl (by kernel_rfl) (by kernel_rfl) (by kernel_rfl) (by kernel_rfl) (fun _ _ _ h => h) (Or.inl ⟨by rfl, by intro W hSw; go_simp⟩) hHeld ?_
          simp only [Act.put, zA, zB, zC]
          refine takeA (i := 9) (v := .bool true) 22 rfl rfl (by kernel_rfl) (by kernel_rfl) (by kernel_rfl) (by kernel_rfl) (fun _ _ _ h => h) (Or.inl ⟨by rfl, by intro W hSw; go_simp⟩) hHeld ?_
          simp only [Act.put, zA, zB, zC]
          refine takeA (i := 10) (v := v5) 10 rfl rfl (by kernel_rfl) (by kernel_rfl) (by kernel_rfl) (by kernel_rfl) (fun _ _ _ h => h) (Or.inl ⟨by rfl, by intro W hSw; go_simp⟩) hHeld ?_
          simp only [Act.put, zA, zB, zC]
          refine takeA (i := 11) (v := .bool true) 11 rfl rfl (by kernel_rfl) (by kernel_rfl) (by kernel_rfl) (by kernel_rfl) (fun _ _ _ h => h) (Or.inl ⟨by rfl, by intro W hSw; go_simp⟩) hHeld ?_
          simp only [Act.put, zA, zB, zC]
          clear hHeld
          refine doneL (by kernel_rfl) ?_ _
          try simp only [Act.put, zA, zB, zC]
          have B5 : Hid (Below w.heap.size w w5) := hid (B1.out.trans (t5.mono B1.out.size))
          go_wp2
          have HGX : Hid (∀ W, Below w5.heap.size w5 W → W.rangeAt w.heap.size 0 (ints G)) := hid (fun W hW => HGW.out W (t5.trans (hW.mono t5.size)))
          refine regionL (fun W => Below w5.heap.size w5 W) [] (by kernel_rfl) (Below.refl _ _).drew (fun hHeld => ?_)
          refine takeA (i := 0) (v := .agg (ints G).toArray) 33 rfl rfl (by kernel_rfl) (by kernel_rfl) (by kernel_rfl) (by kernel_rfl) (fun _ _ _ h => h) (yieldsIf_load_mid (by rfl) 59 _ rfl w.heap.size 0 rfl (ints G) _ HGX.out HUg rfl (by rw [HL.out]; exact Tryz.sizeGrid)) hHeld ?_
          simp only [Act.put, zA, zB, zC]
          refine takeA (i := 1) (v := sv) 34 rfl rfl (by kernel_rfl) (by kernel_rfl) (by kernel_rfl) (by kernel_rfl) (fun _ _ _ h => h) (Or.inl ⟨by rfl, by intro W hSw; go_simp⟩) hHeld ?_
          simp only [Act.put, zA, zB, zC]
          refine takeA (i := 2) (v := .int .i64 x) 35 rfl rfl (by kernel_rfl) (by kernel_rfl) (by kernel_rfl) (by kernel_rfl) (fun _ _ _ h => h) (Or.inl ⟨by rfl, by intro W hSw; go_simp⟩) hHeld ?_
          simp only [Act.put, zA, zB, zC]
          refine takeA (i := 3) (v := .slice (some ⟨ub, uo, none⟩) (n + 1) uc) 36 rfl rfl (by kernel_rfl) (by kernel_rfl) (by kernel_rfl) (by kernel_rfl) (fun _ _ _ h => h) (Or.inl ⟨by rfl, by intro W hSw; go_simp⟩) hHeld ?_
          simp only [Act.put, zA, zB, zC]
          refine takeA (i := 4) (v := .slice (some ⟨ub, uo + 1, none⟩) n (uc - 1)) 37 rfl rfl (by kernel_rfl) (by kernel_rfl) (by kernel_rfl) (by kernel_rfl) (fun _ _ _ h => h) (Or.inl ⟨by rfl, by intro W hSw; go_simp; rw [if_pos (by omega), if_neg (by omega)]⟩) hHeld ?_
          simp only [Act.put, zA, zB, zC]
          generalize w5.drew = wd at hHeld ⊢
          refine onlyL (i := 5) (by kernel_rfl) rfl (by rfl) (fun K hK => ?_)
          go_simp
          refine (KR.out _ _ _ _ (HB0.out _ (B5.out.trans (hHeld.mono B5.out.size))) (KI.out _ (B5.out.trans (hHeld.mono B5.out.size)))).mono ?_
          rintro e w8 ⟨v8, rfl, ho8, hb8⟩
          have t8 : Below w5.heap.size w5 w8 := hHeld.trans (hb8.mono hHeld.size)
          have P8 := hid (own_mono ho8 (Nat.le_trans B5.out.size hHeld.size))
          clear ho8 hb8 hHeld
          refine hK.out _ _ (fun _ => t8) (fun _ => ?_)
          clear hK K
          have hHeld := t8
          try simp only [Act.put, zA, zB, zC]
          refine takeA (i := 6) (v := .tuple #[v8, .bool true]) 32 rfl rfl (by kernel_rfl) (by kernel_rfl) (by kernel_rfl) (by kernel_rfl) (fun _ _ _ h => h) (Or.inl ⟨by rfl, by intro W hSw; go_simp⟩) hHeld ?_
          simp only [Act.put, zA, zB, zC]
          refine takeA (i := 7) (v := v8) 39 rfl rfl (by kernel_rfl) (by kernel_rfl) (by kernel_rfl) (by kernel_rfl) (fun _ _ _ h => h) (Or.inl ⟨by rfl, by intro W hSw; go_simp⟩) hHeld ?_
          simp only [Act.put, zA, zB, zC]
          refine takeA (i := 8) (v := .bool true) 40 rfl rfl (by kernel_rfl) (by kernel_rfl) (by kernel_rfl) (by kernel_rfl) (fun _ _ _ h => h) (Or.inl ⟨by rfl, by intro W hSw; go_simp⟩) hHeld ?_
          simp only [Act.put, zA, zB, zC]
          refine takeA (i := 9) (v := v8) 12 rfl rfl (by kernel_rfl) (by kernel_rfl) (by kernel_rfl) (by kernel_rfl) (fun _ _ _ h => h) (Or.inl ⟨by rfl, by intro W hSw; go_simp⟩) hHeld ?_
          simp only [Act.put, zA, zB, zC]
          refine takeA (i := 10) (v := .bool true) 11 rfl rfl (by kernel_rfl) (by kernel_rfl) (by kernel_rfl) (by kernel_rfl) (fun _ _ _ h => h) (Or.inl ⟨by rfl, by intro W hSw; go_simp⟩) hHeld ?_
          simp only [Act.put, zA, zB, zC]
          clear hHeld
          refine doneL (by kernel_rfl) ?_ _
          try simp only [Act.put, zA, zB, zC]
          have O8 := hid (own_below O5.out t8 (Nat.le_refl _))
          have B8 : Hid (Below w.heap.size w w8) := hid (B5.out.trans (t8.mono B5.out.size))
          go_wp2_with (go_at_call 111; refine (KC.out _ _ _ (Ns.of_own O8.out) (Ns.of_own P8.out)).mono ?_; rintro e w9 ⟨v9, rfl, ho9, hb9⟩)
          go_returns
          exact ⟨_, rfl, own_mono ho9 B8.out.size, B8.out.trans (hb9.mono B8.out.size)⟩
        · -- the rest is too long: so is the whole
          rw [j1] at KR
          have HR : Hid (combL (.joint 4 (T y) (conjT ((z :: r).map T))) = none) := hid (comb_long (by simp only [Tm.size]; omega))
          rw [HR.out]
          unfold Ans at KD KR ⊢
          simp only [Option.isSome_some, Option.getD_some, Option.isSome_none, Option.getD_none] at KD KR ⊢
          generalize lay 0 (T y) = xs at *
          generalize (z :: r).length = n at *
          generalize nums (z :: r) = NL at *
          clear HR hD hv hU hw hwz k1 k2 k3 k4 j1 j2 hwy
          go_enter Tryz.func99, Tryz.ntmps99
          go_wp2
          have b0 : Below w.heap.size w (w.alloc (.cells (ints G).toArray 59)) := by go_grown
          generalize w.alloc (.cells (ints G).toArray 59) = w1 at *
          have B1 := hid b0
          clear b0
          have HGW : Hid (∀ W, Below w1.heap.size w1 W → W.rangeAt w.heap.size 0 (ints G)) := hid (fun W hW => (c0.out.all hW).whole)
          have HUW : Hid (∀ W, Below w1.heap.size w1 W → W.cell? ⟨ub, uo, none⟩ = some (.int .i64 y)) := hid (fun W hW => HU.out W (B1.out.trans (hW.mono B1.out.size)))
          have HUg := hUg
          refine regionL (fun W => Below w1.heap.size w1 W) [] (by kernel_rfl) (Below.refl _ _).drew (fun hHeld => ?_)
          refine takeA (i := 0) (v := .agg (ints G).toArray) 14 rfl rfl (by kernel_rfl) (by kernel_rfl) (by kernel_rfl) (by kernel_rfl) (fun _ _ _ h => h) (yieldsIf_load_mid (by rfl) 59 _ rfl w.heap.size 0 rfl (ints G) _ HGW.out HUg rfl (by rw [HL.out]; exact Tryz.sizeGrid)) hHeld ?_
          simp only [Act.put, zA, zB, zC]
          refine takeA (i := 1) (v := sv) 15 rfl rfl (by kernel_rfl) (by kernel_rfl) (by kernel_rfl) (by kernel_rfl) (fun _ _ _ h => h) (Or.inl ⟨by rfl, by intro W hSw; go_simp⟩) hHeld ?_
          simp only [Act.put, zA, zB, zC]
          refine takeA (i := 2) (v := .int .i64 x) 16 rfl rfl (by kernel_rfl) (by kernel_rfl) (by kernel_rfl) (by kernel_rfl) (fun _ _ _ h => h) (Or.inl ⟨by rfl, by intro W hSw; go_simp⟩) hHeld ?_
          simp only [Act.put, zA, zB, zC]
          refine takeA (i := 3) (v := .slice (some ⟨ub, uo, none⟩) (n + 1) uc) 17 rfl rfl (by kernel_rfl) (by kernel_rfl) (by kernel_rfl) (by kernel_rfl) (fun _ _ _ h => h) (Or.inl ⟨by rfl, by intro W hSw; go_simp⟩) hHeld ?_
          simp only [Act.put, zA, zB, zC]
          refine takeA (i := 4) (v := .pointer (some ⟨ub, uo, none⟩)) 18 rfl rfl (by kernel_rfl) (by kernel_rfl) (by kernel_rfl) (by kernel_rfl) (fun _ _ _ h => h) (Or.inl ⟨by rfl, by intro W hSw; go_simp <;> (intro h; omega)⟩) hHeld ?_
          simp only [Act.put, zA, zB, zC]
          refine takeA (i := 5) (v := .int .i64 y) 19 rfl rfl (by kernel_rfl) (by kernel_rfl) (by kernel_rfl) (by kernel_rfl) (fun _ _ _ h => h) (Or.inl ⟨by rfl, by intro W hSw; have c1 := HUW.out _ hSw; go_simp⟩) hHeld ?_
          simp only [Act.put, zA, zB, zC]
          generalize w1.drew = wd at hHeld ⊢
          refine onlyL (i := 6) (by kernel_rfl) rfl (by rfl) (fun K hK => ?_)
          go_simp
          refine (KD.out _ (B1.out.trans (hHeld.mono B1.out.size))).mono ?_
          rintro e w5 ⟨v5, rfl, ho5, hb5⟩
          have t5 : Below w1.heap.size w1 w5 := hHeld.trans (hb5.mono hHeld.size)
          have O5 := hid (own_mono ho5 (Nat.le_trans B1.out.size hHeld.size))
          clear ho5 hb5 hHeld
          refine hK.out _ _ (fun _ => t5) (fun _ => ?_)
          clear hK K
          have hHeld := t5
          try simp only [Act.put, zA, zB, zC]
          refine takeA (i := 7) (v := .tuple #[v5, .bool true]) 13 rfl rfl (by kernel_rfl) (by kernel_rfl) (by kernel_rfl) (by kernel_rfl) (fun _ _ _ h => h) (Or.inl ⟨by rfl, by intro W hSw; go_simp⟩) hHeld ?_
          simp only [Act.put, zA, zB, zC]
          refine takeA (i := 8) (v := v5) 21 rfl rfl (by kernel_rfl) (by kernel_rfl) (by kernel_rfl) (by kernel_rfl) (fun _ _ _ h => h) (Or.inl ⟨by rfl, by intro W hSw; go_simp⟩) hHeld ?_
          simp only [Act.put, zA, zB, zC]
          refine takeA (i := 9) (v := .bool true) 22 rfl rfl (by kernel_rfl) (by kernel_rfl) (by kernel_rfl) (by kernel_rfl) (fun _ _ _ h => h) (Or.inl ⟨by rfl, by intro W hSw; go_simp⟩) hHeld ?_
          simp only [Act.put, zA, zB, zC]
          refine takeA (i := 10) (v := v5) 10 rfl rfl (by kernel_rfl) (by kernel_rfl) (by kernel_rfl) (by kernel_rfl) (fun _ _ _ h => h) (Or.inl ⟨by rfl, by intro W hSw; go_simp⟩) hHeld ?_
          simp only [Act.put, zA, zB, zC]
          refine takeA (i := 11) (v := .bool true) 11 rfl rfl (by kernel_rfl) (by kernel_rfl) (by kernel_rfl) (by kernel_rfl) (fun _ _ _ h => h) (Or.inl ⟨by rfl, by intro W hSw; go_simp⟩) hHeld ?_
          simp only [Act.put, zA, zB, zC]
          clear hHeld
          refine doneL (by kernel_rfl) ?_ _
          try simp only [Act.put, zA, zB, zC]
          have B5 : Hid (Below w.heap.size w w5) := hid (B1.out.trans (t5.mono B1.out.size))
          go_wp2
          have HGX : Hid (∀ W, Below w5.heap.size w5 W → W.rangeAt w.heap.size 0 (ints G)) := hid (fun W hW => HGW.out W (t5.trans (hW.mono t5.size)))
          refine regionL (fun W => Below w5.heap.size w5 W) [] (by kernel_rfl) (Below.refl _ _).drew (fun hHeld => ?_)
          refine takeA (i := 0) (v := .agg (ints G).toArray) 33 rfl rfl (by kernel_rfl) (by kernel_rfl) (by kernel_rfl) (by kernel_rfl) (fun _ _ _ h => h) (yieldsIf_load_mid (by rfl) 59 _ rfl w.heap.size 0 rfl (ints G) _ HGX.out HUg rfl (by rw [HL.out]; exact Tryz.sizeGrid)) hHeld ?_
          simp only [Act.put, zA, zB, zC]
          refine takeA (i := 1) (v := sv) 34 rfl rfl (by kernel_rfl) (by kernel_rfl) (by kernel_rfl) (by kernel_rfl) (fun _ _ _ h => h) (Or.inl ⟨by rfl, by intro W hSw; go_simp⟩) hHeld ?_
          simp only [Act.put, zA, zB, zC]
          refine takeA (i := 2) (v := .int .i64 x) 35 rfl rfl (by kernel_rfl) (by kernel_rfl) (by kernel_rfl) (by kernel_rfl) (fun _ _ _ h => h) (Or.inl ⟨by rfl, by intro W hSw; go_simp⟩) hHeld ?_
          simp only [Act.put, zA, zB, zC]
          refine takeA (i := 3) (v := .slice (some ⟨ub, uo, none⟩) (n + 1) uc) 36 rfl rfl (by kernel_rfl) (by kernel_rfl) (by kernel_rfl) (by kernel_rfl) (fun _ _ _ h => h) (Or.inl ⟨by rfl, by intro W hSw; go_simp⟩) hHeld ?_
          simp only [Act.put, zA, zB, zC]
          refine takeA (i := 4) (v := .slice (some ⟨ub, uo + 1, none⟩) n (uc - 1)) 37 rfl rfl (by kernel_rfl) (by kernel_rfl) (by kernel_rfl) (by kernel_rfl) (fun _ _ _ h => h) (Or.inl ⟨by rfl, by intro W hSw; go_simp; rw [if_pos (by omega), if_neg (by omega)]⟩) hHeld ?_
          simp only [Act.put, zA, zB, zC]
          generalize w5.drew = wd at hHeld ⊢
          refine onlyL (i := 5) (by kernel_rfl) rfl (by rfl) (fun K hK => ?_)
          go_simp
          refine (KR.out _ _ _ _ (HB0.out _ (B5.out.trans (hHeld.mono B5.out.size))) (KI.out _ (B5.out.trans (hHeld.mono B5.out.size)))).mono ?_
          rintro e w8 ⟨v8, rfl, ho8, hb8⟩
          have t8 : Below w5.heap.size w5 w8 := hHeld.trans (hb8.mono hHeld.size)
          have P8 := hid (own_mono ho8 (Nat.le_trans B5.out.size hHeld.size))
          clear ho8 hb8 hHeld
          refine hK.out _ _ (fun _ => t8) (fun _ => ?_)
          clear hK K
          have hHeld := t8
          try simp only [Act.put, zA, zB, zC]
          refine takeA (i := 6) (v := .tuple #[v8, .bool false]) 32 rfl rfl (by kernel_rfl) (by kernel_rfl) (by kernel_rfl) (by kernel_rfl) (fun _ _ _ h => h) (Or.inl ⟨by rfl, by intro W hSw; go_simp⟩) hHeld ?_
          simp only [Act.put, zA, zB, zC]
          refine takeA (i := 7) (v := v8) 39 rfl rfl (by kernel_rfl) (by kernel_rfl) (by kernel_rfl) (by kernel_rfl) (fun _ _ _ h => h) (Or.inl ⟨by rfl, by intro W hSw; go_simp⟩) hHeld ?_
          simp only [Act.put, zA, zB, zC]
          refine takeA (i := 8) (v := .bool false) 40 rfl rfl (by kernel_rfl) (by kernel_rfl) (by kernel_rfl) (by kernel_rfl) (fun _ _ _ h => h) (Or.inl ⟨by rfl, by intro W hSw; go_simp⟩) hHeld ?_
          simp only [Act.put, zA, zB, zC]
          refine takeA (i := 9) (v := v8) 12 rfl rfl (by kernel_rfl) (by kernel_rfl) (by kernel_rfl) (by kernel_rfl) (fun _ _ _ h => h) (Or.inl ⟨by rfl, by intro W hSw; go_simp⟩) hHeld ?_
          simp only [Act.put, zA, zB, zC]
          refine takeA (i := 10) (v := .bool false) 11 rfl rfl (by kernel_rfl) (by kernel_rfl) (by kernel_rfl) (by kernel_rfl) (fun _ _ _ h => h) (Or.inl ⟨by rfl, by intro W hSw; go_simp⟩) hHeld ?_
          simp only [Act.put, zA, zB, zC]
          clear hHeld
          refine doneL (by kernel_rfl) ?_ _
          try simp only [Act.put, zA, zB, zC]
          have O8 := hid (own_below O5.out t8 (Nat.le_refl _))
          have B8 : Hid (Below w.heap.size w w8) := hid (B5.out.trans (t8.mono B5.out.size))
          go_wp2
          go_returns
          exact ⟨_, rfl, World.ownsRow_nil _ _ _ _, B8.out⟩
    · -- the first is too long: so is the whole
      have HR : Hid (combL (conjT ((y :: L).map T)) = none) := hid (comb_long (by
        cases L with
        | nil => exact k2
        | cons z r => show 40 < (Tm.joint 4 (T y) (conjT ((z :: r).map T))).size; simp only [Tm.size]; omega))
      rw [HR.out]
      rw [k1] at KD
      unfold Ans at KD ⊢
      simp only [Option.isSome_none, Option.getD_none] at KD ⊢
      have hn1 : 0 < ((y :: L).length : Int) := by simp only [List.length_cons]; omega
      clear HR hD hv hU hw k1 k2 hwy
      generalize (y :: L).length = n at *
      go_enter Tryz.func99, Tryz.ntmps99
      go_wp2
      have b0 : Below w.heap.size w (w.alloc (.cells (ints G).toArray 59)) := by go_grown
      generalize w.alloc (.cells (ints G).toArray 59) = w1 at *
      have B1 := hid b0
      clear b0
      have HGW : Hid (∀ W, Below w1.heap.size w1 W → W.rangeAt w.heap.size 0 (ints G)) := hid (fun W hW => (c0.out.all hW).whole)
      have HUW : Hid (∀ W, Below w1.heap.size w1 W → W.cell? ⟨ub, uo, none⟩ = some (.int .i64 y)) := hid (fun W hW => HU.out W (B1.out.trans (hW.mono B1.out.size)))
      have HUg := hUg
      refine regionL (fun W => Below w1.heap.size w1 W) [] (by kernel_rfl) (Below.refl _ _).drew (fun hHeld => ?_)
      refine takeA (i := 0) (v := .agg (ints G).toArray) 14 rfl rfl (by kernel_rfl) (by kernel_rfl) (by kernel_rfl) (by kernel_rfl) (fun _ _ _ h => h) (yieldsIf_load_mid (by rfl) 59 _ rfl w.heap.size 0 rfl (ints G) _ HGW.out HUg rfl (by rw [HL.out]; exact Tryz.sizeGrid)) hHeld ?_
      simp only [Act.put, zA, zB, zC]
      refine takeA (i := 1) (v := sv) 15 rfl rfl (by kernel_rfl) (by kernel_rfl) (by kernel_rfl) (by kernel_rfl) (fun _ _ _ h => h) (Or.inl ⟨by rfl, by intro W hSw; go_simp⟩) hHeld ?_
      simp only [Act.put, zA, zB, zC]
      refine takeA (i := 2) (v := .int .i64 x) 16 rfl rfl (by kernel_rfl) (by kernel_rfl) (by kernel_rfl) (by kernel_rfl) (fun _ _ _ h => h) (Or.inl ⟨by rfl, by intro W hSw; go_simp⟩) hHeld ?_
      simp only [Act.put, zA, zB, zC]
      refine takeA (i := 3) (v := .slice (some ⟨ub, uo, none⟩) n uc) 17 rfl rfl (by kernel_rfl) (by kernel_rfl) (by kernel_rfl) (by kernel_rfl) (fun _ _ _ h => h) (Or.inl ⟨by rfl, by intro W hSw; go_simp⟩) hHeld ?_
      simp only [Act.put, zA, zB, zC]
      refine takeA (i := 4) (v := .pointer (some ⟨ub, uo, none⟩)) 18 rfl rfl (by kernel_rfl) (by kernel_rfl) (by kernel_rfl) (by kernel_rfl) (fun _ _ _ h => h) (Or.inl ⟨by rfl, by intro W hSw; go_simp <;> (intro h; omega)⟩) hHeld ?_
      simp only [Act.put, zA, zB, zC]
      refine takeA (i := 5) (v := .int .i64 y) 19 rfl rfl (by kernel_rfl) (by kernel_rfl) (by kernel_rfl) (by kernel_rfl) (fun _ _ _ h => h) (Or.inl ⟨by rfl, by intro W hSw; have c1 := HUW.out _ hSw; go_simp⟩) hHeld ?_
      simp only [Act.put, zA, zB, zC]
      generalize w1.drew = wd at hHeld ⊢
      refine onlyL (i := 6) (by kernel_rfl) rfl (by rfl) (fun K hK => ?_)
      go_simp
      refine (KD.out _ (B1.out.trans (hHeld.mono B1.out.size))).mono ?_
      rintro e w5 ⟨v5, rfl, ho5, hb5⟩
      have t5 : Below w1.heap.size w1 w5 := hHeld.trans (hb5.mono hHeld.size)
      have O5 := hid (own_mono ho5 (Nat.le_trans B1.out.size hHeld.size))
      clear ho5 hb5 hHeld
      refine hK.out _ _ (fun _ => t5) (fun _ => ?_)
      clear hK K
      have hHeld := t5
      try simp only [Act.put, zA, zB, zC]
      refine takeA (i := 7) (v := .tuple #[v5, .bool false]) 13 rfl rfl (by kernel_rfl) (by kernel_rfl) (by kernel_rfl) (by kernel_rfl) (fun _ _ _ h => h) (Or.inl ⟨by rfl, by intro W hSw; go_simp⟩) hHeld ?_
      simp only [Act.put, zA, zB, zC]
      refine takeA (i := 8) (v := v5) 21 rfl rfl (by kernel_rfl) (by kernel_rfl) (by kernel_rfl) (by kernel_rfl) (fun _ _ _ h => h) (Or.inl ⟨by rfl, by intro W hSw; go_simp⟩) hHeld ?_
      simp only [Act.put, zA, zB, zC]
      refine takeA (i := 9) (v := .bool false) 22 rfl rfl (by kernel_rfl) (by kernel_rfl) (by kernel_rfl) (by kernel_rfl) (fun _ _ _ h => h) (Or.inl ⟨by rfl, by intro W hSw; go_simp⟩) hHeld ?_
      simp only [Act.put, zA, zB, zC]
      refine takeA (i := 10) (v := v5) 10 rfl rfl (by kernel_rfl) (by kernel_rfl) (by kernel_rfl) (by kernel_rfl) (fun _ _ _ h => h) (Or.inl ⟨by rfl, by intro W hSw; go_simp⟩) hHeld ?_
      simp only [Act.put, zA, zB, zC]
      refine takeA (i := 11) (v := .bool false) 11 rfl rfl (by kernel_rfl) (by kernel_rfl) (by kernel_rfl) (by kernel_rfl) (fun _ _ _ h => h) (Or.inl ⟨by rfl, by intro W hSw; go_simp⟩) hHeld ?_
      simp only [Act.put, zA, zB, zC]
      clear hHeld
      refine doneL (by kernel_rfl) ?_ _
      try simp only [Act.put, zA, zB, zC]
      have B5 : Hid (Below w.heap.size w w5) := hid (B1.out.trans (t5.mono B1.out.size))
      go_wp2
      go_returns
      exact ⟨_, rfl, O5.out, B5.out⟩
end Go.Proofs.YtnpfnfenkklocaaGreatDoor
