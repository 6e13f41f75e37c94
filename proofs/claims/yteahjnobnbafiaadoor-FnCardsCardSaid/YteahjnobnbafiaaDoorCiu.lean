/-
  Contract of Deal.tells. Conditions: a valid deal, hands from 0 to 127.
-/
import Derived.Test.YteahjnobnbafiaaDoorCif
namespace Go.Proofs.YteahjnobnbafiaaDoor
open Go.RowKit Go.WideShapes
open Go Go.Deep
set_option linter.unusedSimpArgs false

/-- the slice behind the k-th element -/
def tailV (b o k n cap : Nat) : Value := .slice (if cap = k then some ⟨b, o, none⟩ else some ⟨b, o + k, none⟩) (n - k) (cap - k)
theorem Iv.tail {lo hi : Nat} {w : World} {b o : Nat} {cap : Nat} {l : List Int} (h : Iv lo hi w (.slice (some ⟨b, o, none⟩) l.length cap) l) {k : Nat} (hk : k ≤ l.length) : Iv lo hi w (tailV b o k l.length cap) (l.drop k) := by
  obtain ⟨a', cap', e, h1, h2, h3⟩ := h
  rw [ints_len] at h1 e
  injection e with e1 e2 e3
  subst e3 e1
  have hll : (ints (l.drop k)).length = l.length - k := by rw [ints_len, List.length_drop]
  refine ⟨_, cap - k, by unfold tailV; rw [hll], by omega, by omega, ?_⟩
  rcases h3 with h3 | ⟨b', o', e', hl, hh, hlt, hc⟩
  · have : l = [] := by cases l; rfl; cases h3
    subst this
    exact .inl (by simp [ints])
  · cases e'
    by_cases hk' : k < l.length
    · refine .inr ⟨b, o + k, by rw [if_neg (by omega)], hl, hh, hlt, fun j x hx => ?_⟩
      rw [Nat.add_assoc]
      refine hc (k + j) x ?_
      rw [← hx]; unfold ints; rw [List.getElem?_map, List.getElem?_map, List.getElem?_drop]
    · exact .inl (by rw [List.drop_of_length_le (by omega)]; rfl)
theorem pair_at {d : Dl} {l : List Int} {k : Nat} (hk : k < l.length) : pairP d (l.drop k) = (!((l.drop (k + 1)).any (clshD d (l.getD k 0))) && pairP d (l.drop (k + 1))) := by
  rw [List.drop_eq_getElem_cons hk]
  have e : l[k] = l.getD k 0 := by rw [List.getD_eq_getElem?_getD, List.getElem?_eq_getElem hk]; rfl
  rw [e]; rfl

set_option maxRecDepth 100000 in
set_option maxHeartbeats 8000000 in
theorem tellsI_any (d : Dl) (hd : dealR d = true) (lo hi : Nat) (v : Value) (l : List Int) (w : World) (hr : Iv lo hi w v l) (hx : ∀ x ∈ l, 0 ≤ x ∧ x < 128) :
    Calls Tryd.prog 28 #[d.v, v] w fun e w' => e = .returned (.bool (pairP d l)) ∧ Below w.heap.size w w' := by
  have HR : Hid (pairP d l = pairP d (l.drop 0)) := Lib.hid rfl
  have KC := Lib.hid (fun X hX W => clashes_any d hd X hX W)
  have KF := Lib.hid (fun (lb : Array Value) (t : Int → Bool) (plo phi : Nat) (v : Value) (xs : List Int) (W : World) (h1 : Iv lo hi W v xs) h2 h3 => containsI_any 49 lb t plo phi lo hi v xs W h1 h2 entClash h3)
  have HAT := Lib.hid (fun k hk => pair_at (d := d) (l := l) (k := k) hk)
  have HEND : Hid (∀ k, ¬ k < l.length → pairP d (l.drop k) = true) := Lib.hid (fun k hk => by rw [List.drop_of_length_le (by omega)]; rfl)
  have HX := Lib.hid (fun k hk => hx (l.getD k 0) (getD_memI (k := k) hk))
  have HXD := Lib.hid (fun k x (h : x ∈ l.drop k) => hx x (List.mem_of_mem_drop h))
  obtain ⟨a, cap, rfl, h1, h2, h3⟩ := hr.parts
  have KEY := Lib.hid h3
  have HV := Lib.hid (fun b o (e : a = some ⟨b, o, none⟩) k (hk : k ≤ l.length) => (e ▸ hr).tail hk)
  unfold maxLen at h2
  unfold ClshAns at KC
  clear hr h3 hx hd
  unfold Dl.v at *
  generalize pairP d l = R at *
  have HW1 := Lib.hid (And.intro (show Cm (w.alloc (.cells #[.int .i64 d.a, .int .i64 d.b, .int .i64 d.c] 26)) w.heap.size 26 [.int .i64 d.a, .int .i64 d.b, .int .i64 d.c] from Cm.new (cs := [.int .i64 d.a, .int .i64 d.b, .int .i64 d.c]) rfl) (show Below w.heap.size w (w.alloc (.cells #[.int .i64 d.a, .int .i64 d.b, .int .i64 d.c] 26)) from (Below.refl _ _).alloc (Nat.le_refl _) _))
  generalize hda : d.a = da at *
  generalize hdb : d.b = db at *
  generalize hdc : d.c = dc at *
  clear hda hdb hdc
  go_enter Tryd.func28, Tryd.ntmps28
  go_wp2
  generalize w.alloc (.cells #[.int .i64 da, .int .i64 db, .int .i64 dc] 26) = w1 at *
  go_loopw [9] (fun iv wr => ∃ k : Nat, k ≤ l.length ∧ iv = .int .i64 k ∧ Hid (R = pairP d (l.drop k)) ∧ Hid (Below w1.heap.size w1 wr)) (fun iv _ => l.length - (intOf iv).toNat)
  case atStart => exact ⟨0, Nat.zero_le _, rfl, HR, Lib.hid (Below.refl _ _)⟩
  case round =>
    clear HR
    obtain ⟨k, hk, rfl, HR, HB⟩ := hrel
    have hki0 : (0 : Int) ≤ (k : Int) := Int.natCast_nonneg _
    by_cases hlt : k < l.length
    · have hki1 : (k : Int) < (l.length : Int) := by omega
      obtain ⟨b, o, rfl, -, -, hb, q0⟩ := KEY.out k hlt
      have HBw : Hid (Below w.heap.size w wr) := Lib.hid (HW1.out.2.trans (HB.out.mono HW1.out.2.size))
      rw [← HBw.out.cell (p := ⟨b, o + k, none⟩) hb] at q0
      have HR0 : Hid (R = (!((l.drop (k + 1)).any (clshD d (l.getD k 0))) && pairP d (l.drop (k + 1)))) := Lib.hid (by rw [HR.out, HAT.out k hlt])
      obtain ⟨hx0, hx1⟩ := HX.out k hlt
      obtain ⟨X, hX⟩ := Int.eq_ofNat_of_zero_le hx0
      have hX7 : X < 128 := by omega
      have KCX := Lib.hid (fun W => KC.out X hX7 W)
      have HT := Lib.hid (fun W (hW : Below w.heap.size w W) => (HV.out b o rfl (k + 1) (by omega)).keeps (Keeps.of_all hW))
      have HXW := Lib.hid (fun W (hW : Below wr.heap.size wr W) => (HW1.out.1.all HB.out).all hW)
      rw [hX] at q0 HR0
      clear hx0 hx1 hX HR
      generalize clshD d X = t at *
      have HXL := Lib.hid (HXD.out (k + 1))
      obtain ⟨L', hL'⟩ : ∃ L', L' = l.drop (k + 1) := ⟨_, rfl⟩
      rw [← hL'] at HR0 HT HXL
      have HLL := Lib.hid hL'
      clear hL'
      obtain ⟨q, hq⟩ : ∃ q, q = L'.any t := ⟨_, rfl⟩
      rw [← hq] at HR0
      have HQ := Lib.hid hq
      clear hq
      have hkw : IntKind.i64.wrap ((k : Int) + 1) = (k : Int) + 1 := IntWalk.i64_in _ (by omega)
      cases q with
      | true =>
        go_wp2
        refine regionL (fun W' => Below wr.heap.size wr W') [] (by kernel_rfl) (Below.refl _ _).drew (fun hHeld => ?_)
        refine takeA (i := 0) (v := .slice (some ⟨b, o, none⟩) l.length cap) 14 rfl rfl (by kernel_rfl) (by kernel_rfl) (by kernel_rfl) (by kernel_rfl) (fun _ _ _ h => h) (Or.inl ⟨by rfl, by intro W hSw; go_simp⟩) hHeld ?_
        simp only [Act.put, List.setIfInBounds_toArray, List.set_cons_zero, List.set_cons_succ]
        refine takeA (i := 1) (v := .int .i64 k) 15 rfl rfl (by kernel_rfl) (by kernel_rfl) (by kernel_rfl) (by kernel_rfl) (fun _ _ _ h => h) (Or.inl ⟨by rfl, by intro W hSw; go_simp⟩) hHeld ?_
        simp only [Act.put, List.setIfInBounds_toArray, List.set_cons_zero, List.set_cons_succ]
        refine takeA (i := 2) (v := .int .i64 (k + 1)) 16 rfl rfl (by kernel_rfl) (by kernel_rfl) (by kernel_rfl) (by kernel_rfl) (fun _ _ _ h => h) (Or.inl ⟨by rfl, by intro W hSw; go_simp⟩) hHeld ?_
        simp only [Act.put, List.setIfInBounds_toArray, List.set_cons_zero, List.set_cons_succ]
        refine takeA (i := 3) (v := tailV b o (k + 1) l.length cap) 17 rfl rfl (by kernel_rfl) (by kernel_rfl) (by kernel_rfl) (by kernel_rfl) (fun _ _ _ h => h) (Or.inl ⟨by rfl, by intro W hSw; go_simp; unfold tailV; rw [if_pos (by omega)]⟩) hHeld ?_
        simp only [Act.put, List.setIfInBounds_toArray, List.set_cons_zero, List.set_cons_succ]
        refine takeA (i := 4) (v := .agg #[.int .i64 da, .int .i64 db, .int .i64 dc]) 18 rfl rfl (by kernel_rfl) (by kernel_rfl) (by kernel_rfl) (by kernel_rfl) (fun _ _ _ h => h) (Or.inl ⟨by rfl, by intro W hSw; have hz := HXW.out _ hSw; have c0 := hz.cell 0; have c1 := hz.cell 1; have c2 := hz.cell 2; simp only [List.getElem?_cons_zero, List.getElem?_cons_succ] at c0 c1 c2; go_simp⟩) hHeld ?_
        simp only [Act.put, List.setIfInBounds_toArray, List.set_cons_zero, List.set_cons_succ]
        refine takeA (i := 5) (v := .int .i64 X) 19 rfl rfl (by kernel_rfl) (by kernel_rfl) (by kernel_rfl) (by kernel_rfl) (fun _ _ _ h => h) (Or.inl ⟨by rfl, by intro W hSw; go_simp⟩) hHeld ?_
        simp only [Act.put, List.setIfInBounds_toArray, List.set_cons_zero, List.set_cons_succ]
        refine onlyL (i := 6) (by kernel_rfl) rfl (by rfl) (fun K hK => ?_)
        go_simp
        refine (KCX.out _).mono ?_
        rintro e w9 ⟨lb, rfl, hp9, hb9, hs9⟩
        have t9 : Below wr.heap.size wr w9 := hHeld.trans (hb9.mono hHeld.size)
        have P9 := Lib.hid hp9
        clear hb9 hs9 hp9 hHeld
        refine hK.out _ _ (fun _ => t9) (fun _ => ?_)
        clear hK K
        try simp only [Act.put, List.setIfInBounds_toArray, List.set_cons_zero, List.set_cons_succ]
        refine onlyL (i := 7) (by kernel_rfl) rfl (by rfl) (fun K hK => ?_)
        go_simp
        refine (KF.out lb t _ _ _ L' _ (HT.out _ (HBw.out.trans (t9.mono HBw.out.size))) HXL.out P9.out).mono ?_
        rintro e w10 ⟨rfl, hb10⟩
        rw [← HQ.out]
        have t10 : Below wr.heap.size wr w10 := t9.trans (hb10.mono t9.size)
        clear hb10
        refine hK.out _ _ (fun _ => t10) (fun _ => ?_)
        clear hK K
        try simp only [Act.put, List.setIfInBounds_toArray, List.set_cons_zero, List.set_cons_succ]
        refine doneL (by kernel_rfl) ?_ _
        have HB9 := Lib.hid (HB.out.trans (t10.mono HB.out.size))
        clear t9 t10 P9
        go_wp2
        go_ret
        exact ⟨by rw [HR0.out]; rfl, HW1.out.2.trans (HB9.out.mono HW1.out.2.size)⟩
      | false =>
        go_wp2
        refine regionL (fun W' => Below wr.heap.size wr W') [] (by kernel_rfl) (Below.refl _ _).drew (fun hHeld => ?_)
        refine takeA (i := 0) (v := .slice (some ⟨b, o, none⟩) l.length cap) 14 rfl rfl (by kernel_rfl) (by kernel_rfl) (by kernel_rfl) (by kernel_rfl) (fun _ _ _ h => h) (Or.inl ⟨by rfl, by intro W hSw; go_simp⟩) hHeld ?_
        simp only [Act.put, List.setIfInBounds_toArray, List.set_cons_zero, List.set_cons_succ]
        refine takeA (i := 1) (v := .int .i64 k) 15 rfl rfl (by kernel_rfl) (by kernel_rfl) (by kernel_rfl) (by kernel_rfl) (fun _ _ _ h => h) (Or.inl ⟨by rfl, by intro W hSw; go_simp⟩) hHeld ?_
        simp only [Act.put, List.setIfInBounds_toArray, List.set_cons_zero, List.set_cons_succ]
        refine takeA (i := 2) (v := .int .i64 (k + 1)) 16 rfl rfl (by kernel_rfl) (by kernel_rfl) (by kernel_rfl) (by kernel_rfl) (fun _ _ _ h => h) (Or.inl ⟨by rfl, by intro W hSw; go_simp⟩) hHeld ?_
        simp only [Act.put, List.setIfInBounds_toArray, List.set_cons_zero, List.set_cons_succ]
        refine takeA (i := 3) (v := tailV b o (k + 1) l.length cap) 17 rfl rfl (by kernel_rfl) (by kernel_rfl) (by kernel_rfl) (by kernel_rfl) (fun _ _ _ h => h) (Or.inl ⟨by rfl, by intro W hSw; go_simp; unfold tailV; rw [if_pos (by omega)]⟩) hHeld ?_
        simp only [Act.put, List.setIfInBounds_toArray, List.set_cons_zero, List.set_cons_succ]
        refine takeA (i := 4) (v := .agg #[.int .i64 da, .int .i64 db, .int .i64 dc]) 18 rfl rfl (by kernel_rfl) (by kernel_rfl) (by kernel_rfl) (by kernel_rfl) (fun _ _ _ h => h) (Or.inl ⟨by rfl, by intro W hSw; have hz := HXW.out _ hSw; have c0 := hz.cell 0; have c1 := hz.cell 1; have c2 := hz.cell 2; simp only [List.getElem?_cons_zero, List.getElem?_cons_succ] at c0 c1 c2; go_simp⟩) hHeld ?_
        simp only [Act.put, List.setIfInBounds_toArray, List.set_cons_zero, List.set_cons_succ]
        refine takeA (i := 5) (v := .int .i64 X) 19 rfl rfl (by kernel_rfl) (by kernel_rfl) (by kernel_rfl) (by kernel_rfl) (fun _ _ _ h => h) (Or.inl ⟨by rfl, by intro W hSw; go_simp⟩) hHeld ?_
        simp only [Act.put, List.setIfInBounds_toArray, List.set_cons_zero, List.set_cons_succ]
        refine onlyL (i := 6) (by kernel_rfl) rfl (by rfl) (fun K hK => ?_)
        go_simp
        refine (KCX.out _).mono ?_
        rintro e w9 ⟨lb, rfl, hp9, hb9, hs9⟩
        have t9 : Below wr.heap.size wr w9 := hHeld.trans (hb9.mono hHeld.size)
        have P9 := Lib.hid hp9
        clear hb9 hs9 hp9 hHeld
        refine hK.out _ _ (fun _ => t9) (fun _ => ?_)
        clear hK K
        try simp only [Act.put, List.setIfInBounds_toArray, List.set_cons_zero, List.set_cons_succ]
        refine onlyL (i := 7) (by kernel_rfl) rfl (by rfl) (fun K hK => ?_)
        go_simp
        refine (KF.out lb t _ _ _ L' _ (HT.out _ (HBw.out.trans (t9.mono HBw.out.size))) HXL.out P9.out).mono ?_
        rintro e w10 ⟨rfl, hb10⟩
        rw [← HQ.out]
        have t10 : Below wr.heap.size wr w10 := t9.trans (hb10.mono t9.size)
        clear hb10
        refine hK.out _ _ (fun _ => t10) (fun _ => ?_)
        clear hK K
        try simp only [Act.put, List.setIfInBounds_toArray, List.set_cons_zero, List.set_cons_succ]
        refine doneL (by kernel_rfl) ?_ _
        have HB9 := Lib.hid (HB.out.trans (t10.mono HB.out.size))
        clear t9 t10 P9
        go_wp2
        go_roundw
        case rel => exact ⟨k + 1, by omega, by go_num, Lib.hid (by rw [HR0.out, HLL.out]; rfl), HB9⟩
        case measure => simp [intOf] <;> omega
    · have HF : Hid (R = true) := Lib.hid (by rw [HR.out, HEND.out k hlt])
      have hnl : ¬ (k : Int) < (l.length : Int) := by omega
      go_wp2
      go_ret
      exact ⟨by rw [HF.out]; rfl, HW1.out.2.trans (HB.out.mono HW1.out.2.size)⟩
end Go.Proofs.YteahjnobnbafiaaDoor
