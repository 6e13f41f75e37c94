/-
  The walk of the law FnSafe: it returns true and writes nothing that was there. No condition.
-/
import Derived.Test.YteahjnobnbafiaaDcl
import Derived.Test.YteahjnobnbafiaaCdw
import Derived.Test.YteahjnobnbafiaaCdr
import Derived.Test.YteahjnobnbafiaaLhs
import Derived.Test.YteahjnobnbafiaaCin
namespace Go.Proofs.Yteahjnobnbafiaa
open Go.RowKit Go.WideShapes
open Go Go.Deep
set_option linter.unusedSimpArgs false

theorem litI_any (W : World) (l : List Int) (h2 : l.length ≤ 1000) : Iv W.heap.size (W.alloc (.cells (ints l).toArray 3)).heap.size (W.alloc (.cells (ints l).toArray 3)) (.slice (some ⟨W.heap.size, 0, none⟩) l.length l.length) l := by
  have h := World.ownsRow_lit (base := W.heap.size) (e := 3) (size := 1) W (ints l).toArray l.length (by simp [ints_len]) (by unfold maxLen; omega) (by simp [ints_len])
  exact (show Io _ _ _ _ _ from Ro.of_own (by simpa using h)).read
set_option maxRecDepth 100000 in
set_option maxHeartbeats 16000000 in
theorem walk_FnSafe (v00 : Value) (len : Nat) (w : World) (h0 : InBytes w v00 len) :
    Calls Try.prog 10 #[v00] w fun e w' => e = .returned (.bool true) ∧ Below w.heap.size w w' := by
  obtain ⟨a0, cap0, e0, hlc, hcm, -⟩ := id h0
  subst e0
  unfold maxLen at hcm
  by_cases hbig : 1048576 < len
  · clear h0
    go_enter Try.func10, Try.ntmps10
    go_wp2
    go_ret
    exact ⟨rfl, Below.refl _ _⟩
  have HK := Lib.hid (h0.code (by omega))
  have KD := Lib.hid (fun W (h : Below w.heap.size w W) => makeDeal_any W _ (HK.out.below h (Nat.le_refl _)))
  have KN := Lib.hid (fun n (hn : n ≤ 1000) W (h : Below w.heap.size w W) => makeNum_any W _ n hn (HK.out.below h (Nat.le_refl _)))
  clear h0
  go_enter Try.func10, Try.ntmps10
  go_wp2_with fail
  refine (KD.out _ (Below.refl _ _)).mono ?_
  rintro e w1 ⟨d, hd, rfl, hb1⟩
  have HD1 := Lib.hid (deals_hands d hd)
  have HFS := Lib.hid (fun x y o => firstR_ok (d := d) (hand := x) (size := y) (o := o))
  have HFL := Lib.hid (fun x y o => firstR_some (d := d) (hand := x) (size := y) (o := o))
  have KH := Lib.hid (fun W => implHands_any d W)
  have KI := Lib.hid (fun x y W => implFirst_any d x y W)
  have KS := Lib.hid (fun x y W => specFirst_any d x y W)
  have KSa := Lib.hid (fun lo hi v l W h hn => implSafe_any lo hi v l d W h hn)
  have KSb := Lib.hid (fun lo hi v l W h hn => implSafe_any lo hi v l ⟨3, 3, 1⟩ W h hn)
  have B1 := Lib.hid hb1
  unfold IntsAns at KH
  unfold IntsOpt at KI KS
  clear hb1 hd KD
  generalize handsR d = al at *
  obtain ⟨dv, hdv⟩ : ∃ dv, dv = d.v := ⟨_, rfl⟩
  rw [← hdv] at KH KI KS KSa ⊢
  obtain ⟨da, hda⟩ : ∃ da, da = d.a := ⟨_, rfl⟩
  obtain ⟨db, hdb⟩ : ∃ db, db = d.b := ⟨_, rfl⟩
  obtain ⟨dc, hdc⟩ : ∃ dc, dc = d.c := ⟨_, rfl⟩
  have hv : dv = .agg #[.int .i64 da, .int .i64 db, .int .i64 dc] := by rw [hdv, hda, hdb, hdc]; rfl
  rw [hv] at KH KI KS KSa ⊢
  clear hdv hda hdb hdc hv
  have hs1 := B1.out.size
  have hX : Cm (w1.alloc (.cells #[.int .i64 da, .int .i64 db, .int .i64 dc] 25)) w1.heap.size 25 [.int .i64 da, .int .i64 db, .int .i64 dc] := Cm.new (cs := [.int .i64 da, .int .i64 db, .int .i64 dc]) rfl
  have hb2 : Below w1.heap.size w1 (w1.alloc (.cells #[.int .i64 da, .int .i64 db, .int .i64 dc] 25)) := (Below.refl _ _).alloc (Nat.le_refl _) _
  go_wp2_with fail
  generalize w1.alloc (.cells #[.int .i64 da, .int .i64 db, .int .i64 dc] 25) = w2 at *
  have B2 := Lib.hid (B1.out.trans (hb2.mono hs1))
  have X2 := Lib.hid hX
  clear hX hb2
  refine (KH.out _).mono ?_
  rintro e w3 ⟨v3, rfl, ho3, hb3⟩
  have B3 := Lib.hid (B2.out.trans (hb3.mono B2.out.size))
  have X3 := Lib.hid (X2.out.all hb3)
  have A3 := Lib.hid ho3.read
  obtain ⟨a3, c3, e3, ha31, ha32, ha33⟩ := A3.out.parts
  subst e3
  have KEY := Lib.hid ha33
  unfold maxLen at ha32
  have hl1 := HD1.out
  clear ho3 hb3 ha33 KH B2 X2
  go_wp2_with fail
  refine (KN.out 20 (by decide) _ B3.out).mono ?_
  rintro e w4 ⟨x, rfl, x0, x1, hb4⟩
  have B4 := Lib.hid (B3.out.trans (hb4.mono B3.out.size))
  have X4 := Lib.hid (X3.out.all hb4)
  have hm40 : 0 ≤ x % 4 := by omega
  have hm41 : x % 4 < 4 := by omega
  have hb34 := Lib.hid hb4
  clear hb4 X3
  have hlne : ((al.length : Int) == 0) = false := beq_eq_false_iff_ne.2 (by omega)
  go_wp2_with fail
  generalize x % 4 = sz at *
  clear x0 x1
  refine (KN.out 22 (by decide) _ B4.out).mono ?_
  rintro e w5 ⟨y, rfl, y0, y1, hb5⟩
  have B5 := Lib.hid (B4.out.trans (hb5.mono B4.out.size))
  have X5 := Lib.hid (X4.out.all hb5)
  have h35 : Below w3.heap.size w3 w5 := hb34.out.trans (hb5.mono hb34.out.size)
  have hyl0 : 0 ≤ y % (al.length : Int) := Int.emod_nonneg _ (by omega)
  have hyl1 : y % (al.length : Int) < (al.length : Int) := Int.emod_lt_of_pos _ (by omega)
  have hyt : y.tmod (al.length : Int) = y % (al.length : Int) := Int.tmod_eq_emod_of_nonneg y0
  obtain ⟨j, hj⟩ := Int.eq_ofNat_of_zero_le hyl0
  rw [hj] at hyt hyl1
  have hjl : j < al.length := by omega
  obtain ⟨b, o, rfl, -, -, hb, q0⟩ := KEY.out j hjl
  rw [← h35.cell (p := ⟨b, o + j, none⟩) hb] at q0
  have hj0 : (0 : Int) ≤ (j : Int) := Int.natCast_nonneg _
  generalize al.getD j 0 = h at *
  have KI1 := Lib.hid (fun W => KI.out h (1 + sz) W)
  have KS1 := Lib.hid (fun W => KS.out h (1 + sz) W)
  have HF1 := Lib.hid (fun o (e : firstR d h (1 + sz) = some o) => And.intro (HFS.out h (1 + sz) o e) (HFL.out h (1 + sz) o e))
  generalize firstR d h (1 + sz) = R at *
  have c0 := X5.out.cell 0
  have c1 := X5.out.cell 1
  have c2 := X5.out.cell 2
  simp only [List.getElem?_cons_zero, List.getElem?_cons_succ] at c0 c1 c2
  have hl1w : w1.heap.size < w5.heap.size := X5.out.lt
  have hyz : ((al.length : Int) == 0) = false := hlne
  have hjs : (j : Int) < (al.length : Int) := hyl1
  clear hb5 KEY HFS HFL KI KS X4 B4 hb34 h35 hj hyl0 A3
  go_wp2_with fail
  refine (KI1.out _).mono ?_
  rintro e w6 ⟨v6, rfl, ho6, hb6⟩
  have B6 := Lib.hid (B5.out.trans (hb6.mono B5.out.size))
  have X6 := Lib.hid (X5.out.all hb6)
  have O6 := Lib.hid ho6
  obtain ⟨a6, c6, e6⟩ := O6.out.form
  subst e6
  clear ho6 hb6 c0 c1 c2 q0 X5 B5 KI1
  have c0 := X6.out.cell 0
  have c1 := X6.out.cell 1
  have c2 := X6.out.cell 2
  simp only [List.getElem?_cons_zero, List.getElem?_cons_succ] at c0 c1 c2
  have hl2w : w1.heap.size < w6.heap.size := X6.out.lt
  go_wp2_with fail
  refine (KS1.out _).mono ?_
  rintro e w7 ⟨v7, rfl, ho7, hb7⟩
  have B7 := Lib.hid (B6.out.trans (hb7.mono B6.out.size))
  have X7 := Lib.hid (X6.out.all hb7)
  have O7 := Lib.hid (O6.out.keeps (Keeps.of_all hb7))
  obtain ⟨a7, c7, e7⟩ := ho7.form
  subst e7
  clear ho7 hb7 c0 c1 c2 X6 B6 KS1 O6
  have c0 := X7.out.cell 0
  have c1 := X7.out.cell 1
  have c2 := X7.out.cell 2
  simp only [List.getElem?_cons_zero, List.getElem?_cons_succ] at c0 c1 c2
  have hl3w : w1.heap.size < w7.heap.size := X7.out.lt
  unfold Dl.v at KSb
  simp only at KSb
  cases R with
  | none =>
    clear HF1 KSa O7
    go_wp2_with fail
    clear c0 c1 c2
    have hbz : Below w7.heap.size w7 ((w7.alloc (.cells #[.int .i64 3, .int .i64 3, .int .i64 1] 25)).alloc (.cells #[.int .i64 7, .int .i64 25, .int .i64 42, .int .i64 52, .int .i64 76, .int .i64 82, .int .i64 97] 3)) := by go_grown
    have hL1 : Iv (w7.heap.size + 1) ((w7.alloc (.cells #[.int .i64 3, .int .i64 3, .int .i64 1] 25)).alloc (.cells #[.int .i64 7, .int .i64 25, .int .i64 42, .int .i64 52, .int .i64 76, .int .i64 82, .int .i64 97] 3)).heap.size ((w7.alloc (.cells #[.int .i64 3, .int .i64 3, .int .i64 1] 25)).alloc (.cells #[.int .i64 7, .int .i64 25, .int .i64 42, .int .i64 52, .int .i64 76, .int .i64 82, .int .i64 97] 3)) (.slice (some ⟨w7.heap.size + 1, 0, none⟩) 7 7) [7, 25, 42, 52, 76, 82, 97] := by
      have h := litI_any (w7.alloc (.cells #[.int .i64 3, .int .i64 3, .int .i64 1] 25)) [7, 25, 42, 52, 76, 82, 97] (by decide)
      simpa [ints] using h
    have hD1 : Cm ((w7.alloc (.cells #[.int .i64 3, .int .i64 3, .int .i64 1] 25)).alloc (.cells #[.int .i64 7, .int .i64 25, .int .i64 42, .int .i64 52, .int .i64 76, .int .i64 82, .int .i64 97] 3)) w7.heap.size 25 [.int .i64 3, .int .i64 3, .int .i64 1] := Cm.alloc (Cm.new (cs := [.int .i64 3, .int .i64 3, .int .i64 1]) rfl) _
    generalize ((w7.alloc (.cells #[.int .i64 3, .int .i64 3, .int .i64 1] 25)).alloc (.cells #[.int .i64 7, .int .i64 25, .int .i64 42, .int .i64 52, .int .i64 76, .int .i64 82, .int .i64 97] 3)) = wy at *
    refine (KSb.out _ _ _ [7, 25, 42, 52, 76, 82, 97] _ hL1 (by decide)).mono ?_
    rintro e wx ⟨rfl, hbx⟩
    rw [big_safe]
    have BX := Lib.hid (B7.out.trans ((hbz.trans (hbx.mono hbz.size)).mono B7.out.size))
    have hD2 := hD1.all hbx
    have k0 := hD2.cell 0
    have k1 := hD2.cell 1
    have k2 := hD2.cell 2
    simp only [List.getElem?_cons_zero, List.getElem?_cons_succ] at k0 k1 k2
    have hlx := hD2.lt
    clear hbz hbx hL1 hD1 hD2
    go_wp2_with fail
    have hb9 : Below wx.heap.size wx (wx.alloc (.cells #[.int .i64 7, .int .i64 25] 3)) := (Below.refl _ _).alloc (Nat.le_refl _) _
    have hL2 : Iv wx.heap.size (wx.alloc (.cells #[.int .i64 7, .int .i64 25] 3)).heap.size (wx.alloc (.cells #[.int .i64 7, .int .i64 25] 3)) (.slice (some ⟨wx.heap.size, 0, none⟩) 2 2) [7, 25] := by
      have h := litI_any wx [7, 25] (by decide)
      simpa [ints] using h
    generalize wx.alloc (.cells #[.int .i64 7, .int .i64 25] 3) = wt at *
    refine (KSb.out _ _ _ [7, 25] _ hL2 (by decide)).mono ?_
    rintro e wv ⟨rfl, hbv⟩
    rw [big_not]
    have BV := Lib.hid (BX.out.trans ((hb9.trans (hbv.mono hb9.size)).mono BX.out.size))
    clear hb9 hL2 hbv k0 k1 k2
    go_wp2
    go_ret
    exact ⟨rfl, BV.out⟩
  | some l =>
    obtain ⟨⟨hh, hsf⟩, hz1, hz7, hlen⟩ := HF1.out l rfl
    simp only [Option.getD_some] at O7
    have KSl := Lib.hid (fun W (h : Below w7.heap.size w7 W) => KSa.out _ _ _ l W (O7.out.keeps (Keeps.of_all h)).read (by omega))
    rw [hsf] at KSl
    have KHl := Lib.hid (lawHas_any _ _ _ l h w7 O7.out.read)
    rw [show hasB l h = true from decide_eq_true (hasI_iff.1 hh)] at KHl
    simp only [Option.getD_some, Option.isSome_some] at *
    clear HF1 KSa hh hsf
    generalize 1 + sz = s at *
    subst hlen
    go_wp2_with fail
    refine KHl.out.mono ?_
    rintro e w8 ⟨rfl, rfl⟩
    go_wp2_with fail
    refine (KSl.out _ (Below.refl _ _)).mono ?_
    rintro e w8 ⟨rfl, hb8⟩
    have B8 := Lib.hid (B7.out.trans (hb8.mono B7.out.size))
    have hl4w : w1.heap.size < w8.heap.size := by have := hb8.size; omega
    clear hb8 c0 c1 c2 KSl KHl O7 X7 B7
    go_wp2_with fail
    have hbz : Below w8.heap.size w8 ((w8.alloc (.cells #[.int .i64 3, .int .i64 3, .int .i64 1] 25)).alloc (.cells #[.int .i64 7, .int .i64 25, .int .i64 42, .int .i64 52, .int .i64 76, .int .i64 82, .int .i64 97] 3)) := by go_grown
    have hL1 : Iv (w8.heap.size + 1) ((w8.alloc (.cells #[.int .i64 3, .int .i64 3, .int .i64 1] 25)).alloc (.cells #[.int .i64 7, .int .i64 25, .int .i64 42, .int .i64 52, .int .i64 76, .int .i64 82, .int .i64 97] 3)).heap.size ((w8.alloc (.cells #[.int .i64 3, .int .i64 3, .int .i64 1] 25)).alloc (.cells #[.int .i64 7, .int .i64 25, .int .i64 42, .int .i64 52, .int .i64 76, .int .i64 82, .int .i64 97] 3)) (.slice (some ⟨w8.heap.size + 1, 0, none⟩) 7 7) [7, 25, 42, 52, 76, 82, 97] := by
      have h := litI_any (w8.alloc (.cells #[.int .i64 3, .int .i64 3, .int .i64 1] 25)) [7, 25, 42, 52, 76, 82, 97] (by decide)
      simpa [ints] using h
    have hD1 : Cm ((w8.alloc (.cells #[.int .i64 3, .int .i64 3, .int .i64 1] 25)).alloc (.cells #[.int .i64 7, .int .i64 25, .int .i64 42, .int .i64 52, .int .i64 76, .int .i64 82, .int .i64 97] 3)) w8.heap.size 25 [.int .i64 3, .int .i64 3, .int .i64 1] := Cm.alloc (Cm.new (cs := [.int .i64 3, .int .i64 3, .int .i64 1]) rfl) _
    generalize ((w8.alloc (.cells #[.int .i64 3, .int .i64 3, .int .i64 1] 25)).alloc (.cells #[.int .i64 7, .int .i64 25, .int .i64 42, .int .i64 52, .int .i64 76, .int .i64 82, .int .i64 97] 3)) = wy at *
    refine (KSb.out _ _ _ [7, 25, 42, 52, 76, 82, 97] _ hL1 (by decide)).mono ?_
    rintro e wx ⟨rfl, hbx⟩
    rw [big_safe]
    have BX := Lib.hid (B8.out.trans ((hbz.trans (hbx.mono hbz.size)).mono B8.out.size))
    have hD2 := hD1.all hbx
    have k0 := hD2.cell 0
    have k1 := hD2.cell 1
    have k2 := hD2.cell 2
    simp only [List.getElem?_cons_zero, List.getElem?_cons_succ] at k0 k1 k2
    have hlx := hD2.lt
    clear hbz hbx hL1 hD1 hD2
    go_wp2_with fail
    have hb9 : Below wx.heap.size wx (wx.alloc (.cells #[.int .i64 7, .int .i64 25] 3)) := (Below.refl _ _).alloc (Nat.le_refl _) _
    have hL2 : Iv wx.heap.size (wx.alloc (.cells #[.int .i64 7, .int .i64 25] 3)).heap.size (wx.alloc (.cells #[.int .i64 7, .int .i64 25] 3)) (.slice (some ⟨wx.heap.size, 0, none⟩) 2 2) [7, 25] := by
      have h := litI_any wx [7, 25] (by decide)
      simpa [ints] using h
    generalize wx.alloc (.cells #[.int .i64 7, .int .i64 25] 3) = wt at *
    refine (KSb.out _ _ _ [7, 25] _ hL2 (by decide)).mono ?_
    rintro e wv ⟨rfl, hbv⟩
    rw [big_not]
    have BV := Lib.hid (BX.out.trans ((hb9.trans (hbv.mono hb9.size)).mono BX.out.size))
    clear hb9 hL2 hbv k0 k1 k2
    go_wp2
    go_ret
    exact ⟨rfl, BV.out⟩
end Go.Proofs.Yteahjnobnbafiaa
