/-
  Contracts of spec.HandsOf, l13Has, AnnouncementOk. No condition.
-/
import Derived.Test.YteahjnobnbafiaaDoorCdi
namespace Go.Proofs.YteahjnobnbafiaaDoor
open Go.RowKit Go.WideShapes
open Go Go.Deep
set_option linter.unusedSimpArgs false

theorem ints_none (w w' : World) (h : Below w.heap.size w w') : IntsAns w [] (.returned (.slice none 0 0)) w' := ⟨_, rfl, Ro.nil _ _ _ _, h⟩
theorem IntsAns.from {w w1 w' : World} {l : List Int} {e : Ending} (h : IntsAns w1 l e w') (hb : Below w.heap.size w w1) : IntsAns w l e w' := by
  obtain ⟨v, rfl, ho, hw⟩ := h
  exact ⟨v, rfl, Ro.wide ho hb.size (Nat.le_refl _), hb.trans (hw.mono hb.size)⟩
set_option maxHeartbeats 2000000 in
theorem specHands_any (d : Dl) (w : World) : Calls Tryd.prog 25 #[d.v] w (IntsAns w (handsR d)) := by
  have KD := Lib.hid (fun W => specDeal_any d W)
  have HR : Hid (handsR d = if dealR d then handsN d.n d.a.toNat else []) := Lib.hid rfl
  have HB : Hid (dealR d = true → 1 ≤ d.a ∧ d.a ≤ 7 ∧ 1 ≤ d.b ∧ d.b ≤ 7 ∧ 0 ≤ d.c ∧ d.c ≤ 7 ∧ d.a + d.b + d.c ≤ 7 ∧ d.n ≤ 7 ∧ d.a + d.b + d.c = (d.n : Int)) := Lib.hid (fun h => by
    unfold dealR at h
    simp only [Bool.and_eq_true, decide_eq_true_eq] at h
    unfold Dl.n
    omega)
  have KH := Lib.hid (fun n k hn W => hands_any n k hn W)
  unfold Dl.v at *
  generalize handsR d = R at *
  generalize dealR d = ok at *
  generalize d.n = n at *
  obtain ⟨a, b, c⟩ := d
  simp only at *
  have hX : Cm (w.alloc (.cells #[.int .i64 a, .int .i64 b, .int .i64 c] 26)) w.heap.size 26 [.int .i64 a, .int .i64 b, .int .i64 c] := Cm.new (cs := [.int .i64 a, .int .i64 b, .int .i64 c]) rfl
  have hb1 : Below w.heap.size w (w.alloc (.cells #[.int .i64 a, .int .i64 b, .int .i64 c] 26)) := (Below.refl _ _).alloc (Nat.le_refl _) _
  go_enter Tryd.func25, Tryd.ntmps25
  go_wp2_with fail
  generalize w.alloc (.cells #[.int .i64 a, .int .i64 b, .int .i64 c] 26) = w1 at *
  have B1 := Lib.hid hb1
  have X1 := Lib.hid hX
  clear hb1 hX
  refine (KD.out _).mono ?_
  rintro e w2 ⟨rfl, hb2⟩
  have B2 := Lib.hid (B1.out.trans (hb2.mono B1.out.size))
  have hX2 := X1.out.all hb2
  have c0 := hX2.cell 0
  have c1 := hX2.cell 1
  have c2 := hX2.cell 2
  simp only [List.getElem?_cons_zero, List.getElem?_cons_succ] at c0 c1 c2
  clear hb2 hX2 X1
  cases ok with
  | false =>
    have HN : Hid (R = []) := Lib.hid HR.out
    clear HR
    go_wp2
    go_ret
    rw [HN.out]
    exact ints_none _ _ B2.out
  | true =>
    obtain ⟨a1, a7, b1, b7, c1', c7, hs, hn, hsn⟩ := HB.out rfl
    obtain ⟨k, rfl⟩ := Int.eq_ofNat_of_zero_le (show 0 ≤ a by omega)
    have HN : Hid (R = handsN n k) := Lib.hid (by rw [HR.out, if_pos rfl, Int.toNat_natCast])
    clear HR HB
    go_wp2_with fail
    refine (KH.out n k hn _).mono ?_
    rintro e w3 h3
    rw [← HN.out] at h3
    obtain ⟨v3, rfl, ho3, hb3⟩ := h3.from B2.out
    have O3 := Lib.hid ho3
    have B3 := Lib.hid hb3
    clear ho3 hb3
    go_wp2
    go_ret
    exact ⟨_, rfl, O3.out, B3.out⟩

theorem hasI_take {l : List Int} {x : Int} {k : Nat} (hk : k < l.length) (h : hasI (l.take k) x = false) : hasI (l.take (k + 1)) x = (l.getD k 0 == x) := by
  have e : l.take (k + 1) = l.take k ++ [l.getD k 0] := by
    rw [List.take_add_one, List.getElem?_eq_getElem hk, List.getD_eq_getElem?_getD, List.getElem?_eq_getElem hk]; rfl
  unfold hasI at *
  rw [e, List.any_append, h]; simp
theorem hasI_yes {l : List Int} {x : Int} {k : Nat} (h : hasI (l.take k) x = true) : hasI l x = true := by
  unfold hasI at *
  rw [List.any_eq_true] at *
  obtain ⟨y, hy, e⟩ := h
  exact ⟨y, List.mem_of_mem_take hy, e⟩
end Go.Proofs.YteahjnobnbafiaaDoor
