/-
  Contracts of spec.l08Draw and spec.MakeAnnounced: the formula that is drawn is one that holds an announcement. Condition: the code has at most 1048576 bytes.
-/
import Derived.Test.YtodjohdbngbpaaaGreatDrg
import Derived.Test.YtodjohdbngbpaaaGreatHas
import Derived.Test.YtodjohdbngbpaaaGreatLtm
namespace Go.Proofs.YtodjohdbngbpaaaGreat
open Go.RowKit Go.WideShapes
open Go Go.Deep
set_option linter.unusedSimpArgs false

set_option maxRecDepth 100000 in
set_option maxHeartbeats 8000000 in
theorem drawB_any (W w : World) (b : Nat) (cv : Value) (hk : CodeOk W cv) (hc : Cur W w b cv) :
    Calls Tryz.prog 68 #[.pointer (some ⟨b, 0, none⟩)] w (DrawF W w b cv 8) := by
  have K6 := Lib.hid (drawF_any W w b cv 6 (by decide) (by decide) hk hc)
  have KO := Lib.hid (fun w' hc' => once_any W w' b cv 3 (by decide) (by decide) hk hc')
  have K2 := Lib.hid (fun w' hc' => drawF_any W w' b cv 2 (by decide) (by decide) hk hc')
  have hbw : b < w.heap.size := hc.lt
  clear hk hc
  go_enter Tryz.func68, Tryz.ntmps68
  go_wp2_with fail
  refine K6.out.mono ?_
  rintro e w1 ⟨v, xs, rfl, ho, ⟨t, rfl, hw, ha, hs⟩, hc1, hg1⟩
  have O1 := Lib.hid ho
  have C1 := Lib.hid hc1
  have G1 := Lib.hid hg1
  have s1 : w.heap.size ≤ w1.heap.size := hg1.size
  clear ho hc1 hg1 K6
  go_wp2_with fail
  refine (KO.out _ C1.out).mono ?_
  rintro e w2 ⟨ob, rfl, hc2, hg2⟩
  have O2 := Lib.hid (O1.out.kept hg2 (.inr (fun e => by have := (O1.out.lt _ e).1; omega)))
  have C2 := Lib.hid hc2
  have G2 := Lib.hid (grown_trans G1.out hg2)
  have s2 : w1.heap.size ≤ w2.heap.size := hg2.size
  clear hc2 hg2 O1 C1 G1
  cases ob with
  | true =>
    go_wp2
    go_ret
    exact ⟨v, _, rfl, O2.out, ⟨t, rfl, hw, ha, by omega⟩, C2.out, G2.out⟩
  | false =>
    go_wp2_with fail
    refine (K2.out _ C2.out).mono ?_
    rintro e w3 ⟨u, ys, rfl, ho, ⟨p, rfl, hpw, hpa, hps⟩, hc3, hg3⟩
    have O3 := Lib.hid (O2.out.kept hg3 (.inr (fun e => by have := (O2.out.lt _ e).1; omega)))
    have U3 := Lib.hid ho
    have C3 := Lib.hid hc3
    have G3 := Lib.hid (grown_trans G2.out hg3)
    have s3 : w.heap.size ≤ w3.heap.size := by have := hg3.size; omega
    clear ho hc3 hg3 O2 C2 G2
    have hps2 : p.size ≤ 3 := hps
    have hs2 : t.size ≤ 11 := hs
    have hjw : (Tm.joint 9 p t).wf := ⟨.inr rfl, hpw, hw⟩
    have hjs : (Tm.joint 9 p t).size ≤ 15 := by show p.size + t.size + 1 ≤ 15; omega
    have KA := Lib.hid (specAfter_any u v (lay 0 p) (lay 0 t) w3 (Ns.of_own U3.out) (Ns.of_own O3.out))
    rw [lay_formOk hpw (by omega), lay_formOk hw (by omega), show termOfL (lay 0 p) = p from lay_tm hpw (by omega), show termOfL (lay 0 t) = t from lay_tm hw (by omega), if_pos (show (true && true) = true from rfl),
      show combL (.joint 9 p t) = some (lay 0 (.joint 9 p t)) by unfold combL; rw [if_pos (lay_formOk hjw (by omega))]] at KA
    unfold Ans at KA
    simp only [Option.getD_some, Option.isSome_some] at KA
    go_wp2_with fail
    refine KA.out.mono ?_
    rintro e w4 ⟨z, rfl, hz, hb4⟩
    have Z4 := Lib.hid (own_mono hz s3)
    have C4 := Lib.hid (C3.out.belowC hb4)
    have G4 := Lib.hid (gb_below G3.out hb4)
    clear hz hb4 C3 G3 KA
    go_wp2
    go_ret
    exact ⟨z, _, rfl, Z4.out, ⟨.joint 9 p t, rfl, hjw, ⟨hpa, ha⟩, hjs⟩, C4.out, G4.out⟩

/-- the formula that stands where none was drawn -/
def fallT : Tm := .joint 9 (.leaf 1 0) (.know 5 0 (.leaf 1 1))
theorem fall_wf : fallT.wf := ⟨.inr rfl, ⟨.inl rfl, by decide, by decide⟩, .inl rfl, by decide, by decide, .inl rfl, by decide, by decide⟩
theorem fall_str : str (txt fallT) = ⟨#[33, 97, 75, 48, 98]⟩ := by rfl
theorem fall_has : hasA (lay 0 fallT) = true := by decide
/-- a new formula with an announcement in it -/
def MakeB (W : World) (e : Ending) (w' : World) : Prop := ∃ v xs, e = .returned v ∧ w'.ownsRow W.heap.size 112 4 v xs.length (ndCells xs) ∧ drawnF xs 2 8 ∧ hasA xs = true ∧ Below W.heap.size W w'

set_option maxRecDepth 100000 in
set_option maxHeartbeats 8000000 in
theorem makeB_any (W : World) (cv : Value) (n : Nat) (hn : n ≤ 1000) (hk : CodeOk W cv) :
    Calls Tryz.prog 25 #[cv, .int .i64 n] W (MakeB W) := by
  have HK := Lib.hid hk
  have K1 := Lib.hid (newAt_any W cv n hn hk)
  clear hk
  go_enter Tryz.func25, Tryz.ntmps25
  go_wp2_with fail
  refine K1.out.mono ?_
  rintro e w1 ⟨b, rfl, hc⟩
  have C1 := Lib.hid hc
  have K2 := Lib.hid (fun w' hc' => drawB_any W w' b cv HK.out hc')
  clear hc K1 HK
  go_wp2
  go_loopw [6] (fun iv wr => ∃ k : Nat, k ≤ 8 ∧ iv = .int .i64 k ∧ Hid (Cur W wr b cv)) (fun iv _ => 8 - (intOf iv).toNat)
  case atStart => exact ⟨0, by omega, rfl, C1⟩
  case round =>
    clear C1
    obtain ⟨k, hk, rfl, CR⟩ := hrel
    by_cases hlt : k < 8
    · have hk1 : (k : Int) < 8 := by omega
      have hWr : W.heap.size ≤ wr.heap.size := CR.out.1.size
      go_wp2_with fail
      refine (K2.out _ CR.out).mono ?_
      rintro e w3 ⟨v, xs, rfl, ho, hd, hc3, -⟩
      have O3 := Lib.hid (own_mono ho hWr)
      have N3 := Lib.hid (Ns.of_own ho)
      have C3 := Lib.hid hc3
      have HD := Lib.hid hd
      have hl : xs.length ≤ 1048576 := by have := (hd.ok (by decide)).2; omega
      have KC := Lib.hid (fun op W' h => specCountOp_any v xs op W' h hl)
      clear ho hd hc3 CR hl
      by_cases h8 : ((cntOp xs 8 : Nat) : Int) = 0
      · by_cases h9 : (0 : Int) < ((cntOp xs 9 : Nat) : Int)
        · skip
          have tk1 : True := trivial
          have tk2 : True := trivial
          go_wp2_with
            (first
              | (have _t := tk1; clear _t tk1; go_at_call 69; (with_reducible refine (KC.out _ _ N3.out).mono ?_); rintro e w4 ⟨rfl, hb4⟩; have C4 := Lib.hid (C3.out.belowC hb4); have N4 := Lib.hid (N3.out.below hb4 (Nat.le_refl _)); have O4 := Lib.hid (own_below O3.out hb4 (Nat.le_refl _)); clear hb4)
              | (have _t := tk2; clear _t tk2; go_at_call 69; (with_reducible refine (KC.out _ _ N4.out).mono ?_); rintro e w5 ⟨rfl, hb5⟩; have C5 := Lib.hid (C4.out.belowC hb5); have O5 := Lib.hid (own_below O4.out hb5 (Nat.le_refl _)); clear hb5))
          go_ret
          exact ⟨v, xs, rfl, O5.out, HD.out, by unfold hasA; exact decide_eq_true (by omega), C5.out.1⟩
        · skip
          have tk3 : True := trivial
          have tk4 : True := trivial
          go_wp2_with
            (first
              | (have _t := tk3; clear _t tk3; go_at_call 69; (with_reducible refine (KC.out _ _ N3.out).mono ?_); rintro e w4 ⟨rfl, hb4⟩; have C4 := Lib.hid (C3.out.belowC hb4); have N4 := Lib.hid (N3.out.below hb4 (Nat.le_refl _)); clear hb4)
              | (have _t := tk4; clear _t tk4; go_at_call 69; (with_reducible refine (KC.out _ _ N4.out).mono ?_); rintro e w5 ⟨rfl, hb5⟩; have C5 := Lib.hid (C4.out.belowC hb5); clear hb5))
          go_roundw
          case rel => exact ⟨k + 1, by omega, by go_num, C5⟩
          case measure => simp [intOf]; omega
      · skip
        have tk5 : True := trivial
        go_wp2_with
          (first
            | (have _t := tk5; clear _t tk5; go_at_call 69; (with_reducible refine (KC.out _ _ N3.out).mono ?_); rintro e w4 ⟨rfl, hb4⟩; have C4 := Lib.hid (C3.out.belowC hb4); clear hb4))
        go_roundw
        case rel => exact ⟨k + 1, by omega, by go_num, C4⟩
        case measure => simp [intOf]; omega
    · obtain rfl : k = 8 := by omega
      have hWr : W.heap.size ≤ wr.heap.size := CR.out.1.size
      have K3 := Lib.hid (parse_str (txt fallT) wr)
      rw [parsed_txt fall_wf (by decide), fall_str] at K3
      unfold Ans at K3
      simp only [Option.getD_some, Option.isSome_some] at K3
      go_wp2_with fail
      refine K3.out.mono ?_
      rintro e w3 ⟨v, rfl, ho, hb3⟩
      have O3 := Lib.hid (own_mono ho hWr)
      have B3 : Hid (Below W.heap.size W w3) := Lib.hid (CR.out.1.trans (hb3.mono hWr))
      clear ho hb3 CR
      go_wp2
      go_ret
      exact ⟨v, _, rfl, O3.out, ⟨fallT, rfl, fall_wf, ⟨trivial, fun _ => by decide, trivial⟩, by decide⟩, fall_has, B3.out⟩
end Go.Proofs.YtodjohdbngbpaaaGreat
