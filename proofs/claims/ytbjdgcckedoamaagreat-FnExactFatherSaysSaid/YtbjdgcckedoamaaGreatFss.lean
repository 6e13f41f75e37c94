/-
  Contracts of spec.l10Some and spec.FatherSays. Condition of the first: at most 1048576 facts.
-/
import Derived.Test.YtbjdgcckedoamaaGreatFsi
import Derived.Test.YtbjdgcckedoamaaGreatZMok
import Derived.Test.YtbjdgcckedoamaaGreatSpecR
namespace Go.Proofs.YtbjdgcckedoamaaGreat
open Go.RowKit Go.WideShapes
open Go Go.Deep
set_option linter.unusedSimpArgs false

/-- the letter of a fact, as the conversion makes it -/
def letB (i : Nat) : UInt8 := UInt8.ofNat ((97 + i) % 256)
def pieceB (n i : Nat) : List UInt8 := (if i + 1 < n then [38] else []) ++ [45] ++ [letB i]
def bodyB (n : Nat) : Nat → List UInt8
  | 0 => []
  | i + 1 => bodyB n i ++ pieceB n i
def someB (n : Nat) : List UInt8 := 45 :: bodyB n n
theorem bodyB_len (n i : Nat) : (bodyB n i).length ≤ 3 * i := by
  induction i with
  | zero => exact Nat.le_refl _
  | succ i ih =>
    have : (pieceB n i).length ≤ 3 := by unfold pieceB; split <;> simp
    show (bodyB n i ++ pieceB n i).length ≤ _
    rw [List.length_append]; omega
theorem someB_txt {n : Nat} (h1 : 1 ≤ n) (h3 : n ≤ 3) : someB n = txt (someT n) := by
  have hn : n = 1 ∨ n = 2 ∨ n = 3 := by omega
  rcases hn with rfl | rfl | rfl <;> decide +kernel
theorem someT_wf {n : Nat} (h1 : 1 ≤ n) (h3 : n ≤ 3) : (someT n).wf := by
  have hn : n = 1 ∨ n = 2 ∨ n = 3 := by omega
  rcases hn with rfl | rfl | rfl <;> simp [someT, cleanT, Tm.wf, limN]
theorem some_parsed {n : Nat} (h1 : 1 ≤ n) (h3 : n ≤ 3) : parsed (someB n) = some (lay 0 (someT n)) := by
  rw [someB_txt h1 h3]
  refine parsed_txt (someT_wf h1 h3) ?_
  have hn : n = 1 ∨ n = 2 ∨ n = 3 := by omega
  rcases hn with rfl | rfl | rfl <;> decide

set_option maxRecDepth 100000 in
set_option maxHeartbeats 16000000 in
theorem l10Some_any (n : Nat) (w : World) (hn : n ≤ 1048576) :
    Calls Tryz.prog 14 #[.int .i64 n] w fun e w' => e = .returned (.string (str (someB n))) ∧ Below w.heap.size w w' := by
  have HB := Lib.hid (fun i => bodyB_len n i)
  have HY := Lib.hid (fun i (h : i + 1 < n) => (by unfold pieceB; rw [if_pos h]; rfl : pieceB n i = [38, 45, letB i]))
  have HN := Lib.hid (fun i (h : ¬ i + 1 < n) => (by unfold pieceB; rw [if_neg h]; rfl : pieceB n i = [45, letB i]))
  have HE : Hid (someB n = 45 :: bodyB n n) := Lib.hid rfl
  have hn' : (n : Int) ≤ 1048576 := by omega
  have hn0 : (0 : Int) ≤ (n : Int) := Int.natCast_nonneg _
  go_enter Tryz.func14, Tryz.ntmps14
  go_wp2
  go_loopw [3, 4] (fun sv iv wr => ∃ (i : Nat) (l : List UInt8), i ≤ n ∧ iv = .int .i64 i ∧ sv = .string ⟨l.toArray⟩ ∧ l.length ≤ 3 * i ∧ Hid (l = bodyB n i) ∧ Hid (Below w.heap.size w wr) ∧ w.heap.size ≤ wr.heap.size) (fun _ iv _ => n - (intOf iv).toNat)
  case atStart => exact ⟨0, [], Nat.zero_le _, rfl, rfl, Nat.le_refl _, Lib.hid rfl, Lib.hid (Below.refl _ _), Nat.le_refl _⟩
  case round =>
    obtain ⟨i, l, hi, rfl, rfl, hl, HL, HW, hsz⟩ := hrel
    by_cases hlt : i < n
    · have hi0 : (0 : Int) ≤ (i : Int) := Int.natCast_nonneg _
      have hl1 : l.length + 1 ≤ 9223372036854775807 := by omega
      have hl2 : l.length + 2 ≤ 9223372036854775807 := by omega
      have hl3 : l.length + 3 ≤ 9223372036854775807 := by omega
      have hl4 : l.length + 1 + 1 ≤ 9223372036854775807 := by omega
      have hl5 : l.length + 1 + 1 + 1 ≤ 9223372036854775807 := by omega
      have HLB : Hid (letB i = UInt8.ofNat ((97 + i) % 256)) := Lib.hid rfl
      have hcv := run_bytes_one (P := Tryz.prog) Tryz.underlying57 Tryz.underlying5 Tryz.underlying9 wr ((97 + (i : Int)) % 256)
      by_cases hlast : i + 1 < n
      · have HP := Lib.hid (HY.out i hlast)
        have hc : (i : Int) < (n : Int) - 1 := by omega
        go_wp2
        go_roundw
        case rel =>
          refine ⟨i + 1, l ++ [38] ++ [45] ++ [letB i], by omega, by go_num, ?_, by simp; omega, Lib.hid (by show _ = bodyB n i ++ pieceB n i; rw [HP.out, HL.out]; simp), Lib.hid (HW.out.alloc hsz _), by simp; omega⟩
          rw [HLB.out]
          rw [← ByteArray.mk_append_mk, ← ByteArray.mk_append_mk, ← ByteArray.mk_append_mk]
        case measure => simp [intOf]; omega
      · have HP := Lib.hid (HN.out i hlast)
        have hc : ¬ (i : Int) < (n : Int) - 1 := by omega
        go_wp2
        go_roundw
        case rel =>
          refine ⟨i + 1, l ++ [45] ++ [letB i], by omega, by go_num, ?_, by simp; omega, Lib.hid (by show _ = bodyB n i ++ pieceB n i; rw [HP.out, HL.out]; simp), Lib.hid (HW.out.alloc hsz _), by simp; omega⟩
          rw [HLB.out]
          rw [← ByteArray.mk_append_mk, ← ByteArray.mk_append_mk]
        case measure => simp [intOf]; omega
    · obtain ⟨i', hi'⟩ : ∃ y, y = i := ⟨_, rfl⟩
      subst hi'
      have HLN : Hid (l = bodyB n n) := Lib.hid (by rw [HL.out, show i' = n by omega])
      have hl1 : l.length + 1 ≤ 9223372036854775807 := by omega
      have hl2 : 1 + l.length ≤ 9223372036854775807 := by omega
      go_wp2
      go_ret
      exact ⟨ret_str (by rw [HE.out, ← HLN.out]; rfl), HW.out⟩

set_option maxRecDepth 100000 in
set_option maxHeartbeats 16000000 in
theorem specFather_any (lo hi : Nat) (v : Value) (m : Md) (w : World) (hr : Mv lo hi w v m) (hhi : hi ≤ w.heap.size) (hn : m.blocks.length ≤ 1048576) :
    Calls Tryz.prog 5 #[v] w (MdAns2 w (fatherR m)) := by
  have KS := Lib.hid (fun W => l10Some_any m.blocks.length W hn)
  have KP := Lib.hid (fun W => parse_str (someB m.blocks.length) W)
  have KO := Lib.hid (fun W (h : Below w.heap.size w W) => specOk_any lo hi v m W (hr.keeps (Keeps.of_all h)))
  have KA := Lib.hid (fun W (h : Below w.heap.size w W) v2 ys (h2 : Ns W v2 ys) => specAnn_any lo hi v v2 m ys W (hr.keeps (Keeps.of_all h)) (Nat.le_trans hhi h.size) h2)
  rw [specOk_mdOk] at KO
  have HR : Hid (fatherR m = if mdOk m then annR m (lay 0 (someT m.blocks.length)) else none) := Lib.hid rfl
  have HPY : Hid (mdOk m = true → parsed (someB m.blocks.length) = some (lay 0 (someT m.blocks.length))) := Lib.hid (fun h => by
    obtain ⟨-, -, p3, p4, -⟩ := mdOk_parts h
    exact some_parsed p3 p4)
  generalize fatherR m = R at *
  generalize someB m.blocks.length = sb at *
  obtain ⟨fv, bv, rfl, hf, hb⟩ := hr
  obtain ⟨ba, bc, rfl, _⟩ := hb.parts
  clear hf hb hhi
  unfold Ans at KP
  cases hp : parsed sb with
  | none =>
    have HR' : Hid (R = none) := Lib.hid (by
      rw [HR.out]
      cases h : mdOk m with
      | false => rfl
      | true => have := HPY.out h; rw [hp] at this; cases this)
    simp only [hp, Option.getD_none, Option.isSome_none] at KP
    clear hp HR HPY KO KA
    go_enter Tryz.func5, Tryz.ntmps5
    go_wp2_with fail
    refine (KS.out _).mono ?_
    rintro e w1 ⟨rfl, hb1⟩
    have M1 := Lib.hid (Mcell.below (b := w.heap.size + 1) (Mcell.new (by simp)) hb1)
    have B1 : Hid (Below w.heap.size w w1) := Lib.hid (Below.trans (by go_grown) (hb1.mono (by simp; omega)))
    clear hb1
    go_wp2_with fail
    refine (KP.out _).mono ?_
    rintro e w2 ⟨v2, rfl, -, hb2⟩
    have M2 := Lib.hid (M1.out.below hb2)
    have B2 := Lib.hid (B1.out.trans (hb2.mono B1.out.size))
    clear hb2
    obtain ⟨mc0, mc1, mc2, mc3, mc4, mc5⟩ := M2.out
    have lt2 : w.heap.size + 1 < w2.heap.size := M2.out.lt
    go_wp2
    clear mc0 mc1 mc2 mc3 mc4 mc5
    have M6 := M2.out.write (.slice none 0 0) (.slice none 0 0) 0
    refine bodyPost_ret (results_mid2 Tryz.results5 _ _ (w.heap.size + 1) _ _ (.bool false) rfl rfl M6.range Tryz.underlying27 rfl Tryz.sizeMd) rfl ?_
    rw [HR'.out]
    exact ⟨_, rfl, Mo.none _ _ _, ((B2.out.setCell (by show _ ≤ w.heap.size + 1; omega) _).setCell (by show _ ≤ w.heap.size + 1; omega) _).setCell (by show _ ≤ w.heap.size + 1; omega) _⟩
  | some ys =>
    simp only [hp, Option.getD_some, Option.isSome_some] at KP
    cases hm : mdOk m with
    | false =>
      have HR' : Hid (R = none) := Lib.hid (by rw [HR.out, hm]; rfl)
      rw [hm] at KO
      clear hp HR HPY KA hm
      go_enter Tryz.func5, Tryz.ntmps5
      go_wp2_with fail
      refine (KS.out _).mono ?_
      rintro e w1 ⟨rfl, hb1⟩
      have X1 := Lib.hid (Mcell.below (b := w.heap.size) ((Mcell.new (w := w) (T := 27) (fv := fv) (bv := .slice ba m.blocks.length bc) (n := m.actual) rfl).alloc (.cells #[.slice none 0 0, .slice none 0 0, .int .i64 0] 27)) hb1)
      have M1 := Lib.hid (Mcell.below (b := w.heap.size + 1) (Mcell.new (by simp)) hb1)
      have B1 : Hid (Below w.heap.size w w1) := Lib.hid (Below.trans (by go_grown) (hb1.mono (by simp; omega)))
      clear hb1
      go_wp2_with fail
      refine (KP.out _).mono ?_
      rintro e w2 ⟨v2, rfl, -, hb2⟩
      have M2 := Lib.hid (M1.out.below hb2)
      have X2 := Lib.hid (X1.out.below hb2)
      have B2 := Lib.hid (B1.out.trans (hb2.mono B1.out.size))
      clear hb2
      obtain ⟨x0, x1, x2, x3, x4, x5⟩ := X2.out
      go_wp2_with fail
      clear x0 x1 x2 x3 x4 x5
      refine (KO.out _ B2.out).mono ?_
      rintro e w3 ⟨rfl, hb3⟩
      have M3 := Lib.hid (M2.out.below hb3)
      have B3 := Lib.hid (B2.out.trans (hb3.mono B2.out.size))
      clear hb3
      have lt3 : w.heap.size + 1 < w3.heap.size := M3.out.lt
      obtain ⟨mc0, mc1, mc2, mc3, mc4, mc5⟩ := M3.out
      go_wp2
      clear mc0 mc1 mc2 mc3 mc4 mc5
      have M6 := M3.out.write (.slice none 0 0) (.slice none 0 0) 0
      refine bodyPost_ret (results_mid2 Tryz.results5 _ _ (w.heap.size + 1) _ _ (.bool false) rfl rfl M6.range Tryz.underlying27 rfl Tryz.sizeMd) rfl ?_
      rw [HR'.out]
      exact ⟨_, rfl, Mo.none _ _ _, ((B3.out.setCell (by show _ ≤ w.heap.size + 1; omega) _).setCell (by show _ ≤ w.heap.size + 1; omega) _).setCell (by show _ ≤ w.heap.size + 1; omega) _⟩
    | true =>
      have hys : ys = lay 0 (someT m.blocks.length) := by have := HPY.out hm; rw [hp] at this; exact Option.some.inj this
      have HR' : Hid (R = annR m ys) := Lib.hid (by rw [HR.out, hm, hys]; rfl)
      have KA := Lib.hid (fun W h v2 h2 => KA.out W h v2 ys h2)
      rw [hm] at KO
      rw [← HR'.out] at KA
      clear hp HR HPY hm hys HR'
      unfold MdAns2 at KA ⊢
      generalize R.getD ⟨[], [], 0⟩ = RM at *
      generalize R.isSome = ok at *
      go_enter Tryz.func5, Tryz.ntmps5
      go_wp2_with fail
      refine (KS.out _).mono ?_
      rintro e w1 ⟨rfl, hb1⟩
      have X1 := Lib.hid (Mcell.below (b := w.heap.size) ((Mcell.new (w := w) (T := 27) (fv := fv) (bv := .slice ba m.blocks.length bc) (n := m.actual) rfl).alloc (.cells #[.slice none 0 0, .slice none 0 0, .int .i64 0] 27)) hb1)
      have M1 := Lib.hid (Mcell.below (b := w.heap.size + 1) (Mcell.new (by simp)) hb1)
      have B1 : Hid (Below w.heap.size w w1) := Lib.hid (Below.trans (by go_grown) (hb1.mono (by simp; omega)))
      clear hb1
      go_wp2_with fail
      refine (KP.out _).mono ?_
      rintro e w2 ⟨v2, rfl, ho2, hb2⟩
      have M2 := Lib.hid (M1.out.below hb2)
      have X2 := Lib.hid (X1.out.below hb2)
      have B2 := Lib.hid (B1.out.trans (hb2.mono B1.out.size))
      have O2 := Lib.hid (Ns.of_own ho2)
      obtain ⟨a2, c2, e2, -⟩ := O2.out
      subst e2
      clear hb2 ho2
      obtain ⟨x0, x1, x2, x3, x4, x5⟩ := X2.out
      go_wp2_with fail
      clear x0 x1 x2 x3 x4 x5
      refine (KO.out _ B2.out).mono ?_
      rintro e w3 ⟨rfl, hb3⟩
      have M3 := Lib.hid (M2.out.below hb3)
      have X3 := Lib.hid (X2.out.below hb3)
      have B3 := Lib.hid (B2.out.trans (hb3.mono B2.out.size))
      have O3 := Lib.hid (O2.out.below hb3 (Nat.le_refl _))
      clear hb3
      obtain ⟨x0, x1, x2, x3, x4, x5⟩ := X3.out
      go_wp2_with fail
      clear x0 x1 x2 x3 x4 x5
      refine (KA.out _ B3.out _ O3.out).mono ?_
      rintro e w4 ⟨v4, rfl, ho4, hb4⟩
      have lt3 : w.heap.size + 1 < w3.heap.size := M3.out.lt
      have M4 := Lib.hid (M3.out.below hb4)
      have B4 := Lib.hid (B3.out.trans (hb4.mono B3.out.size))
      have O4 := Lib.hid ho4
      obtain ⟨qa, qc, pa, pc, e4⟩ := ho4.read.form
      subst e4
      clear ho4 hb4
      have lt4 : w.heap.size + 1 < w4.heap.size := M4.out.lt
      obtain ⟨mc0, mc1, mc2, mc3, mc4, mc5⟩ := M4.out
      go_wp2
      clear mc0 mc1 mc2 mc3 mc4 mc5
      have M6 := M4.out.write (.slice qa RM.facts.length qc) (.slice pa RM.blocks.length pc) RM.actual
      have O6 := O4.out.keeps (((Keeps.setCell w4 (w.heap.size + 1) 0 (.slice qa RM.facts.length qc) (.inl lt3)).set (.inl lt3) 1 (.slice pa RM.blocks.length pc)).set (.inl lt3) 2 (.int .i64 RM.actual))
      refine bodyPost_ret (results_mid2 Tryz.results5 _ _ (w.heap.size + 1) _ _ (.bool ok) rfl rfl M6.range Tryz.underlying27 rfl Tryz.sizeMd) rfl ?_
      exact ⟨_, rfl, O6.wide (by have := B3.out.size; omega) (by simp [World.setCell]), ((B4.out.setCell (by show _ ≤ w.heap.size + 1; omega) _).setCell (by show _ ≤ w.heap.size + 1; omega) _).setCell (by show _ ≤ w.heap.size + 1; omega) _⟩
end Go.Proofs.YtbjdgcckedoamaaGreat
