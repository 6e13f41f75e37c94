/-
  Contracts of the laws' drawing of formulas: spec.l02Word, l02Draw, MakeFormula: what is drawn is a formula of few nodes over few agents. Condition: the code has at most 1048576 bytes.
-/
import Derived.Test.YtodjohdbngbpaaaGreatZCur
import Derived.Test.YtodjohdbngbpaaaGreatDrc
import Derived.Test.YtodjohdbngbpaaaGreatZCmb
import Derived.Test.YtodjohdbngbpaaaGreatSpecR
namespace Go.Proofs.YtodjohdbngbpaaaGreat
open Go.RowKit Go.WideShapes
open Go Go.Deep
set_option linter.unusedSimpArgs false

/-- the agents that a term names are below A -/
def Tm.ag (A : Int) : Tm → Prop
  | .leaf _ _ => True
  | .deny a => a.ag A
  | .know op n a => ((op = 5 ∨ op = 6) → n < A) ∧ a.ag A
  | .joint _ a b => a.ag A ∧ b.ag A
theorem Tm.ag_mono {A B : Int} (h : A ≤ B) : ∀ (t : Tm), t.ag A → t.ag B
  | .leaf _ _, _ => trivial
  | .deny a, h1 => Tm.ag_mono h a h1
  | .know _ _ a, h1 => ⟨fun ho => by have := h1.1 ho; omega, Tm.ag_mono h a h1.2⟩
  | .joint _ a b, h1 => ⟨Tm.ag_mono h a h1.1, Tm.ag_mono h b h1.2⟩

/-- the text of a small formula; the cursor alone has turned -/
def WordAns (W w : World) (b : Nat) (cv : Value) (A s : Int) (e : Ending) (w' : World) : Prop :=
  ∃ t : Tm, e = .returned (.string (str (txt t))) ∧ t.wf ∧ t.ag A ∧ (s ≤ 1 → t.size ≤ 1) ∧ (1 ≤ s → (t.size : Int) ≤ 2 * s - 1) ∧ Cur W w' b cv ∧ w.grownBy w' (some b)

set_option maxRecDepth 100000 in
set_option maxHeartbeats 8000000 in
theorem word_leaf (W : World) (cv : Value) (hk : CodeOk W cv) (b : Nat) (fa ag s : Int) (hfa : 1 ≤ fa ∧ fa ≤ 4) (w : World) (hs1 : s ≤ 1) (hs0 : 0 ≤ s) (hc : Cur W w b cv) :
    Calls Tryz.prog 102 #[.pointer (some ⟨b, 0, none⟩), .int .i64 s, .int .i64 fa, .int .i64 ag] w (WordAns W w b cv ag s) := by
  have HK := Lib.hid hk
  have K1 := Lib.hid (once_any W w b cv 10 (by decide) (by decide) hk hc)
  clear hk hc
  obtain ⟨f1, f4⟩ := hfa
  go_enter Tryz.func102, Tryz.ntmps102
  go_wp2_with fail
  refine K1.out.mono ?_
  rintro e w1 ⟨x, rfl, hc1, hg1⟩
  have C1 := Lib.hid hc1
  have G1 := Lib.hid hg1
  clear hc1 hg1 K1
  cases x with
  | true =>
    go_wp2
    go_ret
    exact ⟨.leaf 2 0, rfl, ⟨.inr rfl, by decide, by decide⟩, trivial, fun _ => Nat.le_refl _, fun h => by simp only [Tm.size]; omega, C1.out, G1.out⟩
  | false =>
    have K2 := Lib.hid (below_small W w1 b cv fa (by omega) (by omega) HK.out C1.out)
    go_wp2_with fail
    refine K2.out.mono ?_
    rintro e w2 ⟨y, rfl, hy0, hy1, hc2, hg2⟩
    have C2 := Lib.hid hc2
    have G2 := Lib.hid (grown_trans G1.out hg2)
    clear hc2 hg2 K2 C1 G1
    have hy4 : y = 0 ∨ y = 1 ∨ y = 2 ∨ y = 3 := by omega
    clear hy0 hy1
    rcases hy4 with rfl | rfl | rfl | rfl
    · have hcv := run_bytes_one (P := Tryz.prog) Tryz.underlying22 Tryz.underlying5 Tryz.underlying9 w2 97
      go_wp2
      go_ret
      exact ⟨.leaf 1 0, rfl, ⟨.inl rfl, by decide, by decide⟩, trivial, fun _ => Nat.le_refl _, fun h => by simp only [Tm.size]; omega, C2.out.alloc _, gb_alloc G2.out _⟩
    · have hcv := run_bytes_one (P := Tryz.prog) Tryz.underlying22 Tryz.underlying5 Tryz.underlying9 w2 98
      go_wp2
      go_ret
      exact ⟨.leaf 1 1, rfl, ⟨.inl rfl, by decide, by decide⟩, trivial, fun _ => Nat.le_refl _, fun h => by simp only [Tm.size]; omega, C2.out.alloc _, gb_alloc G2.out _⟩
    · have hcv := run_bytes_one (P := Tryz.prog) Tryz.underlying22 Tryz.underlying5 Tryz.underlying9 w2 99
      go_wp2
      go_ret
      exact ⟨.leaf 1 2, rfl, ⟨.inl rfl, by decide, by decide⟩, trivial, fun _ => Nat.le_refl _, fun h => by simp only [Tm.size]; omega, C2.out.alloc _, gb_alloc G2.out _⟩
    · have hcv := run_bytes_one (P := Tryz.prog) Tryz.underlying22 Tryz.underlying5 Tryz.underlying9 w2 100
      go_wp2
      go_ret
      exact ⟨.leaf 1 3, rfl, ⟨.inl rfl, by decide, by decide⟩, trivial, fun _ => Nat.le_refl _, fun h => by simp only [Tm.size]; omega, C2.out.alloc _, gb_alloc G2.out _⟩

theorem word_one {W w w' : World} {b : Nat} {cv : Value} {A s : Int} {S : ByteArray} (t : Tm) (hS : S = str (txt t)) (hw : t.wf) (ha : t.ag A) (h2 : 2 ≤ s) (hs : (t.size : Int) ≤ 2 * s - 1) (hc : Cur W w' b cv) (hg : w.grownBy w' (some b)) :
    WordAns W w b cv A s (.returned (.string S)) w' := by
  subst hS
  exact ⟨t, rfl, hw, ha, fun h => by omega, fun _ => hs, hc, hg⟩

set_option maxRecDepth 100000 in
set_option maxHeartbeats 32000000 in
theorem word_any (W : World) (cv : Value) (hk : CodeOk W cv) (b : Nat) (fa ag : Int) (hfa : 1 ≤ fa ∧ fa ≤ 4) (hag : 1 ≤ ag ∧ ag ≤ 3) : ∀ (k : Nat) (s : Int) (w : World), s ≤ k → 0 ≤ s → s ≤ 8 → Cur W w b cv →
    Calls Tryz.prog 102 #[.pointer (some ⟨b, 0, none⟩), .int .i64 s, .int .i64 fa, .int .i64 ag] w (WordAns W w b cv ag s) := by
  have HK := Lib.hid hk
  have HFA := Lib.hid hfa
  obtain ⟨g1, g3⟩ := hag
  clear hk hfa
  intro k
  induction k with
  | zero => exact fun s w h0 h1 h2 hc => word_leaf W cv HK.out b fa ag s HFA.out w (by omega) h1 hc
  | succ k ih =>
    intro s w h0 h1 h8 hc
    by_cases hs : s ≤ 1
    · exact word_leaf W cv HK.out b fa ag s HFA.out w hs h1 hc
    have IH := Lib.hid ih
    have K1 := Lib.hid (below_small W w b cv ag (by omega) (by omega) HK.out hc)
    clear ih hc
    have s2 : 2 ≤ s := by omega
    have q1 : 1 ≤ s / 2 := by omega
    have q2 : s / 2 ≤ 4 := by omega
    have q3 : 0 ≤ s - 1 - s / 2 := by omega
    go_enter Tryz.func102, Tryz.ntmps102
    go_wp2_with fail
    refine K1.out.mono ?_
    rintro e w1 ⟨y, rfl, hy0, hy1, hc1, hg1⟩
    have C1 := Lib.hid hc1
    have G1 := Lib.hid hg1
    clear hc1 hg1 K1
    have K2 := Lib.hid (specSmall_any y w1 (by omega))
    go_wp2_with fail
    refine K2.out.mono ?_
    rintro e w2 ⟨rfl, hb2⟩
    have C2 := Lib.hid (C1.out.belowC hb2)
    have G2 := Lib.hid (gb_below G1.out hb2)
    clear hb2 K2 C1 G1
    have HY : Hid (headB 5 y = [75, UInt8.ofNat (48 + y.toNat)] ∧ headB 6 y = [87, UInt8.ofNat (48 + y.toNat)]) := Lib.hid ⟨rfl, rfl⟩
    generalize UInt8.ofNat (48 + y.toNat) = yb at *
    have K3 := Lib.hid (below_small W w2 b cv 9 (by decide) (by decide) HK.out C2.out)
    go_wp2_with fail
    refine K3.out.mono ?_
    rintro e w3 ⟨z, rfl, hz0, hz1, hc3, hg3⟩
    have C3 := Lib.hid hc3
    have G3 := Lib.hid (grown_trans G2.out hg3)
    clear hc3 hg3 K3 C2 G2
    have hz : z = 0 ∨ z = 1 ∨ z = 2 ∨ z = 3 ∨ z = 4 ∨ z = 5 ∨ z = 6 ∨ z = 7 ∨ z = 8 := by omega
    clear hz0 hz1
    have KA := Lib.hid (IH.out (s - 1) w3 (by omega) (by omega) (by omega) C3.out)
    have KB := Lib.hid (IH.out (s / 2) w3 (by omega) (by omega) (by omega) C3.out)
    have KC := Lib.hid (fun W' (h : Cur W W' b cv) => IH.out (s - 1 - s / 2) W' (by omega) (by omega) (by omega) h)
    clear C3 IH
    rcases hz with rfl | rfl | rfl | rfl | rfl | rfl | rfl | rfl | rfl
    · go_wp2_with fail
      refine KA.out.mono ?_
      rintro e w4 ⟨t, rfl, hw, ha, hz1, hz2, hc4, hg4⟩
      have hz := hz2 (by omega)
      have hsz : (str (txt t)).size ≤ 32 := by have := (txt_len t).2; rw [str_size]; omega
      have hadd := fun W => run_string_add_sum (P := Tryz.prog) W ⟨#[45]⟩ (str (txt t)) (by have : (⟨#[45]⟩ : ByteArray).size = 1 := rfl; omega)
      have HW := Lib.hid hw
      have HA := Lib.hid ha
      have C4 := Lib.hid hc4
      have G4 := Lib.hid (grown_trans G3.out hg4)
      have HS : Hid ((⟨#[45]⟩ : ByteArray) ++ str (txt t) = str (txt (.deny t))) := Lib.hid (str_app [45] _)
      clear hw ha hc4 hg4 hz1 hz2 KA KB KC
      generalize str (txt t) = S at *
      go_wp2
      go_ret
      exact word_one (.deny t) HS.out (HW.out) (HA.out) s2 (by simp only [Tm.size]; omega) C4.out G4.out
    · go_wp2_with fail
      refine KB.out.mono ?_
      rintro e w4 ⟨t, rfl, hw, ha, hz1, hz2, hc4, hg4⟩
      have hz := hz2 (by omega)
      have hsz : (str (txt t)).size ≤ 32 := by have := (txt_len t).2; rw [str_size]; omega
      have hadd := fun W => run_string_add_sum (P := Tryz.prog) W ⟨#[38]⟩ (str (txt t)) (by have : (⟨#[38]⟩ : ByteArray).size = 1 := rfl; omega)
      have HW := Lib.hid hw
      have HA := Lib.hid ha
      have KC := Lib.hid (KC.out w4 hc4)
      have G4 := Lib.hid (grown_trans G3.out hg4)
      have HS : Hid ((⟨#[38]⟩ : ByteArray) ++ str (txt t) = str (38 :: txt t)) := Lib.hid (str_app [38] _)
      have hs1 : ((⟨#[38]⟩ : ByteArray) ++ str (txt t)).size ≤ 33 := by rw [HS.out, str_size, List.length_cons]; rw [str_size] at hsz; omega
      clear hw ha hc4 hg4 hz1 hz2 KA KB
      go_wp2_with fail
      refine KC.out.mono ?_
      rintro e w5 ⟨u, rfl, hw5, ha5, hz3, hz4, hc5, hg5⟩
      have hsu : (u.size : Int) + t.size + 1 ≤ 2 * s - 1 := by
        by_cases hq : s - 1 - s / 2 ≤ 1
        · have := hz3 hq; omega
        · have := hz4 (by omega); omega
      have hsz5 : (str (txt u)).size ≤ 32 := by have := (txt_len u).2; rw [str_size]; omega
      have hadd2 := fun W => run_string_add_sum (P := Tryz.prog) W ((⟨#[38]⟩ : ByteArray) ++ str (txt t)) (str (txt u)) (by omega)
      have HW5 := Lib.hid hw5
      have HA5 := Lib.hid ha5
      have C5 := Lib.hid hc5
      have G5 := Lib.hid (grown_trans G4.out hg5)
      have HS5 : Hid (((⟨#[38]⟩ : ByteArray) ++ str (txt t)) ++ str (txt u) = str (txt (.joint 4 t u))) := Lib.hid (by rw [HS.out, str_app]; rfl)
      clear hw5 ha5 hc5 hg5 hz3 hz4 KC G4 HS
      generalize str (txt t) = S at *
      generalize str (txt u) = S5 at *
      go_wp2
      go_ret
      exact word_one (.joint 4 t u) HS5.out ⟨by simp, HW.out, HW5.out⟩ ⟨HA.out, HA5.out⟩ s2 (by simp only [Tm.size]; omega) C5.out G5.out
    · go_wp2_with fail
      refine KB.out.mono ?_
      rintro e w4 ⟨t, rfl, hw, ha, hz1, hz2, hc4, hg4⟩
      have hz := hz2 (by omega)
      have hsz : (str (txt t)).size ≤ 32 := by have := (txt_len t).2; rw [str_size]; omega
      have hadd := fun W => run_string_add_sum (P := Tryz.prog) W ⟨#[38]⟩ (str (txt t)) (by have : (⟨#[38]⟩ : ByteArray).size = 1 := rfl; omega)
      have HW := Lib.hid hw
      have HA := Lib.hid ha
      have KC := Lib.hid (KC.out w4 hc4)
      have G4 := Lib.hid (grown_trans G3.out hg4)
      have HS : Hid ((⟨#[38]⟩ : ByteArray) ++ str (txt t) = str (38 :: txt t)) := Lib.hid (str_app [38] _)
      have hs1 : ((⟨#[38]⟩ : ByteArray) ++ str (txt t)).size ≤ 33 := by rw [HS.out, str_size, List.length_cons]; rw [str_size] at hsz; omega
      clear hw ha hc4 hg4 hz1 hz2 KA KB
      go_wp2_with fail
      refine KC.out.mono ?_
      rintro e w5 ⟨u, rfl, hw5, ha5, hz3, hz4, hc5, hg5⟩
      have hsu : (u.size : Int) + t.size + 1 ≤ 2 * s - 1 := by
        by_cases hq : s - 1 - s / 2 ≤ 1
        · have := hz3 hq; omega
        · have := hz4 (by omega); omega
      have hsz5 : (str (txt u)).size ≤ 32 := by have := (txt_len u).2; rw [str_size]; omega
      have hadd2 := fun W => run_string_add_sum (P := Tryz.prog) W ((⟨#[38]⟩ : ByteArray) ++ str (txt t)) (str (txt u)) (by omega)
      have HW5 := Lib.hid hw5
      have HA5 := Lib.hid ha5
      have C5 := Lib.hid hc5
      have G5 := Lib.hid (grown_trans G4.out hg5)
      have HS5 : Hid (((⟨#[38]⟩ : ByteArray) ++ str (txt t)) ++ str (txt u) = str (txt (.joint 4 t u))) := Lib.hid (by rw [HS.out, str_app]; rfl)
      clear hw5 ha5 hc5 hg5 hz3 hz4 KC G4 HS
      generalize str (txt t) = S at *
      generalize str (txt u) = S5 at *
      go_wp2
      go_ret
      exact word_one (.joint 4 t u) HS5.out ⟨by simp, HW.out, HW5.out⟩ ⟨HA.out, HA5.out⟩ s2 (by simp only [Tm.size]; omega) C5.out G5.out
    · go_wp2_with fail
      refine KA.out.mono ?_
      rintro e w4 ⟨t, rfl, hw, ha, hz1, hz2, hc4, hg4⟩
      have hz := hz2 (by omega)
      have hsz : (str (txt t)).size ≤ 32 := by have := (txt_len t).2; rw [str_size]; omega
      have hadd := fun W => run_string_add_sum (P := Tryz.prog) W ⟨#[75]⟩ (str [yb]) (by have : (⟨#[75]⟩ : ByteArray).size = 1 := rfl; rw [str_size]; simp; omega)
      have hadd2 := fun W => run_string_add_sum (P := Tryz.prog) W ((⟨#[75]⟩ : ByteArray) ++ str [yb]) (str (txt t)) (by have : ((⟨#[75]⟩ : ByteArray) ++ str [yb]).size = 2 := rfl; omega)
      have HW := Lib.hid hw
      have HA := Lib.hid ha
      have C4 := Lib.hid hc4
      have G4 := Lib.hid (grown_trans G3.out hg4)
      have HS : Hid (((⟨#[75]⟩ : ByteArray) ++ str [yb]) ++ str (txt t) = str (txt (.know 5 y t))) := Lib.hid (by
        rw [show txt (.know 5 y t) = headB 5 y ++ txt t from rfl, HY.out.1]
        rw [show (⟨#[75]⟩ : ByteArray) ++ str [yb] = str [75, yb] from str_app [75] [yb], str_app])
      clear hw ha hc4 hg4 hz1 hz2 KA KB KC
      generalize str (txt t) = S at *
      go_wp2
      go_ret
      exact word_one (.know 5 y t) HS.out ⟨by simp, hy0, by show y < 3; omega, HW.out⟩ ⟨fun _ => hy1, HA.out⟩ s2 (by simp only [Tm.size]; omega) C4.out G4.out
    · go_wp2_with fail
      refine KA.out.mono ?_
      rintro e w4 ⟨t, rfl, hw, ha, hz1, hz2, hc4, hg4⟩
      have hz := hz2 (by omega)
      have hsz : (str (txt t)).size ≤ 32 := by have := (txt_len t).2; rw [str_size]; omega
      have hadd := fun W => run_string_add_sum (P := Tryz.prog) W ⟨#[75]⟩ (str [yb]) (by have : (⟨#[75]⟩ : ByteArray).size = 1 := rfl; rw [str_size]; simp; omega)
      have hadd2 := fun W => run_string_add_sum (P := Tryz.prog) W ((⟨#[75]⟩ : ByteArray) ++ str [yb]) (str (txt t)) (by have : ((⟨#[75]⟩ : ByteArray) ++ str [yb]).size = 2 := rfl; omega)
      have HW := Lib.hid hw
      have HA := Lib.hid ha
      have C4 := Lib.hid hc4
      have G4 := Lib.hid (grown_trans G3.out hg4)
      have HS : Hid (((⟨#[75]⟩ : ByteArray) ++ str [yb]) ++ str (txt t) = str (txt (.know 5 y t))) := Lib.hid (by
        rw [show txt (.know 5 y t) = headB 5 y ++ txt t from rfl, HY.out.1]
        rw [show (⟨#[75]⟩ : ByteArray) ++ str [yb] = str [75, yb] from str_app [75] [yb], str_app])
      clear hw ha hc4 hg4 hz1 hz2 KA KB KC
      generalize str (txt t) = S at *
      go_wp2
      go_ret
      exact word_one (.know 5 y t) HS.out ⟨by simp, hy0, by show y < 3; omega, HW.out⟩ ⟨fun _ => hy1, HA.out⟩ s2 (by simp only [Tm.size]; omega) C4.out G4.out
    · go_wp2_with fail
      refine KA.out.mono ?_
      rintro e w4 ⟨t, rfl, hw, ha, hz1, hz2, hc4, hg4⟩
      have hz := hz2 (by omega)
      have hsz : (str (txt t)).size ≤ 32 := by have := (txt_len t).2; rw [str_size]; omega
      have hadd := fun W => run_string_add_sum (P := Tryz.prog) W ⟨#[87]⟩ (str [yb]) (by have : (⟨#[87]⟩ : ByteArray).size = 1 := rfl; rw [str_size]; simp; omega)
      have hadd2 := fun W => run_string_add_sum (P := Tryz.prog) W ((⟨#[87]⟩ : ByteArray) ++ str [yb]) (str (txt t)) (by have : ((⟨#[87]⟩ : ByteArray) ++ str [yb]).size = 2 := rfl; omega)
      have HW := Lib.hid hw
      have HA := Lib.hid ha
      have C4 := Lib.hid hc4
      have G4 := Lib.hid (grown_trans G3.out hg4)
      have HS : Hid (((⟨#[87]⟩ : ByteArray) ++ str [yb]) ++ str (txt t) = str (txt (.know 6 y t))) := Lib.hid (by
        rw [show txt (.know 6 y t) = headB 6 y ++ txt t from rfl, HY.out.2]
        rw [show (⟨#[87]⟩ : ByteArray) ++ str [yb] = str [87, yb] from str_app [87] [yb], str_app])
      clear hw ha hc4 hg4 hz1 hz2 KA KB KC
      generalize str (txt t) = S at *
      go_wp2
      go_ret
      exact word_one (.know 6 y t) HS.out ⟨by simp, hy0, by show y < 3; omega, HW.out⟩ ⟨fun _ => hy1, HA.out⟩ s2 (by simp only [Tm.size]; omega) C4.out G4.out
    · go_wp2_with fail
      refine KA.out.mono ?_
      rintro e w4 ⟨t, rfl, hw, ha, hz1, hz2, hc4, hg4⟩
      have hz := hz2 (by omega)
      have hsz : (str (txt t)).size ≤ 32 := by have := (txt_len t).2; rw [str_size]; omega
      have hadd := fun W => run_string_add_sum (P := Tryz.prog) W ⟨#[69]⟩ (str (txt t)) (by have : (⟨#[69]⟩ : ByteArray).size = 1 := rfl; omega)
      have HW := Lib.hid hw
      have HA := Lib.hid ha
      have C4 := Lib.hid hc4
      have G4 := Lib.hid (grown_trans G3.out hg4)
      have HS : Hid ((⟨#[69]⟩ : ByteArray) ++ str (txt t) = str (txt (.know 7 0 t))) := Lib.hid (str_app [69] _)
      clear hw ha hc4 hg4 hz1 hz2 KA KB KC
      generalize str (txt t) = S at *
      go_wp2
      go_ret
      exact word_one (.know 7 0 t) HS.out (⟨by simp, by decide, by show (0 : Int) < 1; decide, HW.out⟩) (⟨fun h => by omega, HA.out⟩) s2 (by simp only [Tm.size]; omega) C4.out G4.out
    · go_wp2_with fail
      refine KA.out.mono ?_
      rintro e w4 ⟨t, rfl, hw, ha, hz1, hz2, hc4, hg4⟩
      have hz := hz2 (by omega)
      have hsz : (str (txt t)).size ≤ 32 := by have := (txt_len t).2; rw [str_size]; omega
      have hadd := fun W => run_string_add_sum (P := Tryz.prog) W ⟨#[67]⟩ (str (txt t)) (by have : (⟨#[67]⟩ : ByteArray).size = 1 := rfl; omega)
      have HW := Lib.hid hw
      have HA := Lib.hid ha
      have C4 := Lib.hid hc4
      have G4 := Lib.hid (grown_trans G3.out hg4)
      have HS : Hid ((⟨#[67]⟩ : ByteArray) ++ str (txt t) = str (txt (.know 8 0 t))) := Lib.hid (str_app [67] _)
      clear hw ha hc4 hg4 hz1 hz2 KA KB KC
      generalize str (txt t) = S at *
      go_wp2
      go_ret
      exact word_one (.know 8 0 t) HS.out (⟨by simp, by decide, by show (0 : Int) < 1; decide, HW.out⟩) (⟨fun h => by omega, HA.out⟩) s2 (by simp only [Tm.size]; omega) C4.out G4.out
    · go_wp2_with fail
      refine KB.out.mono ?_
      rintro e w4 ⟨t, rfl, hw, ha, hz1, hz2, hc4, hg4⟩
      have hz := hz2 (by omega)
      have hsz : (str (txt t)).size ≤ 32 := by have := (txt_len t).2; rw [str_size]; omega
      have hadd := fun W => run_string_add_sum (P := Tryz.prog) W ⟨#[33]⟩ (str (txt t)) (by have : (⟨#[33]⟩ : ByteArray).size = 1 := rfl; omega)
      have HW := Lib.hid hw
      have HA := Lib.hid ha
      have KC := Lib.hid (KC.out w4 hc4)
      have G4 := Lib.hid (grown_trans G3.out hg4)
      have HS : Hid ((⟨#[33]⟩ : ByteArray) ++ str (txt t) = str (33 :: txt t)) := Lib.hid (str_app [33] _)
      have hs1 : ((⟨#[33]⟩ : ByteArray) ++ str (txt t)).size ≤ 33 := by rw [HS.out, str_size, List.length_cons]; rw [str_size] at hsz; omega
      clear hw ha hc4 hg4 hz1 hz2 KA KB
      go_wp2_with fail
      refine KC.out.mono ?_
      rintro e w5 ⟨u, rfl, hw5, ha5, hz3, hz4, hc5, hg5⟩
      have hsu : (u.size : Int) + t.size + 1 ≤ 2 * s - 1 := by
        by_cases hq : s - 1 - s / 2 ≤ 1
        · have := hz3 hq; omega
        · have := hz4 (by omega); omega
      have hsz5 : (str (txt u)).size ≤ 32 := by have := (txt_len u).2; rw [str_size]; omega
      have hadd2 := fun W => run_string_add_sum (P := Tryz.prog) W ((⟨#[33]⟩ : ByteArray) ++ str (txt t)) (str (txt u)) (by omega)
      have HW5 := Lib.hid hw5
      have HA5 := Lib.hid ha5
      have C5 := Lib.hid hc5
      have G5 := Lib.hid (grown_trans G4.out hg5)
      have HS5 : Hid (((⟨#[33]⟩ : ByteArray) ++ str (txt t)) ++ str (txt u) = str (txt (.joint 9 t u))) := Lib.hid (by rw [HS.out, str_app]; rfl)
      clear hw5 ha5 hc5 hg5 hz3 hz4 KC G4 HS
      generalize str (txt t) = S at *
      generalize str (txt u) = S5 at *
      go_wp2
      go_ret
      exact word_one (.joint 9 t u) HS5.out ⟨by simp, HW.out, HW5.out⟩ ⟨HA.out, HA5.out⟩ s2 (by simp only [Tm.size]; omega) C5.out G5.out

/-- what is drawn: a formula of few nodes over few agents -/
def drawnF (xs : List Nd) (A s : Nat) : Prop := ∃ t : Tm, xs = lay 0 t ∧ t.wf ∧ t.ag A ∧ t.size ≤ 2 * s - 1
theorem drawnF.ok {xs : List Nd} {A s : Nat} (h : drawnF xs A s) (hs : s ≤ 20) : formOk xs = true ∧ xs.length ≤ 2 * s - 1 := by
  obtain ⟨t, rfl, hw, _, hz⟩ := h
  exact ⟨lay_formOk hw (by omega), by rw [lay_len]; exact hz⟩
def DrawF (W w : World) (b : Nat) (cv : Value) (s : Nat) (e : Ending) (w' : World) : Prop := ∃ v xs, e = .returned v ∧ w'.ownsRow w.heap.size 112 4 v xs.length (ndCells xs) ∧ drawnF xs 2 s ∧ Cur W w' b cv ∧ w.grownBy w' (some b)

set_option maxRecDepth 100000 in
set_option maxHeartbeats 8000000 in
theorem drawF_any (W w : World) (b : Nat) (cv : Value) (s : Nat) (h1 : 1 ≤ s) (h8 : s ≤ 8) (hk : CodeOk W cv) (hc : Cur W w b cv) :
    Calls Tryz.prog 53 #[.pointer (some ⟨b, 0, none⟩), .int .i64 s] w (DrawF W w b cv s) := by
  have HK := Lib.hid hk
  have K1 := Lib.hid (below_small W w b cv s (by omega) (by omega) hk hc)
  clear hk hc
  have i1 : (1 : Int) ≤ (s : Int) := by omega
  have i8 : (s : Int) ≤ 8 := by omega
  go_enter Tryz.func53, Tryz.ntmps53
  go_wp2_with fail
  refine K1.out.mono ?_
  rintro e w1 ⟨x, rfl, hx0, hx1, hc1, hg1⟩
  have K2 := Lib.hid (word_any W cv HK.out b 3 2 (by decide) (by decide) 8 (1 + x) w1 (by omega) (by omega) (by omega) hc1)
  have G1 := Lib.hid hg1
  clear hc1 hg1 K1
  go_wp2_with fail
  refine K2.out.mono ?_
  rintro e w2 ⟨t, rfl, hw, ha, hz1, hz2, hc2, hg2⟩
  have hz : t.size ≤ 2 * s - 1 := by have := hz2 (by omega); omega
  have K3 := Lib.hid (parse_str (txt t) w2)
  rw [parsed_txt hw (by omega)] at K3
  unfold Ans at K3
  simp only [Option.getD_some, Option.isSome_some] at K3
  have HD : Hid (drawnF (lay 0 t) 2 s) := Lib.hid ⟨t, rfl, hw, ha, hz⟩
  have C2 := Lib.hid hc2
  have G2 := Lib.hid (grown_trans G1.out hg2)
  clear hw ha hz1 hz2 hc2 hg2 hz K2 G1
  generalize str (txt t) = S at *
  generalize lay 0 t = xs at *
  go_wp2_with fail
  refine K3.out.mono ?_
  rintro e w3 ⟨v, rfl, ho, hb3⟩
  have HO := Lib.hid ho
  have C3 := Lib.hid (C2.out.belowC hb3)
  have G3 := Lib.hid (gb_below G2.out hb3)
  have z2 : w.heap.size ≤ w2.heap.size := G2.out.size
  clear ho hb3 C2 K3
  go_wp2
  go_ret
  exact ⟨v, xs, rfl, own_mono HO.out z2, HD.out, C3.out, G3.out⟩

/-- a new formula that is drawn -/
def MakeF (W : World) (s : Nat) (e : Ending) (w' : World) : Prop := ∃ v xs, e = .returned v ∧ w'.ownsRow W.heap.size 112 4 v xs.length (ndCells xs) ∧ drawnF xs 2 s ∧ Below W.heap.size W w'
set_option maxRecDepth 100000 in
set_option maxHeartbeats 8000000 in
theorem makeF_any (W : World) (cv : Value) (n s : Nat) (hn : n ≤ 1000) (h2 : 2 ≤ s) (h8 : s ≤ 8) (hk : CodeOk W cv) :
    Calls Tryz.prog 11 #[cv, .int .i64 n, .int .i64 s] W (MakeF W s) := by
  have HK := Lib.hid hk
  have K1 := Lib.hid (newAt_any W cv n hn hk)
  clear hk
  have i1 : (1 : Int) < (s : Int) := by omega
  have i8 : (s : Int) ≤ 8 := by omega
  go_enter Tryz.func11, Tryz.ntmps11
  go_wp2_with fail
  refine K1.out.mono ?_
  rintro e w1 ⟨b, rfl, hc⟩
  have z1 : W.heap.size ≤ w1.heap.size := hc.1.size
  have K2 := Lib.hid (drawF_any W w1 b cv s (by omega) h8 HK.out hc)
  clear hc K1
  go_wp2_with fail
  refine K2.out.mono ?_
  rintro e w2 ⟨v, xs, rfl, ho, hd, hc2, -⟩
  have HO := Lib.hid (own_mono ho z1)
  have HD := Lib.hid hd
  have HB := Lib.hid hc2.1
  clear ho hd hc2 K2
  go_wp2
  go_ret
  exact ⟨v, xs, rfl, HO.out, HD.out, HB.out⟩
end Go.Proofs.YtodjohdbngbpaaaGreat
