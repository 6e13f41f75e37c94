/-
  Contracts of spec.l08Push, l08After, l08Whole, l08Node, spec.Rewrite and spec.GrowthOf. Condition: the nodes are a formula's, at most 40.
-/
import Derived.Test.YtodjohdbngbpaaaGreatZRwm
import Derived.Test.YtodjohdbngbpaaaGreatSpecR
import Derived.Test.YtodjohdbngbpaaaGreatLtm
namespace Go.Proofs.YtodjohdbngbpaaaGreat
open Go.RowKit Go.WideShapes
open Go Go.Deep
set_option linter.unusedSimpArgs false

/-- a term's text, or the empty text of a term that is too long -/
def TextOr (s : List UInt8) (T : Tm) : Prop := s = txt T ∨ (s = [] ∧ 40 < T.size)
def PushP (w : World) (T : Tm) (e : Ending) (w' : World) : Prop := ∃ s : List UInt8, e = .returned (.string (str s)) ∧ s.length ≤ 1000 ∧ TextOr s T ∧ Below w.heap.size w w'
theorem txt_ne (t : Tm) : txt t ≠ [] := fun h => by have h1 := (txt_len t).1; have h2 := t.size_pos; rw [h] at h1; simp at h1; omega
/-- a part's text that is empty or longer than 80 signs is that of a term that is too long -/
theorem TextOr.long {s : List UInt8} {T : Tm} (h : TextOr s T) (hl : s = [] ∨ 80 < s.length) : 40 < T.size := by
  rcases h with rfl | ⟨_, h2⟩
  · rcases hl with h | h
    · exact absurd h (txt_ne T)
    · have := (txt_len T).2; omega
  · exact h2
theorem TextOr.text {s : List UInt8} {T : Tm} (h : TextOr s T) (hl : ¬ s = []) : s = txt T := by
  rcases h with h | ⟨h, _⟩
  · exact h
  · exact absurd h hl
theorem str_ne {s : List UInt8} (h : ¬ s = []) : (str s).toList.isEmpty = false ∧ ¬ (str s).toList = [] := by
  cases s with
  | nil => exact absurd rfl h
  | cons c r => exact ⟨by simp [str], by simp [str]⟩
theorem str_nil : (str []).toList = [] ∧ (str []).toList.isEmpty = true := ⟨by simp [str], by simp [str]⟩
theorem TextOr.parsed {s : List UInt8} {T : Tm} (h : TextOr s T) (hw : T.wf) : parsed s = (limT T).map (lay 0) ∧ ∀ t, limT T = some t → s = txt t := by
  rcases h with rfl | ⟨rfl, h2⟩
  · unfold limT
    by_cases hs : T.size ≤ 40
    · rw [if_pos hs]; exact ⟨parsed_txt hw hs, fun t e => by cases e; rfl⟩
    · rw [if_neg hs]; exact ⟨parsed_big hw (by omega), fun t e => by cases e⟩
  · unfold limT
    rw [if_neg (by omega)]
    exact ⟨rfl, fun t e => by cases e⟩

set_option maxRecDepth 100000 in
set_option maxHeartbeats 32000000 in
theorem specPush_any (A : Tm) (_hA : A.wf) (hAs : A.size ≤ 40) (xs : List Nd) (v : Value) (hf : formOk xs = true) : ∀ (m i : Nat) (w : World), i < m → i < xs.length → Ns w v xs → quietT (tmAt xs i) →
    Calls Tryz.prog 171 #[.string (str (txt A)), v, .int .i64 i] w (PushP w (pushT A (tmAt xs i))) := by
  obtain ⟨f1, f2, hn, _⟩ := formOk_parts hf
  have HN := Lib.hid hn
  have hsz0 : ∀ i, i < xs.length → (tmAt xs i).size ≤ 100 := fun i hi => by have := sub_small hf hi; omega
  have HSZ := Lib.hid hsz0
  have hal : (txt A).length ≤ 80 := by have := (txt_len A).2; omega
  obtain ⟨a, ha⟩ : ∃ a, a = txt A := ⟨_, rfl⟩
  rw [← ha] at hal ⊢
  have HAT := Lib.hid ha
  have zA : (str a).size ≤ 80 := by rw [str_size]; exact hal
  clear hn hf f1 f2 hsz0 ha hal
  intro m
  induction m with
  | zero => intro i w hi; omega
  | succ m ih =>
    intro i w hi hl hr hq
    have hok := nodesOk_at HN.out hl
    have hp := okAt_parts hok
    have KX := Lib.hid (fun W (h : Below w.heap.size w W) => specText_any xs v HN.out _ i W (Nat.lt_succ_self _) hl (hr.below h (Nat.le_refl _)) (HSZ.out i hl))
    rw [tmAt_eq HN.out hl] at hq KX ⊢
    obtain ⟨ra, cap, rfl, h1, h2, h3⟩ := hr.parts
    obtain ⟨b, o, rfl, hb, c0, c1, c2, c3⟩ := h3 i hl
    clear h3 hok
    have HR := Lib.hid hr
    clear hr
    generalize hx : xs.getD i default = x at *
    obtain ⟨op, n, xa, xb⟩ := x
    simp only [] at c0 c1 c2 c3 hp hq KX ⊢
    clear hx
    unfold maxLen at h2
    have IH := Lib.hid ih
    clear ih
    rcases op_kinds hp.1.1 hp.1.2.1 with ⟨ho, hu⟩ | ⟨ho, hu⟩ | ⟨ho, hu⟩ | ⟨ho, hu⟩
    · rw [mkTm_leaf ho] at hq KX ⊢
      rcases hq with rfl | ⟨rfl, rfl⟩
      · rw [show pushT A (.leaf 1 n) = .deny (.joint 4 A (.deny (.leaf 1 n))) from if_pos rfl]
        have hn4 : (txt (Tm.leaf 1 n)).length ≤ 2 := (txt_len _).2
        obtain ⟨u, hu'⟩ : ∃ u, u = txt (Tm.leaf 1 n) := ⟨_, rfl⟩
        rw [← hu'] at KX hn4
        have zu : (str u).size ≤ 2 := by rw [str_size]; exact hn4
        have z1 : (⟨#[45, 38]⟩ : ByteArray).size = 2 := rfl
        have z2 : (⟨#[45]⟩ : ByteArray).size = 1 := rfl
        have HT : Hid (⟨#[45, 38]⟩ ++ str a ++ ⟨#[45]⟩ ++ str u = str (txt (.deny (.joint 4 A (.deny (.leaf 1 n)))))) := Lib.hid (by
          rw [hu', HAT.out, show (⟨#[45, 38]⟩ : ByteArray) = str [45, 38] from rfl, show (⟨#[45]⟩ : ByteArray) = str [45] from rfl, str_app, str_app, str_app]
          congr 1; simp [txt, headT, headB, Tm.op, Tm.num, letterI, letters])
        have hL : (txt (.deny (.joint 4 A (.deny (.leaf 1 n))))).length ≤ 1000 := by have := (txt_len (.deny (.joint 4 A (.deny (.leaf 1 n))))).2; simp only [Tm.size] at this; omega
        have HL := Lib.hid hL
        clear hL hu' hn4 hp hu ho
        have hadd0 := fun W => run_string_add_sum (P := Tryz.prog) W ⟨#[45, 38]⟩ (str a) (by omega)
        have hadd1 := fun W => run_string_add_sum (P := Tryz.prog) W (⟨#[45, 38]⟩ ++ str a) ⟨#[45]⟩ (by rw [ByteArray.size_append]; omega)
        have hadd2 := fun W => run_string_add_sum (P := Tryz.prog) W (⟨#[45, 38]⟩ ++ str a ++ ⟨#[45]⟩) (str u) (by rw [ByteArray.size_append, ByteArray.size_append]; omega)
        generalize str a = sa at *
        generalize str u = su at *
        clear zA zu z1 z2
        go_enter Tryz.func171, Tryz.ntmps171
        go_wp2_with fail
        refine (KX.out _ ((Below.refl _ _).alloc (Nat.le_refl _) _)).mono ?_
        rintro e w2 ⟨rfl, hb2⟩
        have B2 := Lib.hid (((Below.refl w.heap.size w).alloc (Nat.le_refl _) _).trans (hb2.mono (by simp)))
        clear hb2 c0 c1 c2 c3
        go_wp2
        go_ret
        exact ⟨_, ret_str HT.out, HL.out, .inl rfl, B2.out⟩
      · rw [show pushT A (.leaf 2 0) = .leaf 2 0 from if_neg (by decide)]
        clear hp hu ho KX
        go_enter Tryz.func171, Tryz.ntmps171
        go_wp2
        go_ret
        exact ⟨[84], rfl, by simp, .inl rfl, by go_grown⟩
    · subst ho
      rw [mkTm_deny] at hq ⊢
      have ha' := hp.2.1 (by omega)
      obtain ⟨k, rfl⟩ : ∃ k : Nat, xa = k := ⟨xa.toNat, by omega⟩
      rw [Int.toNat_natCast] at *
      have hka : k < m := by omega
      have hkl : k < xs.length := by omega
      have KD := Lib.hid (fun W (h : Below w.heap.size w W) => IH.out k W hka hkl (HR.out.below h (Nat.le_refl _)) hq)
      unfold PushP at KD
      rw [show pushT A (.deny (tmAt xs k)) = .deny (.joint 4 A (pushT A (tmAt xs k))) from rfl]
      clear hu hp ha' hka hkl hq KX
      generalize pushT A (tmAt xs k) = T at *
      go_enter Tryz.func171, Tryz.ntmps171
      go_wp2_with fail
      refine (KD.out _ ((Below.refl _ _).alloc (Nat.le_refl _) _)).mono ?_
      rintro e w2 ⟨s, rfl, hs1, hs2, hb2⟩
      have B2 := Lib.hid (((Below.refl w.heap.size w).alloc (Nat.le_refl _) _).trans (hb2.mono (by simp)))
      have n0 := node_keptZ hb2 0
      have n1 := node_keptZ hb2 1
      have n2 := node_keptZ hb2 2
      have n3 := node_keptZ hb2 3
      simp at n0 n1 n2 n3
      have HS2 := Lib.hid hs2
      clear hb2 c0 c1 c2 c3 hs2
      by_cases he : s = []
      · have HG := Lib.hid (HS2.out.long (.inl he))
        subst he
        obtain ⟨hx1, hx2⟩ := str_nil
        go_wp2
        go_ret
        exact ⟨[], rfl, by simp, .inr ⟨rfl, by have := HG.out; simp only [Tm.size]; omega⟩, B2.out⟩
      obtain ⟨he', hf'⟩ := str_ne he
      have HX := Lib.hid (HS2.out.text he)
      by_cases hlong : 80 < s.length
      · have HG := Lib.hid (HS2.out.long (.inr hlong))
        have hl' : (80 : Int) < ((str s).size : Int) := by rw [str_size]; omega
        clear he hlong
        go_wp2
        go_ret
        exact ⟨[], rfl, by simp, .inr ⟨rfl, by have := HG.out; simp only [Tm.size]; omega⟩, B2.out⟩
      have hl' : decide ((80 : Int) < ((str s).size : Int)) = false := decide_eq_false (by rw [str_size]; omega)
      have zs : (str s).size ≤ 80 := by rw [str_size]; omega
      clear he hlong
      have HT : Hid (⟨#[45, 38]⟩ ++ str a ++ str s = str (txt (.deny (.joint 4 A T)))) := Lib.hid (by
        rw [HX.out, HAT.out, show (⟨#[45, 38]⟩ : ByteArray) = str [45, 38] from rfl, str_app, str_app]
        first | rfl | (congr 1; simp [txt, headT, headB, Tm.op, Tm.num, letterI, letters]))
      have HL : Hid ((txt (.deny (.joint 4 A T))).length ≤ 1000) := Lib.hid (by have h1 := congrArg ByteArray.size HT.out; simp only [ByteArray.size_append, str_size] at h1; have : (⟨#[45, 38]⟩ : ByteArray).size = 2 := rfl; rw [str_size] at zs zA; omega)
      have zl0 : (⟨#[45, 38]⟩ : ByteArray).size = 2 := rfl
      have hadd0 := fun W => run_string_add_sum (P := Tryz.prog) W (⟨#[45, 38]⟩) (str a) (by first | omega | (simp only [ByteArray.size_append]; omega))
      have hadd1 := fun W => run_string_add_sum (P := Tryz.prog) W (⟨#[45, 38]⟩ ++ str a) (str s) (by first | omega | (simp only [ByteArray.size_append]; omega))
      generalize str a = sa at *
      generalize str s = ss at *
      clear zA zs zl0
      go_wp2
      go_ret
      exact ⟨_, ret_str HT.out, HL.out, .inl rfl, B2.out⟩
    · rw [mkTm_know ho] at hq ⊢
      obtain ⟨hop, hq⟩ := hq
      have ha' := hp.2.1 (by omega)
      obtain ⟨k, rfl⟩ : ∃ k : Nat, xa = k := ⟨xa.toNat, by omega⟩
      rw [Int.toNat_natCast] at *
      have hka : k < m := by omega
      have hkl : k < xs.length := by omega
      have KD := Lib.hid (fun W (h : Below w.heap.size w W) => IH.out k W hka hkl (HR.out.below h (Nat.le_refl _)) hq)
      unfold PushP at KD
      clear ha' hka hkl hq KX ho
      rcases hop with rfl | rfl | rfl
      · rw [show pushT A (.know 5 n (tmAt xs k)) = .deny (.joint 4 A (.deny (.know 5 n (pushT A (tmAt xs k))))) from if_neg (by decide)]
        have KF := Lib.hid (fun W => specSmall_any n W (by have := hp.1.2.2; have : limN 5 = 3 := rfl; omega))
        clear hu hp
        generalize pushT A (tmAt xs k) = T at *
        go_enter Tryz.func171, Tryz.ntmps171
        go_wp2_with fail
        refine (KD.out _ ((Below.refl _ _).alloc (Nat.le_refl _) _)).mono ?_
        rintro e w2 ⟨s, rfl, hs1, hs2, hb2⟩
        have B2 := Lib.hid (((Below.refl w.heap.size w).alloc (Nat.le_refl _) _).trans (hb2.mono (by simp)))
        have hz2 : w.heap.size < w2.heap.size := by have := hb2.size; simp at this; omega
        have n0 := node_keptZ hb2 0
        have n1 := node_keptZ hb2 1
        simp at n0 n1
        have HS2 := Lib.hid hs2
        clear hb2 c0 c1 c2 c3 hs2
        by_cases he : s = []
        · have HG := Lib.hid (HS2.out.long (.inl he))
          subst he
          obtain ⟨hx1, hx2⟩ := str_nil
          go_wp2
          go_ret
          exact ⟨[], rfl, by simp, .inr ⟨rfl, by have := HG.out; simp only [Tm.size]; omega⟩, B2.out⟩
        obtain ⟨he', hf'⟩ := str_ne he
        have HX := Lib.hid (HS2.out.text he)
        by_cases hlong : 80 < s.length
        · have HG := Lib.hid (HS2.out.long (.inr hlong))
          have hl' : (80 : Int) < ((str s).size : Int) := by rw [str_size]; omega
          clear he hlong
          go_wp2
          go_ret
          exact ⟨[], rfl, by simp, .inr ⟨rfl, by have := HG.out; simp only [Tm.size]; omega⟩, B2.out⟩
        have hl' : decide ((80 : Int) < ((str s).size : Int)) = false := decide_eq_false (by rw [str_size]; omega)
        have zs : (str s).size ≤ 80 := by rw [str_size]; omega
        clear he hlong
        have zn : (str [UInt8.ofNat (48 + n.toNat)]).size ≤ 1 := Nat.le_refl _
        have HT : Hid (⟨#[45, 38]⟩ ++ str a ++ ⟨#[45, 75]⟩ ++ str [UInt8.ofNat (48 + n.toNat)] ++ str s = str (txt (.deny (.joint 4 A (.deny (.know 5 n T)))))) := Lib.hid (by
          rw [HX.out, HAT.out, show (⟨#[45, 38]⟩ : ByteArray) = str [45, 38] from rfl, show (⟨#[45, 75]⟩ : ByteArray) = str [45, 75] from rfl, str_app, str_app, str_app, str_app]
          first | rfl | (congr 1; simp [txt, headT, headB, Tm.op, Tm.num, letterI, letters]))
        have HL : Hid ((txt (.deny (.joint 4 A (.deny (.know 5 n T))))).length ≤ 1000) := Lib.hid (by have h1 := txt_len (.deny (.joint 4 A (.deny (.know 5 n T)))); have h2 := (txt_len T).1; have h3 := HX.out; rw [str_size] at zs; rw [h3] at zs; simp only [Tm.size] at h1; omega)
        have zl0 : (⟨#[45, 38]⟩ : ByteArray).size = 2 := rfl
        have zl1 : (⟨#[45, 75]⟩ : ByteArray).size = 2 := rfl
        have hadd0 := fun W => run_string_add_sum (P := Tryz.prog) W (⟨#[45, 38]⟩) (str a) (by first | omega | (simp only [ByteArray.size_append]; omega))
        have hadd1 := fun W => run_string_add_sum (P := Tryz.prog) W (⟨#[45, 38]⟩ ++ str a) (⟨#[45, 75]⟩) (by first | omega | (simp only [ByteArray.size_append]; omega))
        have hadd2 := fun W => run_string_add_sum (P := Tryz.prog) W (⟨#[45, 38]⟩ ++ str a ++ ⟨#[45, 75]⟩) (str [UInt8.ofNat (48 + n.toNat)]) (by first | omega | (simp only [ByteArray.size_append]; omega))
        have hadd3 := fun W => run_string_add_sum (P := Tryz.prog) W (⟨#[45, 38]⟩ ++ str a ++ ⟨#[45, 75]⟩ ++ str [UInt8.ofNat (48 + n.toNat)]) (str s) (by first | omega | (simp only [ByteArray.size_append]; omega))
        generalize str a = sa at *
        generalize str s = ss at *
        generalize str [UInt8.ofNat (48 + n.toNat)] = sn at *
        clear zA zs zl0 zl1 zn
        go_wp2_with fail
        refine (KF.out _).mono ?_
        rintro e w3 ⟨rfl, hb3⟩
        have B3 := Lib.hid (B2.out.trans (hb3.mono B2.out.size))
        clear hb3 n0 n1
        go_wp2
        go_ret
        exact ⟨_, ret_str HT.out, HL.out, .inl rfl, B3.out⟩
      · rw [show pushT A (.know 6 n (tmAt xs k)) = .deny (.joint 4 A (.joint 4 (.deny (.know 5 n (pushT A (tmAt xs k)))) (.deny (.know 5 n (.deny (.joint 4 A (pushT A (tmAt xs k)))))))) from if_pos rfl]
        have KF := Lib.hid (fun W => specSmall_any n W (by have := hp.1.2.2; have : limN 6 = 3 := rfl; omega))
        clear hu hp
        generalize pushT A (tmAt xs k) = T at *
        go_enter Tryz.func171, Tryz.ntmps171
        go_wp2_with fail
        refine (KD.out _ ((Below.refl _ _).alloc (Nat.le_refl _) _)).mono ?_
        rintro e w2 ⟨s, rfl, hs1, hs2, hb2⟩
        have B2 := Lib.hid (((Below.refl w.heap.size w).alloc (Nat.le_refl _) _).trans (hb2.mono (by simp)))
        have hz2 : w.heap.size < w2.heap.size := by have := hb2.size; simp at this; omega
        have n0 := node_keptZ hb2 0
        have n1 := node_keptZ hb2 1
        simp at n0 n1
        have HS2 := Lib.hid hs2
        clear hb2 c0 c1 c2 c3 hs2
        by_cases he : s = []
        · have HG := Lib.hid (HS2.out.long (.inl he))
          subst he
          obtain ⟨hx1, hx2⟩ := str_nil
          go_wp2
          go_ret
          exact ⟨[], rfl, by simp, .inr ⟨rfl, by have := HG.out; simp only [Tm.size]; omega⟩, B2.out⟩
        obtain ⟨he', hf'⟩ := str_ne he
        have HX := Lib.hid (HS2.out.text he)
        by_cases hlong : 80 < s.length
        · have HG := Lib.hid (HS2.out.long (.inr hlong))
          have hl' : (80 : Int) < ((str s).size : Int) := by rw [str_size]; omega
          clear he hlong
          go_wp2
          go_ret
          exact ⟨[], rfl, by simp, .inr ⟨rfl, by have := HG.out; simp only [Tm.size]; omega⟩, B2.out⟩
        have hl' : decide ((80 : Int) < ((str s).size : Int)) = false := decide_eq_false (by rw [str_size]; omega)
        have zs : (str s).size ≤ 80 := by rw [str_size]; omega
        clear he hlong
        have zn : (str [UInt8.ofNat (48 + n.toNat)]).size ≤ 1 := Nat.le_refl _
        have HT : Hid (⟨#[45, 38]⟩ ++ str a ++ ⟨#[38, 45]⟩ ++ (⟨#[75]⟩ ++ str [UInt8.ofNat (48 + n.toNat)]) ++ str s ++ ⟨#[45]⟩ ++ (⟨#[75]⟩ ++ str [UInt8.ofNat (48 + n.toNat)]) ++ ⟨#[45, 38]⟩ ++ str a ++ str s = str (txt (.deny (.joint 4 A (.joint 4 (.deny (.know 5 n T)) (.deny (.know 5 n (.deny (.joint 4 A T))))))))) := Lib.hid (by
          rw [HX.out, HAT.out, show (⟨#[45, 38]⟩ : ByteArray) = str [45, 38] from rfl, show (⟨#[38, 45]⟩ : ByteArray) = str [38, 45] from rfl, show (⟨#[45]⟩ : ByteArray) = str [45] from rfl, show (⟨#[75]⟩ : ByteArray) = str [75] from rfl, str_app, str_app, str_app, str_app, str_app, str_app, str_app, str_app, str_app, str_app]
          first | rfl | (congr 1; simp [txt, headT, headB, Tm.op, Tm.num, letterI, letters]))
        have HL : Hid ((txt (.deny (.joint 4 A (.joint 4 (.deny (.know 5 n T)) (.deny (.know 5 n (.deny (.joint 4 A T)))))))).length ≤ 1000) := Lib.hid (by have h1 := txt_len (.deny (.joint 4 A (.joint 4 (.deny (.know 5 n T)) (.deny (.know 5 n (.deny (.joint 4 A T))))))); have h2 := (txt_len T).1; have h3 := HX.out; rw [str_size] at zs; rw [h3] at zs; simp only [Tm.size] at h1; omega)
        have zl9 : (⟨#[75]⟩ : ByteArray).size = 1 := rfl
        have haddK := fun W => run_string_add_sum (P := Tryz.prog) W ⟨#[75]⟩ (str [UInt8.ofNat (48 + n.toNat)]) (by omega)
        have zl0 : (⟨#[38, 45]⟩ : ByteArray).size = 2 := rfl
        have zl1 : (⟨#[45, 38]⟩ : ByteArray).size = 2 := rfl
        have zl2 : (⟨#[45]⟩ : ByteArray).size = 1 := rfl
        have hadd0 := fun W => run_string_add_sum (P := Tryz.prog) W (⟨#[45, 38]⟩) (str a) (by first | omega | (simp only [ByteArray.size_append]; omega))
        have hadd1 := fun W => run_string_add_sum (P := Tryz.prog) W (⟨#[45, 38]⟩ ++ str a) (⟨#[38, 45]⟩) (by first | omega | (simp only [ByteArray.size_append]; omega))
        have hadd2 := fun W => run_string_add_sum (P := Tryz.prog) W (⟨#[45, 38]⟩ ++ str a ++ ⟨#[38, 45]⟩) ((⟨#[75]⟩ ++ str [UInt8.ofNat (48 + n.toNat)])) (by first | omega | (simp only [ByteArray.size_append]; omega))
        have hadd3 := fun W => run_string_add_sum (P := Tryz.prog) W (⟨#[45, 38]⟩ ++ str a ++ ⟨#[38, 45]⟩ ++ (⟨#[75]⟩ ++ str [UInt8.ofNat (48 + n.toNat)])) (str s) (by first | omega | (simp only [ByteArray.size_append]; omega))
        have hadd4 := fun W => run_string_add_sum (P := Tryz.prog) W (⟨#[45, 38]⟩ ++ str a ++ ⟨#[38, 45]⟩ ++ (⟨#[75]⟩ ++ str [UInt8.ofNat (48 + n.toNat)]) ++ str s) (⟨#[45]⟩) (by first | omega | (simp only [ByteArray.size_append]; omega))
        have hadd5 := fun W => run_string_add_sum (P := Tryz.prog) W (⟨#[45, 38]⟩ ++ str a ++ ⟨#[38, 45]⟩ ++ (⟨#[75]⟩ ++ str [UInt8.ofNat (48 + n.toNat)]) ++ str s ++ ⟨#[45]⟩) ((⟨#[75]⟩ ++ str [UInt8.ofNat (48 + n.toNat)])) (by first | omega | (simp only [ByteArray.size_append]; omega))
        have hadd6 := fun W => run_string_add_sum (P := Tryz.prog) W (⟨#[45, 38]⟩ ++ str a ++ ⟨#[38, 45]⟩ ++ (⟨#[75]⟩ ++ str [UInt8.ofNat (48 + n.toNat)]) ++ str s ++ ⟨#[45]⟩ ++ (⟨#[75]⟩ ++ str [UInt8.ofNat (48 + n.toNat)])) (⟨#[45, 38]⟩) (by first | omega | (simp only [ByteArray.size_append]; omega))
        have hadd7 := fun W => run_string_add_sum (P := Tryz.prog) W (⟨#[45, 38]⟩ ++ str a ++ ⟨#[38, 45]⟩ ++ (⟨#[75]⟩ ++ str [UInt8.ofNat (48 + n.toNat)]) ++ str s ++ ⟨#[45]⟩ ++ (⟨#[75]⟩ ++ str [UInt8.ofNat (48 + n.toNat)]) ++ ⟨#[45, 38]⟩) (str a) (by first | omega | (simp only [ByteArray.size_append]; omega))
        have hadd8 := fun W => run_string_add_sum (P := Tryz.prog) W (⟨#[45, 38]⟩ ++ str a ++ ⟨#[38, 45]⟩ ++ (⟨#[75]⟩ ++ str [UInt8.ofNat (48 + n.toNat)]) ++ str s ++ ⟨#[45]⟩ ++ (⟨#[75]⟩ ++ str [UInt8.ofNat (48 + n.toNat)]) ++ ⟨#[45, 38]⟩ ++ str a) (str s) (by first | omega | (simp only [ByteArray.size_append]; omega))
        generalize str a = sa at *
        generalize str s = ss at *
        generalize str [UInt8.ofNat (48 + n.toNat)] = sn at *
        generalize ⟨#[75]⟩ ++ sn = kk at *
        clear zA zs zl0 zl1 zl2 zl9 zn
        go_wp2_with fail
        refine (KF.out _).mono ?_
        rintro e w3 ⟨rfl, hb3⟩
        have B3 := Lib.hid (B2.out.trans (hb3.mono B2.out.size))
        clear hb3 n0 n1
        go_wp2
        go_ret
        exact ⟨_, ret_str HT.out, HL.out, .inl rfl, B3.out⟩
      · rw [show pushT A (.know 7 n (tmAt xs k)) = .deny (.joint 4 A (.deny (.know 7 n (pushT A (tmAt xs k))))) from if_neg (by decide)]
        clear hu hp
        generalize pushT A (tmAt xs k) = T at *
        go_enter Tryz.func171, Tryz.ntmps171
        go_wp2_with fail
        refine (KD.out _ ((Below.refl _ _).alloc (Nat.le_refl _) _)).mono ?_
        rintro e w2 ⟨s, rfl, hs1, hs2, hb2⟩
        have B2 := Lib.hid (((Below.refl w.heap.size w).alloc (Nat.le_refl _) _).trans (hb2.mono (by simp)))
        have hz2 : w.heap.size < w2.heap.size := by have := hb2.size; simp at this; omega
        have n0 := node_keptZ hb2 0
        have n1 := node_keptZ hb2 1
        simp at n0 n1
        have HS2 := Lib.hid hs2
        clear hb2 c0 c1 c2 c3 hs2
        by_cases he : s = []
        · have HG := Lib.hid (HS2.out.long (.inl he))
          subst he
          obtain ⟨hx1, hx2⟩ := str_nil
          go_wp2
          go_ret
          exact ⟨[], rfl, by simp, .inr ⟨rfl, by have := HG.out; simp only [Tm.size]; omega⟩, B2.out⟩
        obtain ⟨he', hf'⟩ := str_ne he
        have HX := Lib.hid (HS2.out.text he)
        by_cases hlong : 80 < s.length
        · have HG := Lib.hid (HS2.out.long (.inr hlong))
          have hl' : (80 : Int) < ((str s).size : Int) := by rw [str_size]; omega
          clear he hlong
          go_wp2
          go_ret
          exact ⟨[], rfl, by simp, .inr ⟨rfl, by have := HG.out; simp only [Tm.size]; omega⟩, B2.out⟩
        have hl' : decide ((80 : Int) < ((str s).size : Int)) = false := decide_eq_false (by rw [str_size]; omega)
        have zs : (str s).size ≤ 80 := by rw [str_size]; omega
        clear he hlong
        have HT : Hid (⟨#[45, 38]⟩ ++ str a ++ ⟨#[45, 69]⟩ ++ str s = str (txt (.deny (.joint 4 A (.deny (.know 7 n T)))))) := Lib.hid (by
          rw [HX.out, HAT.out, show (⟨#[45, 38]⟩ : ByteArray) = str [45, 38] from rfl, show (⟨#[45, 69]⟩ : ByteArray) = str [45, 69] from rfl, str_app, str_app, str_app]
          first | rfl | (congr 1; simp [txt, headT, headB, Tm.op, Tm.num, letterI, letters]))
        have HL : Hid ((txt (.deny (.joint 4 A (.deny (.know 7 n T))))).length ≤ 1000) := Lib.hid (by have h1 := txt_len (.deny (.joint 4 A (.deny (.know 7 n T)))); have h2 := (txt_len T).1; have h3 := HX.out; rw [str_size] at zs; rw [h3] at zs; simp only [Tm.size] at h1; omega)
        have zl0 : (⟨#[45, 38]⟩ : ByteArray).size = 2 := rfl
        have zl1 : (⟨#[45, 69]⟩ : ByteArray).size = 2 := rfl
        have hadd0 := fun W => run_string_add_sum (P := Tryz.prog) W (⟨#[45, 38]⟩) (str a) (by first | omega | (simp only [ByteArray.size_append]; omega))
        have hadd1 := fun W => run_string_add_sum (P := Tryz.prog) W (⟨#[45, 38]⟩ ++ str a) (⟨#[45, 69]⟩) (by first | omega | (simp only [ByteArray.size_append]; omega))
        have hadd2 := fun W => run_string_add_sum (P := Tryz.prog) W (⟨#[45, 38]⟩ ++ str a ++ ⟨#[45, 69]⟩) (str s) (by first | omega | (simp only [ByteArray.size_append]; omega))
        generalize str a = sa at *
        generalize str s = ss at *
        clear zA zs zl0 zl1
        go_wp2
        go_ret
        exact ⟨_, ret_str HT.out, HL.out, .inl rfl, B2.out⟩
    · rw [mkTm_joint ho] at hq ⊢
      obtain ⟨rfl, hqa, hqb⟩ := hq
      have ha' := hp.2.1 (by omega)
      have hb' := hp.2.2.1 hu
      obtain ⟨k, rfl⟩ : ∃ k : Nat, xa = k := ⟨xa.toNat, by omega⟩
      obtain ⟨k', rfl⟩ : ∃ k : Nat, xb = k := ⟨xb.toNat, by omega⟩
      rw [Int.toNat_natCast, Int.toNat_natCast] at *
      have hka : k < m := by omega
      have hkl : k < xs.length := by omega
      have hkb : k' < m := by omega
      have hkl' : k' < xs.length := by omega
      have KD := Lib.hid (fun W (h : Below w.heap.size w W) => IH.out k W hka hkl (HR.out.below h (Nat.le_refl _)) hqa)
      have KE := Lib.hid (fun W (h : Below w.heap.size w W) => IH.out k' W hkb hkl' (HR.out.below h (Nat.le_refl _)) hqb)
      unfold PushP at KD KE
      rw [show pushT A (.joint 4 (tmAt xs k) (tmAt xs k')) = .joint 4 (pushT A (tmAt xs k)) (pushT A (tmAt xs k')) from rfl]
      clear hu hp ha' hb' hka hkl hkb hkl' hqa hqb KX ho
      generalize pushT A (tmAt xs k) = T at *
      generalize pushT A (tmAt xs k') = T' at *
      go_enter Tryz.func171, Tryz.ntmps171
      go_wp2_with fail
      refine (KD.out _ ((Below.refl _ _).alloc (Nat.le_refl _) _)).mono ?_
      rintro e w2 ⟨s, rfl, hs1, hs2, hb2⟩
      have B2 := Lib.hid (((Below.refl w.heap.size w).alloc (Nat.le_refl _) _).trans (hb2.mono (by simp)))
      have hz2 : w.heap.size < w2.heap.size := by have := hb2.size; simp at this; omega
      have n0 := node_keptZ hb2 0
      have n3 := node_keptZ hb2 3
      simp at n0 n3
      have HS2 := Lib.hid hs2
      clear hb2 c0 c1 c2 c3 hs2
      by_cases he : s = []
      · have HG := Lib.hid (HS2.out.long (.inl he))
        subst he
        obtain ⟨hx1, hx2⟩ := str_nil
        go_wp2
        go_ret
        exact ⟨[], rfl, by simp, .inr ⟨rfl, by have := HG.out; simp only [Tm.size]; omega⟩, B2.out⟩
      obtain ⟨he', hf'⟩ := str_ne he
      have HX := Lib.hid (HS2.out.text he)
      by_cases hlong : 80 < s.length
      · have HG := Lib.hid (HS2.out.long (.inr hlong))
        have hl' : (80 : Int) < ((str s).size : Int) := by rw [str_size]; omega
        clear he hlong
        go_wp2
        go_ret
        exact ⟨[], rfl, by simp, .inr ⟨rfl, by have := HG.out; simp only [Tm.size]; omega⟩, B2.out⟩
      have hl' : decide ((80 : Int) < ((str s).size : Int)) = false := decide_eq_false (by rw [str_size]; omega)
      have zs : (str s).size ≤ 80 := by rw [str_size]; omega
      clear he hlong
      have zs1 := zs
      clear zs
      have he1 := he'
      have hf1 := hf'
      have hl1 := hl'
      have HX1 := Lib.hid HX.out
      clear he' hf' hl' HX
      go_wp2_with fail
      refine (KE.out _ B2.out).mono ?_
      rintro e w3 ⟨s', rfl, hs1', hs3, hb3⟩
      have B3 := Lib.hid (B2.out.trans (hb3.mono B2.out.size))
      have HS3 := Lib.hid hs3
      clear hb3 hs3 n0 n3
      by_cases he : s' = []
      · have HG := Lib.hid (HS3.out.long (.inl he))
        subst he
        obtain ⟨hx1, hx2⟩ := str_nil
        go_wp2
        go_ret
        exact ⟨[], rfl, by simp, .inr ⟨rfl, by have := HG.out; simp only [Tm.size]; omega⟩, B3.out⟩
      obtain ⟨he', hf'⟩ := str_ne he
      have HX := Lib.hid (HS3.out.text he)
      by_cases hlong : 80 < s'.length
      · have HG := Lib.hid (HS3.out.long (.inr hlong))
        have hl' : (80 : Int) < ((str s').size : Int) := by rw [str_size]; omega
        clear he hlong
        go_wp2
        go_ret
        exact ⟨[], rfl, by simp, .inr ⟨rfl, by have := HG.out; simp only [Tm.size]; omega⟩, B3.out⟩
      have hl' : decide ((80 : Int) < ((str s').size : Int)) = false := decide_eq_false (by rw [str_size]; omega)
      have zs : (str s').size ≤ 80 := by rw [str_size]; omega
      clear he hlong
      have HT : Hid (⟨#[38]⟩ ++ str s ++ str s' = str (txt (.joint 4 T T'))) := Lib.hid (by
        rw [HX1.out, HX.out, show (⟨#[38]⟩ : ByteArray) = str [38] from rfl, str_app, str_app]
        first | rfl | (congr 1; simp [txt, headT, headB, Tm.op, Tm.num, letterI, letters]))
      have HL : Hid ((txt (.joint 4 T T')).length ≤ 1000) := Lib.hid (by have h1 := txt_len (.joint 4 T T'); have h2 := (txt_len T).1; have h3 := HX1.out; have h4 := (txt_len T').1; have h5 := HX.out; rw [str_size] at zs zs1; rw [h3] at zs1; rw [h5] at zs; simp only [Tm.size] at h1; omega)
      have zl0 : (⟨#[38]⟩ : ByteArray).size = 1 := rfl
      have hadd0 := fun W => run_string_add_sum (P := Tryz.prog) W (⟨#[38]⟩) (str s) (by first | omega | (simp only [ByteArray.size_append]; omega))
      have hadd1 := fun W => run_string_add_sum (P := Tryz.prog) W (⟨#[38]⟩ ++ str s) (str s') (by first | omega | (simp only [ByteArray.size_append]; omega))
      generalize str s = ss at *
      generalize str s' = ss' at *
      clear zA zs zs1 zl0
      go_wp2
      go_ret
      exact ⟨_, ret_str HT.out, HL.out, .inl rfl, B3.out⟩
end Go.Proofs.YtodjohdbngbpaaaGreat
