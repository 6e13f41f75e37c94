/-
  The walk of the law FnFormulas: it returns true and writes nothing that was there. No condition.
-/
import Derived.Test.YtnpfnfenkklocaaDrg
import Derived.Test.YtnpfnfenkklocaaLtm
import Derived.Test.YtnpfnfenkklocaaZCmb
import Derived.Test.YtnpfnfenkklocaaHas
namespace Go.Proofs.Ytnpfnfenkklocaa
open Go.RowKit Go.WideShapes
open Go Go.Deep
set_option linter.unusedSimpArgs false

/-- how many nodes have an operation below q -/
def sumOps (xs : List Nd) : Nat → Nat
  | 0 => 0
  | q + 1 => sumOps xs q + cntOp xs (q : Int)
theorem sumOps_cons (x : Nd) (xs : List Nd) : ∀ q : Nat, sumOps (x :: xs) q = sumOps xs q + (if 0 ≤ x.op ∧ x.op < (q : Int) then 1 else 0)
  | 0 => by simp [sumOps]
  | q + 1 => by
    have h : cntOp (x :: xs) (q : Int) = cntOp xs (q : Int) + (if x.op = (q : Int) then 1 else 0) := by
      unfold cntOp
      rw [List.countP_cons]
      by_cases e : x.op = (q : Int) <;> simp [e]
    simp only [sumOps]
    rw [sumOps_cons x xs q, h]
    split <;> split <;> split <;> omega
theorem sumOps_all : ∀ (xs : List Nd), (∀ x ∈ xs, 1 ≤ x.op ∧ x.op ≤ 9) → sumOps xs 10 = xs.length
  | [], _ => by decide
  | x :: xs, h => by
    rw [sumOps_cons, sumOps_all xs (fun y hy => h y (List.mem_cons_of_mem _ hy)), if_pos (by have := h x (List.mem_cons_self ..); omega)]; rfl
theorem sumOps_le : ∀ (xs : List Nd) (q : Nat), sumOps xs q ≤ xs.length
  | [], q => by induction q with
    | zero => decide
    | succ q ih => simp only [sumOps]; have : cntOp [] (q : Int) = 0 := rfl; omega
  | x :: xs, q => by rw [sumOps_cons]; have := sumOps_le xs q; simp only [List.length_cons]; split <;> omega
theorem lay_opsIn {t : Tm} (hw : t.wf) (hs : t.size ≤ 40) : ∀ x ∈ lay 0 t, 1 ≤ x.op ∧ x.op ≤ 9 := fun x hx => by
  obtain ⟨i, hi, rfl⟩ := List.getElem_of_mem hx
  have hp := okAt_parts (nodesOk_at (formOk_parts (lay_formOk hw hs)).2.2.1 hi)
  rw [List.getD_eq_getElem?_getD, List.getElem?_eq_getElem hi] at hp
  exact ⟨hp.1.1, hp.1.2.1⟩
/-- an answer: the nodes xs, and true -/
def OkN (w : World) (xs : List Nd) (e : Ending) (w' : World) : Prop := ∃ a c, e = .returned (.tuple #[.slice a xs.length c, .bool true]) ∧ Ns w' (.slice a xs.length c) xs ∧ Below w.heap.size w w'
theorem OkN.of_ans {w w' : World} {xs : List Nd} {e : Ending} (h : Ans w (some xs) e w') : OkN w xs e w' := by
  obtain ⟨v, rfl, ho, hb⟩ := h
  have hn := Ns.of_own ho
  obtain ⟨a, c, rfl, -⟩ := hn.parts
  exact ⟨a, c, rfl, hn, hb⟩
theorem termL_lay {t : Tm} (hw : t.wf) (hs : t.size ≤ 40) : termOfL (lay 0 t) = t := lay_tm hw hs
theorem combLL {t : Tm} (hw : t.wf) (hs : t.size ≤ 40) : combL t = some (lay 0 t) := by unfold combL; rw [if_pos (lay_formOk hw hs)]
theorem hasA_after {a b : Tm} : hasA (lay 0 (.joint 9 a b)) = true := by
  unfold hasA
  refine decide_eq_true ?_
  unfold cntOp
  rw [List.countP_pos_iff]
  exact ⟨⟨9, 0, _, _⟩, by rw [lay, List.mem_append]; exact .inr (List.mem_singleton.2 rfl), decide_eq_true rfl⟩

set_option maxRecDepth 100000 in
set_option maxHeartbeats 64000000 in
theorem walk_FnFormulas (v0 : Value) (len : Nat) (w : World) (h0 : InBytes w v0 len) :
    Calls Try.prog 7 #[v0] w fun e w' => e = .returned (.bool true) ∧ Below w.heap.size w w' := by
  obtain ⟨a0, cap0, rfl, hlc, hcm, -⟩ := id h0
  unfold maxLen at hcm
  by_cases hbig : 1048576 < len
  · clear h0
    go_enter Try.func7, Try.ntmps7
    go_wp2
    go_ret
    exact ⟨rfl, Below.refl _ _⟩
  have hcode := h0.code (by omega)
  have KF := Lib.hid (makeF_any w (.slice a0 len cap0) 0 6 (by decide) (by decide) (by decide) hcode)
  have KG := Lib.hid (fun W (h : Below w.heap.size w W) => makeF_any W (.slice a0 len cap0) 20 6 (by decide) (by decide) (by decide) (hcode.below h (Nat.le_refl _)))
  unfold MakeF at KF KG
  clear h0 hcode
  go_enter Try.func7, Try.ntmps7
  go_wp2_with fail
  refine KF.out.mono ?_
  rintro e w1 ⟨vf, f, rfl, hof, ⟨tf, rfl, hw, -, hz⟩, hb1⟩
  have hnf := Ns.of_own hof
  obtain ⟨af, cf, rfl, -, ff2, -⟩ := hnf.parts
  have F1 := Lib.hid hnf
  have B1 := Lib.hid hb1
  clear hof hnf hb1 KF
  go_wp2_with fail
  refine (KG.out _ B1.out).mono ?_
  rintro e w2 ⟨vg, g, rfl, hog, ⟨tg, rfl, hw', -, hz'⟩, hb2⟩
  have hng := Ns.of_own hog
  obtain ⟨ag, cg, rfl, -, gg2, -⟩ := hng.parts
  have G2 := Lib.hid hng
  have F2 := Lib.hid (F1.out.below hb2 (Nat.le_refl _))
  have B2 := Lib.hid (B1.out.trans (hb2.mono B1.out.size))
  clear hog hng hb2 KG F1 B1 ff2 gg2
  have hz : tf.size ≤ 11 := hz
  have hz' : tg.size ≤ 11 := hz'
  have wn : (Tm.deny tf).wf := hw
  have wc : (Tm.joint 4 tf tg).wf := ⟨.inl rfl, hw, hw'⟩
  have wk : (Tm.know 5 1 tf).wf := ⟨.inl rfl, by decide, by decide, hw⟩
  have wx : (Tm.joint 9 tf tg).wf := ⟨.inr rfl, hw, hw'⟩
  have sn : (Tm.deny tf).size ≤ 40 := by simp only [Tm.size]; omega
  have sc : (Tm.joint 4 tf tg).size ≤ 40 := by simp only [Tm.size]; omega
  have sk : (Tm.know 5 1 tf).size ≤ 40 := by simp only [Tm.size]; omega
  have sx : (Tm.joint 9 tf tg).size ≤ 40 := by simp only [Tm.size]; omega
  have KFo := Lib.hid (fun t (ht : t.wf) (hs : t.size ≤ 40) u W (h : Ns W u (lay 0 t)) => (by have := implFormat_any (lay 0 t) u W h; rw [show textL (lay 0 t) = str (txt t) by unfold textL; rw [if_pos (lay_formOk ht hs), termL_lay ht hs]] at this; exact this : Calls Try.prog 22 #[u] W fun e w' => e = .returned (.string (str (txt t))) ∧ Below W.heap.size W w'))
  have KDp := Lib.hid (fun t (ht : t.wf) (hs : t.size ≤ 40) u W (h : Ns W u (lay 0 t)) => (by have := implDepth_any (lay 0 t) u W h; rw [show depthL (lay 0 t) = ((t.deep : Nat) : Int) by unfold depthL; rw [if_pos (lay_formOk ht hs), termL_lay ht hs]] at this; exact this : Calls Try.prog 28 #[u] W fun e w' => e = .returned (.int .i64 (t.deep : Nat)) ∧ Below W.heap.size W w'))
  have fok := lay_formOk hw (by omega : tf.size ≤ 40)
  have gok := lay_formOk hw' (by omega : tg.size ≤ 40)
  have KNg := Lib.hid (fun u W (h : Ns W u (lay 0 tf)) => (implNegate_any u (lay 0 tf) W h).mono fun e w' h => OkN.of_ans (xs := lay 0 (.deny tf)) (by rw [fok, if_pos rfl, termL_lay hw (by omega), combLL wn sn] at h; exact h))
  have KKn := Lib.hid (fun u W (h : Ns W u (lay 0 tf)) => (implKnown_any 1 u (lay 0 tf) W h).mono fun e w' h => OkN.of_ans (xs := lay 0 (.know 5 1 tf)) (by rw [fok, if_pos rfl, termL_lay hw (by omega), combLL wk sk] at h; exact h))
  have KCj := Lib.hid (fun u v W (h : Ns W u (lay 0 tf)) (h' : Ns W v (lay 0 tg)) => (implConjoin_any u v (lay 0 tf) (lay 0 tg) W h h').mono fun e w' h => OkN.of_ans (xs := lay 0 (.joint 4 tf tg)) (by rw [fok, gok, Bool.and_self, if_pos rfl, termL_lay hw (by omega), termL_lay hw' (by omega), combLL wc sc] at h; exact h))
  have KAf := Lib.hid (fun u v W (h : Ns W u (lay 0 tf)) (h' : Ns W v (lay 0 tg)) => (implAfter_any u v (lay 0 tf) (lay 0 tg) W h h').mono fun e w' h => OkN.of_ans (xs := lay 0 (.joint 9 tf tg)) (by rw [fok, gok, Bool.and_self, if_pos rfl, termL_lay hw (by omega), termL_lay hw' (by omega), combLL wx sx] at h; exact h))
  unfold OkN at KNg KKn KCj KAf
  have lf := lay_len 0 tf
  have lg := lay_len 0 tg
  have lc := lay_len 0 (Tm.joint 4 tf tg)
  simp only [Tm.size] at lc
  have KFf := Lib.hid (KFo.out tf hw (by omega))
  have KFg := Lib.hid (KFo.out tg hw' (by omega))
  have KFn := Lib.hid (KFo.out _ wn sn)
  have KFc := Lib.hid (KFo.out _ wc sc)
  have KFk := Lib.hid (KFo.out _ wk sk)
  have KFx := Lib.hid (KFo.out _ wx sx)
  rw [show str (txt (Tm.deny tf)) = ⟨#[45]⟩ ++ str (txt tf) from (str_app [45] _).symm] at KFn
  rw [show str (txt (Tm.joint 4 tf tg)) = ⟨#[38]⟩ ++ str (txt tf) ++ str (txt tg) by rw [show (⟨#[38]⟩ : ByteArray) = str [38] from rfl, str_app, str_app]; rfl] at KFc
  rw [show str (txt (Tm.know 5 1 tf)) = ⟨#[75, 49]⟩ ++ str (txt tf) by rw [show (⟨#[75, 49]⟩ : ByteArray) = str [75, 49] from rfl, str_app]; rfl] at KFk
  rw [show str (txt (Tm.joint 9 tf tg)) = ⟨#[33]⟩ ++ str (txt tf) ++ str (txt tg) by rw [show (⟨#[33]⟩ : ByteArray) = str [33] from rfl, str_app, str_app]; rfl] at KFx
  have KDf := Lib.hid (KDp.out tf hw (by omega))
  have KDg := Lib.hid (KDp.out tg hw' (by omega))
  have KDk := Lib.hid (KDp.out _ wk sk)
  have KDc := Lib.hid (KDp.out _ wc sc)
  rw [show (((Tm.know 5 1 tf).deep : Nat) : Int) = ((tf.deep : Nat) : Int) + 1 by show (((tf.deep + 1 : Nat)) : Int) = _; omega] at KDk
  rw [show (((Tm.joint 4 tf tg).deep : Nat) : Int) = ((max tf.deep tg.deep : Nat) : Int) from rfl] at KDc
  have hdf := tf.deep_lt
  have hdg := tg.deep_lt
  have KCt := Lib.hid (fun op u W (h : Ns W u (lay 0 (.joint 4 tf tg))) => implCountOp_any u (lay 0 (.joint 4 tf tg)) op W h (by omega))
  have KHa := Lib.hid (fun u W (h : Ns W u (lay 0 (.joint 9 tf tg))) => implHasAnnouncements_any (lay 0 (.joint 9 tf tg)) u W h (by have := lay_len 0 (Tm.joint 9 tf tg); omega))
  rw [hasA_after] at KHa
  have HS10 := Lib.hid (sumOps_all _ (lay_opsIn wc sc))
  have HSL := Lib.hid (fun q => sumOps_le (lay 0 (Tm.joint 4 tf tg)) q)
  have HS1 : Hid (sumOps (lay 0 (Tm.joint 4 tf tg)) 1 = 0) := Lib.hid (by
    show 0 + cntOp _ 0 = 0
    rw [Nat.zero_add]; unfold cntOp
    rw [List.countP_eq_zero]
    intro x hx
    have := lay_opsIn wc sc x hx
    simp; omega)
  obtain ⟨en, en'⟩ : (str (txt tf)).toList.isEmpty = false ∧ ¬ (str (txt tf)).toList = [] := by
    have h1 := (txt_len tf).1
    have h2 := tf.size_pos
    cases hx : txt tf with
    | nil => rw [hx] at h1; simp at h1; omega
    | cons c r => exact ⟨by simp [str], by simp [str]⟩
  have zf : (str (txt tf)).size ≤ 22 := by have := (txt_len tf).2; rw [str_size]; omega
  have zg : (str (txt tg)).size ≤ 22 := by have := (txt_len tg).2; rw [str_size]; omega
  have hadd1 := fun W => run_string_add_sum (P := Try.prog) W ⟨#[45]⟩ (str (txt tf)) (by have : (⟨#[45]⟩ : ByteArray).size = 1 := rfl; omega)
  have hadd2 := fun W => run_string_add_sum (P := Try.prog) W ⟨#[38]⟩ (str (txt tf)) (by have : (⟨#[38]⟩ : ByteArray).size = 1 := rfl; omega)
  have hadd3 := fun W => run_string_add_sum (P := Try.prog) W (⟨#[38]⟩ ++ str (txt tf)) (str (txt tg)) (by rw [ByteArray.size_append]; have : (⟨#[38]⟩ : ByteArray).size = 1 := rfl; omega)
  have hadd4 := fun W => run_string_add_sum (P := Try.prog) W ⟨#[75, 49]⟩ (str (txt tf)) (by have : (⟨#[75, 49]⟩ : ByteArray).size = 2 := rfl; omega)
  have hadd5 := fun W => run_string_add_sum (P := Try.prog) W ⟨#[33]⟩ (str (txt tf)) (by have : (⟨#[33]⟩ : ByteArray).size = 1 := rfl; omega)
  have hadd6 := fun W => run_string_add_sum (P := Try.prog) W (⟨#[33]⟩ ++ str (txt tf)) (str (txt tg)) (by rw [ByteArray.size_append]; have : (⟨#[33]⟩ : ByteArray).size = 1 := rfl; omega)
  have kf0 : (0 : Int) ≤ ((lay 0 tf).length : Int) := Int.natCast_nonneg _
  have kf1 : ((lay 0 tf).length : Int) ≤ 11 := by omega
  have kg0 : (0 : Int) ≤ ((lay 0 tg).length : Int) := Int.natCast_nonneg _
  have kg1 : ((lay 0 tg).length : Int) ≤ 11 := by omega
  have hnc : (((lay 0 (Tm.joint 4 tf tg)).length : Int) == ((lay 0 tf).length : Int) + ((lay 0 tg).length : Int) + 1) = true := by rw [beq_iff_eq]; omega
  have HC40 : Hid ((lay 0 (Tm.joint 4 tf tg)).length ≤ 40) := Lib.hid (by omega)
  have hd0 : (0 : Int) ≤ (tf.deep : Int) := Int.natCast_nonneg _
  have hd1 : (tf.deep : Int) ≤ 40 := by omega
  have he0 : (0 : Int) ≤ (tg.deep : Int) := Int.natCast_nonneg _
  have he1 : (tg.deep : Int) ≤ 40 := by omega
  clear hw hw' hz hz' wn wc wk wx sn sc sk sx fok gok lf lg lc hdf hdg KFo KDp zf zg
  generalize str (txt tf) = sa at *
  generalize str (txt tg) = sb at *
  generalize lay 0 (Tm.joint 4 tf tg) = cs at *
  generalize lay 0 (Tm.joint 9 tf tg) = xs at *
  generalize lay 0 (Tm.know 5 1 tf) = ks at *
  generalize lay 0 (Tm.deny tf) = ns at *
  generalize lay 0 tf = fs at *
  generalize lay 0 tg = gs at *
  go_wp2_with fail
  refine (KFf.out _ _ F2.out).mono ?_
  rintro e w3 ⟨rfl, hb3⟩
  have B3 := Lib.hid (B2.out.trans (hb3.mono B2.out.size))
  have F3 := Lib.hid (F2.out.below hb3 (Nat.le_refl _))
  have G3 := Lib.hid (G2.out.below hb3 (Nat.le_refl _))
  clear hb3 B2 F2 G2
  go_wp2_with fail
  refine (KFg.out _ _ G3.out).mono ?_
  rintro e w4 ⟨rfl, hb4⟩
  have B4 := Lib.hid (B3.out.trans (hb4.mono B3.out.size))
  have F4 := Lib.hid (F3.out.below hb4 (Nat.le_refl _))
  have G4 := Lib.hid (G3.out.below hb4 (Nat.le_refl _))
  clear hb4 B3 F3 G3
  go_wp2_with fail
  refine (KNg.out _ _ F4.out).mono ?_
  rintro e w5 ⟨va5, vc5, rfl, hn5, hb5⟩
  have B5 := Lib.hid (B4.out.trans (hb5.mono B4.out.size))
  have F5 := Lib.hid (F4.out.below hb5 (Nat.le_refl _))
  have G5 := Lib.hid (G4.out.below hb5 (Nat.le_refl _))
  have N5 := Lib.hid hn5
  clear hb5 B4 F4 G4 hn5
  go_wp2_with fail
  refine (KCj.out _ _ _ F5.out G5.out).mono ?_
  rintro e w6 ⟨va6, vc6, rfl, hn6, hb6⟩
  have B6 := Lib.hid (B5.out.trans (hb6.mono B5.out.size))
  have F6 := Lib.hid (F5.out.below hb6 (Nat.le_refl _))
  have G6 := Lib.hid (G5.out.below hb6 (Nat.le_refl _))
  have N6 := Lib.hid (N5.out.below hb6 (Nat.le_refl _))
  have C6 := Lib.hid hn6
  clear hb6 B5 F5 G5 N5 hn6
  go_wp2_with fail
  refine (KKn.out _ _ F6.out).mono ?_
  rintro e w7 ⟨va7, vc7, rfl, hn7, hb7⟩
  have B7 := Lib.hid (B6.out.trans (hb7.mono B6.out.size))
  have F7 := Lib.hid (F6.out.below hb7 (Nat.le_refl _))
  have G7 := Lib.hid (G6.out.below hb7 (Nat.le_refl _))
  have N7 := Lib.hid (N6.out.below hb7 (Nat.le_refl _))
  have C7 := Lib.hid (C6.out.below hb7 (Nat.le_refl _))
  have K7 := Lib.hid hn7
  clear hb7 B6 F6 G6 N6 C6 hn7
  go_wp2_with fail
  refine (KAf.out _ _ _ F7.out G7.out).mono ?_
  rintro e w8 ⟨va8, vc8, rfl, hn8, hb8⟩
  have B8 := Lib.hid (B7.out.trans (hb8.mono B7.out.size))
  have F8 := Lib.hid (F7.out.below hb8 (Nat.le_refl _))
  have G8 := Lib.hid (G7.out.below hb8 (Nat.le_refl _))
  have N8 := Lib.hid (N7.out.below hb8 (Nat.le_refl _))
  have C8 := Lib.hid (C7.out.below hb8 (Nat.le_refl _))
  have K8 := Lib.hid (K7.out.below hb8 (Nat.le_refl _))
  have X8 := Lib.hid hn8
  clear hb8 B7 F7 G7 N7 C7 K7 hn8
  go_wp2
  go_loopw [15, 16] (fun sv qv wr => ∃ q : Nat, 1 ≤ q ∧ q ≤ 10 ∧ qv = .int .i64 q ∧ sv = .int .i64 (sumOps cs q : Nat) ∧ Hid (Below w8.heap.size w8 wr)) (fun _ qv _ => 11 - (intOf qv).toNat)
  case atStart => exact ⟨1, Nat.le_refl _, by decide, rfl, by rw [HS1.out]; rfl, Lib.hid (Below.refl _ _)⟩
  case round =>
    obtain ⟨q, hq1, hq2, rfl, rfl, TR⟩ := hrel
    have hq0 : (0 : Int) ≤ (q : Int) := Int.natCast_nonneg _
    have hsl := HSL.out q
    have hc40 := HC40.out
    have hs0 : (0 : Int) ≤ ((sumOps cs q : Nat) : Int) := Int.natCast_nonneg _
    have hs1 : ((sumOps cs q : Nat) : Int) ≤ 40 := by omega
    by_cases hlt : q < 10
    · have hq9 : (q : Int) ≤ 9 := by omega
      have hsc : sumOps cs (q + 1) = sumOps cs q + cntOp cs (q : Int) := rfl
      have hsl2 := HSL.out (q + 1)
      have hc0 : (0 : Int) ≤ ((cntOp cs q : Nat) : Int) := Int.natCast_nonneg _
      have hc1 : ((cntOp cs q : Nat) : Int) ≤ 40 := by omega
      have HNX : Hid (((sumOps cs q : Nat) : Int) + ((cntOp cs q : Nat) : Int) = ((sumOps cs (q + 1) : Nat) : Int)) := Lib.hid (by rw [hsc]; omega)
      clear hsc hsl hsl2 hc40
      go_wp2_with fail
      refine (KCt.out (q : Int) _ _ (C8.out.below TR.out (Nat.le_refl _))).mono ?_
      rintro e wq ⟨rfl, hbq⟩
      have TQ := Lib.hid (TR.out.trans (hbq.mono TR.out.size))
      clear hbq
      go_wp2
      go_roundw
      case rel => exact ⟨q + 1, by omega, by omega, by go_num, by rw [HNX.out], TQ⟩
      case measure => simp [intOf]; omega
    · obtain rfl : q = 10 := by omega
      have hs10 := HS10.out
      rw [hs10]
      have BT := Lib.hid (B8.out.trans (TR.out.mono B8.out.size))
      have FT := Lib.hid (F8.out.below TR.out (Nat.le_refl _))
      have GT := Lib.hid (G8.out.below TR.out (Nat.le_refl _))
      have NT := Lib.hid (N8.out.below TR.out (Nat.le_refl _))
      have CT := Lib.hid (C8.out.below TR.out (Nat.le_refl _))
      have KT := Lib.hid (K8.out.below TR.out (Nat.le_refl _))
      have XT := Lib.hid (X8.out.below TR.out (Nat.le_refl _))
      clear hs10 hsl hc40 hs0 hs1 hlt hq0 hq1 hq2 TR B8 F8 G8 N8 C8 K8 X8
      rcases Nat.lt_or_ge tf.deep tg.deep with hd | hd
      · rw [show max tf.deep tg.deep = tg.deep by omega] at KDc
        have hm1 : ((tf.deep : Int) < (tg.deep : Int)) := by omega
        clear hd
        go_wp2_with fail
        refine (KFn.out _ _ NT.out).mono ?_
        rintro e w21 ⟨rfl, hb21⟩
        have B21 := Lib.hid (BT.out.trans (hb21.mono BT.out.size))
        have F21 := Lib.hid (FT.out.below hb21 (Nat.le_refl _))
        have G21 := Lib.hid (GT.out.below hb21 (Nat.le_refl _))
        have N21 := Lib.hid (NT.out.below hb21 (Nat.le_refl _))
        have C21 := Lib.hid (CT.out.below hb21 (Nat.le_refl _))
        have K21 := Lib.hid (KT.out.below hb21 (Nat.le_refl _))
        have X21 := Lib.hid (XT.out.below hb21 (Nat.le_refl _))
        clear hb21 BT FT GT NT CT KT XT
        go_wp2_with fail
        refine (KFc.out _ _ C21.out).mono ?_
        rintro e w22 ⟨rfl, hb22⟩
        have B22 := Lib.hid (B21.out.trans (hb22.mono B21.out.size))
        have F22 := Lib.hid (F21.out.below hb22 (Nat.le_refl _))
        have G22 := Lib.hid (G21.out.below hb22 (Nat.le_refl _))
        have N22 := Lib.hid (N21.out.below hb22 (Nat.le_refl _))
        have C22 := Lib.hid (C21.out.below hb22 (Nat.le_refl _))
        have K22 := Lib.hid (K21.out.below hb22 (Nat.le_refl _))
        have X22 := Lib.hid (X21.out.below hb22 (Nat.le_refl _))
        clear hb22 B21 F21 G21 N21 C21 K21 X21
        go_wp2_with fail
        refine (KFk.out _ _ K22.out).mono ?_
        rintro e w23 ⟨rfl, hb23⟩
        have B23 := Lib.hid (B22.out.trans (hb23.mono B22.out.size))
        have F23 := Lib.hid (F22.out.below hb23 (Nat.le_refl _))
        have G23 := Lib.hid (G22.out.below hb23 (Nat.le_refl _))
        have N23 := Lib.hid (N22.out.below hb23 (Nat.le_refl _))
        have C23 := Lib.hid (C22.out.below hb23 (Nat.le_refl _))
        have K23 := Lib.hid (K22.out.below hb23 (Nat.le_refl _))
        have X23 := Lib.hid (X22.out.below hb23 (Nat.le_refl _))
        clear hb23 B22 F22 G22 N22 C22 K22 X22
        go_wp2_with fail
        refine (KFx.out _ _ X23.out).mono ?_
        rintro e w24 ⟨rfl, hb24⟩
        have B24 := Lib.hid (B23.out.trans (hb24.mono B23.out.size))
        have F24 := Lib.hid (F23.out.below hb24 (Nat.le_refl _))
        have G24 := Lib.hid (G23.out.below hb24 (Nat.le_refl _))
        have N24 := Lib.hid (N23.out.below hb24 (Nat.le_refl _))
        have C24 := Lib.hid (C23.out.below hb24 (Nat.le_refl _))
        have K24 := Lib.hid (K23.out.below hb24 (Nat.le_refl _))
        have X24 := Lib.hid (X23.out.below hb24 (Nat.le_refl _))
        clear hb24 B23 F23 G23 N23 C23 K23 X23
        go_wp2_with fail
        refine (KDk.out _ _ K24.out).mono ?_
        rintro e w25 ⟨rfl, hb25⟩
        have B25 := Lib.hid (B24.out.trans (hb25.mono B24.out.size))
        have F25 := Lib.hid (F24.out.below hb25 (Nat.le_refl _))
        have G25 := Lib.hid (G24.out.below hb25 (Nat.le_refl _))
        have N25 := Lib.hid (N24.out.below hb25 (Nat.le_refl _))
        have C25 := Lib.hid (C24.out.below hb25 (Nat.le_refl _))
        have K25 := Lib.hid (K24.out.below hb25 (Nat.le_refl _))
        have X25 := Lib.hid (X24.out.below hb25 (Nat.le_refl _))
        clear hb25 B24 F24 G24 N24 C24 K24 X24
        go_wp2_with fail
        refine (KDf.out _ _ F25.out).mono ?_
        rintro e w26 ⟨rfl, hb26⟩
        have B26 := Lib.hid (B25.out.trans (hb26.mono B25.out.size))
        have F26 := Lib.hid (F25.out.below hb26 (Nat.le_refl _))
        have G26 := Lib.hid (G25.out.below hb26 (Nat.le_refl _))
        have N26 := Lib.hid (N25.out.below hb26 (Nat.le_refl _))
        have C26 := Lib.hid (C25.out.below hb26 (Nat.le_refl _))
        have K26 := Lib.hid (K25.out.below hb26 (Nat.le_refl _))
        have X26 := Lib.hid (X25.out.below hb26 (Nat.le_refl _))
        clear hb26 B25 F25 G25 N25 C25 K25 X25
        go_wp2_with fail
        refine (KDc.out _ _ C26.out).mono ?_
        rintro e w27 ⟨rfl, hb27⟩
        have B27 := Lib.hid (B26.out.trans (hb27.mono B26.out.size))
        have F27 := Lib.hid (F26.out.below hb27 (Nat.le_refl _))
        have G27 := Lib.hid (G26.out.below hb27 (Nat.le_refl _))
        have N27 := Lib.hid (N26.out.below hb27 (Nat.le_refl _))
        have C27 := Lib.hid (C26.out.below hb27 (Nat.le_refl _))
        have K27 := Lib.hid (K26.out.below hb27 (Nat.le_refl _))
        have X27 := Lib.hid (X26.out.below hb27 (Nat.le_refl _))
        clear hb27 B26 F26 G26 N26 C26 K26 X26
        go_wp2_with fail
        refine (KDf.out _ _ F27.out).mono ?_
        rintro e w28 ⟨rfl, hb28⟩
        have B28 := Lib.hid (B27.out.trans (hb28.mono B27.out.size))
        have F28 := Lib.hid (F27.out.below hb28 (Nat.le_refl _))
        have G28 := Lib.hid (G27.out.below hb28 (Nat.le_refl _))
        have N28 := Lib.hid (N27.out.below hb28 (Nat.le_refl _))
        have C28 := Lib.hid (C27.out.below hb28 (Nat.le_refl _))
        have K28 := Lib.hid (K27.out.below hb28 (Nat.le_refl _))
        have X28 := Lib.hid (X27.out.below hb28 (Nat.le_refl _))
        clear hb28 B27 F27 G27 N27 C27 K27 X27
        go_wp2_with fail
        refine (KDg.out _ _ G28.out).mono ?_
        rintro e w29 ⟨rfl, hb29⟩
        have B29 := Lib.hid (B28.out.trans (hb29.mono B28.out.size))
        have F29 := Lib.hid (F28.out.below hb29 (Nat.le_refl _))
        have G29 := Lib.hid (G28.out.below hb29 (Nat.le_refl _))
        have N29 := Lib.hid (N28.out.below hb29 (Nat.le_refl _))
        have C29 := Lib.hid (C28.out.below hb29 (Nat.le_refl _))
        have K29 := Lib.hid (K28.out.below hb29 (Nat.le_refl _))
        have X29 := Lib.hid (X28.out.below hb29 (Nat.le_refl _))
        clear hb29 B28 F28 G28 N28 C28 K28 X28
        go_wp2_with fail
        refine (KHa.out _ _ X29.out).mono ?_
        rintro e w30 ⟨rfl, hb30⟩
        have B30 := Lib.hid (B29.out.trans (hb30.mono B29.out.size))
        have F30 := Lib.hid (F29.out.below hb30 (Nat.le_refl _))
        have G30 := Lib.hid (G29.out.below hb30 (Nat.le_refl _))
        have N30 := Lib.hid (N29.out.below hb30 (Nat.le_refl _))
        have C30 := Lib.hid (C29.out.below hb30 (Nat.le_refl _))
        have K30 := Lib.hid (K29.out.below hb30 (Nat.le_refl _))
        have X30 := Lib.hid (X29.out.below hb30 (Nat.le_refl _))
        clear hb30 B29 F29 G29 N29 C29 K29 X29
        go_wp2
        go_ret
        exact ⟨rfl, B30.out⟩
      · rw [show max tf.deep tg.deep = tf.deep by omega] at KDc
        have hm1 : decide ((tf.deep : Int) < (tg.deep : Int)) = false := decide_eq_false (by omega)
        have hm2 : ((tg.deep : Int) ≤ (tf.deep : Int)) := by omega
        clear hd
        go_wp2_with fail
        refine (KFn.out _ _ NT.out).mono ?_
        rintro e w21 ⟨rfl, hb21⟩
        have B21 := Lib.hid (BT.out.trans (hb21.mono BT.out.size))
        have F21 := Lib.hid (FT.out.below hb21 (Nat.le_refl _))
        have G21 := Lib.hid (GT.out.below hb21 (Nat.le_refl _))
        have N21 := Lib.hid (NT.out.below hb21 (Nat.le_refl _))
        have C21 := Lib.hid (CT.out.below hb21 (Nat.le_refl _))
        have K21 := Lib.hid (KT.out.below hb21 (Nat.le_refl _))
        have X21 := Lib.hid (XT.out.below hb21 (Nat.le_refl _))
        clear hb21 BT FT GT NT CT KT XT
        go_wp2_with fail
        refine (KFc.out _ _ C21.out).mono ?_
        rintro e w22 ⟨rfl, hb22⟩
        have B22 := Lib.hid (B21.out.trans (hb22.mono B21.out.size))
        have F22 := Lib.hid (F21.out.below hb22 (Nat.le_refl _))
        have G22 := Lib.hid (G21.out.below hb22 (Nat.le_refl _))
        have N22 := Lib.hid (N21.out.below hb22 (Nat.le_refl _))
        have C22 := Lib.hid (C21.out.below hb22 (Nat.le_refl _))
        have K22 := Lib.hid (K21.out.below hb22 (Nat.le_refl _))
        have X22 := Lib.hid (X21.out.below hb22 (Nat.le_refl _))
        clear hb22 B21 F21 G21 N21 C21 K21 X21
        go_wp2_with fail
        refine (KFk.out _ _ K22.out).mono ?_
        rintro e w23 ⟨rfl, hb23⟩
        have B23 := Lib.hid (B22.out.trans (hb23.mono B22.out.size))
        have F23 := Lib.hid (F22.out.below hb23 (Nat.le_refl _))
        have G23 := Lib.hid (G22.out.below hb23 (Nat.le_refl _))
        have N23 := Lib.hid (N22.out.below hb23 (Nat.le_refl _))
        have C23 := Lib.hid (C22.out.below hb23 (Nat.le_refl _))
        have K23 := Lib.hid (K22.out.below hb23 (Nat.le_refl _))
        have X23 := Lib.hid (X22.out.below hb23 (Nat.le_refl _))
        clear hb23 B22 F22 G22 N22 C22 K22 X22
        go_wp2_with fail
        refine (KFx.out _ _ X23.out).mono ?_
        rintro e w24 ⟨rfl, hb24⟩
        have B24 := Lib.hid (B23.out.trans (hb24.mono B23.out.size))
        have F24 := Lib.hid (F23.out.below hb24 (Nat.le_refl _))
        have G24 := Lib.hid (G23.out.below hb24 (Nat.le_refl _))
        have N24 := Lib.hid (N23.out.below hb24 (Nat.le_refl _))
        have C24 := Lib.hid (C23.out.below hb24 (Nat.le_refl _))
        have K24 := Lib.hid (K23.out.below hb24 (Nat.le_refl _))
        have X24 := Lib.hid (X23.out.below hb24 (Nat.le_refl _))
        clear hb24 B23 F23 G23 N23 C23 K23 X23
        go_wp2_with fail
        refine (KDk.out _ _ K24.out).mono ?_
        rintro e w25 ⟨rfl, hb25⟩
        have B25 := Lib.hid (B24.out.trans (hb25.mono B24.out.size))
        have F25 := Lib.hid (F24.out.below hb25 (Nat.le_refl _))
        have G25 := Lib.hid (G24.out.below hb25 (Nat.le_refl _))
        have N25 := Lib.hid (N24.out.below hb25 (Nat.le_refl _))
        have C25 := Lib.hid (C24.out.below hb25 (Nat.le_refl _))
        have K25 := Lib.hid (K24.out.below hb25 (Nat.le_refl _))
        have X25 := Lib.hid (X24.out.below hb25 (Nat.le_refl _))
        clear hb25 B24 F24 G24 N24 C24 K24 X24
        go_wp2_with fail
        refine (KDf.out _ _ F25.out).mono ?_
        rintro e w26 ⟨rfl, hb26⟩
        have B26 := Lib.hid (B25.out.trans (hb26.mono B25.out.size))
        have F26 := Lib.hid (F25.out.below hb26 (Nat.le_refl _))
        have G26 := Lib.hid (G25.out.below hb26 (Nat.le_refl _))
        have N26 := Lib.hid (N25.out.below hb26 (Nat.le_refl _))
        have C26 := Lib.hid (C25.out.below hb26 (Nat.le_refl _))
        have K26 := Lib.hid (K25.out.below hb26 (Nat.le_refl _))
        have X26 := Lib.hid (X25.out.below hb26 (Nat.le_refl _))
        clear hb26 B25 F25 G25 N25 C25 K25 X25
        go_wp2_with fail
        refine (KDc.out _ _ C26.out).mono ?_
        rintro e w27 ⟨rfl, hb27⟩
        have B27 := Lib.hid (B26.out.trans (hb27.mono B26.out.size))
        have F27 := Lib.hid (F26.out.below hb27 (Nat.le_refl _))
        have G27 := Lib.hid (G26.out.below hb27 (Nat.le_refl _))
        have N27 := Lib.hid (N26.out.below hb27 (Nat.le_refl _))
        have C27 := Lib.hid (C26.out.below hb27 (Nat.le_refl _))
        have K27 := Lib.hid (K26.out.below hb27 (Nat.le_refl _))
        have X27 := Lib.hid (X26.out.below hb27 (Nat.le_refl _))
        clear hb27 B26 F26 G26 N26 C26 K26 X26
        go_wp2_with fail
        refine (KDf.out _ _ F27.out).mono ?_
        rintro e w28 ⟨rfl, hb28⟩
        have B28 := Lib.hid (B27.out.trans (hb28.mono B27.out.size))
        have F28 := Lib.hid (F27.out.below hb28 (Nat.le_refl _))
        have G28 := Lib.hid (G27.out.below hb28 (Nat.le_refl _))
        have N28 := Lib.hid (N27.out.below hb28 (Nat.le_refl _))
        have C28 := Lib.hid (C27.out.below hb28 (Nat.le_refl _))
        have K28 := Lib.hid (K27.out.below hb28 (Nat.le_refl _))
        have X28 := Lib.hid (X27.out.below hb28 (Nat.le_refl _))
        clear hb28 B27 F27 G27 N27 C27 K27 X27
        go_wp2_with fail
        refine (KDg.out _ _ G28.out).mono ?_
        rintro e w29 ⟨rfl, hb29⟩
        have B29 := Lib.hid (B28.out.trans (hb29.mono B28.out.size))
        have F29 := Lib.hid (F28.out.below hb29 (Nat.le_refl _))
        have G29 := Lib.hid (G28.out.below hb29 (Nat.le_refl _))
        have N29 := Lib.hid (N28.out.below hb29 (Nat.le_refl _))
        have C29 := Lib.hid (C28.out.below hb29 (Nat.le_refl _))
        have K29 := Lib.hid (K28.out.below hb29 (Nat.le_refl _))
        have X29 := Lib.hid (X28.out.below hb29 (Nat.le_refl _))
        clear hb29 B28 F28 G28 N28 C28 K28 X28
        go_wp2_with fail
        refine (KHa.out _ _ X29.out).mono ?_
        rintro e w30 ⟨rfl, hb30⟩
        have B30 := Lib.hid (B29.out.trans (hb30.mono B29.out.size))
        have F30 := Lib.hid (F29.out.below hb30 (Nat.le_refl _))
        have G30 := Lib.hid (G29.out.below hb30 (Nat.le_refl _))
        have N30 := Lib.hid (N29.out.below hb30 (Nat.le_refl _))
        have C30 := Lib.hid (C29.out.below hb30 (Nat.le_refl _))
        have K30 := Lib.hid (K29.out.below hb30 (Nat.le_refl _))
        have X30 := Lib.hid (X29.out.below hb30 (Nat.le_refl _))
        clear hb30 B29 F29 G29 N29 C29 K29 X29
        go_wp2
        go_ret
        exact ⟨rfl, B30.out⟩
end Go.Proofs.Ytnpfnfenkklocaa
