/-
  person.knowsOwn, person.answering. Conditions: the numbers are such as a machine has; at most 1048576 pairs; the person's map is empty.
-/
import Derived.Test.YtlaienflcflpnaaPig
import Derived.Test.YtlaienflcflpnaaPra
namespace Go.Proofs.Ytlaienflcflpnaa
open Go.RowKit Go.WideShapes
open Go Go.Deep
set_option linter.unusedSimpArgs false

def KnP (b : Nat) (r : Bool) (w : World) (e : Ending) (w' : World) : Prop :=
  e = .returned (.bool r) ∧ w'.ownsMap Try.prog 3 HeldP b 0 (.map []) ∧ w.grownBy w' (some b)
theorem cm_grown {w w' : World} {T b : Nat} {U : TypeId} {cs : List Value} (h : Cm w T U cs) (hb : w.grownBy w' (some b)) (hne : T ≠ b) : Cm w' T U cs := h.of_block (hb.block T h.lt (fun e => hne (by injection e)))
theorem grown_all {x y z : World} {b : Nat} (h : x.grownBy y (some b)) (k : Below y.heap.size y z) : x.grownBy z (some b) := World.grownBy.trans h (gr_below k _)

set_option maxRecDepth 100000 in
set_option maxHeartbeats 8000000 in
theorem knowsOwn_any (f : Bool) (b : Nat) (v : Value) (xs : List Pr) (p : Pr) (w : World) (hr : Ps w v xs) (hw : WfP xs) (hp : (Lit.int .i64 (keyP f p)).wf = true) (hn : xs.length ≤ 1048576) (hm : w.ownsMap Try.prog 3 HeldP b 0 (.map [])) :
    Calls Try.prog 41 #[pv f b, v, p.v] w (KnP b (ownP xs p f) w) := by
  have KC := Lib.hid (fun W (h : Below w.heap.size w W) => consider_any f b v xs W (hr.below h (Nat.le_refl _)) hw hn (hm.kept (gr_below h none) (by simp)))
  have KI := Lib.hid (fun W B c D V (h : Grp Try.prog 3 25 W B b c D V (fun k => grpP f k xs)) => isSure_any B b c D V f xs p W h hp)
  have hbl := hm.lt
  obtain ⟨a, cap, rfl⟩ := hr.form
  clear hr hw hn hm
  generalize ownP xs p f = R at *
  unfold pv Pr.v at *
  unfold ConP at KC
  go_enter Try.func41, Try.ntmps41
  go_wp2_with fail
  have hb1 : Below w.heap.size w ((w.alloc (.cells #[.bool f, .map (some b)] 60)).alloc (.cells #[.int .i64 p.a, .int .i64 p.b] 25)) := by go_grown
  have hA : Cm ((w.alloc (.cells #[.bool f, .map (some b)] 60)).alloc (.cells #[.int .i64 p.a, .int .i64 p.b] 25)) w.heap.size 60 [.bool f, .map (some b)] := (Cm.new (cs := [.bool f, .map (some b)]) rfl).alloc _
  have hB : Cm ((w.alloc (.cells #[.bool f, .map (some b)] 60)).alloc (.cells #[.int .i64 p.a, .int .i64 p.b] 25)) (w.heap.size + 1) 25 [.int .i64 p.a, .int .i64 p.b] := Cm.new (cs := [.int .i64 p.a, .int .i64 p.b]) (by simp)
  generalize (w.alloc (.cells #[.bool f, .map (some b)] 60)).alloc (.cells #[.int .i64 p.a, .int .i64 p.b] 25) = w1 at *
  refine (KC.out _ hb1).mono ?_
  rintro e w2 ⟨rfl, c, D, V, hc, hG, hg2⟩
  have hA2 := cm_grown hA hg2 (by omega)
  have hB2 := cm_grown hB hg2 (by omega)
  have G2 := Lib.hid hG
  have A2 := Lib.hid hA2
  have P2 := Lib.hid hB2
  have W2 : Hid (w.grownBy w2 (some b)) := Lib.hid (World.grownBy.trans (gr_below hb1 _) hg2)
  have c0 := hA2.cell 0
  have c1 := hA2.cell 1
  have d0 := hB2.cell 0
  have d1 := hB2.cell 1
  simp only [List.getElem?_cons_zero, List.getElem?_cons_succ] at c0 c1 d0 d1
  clear hb1 hA hB hG hg2 hA2 hB2
  go_wp2_with fail
  refine (KI.out _ _ _ _ _ G2.out).mono ?_
  rintro e w3 ⟨rfl, hb3⟩
  have hA3 := A2.out.all hb3
  have G3 := Lib.hid (G2.out.below hb3 (Nat.le_refl _))
  have W3 := Lib.hid (grown_all W2.out hb3)
  clear c0 c1 d0 d1
  have c0 := hA3.cell 0
  have c1 := hA3.cell 1
  simp only [List.getElem?_cons_zero, List.getElem?_cons_succ] at c0 c1
  clear hb3 hA3 G2 A2 P2 W2
  go_wp2_with
    (refine wpList_clear_map _ rfl (.tmp 15) 58 28 rfl Try.underlying58 rfl G3.out.own ?_; intro w4 hm4 hg4 hs4; have M4 := Lib.hid hm4; have W4 := Lib.hid (World.grownBy.trans W3.out hg4); clear hm4 hg4)
  go_ret
  exact ⟨rfl, M4.out, W4.out⟩

def AnP (b : Nat) (r : List Pr) (w : World) (e : Ending) (w' : World) : Prop :=
  ∃ v, e = .returned v ∧ w'.ownsRow w.heap.size 25 2 v r.length (prCells r) ∧ w'.ownsMap Try.prog 3 HeldP b 0 (.map []) ∧ w.grownBy w' (some b)
set_option maxRecDepth 100000 in
set_option maxHeartbeats 8000000 in
theorem answering_any (f kn : Bool) (b : Nat) (v : Value) (xs : List Pr) (w : World) (hr : Ps w v xs) (hw : WfP xs) (hn : xs.length ≤ 1048576) (hm : w.ownsMap Try.prog 3 HeldP b 0 (.map [])) :
    Calls Try.prog 42 #[pv f b, v, .bool kn] w (AnP b (afterP xs f kn) w) := by
  have KC := Lib.hid (fun W (h : Below w.heap.size w W) => consider_any f b v xs W (hr.below h (Nat.le_refl _)) hw hn (hm.kept (gr_below h none) (by simp)))
  have KI := Lib.hid (fun W B c D V p (hp : (Lit.int .i64 (keyP f p)).wf = true) (h : Grp Try.prog 3 25 W B b c D V (fun k => grpP f k xs)) => isSure_any B b c D V f xs p W h hp)
  have KEY := Lib.hid (fun W' (hb : But w.heap.size b w W') => (hr.but hm hb).parts)
  have HN := Lib.hid hn
  have HWK := Lib.hid (fun k (hk : k < xs.length) => hw.key (x := xs.getD k default) (by rw [List.getD_eq_getElem?_getD, List.getElem?_eq_getElem hk]; exact List.getElem_mem hk) f)
  have HY := Lib.hid (fun k hk h => flt_yes (xs := xs) (f := f) (kn := kn) (k := k) hk h)
  have HNO := Lib.hid (fun k hk h => flt_no (xs := xs) (f := f) (kn := kn) (k := k) hk h)
  have HE : Hid (fltP xs f kn xs.length = afterP xs f kn) := Lib.hid flt_end
  have HL := Lib.hid (fun k => flt_len (xs := xs) (f := f) (kn := kn) (k := k))
  have hbl := hm.lt
  obtain ⟨a, cap, rfl, h1, h2, h3⟩ := hr.parts
  unfold maxLen at h2
  clear hr hw hn hm h3
  generalize afterP xs f kn = R at *
  unfold pv at *
  unfold ConP at KC
  go_enter Try.func42, Try.ntmps42
  go_wp2_with fail
  have hb1 : Below w.heap.size w (w.alloc (.cells #[.bool f, .map (some b)] 60)) := by go_grown
  have hA : Cm (w.alloc (.cells #[.bool f, .map (some b)] 60)) w.heap.size 60 [.bool f, .map (some b)] := Cm.new (cs := [.bool f, .map (some b)]) rfl
  generalize w.alloc (.cells #[.bool f, .map (some b)] 60) = w1 at *
  refine (KC.out _ hb1).mono ?_
  rintro e w2 ⟨rfl, c, D, V, hc, hG, hg2⟩
  have hA2 := cm_grown hA hg2 (by omega)
  have G2 := Lib.hid hG
  have A2 := Lib.hid hA2
  have W2 : Hid (w.grownBy w2 (some b)) := Lib.hid (World.grownBy.trans (gr_below hb1 _) hg2)
  have T2 : Hid (But w.heap.size b w w2) := Lib.hid (But.of_grown W2.out (Nat.le_refl _) (fun k e => .inl (by injection e with e; exact e.symm)))
  have lt2 : w.heap.size < w2.heap.size := hA2.lt
  have bl2 : b < w2.heap.size := hG.own.lt
  clear hb1 hA hG hg2 hA2
  go_wp2
  go_loopw [7, 15] (fun lv iv wr => ∃ (k : Nat) (lv' : Value), k ≤ xs.length ∧ iv = .int .i64 k ∧ lv' = lv ∧ Hid (wr.ownsRow w2.heap.size 25 2 lv' (fltP xs f kn k).length (prCells (fltP xs f kn k))) ∧ Hid (Below w2.heap.size w2 wr)) (fun _ iv _ => xs.length - (intOf iv).toNat)
  case atStart => exact ⟨0, _, Nat.zero_le _, rfl, rfl, Lib.hid (World.ownsRow_nil _ _ _ _), Lib.hid (Below.refl _ _)⟩
  case round =>
    obtain ⟨k, lv, hk, rfl, rfl, HO, HB⟩ := hrel
    have hsz := HB.out.size
    by_cases hlt : k < xs.length
    · have hww : But w.heap.size b w wr := T2.out.trans (But.of_below HB.out (by omega))
      obtain ⟨a', cap', ea, e1, e2, e3⟩ := KEY.out wr hww
      obtain ⟨r, o, rfl, hrb, d0, d1⟩ := e3 k hlt
      cases ea
      clear e1 e2 e3 hww
      have HYk := Lib.hid (HY.out k hlt)
      have HNk := Lib.hid (HNO.out k hlt)
      have HLk := Lib.hid (HL.out k)
      have hkw := HWK.out k hlt
      have KIk := Lib.hid (fun W' (hb : Below w2.heap.size w2 W') => KI.out W' _ _ _ _ (xs.getD k default) hkw (G2.out.below hb (Nat.le_refl _)))
      clear hkw
      generalize xs.getD k default = x at *
      obtain ⟨xa, xb⟩ := x
      simp only at d0 d1
      unfold Pr.v at KIk
      simp only at KIk
      obtain ⟨ow, how⟩ : ∃ ow, ow = ownP xs ⟨xa, xb⟩ f := ⟨_, rfl⟩
      rw [← how] at HYk HNk KIk
      clear how
      have hA3 := A2.out.all HB.out
      have hb2 : Below wr.heap.size wr (wr.alloc (.cells #[.int .i64 xa, .int .i64 xb] 25)) := (Below.refl _ _).alloc (Nat.le_refl _) _
      have hx0 : (wr.alloc (.cells #[.int .i64 xa, .int .i64 xb] 25)).cell? ⟨wr.heap.size, 0, none⟩ = some (.int .i64 xa) := (World.cell?_alloc_at _ _ _ _ rfl).trans rfl
      have hx1 : (wr.alloc (.cells #[.int .i64 xa, .int .i64 xb] 25)).cell? ⟨wr.heap.size, 1, none⟩ = some (.int .i64 xb) := (World.cell?_alloc_at _ _ _ _ rfl).trans rfl
      have hz2 : (wr.alloc (.cells #[.int .i64 xa, .int .i64 xb] 25)).heap.size = wr.heap.size + 1 := by simp
      have B2 := Lib.hid hb2
      have X2 := Lib.hid (And.intro hx0 hx1)
      have Z2 := Lib.hid hz2
      have c0 := hA3.cell 0
      have c1 := hA3.cell 1
      simp only [List.getElem?_cons_zero, List.getElem?_cons_succ] at c0 c1
      have hwl0 : w.heap.size < wr.heap.size := by omega
      clear hb2 hx0 hx1 hz2 hA3
      go_wp2_with fail
      refine (KIk.out _ (HB.out.trans (B2.out.mono hsz))).mono ?_
      rintro e w5 ⟨rfl, hb5⟩
      have HO5 := Lib.hid (own_below HO.out (B2.out.trans (hb5.mono B2.out.size)) (Nat.le_refl _))
      have HB5 := Lib.hid (HB.out.trans ((B2.out.trans (hb5.mono B2.out.size)).mono hsz))
      have x0 : w5.cell? ⟨wr.heap.size, 0, none⟩ = some (.int .i64 xa) := (hb5.cell (p := ⟨wr.heap.size, 0, none⟩) (by show wr.heap.size < _; have := Z2.out; omega)).trans X2.out.1
      have x1 : w5.cell? ⟨wr.heap.size, 1, none⟩ = some (.int .i64 xb) := (hb5.cell (p := ⟨wr.heap.size, 1, none⟩) (by show wr.heap.size < _; have := Z2.out; omega)).trans X2.out.2
      have hwl : wr.heap.size < w5.heap.size := by have := hb5.size; have := Z2.out; omega
      have hsz5 := HB5.out.size
      clear hb5 B2 X2 Z2 c0 c1 d0 d1 HO HB
      by_cases hq : ow = kn
      · have HR := Lib.hid (HYk.out hq)
        subst hq
        clear HYk HNk
        go_wp2_with
          (at_builtin; refine wpList_push2 rfl (.tmp 24) (.tmp 26) 28 rfl 25 (.agg #[.int .i64 0, .int .i64 0]) 16 Try.underlying28 Try.infoPr rfl w2.heap.size w5 (.int .i64 xa) (.int .i64 xb) lv (fltP xs f ow k).length (prCells (fltP xs f ow k)) HO5.out rfl w5.heap.size rfl rfl rfl rfl (by unfold maxLen; have := HLk.out; have := HN.out; omega) (by have := HLk.out; have := HN.out; omega) hsz5 ?_; intro v6 w6 hown hb6 hg; have L6 := Lib.hid hown; have B6 := Lib.hid (HB5.out.trans hb6); clear hown hg hb6)
        clear x0 x1
        go_roundw
        case rel => exact ⟨k + 1, _, by omega, by go_num, rfl, Lib.hid (by rw [HR.out, prCells_app, List.length_append]; exact L6.out), B6⟩
        case measure => simp [intOf] <;> omega
      · have HR := Lib.hid (HNk.out hq)
        have hqb : (ow == kn) = false := beq_eq_false_iff_ne.2 hq
        clear HYk HNk hq
        go_wp2
        clear x0 x1 hqb
        go_roundw
        case rel => exact ⟨k + 1, _, by omega, by go_num, rfl, Lib.hid (by rw [HR.out]; exact HO5.out), HB5⟩
        case measure => simp [intOf] <;> omega
    · obtain ⟨k', hk'⟩ : ∃ y, y = k := ⟨_, rfl⟩
      subst hk'
      have HR : Hid (fltP xs f kn k' = R) := Lib.hid (by rw [show k' = xs.length by omega]; exact HE.out)
      have hA3 := A2.out.all HB.out
      have G3 := Lib.hid (G2.out.below HB.out (Nat.le_refl _))
      have W3 := Lib.hid (grown_all W2.out HB.out)
      have c0 := hA3.cell 0
      have c1 := hA3.cell 1
      simp only [List.getElem?_cons_zero, List.getElem?_cons_succ] at c0 c1
      have hwl0 : w.heap.size < wr.heap.size := by omega
      clear hA3
      go_wp2_with
        (refine wpList_clear_map _ rfl (.tmp 30) 58 28 rfl Try.underlying58 rfl G3.out.own ?_; intro w4 hm4 hg4 hs4; have M4 := Lib.hid hm4; have W4 := Lib.hid (World.grownBy.trans W3.out hg4); have O4 := Lib.hid (HO.out.kept hg4 (by rcases e : lv.ownBlock with _ | g; exact .inl rfl; exact .inr (fun e2 => by have := (HO.out.lt g e).1; injection e2 with e2; omega))); clear hm4 hg4)
      go_ret
      exact ⟨_, rfl, by rw [← HR.out]; exact ownB O4.out (by omega), M4.out, W4.out⟩
end Go.Proofs.Ytlaienflcflpnaa
