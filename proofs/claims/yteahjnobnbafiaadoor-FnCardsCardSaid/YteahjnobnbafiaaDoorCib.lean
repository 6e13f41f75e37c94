/-
  Contracts of impl.AnnouncementOk, TellsSecond, HidesAll, IsSafe. Condition: at most 1048576 numbers.
-/
import Derived.Test.YteahjnobnbafiaaDoorCig
import Derived.Test.YteahjnobnbafiaaDoorCiu
import Derived.Test.YteahjnobnbafiaaDoorCiv
namespace Go.Proofs.YteahjnobnbafiaaDoor
open Go.RowKit Go.WideShapes
open Go Go.Deep
set_option linter.unusedSimpArgs false

/-- the hands are found one after the other, each behind the one before it -/
def annW : List Int → List Int → Bool
  | _, [] => true
  | W, h :: r => hasI W h && annW (W.drop (W.countP (· < h) + 1)) r
def aftI (p : Option Int) (x : Int) : Bool := match p with | none => true | some q => decide (q < x)
theorem drop_at {h : Int} : ∀ {W : List Int}, W.Pairwise (· < ·) → h ∈ W → W.drop (W.countP (· < h) + 1) = W.filter (fun x => decide (h < x))
  | [], _, hm => by cases hm
  | a :: r, hs, hm => by
    have hlt := fun {y} (hy : y ∈ r) => List.rel_of_pairwise_cons hs hy
    rw [List.countP_cons, List.filter_cons]
    by_cases e : a = h
    · subst e
      have h0 : r.countP (fun x => decide (x < a)) = 0 := by
        rw [List.countP_eq_zero]; intro y hy; have := hlt hy; simp; omega
      have h1 : r.filter (fun x => decide (a < x)) = r := by rw [List.filter_eq_self]; intro y hy; simpa using hlt hy
      rw [h0, h1]; simp
    · have hr : h ∈ r := by rcases List.mem_cons.1 hm with h' | h'; exact absurd h'.symm e; exact h'
      have := hlt hr
      rw [if_pos (by simpa using this), if_neg (by simp; omega), ← drop_at hs.of_cons hr]; rfl
theorem annW_eq {all : List Int} (hs : all.Pairwise (· < ·)) : ∀ {l : List Int} {p : Option Int}, annW (all.filter (aftI p)) l = annL all p l
  | [], _ => by unfold annW annL; rfl
  | h :: r, p => by
    unfold annW annL
    have e1 : hasI (all.filter (aftI p)) h = (hasI all h && aftI p h) := by
      rw [Bool.eq_iff_iff, hasI_mem, List.mem_filter, Bool.and_eq_true, hasI_mem]
    rw [e1]
    show _ = ((hasI all h && aftI p h) && _)
    cases hc : (hasI all h && aftI p h) with
    | false => rfl
    | true =>
      rw [Bool.and_eq_true, hasI_mem] at hc
      rw [drop_at (hs.filter _) (List.mem_filter.2 hc), List.filter_filter, Bool.true_and, Bool.true_and, ← annW_eq hs]
      congr 1
      apply List.filter_congr
      intro x _
      show (decide (h < x) && aftI p x) = decide (h < x)
      cases p with
      | none => simp [aftI]
      | some q =>
        have := hc.2
        simp only [aftI, decide_eq_true_eq] at this ⊢
        by_cases hx : h < x
        · simp [hx]; omega
        · simp [hx]
theorem ann_w (d : Dl) (l : List Int) : annR d l = (!l.isEmpty && annW (handsR d) l) := by
  have e : (handsR d).filter (aftI none) = handsR d := by rw [List.filter_eq_self]; intro _ _; rfl
  have h := annW_eq (hands_asc d) (l := l) (p := none)
  rw [e] at h
  rw [h]
  unfold annR
  cases hd : dealR d with
  | true => rfl
  | false =>
    have : handsR d = [] := by unfold handsR; rw [hd]; rfl
    rw [this]
    cases l with
    | nil => rfl
    | cons a r => simp [annL, hasI]
theorem annW_at {W l : List Int} {k : Nat} (hk : k < l.length) : annW W (l.drop k) = (hasI W (l.getD k 0) && annW (W.drop (W.countP (· < l.getD k 0) + 1)) (l.drop (k + 1))) := by
  rw [List.drop_eq_getElem_cons hk]
  have e : l[k] = l.getD k 0 := by rw [List.getD_eq_getElem?_getD, List.getElem?_eq_getElem hk]; rfl
  rw [e]; rfl
theorem count_lt {W : List Int} {h : Int} (hm : hasI W h = true) : W.countP (· < h) < W.length := by
  rw [hasI_mem] at hm
  rcases Nat.lt_or_ge (W.countP (· < h)) W.length with h1 | h1
  · exact h1
  · have := List.countP_eq_length.1 (Nat.le_antisymm List.countP_le_length h1) h hm
    simp at this

set_option maxRecDepth 100000 in
set_option maxHeartbeats 8000000 in
theorem implAnn_any (lo hi : Nat) (v : Value) (l : List Int) (d : Dl) (w : World) (hr : Iv lo hi w v l) (_hn : l.length ≤ 1048576) :
    Calls Tryd.prog 10 #[d.v, v] w fun e w' => e = .returned (.bool (annR d l)) ∧ Below w.heap.size w w' := by
  have KH := Lib.hid (fun W => implHands_any d W)
  have KS := Lib.hid (fun lo hi v (L : List Int) x W h1 h2 h3 => search_any lo hi v L x W h1 h2 h3)
  have HR : Hid (annR d l = (!l.isEmpty && annW (handsR d) (l.drop 0))) := Lib.hid (ann_w d l)
  have HAT := Lib.hid (fun W k hk => annW_at (W := W) (l := l) (k := k) hk)
  have HLT := Lib.hid (fun W h hm => count_lt (W := W) (h := h) hm)
  have HEND : Hid (∀ W k, ¬ k < l.length → annW W (l.drop k) = true) := Lib.hid (fun W k hk => by rw [List.drop_of_length_le (by omega)]; unfold annW; rfl)
  have HL0 : Hid ((handsR d).length ≤ 128) := Lib.hid (by
    unfold handsR; split
    · rename_i hd; exact Nat.le_trans (handsTo_len _ _) (pow_le (deal_facts hd).2.2.2.2.2.2.2.1)
    · exact Nat.zero_le _)
  have HS0 := Lib.hid (hands_asc d)
  obtain ⟨a, cap, rfl, h1, h2, h3⟩ := hr.parts
  have KEY := Lib.hid h3
  unfold maxLen at h2
  unfold IntsAns at KH
  clear hr h3
  unfold Dl.v at *
  generalize annR d l = R at *
  generalize handsR d = al at *
  obtain ⟨da, db, dc⟩ := d
  simp only at *
  have hX : Cm (w.alloc (.cells #[.int .i64 da, .int .i64 db, .int .i64 dc] 26)) w.heap.size 26 [.int .i64 da, .int .i64 db, .int .i64 dc] := Cm.new (cs := [.int .i64 da, .int .i64 db, .int .i64 dc]) rfl
  have hb1 : Below w.heap.size w (w.alloc (.cells #[.int .i64 da, .int .i64 db, .int .i64 dc] 26)) := (Below.refl _ _).alloc (Nat.le_refl _) _
  go_enter Tryd.func10, Tryd.ntmps10
  go_wp2_with fail
  generalize w.alloc (.cells #[.int .i64 da, .int .i64 db, .int .i64 dc] 26) = w1 at *
  have B1 := Lib.hid hb1
  clear hb1 hX
  refine (KH.out _).mono ?_
  rintro e w2 ⟨v2, rfl, ho2, hb2⟩
  have A2 := Lib.hid ho2.read
  have B2 := Lib.hid (B1.out.trans (hb2.mono B1.out.size))
  clear ho2 hb2
  go_wp2
  go_loopw [5, 14] (fun wv iv wr => ∃ (k : Nat) (W : List Int) (wv' : Value), k ≤ l.length ∧ iv = .int .i64 k ∧ wv' = wv ∧ Hid (Iv w1.heap.size w2.heap.size w2 wv' W) ∧ Hid (W.length ≤ 128) ∧ Hid (W.Pairwise (· < ·)) ∧ Hid (R = (!l.isEmpty && annW W (l.drop k))) ∧ Hid (Below w2.heap.size w2 wr)) (fun _ iv _ => l.length - (intOf iv).toNat)
  case atStart => exact ⟨0, al, _, Nat.zero_le _, rfl, rfl, A2, HL0, HS0, HR, Lib.hid (Below.refl _ _)⟩
  case round =>
    clear HR A2 HL0 HS0
    obtain ⟨k, W, wv, hk, rfl, rfl, HV, HLn, HSn, HR, HB⟩ := hrel
    have hki0 : (0 : Int) ≤ (k : Int) := Int.natCast_nonneg _
    by_cases hlt : k < l.length
    · have hki1 : (k : Int) < (l.length : Int) := by omega
      obtain ⟨b, o, rfl, -, -, hb, q0⟩ := KEY.out k hlt
      rw [← (B2.out.trans (HB.out.mono B2.out.size)).cell (p := ⟨b, o + k, none⟩) hb] at q0
      have HRk := Lib.hid (HAT.out W k hlt)
      have HLk := Lib.hid (HLT.out W (l.getD k 0))
      generalize l.getD k 0 = x at *
      obtain ⟨wa, wc, e2⟩ := HV.out.form
      subst e2
      have KSx := Lib.hid (KS.out _ _ _ W x _ (HV.out.keeps (Keeps.of_all HB.out)) (by have := HLn.out; omega) HSn.out)
      obtain ⟨c, hc⟩ : ∃ c, c = W.countP (· < x) := ⟨_, rfl⟩
      rw [← hc] at HRk HLk KSx
      obtain ⟨q, hq⟩ : ∃ q, q = hasI W x := ⟨_, rfl⟩
      rw [← hq] at HRk HLk KSx
      have HC := Lib.hid (And.intro hc hq)
      clear hc hq
      go_wp2_with fail
      refine KSx.out.mono ?_
      rintro e w3 ⟨rfl, hq3⟩
      have B3 : Hid (Below w2.heap.size w2 w3) := Lib.hid (by obtain ⟨q, rfl⟩ := hq3; exact below_drewN' HB.out q)
      clear hq3 KSx
      cases q with
      | false =>
        have HF : Hid (R = false) := Lib.hid (by rw [HR.out, HRk.out]; simp)
        clear HR HRk HLk
        go_wp2
        go_ret
        exact ⟨by rw [HF.out]; rfl, B2.out.trans (B3.out.mono B2.out.size)⟩
      | true =>
        have hcl := HLk.out rfl
        have HF : Hid (R = (!l.isEmpty && annW (W.drop (c + 1)) (l.drop (k + 1)))) := Lib.hid (by rw [HR.out, HRk.out]; rfl)
        have hn := HLn.out
        clear HR HRk HLk
        obtain ⟨wb, wo, rfl, hwc⟩ : ∃ wb wo, wa = some ⟨wb, wo, none⟩ ∧ W.length ≤ wc := by
          obtain ⟨a', c', e', g1, g2, g3⟩ := HV.out.parts
          injection e' with e1 e2 e3
          subst e1 e3
          obtain ⟨b', o', e4, -⟩ := g3 0 (by omega)
          exact ⟨b', o', e4, g1⟩
        have HT := Lib.hid (HV.out.tail (k := c + 1) (by omega))
        have HLT2 : Hid ((W.drop (c + 1)).length ≤ 128) := Lib.hid (by rw [List.length_drop]; omega)
        have HST : Hid ((W.drop (c + 1)).Pairwise (· < ·)) := Lib.hid (HSn.out.sublist (List.drop_sublist _ _))
        unfold tailV at HT
        generalize W.length = n at *
        have hcw : IntKind.i64.wrap ((c : Int) + 1) = (c : Int) + 1 := IntWalk.i64_in _ (by omega)
        have hci : (c : Int) + 1 ≤ (n : Int) := by omega
        have hc0 : (0 : Int) ≤ (c : Int) + 1 := by omega
        go_wp2
        go_roundw
        case rel => exact ⟨k + 1, _, _, by omega, by go_num, rfl, HT, HLT2, HST, HF, B3⟩
        case measure => simp [intOf] <;> omega
    · have HF : Hid (R = !l.isEmpty) := Lib.hid (by rw [HR.out, HEND.out W k hlt]; simp)
      have hnl : ¬ (k : Int) < (l.length : Int) := by omega
      have HBB := Lib.hid (B2.out.trans (HB.out.mono B2.out.size))
      clear HR
      cases l with
      | nil =>
        go_wp2
        go_ret
        exact ⟨by rw [HF.out]; rfl, HBB.out⟩
      | cons x r =>
        have hr0 : 0 < (x :: r).length := by simp
        generalize (x :: r).length = n at *
        have HN0 : Hid (decide (0 < n) = true) := Lib.hid (decide_eq_true hr0)
        clear hr0
        go_wp2
        go_ret
        exact ⟨by show Ending.returned (Value.bool (decide (0 < n))) = _; rw [HF.out, HN0.out]; rfl, HBB.out⟩

theorem hands_pos {d : Dl} {x : Int} (hd : dealR d = true) (h : x ∈ handsR d) : 0 < x ∧ x < 128 := by
  have h1 := hands_in h
  have h2 := (deal_facts hd).1
  unfold handsR at h
  rw [if_pos hd] at h
  have h3 := (handsTo_mem h).2.2
  rcases Int.lt_or_eq_of_le h1.1 with h4 | h4
  · exact ⟨h4, h1.2.2⟩
  · subst h4
    have : pop (0 : Int).toNat = 0 := by decide
    omega

set_option maxRecDepth 100000 in
set_option maxHeartbeats 4000000 in
theorem implTells_any (lo hi : Nat) (v : Value) (l : List Int) (d : Dl) (w : World) (hr : Iv lo hi w v l) (hn : l.length ≤ 1048576) :
    Calls Tryd.prog 11 #[d.v, v] w fun e w' => e = .returned (.bool (tellR d l)) ∧ Below w.heap.size w w' := by
  have K1 := Lib.hid (fun W (h : Below w.heap.size w W) => implAnn_any lo hi v l d W (hr.keeps (Keeps.of_all h)) hn)
  have K2 := Lib.hid (fun W (ok : annR d l = true) (h : Below w.heap.size w W) => tellsI_any d (ann_mem ok).1 lo hi v l W (hr.keeps (Keeps.of_all h)) (fun x hx => by have := hands_in ((ann_mem ok).2 x hx); omega))
  have HR : Hid (tellR d l = (annR d l && pairP d l)) := Lib.hid (by unfold tellR; rw [tell_eq])
  obtain ⟨a, cap, rfl⟩ := hr.form
  clear hr
  unfold Dl.v at *
  generalize tellR d l = R at *
  generalize annR d l = ok at *
  generalize pairP d l = q at *
  obtain ⟨da, db, dc⟩ := d
  simp only at *
  have hX : Cm (w.alloc (.cells #[.int .i64 da, .int .i64 db, .int .i64 dc] 26)) w.heap.size 26 [.int .i64 da, .int .i64 db, .int .i64 dc] := Cm.new (cs := [.int .i64 da, .int .i64 db, .int .i64 dc]) rfl
  have hb1 : Below w.heap.size w (w.alloc (.cells #[.int .i64 da, .int .i64 db, .int .i64 dc] 26)) := (Below.refl _ _).alloc (Nat.le_refl _) _
  go_enter Tryd.func11, Tryd.ntmps11
  go_wp2_with fail
  generalize w.alloc (.cells #[.int .i64 da, .int .i64 db, .int .i64 dc] 26) = w1 at *
  refine (K1.out _ hb1).mono ?_
  rintro e w2 ⟨rfl, hb2⟩
  have B2 := Lib.hid (hb1.trans (hb2.mono hb1.size))
  have hX2 := hX.all hb2
  have c0 := hX2.cell 0
  have c1 := hX2.cell 1
  have c2 := hX2.cell 2
  simp only [List.getElem?_cons_zero, List.getElem?_cons_succ] at c0 c1 c2
  clear hb2 hX hb1 hX2
  cases ok with
  | false =>
    have HN : Hid (R = false) := Lib.hid (by rw [HR.out]; rfl)
    clear HR
    go_wp2
    go_ret
    exact ⟨by rw [HN.out]; rfl, B2.out⟩
  | true =>
    have HN : Hid (R = q) := Lib.hid (by rw [HR.out]; rfl)
    clear HR
    go_wp2_with fail
    refine (K2.out _ trivial B2.out).mono ?_
    rintro e w3 ⟨rfl, hb3⟩
    have B3 := Lib.hid (B2.out.trans (hb3.mono B2.out.size))
    clear hb3
    cases q with
    | true =>
      go_wp2
      go_ret
      exact ⟨by rw [HN.out]; rfl, B3.out⟩
    | false =>
      go_wp2
      go_ret
      exact ⟨by rw [HN.out]; rfl, B3.out⟩

set_option maxRecDepth 100000 in
set_option maxHeartbeats 4000000 in
theorem implHides_any (lo hi : Nat) (v : Value) (l : List Int) (d : Dl) (w : World) (hr : Iv lo hi w v l) (hn : l.length ≤ 1048576) :
    Calls Tryd.prog 13 #[d.v, v] w fun e w' => e = .returned (.bool (hidesR d l)) ∧ Below w.heap.size w w' := by
  have K1 := Lib.hid (fun W (h : Below w.heap.size w W) => implAnn_any lo hi v l d W (hr.keeps (Keeps.of_all h)) hn)
  have K2 := Lib.hid (fun W (ok : annR d l = true) (h : Below w.heap.size w W) => hidesI_any d (ann_mem ok).1 lo hi v l W (hr.keeps (Keeps.of_all h)) (fun x hx => hands_pos (ann_mem ok).1 ((ann_mem ok).2 x hx)))
  have HR : Hid (hidesR d l = (annR d l && hidesP d l)) := Lib.hid (rfl)
  obtain ⟨a, cap, rfl⟩ := hr.form
  clear hr
  unfold Dl.v at *
  generalize hidesR d l = R at *
  generalize annR d l = ok at *
  generalize hidesP d l = q at *
  obtain ⟨da, db, dc⟩ := d
  simp only at *
  have hX : Cm (w.alloc (.cells #[.int .i64 da, .int .i64 db, .int .i64 dc] 26)) w.heap.size 26 [.int .i64 da, .int .i64 db, .int .i64 dc] := Cm.new (cs := [.int .i64 da, .int .i64 db, .int .i64 dc]) rfl
  have hb1 : Below w.heap.size w (w.alloc (.cells #[.int .i64 da, .int .i64 db, .int .i64 dc] 26)) := (Below.refl _ _).alloc (Nat.le_refl _) _
  go_enter Tryd.func13, Tryd.ntmps13
  go_wp2_with fail
  generalize w.alloc (.cells #[.int .i64 da, .int .i64 db, .int .i64 dc] 26) = w1 at *
  refine (K1.out _ hb1).mono ?_
  rintro e w2 ⟨rfl, hb2⟩
  have B2 := Lib.hid (hb1.trans (hb2.mono hb1.size))
  have hX2 := hX.all hb2
  have c0 := hX2.cell 0
  have c1 := hX2.cell 1
  have c2 := hX2.cell 2
  simp only [List.getElem?_cons_zero, List.getElem?_cons_succ] at c0 c1 c2
  clear hb2 hX hb1 hX2
  cases ok with
  | false =>
    have HN : Hid (R = false) := Lib.hid (by rw [HR.out]; rfl)
    clear HR
    go_wp2
    go_ret
    exact ⟨by rw [HN.out]; rfl, B2.out⟩
  | true =>
    have HN : Hid (R = q) := Lib.hid (by rw [HR.out]; rfl)
    clear HR
    go_wp2_with fail
    refine (K2.out _ trivial B2.out).mono ?_
    rintro e w3 ⟨rfl, hb3⟩
    have B3 := Lib.hid (B2.out.trans (hb3.mono B2.out.size))
    clear hb3
    cases q with
    | true =>
      go_wp2
      go_ret
      exact ⟨by rw [HN.out]; rfl, B3.out⟩
    | false =>
      go_wp2
      go_ret
      exact ⟨by rw [HN.out]; rfl, B3.out⟩

set_option maxRecDepth 100000 in
set_option maxHeartbeats 4000000 in
theorem implSafe_any (lo hi : Nat) (v : Value) (l : List Int) (d : Dl) (w : World) (hr : Iv lo hi w v l) (hn : l.length ≤ 1048576) :
    Calls Tryd.prog 12 #[d.v, v] w fun e w' => e = .returned (.bool (safeR d l)) ∧ Below w.heap.size w w' := by
  have K1 := Lib.hid (fun W (h : Below w.heap.size w W) => implTells_any lo hi v l d W (hr.keeps (Keeps.of_all h)) hn)
  have K2 := Lib.hid (fun W (_ : tellR d l = true) (h : Below w.heap.size w W) => implHides_any lo hi v l d W (hr.keeps (Keeps.of_all h)) hn)
  have HR : Hid (safeR d l = (tellR d l && hidesR d l)) := Lib.hid (rfl)
  obtain ⟨a, cap, rfl⟩ := hr.form
  clear hr
  unfold Dl.v at *
  generalize safeR d l = R at *
  generalize tellR d l = ok at *
  generalize hidesR d l = q at *
  obtain ⟨da, db, dc⟩ := d
  simp only at *
  have hX : Cm (w.alloc (.cells #[.int .i64 da, .int .i64 db, .int .i64 dc] 26)) w.heap.size 26 [.int .i64 da, .int .i64 db, .int .i64 dc] := Cm.new (cs := [.int .i64 da, .int .i64 db, .int .i64 dc]) rfl
  have hb1 : Below w.heap.size w (w.alloc (.cells #[.int .i64 da, .int .i64 db, .int .i64 dc] 26)) := (Below.refl _ _).alloc (Nat.le_refl _) _
  go_enter Tryd.func12, Tryd.ntmps12
  go_wp2_with fail
  generalize w.alloc (.cells #[.int .i64 da, .int .i64 db, .int .i64 dc] 26) = w1 at *
  refine (K1.out _ hb1).mono ?_
  rintro e w2 ⟨rfl, hb2⟩
  have B2 := Lib.hid (hb1.trans (hb2.mono hb1.size))
  have hX2 := hX.all hb2
  have c0 := hX2.cell 0
  have c1 := hX2.cell 1
  have c2 := hX2.cell 2
  simp only [List.getElem?_cons_zero, List.getElem?_cons_succ] at c0 c1 c2
  clear hb2 hX hb1 hX2
  cases ok with
  | false =>
    have HN : Hid (R = false) := Lib.hid (by rw [HR.out]; rfl)
    clear HR
    go_wp2
    go_ret
    exact ⟨by rw [HN.out]; rfl, B2.out⟩
  | true =>
    have HN : Hid (R = q) := Lib.hid (by rw [HR.out]; rfl)
    clear HR
    go_wp2_with fail
    refine (K2.out _ trivial B2.out).mono ?_
    rintro e w3 ⟨rfl, hb3⟩
    have B3 := Lib.hid (B2.out.trans (hb3.mono B2.out.size))
    clear hb3
    cases q with
    | true =>
      go_wp2
      go_ret
      exact ⟨by rw [HN.out]; rfl, B3.out⟩
    | false =>
      go_wp2
      go_ret
      exact ⟨by rw [HN.out]; rfl, B3.out⟩
end Go.Proofs.YteahjnobnbafiaaDoor
