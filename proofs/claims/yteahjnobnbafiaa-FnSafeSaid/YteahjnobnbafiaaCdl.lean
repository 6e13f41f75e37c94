/-
  Contract of spec.TellsSecond. No condition.
-/
import Derived.Test.YteahjnobnbafiaaCdk
import Derived.Test.YteahjnobnbafiaaZReg
import Derived.Laws.BitsLemmas
namespace Go.Proofs.Yteahjnobnbafiaa
open Go.RowKit Go.WideShapes
open Go Go.Deep
set_option linter.unusedSimpArgs false

theorem bits_and_nat (a b : Nat) (ha : a < 2 ^ 63) (hb : b < 2 ^ 63) : bits .and .i64 (a : Int) (b : Int) = ((a &&& b : Nat) : Int) := by
  have e1 : (BitVec.ofInt 64 (a : Int)).toNat = a := by rw [BitVec.toNat_ofInt]; omega
  have e2 : (BitVec.ofInt 64 (b : Int)).toNat = b := by rw [BitVec.toNat_ofInt]; omega
  have key : (BitVec.ofInt 64 (a : Int) &&& BitVec.ofInt 64 (b : Int)).toNat = a &&& b := by rw [BitVec.toNat_and, e1, e2]
  show IntKind.i64.wrap ((BitVec.ofInt 64 (a : Int) &&& BitVec.ofInt 64 (b : Int)).toNat : Nat) = _
  rw [key, IntKind.wrap_i64]
  have : a &&& b ≤ a := Nat.and_le_left
  omega
theorem bits_or_nat (a b : Nat) (ha : a < 2 ^ 63) (hb : b < 2 ^ 63) : bits .or .i64 (a : Int) (b : Int) = ((a ||| b : Nat) : Int) := by
  have e1 : (BitVec.ofInt 64 (a : Int)).toNat = a := by rw [BitVec.toNat_ofInt]; omega
  have e2 : (BitVec.ofInt 64 (b : Int)).toNat = b := by rw [BitVec.toNat_ofInt]; omega
  have key : (BitVec.ofInt 64 (a : Int) ||| BitVec.ofInt 64 (b : Int)).toNat = a ||| b := by rw [BitVec.toNat_or, e1, e2]
  show IntKind.i64.wrap ((BitVec.ofInt 64 (a : Int) ||| BitVec.ofInt 64 (b : Int)).toNat : Nat) = _
  rw [key, IntKind.wrap_i64]
  have : a ||| b < 2 ^ 63 := Nat.or_lt_two_pow ha hb
  omega
theorem deal_facts {d : Dl} (h : dealR d = true) : 1 ≤ d.a ∧ d.a ≤ 7 ∧ 1 ≤ d.b ∧ d.b ≤ 7 ∧ 0 ≤ d.c ∧ d.c ≤ 7 ∧ d.a + d.b + d.c ≤ 7 ∧ d.n ≤ 7 ∧ d.a + d.b + d.c = (d.n : Int) := by
  unfold dealR at h
  simp only [Bool.and_eq_true, decide_eq_true_eq] at h
  unfold Dl.n
  omega
theorem hands_in {d : Dl} {x : Int} (h : x ∈ handsR d) : 0 ≤ x ∧ x < 2 ^ d.n ∧ x < 128 := by
  unfold handsR at h
  split at h
  · rename_i hd
    have := deal_facts hd
    have h1 := handsTo_in (show x ∈ handsTo d.a.toNat (2 ^ d.n) from h)
    have h2 := pow_le this.2.2.2.2.2.2.2.1
    have e : ((2 ^ d.n : Nat) : Int) = 2 ^ d.n := by simp
    omega
  · cases h
theorem hasI_iff {l : List Int} {x : Int} : hasI l x = true ↔ x ∈ l := by
  unfold hasI; rw [List.any_eq_true]
  constructor
  · rintro ⟨y, hy, e⟩; rw [beq_iff_eq] at e; exact e ▸ hy
  · exact fun h => ⟨x, h, beq_self_eq_true x⟩
theorem annL_mem {all : List Int} : ∀ {l : List Int} {p : Option Int}, annL all p l = true → ∀ x ∈ l, x ∈ all
  | [], _, _, _, hx => by cases hx
  | h :: r, p, ha, x, hx => by
    unfold annL at ha
    simp only [Bool.and_eq_true] at ha
    rcases List.mem_cons.1 hx with rfl | hx
    · exact hasI_iff.1 ha.1.1
    · exact annL_mem ha.2 x hx
theorem ann_mem {d : Dl} {l : List Int} (h : annR d l = true) : dealR d = true ∧ ∀ x ∈ l, x ∈ handsR d := by
  unfold annR at h
  simp only [Bool.and_eq_true] at h
  exact ⟨h.1, annL_mem h.2.2⟩
theorem ann_nat {d : Dl} {l : List Int} (h : annR d l = true) {k : Nat} (hk : k < l.length) : ∃ X : Nat, l.getD k 0 = (X : Int) ∧ X < 128 := by
  have hm : l.getD k 0 ∈ l := by rw [List.getD_eq_getElem?_getD, List.getElem?_eq_getElem hk]; exact List.getElem_mem hk
  have := hands_in ((ann_mem h).2 _ hm)
  exact ⟨(l.getD k 0).toNat, by omega, by omega⟩
/-- the pairs of the k-th hand with the hands from the j-th on before it, and what comes behind -/
def tellAt (t : Int) (l : List Int) (k j : Nat) : Bool := ((l.take k).drop j).all (fun x => decide ((pop (andI (l.getD k 0) x) : Int) < t)) && tellL t (l.take (k + 1)) (l.drop (k + 1))
theorem tell_out {t : Int} {l : List Int} {k : Nat} (hk : k < l.length) : tellL t (l.take k) (l.drop k) = tellAt t l k 0 := by
  rw [List.drop_eq_getElem_cons hk]
  have e : l[k] = l.getD k 0 := by rw [List.getD_eq_getElem?_getD, List.getElem?_eq_getElem hk]; rfl
  unfold tellAt
  rw [List.drop_zero, List.take_add_one, List.getElem?_eq_getElem hk, e]
  rfl
theorem tell_in {t : Int} {l : List Int} {k j : Nat} (hk : k < l.length) (hj : j < k) : tellAt t l k j = (decide ((pop (andI (l.getD k 0) (l.getD j 0)) : Int) < t) && tellAt t l k (j + 1)) := by
  unfold tellAt
  have hl : j < (l.take k).length := by rw [List.length_take]; omega
  rw [List.drop_eq_getElem_cons hl]
  have e : (l.take k)[j] = l.getD j 0 := by rw [List.getElem_take, List.getD_eq_getElem?_getD, List.getElem?_eq_getElem (by omega)]; rfl
  rw [e, List.all_cons, Bool.and_assoc]
theorem tell_last {t : Int} {l : List Int} {k : Nat} : tellAt t l k k = tellL t (l.take (k + 1)) (l.drop (k + 1)) := by
  unfold tellAt
  rw [List.drop_of_length_le (by rw [List.length_take]; omega)]; rfl

set_option maxRecDepth 100000 in
set_option maxHeartbeats 16000000 in
theorem specTells_any (lo hi : Nat) (v : Value) (l : List Int) (d : Dl) (w : World) (hr : Iv lo hi w v l) :
    Calls Try.prog 22 #[d.v, v] w fun e w' => e = .returned (.bool (tellR d l)) ∧ Below w.heap.size w w' := by
  have KA := Lib.hid (fun W (h : Below w.heap.size w W) => specAnn_any lo hi v l d W (hr.keeps (Keeps.of_all h)))
  have KC := Lib.hid (fun h hh W => count_any h hh W)
  have HR : Hid (tellR d l = (annR d l && tellL (d.a - d.c) [] l)) := Lib.hid rfl
  obtain ⟨a, cap, rfl, h1, h2, h3⟩ := hr.parts
  have KEY := Lib.hid h3
  unfold maxLen at h2
  have HNat := Lib.hid (fun (h : annR d l = true) k (hk : k < l.length) => ann_nat h hk)
  have HD := Lib.hid (fun (h : annR d l = true) => deal_facts (ann_mem h).1)
  have HOut := Lib.hid (fun k hk => tell_out (t := d.a - d.c) (l := l) (k := k) hk)
  have HIn := Lib.hid (fun k j hk hj => tell_in (t := d.a - d.c) (l := l) (k := k) (j := j) hk hj)
  have HLast := Lib.hid (fun k => tell_last (t := d.a - d.c) (l := l) (k := k))
  have HEnd : Hid (∀ k, ¬ k < l.length → tellL (d.a - d.c) (l.take k) (l.drop k) = true) := Lib.hid (fun k hk => by rw [List.drop_of_length_le (by omega)]; unfold tellL; rfl)
  clear hr h3
  unfold Dl.v at *
  generalize tellR d l = R at *
  generalize annR d l = ok at *
  obtain ⟨da, db, dc⟩ := d
  simp only at *
  generalize Dl.n ⟨da, db, dc⟩ = dn at *
  have hX : Cm (w.alloc (.cells #[.int .i64 da, .int .i64 db, .int .i64 dc] 25)) w.heap.size 25 [.int .i64 da, .int .i64 db, .int .i64 dc] := Cm.new (cs := [.int .i64 da, .int .i64 db, .int .i64 dc]) rfl
  have hb1 : Below w.heap.size w (w.alloc (.cells #[.int .i64 da, .int .i64 db, .int .i64 dc] 25)) := (Below.refl _ _).alloc (Nat.le_refl _) _
  go_enter Try.func22, Try.ntmps22
  go_wp2_with fail
  generalize w.alloc (.cells #[.int .i64 da, .int .i64 db, .int .i64 dc] 25) = w1 at *
  refine (KA.out _ hb1).mono ?_
  rintro e w2 ⟨rfl, hb2⟩
  have B2 := Lib.hid (hb1.trans (hb2.mono hb1.size))
  have X2 := Lib.hid (hX.all hb2)
  clear hb2 hX hb1
  cases ok with
  | false =>
    have HN : Hid (R = false) := Lib.hid HR.out
    clear HR
    go_wp2
    go_ret
    exact ⟨by rw [HN.out]; rfl, B2.out⟩
  | true =>
    have HN : Hid (R = tellL (da - dc) (l.take 0) (l.drop 0)) := Lib.hid HR.out
    have HNT := Lib.hid (HNat.out rfl)
    obtain ⟨a1, a7, -, -, cc1, cc7, -, -, -⟩ := HD.out rfl
    clear HR HD HNat
    have htw : IntKind.i64.wrap (da - dc) = da - dc := IntWalk.i64_in _ (by omega)
    generalize htt : da - dc = tt at *
    have HTT := Lib.hid htt
    go_wp2
    go_loopw [15] (fun iv wr => ∃ k : Nat, k ≤ l.length ∧ iv = .int .i64 k ∧ Hid (R = tellL tt (l.take k) (l.drop k)) ∧ Hid (Below w2.heap.size w2 wr)) (fun iv _ => l.length - (intOf iv).toNat)
    case atStart => exact ⟨0, Nat.zero_le _, rfl, HN, Lib.hid (Below.refl _ _)⟩
    case round =>
      clear HN
      obtain ⟨k, hk, rfl, HR, HB⟩ := hrel
      obtain ⟨wo, rfl⟩ : ∃ wo : World, wo = wr := ⟨_, rfl⟩
      have hki0 : (0 : Int) ≤ (k : Int) := Int.natCast_nonneg _
      by_cases hlt : k < l.length
      · have hki1 : (k : Int) < (l.length : Int) := by omega
        obtain ⟨b, o, rfl, -, -, hb, q0⟩ := KEY.out k hlt
        rw [← (B2.out.trans (HB.out.mono B2.out.size)).cell (p := ⟨b, o + k, none⟩) hb] at q0
        obtain ⟨X, hX, hX7⟩ := HNT.out k hlt
        have HR0 : Hid (R = tellAt tt l k 0) := Lib.hid (by rw [HR.out, HOut.out k hlt])
        have HIk := Lib.hid (fun j hj => HIn.out k j hlt hj)
        rw [hX] at q0 HIk
        clear hX HR
        go_wp2
        go_loopw [24] (fun iv wr => ∃ j : Nat, j ≤ k ∧ iv = .int .i64 j ∧ Hid (R = tellAt tt l k j) ∧ Hid (Below w2.heap.size w2 wr)) (fun iv _ => k - (intOf iv).toNat)
        case atStart => exact ⟨0, Nat.zero_le _, rfl, HR0, HB⟩
        case round =>
          clear HR0 HB q0
          obtain ⟨j, hj, rfl, HR, HB⟩ := hrel
          have hji0 : (0 : Int) ≤ (j : Int) := Int.natCast_nonneg _
          by_cases hjt : j < k
          · have hji1 : (j : Int) < (k : Int) := by omega
            obtain ⟨b', o', e', -, -, hb', q1⟩ := KEY.out j (by omega)
            cases e'
            rw [← (B2.out.trans (HB.out.mono B2.out.size)).cell (p := ⟨b, o + j, none⟩) hb'] at q1
            obtain ⟨Y, hY, hY7⟩ := HNT.out j (by omega)
            have HIj := Lib.hid (HIk.out j hjt)
            rw [hY] at q1 HIj
            have hand : bits .and .i64 (X : Int) (Y : Int) = ((X &&& Y : Nat) : Int) := bits_and_nat X Y (by omega) (by omega)
            have hz : X &&& Y < 128 := Nat.lt_of_le_of_lt Nat.and_le_left hX7
            have e : andI (X : Int) (Y : Int) = X &&& Y := by unfold andI; rw [Int.toNat_natCast, Int.toNat_natCast]
            rw [e] at HIj
            clear hY e
            generalize X &&& Y = Z at *
            have KCZ := Lib.hid (fun W => KC.out Z hz W)
            have hXr := X2.out.all HB.out
            have c0 := hXr.cell 0
            have c2 := hXr.cell 2
            simp only [List.getElem?_cons_zero, List.getElem?_cons_succ] at c0 c2
            clear hXr
            generalize pop Z = P at *
            have hZi : (Z : Int) < 128 := by omega
            by_cases hp : (P : Int) < tt
            · have HR1 : Hid (R = tellAt tt l k (j + 1)) := Lib.hid (by rw [HR.out, HIj.out, decide_eq_true hp]; rfl)
              have hpn : ¬ tt ≤ (P : Int) := by omega
              clear HR HIj
              go_wp2
              have hXw := Lib.hid (fun W' (hW : Below wr.heap.size wr W') => (X2.out.all HB.out).all hW)
              refine regionL (fun W' => Below wr.heap.size wr W') [] (by kernel_rfl) (Below.refl _ _).drew (fun hHeld => ?_)
              refine takeA (i := 0) (v := .int .i64 X) 28 rfl rfl (by kernel_rfl) (by kernel_rfl) (by kernel_rfl) (by kernel_rfl) (fun _ _ _ h => h) (Or.inl ⟨by rfl, by intro W hSw; go_simp⟩) hHeld ?_
              simp only [Act.put, List.setIfInBounds_toArray, List.set_cons_zero, List.set_cons_succ]
              refine takeA (i := 1) (v := .int .i64 Y) 29 rfl rfl (by kernel_rfl) (by kernel_rfl) (by kernel_rfl) (by kernel_rfl) (fun _ _ _ h => h) (Or.inl ⟨by rfl, by intro W hSw; go_simp⟩) hHeld ?_
              simp only [Act.put, List.setIfInBounds_toArray, List.set_cons_zero, List.set_cons_succ]
              refine takeA (i := 2) (v := .int .i64 Z) 30 rfl rfl (by kernel_rfl) (by kernel_rfl) (by kernel_rfl) (by kernel_rfl) (fun _ _ _ h => h) (Or.inl ⟨by rfl, by intro W hSw; go_simp⟩) hHeld ?_
              simp only [Act.put, List.setIfInBounds_toArray, List.set_cons_zero, List.set_cons_succ]
              refine takeA (i := 4) (v := .pointer (some ⟨w.heap.size, 0, none⟩)) 32 rfl rfl (by kernel_rfl) (by kernel_rfl) (by kernel_rfl) (by kernel_rfl) (fun _ _ _ h => h) (Or.inl ⟨by rfl, by intro W hSw; go_simp⟩) hHeld ?_
              simp only [Act.put, List.setIfInBounds_toArray, List.set_cons_zero, List.set_cons_succ]
              refine takeA (i := 5) (v := .int .i64 da) 33 rfl rfl (by kernel_rfl) (by kernel_rfl) (by kernel_rfl) (by kernel_rfl) (fun _ _ _ h => h) (Or.inl ⟨by rfl, by intro W hSw; have c0 := (hXw.out _ hSw).cell 0; go_simp⟩) hHeld ?_
              simp only [Act.put, List.setIfInBounds_toArray, List.set_cons_zero, List.set_cons_succ]
              refine takeA (i := 6) (v := .pointer (some ⟨w.heap.size, 2, none⟩)) 34 rfl rfl (by kernel_rfl) (by kernel_rfl) (by kernel_rfl) (by kernel_rfl) (fun _ _ _ h => h) (Or.inl ⟨by rfl, by intro W hSw; go_simp⟩) hHeld ?_
              simp only [Act.put, List.setIfInBounds_toArray, List.set_cons_zero, List.set_cons_succ]
              refine takeA (i := 7) (v := .int .i64 dc) 35 rfl rfl (by kernel_rfl) (by kernel_rfl) (by kernel_rfl) (by kernel_rfl) (fun _ _ _ h => h) (Or.inl ⟨by rfl, by intro W hSw; have c2 := (hXw.out _ hSw).cell 2; go_simp⟩) hHeld ?_
              simp only [Act.put, List.setIfInBounds_toArray, List.set_cons_zero, List.set_cons_succ]
              refine takeA (i := 8) (v := .int .i64 tt) 36 rfl rfl (by kernel_rfl) (by kernel_rfl) (by kernel_rfl) (by kernel_rfl) (fun _ _ _ h => h) (Or.inl ⟨by rfl, by intro W hSw; go_simp⟩) hHeld ?_
              simp only [Act.put, List.setIfInBounds_toArray, List.set_cons_zero, List.set_cons_succ]
              refine onlyL (i := 3) (by kernel_rfl) rfl (by rfl) (fun K hK => ?_)
              go_simp
              refine (KCZ.out _).mono ?_
              rintro e w9 ⟨rfl, rfl⟩
              refine hK.out _ _ (fun _ => hHeld) (fun _ => ?_)
              clear hK K
              try simp only [Act.put, List.setIfInBounds_toArray, List.set_cons_zero, List.set_cons_succ]
              refine takeA (i := 9) (v := .bool false) 37 rfl rfl (by kernel_rfl) (by kernel_rfl) (by kernel_rfl) (by kernel_rfl) (fun _ _ _ h => h) (Or.inl ⟨by rfl, by intro W hSw; go_simp⟩) hHeld ?_
              simp only [Act.put, List.setIfInBounds_toArray, List.set_cons_zero, List.set_cons_succ]
              refine doneL (by kernel_rfl) ?_ _
              have HB9 := Lib.hid (HB.out.trans (hHeld.mono HB.out.size))
              clear hHeld hXw c0 c2
              generalize wr.drew = w9 at *
              go_wp2
              go_roundw
              case rel => exact ⟨j + 1, by omega, by go_num, HR1, HB9⟩
              case measure => simp [intOf] <;> omega
            · have HF : Hid (R = false) := Lib.hid (by rw [HR.out, HIj.out, decide_eq_false hp]; rfl)
              have hpy : tt ≤ (P : Int) := by omega
              clear HR HIj hp
              go_wp2
              have hXw := Lib.hid (fun W' (hW : Below wr.heap.size wr W') => (X2.out.all HB.out).all hW)
              refine regionL (fun W' => Below wr.heap.size wr W') [] (by kernel_rfl) (Below.refl _ _).drew (fun hHeld => ?_)
              refine takeA (i := 0) (v := .int .i64 X) 28 rfl rfl (by kernel_rfl) (by kernel_rfl) (by kernel_rfl) (by kernel_rfl) (fun _ _ _ h => h) (Or.inl ⟨by rfl, by intro W hSw; go_simp⟩) hHeld ?_
              simp only [Act.put, List.setIfInBounds_toArray, List.set_cons_zero, List.set_cons_succ]
              refine takeA (i := 1) (v := .int .i64 Y) 29 rfl rfl (by kernel_rfl) (by kernel_rfl) (by kernel_rfl) (by kernel_rfl) (fun _ _ _ h => h) (Or.inl ⟨by rfl, by intro W hSw; go_simp⟩) hHeld ?_
              simp only [Act.put, List.setIfInBounds_toArray, List.set_cons_zero, List.set_cons_succ]
              refine takeA (i := 2) (v := .int .i64 Z) 30 rfl rfl (by kernel_rfl) (by kernel_rfl) (by kernel_rfl) (by kernel_rfl) (fun _ _ _ h => h) (Or.inl ⟨by rfl, by intro W hSw; go_simp⟩) hHeld ?_
              simp only [Act.put, List.setIfInBounds_toArray, List.set_cons_zero, List.set_cons_succ]
              refine takeA (i := 4) (v := .pointer (some ⟨w.heap.size, 0, none⟩)) 32 rfl rfl (by kernel_rfl) (by kernel_rfl) (by kernel_rfl) (by kernel_rfl) (fun _ _ _ h => h) (Or.inl ⟨by rfl, by intro W hSw; go_simp⟩) hHeld ?_
              simp only [Act.put, List.setIfInBounds_toArray, List.set_cons_zero, List.set_cons_succ]
              refine takeA (i := 5) (v := .int .i64 da) 33 rfl rfl (by kernel_rfl) (by kernel_rfl) (by kernel_rfl) (by kernel_rfl) (fun _ _ _ h => h) (Or.inl ⟨by rfl, by intro W hSw; have c0 := (hXw.out _ hSw).cell 0; go_simp⟩) hHeld ?_
              simp only [Act.put, List.setIfInBounds_toArray, List.set_cons_zero, List.set_cons_succ]
              refine takeA (i := 6) (v := .pointer (some ⟨w.heap.size, 2, none⟩)) 34 rfl rfl (by kernel_rfl) (by kernel_rfl) (by kernel_rfl) (by kernel_rfl) (fun _ _ _ h => h) (Or.inl ⟨by rfl, by intro W hSw; go_simp⟩) hHeld ?_
              simp only [Act.put, List.setIfInBounds_toArray, List.set_cons_zero, List.set_cons_succ]
              refine takeA (i := 7) (v := .int .i64 dc) 35 rfl rfl (by kernel_rfl) (by kernel_rfl) (by kernel_rfl) (by kernel_rfl) (fun _ _ _ h => h) (Or.inl ⟨by rfl, by intro W hSw; have c2 := (hXw.out _ hSw).cell 2; go_simp⟩) hHeld ?_
              simp only [Act.put, List.setIfInBounds_toArray, List.set_cons_zero, List.set_cons_succ]
              refine takeA (i := 8) (v := .int .i64 tt) 36 rfl rfl (by kernel_rfl) (by kernel_rfl) (by kernel_rfl) (by kernel_rfl) (fun _ _ _ h => h) (Or.inl ⟨by rfl, by intro W hSw; go_simp⟩) hHeld ?_
              simp only [Act.put, List.setIfInBounds_toArray, List.set_cons_zero, List.set_cons_succ]
              refine onlyL (i := 3) (by kernel_rfl) rfl (by rfl) (fun K hK => ?_)
              go_simp
              refine (KCZ.out _).mono ?_
              rintro e w9 ⟨rfl, rfl⟩
              refine hK.out _ _ (fun _ => hHeld) (fun _ => ?_)
              clear hK K
              try simp only [Act.put, List.setIfInBounds_toArray, List.set_cons_zero, List.set_cons_succ]
              refine takeA (i := 9) (v := .bool true) 37 rfl rfl (by kernel_rfl) (by kernel_rfl) (by kernel_rfl) (by kernel_rfl) (fun _ _ _ h => h) (Or.inl ⟨by rfl, by intro W hSw; go_simp⟩) hHeld ?_
              simp only [Act.put, List.setIfInBounds_toArray, List.set_cons_zero, List.set_cons_succ]
              refine doneL (by kernel_rfl) ?_ _
              have HB9 := Lib.hid (HB.out.trans (hHeld.mono HB.out.size))
              clear hHeld hXw c0 c2
              generalize wr.drew = w9 at *
              go_wp2
              go_ret
              exact ⟨by rw [HF.out]; rfl, B2.out.trans (HB9.out.mono B2.out.size)⟩
          · obtain ⟨j', hj'⟩ : ∃ y, y = j := ⟨_, rfl⟩
            subst hj'
            have HR1 : Hid (R = tellL tt (l.take (k + 1)) (l.drop (k + 1))) := Lib.hid (by rw [HR.out, show j' = k by omega, HLast.out])
            have hjn : ¬ (j' : Int) < (k : Int) := by omega
            clear HR
            go_wp2
            go_roundw
            case rel => exact ⟨k + 1, by omega, by go_num, HR1, HB⟩
            case measure => simp [intOf] <;> omega
      · have HF : Hid (R = true) := Lib.hid (by rw [HR.out, HEnd.out k hlt])
        have hnl : ¬ (k : Int) < (l.length : Int) := by omega
        go_wp2
        go_ret
        exact ⟨by rw [HF.out]; rfl, B2.out.trans (HB.out.mono B2.out.size)⟩
end Go.Proofs.Yteahjnobnbafiaa
