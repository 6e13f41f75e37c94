/-
  spec.l09Spread: the numbers of steps from a world. Condition: the model is valid, the world is one of its own.
-/
import Derived.Test.YthjfanhhindjlaaGreatBfs
import Derived.Test.YthjfanhhindjlaaGreatWks
namespace Go.Proofs.YthjfanhhindjlaaGreat
open Go.RowKit Go.WideShapes
open Go Go.Deep
set_option linter.unusedSimpArgs false

/-- has world j been found while the first k agents were asked? -/
def hitK (m : Md) (o : List Int) (v j k : Nat) : Bool := decide (o.getD j 0 < 0) && near m.blocks k v j
theorem hitK_succ (m : Md) (o : List Int) (v j k : Nat) : hitK m o v j (k + 1) = (hitK m o v j k || (decide (o.getD j 0 < 0) && ((m.blocks.getD k []).getD v 0 == (m.blocks.getD k []).getD j 0))) := by
  unfold hitK; rw [near_succ]; cases decide (o.getD j 0 < 0) <;> rfl
def upO (o : List Int) (j : Nat) (x : Int) : Bool → List Int
  | true => o.set j x
  | false => o
def upQ (q : List Nat) (j : Nat) : Bool → List Nat
  | true => q ++ [j]
  | false => q
theorem ints_setI (l : List Int) (j : Nat) (x : Int) : (ints l).set j (.int .i64 x) = ints (l.set j x) := by unfold ints; rw [List.map_set]
theorem repI_succ (k : Nat) (x : Int) : List.replicate (k + 1) x = List.replicate k x ++ [x] := List.replicate_succ'
theorem numsD {l : List Nat} {k : Nat} (h : k < l.length) : (nums l).getD k 0 = ((l.getD k 0 : Nat) : Int) := by rw [nums_getD h, List.getD_eq_getElem?_getD, List.getElem?_eq_getElem h]; rfl
/-- the row of an owned list that is not empty -/
theorem own_open {w : World} {base n : Nat} {e : TypeId} {v : Value} {xs : List Value} (h : w.ownsRow base e 1 v n xs) (h0 : 0 < n) : ∃ g cap, v = .slice (some ⟨g, 0, none⟩) n cap ∧ n ≤ cap ∧ cap ≤ maxLen ∧ base ≤ g ∧ g < w.heap.size := by
  rcases h.2 with ⟨_, h1⟩ | ⟨g, cap, cur, rfl, hb, hg, h1, h2, _⟩
  · omega
  · exact ⟨g, cap, rfl, h1, h2, hb, (Array.getElem?_eq_some_iff.1 hg).1⟩

set_option maxRecDepth 100000 in
set_option maxHeartbeats 64000000 in
theorem specSpread_any (lo hi : Nat) (v : Value) (m : Md) (u : Nat) (w : World) (hr : Mv lo hi w v m) (hm : mdOk m = true) (hu : u < m.facts.length) :
    Calls Tryz.prog 32 #[v, .int .i64 u] w (IntsAns w (spreadR m u)) := by
  obtain ⟨hn1, hn2, p3, p4, p5, -, -, -⟩ := mdOk_parts hm
  have HLN := Lib.hid (fun k hk => (p5 k hk).1)
  have HST := Lib.hid (bfs_start hm hu)
  have HADD := Lib.hid (fun a j o q h h1 h2 h3 h4 => Bfs.add (u := u) (at' := a) (j := j) (o := o) (q := q) hm hu h h1 h2 h3 h4)
  have HSK := Lib.hid (fun a j o q h h1 => Bfs.skip (m := m) (u := u) (at' := a) (j := j) (o := o) (q := q) h h1)
  have HNX := Lib.hid (fun a j o q h h1 h2 => Bfs.next (m := m) (u := u) (at' := a) (j := j) (o := o) (q := q) h h1 h2)
  have HEN := Lib.hid (fun a j o q h h1 => Bfs.end_ (m := m) (u := u) (at' := a) (j := j) (o := o) (q := q) h h1)
  have HQL := Lib.hid (fun a j o q h => Bfs.qlen (m := m) (u := u) (at' := a) (j := j) (o := o) (q := q) h)
  have HLE := Lib.hid (fun a j o q h => (Bfs.len (m := m) (u := u) (at' := a) (j := j) (o := o) (q := q) h))
  have HDI : Hid (∀ a j o q, Bfs m u a j o q → a < q.length → q.getD a 0 < m.facts.length ∧ ∃ d : Nat, o.getD (q.getD a 0) 0 = (d : Int) ∧ d < 16) := Lib.hid (fun a j o q h ha => by
    refine ⟨h.inq _ (getD_mem' ha), ?_⟩
    obtain ⟨d, e, hd⟩ := h.dist _ (getD_mem' ha)
    have := (leastK_some.1 hd).1
    exact ⟨d, e, by omega⟩)
  have HNM : Hid (∀ i j, nearM m i j = near m.blocks m.blocks.length i j) := Lib.hid (fun _ _ => rfl)
  have HHS := Lib.hid (fun o v j k => hitK_succ m o v j k)
  have HH0 : Hid (∀ o v j, hitK m o v j 0 = false) := Lib.hid (fun o v j => by unfold hitK near; simp)
  have HHE : Hid (∀ o v j, hitK m o v j m.blocks.length = (decide (o.getD j 0 < 0) && nearM m v j)) := Lib.hid (fun _ _ _ => rfl)
  generalize spreadR m u = R at *
  obtain ⟨fv, bv, rfl, hf, hb⟩ := hr
  obtain ⟨fa, fc, rfl⟩ := hf.form
  obtain ⟨b, o, bc, rfl, q1, r1, hrow⟩ := hb.kept p3
  have HRW := Lib.hid hrow
  unfold maxLen at r1
  have HRP := Lib.hid (fun k => repI_succ k (-1))
  unfold IntsAns
  generalize hnn : m.facts.length = n at *
  generalize m.actual = act at *
  generalize han : m.blocks.length = an at *
  clear hf hb hm p5 hrow han hnn
  have u0 : (0 : Int) ≤ (u : Int) := Int.natCast_nonneg _
  have un : (u : Int) < (n : Int) := by omega
  go_enter Tryz.func32, Tryz.ntmps32
  go_wp2
  have X1 := Lib.hid (Mcell.new (w := w) (T := 31) (b := w.heap.size) (fv := .slice fa n fc) (bv := .slice (some ⟨b, o, none⟩) an bc) (n := act) rfl)
  have B1 : Hid (Below w.heap.size w (w.alloc (.cells #[.slice fa n fc, .slice (some ⟨b, o, none⟩) an bc, .int .i64 act] 31))) := Lib.hid (by go_grown)
  have hz1 : (w.alloc (.cells #[.slice fa n fc, .slice (some ⟨b, o, none⟩) an bc, .int .i64 act] 31)).heap.size = w.heap.size + 1 := by simp
  generalize w.alloc (.cells #[.slice fa n fc, .slice (some ⟨b, o, none⟩) an bc, .int .i64 act] 31) = w1 at *
  have hlt1 := X1.out.lt
  have sb1 : w.heap.size ≤ w1.heap.size := B1.out.size
  rw [← hz1]
  clear hz1
  go_loopw [5, 15] (fun lv iv wr => ∃ (k : Nat) (lv' : Value), k ≤ n ∧ iv = .int .i64 k ∧ lv' = lv ∧ Hid (wr.ownsRow w1.heap.size 3 1 lv' k (ints (List.replicate k (-1)))) ∧ Hid (Below w1.heap.size w1 wr)) (fun _ iv _ => n - (intOf iv).toNat)
  case atStart => exact ⟨0, _, Nat.zero_le _, rfl, rfl, Lib.hid (World.ownsRow_lit w1 #[] 0 (Nat.le_refl _) (Nat.zero_le _) rfl), Lib.hid (by go_grown)⟩
  case round =>
    obtain ⟨k, lv, hk, rfl, rfl, LR, BR⟩ := hrel
    by_cases hlt : k < n
    · have hszr : w1.heap.size ≤ wr.heap.size := BR.out.size
      have HLB : Hid (∀ q, lv.ownBlock = some q → w1.heap.size ≤ q) := Lib.hid (fun q hq => (LR.out.lt q hq).1)
      go_wp2_with (at_builtin; refine wpList_pushL rfl (.tmp 17) (.tmp 18) 22 19 rfl rfl 3 (.int .i64 0) 8 Tryz.underlying22 Tryz.infoI rfl w1.heap.size (.int .i64 (-1)) lv k (ints (List.replicate k (-1))) LR.out rfl wr.heap.size rfl rfl rfl (by unfold maxLen; omega) (by omega) hszr ?_; intro v6 w6 hown hg; have L6 := Lib.hid hown; have B6 : Hid (Below w1.heap.size w1 w6) := Lib.hid (BR.out.trans (hg.below hszr HLB.out)); clear hown hg)
      go_roundw
      case rel =>
        refine ⟨k + 1, _, by omega, by go_num, rfl, Lib.hid ?_, B6⟩
        rw [HRP.out, ints_app]
        exact L6.out
      case measure => simp [intOf]; omega
    · obtain ⟨w3, hw3⟩ : ∃ w3 : World, w3 = wr := ⟨_, rfl⟩
      subst hw3
      obtain rfl : k = n := by omega
      obtain ⟨g, oc, rfl, ho1, ho2, ho3, ho4⟩ := own_open LR.out (by omega)
      unfold maxLen at ho2
      have hx : w3.cell? ⟨g, u, none⟩ = some (.int .i64 (-1)) := by
        rw [LR.out.cellAt u (by omega), ints_at (by simpa using hu)]
        rw [List.getD_eq_getElem?_getD, List.getElem?_replicate, if_pos hu]; rfl
      have hfr : w3.frozen? ⟨g, u, none⟩ = false := LR.out.frozenAt u
      have HS0 := Lib.hid (LR.out.stored u (.int .i64 0))
      rw [ints_setI] at HS0
      have X3 : Hid (Mcell w3 w.heap.size (.slice fa k fc) (.slice (some ⟨b, o, none⟩) an bc) act) := Lib.hid (X1.out.of_block (BR.out.block _ hlt1))
      have B3 : Hid (Below w.heap.size w w3) := Lib.hid (B1.out.trans (BR.out.mono sb1))
      have hz3 : w1.heap.size ≤ w3.heap.size := BR.out.size
      clear LR X1 B1 BR
      go_wp2
      clear hx hfr
      have Q4 : Hid ((w3.setCell ⟨g, u, none⟩ (.int .i64 0) |>.alloc (.cells #[.int .i64 u] 3)).ownsRow w3.heap.size 3 1 (.slice (some ⟨w3.heap.size, 0, none⟩) 1 1) 1 (ints (nums [u]))) := Lib.hid (by
        have h := World.ownsRow_lit (base := w3.heap.size) (e := 3) (size := 1) (w3.setCell ⟨g, u, none⟩ (.int .i64 0)) #[.int .i64 u] 1 (by simp) (by unfold maxLen; omega) rfl
        rw [World.size_setCell] at h
        exact h)
      have O4 : Hid ((w3.setCell ⟨g, u, none⟩ (.int .i64 0) |>.alloc (.cells #[.int .i64 u] 3)).ownsRow w1.heap.size 3 1 (.slice (some ⟨g, 0, none⟩) k oc) k (ints ((List.replicate k (-1)).set u 0))) := Lib.hid (HS0.out.1.alloc _)
      have X4 : Hid (Mcell (w3.setCell ⟨g, u, none⟩ (.int .i64 0) |>.alloc (.cells #[.int .i64 u] 3)) w.heap.size (.slice fa k fc) (.slice (some ⟨b, o, none⟩) an bc) act) := Lib.hid ((X3.out.other (by omega) _ _).alloc _)
      have B4 : Hid (Below w.heap.size w (w3.setCell ⟨g, u, none⟩ (.int .i64 0) |>.alloc (.cells #[.int .i64 u] 3))) := Lib.hid ((B3.out.setCell (by show _ ≤ g; omega) _).alloc (by simp; omega) _)
      have hz4 : (w3.setCell ⟨g, u, none⟩ (.int .i64 0) |>.alloc (.cells #[.int .i64 u] 3)).heap.size = w3.heap.size + 1 := by simp
      generalize (w3.setCell ⟨g, u, none⟩ (.int .i64 0) |>.alloc (.cells #[.int .i64 u] 3)) = w4 at *
      have Z4 : Hid (w3.heap.size ≤ w4.heap.size) := Lib.hid (by omega)
      clear X3 B3 HS0 hz4 HRP
      go_loopw [6, 7] (fun qv av wr => ∃ (a : Nat) (qv' : Value) (oo : List Int) (q : List Nat), av = .int .i64 a ∧ qv' = qv ∧ Hid (Bfs m u a 0 oo q) ∧ Hid (wr.ownsRow w1.heap.size 3 1 (.slice (some ⟨g, 0, none⟩) k oc) k (ints oo)) ∧ Hid (wr.ownsRow w3.heap.size 3 1 qv' q.length (ints (nums q))) ∧ Hid (Mcell wr w.heap.size (.slice fa k fc) (.slice (some ⟨b, o, none⟩) an bc) act) ∧ Hid (Below w.heap.size w wr) ∧ Hid (w3.heap.size ≤ wr.heap.size)) (fun _ av _ => k - (intOf av).toNat)
      case atStart => exact ⟨0, _, _, _, rfl, rfl, HST, O4, Q4, X4, B4, Z4⟩
      case round =>
        clear O4 Q4 X4 B4 Z4 HST
        obtain ⟨a, qv, oo, q, rfl, rfl, HB, OR, QR, XR, BR, ZR⟩ := hrel
        have hq16 := HQL.out _ _ _ _ HB.out
        obtain ⟨qb, qc, rfl, hq1, hq2, hq3, hq4⟩ := own_open QR.out (by
          have := HB.out.first
          rcases q with _ | ⟨x, t⟩
          · cases this
          · simp)
        unfold maxLen at hq2
        by_cases hat : a < q.length
        · obtain ⟨hvn, d, hd, hd16⟩ := HDI.out _ _ _ _ HB.out hat
          have a0 : (0 : Int) ≤ (a : Int) := Int.natCast_nonneg _
          have aq : (a : Int) < (q.length : Int) := by omega
          obtain ⟨wo, rfl⟩ : ∃ wo : World, wo = wr := ⟨_, rfl⟩
          go_wp2
          go_loopw [6, 34] (fun qv av wr => ∃ (j : Nat) (qv' : Value) (oo : List Int) (q : List Nat), j ≤ k ∧ av = .int .i64 j ∧ qv' = qv ∧ a < q.length ∧ Hid (Bfs m u a j oo q) ∧ Hid (wr.ownsRow w1.heap.size 3 1 (.slice (some ⟨g, 0, none⟩) k oc) k (ints oo)) ∧ Hid (wr.ownsRow w3.heap.size 3 1 qv' q.length (ints (nums q))) ∧ Hid (Mcell wr w.heap.size (.slice fa k fc) (.slice (some ⟨b, o, none⟩) an bc) act) ∧ Hid (Below w.heap.size w wr) ∧ Hid (w3.heap.size ≤ wr.heap.size)) (fun _ av _ => k - (intOf av).toNat)
          case atStart => exact ⟨0, _, _, _, Nat.zero_le _, rfl, rfl, hat, HB, OR, QR, XR, BR, ZR⟩
          case round =>
            clear HB OR QR XR BR ZR hd hvn hd16 hq1 hq2 hq3 hq4 hq16 hat aq
            obtain ⟨j, qv, oo, q, hj, rfl, rfl, hat, HB, OR, QR, XR, BR, ZR⟩ := hrel
            by_cases hjn : j < k
            · obtain ⟨hvn, d, hd, hd16⟩ := HDI.out _ _ _ _ HB.out hat
              have hq16 := HQL.out _ _ _ _ HB.out
              have hol := HLE.out _ _ _ _ HB.out
              obtain ⟨vv, hvv⟩ : ∃ vv, vv = q.getD a 0 := ⟨_, rfl⟩
              rw [← hvv] at hvn hd
              have HADj := Lib.hid (fun h1 h2 => HADD.out a j oo q HB.out hat hjn h1 h2)
              have HSKj := Lib.hid (fun h1 => HSK.out a j oo q HB.out h1)
              rw [← hvv, hd] at HADj
              have HHEj := Lib.hid (HHE.out oo vv j)
              have HSV := Lib.hid (HSKj.out)
              rw [← hvv] at HSV
              have HHSj := Lib.hid (HHS.out oo vv j)
              obtain ⟨T, hT⟩ : ∃ T, T = hitK m oo vv j := ⟨_, rfl⟩
              rw [← hT] at HHEj HHSj
              have HT0 : Hid (T 0 = false) := Lib.hid (by rw [hT]; exact HH0.out _ _ _)
              clear hT HSKj
              have hqa : ∀ W : World, ∀ bb cc n, W.ownsRow w3.heap.size 3 1 (.slice (some ⟨bb, 0, none⟩) n cc) n (ints (nums q)) → n = q.length → W.cell? ⟨bb, a, none⟩ = some (.int .i64 (vv : Int)) := fun W bb cc n h e => by
                subst e
                rw [h.cellAt a (by omega), ints_at (by rw [nums_len]; exact hat), numsD hat, ← hvv]
              have HQA := Lib.hid hqa
              clear hqa hvv
              obtain ⟨c0, c1, c2, -, -, -⟩ := XR.out
              have j0 : (0 : Int) ≤ (j : Int) := Int.natCast_nonneg _
              have jn : (j : Int) < (k : Int) := by omega
              go_wp2
              clear c0 c1 c2
              go_loopw [6, 40] (fun qv kv wr => ∃ (i : Nat) (qv' : Value), i ≤ an ∧ kv = .int .i64 i ∧ qv' = qv ∧ Hid (wr.ownsRow w1.heap.size 3 1 (.slice (some ⟨g, 0, none⟩) k oc) k (ints (upO oo j ((d : Int) + 1) (T i)))) ∧ Hid (wr.ownsRow w3.heap.size 3 1 qv' (upQ q j (T i)).length (ints (nums (upQ q j (T i))))) ∧ Hid (Mcell wr w.heap.size (.slice fa k fc) (.slice (some ⟨b, o, none⟩) an bc) act) ∧ Hid (Below w.heap.size w wr) ∧ Hid (w3.heap.size ≤ wr.heap.size)) (fun _ kv _ => an - (intOf kv).toNat)
              case atStart => exact ⟨0, _, Nat.zero_le _, rfl, rfl, by rw [HT0.out]; exact OR, by rw [HT0.out]; exact QR, XR, BR, ZR⟩
              case round =>
                clear OR QR XR BR ZR
                obtain ⟨i, qv, hi, rfl, rfl, OR, QR, XR, BR, ZR⟩ := hrel
                by_cases hin : i < an
                · obtain ⟨ur, cu, hur⟩ := HRW.out _ BR.out i hin
                  obtain ⟨ub, uo, uc, rfl, u1, u2, u3⟩ := hur.kept (by rw [HLN.out i hin]; omega)
                  rw [HLN.out i hin] at u1 u3 cu
                  unfold maxLen at u2
                  have cj := u3 wr (Below.refl _ _) j hjn
                  have cv := u3 wr (Below.refl _ _) vv hvn
                  have HSi := Lib.hid (HHSj.out i)
                  obtain ⟨yj, hyj⟩ : ∃ y, y = (m.blocks.getD i []).getD j 0 := ⟨_, rfl⟩
                  obtain ⟨yv, hyv⟩ : ∃ y, y = (m.blocks.getD i []).getD vv 0 := ⟨_, rfl⟩
                  rw [← hyj] at cj HSi
                  rw [← hyv] at cv HSi
                  clear hyj hyv hur u3
                  have i0 : (0 : Int) ≤ (i : Int) := Int.natCast_nonneg _
                  have in' : (i : Int) < (an : Int) := by omega
                  have v0 : (0 : Int) ≤ (vv : Int) := Int.natCast_nonneg _
                  have vn : (vv : Int) < (k : Int) := by omega
                  have d0 : (0 : Int) ≤ (d : Int) := Int.natCast_nonneg _
                  have d16 : (d : Int) < 16 := by omega
                  have oj := OR.out.cellAt j (by omega)
                  have ov := OR.out.cellAt vv (by omega)
                  have hfr := OR.out.frozenAt j
                  obtain ⟨t, ht⟩ : ∃ t, t = T i := ⟨_, rfl⟩
                  rw [← ht] at OR QR HSi oj ov
                  have HTT := Lib.hid ht
                  clear ht
                  cases t with
                  | true =>
                    rw [Bool.true_or] at HSi
                    have oj' : wr.cell? ⟨g, j, none⟩ = some (.int .i64 ((d : Int) + 1)) := by
                      rw [oj, ints_at (by show j < (oo.set j _).length; rw [List.length_set]; omega)]
                      show some (Value.int .i64 ((oo.set j ((d : Int) + 1)).getD j 0)) = _
                      rw [set_getD (by omega), if_pos rfl]
                    have g1 : decide ((d : Int) + 1 < 0) = false := decide_eq_false (by omega)
                    clear oj ov hfr
                    go_wp2
                    go_quiet (fail)
                    go_wp2
                    clear oj' cj cv cu
                    go_roundw
                    case rel => exact ⟨i + 1, _, by omega, by go_num, rfl, by rw [HSi.out]; exact Lib.hid (own_keeps OR.out fun _ _ => rfl), by rw [HSi.out]; exact Lib.hid (own_keeps QR.out fun _ _ => rfl), Lib.hid (XR.out.drewN _), Lib.hid (below_drewN' BR.out _), ZR⟩
                    case measure => simp [intOf]; omega
                  | false =>
                    rw [Bool.false_or] at HSi
                    have oj' : wr.cell? ⟨g, j, none⟩ = some (.int .i64 (oo.getD j 0)) := by
                      rw [oj]; exact ints_at (l := oo) (by rw [hol]; exact hjn)
                    have ov' : wr.cell? ⟨g, vv, none⟩ = some (.int .i64 (d : Int)) := by
                      rw [ov]; exact (ints_at (l := oo) (by rw [hol]; exact hvn)).trans (by rw [hd])
                    clear oj ov
                    obtain ⟨x, hx⟩ : ∃ x, x = oo.getD j 0 := ⟨_, rfl⟩
                    rw [← hx] at oj' HSi
                    rw [← hx] at HHEj HADj HSV
                    clear hx
                    rcases Int.lt_or_le x 0 with hx0 | hx0
                    · have g1 : decide (x < 0) = true := decide_eq_true hx0
                      rw [g1, Bool.true_and] at HSi
                      have QR' := QR.out
                      obtain ⟨qb, qc, rfl, hq1, hq2, hq3, hq4⟩ := own_open QR' (by show 0 < q.length; omega)
                      have cq := HQA.out wr qb qc _ QR' rfl
                      unfold maxLen at hq2
                      have a0 : (0 : Int) ≤ (a : Int) := Int.natCast_nonneg _
                      have aq : (a : Int) < (((upQ q j false).length : Nat) : Int) := by show (a : Int) < ((q.length : Nat) : Int); omega
                      have hszr : w3.heap.size ≤ wr.heap.size := ZR.out
                      have HLQ : Hid ((upQ q j false).length = q.length) := Lib.hid rfl
                      rw [HLQ.out] at aq hq1 ⊢
                      obtain ⟨s, hs⟩ : ∃ s, s = (yv == yj) := ⟨_, rfl⟩
                      rw [← hs] at HSi
                      have d5 : (yj == yv) = s := by rw [hs]; exact Bool.eq_iff_iff.2 ⟨fun h => by rw [beq_iff_eq] at *; exact h.symm, fun h => by rw [beq_iff_eq] at *; exact h.symm⟩
                      clear hs QR'
                      cases s with
                      | false =>
                        go_wp2
                        go_quiet (fail)
                        go_wp2
                        clear oj' ov' cj cv cu cq g1 d5 hfr
                        go_roundw
                        case rel => exact ⟨i + 1, _, by omega, by go_num, rfl, by rw [HSi.out]; exact Lib.hid (own_keeps OR.out fun _ _ => rfl), by rw [HSi.out]; exact Lib.hid (own_keeps QR.out fun _ _ => rfl), Lib.hid (XR.out.drewN _), Lib.hid (below_drewN' BR.out _), ZR⟩
                        case measure => simp [intOf]; omega
                      | true =>
                        have f1 : IntKind.i64.wrap ((d : Int) + 1) = (d : Int) + 1 := IntWalk.i64_in _ (by omega)
                        go_wp2
                        go_quiet (fail)
                        have OD : (wr.drewN nq).ownsRow w1.heap.size 3 1 (.slice (some ⟨g, 0, none⟩) k oc) k (ints oo) := own_keeps OR.out fun _ _ => rfl
                        have QD : (wr.drewN nq).ownsRow w3.heap.size 3 1 (.slice (some ⟨qb, 0, none⟩) q.length qc) q.length (ints (nums q)) := own_keeps QR.out fun _ _ => rfl
                        obtain ⟨OS, GS⟩ := OD.stored j (.int .i64 ((d : Int) + 1))
                        rw [ints_setI] at OS
                        have QS := Lib.hid (QD.kept GS (.inr (fun e => by have e2 : qb = g := Option.some.inj e; omega)))
                        have XS := Lib.hid (Mcell.other (XR.out.drewN nq) (b' := g) (by omega) j (.int .i64 ((d : Int) + 1)))
                        have BS : Hid (Below w.heap.size w ((wr.drewN nq).setCell ⟨g, j, none⟩ (.int .i64 ((d : Int) + 1)))) := Lib.hid ((below_drewN' BR.out nq).setCell (by show _ ≤ g; omega) _)
                        have OSS := Lib.hid OS
                        have zs : Hid (wr.heap.size = ((wr.drewN nq).setCell ⟨g, j, none⟩ (.int .i64 ((d : Int) + 1))).heap.size) := Lib.hid (by simp)
                        clear OD QD OS GS
                        go_wp2_with (at_builtin; refine wpList_pushL rfl (.tmp 74) (.tmp 76) 22 77 rfl rfl 3 (.int .i64 0) 8 Tryz.underlying22 Tryz.infoI rfl w3.heap.size (.int .i64 j) (.slice (some ⟨qb, 0, none⟩) q.length qc) q.length (ints (nums q)) QS.out rfl wr.heap.size rfl zs.out rfl (by unfold maxLen; omega) (by omega) (by rw [← zs.out]; exact hszr) ?_; intro v6 w6 hown hg; have L6 := Lib.hid hown; have X6 := Lib.hid (XS.out.of_block (hg.block XS.out.lt (fun e => by have e2 : qb = w.heap.size := Option.some.inj e; omega))); have O6 := Lib.hid (OSS.out.kept hg.1 (.inr (fun e => by have e2 : g = qb := Option.some.inj e; omega))); have B6 : Hid (Below w.heap.size w w6) := Lib.hid (BS.out.trans (hg.below BS.out.size (fun q' hq => by have e2 : qb = q' := Option.some.inj hq; omega))); have Z6 : Hid (w3.heap.size ≤ w6.heap.size) := Lib.hid (Nat.le_trans (by rw [← zs.out]; exact hszr) hg.size); clear hown hg)
                        clear oj' ov' cj cv cu cq g1 d5 hfr zs
                        go_roundw
                        case rel =>
                          refine ⟨i + 1, _, by omega, by go_num, rfl, by rw [HSi.out]; exact O6, ?_, X6, B6, Z6⟩
                          rw [HSi.out]
                          refine Lib.hid ?_
                          show w6.ownsRow _ _ _ _ (q ++ [j]).length (ints (nums (q ++ [j])))
                          rw [nums_app, ints_app, List.length_append]
                          exact L6.out
                        case measure => simp [intOf]; omega
                    · have g1 : decide (x < 0) = false := decide_eq_false (by omega)
                      rw [g1, Bool.false_and] at HSi
                      clear ov' hfr
                      go_wp2
                      go_quiet (fail)
                      go_wp2
                      clear oj' cj cv cu g1
                      go_roundw
                      case rel => exact ⟨i + 1, _, by omega, by go_num, rfl, by rw [HSi.out]; exact Lib.hid (own_keeps OR.out fun _ _ => rfl), by rw [HSi.out]; exact Lib.hid (own_keeps QR.out fun _ _ => rfl), Lib.hid (XR.out.drewN _), Lib.hid (below_drewN' BR.out _), ZR⟩
                      case measure => simp [intOf]; omega
                · obtain ⟨an', han'⟩ : ∃ y, y = an := ⟨_, rfl⟩
                  have hia : i = an := by omega
                  have HTE : Hid (T i = (decide (oo.getD j 0 < 0) && nearM m vv j)) := Lib.hid (by rw [hia]; exact HHEj.out)
                  have HNEW : Hid (Bfs m u a (j + 1) (upO oo j ((d : Int) + 1) (T i)) (upQ q j (T i)) ∧ a < (upQ q j (T i)).length) := Lib.hid (by
                    cases hT : T i with
                    | true =>
                      have h := HTE.out
                      rw [hT] at h
                      have h2 := h.symm
                      rw [Bool.and_eq_true, decide_eq_true_eq] at h2
                      exact ⟨HADj.out h2.1 h2.2, by show a < (q ++ [j]).length; rw [List.length_append]; omega⟩
                    | false =>
                      have h := HTE.out
                      rw [hT] at h
                      have h2 := h.symm
                      rw [Bool.and_eq_false_iff, decide_eq_false_iff_not] at h2
                      exact ⟨HSV.out (fun _ _ => h2.imp (fun e => by omega) id), hat⟩)
                  clear han' an'
                  go_wp2
                  go_roundw
                  case rel => exact ⟨j + 1, _, _, _, by omega, by go_num, rfl, HNEW.out.2, Lib.hid HNEW.out.1, OR, QR, XR, BR, ZR⟩
                  case measure => simp [intOf]; omega
            · have hjk : k ≤ j := by omega
              have HNEW := Lib.hid (HNX.out _ _ _ _ HB.out hat hjk)
              have hq16 := HQL.out _ _ _ _ HB.out
              go_wp2
              go_roundw
              case rel => exact ⟨a + 1, _, _, _, by go_num, rfl, HNEW, OR, QR, XR, BR, ZR⟩
              case measure => simp [intOf]; omega
        · have HE := Lib.hid (HEN.out _ _ _ _ HB.out (by omega))
          have aq : ((q.length : Nat) : Int) ≤ (a : Int) := by omega
          go_wp2
          go_ret
          exact ⟨_, rfl, by rw [← HE.out]; exact (Ro.of_own OR.out).wide sb1 (Nat.le_refl _), BR.out⟩
end Go.Proofs.YthjfanhhindjlaaGreat
