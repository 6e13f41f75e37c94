/-
  impl.IsSilent: a formula is true in all worlds that are reached. No condition but the readings.
-/
import Derived.Test.YtodjohdbngbpaaaZAnn
import Derived.Test.YtodjohdbngbpaaaZRch
namespace Go.Proofs.Ytodjohdbngbpaaa
open Go.RowKit Go.WideShapes Go.Shelf
open Go Go.Deep
set_option linter.unusedSimpArgs false
attribute [local go_sem] Oper.semAt_some

theorem cm_ownF {β : Type} (B : Nat) (t : TypeId) (f : β → List Value) : Own (fun s W => Cm W B t (f s)) := fun s X Y row hs hg hrow =>
  hs.of_block (hg.block B hs.lt (fun e' => by obtain ⟨o, ho, hc⟩ := hrow B e'.symm; rw [show X.heap[B]? = _ from hs] at ho; cases ho; cases hc))
/-- a formula is true in all worlds that are reached -/
def silentR (m : Md) (xs : List Nd) : Bool := evOk m xs && (lst (reachB m.blocks m.facts.length m.blocks.length m.actual.toNat) 16).all (evP m xs)

set_option maxRecDepth 100000 in
set_option maxHeartbeats 16000000 in
theorem implSilent_any (lo hi : Nat) (v v2 : Value) (m : Md) (xs : List Nd) (w : World) (hr : Mv lo hi w v m) (hhi : hi ≤ w.heap.size) (hr2 : Ns w v2 xs) :
    Calls Try.prog 22 #[v, v2] w fun e w' => e = .returned (.bool (silentR m xs)) ∧ Below w.heap.size w w' := by
  obtain ⟨G, P, hl, hT, hF, hK⟩ := truthIn_gen lo hi v v2 m xs w hr hhi hr2
  have HLG := Lib.hid hl
  have KT := Lib.hid hK
  have HT := Lib.hid hT
  have HF := Lib.hid hF
  clear hl hK hT hF
  obtain ⟨fv, bv, rfl, hf, hb⟩ := hr
  obtain ⟨a2, c2, rfl, -⟩ := hr2.parts
  clear hf hb hr2
  cases hok : evOk m xs with
  | false =>
    have HA : Hid (silentR m xs = false) := Lib.hid (by unfold silentR; rw [hok]; rfl)
    rw [hok] at KT
    clear HT HF hok
    go_enter Try.func22, Try.ntmps22
    go_wp2_with fail
    have X0 : Cm ((w.alloc (.cells #[fv, bv, .int .i64 m.actual] 27)).alloc (.cells #[.bool false] 4)) (w.heap.size + 1) 4 [.bool false] := Cm.new (by simp)
    refine (KT.out _ (by go_grown)).mono ?_
    rintro e w1 ⟨rfl, hb1⟩
    have B1 : Hid (Below w.heap.size w w1) := Lib.hid (Below.trans (by go_grown) (hb1.mono (by simp; omega)))
    have X1 := Lib.hid (X0.all hb1)
    have lt1 : w.heap.size + 1 < w1.heap.size := X1.out.lt
    clear hb1 X0
    have tk1 : True := trivial
    have tk2 : True := trivial
    have tk3 : True := trivial
    have tk4 : True := trivial
    go_wp2_with
      (first
        | (have _t := tk1; clear _t tk1; refine wpList_allocM rfl 60 rfl (ints (gL 0 0 [] [] 0)) Try.allocGrid ?_
           intro w2 hc1 hb1 hs1
           have G1 := Lib.hid hc1
           have X1 := Lib.hid (X1.out.all hb1)
           have B1 := Lib.hid (B1.out.trans (hb1.mono B1.out.size))
           have lt2 : w1.heap.size < w2.heap.size := G1.out.lt
           clear hc1 hb1 hs1)
        | (have _t := tk2; clear _t tk2; refine wpList_allocM rfl 74 rfl (bL (fun _ => false)) Try.allocSet ?_
           intro w3 hc1 hb1 hs1
           have Q1 := Lib.hid hc1
           have X1 := Lib.hid (X1.out.all hb1)
           have G1 := Lib.hid (G1.out.all hb1)
           have B1 := Lib.hid (B1.out.trans (hb1.mono B1.out.size))
           have lt3 : w2.heap.size < w3.heap.size := Q1.out.lt
           clear hc1 hb1 hs1)
        | (have _t := tk3; clear _t tk3; refine wpList_storeM rfl 60 (.tmp 5) (.tmp 13) rfl w1.heap.size 0 rfl (ints G) rfl 60 (ints (gL 0 0 [] [] 0)) G1.out (by rw [HLG.out]; exact Nat.le_refl _) (by rw [HLG.out]; exact Try.sizeGrid) (fun v hv => ints_one hv) ?_
           intro w4 hc3 ha3
           rw [lay'_all (by rw [HLG.out]; rfl)] at hc3
           have G1 := Lib.hid hc3
           have X1 := Lib.hid (ha3.cm X1.out (by omega))
           have Q1 := Lib.hid (ha3.cm Q1.out (by omega))
           have B1 : Hid (Below w.heap.size w w4) := Lib.hid (B1.out.trans (ha3.below (by omega)))
           clear hc3 ha3)
        | (have _t := tk4; clear _t tk4; refine wpList_storeM rfl 74 (.tmp 6) (.tmp 14) rfl w2.heap.size 0 rfl (bL P) rfl 74 _ Q1.out (by rw [bL_len, bL_len]; exact Nat.le_refl _) (by rw [bL_len]; exact Try.sizeSet) (fun v hv => bL_one hv) ?_
           intro w5 hc3 ha3
           rw [lay'_all (by rw [bL_len, bL_len])] at hc3
           have Q1 := Lib.hid hc3
           have X1 := Lib.hid (ha3.cm X1.out (by omega))
           have G1 := Lib.hid (ha3.cm G1.out (by omega))
           have B1 : Hid (Below w.heap.size w w5) := Lib.hid (B1.out.trans (ha3.below (by omega)))
           have xc : w5.cell? ⟨w.heap.size + 1, 0, none⟩ = some (.bool false) := X1.out.cell 0
           have xf := X1.out.frozen 0
           clear hc3 ha3))
    have X6 := Lib.hid (X1.out.set 0 (.bool false))
    have c6 : (w5.setCell ⟨w.heap.size + 1, 0, none⟩ (.bool false)).cell? ⟨w.heap.size + 1, 0, none⟩ = some (.bool false) := X6.out.cell 0
    have B6 : Hid (Below w.heap.size w (w5.setCell ⟨w.heap.size + 1, 0, none⟩ (.bool false))) := Lib.hid (B1.out.setCell (p := ⟨w.heap.size + 1, 0, none⟩) (by simp) _)
    refine bodyPost_ret (v := .bool false) (by simp [results, Try.f22, go_sem, c6]) rfl ?_
    exact ⟨ret_bool HA.out.symm, B6.out⟩
  | true =>
    have HP := ok_len hok
    obtain ⟨-, p2, p3, p4, -, -, p7, p8⟩ := mdOk_parts (evOk_parts hok).1
    obtain ⟨act, hact⟩ := Int.eq_ofNat_of_zero_le p7
    have g66 := (HT.out hok).2.1
    rw [hact] at g66
    have G66 := Lib.hid g66
    have hPe := (HT.out hok).2.2.1
    have hGe := (HT.out hok).2.2.2
    have hal : act < 16 := by omega
    have HA : Hid (silentR m xs = (lst (reachB m.blocks m.facts.length m.blocks.length act) 16).all P) := Lib.hid (by unfold silentR; rw [hok, hPe, hact]; rfl)
    have KR := Lib.hid (fun W => reached_any m.facts.length m.blocks.length m.actual m.facts m.blocks (md_small (evOk_parts hok).1) p2 p3 p4 act (by omega) W)
    rw [show gL m.facts.length m.blocks.length m.facts m.blocks m.actual = G from hGe.symm] at KR
    rw [hok] at KT
    generalize reachB m.blocks m.facts.length m.blocks.length act = Q at *
    clear HT HF hok g66 p2 p3 p4 p7 p8 hact HP hPe hGe
    refine (callsIn_wide (n := 3)).1 ?_
    refine callsIn_of_wp_marks Try.func22 rfl trivial ?_ rfl
    simp only [Try.ntmps22, List.size_toArray, List.length_cons, List.length_nil, Nat.reduceAdd, Nat.reduceSub, Array.replicate_succ, Array.replicate_zero, List.push_toArray, List.append_toArray, List.nil_append, List.cons_append]
    refine wpIn_wide.2 ?_
    go_wp2_with fail
    have X0 : Boxed ((w.alloc (.cells #[fv, bv, .int .i64 m.actual] 27)).alloc (.cells #[.bool false] 4)) (w.heap.size + 1) 4 (.bool false) := by
      have h := Boxed.new (w.alloc (.cells #[fv, bv, .int .i64 m.actual] 27)) 4 (.bool false)
      rwa [World.size_alloc] at h
    refine (KT.out _ (by go_grown)).mono ?_
    rintro e w1 ⟨rfl, hb1⟩
    have B1 : Hid (Below w.heap.size w w1) := Lib.hid (Below.trans (by go_grown) (hb1.mono (by simp; omega)))
    have X1 : Hid (Cm w1 (w.heap.size + 1) 4 [.bool false]) := Lib.hid ((hb1.block _ X0.lt).trans X0)
    have lt1 : w.heap.size + 1 < w1.heap.size := X1.out.lt
    clear hb1 X0
    have tk5 : True := trivial
    have tk6 : True := trivial
    have tk7 : True := trivial
    have tk8 : True := trivial
    have tk9 : True := trivial
    go_wp2_with
      (first
        | (have _t := tk5; clear _t tk5; refine wpList_allocM rfl 60 rfl (ints (gL 0 0 [] [] 0)) Try.allocGrid ?_
           intro w2 hc1 hb1 hs1
           have G1 := Lib.hid hc1
           have X1 := Lib.hid (X1.out.all hb1)
           have B1 := Lib.hid (B1.out.trans (hb1.mono B1.out.size))
           have lt2 : w1.heap.size < w2.heap.size := G1.out.lt
           clear hc1 hb1 hs1)
        | (have _t := tk6; clear _t tk6; refine wpList_allocM rfl 74 rfl (bL (fun _ => false)) Try.allocSet ?_
           intro w3 hc1 hb1 hs1
           have Q1 := Lib.hid hc1
           have X1 := Lib.hid (X1.out.all hb1)
           have G1 := Lib.hid (G1.out.all hb1)
           have B1 := Lib.hid (B1.out.trans (hb1.mono B1.out.size))
           have lt3 : w2.heap.size < w3.heap.size := Q1.out.lt
           clear hc1 hb1 hs1)
        | (have _t := tk7; clear _t tk7; refine wpList_storeM rfl 60 (.tmp 5) (.tmp 13) rfl w1.heap.size 0 rfl (ints G) rfl 60 (ints (gL 0 0 [] [] 0)) G1.out (by rw [HLG.out]; exact Nat.le_refl _) (by rw [HLG.out]; exact Try.sizeGrid) (fun v hv => ints_one hv) ?_
           intro w4 hc3 ha3
           rw [lay'_all (by rw [HLG.out]; rfl)] at hc3
           have G1 := Lib.hid hc3
           have X1 := Lib.hid (ha3.cm X1.out (by omega))
           have Q1 := Lib.hid (ha3.cm Q1.out (by omega))
           have B1 : Hid (Below w.heap.size w w4) := Lib.hid (B1.out.trans (ha3.below (by omega)))
           clear hc3 ha3)
        | (have _t := tk8; clear _t tk8; refine wpList_storeM rfl 74 (.tmp 6) (.tmp 14) rfl w2.heap.size 0 rfl (bL P) rfl 74 _ Q1.out (by rw [bL_len, bL_len]; exact Nat.le_refl _) (by rw [bL_len]; exact Try.sizeSet) (fun v hv => bL_one hv) ?_
           intro w5 hc3 ha3
           rw [lay'_all (by rw [bL_len, bL_len])] at hc3
           have Q1 := Lib.hid hc3
           have X1 := Lib.hid (ha3.cm X1.out (by omega))
           have G1 := Lib.hid (ha3.cm G1.out (by omega))
           have B1 : Hid (Below w.heap.size w w5) := Lib.hid (B1.out.trans (ha3.below (by omega)))
           have lt4 : w2.heap.size < w5.heap.size := Q1.out.lt
           have c66 : w5.cell? ⟨w1.heap.size, 66, none⟩ = some (.int .i64 act) := (G1.out.cell 66).trans G66.out
           clear hc3 ha3)
        | (have _t := tk9; clear _t tk9; refine wpList_loadM rfl 60 _ rfl w1.heap.size 0 rfl 60 (ints G) (ints G) G1.out (fun j _ => by rw [Nat.zero_add]) _ Try.underlying60 rfl (by rw [HLG.out]; exact Try.sizeGrid) ?_))
    clear c66
    refine (KR.out _).mono ?_
    rintro e w6 ⟨rfl, hb6⟩
    have X1 := Lib.hid (X1.out.all hb6)
    have Q1 := Lib.hid (Q1.out.all hb6)
    have B1 : Hid (Below w.heap.size w w6) := Lib.hid (B1.out.trans (hb6.mono B1.out.size))
    clear hb6 G1
    go_wp2_with fail
    refine (each_any Q _).mono ?_
    rintro e w7 ⟨rfl, rfl⟩
    have HC : Hid (Cm (w6.alloc (.cells (bL Q).toArray 74)) w6.heap.size 74 (bL Q)) := Lib.hid (Cm.new rfl)
    have X1 := Lib.hid (X1.out.alloc (.cells (bL Q).toArray 74))
    have Q1 := Lib.hid (Q1.out.alloc (.cells (bL Q).toArray 74))
    have B1 : Hid (Below w.heap.size w (w6.alloc (.cells (bL Q).toArray 74))) := Lib.hid (B1.out.alloc B1.out.size _)
    generalize w6.alloc (.cells (bL Q).toArray 74) = w7 at *
    have lt7 : w2.heap.size < w7.heap.size := Q1.out.lt
    go_wp2
    have HBG := Lib.hid (fun i (h : i < 16) => bL_get P h)
    refine (wpIn_wide (n := 3)).1 ?_
    refine wpIn_rangeFunc_ownF rfl (by omega) (gf := 93) (lb := #[.pointer (some ⟨w6.heap.size, 0, none⟩)]) rfl trivial (enters_of Try.func93 (by kernel_rfl) rfl)
      (each_stops 2 (by omega) w6.heap.size Q (fun _ _ => True) w7 HC.out) (fun _ _ => trivial) (fun _ _ _ _ _ _ _ _ => trivial) (Below.refl _ _) (fun _ => rfl)
      (fun pre W => (∀ y ∈ pre, P y.val = true) ∧ Cm W w2.heap.size 74 (bL P) ∧ Cm W (w.heap.size + 1) 4 [.bool false] ∧ Below w.heap.size w W)
      (fun c pre W => (c = .ret ∧ ∃ y ∈ pre, P y.val = false) ∧ Cm W (w.heap.size + 1) 4 [.bool false] ∧ Below w.heap.size w W)
      (OwnFrom.and (ownFrom_pure _ _) (OwnFrom.and (Own.from (cm_ownF _ _ _) _) (OwnFrom.and (Own.from (cm_ownF _ _ _) _) (ownFrom_below (Nat.le_refl _) (by omega)))))
      (fun c => OwnFrom.and (ownFrom_pure _ _) (OwnFrom.and (Own.from (cm_ownF _ _ _) _) (ownFrom_below (Nat.le_refl _) (by omega))))
      ⟨(fun y hy => by cases hy), Q1.out, X1.out, B1.out⟩
      (fun x => { tmps := #[.agg #[fv, bv, .int .i64 m.actual], .slice a2 xs.length c2, .pointer (some ⟨w.heap.size, 0, none⟩), undef, .pointer (some ⟨w.heap.size + 1, 0, none⟩), .pointer (some ⟨w1.heap.size, 0, none⟩), .pointer (some ⟨w2.heap.size, 0, none⟩), .bool true, .int .i64 ((x.val : Nat) : Int),
      .tuple #[.agg (ints G).toArray, .agg (bL P).toArray, .bool true], .agg #[fv, bv, .int .i64 m.actual], .slice a2 xs.length c2, .tuple #[.agg (ints G).toArray, .agg (bL P).toArray, .bool true], .agg (ints G).toArray, .agg (bL P).toArray, .bool true, .bool true, .bool false,
      .agg (ints G).toArray, .pointer (some ⟨w1.heap.size, 66, none⟩), .int .i64 act, .agg (bL Q).toArray, .func (.func 93) #[] #[.pointer (some ⟨w6.heap.size, 0, none⟩)], .int .i64 ((x.val : Nat) : Int), undef, undef, undef, undef], defers := [] }) ?assign ?body ?done ?stop
    case assign =>
      intro l x W K hK
      gi_wp2
      simpa using hK
    case body =>
      rintro l pre x W ⟨hp, hq, hx, hB⟩ hlt
      have hc : W.cell? ⟨w2.heap.size, x.val, none⟩ = some (.bool (P x.val)) := (hq.cell x.val).trans (HBG.out x.val x.isLt)
      have x0 : (0 : Int) ≤ ((x.val : Nat) : Int) := Int.natCast_nonneg _
      have x16 : ((x.val : Nat) : Int) < 16 := by have := x.isLt; omega
      have HXC := Lib.hid hx
      have HQ := Lib.hid hq
      have HP := Lib.hid hp
      have HBB := Lib.hid hB
      have xc : W.cell? ⟨w.heap.size + 1, 0, none⟩ = some (.bool false) := hx.cell 0
      have xf := hx.frozen 0
      clear hx hq hp hB
      cases hb : P x.val with
      | true =>
        rw [hb] at hc
        have HB := Lib.hid hb
        clear hb
        gi_wp2
        exact ⟨KeepsOthers.refl _, trivial, (fun y hy => (List.mem_append.1 hy).elim (HP.out y) (fun e => by rw [List.mem_singleton] at e; subst e; exact HB.out)), HQ.out, HXC.out, HBB.out⟩
      | false =>
        rw [hb] at hc
        have HB := Lib.hid hb
        clear hb
        gi_wp2
        exact ⟨KeepsOthers.setCell _ _ _, ⟨rfl, x, List.mem_append.2 (.inr (by simp)), HB.out⟩, HXC.out.set 0 (.bool false), HBB.out.setCell (p := ⟨w.heap.size + 1, 0, none⟩) (by simp) _⟩
    case done =>
      rintro D ys W hD hys ⟨hp, hq, hx, hB⟩ hK
      have HA : Hid (silentR m xs = true) := Lib.hid (by
        rw [HA.out, List.all_eq_true]
        intro i hi
        rw [← hys] at hi
        obtain ⟨y, hy, rfl⟩ := List.mem_map.1 hi
        exact hp y hy)
      have xc : W.cell? ⟨w.heap.size + 1, 0, none⟩ = some (.bool false) := hx.cell 0
      have xf := hx.frozen 0
      have HK' : Hid ((W.setCell ⟨w.heap.size + 1, 0, none⟩ (.bool true)).heap[D]? = some (.deferred (some []))) := Lib.hid ((KeepsOthers.setCell W ⟨w.heap.size + 1, 0, none⟩ (.bool true)).same D _ hK rfl)
      have HX6 := Lib.hid (hx.set 0 (.bool true))
      have HBB : Hid (Below w.heap.size w (W.setCell ⟨w.heap.size + 1, 0, none⟩ (.bool true))) := Lib.hid (hB.setCell (p := ⟨w.heap.size + 1, 0, none⟩) (by simp) _)
      clear hys hp hq hB hx hK
      go_wp2
      have hK' := HK'.out
      refine ⟨by simp, .inl ⟨_, _, rfl, run_takeDeferred hK', ?_⟩⟩
      have hc5 := cell_kept (HX6.out.cell 0) (grownBy_putObj' _ D (.deferred none)) (fun r e => by cases e; exact ⟨_, hK', rfl⟩)
      refine ⟨.bool true, ?_, ret_bool HA.out.symm, HBB.out.trans (belowK_b (w := w7) (by omega) _ D _ _ hD hK' rfl rfl)⟩
      have hc5' : ((W.setCell ⟨w.heap.size + 1, 0, none⟩ (.bool true)).putObj D (.deferred none)).cell? ⟨w.heap.size + 1, 0, none⟩ = some (.bool true) := hc5
      simp [results, Try.f22, go_sem, hc5']
    case stop =>
      rintro D c pre W hD ⟨k, hk, hpre⟩ ⟨⟨rfl, y, hy, hyf⟩, hx, hB⟩ hK
      have HA : Hid (silentR m xs = false) := Lib.hid (by
        rw [HA.out, List.all_eq_false]
        refine ⟨y.val, ?_, by rw [hyf]; decide⟩
        have hm : y.val ∈ lst Q k := by rw [← hpre]; exact List.mem_map.2 ⟨y, hy, rfl⟩
        exact mem_lst.2 ⟨y.isLt, (mem_lst.1 hm).2⟩)
      have HK' := Lib.hid hK
      have HX6 := Lib.hid hx
      have HBB := Lib.hid hB
      clear hpre hy hyf hx hB hK
      gi_wp2
      have hK' := HK'.out
      refine ⟨by simp, .inl ⟨_, _, rfl, run_takeDeferred hK', ?_⟩⟩
      have hc5' : (W.putObj D (.deferred none)).cell? ⟨w.heap.size + 1, 0, none⟩ = some (.bool false) := cell_kept (HX6.out.cell 0) (grownBy_putObj' _ D (.deferred none)) (fun r e => by cases e; exact ⟨_, hK', rfl⟩)
      refine ⟨.bool false, ?_, ret_bool HA.out.symm, HBB.out.trans (belowK_b (w := w7) (by omega) _ D _ _ hD hK' rfl rfl)⟩
      simp [results, Try.f22, go_sem, hc5']
end Go.Proofs.Ytodjohdbngbpaaa
