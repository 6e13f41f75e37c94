/-
  Several texts in one: Drw Mmd. Conditions: as each theorem says.
-/
import Derived.Test.YtodjohdbngbpaaaGreatDrc
import Derived.Test.YtodjohdbngbpaaaGreatZMok
import Derived.Test.YtodjohdbngbpaaaGreatZSet
/-
  Contract of spec.l03Draw: a model that is drawn is valid, has two or three agents, facts below 8, and is owned. Condition: a cursor over a code of at most 1048576 bytes; at most 16 worlds are asked for.
-/
namespace Go.Proofs.YtodjohdbngbpaaaGreat
open Go.RowKit Go.WideShapes
open Go Go.Deep
set_option linter.unusedSimpArgs false

theorem drawn_ok {fs : List Int} {bl : List (List Int)} {act : Int} (h1 : 1 ≤ fs.length) (h16 : fs.length ≤ 16) (hb1 : 1 ≤ bl.length) (hb3 : bl.length ≤ 3) (hf : ∀ f ∈ fs, 0 ≤ f ∧ f < 8)
    (hb : ∀ l ∈ bl, l.length = fs.length ∧ ordOk l = true) (ha0 : 0 ≤ act) (ha : act < fs.length) : mdOk ⟨fs, bl, act⟩ = true := by
  rw [← specOk_mdOk]
  have hg : ∀ k, k < bl.length → bl.getD k [] ∈ bl := fun k hk => by rw [List.getD_eq_getElem?_getD, List.getElem?_eq_getElem hk]; exact List.getElem_mem _
  have hg2 : ∀ k, k < fs.length → fs.getD k 0 ∈ fs := fun k hk => by rw [List.getD_eq_getElem?_getD, List.getElem?_eq_getElem hk]; exact List.getElem_mem _
  unfold specOk inB
  simp only [Bool.and_eq_true, decide_eq_true_eq, List.all_eq_true, List.mem_range, beq_iff_eq]
  exact ⟨⟨⟨⟨⟨h1, h16⟩, hb1, hb3⟩, ha0, ha⟩, fun j hj => by have := hf _ (hg2 j hj); exact ⟨by omega, by omega⟩⟩, fun k hk => hb _ (hg k hk)⟩

/-- what is drawn -/
def drawnM (m : Md) (most : Nat) : Prop := mdOk m = true ∧ m.facts.length ≤ most ∧ 2 ≤ m.blocks.length ∧ ∀ f ∈ m.facts, 0 ≤ f ∧ f < 8
def DrawAns (W w : World) (b : Nat) (cv : Value) (most : Nat) (e : Ending) (w' : World) : Prop := ∃ v m, e = .returned v ∧ Mo w.heap.size w'.heap.size w' v m ∧ drawnM m most ∧ Cur W w' b cv ∧ w.grownBy w' (some b)

set_option maxRecDepth 100000 in
set_option maxHeartbeats 32000000 in
theorem draw_any (W w : World) (b : Nat) (cv : Value) (most : Nat) (h1 : 1 ≤ most) (h16 : most ≤ 16) (hk : CodeOk W cv) (hc : Cur W w b cv) :
    Calls Tryz.prog 51 #[.pointer (some ⟨b, 0, none⟩), .int .i64 most] w (DrawAns W w b cv most) := by
  have KB := Lib.hid (fun n hn hn2 w' hc' => below_small W w' b cv n hn hn2 hk hc')
  have KO := Lib.hid (fun n hn hn2 w' hc' => once_any W w' b cv n hn hn2 hk hc')
  have CW := Lib.hid hc
  have hbw : b < w.heap.size := hc.lt
  have hWw : W.heap.size ≤ b := hc.2.1
  clear hc hk
  go_enter Tryz.func51, Tryz.ntmps51
  go_wp2_with fail
  refine (KB.out _ (by omega) (by omega) _ (CW.out.alloc _)).mono ?_
  rintro e w1 ⟨x, rfl, hx0, hx1, hc1, hg1⟩
  obtain ⟨x, rfl⟩ := Int.eq_ofNat_of_zero_le hx0
  have C1 := Lib.hid hc1
  have m0 : Mcell (w.alloc (.cells #[.slice none 0 0, .slice none 0 0, .int .i64 0] 26)) w.heap.size (.slice none 0 0) (.slice none 0 0) 0 := Mcell.new rfl
  have M1 := Lib.hid (m0.of_block (hg1.block _ m0.lt (by simp; omega)))
  have G1 : Hid (w.grownBy w1 (some b)) := Lib.hid (grown_trans (World.grownBy_alloc w _ _) hg1)
  have lt1 : w.heap.size < w1.heap.size := M1.out.lt
  clear m0 hc1 hg1 CW
  obtain ⟨N, hN⟩ : ∃ N : Nat, (1 + (x : Int)) = (N : Int) := ⟨1 + x, by omega⟩
  go_wp2_with fail
  have hN1 : 1 ≤ N := by omega
  have hN16 : N ≤ most := by omega
  clear hN hx0 hx1
  refine (KB.out _ (by omega) (by omega) _ C1.out).mono ?_
  rintro e w2 ⟨act, rfl, ha0, ha1, hc2, hg2⟩
  have C2 := Lib.hid hc2
  have M2 := Lib.hid (M1.out.of_block (hg2.block _ M1.out.lt (by simp; omega)))
  have G2 : Hid (w.grownBy w2 (some b)) := Lib.hid (grown_trans G1.out hg2)
  have lt2 : w.heap.size < w2.heap.size := M2.out.lt
  clear hc2 hg2 C1 M1 G1 lt1
  go_wp2
  obtain ⟨act, rfl⟩ := Int.eq_ofNat_of_zero_le ha0
  have hact : act < N := by omega
  have d3 : Cm (w2.alloc (.cells #[.slice none 0 0, .slice none 0 0, .int .i64 act] 26)) w2.heap.size 26 [.slice none 0 0, .slice none 0 0, .int .i64 act] := Cm.new rfl
  have c3 : Cur W (w2.alloc (.cells #[.slice none 0 0, .slice none 0 0, .int .i64 act] 26)) b cv := C2.out.alloc _
  have m3 : Mcell (w2.alloc (.cells #[.slice none 0 0, .slice none 0 0, .int .i64 act] 26)) w.heap.size (.slice none 0 0) (.slice none 0 0) 0 := M2.out.alloc _
  have g3 : w.grownBy (w2.alloc (.cells #[.slice none 0 0, .slice none 0 0, .int .i64 act] 26)) (some b) := gb_alloc G2.out _
  generalize w2.alloc (.cells #[.slice none 0 0, .slice none 0 0, .int .i64 act] 26) = w3 at *
  have D3 := Lib.hid d3
  have C3 := Lib.hid c3
  have M3 := Lib.hid m3
  have G3 := Lib.hid g3
  have lt3 : w2.heap.size < w3.heap.size := d3.lt
  clear C2 M2 G2 d3 c3 m3 g3
  obtain ⟨c, hcc⟩ : ∃ c, c = w2.heap.size := ⟨_, rfl⟩
  rw [← hcc] at D3 lt2 lt3 ⊢
  clear hcc
  go_loopw [7] (fun iv wr => ∃ (k : Nat) (fv : Value) (fs : List Int), k ≤ N ∧ iv = .int .i64 k ∧ fs.length = k ∧ Hid (∀ f ∈ fs, 0 ≤ f ∧ f < 8) ∧ Hid (Cm wr c 26 [fv, .slice none 0 0, .int .i64 act]) ∧ Hid (wr.ownsRow w3.heap.size 3 1 fv k (ints fs)) ∧ Hid (Mcell wr w.heap.size (.slice none 0 0) (.slice none 0 0) 0) ∧ Hid (Cur W wr b cv) ∧ Hid (w.grownBy wr (some b)) ∧ w3.heap.size ≤ wr.heap.size) (fun iv _ => N - (intOf iv).toNat)
  case atStart => exact ⟨0, _, [], Nat.zero_le _, rfl, rfl, Lib.hid (fun f hf => by cases hf), D3, Lib.hid (World.ownsRow_nil _ _ _ _), M3, C3, G3, Nat.le_refl _⟩
  case round =>
    clear D3 C3 M3 G3
    obtain ⟨k, fv, fs, hk, rfl, hfl, HF, DR, OR, MR, CR, GR, hwr⟩ := hrel
    by_cases hlt : k < N
    · have hlt' : (k : Int) < (N : Int) := by omega
      have HFL := Lib.hid hfl
      clear hfl
      go_wp2
      have d0 : Hid (∀ V, Cm V c 26 [fv, .slice none 0 0, .int .i64 act] → V.cell? ⟨c, 0, none⟩ = some fv) := Lib.hid (fun V h => h.cell 0)
      refine regionL (fun V => Cm V c 26 [fv, .slice none 0 0, .int .i64 act]) [7] (by kernel_rfl) DR.out (fun hHeld => ?_)
      refine takeA (i := 0) (v := .pointer (some ⟨c, 0, none⟩)) 25 rfl rfl (by kernel_rfl) (by kernel_rfl) (by kernel_rfl) (by kernel_rfl) (fun _ _ _ h => h) (Or.inl ⟨by rfl, by intro W hSw; go_simp⟩) hHeld ?_
      simp only [Act.put, List.setIfInBounds_toArray, List.set_cons_zero, List.set_cons_succ]
      refine takeA (i := 1) (v := fv) 26 rfl rfl (by kernel_rfl) (by kernel_rfl) (by kernel_rfl) (by kernel_rfl) (fun _ _ _ h => h) (Or.inl ⟨by rfl, by intro W hSw; have d1 := d0.out _ hSw; go_simp⟩) hHeld ?_
      simp only [Act.put, List.setIfInBounds_toArray, List.set_cons_zero, List.set_cons_succ]
      refine takeA (i := 2) (v := .pointer (some ⟨b, 0, none⟩)) 27 rfl rfl (by kernel_rfl) (by kernel_rfl) (by kernel_rfl) (by kernel_rfl) (fun _ _ _ h => h) (Or.inl ⟨by rfl, by intro W hSw; go_simp⟩) hHeld ?_
      simp only [Act.put, List.setIfInBounds_toArray, List.set_cons_zero, List.set_cons_succ]
      refine onlyL (i := 3) (by kernel_rfl) rfl (by rfl) (fun K hK => ?_)
      go_simp
      refine (KB.out 8 (by omega) (by omega) _ (CR.out.kept (grown_drewN wr 1 none) (by simp) (fun k hk => by cases hk))).mono ?_
      rintro e w6 ⟨f, rfl, hf0, hf8, hc6, hg6⟩
      have gd : wr.grownBy w6 (some b) := grown_trans (grown_drewN wr 1 (some b)) hg6
      have D6 := Lib.hid (DR.out.of_block (gd.block _ DR.out.lt (by simp; omega)))
      have M6 := Lib.hid (MR.out.of_block (gd.block _ MR.out.lt (by simp; omega)))
      have C6 := Lib.hid hc6
      have O6 := Lib.hid (OR.out.kept gd (.inr (fun e => by have := (OR.out.lt _ e).1; omega)))
      have G6 := Lib.hid (grown_trans GR.out gd)
      have hs6 : wr.heap.size ≤ w6.heap.size := gd.size
      have HFB := Lib.hid (fun q (hq : fv.ownBlock = some q) => (OR.out.lt q hq).1)
      clear hc6 hg6 gd hHeld
      refine hK.out _ _ (fun _ => D6.out) (fun _ => ?_)
      clear hK K OR DR MR CR GR d0
      try simp only [Act.put, List.setIfInBounds_toArray, List.set_cons_zero, List.set_cons_succ]
      refine onlyL (i := 4) (by kernel_rfl) rfl (by rfl) (fun K hK => ?_)
      go_simp
      refine hK.out _ _ (fun _ => D6.out.alloc _) (fun _ => ?_)
      clear hK K
      try simp only [Act.put, List.setIfInBounds_toArray, List.set_cons_zero, List.set_cons_succ]
      refine onlyL (i := 5) (by kernel_rfl) rfl (by rfl) (fun K hK => ?_)
      refine wp_pushL (.tmp 26) (.tmp 29) 23 30 rfl rfl 3 (.int .i64 0) 8 Tryz.underlying23 Tryz.infoI rfl w3.heap.size (.int .i64 f) fv k (ints fs) O6.out rfl w6.heap.size rfl rfl rfl (by unfold maxLen; omega) (by omega) (by omega) ?_
      intro v7 w7 hown7 hg7
      have D7 := Lib.hid (D6.out.of_block (hg7.block D6.out.lt (fun e => by have := HFB.out _ e; omega)))
      have M7 := Lib.hid (M6.out.of_block (hg7.block M6.out.lt (fun e => by have := HFB.out _ e; omega)))
      have C7 := Lib.hid (C6.out.push hg7 (fun q hq => by have := HFB.out _ hq; omega))
      have G7 := Lib.hid (gb_push G6.out hg7 (fun q hq => by have := HFB.out _ hq; omega))
      obtain ⟨va7, vc7, e7⟩ := own_form hown7
      subst e7
      have O7 := Lib.hid hown7
      have hs7 : w6.heap.size ≤ w7.heap.size := hg7.size
      have d5 := D7.out.cell 0
      have f5 := D7.out.frozen 0
      clear hown7 hg7 D6 M6 C6 G6 O6
      refine hK.out _ _ (fun _ => D7.out) (fun hHeld => ?_)
      have hHeld := hHeld (by decide)
      clear hK K
      try simp only [Act.put, List.setIfInBounds_toArray, List.set_cons_zero, List.set_cons_succ]
      refine takeA (i := 6) (v := .pointer (some ⟨c, 0, none⟩)) 31 rfl rfl (by kernel_rfl) (by kernel_rfl) (by kernel_rfl) (by kernel_rfl) (fun _ _ _ h => h) (Or.inl ⟨by rfl, by intro W hSw; go_simp⟩) hHeld ?_
      simp only [Act.put, List.setIfInBounds_toArray, List.set_cons_zero, List.set_cons_succ]
      refine onlyL (i := 7) (by kernel_rfl) rfl (by rfl) (fun K hK => ?_)
      simp only [List.getElem?_cons_zero] at d5
      go_simp
      refine hK.out _ _ (fun h => absurd (by decide) h) (fun _ => ?_)
      clear hK K hHeld
      refine doneL (by kernel_rfl) ?_ _
      clear d5 f5
      go_wp2
      go_roundw
      case rel =>
        refine ⟨k + 1, _, fs ++ [f], by omega, by go_num, by simp [HFL.out], Lib.hid (fun y hy => ?_), Lib.hid (D7.out.set 0 _), Lib.hid ?_, Lib.hid (M7.out.other (by omega) _ _), Lib.hid (C7.out.set (by omega) (by omega) _ _), Lib.hid (gb_set G7.out (by omega) _), by simp [World.setCell]; omega⟩
        · rcases List.mem_append.1 hy with h | h
          · exact HF.out y h
          · simp at h; subst h; exact ⟨hf0, hf8⟩
        · rw [ints_app]
          exact O7.out.kept (grown_set w7 c 0 _) (.inr (fun e => by have := (O7.out.lt _ e).1; omega))
      case measure => simp [intOf]; omega
    · obtain rfl : k = N := by omega
      obtain ⟨fa, fc, rfl⟩ := own_form OR.out
      have IR := Lib.hid (Ro.of_own OR.out)
      have HFL := Lib.hid hfl
      clear hfl OR
      obtain ⟨w5, rfl⟩ : ∃ w5 : World, w5 = wr := ⟨_, rfl⟩
      go_wp2_with fail
      refine (KO.out 5 (by omega) (by omega) _ CR.out).mono ?_
      rintro e w4 ⟨ob, rfl, hc4, hg4⟩
      have D4 := Lib.hid (DR.out.of_block (hg4.block _ DR.out.lt (by simp; omega)))
      have M4 := Lib.hid (MR.out.of_block (hg4.block _ MR.out.lt (by simp; omega)))
      have C4 := Lib.hid hc4
      have I4 : Hid (Io w3.heap.size w4.heap.size w4 (.slice fa k fc) fs) := Lib.hid ((IR.out.keeps (keeps_gb hg4 (by omega))).wide (Nat.le_refl _) hg4.size)
      have G4 := Lib.hid (grown_trans GR.out hg4)
      have hs4 : w3.heap.size ≤ w4.heap.size := Nat.le_trans hwr hg4.size
      clear hc4 hg4 DR MR CR IR GR hwr
      cases ob with
      | false =>
        go_wp2
        go_loopw [9] (fun iv wr => ∃ (i : Nat) (bv : Value) (vs : List Value) (bl : List (List Int)), i ≤ 2 ∧ iv = .int .i64 i ∧ bl.length = i ∧ Hid (∀ l ∈ bl, l.length = k ∧ ordOk l = true) ∧ Hid (Cm wr c 26 [.slice fa k fc, bv, .int .i64 act]) ∧ Hid (Ioo w4.heap.size wr.heap.size wr bv vs bl) ∧ Hid (Io w3.heap.size w4.heap.size wr (.slice fa k fc) fs) ∧ Hid (Mcell wr w.heap.size (.slice none 0 0) (.slice none 0 0) 0) ∧ Hid (Cur W wr b cv) ∧ Hid (w.grownBy wr (some b)) ∧ w4.heap.size ≤ wr.heap.size) (fun iv _ => 2 - (intOf iv).toNat)
        case atStart => exact ⟨0, _, [], [], Nat.zero_le _, rfl, rfl, Lib.hid (fun l hl => by cases hl), D4, Lib.hid ⟨Ro.nil _ _ _ _, ⟨rfl, fun j hj => by simp at hj⟩, List.pairwise_singleton _ _⟩, I4, M4, C4, G4, Nat.le_refl _⟩
        case round =>
          clear D4 I4 M4 C4 G4
          obtain ⟨i, bv, vs, bl, hi, rfl, hbl, HB, DR, OR, IR, MR, CR, GR, hwr⟩ := hrel
          have HBL := Lib.hid hbl
          clear hbl
          obtain ⟨wo, rfl⟩ : ∃ wo : World, wo = wr := ⟨_, rfl⟩
          by_cases hlt : i < 2
          · have hlt' : (i : Int) < 2 := by omega
            go_wp2
            go_loopw [10, 11] (fun lv jv wr => ∃ (j : Nat) (lv' : Value) (ls : List Int), j ≤ k ∧ jv = .int .i64 j ∧ lv' = lv ∧ ls.length = j ∧ Hid (wr.ownsRow wo.heap.size 3 1 lv' j (ints ls)) ∧ Hid (Cur W wr b cv) ∧ Hid (wo.grownBy wr (some b))) (fun _ jv _ => k - (intOf jv).toNat)
            case atStart => exact ⟨0, _, [], Nat.zero_le _, rfl, rfl, rfl, Lib.hid (World.ownsRow_lit wo #[] 0 (Nat.le_refl _) (Nat.zero_le _) rfl), Lib.hid (CR.out.alloc _), Lib.hid (World.grownBy_alloc wo _ _)⟩
            case round =>
              obtain ⟨j, lv, ls, hj, rfl, rfl, hll, LQ, CQ, GQ⟩ := hrel
              have HLL := Lib.hid hll
              clear hll
              have hsq : wo.heap.size ≤ wr.heap.size := GQ.out.size
              by_cases hlj : j < k
              · have hlj' : (j : Int) < (k : Int) := by omega
                have tk1 : True := trivial
                have tk2 : True := trivial
                go_wp2_with
                  (first
                    | (have _t := tk1; clear _t tk1; go_at_call 97; (with_reducible refine (KB.out 3 (by omega) (by omega) _ CQ.out).mono ?_); rintro e w6 ⟨f, rfl, hf0, hf3, hc6, hg6⟩; have C6 := Lib.hid hc6; have L6 := Lib.hid (LQ.out.kept hg6 (.inr (fun e => by have := (LQ.out.lt _ e).1; omega))); have G6 := Lib.hid (grown_trans GQ.out hg6); have HLB : Hid (∀ q, lv.ownBlock = some q → wo.heap.size ≤ q) := Lib.hid (fun q hq => (LQ.out.lt q hq).1); have hs6 : wr.heap.size ≤ w6.heap.size := hg6.size; clear hc6 hg6)
                    | (have _t := tk2; clear _t tk2; at_builtin; refine wpList_pushL rfl (.tmp 45) (.tmp 48) 23 49 rfl rfl 3 (.int .i64 0) 8 Tryz.underlying23 Tryz.infoI rfl wo.heap.size (.int .i64 f) lv j (ints ls) L6.out rfl w6.heap.size rfl rfl rfl (by unfold maxLen; omega) (by omega) (by omega) ?_; intro v7 w7 hown hg; have L7 := Lib.hid hown; have C7 := Lib.hid (C6.out.push hg (fun q hq => by have := HLB.out _ hq; omega)); have G7 := Lib.hid (gb_push G6.out hg (fun q hq => HLB.out _ hq)); clear hown hg))
                go_roundw
                case rel =>
                  refine ⟨j + 1, _, ls ++ [f], by omega, by go_num, rfl, by simp [HLL.out], Lib.hid ?_, C7, G7⟩
                  rw [ints_app]
                  exact L7.out
                case measure => simp [intOf]; omega
              · obtain rfl : j = k := by omega
                have DQ := Lib.hid (DR.out.of_block (GQ.out.block _ DR.out.lt (by simp; omega)))
                have OQ := Lib.hid (OR.out.keeps (keeps_gb GQ.out (by omega)))
                have IQ : Hid (Io w3.heap.size w4.heap.size wr (.slice fa j fc) fs) := Lib.hid (IR.out.keeps (keeps_gb GQ.out (by omega)))
                have MQ := Lib.hid (MR.out.of_block (GQ.out.block _ MR.out.lt (by simp; omega)))
                have GW := Lib.hid (grown_trans GR.out GQ.out)
                have NQ : Hid (Io wo.heap.size wr.heap.size wr lv ls) := Lib.hid (Ro.of_own LQ.out)
                clear DR OR IR MR CR GR LQ GQ
                go_wp2
                have d0 : Hid (∀ V, Cm V c 26 [.slice fa j fc, bv, .int .i64 act] → V.cell? ⟨c, 1, none⟩ = some bv) := Lib.hid (fun V h => h.cell 1)
                refine regionL (fun V => Cm V c 26 [.slice fa j fc, bv, .int .i64 act]) [7] (by kernel_rfl) DQ.out (fun hHeld => ?_)
                refine takeA (i := 0) (v := .pointer (some ⟨c, 1, none⟩)) 50 rfl rfl (by kernel_rfl) (by kernel_rfl) (by kernel_rfl) (by kernel_rfl) (fun _ _ _ h => h) (Or.inl ⟨by rfl, by intro W hSw; go_simp⟩) hHeld ?_
                simp only [Act.put, List.setIfInBounds_toArray, List.set_cons_zero, List.set_cons_succ]
                refine takeA (i := 1) (v := bv) 51 rfl rfl (by kernel_rfl) (by kernel_rfl) (by kernel_rfl) (by kernel_rfl) (fun _ _ _ h => h) (Or.inl ⟨by rfl, by intro W hSw; have d1 := d0.out _ hSw; go_simp⟩) hHeld ?_
                simp only [Act.put, List.setIfInBounds_toArray, List.set_cons_zero, List.set_cons_succ]
                refine takeA (i := 2) (v := lv) 52 rfl rfl (by kernel_rfl) (by kernel_rfl) (by kernel_rfl) (by kernel_rfl) (fun _ _ _ h => h) (Or.inl ⟨by rfl, by intro W hSw; go_simp⟩) hHeld ?_
                simp only [Act.put, List.setIfInBounds_toArray, List.set_cons_zero, List.set_cons_succ]
                refine onlyL (i := 3) (by kernel_rfl) rfl (by rfl) (fun K hK => ?_)
                go_simp
                refine (specNumber_any _ _ lv ls wr.drew (NQ.out.keeps (Keeps.of_all (Below.refl _ _).drew)).read (by have := HLL.out; omega)).mono ?_
                rintro e w6 ⟨u6, rfl, ho6, hb6⟩
                obtain ⟨ua6, uc6, eu6⟩ := ho6.form
                subst eu6
                obtain ⟨u6, hu6⟩ : ∃ u, u = Value.slice ua6 (num ls).length uc6 := ⟨_, rfl⟩
                have t6 : Below wr.heap.size wr w6 := Below.trans (Below.refl _ _).drew hb6
                have U6 : Hid (Io wo.heap.size w6.heap.size w6 u6 (num ls)) := Lib.hid (by rw [hu6]; exact ho6.wide hsq (Nat.le_refl _))
                have O6 := Lib.hid (OQ.out.keeps (Keeps.of_all t6))
                have D6 := Lib.hid (DQ.out.all t6)
                have I6 : Hid (Io w3.heap.size w4.heap.size w6 (.slice fa j fc) fs) := Lib.hid (IQ.out.keeps (Keeps.of_all t6))
                have M6 := Lib.hid (MQ.out.below t6)
                have C6 := Lib.hid (CQ.out.belowC t6)
                have G6 := Lib.hid (gb_below GW.out t6)
                have hs6 : wr.heap.size ≤ w6.heap.size := t6.size
                clear ho6 hb6 hHeld
                refine hK.out _ _ (fun _ => D6.out) (fun _ => ?_)
                clear hK K t6 OQ DQ IQ MQ CQ GW NQ d0
                try simp only [Act.put, List.setIfInBounds_toArray, List.set_cons_zero, List.set_cons_succ]
                refine onlyL (i := 4) (by kernel_rfl) rfl (by rfl) (fun K hK => ?_)
                go_simp
                refine hK.out _ _ (fun _ => D6.out.alloc _) (fun _ => ?_)
                clear hK K
                try simp only [Act.put, List.setIfInBounds_toArray, List.set_cons_zero, List.set_cons_succ]
                refine onlyL (i := 5) (by kernel_rfl) rfl (by rfl) (fun K hK => ?_)
                have hvl : vs.length = i := by rw [O6.out.2.1.1]; exact HBL.out
                have hown : w6.ownsRow w4.heap.size 23 1 bv vs.length vs := O6.out.1.1
                rw [← hu6]
                refine wp_pushL (.tmp 51) (.tmp 54) 24 55 rfl rfl 23 (.slice none 0 0) 24 Tryz.underlying24 Tryz.infoL rfl w4.heap.size u6 bv vs.length vs hown rfl w6.heap.size rfl rfl (by rw [hu6]; rfl) (by unfold maxLen; omega) (by omega) (by omega) ?_
                intro v7 w7 hown7 hg7
                have hbv : ∀ q, bv.ownBlock = some q → w4.heap.size ≤ q ∧ q < wo.heap.size := fun q hq => ⟨(O6.out.1.1.lt q hq).1, O6.out.1.2 q hq⟩
                have O7 := Lib.hid (Ioo.push O6.out U6.out (Nat.le_refl _) (by omega) hwr hown7 hg7)
                have hne : ∀ q, q < w4.heap.size → bv.ownBlock ≠ some q := fun q hq e => by have := hbv q e; omega
                have D7 := Lib.hid (D6.out.of_block (hg7.block D6.out.lt (hne _ (by omega))))
                have M7 := Lib.hid (M6.out.of_block (hg7.block M6.out.lt (hne _ (by omega))))
                have I7 : Hid (Io w3.heap.size w4.heap.size w7 (.slice fa j fc) fs) := Lib.hid (hg7.ro I6.out (apart_lt (B := w4.heap.size) (fun q hq => I6.out.2 q hq) (fun q hq => (hbv q hq).1)))
                have C7 := Lib.hid (C6.out.push hg7 (fun q hq => by have := hbv q hq; omega))
                have G7 := Lib.hid (gb_push G6.out hg7 (fun q hq => by have := hbv q hq; omega))
                have hs7 : w6.heap.size ≤ w7.heap.size := hg7.size
                obtain ⟨v7a, v7c, e5⟩ := O7.out.1.form
                rw [show (vs ++ [u6]).length = i + 1 by simp [hvl]] at e5
                have d5 := D7.out.cell 1
                have f5 := D7.out.frozen 1
                clear hown hown7 hbv hne O6 D6 I6 M6 C6 G6 hg7
                refine hK.out _ _ (fun _ => D7.out) (fun hHeld => ?_)
                have hHeld := hHeld (by decide)
                clear hK K
                try simp only [Act.put, List.setIfInBounds_toArray, List.set_cons_zero, List.set_cons_succ]
                refine takeA (i := 6) (v := .pointer (some ⟨c, 1, none⟩)) 56 rfl rfl (by kernel_rfl) (by kernel_rfl) (by kernel_rfl) (by kernel_rfl) (fun _ _ _ h => h) (Or.inl ⟨by rfl, by intro W hSw; go_simp⟩) hHeld ?_
                simp only [Act.put, List.setIfInBounds_toArray, List.set_cons_zero, List.set_cons_succ]
                refine onlyL (i := 7) (by kernel_rfl) rfl (by rfl) (fun K hK => ?_)
                simp only [List.getElem?_cons_succ, List.getElem?_cons_zero] at d5
                subst e5
                go_simp
                refine hK.out _ _ (fun h => absurd (by decide) h) (fun _ => ?_)
                clear hK K hHeld
                refine doneL (by kernel_rfl) ?_ _
                clear d5 f5
                go_wp2
                go_roundw
                case rel =>
                  refine ⟨i + 1, _, vs ++ [u6], bl ++ [num ls], by omega, by go_num, by simp [HBL.out], Lib.hid (fun l hl => ?_), Lib.hid (D7.out.set 1 _), Lib.hid ?_, Lib.hid (I7.out.keeps (Keeps.setCell _ _ _ _ (.inl (by omega)))), Lib.hid (M7.out.other (by omega) _ _), Lib.hid (C7.out.set (by omega) (by omega) _ _), Lib.hid (gb_set G7.out (by omega) _), by simp [World.setCell]; omega⟩
                  · rcases List.mem_append.1 hl with h | h
                    · exact HB.out l h
                    · simp at h; subst h; exact ⟨by rw [num_len]; exact HLL.out, num_ord ls⟩
                  · exact (O7.out.keeps (Keeps.setCell w7 c 1 (.slice v7a (i + 1) v7c) (.inl (by omega)))).wide (Nat.le_refl _) (Keeps.setCell (lo := 0) (hi := 0) w7 c 1 (.slice v7a (i + 1) v7c) (.inr (Nat.zero_le _))).size
                case measure => simp [intOf]; omega
          · obtain rfl : i = 2 := by omega
            obtain ⟨ba, bc, e5⟩ := OR.out.1.form
            have hvl : vs.length = 2 := by rw [OR.out.2.1.1]; exact HBL.out
            rw [hvl] at e5
            subst e5
            obtain ⟨m0, m1, m2, m3, m4, m5⟩ := MR.out
            go_wp2_with (refine wpList_loadM rfl 26 _ rfl c 0 rfl 26 _ [.slice fa k fc, .slice ba 2 bc, .int .i64 act] DR.out (fun j _ => by rw [Nat.zero_add]) _ Tryz.underlying26 rfl Tryz.sizeMd ?_)
            clear m0 m1 m2 m3 m4 m5
            have hO : Mo w3.heap.size wo.heap.size wo (.agg #[.slice fa k fc, .slice ba 2 bc, .int .i64 act]) ⟨fs, bl, act⟩ := ⟨_, _, vs, rfl, IR.out.wide (Nat.le_refl _) hwr, OR.out.wide hs4 (Nat.le_refl _), fun u hu => by
              refine apart_lt (B := w4.heap.size) (fun q hq => IR.out.2 q hq) (fun q hq => ?_)
              rcases List.mem_cons.1 hu with rfl | hu
              · exact (OR.out.1.1.lt q hq).1
              · exact (OR.out.2.1.blk hu q hq).1⟩
            have hb : w.heap.size < w3.heap.size := by omega
            refine bodyPost_ret (results_mid1 Tryz.results51 _ _ w.heap.size _ _ rfl (MR.out.write (.slice fa k fc) (.slice ba 2 bc) act).range Tryz.underlying26 rfl Tryz.sizeMd) rfl ?_
            exact ⟨_, ⟨fs, bl, act⟩, rfl, (hO.keeps (((Keeps.setCell _ _ _ _ (.inl hb)).set (.inl hb) _ _).set (.inl hb) _ _)).wide (by omega) (by simp [World.setCell]), ⟨drawn_ok (by rw [HFL.out]; exact hN1) (by rw [HFL.out]; omega) (by rw [HBL.out]; decide) (by rw [HBL.out]; decide) HF.out (fun l hl => by rw [HFL.out]; exact HB.out l hl) (Int.natCast_nonneg _) (by rw [HFL.out]; omega), by show fs.length ≤ most; rw [HFL.out]; exact hN16, by show 2 ≤ bl.length; rw [HBL.out]; decide, HF.out⟩, ((CR.out.set (by omega) (by omega) _ _).set (by omega) (by omega) _ _).set (by omega) (by omega) _ _, gb_set (gb_set (gb_set GR.out (Nat.le_refl _) _) (Nat.le_refl _) _) (Nat.le_refl _) _⟩
      | true =>
        go_wp2
        go_loopw [9] (fun iv wr => ∃ (i : Nat) (bv : Value) (vs : List Value) (bl : List (List Int)), i ≤ 3 ∧ iv = .int .i64 i ∧ bl.length = i ∧ Hid (∀ l ∈ bl, l.length = k ∧ ordOk l = true) ∧ Hid (Cm wr c 26 [.slice fa k fc, bv, .int .i64 act]) ∧ Hid (Ioo w4.heap.size wr.heap.size wr bv vs bl) ∧ Hid (Io w3.heap.size w4.heap.size wr (.slice fa k fc) fs) ∧ Hid (Mcell wr w.heap.size (.slice none 0 0) (.slice none 0 0) 0) ∧ Hid (Cur W wr b cv) ∧ Hid (w.grownBy wr (some b)) ∧ w4.heap.size ≤ wr.heap.size) (fun iv _ => 3 - (intOf iv).toNat)
        case atStart => exact ⟨0, _, [], [], Nat.zero_le _, rfl, rfl, Lib.hid (fun l hl => by cases hl), D4, Lib.hid ⟨Ro.nil _ _ _ _, ⟨rfl, fun j hj => by simp at hj⟩, List.pairwise_singleton _ _⟩, I4, M4, C4, G4, Nat.le_refl _⟩
        case round =>
          clear D4 I4 M4 C4 G4
          obtain ⟨i, bv, vs, bl, hi, rfl, hbl, HB, DR, OR, IR, MR, CR, GR, hwr⟩ := hrel
          have HBL := Lib.hid hbl
          clear hbl
          obtain ⟨wo, rfl⟩ : ∃ wo : World, wo = wr := ⟨_, rfl⟩
          by_cases hlt : i < 3
          · have hlt' : (i : Int) < 3 := by omega
            go_wp2
            go_loopw [10, 11] (fun lv jv wr => ∃ (j : Nat) (lv' : Value) (ls : List Int), j ≤ k ∧ jv = .int .i64 j ∧ lv' = lv ∧ ls.length = j ∧ Hid (wr.ownsRow wo.heap.size 3 1 lv' j (ints ls)) ∧ Hid (Cur W wr b cv) ∧ Hid (wo.grownBy wr (some b))) (fun _ jv _ => k - (intOf jv).toNat)
            case atStart => exact ⟨0, _, [], Nat.zero_le _, rfl, rfl, rfl, Lib.hid (World.ownsRow_lit wo #[] 0 (Nat.le_refl _) (Nat.zero_le _) rfl), Lib.hid (CR.out.alloc _), Lib.hid (World.grownBy_alloc wo _ _)⟩
            case round =>
              obtain ⟨j, lv, ls, hj, rfl, rfl, hll, LQ, CQ, GQ⟩ := hrel
              have HLL := Lib.hid hll
              clear hll
              have hsq : wo.heap.size ≤ wr.heap.size := GQ.out.size
              by_cases hlj : j < k
              · have hlj' : (j : Int) < (k : Int) := by omega
                have tk3 : True := trivial
                have tk4 : True := trivial
                go_wp2_with
                  (first
                    | (have _t := tk3; clear _t tk3; go_at_call 97; (with_reducible refine (KB.out 3 (by omega) (by omega) _ CQ.out).mono ?_); rintro e w6 ⟨f, rfl, hf0, hf3, hc6, hg6⟩; have C6 := Lib.hid hc6; have L6 := Lib.hid (LQ.out.kept hg6 (.inr (fun e => by have := (LQ.out.lt _ e).1; omega))); have G6 := Lib.hid (grown_trans GQ.out hg6); have HLB : Hid (∀ q, lv.ownBlock = some q → wo.heap.size ≤ q) := Lib.hid (fun q hq => (LQ.out.lt q hq).1); have hs6 : wr.heap.size ≤ w6.heap.size := hg6.size; clear hc6 hg6)
                    | (have _t := tk4; clear _t tk4; at_builtin; refine wpList_pushL rfl (.tmp 45) (.tmp 48) 23 49 rfl rfl 3 (.int .i64 0) 8 Tryz.underlying23 Tryz.infoI rfl wo.heap.size (.int .i64 f) lv j (ints ls) L6.out rfl w6.heap.size rfl rfl rfl (by unfold maxLen; omega) (by omega) (by omega) ?_; intro v7 w7 hown hg; have L7 := Lib.hid hown; have C7 := Lib.hid (C6.out.push hg (fun q hq => by have := HLB.out _ hq; omega)); have G7 := Lib.hid (gb_push G6.out hg (fun q hq => HLB.out _ hq)); clear hown hg))
                go_roundw
                case rel =>
                  refine ⟨j + 1, _, ls ++ [f], by omega, by go_num, rfl, by simp [HLL.out], Lib.hid ?_, C7, G7⟩
                  rw [ints_app]
                  exact L7.out
                case measure => simp [intOf]; omega
              · obtain rfl : j = k := by omega
                have DQ := Lib.hid (DR.out.of_block (GQ.out.block _ DR.out.lt (by simp; omega)))
                have OQ := Lib.hid (OR.out.keeps (keeps_gb GQ.out (by omega)))
                have IQ : Hid (Io w3.heap.size w4.heap.size wr (.slice fa j fc) fs) := Lib.hid (IR.out.keeps (keeps_gb GQ.out (by omega)))
                have MQ := Lib.hid (MR.out.of_block (GQ.out.block _ MR.out.lt (by simp; omega)))
                have GW := Lib.hid (grown_trans GR.out GQ.out)
                have NQ : Hid (Io wo.heap.size wr.heap.size wr lv ls) := Lib.hid (Ro.of_own LQ.out)
                clear DR OR IR MR CR GR LQ GQ
                go_wp2
                have d0 : Hid (∀ V, Cm V c 26 [.slice fa j fc, bv, .int .i64 act] → V.cell? ⟨c, 1, none⟩ = some bv) := Lib.hid (fun V h => h.cell 1)
                refine regionL (fun V => Cm V c 26 [.slice fa j fc, bv, .int .i64 act]) [7] (by kernel_rfl) DQ.out (fun hHeld => ?_)
                refine takeA (i := 0) (v := .pointer (some ⟨c, 1, none⟩)) 50 rfl rfl (by kernel_rfl) (by kernel_rfl) (by kernel_rfl) (by kernel_rfl) (fun _ _ _ h => h) (Or.inl ⟨by rfl, by intro W hSw; go_simp⟩) hHeld ?_
                simp only [Act.put, List.setIfInBounds_toArray, List.set_cons_zero, List.set_cons_succ]
                refine takeA (i := 1) (v := bv) 51 rfl rfl (by kernel_rfl) (by kernel_rfl) (by kernel_rfl) (by kernel_rfl) (fun _ _ _ h => h) (Or.inl ⟨by rfl, by intro W hSw; have d1 := d0.out _ hSw; go_simp⟩) hHeld ?_
                simp only [Act.put, List.setIfInBounds_toArray, List.set_cons_zero, List.set_cons_succ]
                refine takeA (i := 2) (v := lv) 52 rfl rfl (by kernel_rfl) (by kernel_rfl) (by kernel_rfl) (by kernel_rfl) (fun _ _ _ h => h) (Or.inl ⟨by rfl, by intro W hSw; go_simp⟩) hHeld ?_
                simp only [Act.put, List.setIfInBounds_toArray, List.set_cons_zero, List.set_cons_succ]
                refine onlyL (i := 3) (by kernel_rfl) rfl (by rfl) (fun K hK => ?_)
                go_simp
                refine (specNumber_any _ _ lv ls wr.drew (NQ.out.keeps (Keeps.of_all (Below.refl _ _).drew)).read (by have := HLL.out; omega)).mono ?_
                rintro e w6 ⟨u6, rfl, ho6, hb6⟩
                obtain ⟨ua6, uc6, eu6⟩ := ho6.form
                subst eu6
                obtain ⟨u6, hu6⟩ : ∃ u, u = Value.slice ua6 (num ls).length uc6 := ⟨_, rfl⟩
                have t6 : Below wr.heap.size wr w6 := Below.trans (Below.refl _ _).drew hb6
                have U6 : Hid (Io wo.heap.size w6.heap.size w6 u6 (num ls)) := Lib.hid (by rw [hu6]; exact ho6.wide hsq (Nat.le_refl _))
                have O6 := Lib.hid (OQ.out.keeps (Keeps.of_all t6))
                have D6 := Lib.hid (DQ.out.all t6)
                have I6 : Hid (Io w3.heap.size w4.heap.size w6 (.slice fa j fc) fs) := Lib.hid (IQ.out.keeps (Keeps.of_all t6))
                have M6 := Lib.hid (MQ.out.below t6)
                have C6 := Lib.hid (CQ.out.belowC t6)
                have G6 := Lib.hid (gb_below GW.out t6)
                have hs6 : wr.heap.size ≤ w6.heap.size := t6.size
                clear ho6 hb6 hHeld
                refine hK.out _ _ (fun _ => D6.out) (fun _ => ?_)
                clear hK K t6 OQ DQ IQ MQ CQ GW NQ d0
                try simp only [Act.put, List.setIfInBounds_toArray, List.set_cons_zero, List.set_cons_succ]
                refine onlyL (i := 4) (by kernel_rfl) rfl (by rfl) (fun K hK => ?_)
                go_simp
                refine hK.out _ _ (fun _ => D6.out.alloc _) (fun _ => ?_)
                clear hK K
                try simp only [Act.put, List.setIfInBounds_toArray, List.set_cons_zero, List.set_cons_succ]
                refine onlyL (i := 5) (by kernel_rfl) rfl (by rfl) (fun K hK => ?_)
                have hvl : vs.length = i := by rw [O6.out.2.1.1]; exact HBL.out
                have hown : w6.ownsRow w4.heap.size 23 1 bv vs.length vs := O6.out.1.1
                rw [← hu6]
                refine wp_pushL (.tmp 51) (.tmp 54) 24 55 rfl rfl 23 (.slice none 0 0) 24 Tryz.underlying24 Tryz.infoL rfl w4.heap.size u6 bv vs.length vs hown rfl w6.heap.size rfl rfl (by rw [hu6]; rfl) (by unfold maxLen; omega) (by omega) (by omega) ?_
                intro v7 w7 hown7 hg7
                have hbv : ∀ q, bv.ownBlock = some q → w4.heap.size ≤ q ∧ q < wo.heap.size := fun q hq => ⟨(O6.out.1.1.lt q hq).1, O6.out.1.2 q hq⟩
                have O7 := Lib.hid (Ioo.push O6.out U6.out (Nat.le_refl _) (by omega) hwr hown7 hg7)
                have hne : ∀ q, q < w4.heap.size → bv.ownBlock ≠ some q := fun q hq e => by have := hbv q e; omega
                have D7 := Lib.hid (D6.out.of_block (hg7.block D6.out.lt (hne _ (by omega))))
                have M7 := Lib.hid (M6.out.of_block (hg7.block M6.out.lt (hne _ (by omega))))
                have I7 : Hid (Io w3.heap.size w4.heap.size w7 (.slice fa j fc) fs) := Lib.hid (hg7.ro I6.out (apart_lt (B := w4.heap.size) (fun q hq => I6.out.2 q hq) (fun q hq => (hbv q hq).1)))
                have C7 := Lib.hid (C6.out.push hg7 (fun q hq => by have := hbv q hq; omega))
                have G7 := Lib.hid (gb_push G6.out hg7 (fun q hq => by have := hbv q hq; omega))
                have hs7 : w6.heap.size ≤ w7.heap.size := hg7.size
                obtain ⟨v7a, v7c, e5⟩ := O7.out.1.form
                rw [show (vs ++ [u6]).length = i + 1 by simp [hvl]] at e5
                have d5 := D7.out.cell 1
                have f5 := D7.out.frozen 1
                clear hown hown7 hbv hne O6 D6 I6 M6 C6 G6 hg7
                refine hK.out _ _ (fun _ => D7.out) (fun hHeld => ?_)
                have hHeld := hHeld (by decide)
                clear hK K
                try simp only [Act.put, List.setIfInBounds_toArray, List.set_cons_zero, List.set_cons_succ]
                refine takeA (i := 6) (v := .pointer (some ⟨c, 1, none⟩)) 56 rfl rfl (by kernel_rfl) (by kernel_rfl) (by kernel_rfl) (by kernel_rfl) (fun _ _ _ h => h) (Or.inl ⟨by rfl, by intro W hSw; go_simp⟩) hHeld ?_
                simp only [Act.put, List.setIfInBounds_toArray, List.set_cons_zero, List.set_cons_succ]
                refine onlyL (i := 7) (by kernel_rfl) rfl (by rfl) (fun K hK => ?_)
                simp only [List.getElem?_cons_succ, List.getElem?_cons_zero] at d5
                subst e5
                go_simp
                refine hK.out _ _ (fun h => absurd (by decide) h) (fun _ => ?_)
                clear hK K hHeld
                refine doneL (by kernel_rfl) ?_ _
                clear d5 f5
                go_wp2
                go_roundw
                case rel =>
                  refine ⟨i + 1, _, vs ++ [u6], bl ++ [num ls], by omega, by go_num, by simp [HBL.out], Lib.hid (fun l hl => ?_), Lib.hid (D7.out.set 1 _), Lib.hid ?_, Lib.hid (I7.out.keeps (Keeps.setCell _ _ _ _ (.inl (by omega)))), Lib.hid (M7.out.other (by omega) _ _), Lib.hid (C7.out.set (by omega) (by omega) _ _), Lib.hid (gb_set G7.out (by omega) _), by simp [World.setCell]; omega⟩
                  · rcases List.mem_append.1 hl with h | h
                    · exact HB.out l h
                    · simp at h; subst h; exact ⟨by rw [num_len]; exact HLL.out, num_ord ls⟩
                  · exact (O7.out.keeps (Keeps.setCell w7 c 1 (.slice v7a (i + 1) v7c) (.inl (by omega)))).wide (Nat.le_refl _) (Keeps.setCell (lo := 0) (hi := 0) w7 c 1 (.slice v7a (i + 1) v7c) (.inr (Nat.zero_le _))).size
                case measure => simp [intOf]; omega
          · obtain rfl : i = 3 := by omega
            obtain ⟨ba, bc, e5⟩ := OR.out.1.form
            have hvl : vs.length = 3 := by rw [OR.out.2.1.1]; exact HBL.out
            rw [hvl] at e5
            subst e5
            obtain ⟨m0, m1, m2, m3, m4, m5⟩ := MR.out
            go_wp2_with (refine wpList_loadM rfl 26 _ rfl c 0 rfl 26 _ [.slice fa k fc, .slice ba 3 bc, .int .i64 act] DR.out (fun j _ => by rw [Nat.zero_add]) _ Tryz.underlying26 rfl Tryz.sizeMd ?_)
            clear m0 m1 m2 m3 m4 m5
            have hO : Mo w3.heap.size wo.heap.size wo (.agg #[.slice fa k fc, .slice ba 3 bc, .int .i64 act]) ⟨fs, bl, act⟩ := ⟨_, _, vs, rfl, IR.out.wide (Nat.le_refl _) hwr, OR.out.wide hs4 (Nat.le_refl _), fun u hu => by
              refine apart_lt (B := w4.heap.size) (fun q hq => IR.out.2 q hq) (fun q hq => ?_)
              rcases List.mem_cons.1 hu with rfl | hu
              · exact (OR.out.1.1.lt q hq).1
              · exact (OR.out.2.1.blk hu q hq).1⟩
            have hb : w.heap.size < w3.heap.size := by omega
            refine bodyPost_ret (results_mid1 Tryz.results51 _ _ w.heap.size _ _ rfl (MR.out.write (.slice fa k fc) (.slice ba 3 bc) act).range Tryz.underlying26 rfl Tryz.sizeMd) rfl ?_
            exact ⟨_, ⟨fs, bl, act⟩, rfl, (hO.keeps (((Keeps.setCell _ _ _ _ (.inl hb)).set (.inl hb) _ _).set (.inl hb) _ _)).wide (by omega) (by simp [World.setCell]), ⟨drawn_ok (by rw [HFL.out]; exact hN1) (by rw [HFL.out]; omega) (by rw [HBL.out]; decide) (by rw [HBL.out]; decide) HF.out (fun l hl => by rw [HFL.out]; exact HB.out l hl) (Int.natCast_nonneg _) (by rw [HFL.out]; omega), by show fs.length ≤ most; rw [HFL.out]; exact hN16, by show 2 ≤ bl.length; rw [HBL.out]; decide, HF.out⟩, ((CR.out.set (by omega) (by omega) _ _).set (by omega) (by omega) _ _).set (by omega) (by omega) _ _, gb_set (gb_set (gb_set GR.out (Nat.le_refl _) _) (Nat.le_refl _) _) (Nat.le_refl _) _⟩
end Go.Proofs.YtodjohdbngbpaaaGreat

/-
  Contract of spec.MakeModel: the model that is drawn is valid and owned. Condition: the code has at most 1048576 bytes; 7 worlds are asked for.
-/
namespace Go.Proofs.YtodjohdbngbpaaaGreat
open Go.RowKit Go.WideShapes
open Go Go.Deep
set_option linter.unusedSimpArgs false

set_option maxRecDepth 100000 in
set_option maxHeartbeats 16000000 in
theorem makeModel_any (W : World) (cv : Value) (n q : Nat) (hn : n ≤ 1000) (hq : q = 5 ∨ q = 6 ∨ q = 7) (hk : CodeOk W cv) :
    Calls Tryz.prog 10 #[cv, .int .i64 n, .int .i64 q] W fun e w' => ∃ v m, e = .returned v ∧ Mo W.heap.size w'.heap.size w' v m ∧ drawnM m q ∧ Below W.heap.size W w' := by
  have HK := Lib.hid hk
  clear hk
  have hq1 : (1 : Int) ≤ (q : Int) := by omega
  have hq7 : (q : Int) ≤ 7 := by omega
  go_enter Tryz.func10, Tryz.ntmps10
  go_wp2_with fail
  have m0 : Mcell (W.alloc (.cells #[.slice none 0 0, .slice none 0 0, .int .i64 0] 26)) W.heap.size (.slice none 0 0) (.slice none 0 0) 0 := Mcell.new rfl
  have b0 : Below W.heap.size W (W.alloc (.cells #[.slice none 0 0, .slice none 0 0, .int .i64 0] 26)) := by go_grown
  have k0 := HK.out.below b0 (Nat.le_refl _)
  generalize W.alloc (.cells #[.slice none 0 0, .slice none 0 0, .int .i64 0] 26) = w0 at *
  have M0 := Lib.hid m0
  have B0 := Lib.hid b0
  have K0 := Lib.hid k0
  have lt0 : W.heap.size < w0.heap.size := m0.lt
  clear m0 b0 k0 HK
  refine (newAt_any w0 cv n hn K0.out).mono ?_
  rintro e w1 ⟨b, rfl, hc⟩
  have C1 := Lib.hid hc
  have hbb : w0.heap.size ≤ b := hc.2.1
  have s1 : w0.heap.size ≤ w1.heap.size := hc.1.size
  have M1 := Lib.hid (M0.out.below hc.1)
  have B1 := Lib.hid (B0.out.trans (hc.1.mono B0.out.size))
  clear hc M0 B0
  go_wp2_with fail
  refine (draw_any w0 w1 b cv q (by omega) (by omega) K0.out C1.out).mono ?_
  rintro e w2 ⟨v, m, rfl, hmo, hdr, hc2, hg2⟩
  have M2 := Lib.hid (M1.out.of_block (hg2.block _ M1.out.lt (by simp; omega)))
  have O2 := Lib.hid hmo
  have D2 := Lib.hid hdr
  have s2 : w1.heap.size ≤ w2.heap.size := hg2.size
  have B2 : Hid (Below W.heap.size W w2) := Lib.hid (Below.trans (B1.out.mono (Nat.le_refl _)) ⟨hg2.os, hg2.tape, hg2.output, hg2.size, fun k hk => hg2.block k (by omega) (by simp; omega)⟩)
  clear hmo hdr hc2 hg2 C1 M1 B1
  obtain ⟨fa, fc, ba, bc, e3⟩ := O2.out.read.form
  subst e3
  obtain ⟨m0, m1, m2, m3, m4, m5⟩ := M2.out
  go_wp2
  obtain ⟨o3, b3, m3⟩ := ans_put M2.out O2.out (by omega) (Nat.le_refl _) (Nat.le_refl _) B2.out
  refine bodyPost_ret (results_mid1 Tryz.results10 _ _ W.heap.size _ _ rfl m3.range Tryz.underlying26 rfl Tryz.sizeMd) rfl ?_
  exact ⟨_, m, rfl, o3, D2.out, b3⟩
end Go.Proofs.YtodjohdbngbpaaaGreat
