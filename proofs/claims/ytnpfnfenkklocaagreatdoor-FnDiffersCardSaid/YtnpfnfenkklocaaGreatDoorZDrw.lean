/- ZDrw -/
import Derived.Test.YtnpfnfenkklocaaGreatDoorDrc
import Derived.Test.YtnpfnfenkklocaaGreatDoorZSet
set_option maxRecDepth 100000
set_option maxHeartbeats 64000000
namespace Go.Proofs.YtnpfnfenkklocaaGreatDoor
open Go.RowKit Go.WideShapes
open Go Go.Deep
set_option linter.unusedSimpArgs false
theorem drawn_ok {fs : List Int} {bl : List (List Int)} {act : Int} (h1 : 1 ≤ fs.length) (h16 : fs.length ≤ 16) (hb1 : 1 ≤ bl.length) (hb3 : bl.length ≤ 3) (hf : ∀ f ∈ fs, 0 ≤ f ∧ f < 8)
    (hb : ∀ l ∈ bl, l.length = fs.length ∧ ordOk l = true) (ha0 : 0 ≤ act) (ha : act < fs.length) : mdOk ⟨fs, bl, act⟩ = true := by
  rw [← specOk_mdOk]
  have hg : ∀ k, k < bl.length → bl.getD k [] ∈ bl := fun k hk => by rw [List.getD_eq_getElem?_getD, List.getElem?_eq_getElem hk]; exact List.getElem_mem _
  have hg2 : ∀ k, k < fs.length → fs.getD k 0 ∈ fs := fun k hk => by rw [List.getD_eq_getElem?_getD, List.getElem?_eq_getElem hk]; exact List.getElem_mem _
  unfold specOk inB
  simp only [Bool.and_eq_true, decide_eq_true_eq, List.all_eq_true, List.mem_range, beq_iff_eq]
  exact ⟨⟨⟨⟨⟨h1, h16⟩, hb1, hb3⟩, ha0, ha⟩, fun j hj => by have := hf _ (hg2 j hj); exact ⟨by omega, by omega⟩⟩, fun k hk => hb _ (hg k hk)⟩
def drawnM (m : Md) (most : Nat) : Prop := mdOk m = true ∧ m.facts.length ≤ most ∧ 2 ≤ m.blocks.length ∧ ∀ f ∈ m.facts, 0 ≤ f ∧ f < 8
def DrawAns (W w : World) (b : Nat) (cv : Value) (most : Nat) (e : Ending) (w' : World) : Prop := ∃ v m, e = .returned v ∧ Mo w.heap.size w'.heap.size w' v m ∧ drawnM m most ∧ Cur W w' b cv ∧ w.grownBy w' (some b)
theorem draw_any (W w : World) (b : Nat) (cv : Value) (most : Nat) (h1 : 1 ≤ most) (h16 : most ≤ 16) (hk : CodeOk W cv) (hc : Cur W w b cv) :
    Calls Tryz.prog 39 #[.pointer (some ⟨b, 0, none⟩), .int .i64 most] w (DrawAns W w b cv most) := by
  have KB := hid (fun n hn hn2 w' hc' => below_small W w' b cv n hn hn2 hk hc')
  have KO := hid (fun n hn hn2 w' hc' => once_any W w' b cv n hn hn2 hk hc')
  have CW := hid hc
  have hbw : b < w.heap.size := hc.lt
  have hWw : W.heap.size ≤ b := hc.2.1
  clear hc hk
  go_enter Tryz.func39, Tryz.ntmps39
  go_wp2_with fail
  refine (KB.out _ (by omega) (by omega) _ (CW.out.alloc _)).mono ?_
  rintro e w1 ⟨x, rfl, hx0, hx1, hc1, hg1⟩
  obtain ⟨x, rfl⟩ := Int.eq_ofNat_of_zero_le hx0
  have C1 := hid hc1
  have m0 : Mcell (w.alloc (.cells #[.slice none 0 0, .slice none 0 0, .int .i64 0] 30)) w.heap.size (.slice none 0 0) (.slice none 0 0) 0 := Mcell.new rfl
  have M1 := hid (m0.of_block (hg1.block _ m0.lt (by simp; omega)))
  have G1 : Hid (w.grownBy w1 (some b)) := hid (grown_trans (World.grownBy_alloc w _ _) hg1)
  have lt1 : w.heap.size < w1.heap.size := M1.out.lt
  clear m0 hc1 hg1 CW
  obtain ⟨N, hN⟩ : ∃ N : Nat, (1 + (x : Int)) = (N : Int) := ⟨1 + x, by omega⟩
  go_wp2_with fail
  have hN1 : 1 ≤ N := by omega
  have hN16 : N ≤ most := by omega
  clear hN hx0 hx1
  refine (KB.out _ (by omega) (by omega) _ C1.out).mono ?_
  rintro e w2 ⟨act, rfl, ha0, ha1, hc2, hg2⟩
  have C2 := hid hc2
  have M2 := hid (M1.out.of_block (hg2.block _ M1.out.lt (by simp; omega)))
  have G2 : Hid (w.grownBy w2 (some b)) := hid (grown_trans G1.out hg2)
  have lt2 : w.heap.size < w2.heap.size := M2.out.lt
  clear hc2 hg2 C1 M1 G1 lt1
  go_wp2
  obtain ⟨act, rfl⟩ := Int.eq_ofNat_of_zero_le ha0
  have hact : act < N := by omega
  have d3 : Cm (w2.alloc (.cells #[.slice none 0 0, .slice none 0 0, .int .i64 act] 30)) w2.heap.size 30 [.slice none 0 0, .slice none 0 0, .int .i64 act] := Cm.new rfl
  have c3 : Cur W (w2.alloc (.cells #[.slice none 0 0, .slice none 0 0, .int .i64 act] 30)) b cv := C2.out.alloc _
  have m3 : Mcell (w2.alloc (.cells #[.slice none 0 0, .slice none 0 0, .int .i64 act] 30)) w.heap.size (.slice none 0 0) (.slice none 0 0) 0 := M2.out.alloc _
  have g3 : w.grownBy (w2.alloc (.cells #[.slice none 0 0, .slice none 0 0, .int .i64 act] 30)) (some b) := gb_alloc G2.out _
  generalize w2.alloc (.cells #[.slice none 0 0, .slice none 0 0, .int .i64 act] 30) = w3 at *
  have D3 := hid d3
  have C3 := hid c3
  have M3 := hid m3
  have G3 := hid g3
  have lt3 : w2.heap.size < w3.heap.size := d3.lt
  clear C2 M2 G2 d3 c3 m3 g3
  obtain ⟨c, hcc⟩ : ∃ c, c = w2.heap.size := ⟨_, rfl⟩
  rw [← hcc] at D3 lt2 lt3 ⊢
  clear hcc
  go_loopw [7] (fun iv wr => ∃ (k : Nat) (fv : Value) (fs : List Int), k ≤ N ∧ iv = .int .i64 k ∧ fs.length = k ∧ Hid (∀ f ∈ fs, 0 ≤ f ∧ f < 8) ∧ Hid (Cm wr c 30 [fv, .slice none 0 0, .int .i64 act]) ∧ Hid (wr.ownsRow w3.heap.size 3 1 fv k (ints fs)) ∧ Hid (Mcell wr w.heap.size (.slice none 0 0) (.slice none 0 0) 0) ∧ Hid (Cur W wr b cv) ∧ Hid (w.grownBy wr (some b)) ∧ w3.heap.size ≤ wr.heap.size) (fun iv _ => N - (intOf iv).toNat)
  case atStart => exact ⟨0, _, [], Nat.zero_le _, rfl, rfl, hid (fun f hf => by cases hf), D3, hid (World.ownsRow_nil _ _ _ _), M3, C3, G3, Nat.le_refl _⟩
  case round =>
    clear D3 C3 M3 G3
    obtain ⟨k, fv, fs, hk, rfl, hfl, HF, DR, OR, MR, CR, GR, hwr⟩ := hrel
    by_cases hlt : k < N
    · have hlt' : (k : Int) < (N : Int) := by omega
      have HFL := hid hfl
      clear hfl
      go_wp2
      have d0 : Hid (∀ V, Cm V c 30 [fv, .slice none 0 0, .int .i64 act] → V.cell? ⟨c, 0, none⟩ = some fv) := hid (fun V h => h.cell 0)
      refine regionL (fun V => Cm V c 30 [fv, .slice none 0 0, .int .i64 act]) [7] (by kernel_rfl) DR.out (fun hHeld => ?_)
      refine takeA (i := 0) (v := .pointer (some ⟨c, 0, none⟩)) 25 rfl rfl (by kernel_rfl) (by kernel_rfl) (by kernel_rfl) (by kernel_rfl) (fun _ _ _ h => h) (Or.inl ⟨by rfl, by intro W hSw; go_simp⟩) hHeld ?_
      simp only [Act.put, zA, zB, zC]
      refine takeA (i := 1) (v := fv) 26 rfl rfl (by kernel_rfl) (by kernel_rfl) (by kernel_rfl) (by kernel_rfl) (fun _ _ _ h => h) (Or.inl ⟨by rfl, by intro W hSw; have d1 := d0.out _ hSw; go_simp⟩) hHeld ?_
      simp only [Act.put, zA, zB, zC]
      refine takeA (i := 2) (v := .pointer (some ⟨b, 0, none⟩)) 27 rfl rfl (by kernel_rfl) (by kernel_rfl) (by kernel_rfl) (by kernel_rfl) (fun _ _ _ h => h) (Or.inl ⟨by rfl, by intro W hSw; go_simp⟩) hHeld ?_
      simp only [Act.put, zA, zB, zC]
      refine onlyL (i := 3) (by kernel_rfl) rfl (by rfl) (fun K hK => ?_)
      go_simp
      refine (KB.out 8 (by omega) (by omega) _ (CR.out.kept (grown_drewN wr 1 none) (by simp) (fun k hk => by cases hk))).mono ?_
      rintro e w6 ⟨f, rfl, hf0, hf8, hc6, hg6⟩
      have gd : wr.grownBy w6 (some b) := grown_trans (grown_drewN wr 1 (some b)) hg6
      have D6 := hid (DR.out.of_block (gd.block _ DR.out.lt (by simp; omega)))
      have M6 := hid (MR.out.of_block (gd.block _ MR.out.lt (by simp; omega)))
      have C6 := hid hc6
      have O6 := hid (OR.out.kept gd (.inr (fun e => by have := (OR.out.lt _ e).1; omega)))
      have G6 := hid (grown_trans GR.out gd)
      have hs6 : wr.heap.size ≤ w6.heap.size := gd.size
      have HFB := hid (fun q (hq : fv.ownBlock = some q) => (OR.out.lt q hq).1)
      clear hc6 hg6 gd hHeld
      refine hK.out _ _ (fun _ => D6.out) (fun _ => ?_)
      clear hK K OR DR MR CR GR d0
      try simp only [Act.put, zA, zB, zC]
      refine onlyL (i := 4) (by kernel_rfl) rfl (by rfl) (fun K hK => ?_)
      go_simp
      refine hK.out _ _ (fun _ => D6.out.alloc _) (fun _ => ?_)
      clear hK K
      try simp only [Act.put, zA, zB, zC]
      refine onlyL (i := 5) (by kernel_rfl) rfl (by rfl) (fun K hK => ?_)
      refine wp_pushL (.tmp 26) (.tmp 29) 22 30 rfl rfl 3 (.int .i64 0) 8 Tryz.underlying22 Tryz.infoI rfl w3.heap.size (.int .i64 f) fv k (ints fs) O6.out rfl w6.heap.size rfl rfl rfl (by unfold maxLen; omega) (by omega) (by omega) ?_
      intro v7 w7 hown7 hg7
      have D7 := hid (D6.out.of_block (hg7.block D6.out.lt (fun e => by have := HFB.out _ e; omega)))
      have M7 := hid (M6.out.of_block (hg7.block M6.out.lt (fun e => by have := HFB.out _ e; omega)))
      have C7 := hid (C6.out.push hg7 (fun q hq => by have := HFB.out _ hq; omega))
      have G7 := hid (gb_push G6.out hg7 (fun q hq => by have := HFB.out _ hq; omega))
      obtain ⟨va7, vc7, e7⟩ := own_form hown7
      subst e7
      have O7 := hid hown7
      have hs7 : w6.heap.size ≤ w7.heap.size := hg7.size
      have d5 := D7.out.cell 0
      have f5 := D7.out.frozen 0
      clear hown7 hg7 D6 M6 C6 G6 O6
      refine hK.out _ _ (fun _ => D7.out) (fun hHeld => ?_)
      have hHeld := hHeld (by decide)
      clear hK K
      try simp only [Act.put, zA, zB, zC]
      refine takeA (i := 6) (v := .pointer (some ⟨c, 0, none⟩)) 31 rfl rfl (by kernel_rfl) (by kernel_rfl) (by kernel_rfl) (by kernel_rfl) (fun _ _ _ h => h) (Or.inl ⟨by rfl, by intro W hSw; go_simp⟩) hHeld ?_
      simp only [Act.put, zA, zB, zC]
      refine onlyL (i := 7) (by kernel_rfl) rfl (by rfl) (fun K hK => ?_)
      simp only [List.getElem?_cons_zero] at d5
      go_simp
      refine hK.out _ _ (fun h => absurd (by decide) h) (fun _ => ?_)
      clear hK K hHeld
      refine doneL (by kernel_rfl) ?_ _
      clear d5 f5
      go_wp2
      go_roundw
      case rel =>
        refine ⟨k + 1, _, fs ++ [f], by omega, by go_num, by simp [HFL.out], hid (fun y hy => ?_), hid (D7.out.set 0 _), hid ?_, hid (M7.out.other (by omega) _ _), hid (C7.out.set (by omega) (by omega) _ _), hid (gb_set G7.out (by omega) _), by simp [World.setCell]; omega⟩
        · rcases List.mem_append.1 hy with h | h
          · exact HF.out y h
          · simp at h; subst h; exact ⟨hf0, hf8⟩
        · rw [ints_app]
          exact O7.out.kept (grown_set w7 c 0 _) (.inr (fun e => by have := (O7.out.lt _ e).1; omega))
      case measure => simp [intOf]; omega
    · obtain rfl : k = N := by omega
      obtain ⟨fa, fc, rfl⟩ := own_form OR.out
      have IR := hid (Ro.of_own OR.out)
      have HFL := hid hfl
      clear hfl OR
      obtain ⟨w5, rfl⟩ : ∃ w5 : World, w5 = wr := ⟨_, rfl⟩
      go_wp2_with fail
      refine (KO.out 5 (by omega) (by omega) _ CR.out).mono ?_
      rintro e w4 ⟨ob, rfl, hc4, hg4⟩
      have D4 := hid (DR.out.of_block (hg4.block _ DR.out.lt (by simp; omega)))
      have M4 := hid (MR.out.of_block (hg4.block _ MR.out.lt (by simp; omega)))
      have C4 := hid hc4
      have I4 : Hid (Io w3.heap.size w4.heap.size w4 (.slice fa k fc) fs) := hid ((IR.out.keeps (keeps_gb hg4 (by omega))).wide (Nat.le_refl _) hg4.size)
      have G4 := hid (grown_trans GR.out hg4)
      have hs4 : w3.heap.size ≤ w4.heap.size := Nat.le_trans hwr hg4.size
      clear hc4 hg4 DR MR CR IR GR hwr
      cases ob with
      | false =>
        go_wp2
        go_loopw [9] (fun iv wr => ∃ (i : Nat) (bv : Value) (vs : List Value) (bl : List (List Int)), i ≤ 2 ∧ iv = .int .i64 i ∧ bl.length = i ∧ Hid (∀ l ∈ bl, l.length = k ∧ ordOk l = true) ∧ Hid (Cm wr c 30 [.slice fa k fc, bv, .int .i64 act]) ∧ Hid (Ioo w4.heap.size wr.heap.size wr bv vs bl) ∧ Hid (Io w3.heap.size w4.heap.size wr (.slice fa k fc) fs) ∧ Hid (Mcell wr w.heap.size (.slice none 0 0) (.slice none 0 0) 0) ∧ Hid (Cur W wr b cv) ∧ Hid (w.grownBy wr (some b)) ∧ w4.heap.size ≤ wr.heap.size) (fun iv _ => 2 - (intOf iv).toNat)
        case atStart => exact ⟨0, _, [], [], Nat.zero_le _, rfl, rfl, hid (fun l hl => by cases hl), D4, hid ⟨Ro.nil _ _ _ _, ⟨rfl, fun j hj => by simp at hj⟩, List.pairwise_singleton _ _⟩, I4, M4, C4, G4, Nat.le_refl _⟩
        case round =>
          clear D4 I4 M4 C4 G4
          obtain ⟨i, bv, vs, bl, hi, rfl, hbl, HB, DR, OR, IR, MR, CR, GR, hwr⟩ := hrel
          have HBL := hid hbl
          clear hbl
          obtain ⟨wo, rfl⟩ : ∃ wo : World, wo = wr := ⟨_, rfl⟩
          by_cases hlt : i < 2
          · have hlt' : (i : Int) < 2 := by omega
            go_wp2
            go_loopw [10, 11] (fun lv jv wr => ∃ (j : Nat) (lv' : Value) (ls : List Int), j ≤ k ∧ jv = .int .i64 j ∧ lv' = lv ∧ ls.length = j ∧ Hid (wr.ownsRow wo.heap.size 3 1 lv' j (ints ls)) ∧ Hid (Cur W wr b cv) ∧ Hid (wo.grownBy wr (some b))) (fun _ jv _ => k - (intOf jv).toNat)
            case atStart => exact ⟨0, _, [], Nat.zero_le _, rfl, rfl, rfl, hid (World.ownsRow_lit wo #[] 0 (Nat.le_refl _) (Nat.zero_le _) rfl), hid (CR.out.alloc _), hid (World.grownBy_alloc wo _ _)⟩
            case round =>
              obtain ⟨j, lv, ls, hj, rfl, rfl, hll, LQ, CQ, GQ⟩ := hrel
              have HLL := hid hll
              clear hll
              have hsq : wo.heap.size ≤ wr.heap.size := GQ.out.size
              by_cases hlj : j < k
              · have hlj' : (j : Int) < (k : Int) := by omega
                have tk1 : True := trivial
                have tk2 : True := trivial
                go_wp2_with
                  (first
                    | (have _t := tk1; clear _t tk1; go_at_call 72; (with_reducible refine (KB.out 3 (by omega) (by omega) _ CQ.out).mono ?_); rintro e w6 ⟨f, rfl, hf0, hf3, hc6, hg6⟩; have C6 := hid hc6; have L6 := hid (LQ.out.kept hg6 (.inr (fun e => by have := (LQ.out.lt _ e).1; omega))); have G6 := hid (grown_trans GQ.out hg6); have HLB : Hid (∀ q, lv.ownBlock = some q → wo.heap.size ≤ q) := hid (fun q hq => (LQ.out.lt q hq).1); have hs6 : wr.heap.size ≤ w6.heap.size := hg6.size; clear hc6 hg6)
                    | (have _t := tk2; clear _t tk2; at_builtin; refine wpList_pushL rfl (.tmp 45) (.tmp 48) 22 49 rfl rfl 3 (.int .i64 0) 8 Tryz.underlying22 Tryz.infoI rfl wo.heap.size (.int .i64 f) lv j (ints ls) L6.out rfl w6.heap.size rfl rfl rfl (by unfold maxLen; omega) (by omega) (by omega) ?_; intro v7 w7 hown hg; have L7 := hid hown; have C7 := hid (C6.out.push hg (fun q hq => by have := HLB.out _ hq; omega)); have G7 := hid (gb_push G6.out hg (fun q hq => HLB.out _ hq)); clear hown hg))
                go_roundw
                case rel =>
                  refine ⟨j + 1, _, ls ++ [f], by omega, by go_num, rfl, by simp [HLL.out], hid ?_, C7, G7⟩
                  rw [ints_app]
                  exact L7.out
                case measure => simp [intOf]; omega
              · obtain rfl : j = k := by omega
                have DQ := hid (DR.out.of_block (GQ.out.block _ DR.out.lt (by simp; omega)))
                have OQ := hid (OR.out.keeps (keeps_gb GQ.out (by omega)))
                have IQ : Hid (Io w3.heap.size w4.heap.size wr (.slice fa j fc) fs) := hid (IR.out.keeps (keeps_gb GQ.out (by omega)))
                have MQ := hid (MR.out.of_block (GQ.out.block _ MR.out.lt (by simp; omega)))
                have GW := hid (grown_trans GR.out GQ.out)
                have NQ : Hid (Io wo.heap.size wr.heap.size wr lv ls) := hid (Ro.of_own LQ.out)
                clear DR OR IR MR CR GR LQ GQ
                go_wp2
                have d0 : Hid (∀ V, Cm V c 30 [.slice fa j fc, bv, .int .i64 act] → V.cell? ⟨c, 1, none⟩ = some bv) := hid (fun V h => h.cell 1)
                refine regionL (fun V => Cm V c 30 [.slice fa j fc, bv, .int .i64 act]) [7] (by kernel_rfl) DQ.out (fun hHeld => ?_)
                refine takeA (i := 0) (v := .pointer (some ⟨c, 1, none⟩)) 50 rfl rfl (by kernel_rfl) (by kernel_rfl) (by kernel_rfl) (by kernel_rfl) (fun _ _ _ h => h) (Or.inl ⟨by rfl, by intro W hSw; go_simp⟩) hHeld ?_
                simp only [Act.put, zA, zB, zC]
                refine takeA (i := 1) (v := bv) 51 rfl rfl (by kernel_rfl) (by kernel_rfl) (by kernel_rfl) (by kernel_rfl) (fun _ _ _ h => h) (Or.inl ⟨by rfl, by intro W hSw; have d1 := d0.out _ hSw; go_simp⟩) hHeld ?_
                simp only [Act.put, zA, zB, zC]
                refine takeA (i := 2) (v := lv) 52 rfl rfl (by kernel_rfl) (by kernel_rfl) (by kernel_rfl) (by kernel_rfl) (fun _ _ _ h => h) (Or.inl ⟨by rfl, by intro W hSw; go_simp⟩) hHeld ?_
                simp only [Act.put, zA, zB, zC]
                refine onlyL (i := 3) (by kernel_rfl) rfl (by rfl) (fun K hK => ?_)
                go_simp
                refine (specNumber_any _ _ lv ls wr.drew (NQ.out.keeps (Keeps.of_all (Below.refl _ _).drew)).read (by have := HLL.out; omega)).mono ?_
                rintro e w6 ⟨u6, rfl, ho6, hb6⟩
                obtain ⟨ua6, uc6, eu6⟩ := ho6.form
                subst eu6
                obtain ⟨u6, hu6⟩ : ∃ u, u = Value.slice ua6 (num ls).length uc6 := ⟨_, rfl⟩
                have t6 : Below wr.heap.size wr w6 := Below.trans (Below.refl _ _).drew hb6
                have U6 : Hid (Io wo.heap.size w6.heap.size w6 u6 (num ls)) := hid (by rw [hu6]; exact ho6.wide hsq (Nat.le_refl _))
                have O6 := hid (OQ.out.keeps (Keeps.of_all t6))
                have D6 := hid (DQ.out.all t6)
                have I6 : Hid (Io w3.heap.size w4.heap.size w6 (.slice fa j fc) fs) := hid (IQ.out.keeps (Keeps.of_all t6))
                have M6 := hid (MQ.out.below t6)
                have C6 := hid (CQ.out.belowC t6)
                have G6 := hid (gb_below GW.out t6)
                have hs6 : wr.heap.size ≤ w6.heap.size := t6.size
                clear ho6 hb6 hHeld
                refine hK.out _ _ (fun _ => D6.out) (fun _ => ?_)
                clear hK K t6 OQ DQ IQ MQ CQ GW NQ d0
                try simp only [Act.put, zA, zB, zC]
                refine onlyL (i := 4) (by kernel_rfl) rfl (by rfl) (fun K hK => ?_)
                go_simp
                refine hK.out _ _ (fun _ => D6.out.alloc _) (fun _ => ?_)
                clear hK K
                try simp only [Act.put, zA, zB, zC]
                refine onlyL (i := 5) (by kernel_rfl) rfl (by rfl) (fun K hK => ?_)
                have hvl : vs.length = i := by rw [O6.out.2.1.1]; exact HBL.out
                have hown : w6.ownsRow w4.heap.size 22 1 bv vs.length vs := O6.out.1.1
                rw [← hu6]
                refine wp_pushL (.tmp 51) (.tmp 54) 23 55 rfl rfl 22 (.slice none 0 0) 24 Tryz.underlying23 Tryz.infoL rfl w4.heap.size u6 bv vs.length vs hown rfl w6.heap.size rfl rfl (by rw [hu6]; rfl) (by unfold maxLen; omega) (by omega) (by omega) ?_
                intro v7 w7 hown7 hg7
                have hbv : ∀ q, bv.ownBlock = some q → w4.heap.size ≤ q ∧ q < wo.heap.size := fun q hq => ⟨(O6.out.1.1.lt q hq).1, O6.out.1.2 q hq⟩
                have O7 := hid (Ioo.push O6.out U6.out (Nat.le_refl _) (by omega) hwr hown7 hg7)
                have hne : ∀ q, q < w4.heap.size → bv.ownBlock ≠ some q := fun q hq e => by have := hbv q e; omega
                have D7 := hid (D6.out.of_block (hg7.block D6.out.lt (hne _ (by omega))))
                have M7 := hid (M6.out.of_block (hg7.block M6.out.lt (hne _ (by omega))))
                have I7 : Hid (Io w3.heap.size w4.heap.size w7 (.slice fa j fc) fs) := hid (hg7.ro I6.out (apart_lt (B := w4.heap.size) (fun q hq => I6.out.2 q hq) (fun q hq => (hbv q hq).1)))
                have C7 := hid (C6.out.push hg7 (fun q hq => by have := hbv q hq; omega))
                have G7 := hid (gb_push G6.out hg7 (fun q hq => by have := hbv q hq; omega))
                have hs7 : w6.heap.size ≤ w7.heap.size := hg7.size
                obtain ⟨v7a, v7c, e5⟩ := O7.out.1.form
                rw [show (vs ++ [u6]).length = i + 1 by simp [hvl]] at e5
                have d5 := D7.out.cell 1
                have f5 := D7.out.frozen 1
                clear hown hown7 hbv hne O6 D6 I6 M6 C6 G6 hg7
                refine hK.out _ _ (fun _ => D7.out) (fun hHeld => ?_)
                have hHeld := hHeld (by decide)
                clear hK K
                try simp only [Act.put, zA, zB, zC]
                refine takeA (i := 6) (v := .pointer (some ⟨c, 1, none⟩)) 56 rfl rfl (by kernel_rfl) (by kernel_rfl) (by kernel_rfl) (by kernel_rfl) (fun _ _ _ h => h) (Or.inl ⟨by rfl, by intro W hSw; go_simp⟩) hHeld ?_
                simp only [Act.put, zA, zB, zC]
                refine onlyL (i := 7) (by kernel_rfl) rfl (by rfl) (fun K hK => ?_)
                simp only [List.getElem?_cons_succ, List.getElem?_cons_zero] at d5
                subst e5
                go_simp
                refine hK.out _ _ (fun h => absurd (by decide) h) (fun _ => ?_)
                clear hK K hHeld
                refine doneL (by kernel_rfl) ?_ _
                clear d5 f5
                go_wp2
                go_roundw
                case rel =>
                  refine ⟨i + 1, _, vs ++ [u6], bl ++ [num ls], by omega, by go_num, by simp [HBL.out], hid (fun l hl => ?_), hid (D7.out.set 1 _), hid ?_, hid (I7.out.keeps (Keeps.setCell _ _ _ _ (.inl (by omega)))), hid (M7.out.other (by omega) _ _), hid (C7.out.set (by omega) (by omega) _ _), hid (gb_set G7.out (by omega) _), by simp [World.setCell]; omega⟩
                  · rcases List.mem_append.1 hl with h | h
                    · exact HB.out l h
                    · simp at h; subst h; exact ⟨by rw [num_len]; exact HLL.out, num_ord ls⟩
                  · exact (O7.out.keeps (Keeps.setCell w7 c 1 (.slice v7a (i + 1) v7c) (.inl (by omega)))).wide (Nat.le_refl _) (Keeps.setCell (lo := 0) (hi := 0) w7 c 1 (.slice v7a (i + 1) v7c) (.inr (Nat.zero_le _))).size
                case measure => simp [intOf]; omega
          · obtain rfl : i = 2 := by omega
            obtain ⟨ba, bc, e5⟩ := OR.out.1.form
            have hvl : vs.length = 2 := by rw [OR.out.2.1.1]; exact HBL.out
            rw [hvl] at e5
            subst e5
            obtain ⟨m0, m1, m2, m3, m4, m5⟩ := MR.out
            go_wp2_with (refine wpList_loadM rfl 30 _ rfl c 0 rfl 30 _ [.slice fa k fc, .slice ba 2 bc, .int .i64 act] DR.out (fun j _ => by rw [Nat.zero_add]) _ Tryz.underlying30 rfl Tryz.sizeMd ?_)
            clear m0 m1 m2 m3 m4 m5
            have hO : Mo w3.heap.size wo.heap.size wo (.agg #[.slice fa k fc, .slice ba 2 bc, .int .i64 act]) ⟨fs, bl, act⟩ := ⟨_, _, vs, rfl, IR.out.wide (Nat.le_refl _) hwr, OR.out.wide hs4 (Nat.le_refl _), fun u hu => by
              refine apart_lt (B := w4.heap.size) (fun q hq => IR.out.2 q hq) (fun q hq => ?_)
              rcases List.mem_cons.1 hu with rfl | hu
              · exact (OR.out.1.1.lt q hq).1
              · exact (OR.out.2.1.blk hu q hq).1⟩
            have hb : w.heap.size < w3.heap.size := by omega
            refine bodyPost_ret (results_mid1 Tryz.results39 _ _ w.heap.size _ _ rfl (MR.out.write (.slice fa k fc) (.slice ba 2 bc) act).range Tryz.underlying30 rfl Tryz.sizeMd) rfl ?_
            exact ⟨_, ⟨fs, bl, act⟩, rfl, (hO.keeps (((Keeps.setCell _ _ _ _ (.inl hb)).set (.inl hb) _ _).set (.inl hb) _ _)).wide (by omega) (by simp [World.setCell]), ⟨drawn_ok (by rw [HFL.out]; exact hN1) (by rw [HFL.out]; omega) (by rw [HBL.out]; decide) (by rw [HBL.out]; decide) HF.out (fun l hl => by rw [HFL.out]; exact HB.out l hl) (Int.natCast_nonneg _) (by rw [HFL.out]; omega), by show fs.length ≤ most; rw [HFL.out]; exact hN16, by show 2 ≤ bl.length; rw [HBL.out]; decide, HF.out⟩, ((CR.out.set (by omega) (by omega) _ _).set (by omega) (by omega) _ _).set (by omega) (by omega) _ _, gb_set (gb_set (gb_set GR.out (Nat.le_refl _) _) (Nat.le_refl _) _) (Nat.le_refl _) _⟩
      | true =>
        go_wp2
        go_loopw [9] (fun iv wr => ∃ (i : Nat) (bv : Value) (vs : List Value) (bl : List (List Int)), i ≤ 3 ∧ iv = .int .i64 i ∧ bl.length = i ∧ Hid (∀ l ∈ bl, l.length = k ∧ ordOk l = true) ∧ Hid (Cm wr c 30 [.slice fa k fc, bv, .int .i64 act]) ∧ Hid (Ioo w4.heap.size wr.heap.size wr bv vs bl) ∧ Hid (Io w3.heap.size w4.heap.size wr (.slice fa k fc) fs) ∧ Hid (Mcell wr w.heap.size (.slice none 0 0) (.slice none 0 0) 0) ∧ Hid (Cur W wr b cv) ∧ Hid (w.grownBy wr (some b)) ∧ w4.heap.size ≤ wr.heap.size) (fun iv _ => 3 - (intOf iv).toNat)
        case atStart => exact ⟨0, _, [], [], Nat.zero_le _, rfl, rfl, hid (fun l hl => by cases hl), D4, hid ⟨Ro.nil _ _ _ _, ⟨rfl, fun j hj => by simp at hj⟩, List.pairwise_singleton _ _⟩, I4, M4, C4, G4, Nat.le_refl _⟩
        case round =>
          clear D4 I4 M4 C4 G4
          obtain ⟨i, bv, vs, bl, hi, rfl, hbl, HB, DR, OR, IR, MR, CR, GR, hwr⟩ := hrel
          have HBL := hid hbl
          clear hbl
          obtain ⟨wo, rfl⟩ : ∃ wo : World, wo = wr := ⟨_, rfl⟩
          by_cases hlt : i < 3
          · have hlt' : (i : Int) < 3 := by omega
            go_wp2
            go_loopw [10, 11] (fun lv jv wr => ∃ (j : Nat) (lv' : Value) (ls : List Int), j ≤ k ∧ jv = .int .i64 j ∧ lv' = lv ∧ ls.length = j ∧ Hid (wr.ownsRow wo.heap.size 3 1 lv' j (ints ls)) ∧ Hid (Cur W wr b cv) ∧ Hid (wo.grownBy wr (some b))) (fun _ jv _ => k - (intOf jv).toNat)
            case atStart => exact ⟨0, _, [], Nat.zero_le _, rfl, rfl, rfl, hid (World.ownsRow_lit wo #[] 0 (Nat.le_refl _) (Nat.zero_le _) rfl), hid (CR.out.alloc _), hid (World.grownBy_alloc wo _ _)⟩
            case round =>
              obtain ⟨j, lv, ls, hj, rfl, rfl, hll, LQ, CQ, GQ⟩ := hrel
              have HLL := hid hll
              clear hll
              have hsq : wo.heap.size ≤ wr.heap.size := GQ.out.size
              by_cases hlj : j < k
              · have hlj' : (j : Int) < (k : Int) := by omega
                have tk3 : True := trivial
                have tk4 : True := trivial
                go_wp2_with
                  (first
                    | (have _t := tk3; clear _t tk3; go_at_call 72; (with_reducible refine (KB.out 3 (by omega) (by omega) _ CQ.out).mono ?_); rintro e w6 ⟨f, rfl, hf0, hf3, hc6, hg6⟩; have C6 := hid hc6; have L6 := hid (LQ.out.kept hg6 (.inr (fun e => by have := (LQ.out.lt _ e).1; omega))); have G6 := hid (grown_trans GQ.out hg6); have HLB : Hid (∀ q, lv.ownBlock = some q → wo.heap.size ≤ q) := hid (fun q hq => (LQ.out.lt q hq).1); have hs6 : wr.heap.size ≤ w6.heap.size := hg6.size; clear hc6 hg6)
                    | (have _t := tk4; clear _t tk4; at_builtin; refine wpList_pushL rfl (.tmp 45) (.tmp 48) 22 49 rfl rfl 3 (.int .i64 0) 8 Tryz.underlying22 Tryz.infoI rfl wo.heap.size (.int .i64 f) lv j (ints ls) L6.out rfl w6.heap.size rfl rfl rfl (by unfold maxLen; omega) (by omega) (by omega) ?_; intro v7 w7 hown hg; have L7 := hid hown; have C7 := hid (C6.out.push hg (fun q hq => by have := HLB.out _ hq; omega)); have G7 := hid (gb_push G6.out hg (fun q hq => HLB.out _ hq)); clear hown hg))
                go_roundw
                case rel =>
                  refine ⟨j + 1, _, ls ++ [f], by omega, by go_num, rfl, by simp [HLL.out], hid ?_, C7, G7⟩
                  rw [ints_app]
                  exact L7.out
                case measure => simp [intOf]; omega
              · obtain rfl : j = k := by omega
                have DQ := hid (DR.out.of_block (GQ.out.block _ DR.out.lt (by simp; omega)))
                have OQ := hid (OR.out.keeps (keeps_gb GQ.out (by omega)))
                have IQ : Hid (Io w3.heap.size w4.heap.size wr (.slice fa j fc) fs) := hid (IR.out.keeps (keeps_gb GQ.out (by omega)))
                have MQ := hid (MR.out.of_block (GQ.out.block _ MR.out.lt (by simp; omega)))
                have GW := hid (grown_trans GR.out GQ.out)
                have NQ : Hid (Io wo.heap.size wr.heap.size wr lv ls) := hid (Ro.of_own LQ.out)
                clear DR OR IR MR CR GR LQ GQ
                go_wp2
                have d0 : Hid (∀ V, Cm V c 30 [.slice fa j fc, bv, .int .i64 act] → V.cell? ⟨c, 1, none⟩ = some bv) := hid (fun V h => h.cell 1)
                refine regionL (fun V => Cm V c 30 [.slice fa j fc, bv, .int .i64 act]) [7] (by kernel_rfl) DQ.out (fun hHeld => ?_)
                refine takeA (i := 0) (v := .pointer (some ⟨c, 1, none⟩)) 50 rfl rfl (by kernel_rfl) (by kernel_rfl) (by kernel_rfl) (by kernel_rfl) (fun _ _ _ h => h) (Or.inl ⟨by rfl, by intro W hSw; go_simp⟩) hHeld ?_
                simp only [Act.put, zA, zB, zC]
                refine takeA (i := 1) (v := bv) 51 rfl rfl (by kernel_rfl) (by kernel_rfl) (by kernel_rfl) (by kernel_rfl) (fun _ _ _ h => h) (Or.inl ⟨by rfl, by intro W hSw; have d1 := d0.out _ hSw; go_simp⟩) hHeld ?_
                simp only [Act.put, zA, zB, zC]
                refine takeA (i := 2) (v := lv) 52 rfl rfl (by kernel_rfl) (by kernel_rfl) (by kernel_rfl) (by kernel_rfl) (fun _ _ _ h => h) (Or.inl ⟨by rfl, by intro W hSw; go_simp⟩) hHeld ?_
                simp only [Act.put, zA, zB, zC]
                refine onlyL (i := 3) (by kernel_rfl) rfl (by rfl) (fun K hK => ?_)
                go_simp
                refine (specNumber_any _ _ lv ls wr.drew (NQ.out.keeps (Keeps.of_all (Below.refl _ _).drew)).read (by have := HLL.out; omega)).mono ?_
                rintro e w6 ⟨u6, rfl, ho6, hb6⟩
                obtain ⟨ua6, uc6, eu6⟩ := ho6.form
                subst eu6
                obtain ⟨u6, hu6⟩ : ∃ u, u = Value.slice ua6 (num ls).length uc6 := ⟨_, rfl⟩
                have t6 : Below wr.heap.size wr w6 := Below.trans (Below.refl _ _).drew hb6
                have U6 : Hid (Io wo.heap.size w6.heap.size w6 u6 (num ls)) := hid (by rw [hu6]; exact ho6.wide hsq (Nat.le_refl _))
                have O6 := hid (OQ.out.keeps (Keeps.of_all t6))
                have D6 := hid (DQ.out.all t6)
                have I6 : Hid (Io w3.heap.size w4.heap.size w6 (.slice fa j fc) fs) := hid (IQ.out.keeps (Keeps.of_all t6))
                have M6 := hid (MQ.out.below t6)
                have C6 := hid (CQ.out.belowC t6)
                have G6 := hid (gb_below GW.out t6)
                have hs6 : wr.heap.size ≤ w6.heap.size := t6.size
                clear ho6 hb6 hHeld
                refine hK.out _ _ (fun _ => D6.out) (fun _ => ?_)
                clear hK K t6 OQ DQ IQ MQ CQ GW NQ d0
                try simp only [Act.put, zA, zB, zC]
                refine onlyL (i := 4) (by kernel_rfl) rfl (by rfl) (fun K hK => ?_)
                go_simp
                refine hK.out _ _ (fun _ => D6.out.alloc _) (fun _ => ?_)
                clear hK K
                try simp only [Act.put, zA, zB, zC]
                refine onlyL (i := 5) (by kernel_rfl) rfl (by rfl) (fun K hK => ?_)
                have hvl : vs.length = i := by rw [O6.out.2.1.1]; exact HBL.out
                have hown : w6.ownsRow w4.heap.size 22 1 bv vs.length vs := O6.out.1.1
                rw [← hu6]
                refine wp_pushL (.tmp 51) (.tmp 54) 23 55 rfl rfl 22 (.slice none 0 0) 24 Tryz.underlying23 Tryz.infoL rfl w4.heap.size u6 bv vs.length vs hown rfl w6.heap.size rfl rfl (by rw [hu6]; rfl) (by unfold maxLen; omega) (by omega) (by omega) ?_
                intro v7 w7 hown7 hg7
                have hbv : ∀ q, bv.ownBlock = some q → w4.heap.size ≤ q ∧ q < wo.heap.size := fun q hq => ⟨(O6.out.1.1.lt q hq).1, O6.out.1.2 q hq⟩
                have O7 := hid (Ioo.push O6.out U6.out (Nat.le_refl _) (by omega) hwr hown7 hg7)
                have hne : ∀ q, q < w4.heap.size → bv.ownBlock ≠ some q := fun q hq e => by have := hbv q e; omega
                have D7 := hid (D6.out.of_block (hg7.block D6.out.lt (hne _ (by omega))))
                have M7 := hid (M6.out.of_block (hg7.block M6.out.lt (hne _ (by omega))))
                have I7 : Hid (Io w3.heap.size w4.heap.size w7 (.slice fa j fc) fs) := hid (hg7.ro I6.out (apart_lt (B := w4.heap.size) (fun q hq => I6.out.2 q hq) (fun q hq => (hbv q hq).1)))
                have C7 := hid (C6.out.push hg7 (fun q hq => by have := hbv q hq; omega))
                have G7 := hid (gb_push G6.out hg7 (fun q hq => by have := hbv q hq; omega))
                have hs7 : w6.heap.size ≤ w7.heap.size := hg7.size
                obtain ⟨v7a, v7c, e5⟩ := O7.out.1.form
                rw [show (vs ++ [u6]).length = i + 1 by simp [hvl]] at e5
                have d5 := D7.out.cell 1
                have f5 := D7.out.frozen 1
                clear hown hown7 hbv hne O6 D6 I6 M6 C6 G6 hg7
                refine hK.out _ _ (fun _ => D7.out) (fun hHeld => ?_)
                have hHeld := hHeld (by decide)
                clear hK K
                try simp only [Act.put, zA, zB, zC]
                refine takeA (i := 6) (v := .pointer (some ⟨c, 1, none⟩)) 56 rfl rfl (by kernel_rfl) (by kernel_rfl) (by kernel_rfl) (by kernel_rfl) (fun _ _ _ h => h) (Or.inl ⟨by rfl, by intro W hSw; go_simp⟩) hHeld ?_
                simp only [Act.put, zA, zB, zC]
                refine onlyL (i := 7) (by kernel_rfl) rfl (by rfl) (fun K hK => ?_)
                simp only [List.getElem?_cons_succ, List.getElem?_cons_zero] at d5
                subst e5
                go_simp
                refine hK.out _ _ (fun h => absurd (by decide) h) (fun _ => ?_)
                clear hK K hHeld
                refine doneL (by kernel_rfl) ?_ _
                clear d5 f5
                go_wp2
                go_roundw
                case rel =>
                  refine ⟨i + 1, _, vs ++ [u6], bl ++ [num ls], by omega, by go_num, by simp [HBL.out], hid (fun l hl => ?_), hid (D7.out.set 1 _), hid ?_, hid (I7.out.keeps (Keeps.setCell _ _ _ _ (.inl (by omega)))), hid (M7.out.other (by omega) _ _), hid (C7.out.set (by omega) (by omega) _ _), hid (gb_set G7.out (by omega) _), by simp [World.setCell]; omega⟩
                  · rcases List.mem_append.1 hl with h | h
                    · exact HB.out l h
                    · simp at h; subst h; exact ⟨by rw [num_len]; exact HLL.out, num_ord ls⟩
                  · exact (O7.out.keeps (Keeps.setCell w7 c 1 (.slice v7a (i + 1) v7c) (.inl (by omega)))).wide (Nat.le_refl _) (Keeps.setCell (lo := 0) (hi := 0) w7 c 1 (.slice v7a (i + 1) v7c) (.inr (Nat.zero_le _))).size
                case measure => simp [intOf]; omega
          · obtain rfl : i = 3 := by omega
            obtain ⟨ba, bc, e5⟩ := OR.out.1.form
            have hvl : vs.length = 3 := by rw [OR.out.2.1.1]; exact HBL.out
            rw [hvl] at e5
            subst e5
            obtain ⟨m0, m1, m2, m3, m4, m5⟩ := MR.out
            go_wp2_with (refine wpList_loadM rfl 30 _ rfl c 0 rfl 30 _ [.slice fa k fc, .slice ba 3 bc, .int .i64 act] DR.out (fun j _ => by rw [Nat.zero_add]) _ Tryz.underlying30 rfl Tryz.sizeMd ?_)
            clear m0 m1 m2 m3 m4 m5
            have hO : Mo w3.heap.size wo.heap.size wo (.agg #[.slice fa k fc, .slice ba 3 bc, .int .i64 act]) ⟨fs, bl, act⟩ := ⟨_, _, vs, rfl, IR.out.wide (Nat.le_refl _) hwr, OR.out.wide hs4 (Nat.le_refl _), fun u hu => by
              refine apart_lt (B := w4.heap.size) (fun q hq => IR.out.2 q hq) (fun q hq => ?_)
              rcases List.mem_cons.1 hu with rfl | hu
              · exact (OR.out.1.1.lt q hq).1
              · exact (OR.out.2.1.blk hu q hq).1⟩
            have hb : w.heap.size < w3.heap.size := by omega
            refine bodyPost_ret (results_mid1 Tryz.results39 _ _ w.heap.size _ _ rfl (MR.out.write (.slice fa k fc) (.slice ba 3 bc) act).range Tryz.underlying30 rfl Tryz.sizeMd) rfl ?_
            exact ⟨_, ⟨fs, bl, act⟩, rfl, (hO.keeps (((Keeps.setCell _ _ _ _ (.inl hb)).set (.inl hb) _ _).set (.inl hb) _ _)).wide (by omega) (by simp [World.setCell]), ⟨drawn_ok (by rw [HFL.out]; exact hN1) (by rw [HFL.out]; omega) (by rw [HBL.out]; decide) (by rw [HBL.out]; decide) HF.out (fun l hl => by rw [HFL.out]; exact HB.out l hl) (Int.natCast_nonneg _) (by rw [HFL.out]; omega), by show fs.length ≤ most; rw [HFL.out]; exact hN16, by show 2 ≤ bl.length; rw [HBL.out]; decide, HF.out⟩, ((CR.out.set (by omega) (by omega) _ _).set (by omega) (by omega) _ _).set (by omega) (by omega) _ _, gb_set (gb_set (gb_set GR.out (Nat.le_refl _) _) (Nat.le_refl _) _) (Nat.le_refl _) _⟩
def dul (l : List Int) : Nat → List Int
  | 0 => l
  | k + 1 => (dul l k).set k ((l.getD k 0) % 2)
theorem dul_len (l : List Int) : ∀ k, (dul l k).length = l.length
  | 0 => rfl
  | k + 1 => by show ((dul l k).set k _).length = _; rw [List.length_set, dul_len l k]
theorem dul_get (l : List Int) : ∀ k j, k ≤ j → (dul l k).getD j 0 = l.getD j 0
  | 0, _, _ => rfl
  | k + 1, j, h => by
    show ((dul l k).set k _).getD j 0 = _
    rw [List.getD_eq_getElem?_getD, List.getElem?_set_ne (by omega), ← List.getD_eq_getElem?_getD]
    exact dul_get l k j (by omega)
theorem dul_bd {l : List Int} (h : ∀ f ∈ l, 0 ≤ f ∧ f < 8) : ∀ k, ∀ f ∈ dul l k, 0 ≤ f ∧ f < 8
  | 0 => h
  | k + 1 => fun f hf => by
    rcases List.mem_or_eq_of_mem_set (show f ∈ (dul l k).set k _ from hf) with h1 | h1
    · exact dul_bd h k f h1
    · omega
theorem dul_ints (l : List Int) (k : Nat) : (ints (dul l k)).set k (.int .i64 ((l.getD k 0) % 2)) = ints (dul l (k + 1)) := by
  unfold ints
  show _ = List.map _ ((dul l k).set k _)
  rw [List.map_set]
theorem dul_ok {m : Md} (h : drawnM m 7) (k : Nat) : drawnM ⟨dul m.facts k, m.blocks, m.actual⟩ 7 := by
  obtain ⟨h1, h2, h3, h4⟩ := h
  obtain ⟨p1, p2, p3, p4, p5, p6, p7, p8⟩ := mdOk_parts h1
  have hb := dul_bd h4 k
  refine ⟨drawn_ok (by show 1 ≤ (dul m.facts k).length; rw [dul_len]; omega) (by show (dul m.facts k).length ≤ 16; rw [dul_len]; omega) p3 p4 hb (fun l hl => ?_) p7 (by show _ < (((dul m.facts k).length : Nat) : Int); rw [dul_len]; exact p8), by show (dul m.facts k).length ≤ 7; rw [dul_len]; exact h2, h3, hb⟩
  obtain ⟨i, hi, e⟩ := List.getElem_of_mem hl
  have hp := p5 i hi
  rw [List.getD_eq_getElem?_getD, List.getElem?_eq_getElem hi] at hp
  rw [dul_len, ← e]
  exact hp
theorem makeDull_any (W : World) (cv : Value) (n : Nat) (hn : n ≤ 1000) (hk : CodeOk W cv) :
    Calls Tryz.prog 14 #[cv, .int .i64 n] W fun e w' => ∃ v m, e = .returned v ∧ Mo W.heap.size w'.heap.size w' v m ∧ drawnM m 7 ∧ Below W.heap.size W w' := by
  have HK := hid hk
  clear hk
  go_enter Tryz.func14, Tryz.ntmps14
  go_wp2_with fail
  have m0 : Mcell (W.alloc (.cells #[.slice none 0 0, .slice none 0 0, .int .i64 0] 30)) W.heap.size (.slice none 0 0) (.slice none 0 0) 0 := Mcell.new rfl
  have b0 : Below W.heap.size W (W.alloc (.cells #[.slice none 0 0, .slice none 0 0, .int .i64 0] 30)) := by go_grown
  have k0 := HK.out.below b0 (Nat.le_refl _)
  generalize W.alloc (.cells #[.slice none 0 0, .slice none 0 0, .int .i64 0] 30) = w0 at *
  have M0 := hid m0
  have B0 := hid b0
  have K0 := hid k0
  have lt0 : W.heap.size < w0.heap.size := m0.lt
  clear m0 b0 k0 HK
  refine (newAt_any w0 cv n hn K0.out).mono ?_
  rintro e w1 ⟨b, rfl, hc⟩
  have C1 := hid hc
  have hbb : w0.heap.size ≤ b := hc.2.1
  have s1 : w0.heap.size ≤ w1.heap.size := hc.1.size
  have M1 := hid (M0.out.below hc.1)
  have B1 := hid (B0.out.trans (hc.1.mono B0.out.size))
  clear hc M0 B0
  go_wp2_with fail
  refine (draw_any w0 w1 b cv 7 (by omega) (by omega) K0.out C1.out).mono ?_
  rintro e w2 ⟨v, m, rfl, hmo, hdr, hc2, hg2⟩
  have M2 := hid (M1.out.of_block (hg2.block _ M1.out.lt (by simp; omega)))
  have D2 := hid hdr
  have s2 : w1.heap.size ≤ w2.heap.size := hg2.size
  have B2 : Hid (Below W.heap.size W w2) := hid (Below.trans (B1.out.mono (Nat.le_refl _)) ⟨hg2.os, hg2.tape, hg2.output, hg2.size, fun k hk => hg2.block k (by omega) (by simp; omega)⟩)
  obtain ⟨p1, p2, -⟩ := mdOk_parts hdr.1
  have hf8 := hdr.2.2.2
  obtain ⟨fv, bv, vs, rfl, hI, hII, hap⟩ := hmo
  obtain ⟨fa, fc, rfl⟩ := hI.form
  obtain ⟨g, rfl, hgl, hgh⟩ : ∃ g, fa = some ⟨g, 0, none⟩ ∧ w1.heap.size ≤ g ∧ g < w2.heap.size := by
    rcases hI.1.2 with ⟨e, h0⟩ | ⟨g, cap, cur, e, hb, hq, _⟩
    · rw [ints_len] at h0; omega
    · simp only [Value.slice.injEq] at e
      exact ⟨g, e.1, hb, (Array.getElem?_eq_some_iff.1 hq).1⟩
  obtain ⟨ba, bc, rfl⟩ := hII.1.form
  have hIo : w2.ownsRow w1.heap.size 3 1 (.slice (some ⟨g, 0, none⟩) m.facts.length fc) m.facts.length (ints m.facts) := by
    have h1 := hI.1
    rwa [ints_len] at h1
  have I2 := hid hIo
  have IR2 := hid hI.read
  have II2 := hid hII
  have HA := hid hap
  have hgW : W.heap.size < g := by omega
  clear hdr hc2 hg2 C1 M1 B1 hI hII hap hIo
  have hq3 : fc ≤ maxLen ∧ m.facts.length ≤ fc := by
    obtain ⟨_, _, e, h1, h2, _⟩ := IR2.out.parts
    cases e; exact ⟨h2, h1⟩
  obtain ⟨hfc, hfl⟩ := hq3
  clear IR2
  unfold maxLen at hfc
  go_wp2
  have d3 : Cm (w2.alloc (.cells #[.slice (some ⟨g, 0, none⟩) m.facts.length fc, .slice ba vs.length bc, .int .i64 m.actual] 30)) w2.heap.size 30 [.slice (some ⟨g, 0, none⟩) m.facts.length fc, .slice ba vs.length bc, .int .i64 m.actual] := Cm.new rfl
  have b3 : Below w2.heap.size w2 (w2.alloc (.cells #[.slice (some ⟨g, 0, none⟩) m.facts.length fc, .slice ba vs.length bc, .int .i64 m.actual] 30)) := by go_grown
  generalize w2.alloc (.cells #[.slice (some ⟨g, 0, none⟩) m.facts.length fc, .slice ba vs.length bc, .int .i64 m.actual] 30) = w3 at *
  have s3 : w2.heap.size < w3.heap.size := d3.lt
  have D3 := hid d3
  have I3 : Hid (w3.ownsRow w1.heap.size 3 1 (.slice (some ⟨g, 0, none⟩) m.facts.length fc) m.facts.length (ints (dul m.facts 0))) := hid (own_keeps I2.out (fun q hq => b3.block q (by cases hq; omega)))
  have II3 := hid (II2.out.keeps (Keeps.of_all b3))
  have M3 := hid (M2.out.below b3)
  have B3 := hid (B2.out.trans (b3.mono (by omega)))
  obtain ⟨c, hcc⟩ : ∃ c, c = w2.heap.size := ⟨_, rfl⟩
  rw [← hcc] at D3 ⊢
  have hcg : g < c := by omega
  have hcW : W.heap.size < c := by omega
  have hc3 : c < w3.heap.size := by omega
  clear hcc d3 b3 I2 II2 M2 B2
  have HFX := hid hf8
  have hn16 : (m.facts.length : Int) ≤ 16 := by omega
  clear hf8
  go_loopw [14] (fun iv wr => ∃ k : Nat, k ≤ m.facts.length ∧ iv = .int .i64 k ∧ Hid (Cm wr c 30 [.slice (some ⟨g, 0, none⟩) m.facts.length fc, .slice ba vs.length bc, .int .i64 m.actual]) ∧
      Hid (wr.ownsRow w1.heap.size 3 1 (.slice (some ⟨g, 0, none⟩) m.facts.length fc) m.facts.length (ints (dul m.facts k))) ∧ Hid (w3.grownBy wr (some g))) (fun iv _ => m.facts.length - (intOf iv).toNat)
  case atStart => exact ⟨0, Nat.zero_le _, rfl, D3, I3, hid (World.grownBy.refl _ _)⟩
  case round =>
    clear D3 I3
    obtain ⟨k, hk, rfl, DR, IR, GR⟩ := hrel
    by_cases hkn : k < m.facts.length
    · have hk0 : (0 : Int) ≤ (k : Int) := Int.natCast_nonneg _
      have hk1 : (k : Int) < (m.facts.length : Int) := by omega
      have hx : wr.cell? ⟨g, k, none⟩ = some (.int .i64 (m.facts.getD k 0)) := by
        rw [IR.out.cellAt k (by omega), ints_at (by rw [dul_len]; exact hkn), dul_get _ _ _ (Nat.le_refl _)]
      have hxb := HFX.out (m.facts.getD k 0) (by rw [List.getD_eq_getElem?_getD, List.getElem?_eq_getElem hkn]; exact List.getElem_mem _)
      have HST := hid (IR.out.stored k (.int .i64 ((m.facts.getD k 0) % 2)))
      rw [dul_ints] at HST
      have HDR := hid DR.out
      generalize m.facts.getD k 0 = x at hx hxb HST
      obtain ⟨hx0, hx8⟩ := hxb
      have hx2 : x.tmod 2 = x % 2 := Int.tmod_eq_emod_of_nonneg hx0
      have hfr : wr.frozen? ⟨g, k, none⟩ = false := by
        obtain ⟨g1, cap1, cur1, e1, _, hq1, _⟩ := (IR.out.2.resolve_left (fun h => by cases h.1))
        cases e1
        exact frozen_of_row wr g k cur1 _ hq1
      go_wp2
      refine regionL (fun V => Cm V c 30 [.slice (some ⟨g, 0, none⟩) m.facts.length fc, .slice ba vs.length bc, .int .i64 m.actual] ∧ V.cell? ⟨g, k, none⟩ = some (.int .i64 x)) [10] (by kernel_rfl) ⟨DR.out, hx⟩ (fun hHeld => ?_)
      refine takeA (i := 0) (v := .pointer (some ⟨c, 0, none⟩)) 17 rfl rfl (by kernel_rfl) (by kernel_rfl) (by kernel_rfl) (by kernel_rfl) (fun _ _ _ h => h) (Or.inl ⟨by rfl, by intro W hSw; go_simp⟩) hHeld ?_
      simp only [Act.put, zA, zB, zC]
      refine takeA (i := 2) (v := .int .i64 k) 19 rfl rfl (by kernel_rfl) (by kernel_rfl) (by kernel_rfl) (by kernel_rfl) (fun _ _ _ h => h) (Or.inl ⟨by rfl, by intro W hSw; go_simp⟩) hHeld ?_
      simp only [Act.put, zA, zB, zC]
      refine takeA (i := 3) (v := .pointer (some ⟨c, 0, none⟩)) 20 rfl rfl (by kernel_rfl) (by kernel_rfl) (by kernel_rfl) (by kernel_rfl) (fun _ _ _ h => h) (Or.inl ⟨by rfl, by intro W hSw; go_simp⟩) hHeld ?_
      simp only [Act.put, zA, zB, zC]
      refine takeA (i := 5) (v := .int .i64 k) 22 rfl rfl (by kernel_rfl) (by kernel_rfl) (by kernel_rfl) (by kernel_rfl) (fun _ _ _ h => h) (Or.inl ⟨by rfl, by intro W hSw; go_simp⟩) hHeld ?_
      simp only [Act.put, zA, zB, zC]
      refine takeA (i := 1) (v := .slice (some ⟨g, 0, none⟩) m.facts.length fc) 18 rfl rfl (by kernel_rfl) (by kernel_rfl) (by kernel_rfl) (by kernel_rfl) (fun _ _ _ h => h) (Or.inl ⟨by rfl, by intro W hSw; have c1 := hSw.1.cell 0; go_simp⟩) hHeld ?_
      simp only [Act.put, zA, zB, zC]
      refine takeA (i := 4) (v := .slice (some ⟨g, 0, none⟩) m.facts.length fc) 21 rfl rfl (by kernel_rfl) (by kernel_rfl) (by kernel_rfl) (by kernel_rfl) (fun _ _ _ h => h) (Or.inl ⟨by rfl, by intro W hSw; have c1 := hSw.1.cell 0; go_simp⟩) hHeld ?_
      simp only [Act.put, zA, zB, zC]
      refine takeA (i := 6) (v := .pointer (some ⟨g, k, none⟩)) 23 rfl rfl (by kernel_rfl) (by kernel_rfl) (by kernel_rfl) (by kernel_rfl) (fun _ _ _ h => h) (Or.inl ⟨by rfl, by intro W hSw; go_simp⟩) hHeld ?_
      simp only [Act.put, zA, zB, zC]
      refine takeA (i := 7) (v := .int .i64 x) 24 rfl rfl (by kernel_rfl) (by kernel_rfl) (by kernel_rfl) (by kernel_rfl) (fun _ _ _ h => h) (Or.inl ⟨by rfl, by intro W hSw; have c1 := hSw.2; go_simp⟩) hHeld ?_
      simp only [Act.put, zA, zB, zC]
      refine takeA (i := 8) (v := .int .i64 (x % 2)) 25 rfl rfl (by kernel_rfl) (by kernel_rfl) (by kernel_rfl) (by kernel_rfl) (fun _ _ _ h => h) (Or.inl ⟨by rfl, by intro W hSw; go_simp; try omega⟩) hHeld ?_
      simp only [Act.put, zA, zB, zC]
      refine takeA (i := 9) (v := .pointer (some ⟨g, k, none⟩)) 26 rfl rfl (by kernel_rfl) (by kernel_rfl) (by kernel_rfl) (by kernel_rfl) (fun _ _ _ h => h) (Or.inl ⟨by rfl, by intro W hSw; go_simp⟩) hHeld ?_
      simp only [Act.put, zA, zB, zC]
      refine onlyL (i := 10) (by kernel_rfl) rfl (by rfl) (fun K hK => ?_)
      go_simp
      refine hK.out _ _ (fun h => absurd (by decide) h) (fun _ => ?_)
      clear hK K hHeld
      refine doneL (by kernel_rfl) ?_ _
      try simp only [Act.put, zA, zB, zC]
      go_wp2
      go_roundw
      case rel =>
        refine ⟨k + 1, by omega, by go_num, hid (HDR.out.other (by omega) _ _), hid HST.out.1, hid (grown_trans (grown_trans GR.out HST.out.2) (grown_drewN _ 1 _))⟩
      case measure => simp [intOf]; omega
    · obtain rfl : k = m.facts.length := by omega
      have hcw : w3.heap.size ≤ wr.heap.size := GR.out.size
      have MR := hid (M3.out.of_block (GR.out.block _ M3.out.lt (by simp; omega)))
      have OR : Hid (Mo w1.heap.size wr.heap.size wr (.agg #[.slice (some ⟨g, 0, none⟩) m.facts.length fc, .slice ba vs.length bc, .int .i64 m.actual]) ⟨dul m.facts m.facts.length, m.blocks, m.actual⟩) := hid (by
        refine Mo.wide (lo := w1.heap.size) (hi := w2.heap.size) ⟨_, _, vs, rfl, ⟨?_, fun q hq => by cases hq; exact hgh⟩, ⟨II3.out.1.keptBy GR.out (apart_symm (HA.out _ (List.mem_cons_self ..))), ⟨II3.out.2.1.1, fun j hj => Ro.keptBy (II3.out.2.1.2 j hj) GR.out ?_⟩, II3.out.2.2⟩, HA.out⟩ (Nat.le_refl _) (by omega)
        · show wr.ownsRow _ _ _ _ (ints (dul m.facts m.facts.length)).length _
          rw [ints_len, dul_len]; exact IR.out
        refine apart_symm (HA.out _ (List.mem_cons_of_mem _ ?_))
        rw [List.getD_eq_getElem?_getD, List.getElem?_eq_getElem (by rw [II3.out.2.1.1]; exact hj)]
        exact List.getElem_mem _)
      have BR : Hid (Below W.heap.size W wr) := hid (B3.out.trans ⟨GR.out.os, GR.out.tape, GR.out.output, GR.out.size, fun q hq => GR.out.block q (by omega) (by simp; omega)⟩)
      clear IR GR M3 B3 II3
      obtain ⟨m0, m1, m2, m3, m4, m5⟩ := MR.out
      have e0 := DR.out.cell 0
      have e1 := DR.out.cell 1
      have e2 := DR.out.cell 2
      have HRG := DR.out.range
      go_wp2
      obtain ⟨o3, b3, m3⟩ := ans_put (lo := w1.heap.size) (m := ⟨dul m.facts m.facts.length, m.blocks, m.actual⟩) MR.out OR.out (by omega) (Nat.le_refl _) (Nat.le_refl _) BR.out
      dsimp only at o3 b3 m3
      refine bodyPost_ret (results_mid1 Tryz.results14 _ _ W.heap.size _ _ rfl m3.range Tryz.underlying30 rfl Tryz.sizeMd) rfl ?_
      exact ⟨_, _, rfl, o3, dul_ok D2.out _, b3⟩
end Go.Proofs.YtnpfnfenkklocaaGreatDoor
