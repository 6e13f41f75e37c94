/-
  Contracts of impl.simplified and impl.Simplify. No condition but the readings.
-/
import Derived.Test.YtodjohdbngbpaaaGreatRwi
import Derived.Test.YtodjohdbngbpaaaGreatSmr
namespace Go.Proofs.YtodjohdbngbpaaaGreat
open Go.RowKit Go.WideShapes
open Go Go.Deep
set_option linter.unusedSimpArgs false

section
variable {P : Program}
/-- an index into an array whose run is known -/
theorem wpList_indexF {ops : Array Oper} {rest : List Oper} {o : Oper} {a : Act} {w : World} {Q : Exit → Act → World → Prop} (hgd : o.guard = none) (ty : TypeId) (x ix : Operand) (ho : o.op = .index ty x ix)
    (u iv v : Value) (hx : a.eval x = u) (hix : a.eval ix = iv) (hr : ∀ W : World, (Instr.index ty u iv).run P W = .ok v W) (h : wpList P ops Q rest (a.put o.dst v) w) : wpList P ops Q (o :: rest) a w :=
  wpList_op hgd v (by unfold execOp; simp only [ho, hx, hix, Sem.run_bind, hr, Result.andThen_ok, Sem.run_pure]) h
end
theorem ruleFn_any (k : Nat) (F : FuncId) (hk : (k = 0 ∧ F = 126) ∨ (k = 1 ∧ F = 127) ∨ (k = 2 ∧ F = 128) ∨ (k = 3 ∧ F = 129)) (W : World) :
    (Instr.index 157 (.agg #[.func (.func 126) #[] #[], .func (.func 127) #[] #[], .func (.func 128) #[] #[], .func (.func 129) #[] #[]]) (.int .i64 k)).run Tryz.prog W = .ok (.func (.func F) #[] #[]) W := by
  rcases hk with ⟨rfl, rfl⟩ | ⟨rfl, rfl⟩ | ⟨rfl, rfl⟩ | ⟨rfl, rfl⟩ <;> kernel_rfl

/-- what the loop has made -/
def SimAt (w : World) (xs : List Nd) (wr : World) (i : Nat) : Prop :=
  Below w.heap.size w wr ∧ ∃ ps : List Value, wr.ownsRow w.heap.size 102 1 (.slice (some ⟨w.heap.size, 0, none⟩) xs.length xs.length) xs.length ps ∧ ∀ j, j < i → Lk (w.heap.size + 1) wr (simpT (tmAt xs j)) (ps.getD j (.pointer none))
theorem SimAt.made {w wr : World} {xs : List Nd} {i : Nat} (h : SimAt w xs wr i) (hi : i ≤ xs.length) : MadeAt (w.heap.size + 1) wr w.heap.size i (fun j => simpT (tmAt xs j)) := by
  obtain ⟨hb, ps, ho, hl⟩ := h
  have hlen : ps.length = xs.length := by have := ho.1; omega
  refine ⟨(ho.lt _ rfl).2, fun j hj => ⟨ps.getD j (.pointer none), ?_, hl j hj⟩⟩
  rw [ho.cellAt j (by omega), List.getD_eq_getElem?_getD, List.getElem?_eq_getElem (by omega)]; rfl
theorem SimAt.next {w wr w2 : World} {xs : List Nd} {i b : Nat} (h : SimAt w xs wr i) (hi : i < xs.length) (h2 : Below wr.heap.size wr w2) (hl : Lk (w.heap.size + 1) w2 (simpT (tmAt xs i)) (.pointer (some ⟨b, 0, none⟩))) :
    SimAt w xs (w2.setCell ⟨w.heap.size, i, none⟩ (.pointer (some ⟨b, 0, none⟩))) (i + 1) := by
  obtain ⟨hb, ps, ho, hps⟩ := h
  have hlen : ps.length = xs.length := by have := ho.1; omega
  have ho2 := own_below ho h2 (Nat.le_refl _)
  refine ⟨(hb.trans (h2.mono hb.size)).setCell (Nat.le_refl _) _, ps.set i (.pointer (some ⟨b, 0, none⟩)), (ho2.stored i _).1, fun j hj => ?_⟩
  rw [getD_setP (by omega)]
  by_cases e : i = j
  · subst e
    rw [if_pos rfl]
    exact hl.set (Nat.lt_succ_self _) _ _
  · rw [if_neg e]
    exact ((hps j (by omega)).below h2).set (Nat.lt_succ_self _) _ _
theorem mkTm_small {op n : Int} {a b a' b' : Tm} (ha : 1 ≤ usesI op → a'.size ≤ a.size) (hb : usesI op = 2 → b'.size ≤ b.size) : (mkTm op n a' b').size ≤ (mkTm op n a b).size := by
  rw [mkTm_size, mkTm_size]
  have hu := usesI_le op
  have h012 : usesI op = 0 ∨ usesI op = 1 ∨ usesI op = 2 := by omega
  rcases h012 with h | h | h
  · rw [h]; exact Nat.le_refl _
  · have := ha (by omega); rw [h]; simp [sumN]; omega
  · have := ha (by omega); have := hb h; rw [h]; simp [sumN]; omega

set_option maxRecDepth 100000 in
set_option maxHeartbeats 32000000 in
theorem simplified_any (xs : List Nd) (v : Value) (w : World) (hf : formOk xs = true) (hr : Ns w v xs) :
    Calls Tryz.prog 77 #[v] w (LkAns 0 w (simpT (termOfL xs))) := by
  obtain ⟨q1, q2, q3, _⟩ := formOk_parts hf
  obtain ⟨a, cap, rfl, h1, h2, h3⟩ := hr.parts
  unfold maxLen at h2
  have HF := Lib.hid hf
  have HN := Lib.hid q3
  have KEY := Lib.hid h3
  obtain ⟨i0, hi, hz0, hz1, hz2⟩ := info_parts Tryz.infoLk
  have HB1 : Hid (i0.bytes * xs.length ≤ 281474976710656) := Lib.hid (by rw [hz2]; omega)
  have HRT : Hid (termOfL xs = tmAt xs (xs.length - 1)) := Lib.hid rfl
  clear h3 hr hf q3
  go_enter Tryz.func77, Tryz.ntmps77
  go_wp2
  go_step3
  go_wp2_with (first
    | (refine wpList_storeM rfl 157 (.tmp 3) (.tmp 11) rfl w.heap.size 0 rfl [.func (.func 126) #[] #[], .func (.func 127) #[] #[], .func (.func 128) #[] #[], .func (.func 129) #[] #[]] rfl 157 [.nilFunc, .nilFunc, .nilFunc, .nilFunc] (Cm.new rfl) (by decide) (by kernel_rfl) (by simp [Value.oneCell']) ?_; intro w1 hc1 ha1; rw [lay'_all (by rfl)] at hc1; have C1 := Lib.hid hc1; have B1 : Hid (Below w.heap.size w w1) := Lib.hid (Below.trans (by go_grown) (ha1.below (Nat.le_refl _))); clear hc1 ha1)
    | (at_make; refine wpList_make_full _ rfl _ _ 149 rfl w1.heap.size 102 i0 (.pointer none) 1 Tryz.underlying149 hi hz0 hz1 _ _ _ _ xs.length rfl rfl rfl rfl HB1.out (by unfold maxLen; omega) (Nat.le_refl _) ?_; intro w2 hown hg; have HO := Lib.hid hown; have HG := Lib.hid hg; clear hown hg))
  have hst : Hid (SimAt w1 xs w2 0) := Lib.hid ⟨(Below.refl _ _).grown HG.out (Nat.le_refl _) (fun k hk => by cases hk), _, HO.out, fun j hj => absurd hj (by omega)⟩
  clear HO HG
  go_step3
  go_wp2
  go_loopw [17] (fun iv wr => ∃ i : Nat, i ≤ xs.length ∧ iv = .int .i64 i ∧ Hid (SimAt w1 xs wr i)) (fun iv _ => xs.length - (intOf iv).toNat)
  case atStart => exact ⟨0, Nat.zero_le _, rfl, hst⟩
  case round =>
    clear hst
    obtain ⟨i, hil, rfl, HR⟩ := hrel
    have hn0 : (0 : Int) ≤ (xs.length : Int) := Int.natCast_nonneg _
    by_cases hlt : i < xs.length
    · have hi0 : (0 : Int) ≤ (i : Int) := Int.natCast_nonneg _
      have hin : (i : Int) < (xs.length : Int) := by omega
      have hok := nodesOk_at HN.out hlt
      have hp := okAt_parts hok
      obtain ⟨b, o, rfl, hb, c0, c1, c2, c3⟩ := KEY.out i hlt
      have BR1 := Lib.hid HR.out.1
      have BR : Hid (Below w.heap.size w wr) := Lib.hid (B1.out.trans (BR1.out.mono B1.out.size))
      rw [← BR.out.cell (p := ⟨b, o + i * 4, none⟩) hb] at c0
      rw [← BR.out.cell (p := ⟨b, o + i * 4 + 1, none⟩) hb] at c1
      rw [← BR.out.cell (p := ⟨b, o + i * 4 + 2, none⟩) hb] at c2
      rw [← BR.out.cell (p := ⟨b, o + i * 4 + 3, none⟩) hb] at c3
      have hRow : ∃ ps : List Value, wr.ownsRow w1.heap.size 102 1 (.slice (some ⟨w1.heap.size, 0, none⟩) xs.length xs.length) xs.length ps := ⟨_, HR.out.2.choose_spec.1⟩
      obtain ⟨ps, hps⟩ := hRow
      have HPS := Lib.hid hps
      clear hps
      have HMD := Lib.hid (HR.out.made hil)
      have HSW := Lib.hid (fun j (hj : j < xs.length) => simp_wf (tmAt xs j) (tmAt_wf HN.out _ j (Nat.le_refl _) hj))
      have HSZ := Lib.hid (fun j (hj : j < xs.length) => sub_small HF.out hj)
      have hTI := tmAt_eq HN.out hlt
      have HST : Hid (simpT (tmAt xs i) = ruleAll (mkTm (xs.getD i default).op (xs.getD i default).n (simpT (tmAt xs (xs.getD i default).a.toNat)) (simpT (tmAt xs (xs.getD i default).b.toNat)))) := Lib.hid (by
        rw [hTI]
        exact simp_step hp.1.1 hp.1.2.1 (fun hu => tmAt_wf HN.out _ _ (Nat.le_refl _) (by have := hp.2.1 hu; omega)) (fun hu => tmAt_wf HN.out _ _ (Nat.le_refl _) (by have := hp.2.2.1 hu; omega)))
      have HTW : Hid ((mkTm (xs.getD i default).op (xs.getD i default).n (simpT (tmAt xs (xs.getD i default).a.toNat)) (simpT (tmAt xs (xs.getD i default).b.toNat))).wf) := Lib.hid (mkTm_wf hok (fun hu => (HSW.out _ (by have := hp.2.1 hu; omega)).1) (fun hu => (HSW.out _ (by have := hp.2.2.1 hu; omega)).1))
      have HTS : Hid ((mkTm (xs.getD i default).op (xs.getD i default).n (simpT (tmAt xs (xs.getD i default).a.toNat)) (simpT (tmAt xs (xs.getD i default).b.toNat))).size ≤ 40) := Lib.hid (by
        refine Nat.le_trans (mkTm_small (fun hu => (HSW.out _ (by have := hp.2.1 hu; omega)).2) (fun hu => (HSW.out _ (by have := hp.2.2.1 hu; omega)).2)) ?_
        rw [← hTI]; exact HSZ.out i hlt)
      have HOK := Lib.hid hok
      clear hok hTI hp
      generalize xs.getD i default = x at *
      obtain ⟨op, n, xa, xb⟩ := x
      simp only [] at c0 c1 c2 c3 HST HTW HTS
      have hb0 : Below wr.heap.size wr (wr.alloc (.cells #[.int .i64 op, .int .i64 n, .int .i64 xa, .int .i64 xb] 112)) := (Below.refl _ _).alloc (Nat.le_refl _) _
      have B0 := Lib.hid hb0
      have HLO : Hid (w1.heap.size + 1 ≤ wr.heap.size) := Lib.hid (HPS.out.lt _ rfl).2
      have KA := Lib.hid (fun W (hW : Below wr.heap.size wr W) => linkNode_any (w1.heap.size + 1) op n xa xb i HOK.out w1.heap.size xs.length hlt q2 (fun j => simpT (tmAt xs j)) (fun j hj => Nat.le_trans (HSW.out j (by omega)).2 (HSZ.out j (by omega))) W (Nat.le_trans HLO.out hW.size) (HMD.out.below hW))
      unfold LkAns at KA
      have CR := Lib.hid (C1.out.below BR1.out C1.out.lt)
      clear hb0
      generalize mkTm op n (simpT (tmAt xs xa.toNat)) (simpT (tmAt xs xb.toNat)) = T at *
      have HSTO := Lib.hid (fun W (h : Below wr.heap.size wr W) => And.intro (((own_below HPS.out h (Nat.le_refl _)).cellAt i (by omega)).trans (show ps[i]? = some (ps.getD i (.pointer none)) by rw [List.getD_eq_getElem?_getD, List.getElem?_eq_getElem (by have := HPS.out.1; omega)]; rfl)) ((own_below HPS.out h (Nat.le_refl _)).frozenAt i))
      have K1 := Lib.hid (fun v W (h : Lk (w1.heap.size + 1) W T v) => rule1_any (w1.heap.size + 1) T v W h (Tm.wf_ops T HTW.out))
      have K2 := Lib.hid (fun v W (h : Lk (w1.heap.size + 1) W T v) => rule2_any (w1.heap.size + 1) T v W h (Tm.wf_ops T HTW.out))
      have K3 := Lib.hid (fun v W (h : Lk (w1.heap.size + 1) W T v) => rule3_any (w1.heap.size + 1) T v W h HTW.out (by have := HTS.out; omega))
      have K4 := Lib.hid (fun v W (h : Lk (w1.heap.size + 1) W T v) => rule4_any (w1.heap.size + 1) T v W h (Tm.wf_ops T HTW.out))
      go_wp2_with (first
        | (go_at_call 121; refine (KA.out _ B0.out).mono ?_; rintro e w3 ⟨b3, rfl, hl3, hb3⟩; have H3 := Lib.hid hl3; have T3 : Hid (Below wr.heap.size wr w3) := Lib.hid (B0.out.trans (hb3.mono B0.out.size)); have C3 := Lib.hid (CR.out.all T3.out); clear hl3 hb3 c0 c1 c2 c3)
        | (refine wpList_loadM rfl 157 (.tmp 3) rfl w.heap.size 0 rfl 157 [.func (.func 126) #[] #[], .func (.func 127) #[] #[], .func (.func 128) #[] #[], .func (.func 129) #[] #[]] [.func (.func 126) #[] #[], .func (.func 127) #[] #[], .func (.func 128) #[] #[], .func (.func 129) #[] #[]] C3.out (fun j _ => by rw [Nat.zero_add]) _ Tryz.underlying157 rfl (by kernel_rfl) ?_))
      refine wp_loop_rounds 5 ?_
      rw [rounds_succ]
      cases hr1 : rule1 T with
      | some r =>
        have KK := Lib.hid (fun W h => K1.out (.pointer (some ⟨b3, 0, none⟩)) W h)
        rw [hr1] at KK
        unfold LkOpt LkAns at KK
        have HRES : Hid (simpT (tmAt xs i) = r) := Lib.hid (HST.out.trans (by unfold ruleAll; simp only [hr1]))
        clear hr1
        go_wp2_with (first
          | (refine wpList_indexF (o := ⟨some 28, _, _, _, _, _⟩) rfl 157 (.tmp 25) (.tmp 26) rfl _ _ (.func (.func 126) #[] #[]) rfl rfl (ruleFn_any 0 _ (by decide)) ?_)
          | (go_at_call 126; refine (KK.out _ H3.out).mono ?_; rintro e w4 ⟨b4, rfl, hl4, hb4⟩; have H4 := Lib.hid hl4; have T4 := Lib.hid (T3.out.trans (hb4.mono T3.out.size)); clear hl4 hb4; have z2 := (HSTO.out _ T4.out).1; have f2 := (HSTO.out _ T4.out).2))
        have HNX := Lib.hid (HR.out.next hlt T4.out (by rw [HRES.out]; exact H4.out))

        go_roundw
        case rel => exact ⟨i + 1, by omega, by go_num, HNX⟩
        case measure => simp [intOf]; omega
      | none =>
        have KK := Lib.hid (fun W h => K1.out (.pointer (some ⟨b3, 0, none⟩)) W h)
        rw [hr1] at KK
        unfold LkOpt at KK
        have hr1h := Lib.hid hr1
        clear hr1
        go_wp2_with (first
          | (refine wpList_indexF (o := ⟨some 28, _, _, _, _, _⟩) rfl 157 (.tmp 25) (.tmp 26) rfl _ _ (.func (.func 126) #[] #[]) rfl rfl (ruleFn_any 0 _ (by decide)) ?_)
          | (go_at_call 126; refine (KK.out _ H3.out).mono ?_; rintro e w4 ⟨rfl, hb4⟩; have G4 := Lib.hid (H3.out.below hb4); have T4 := Lib.hid (T3.out.trans (hb4.mono T3.out.size)); clear hb4))
        clear KK
        have hr1 := hr1h.out
        clear hr1h
        rw [rounds_succ]
        cases hr2 : rule2 T with
        | some r =>
          have KK := Lib.hid (fun W h => K2.out (.pointer (some ⟨b3, 0, none⟩)) W h)
          rw [hr2] at KK
          unfold LkOpt LkAns at KK
          have HRES : Hid (simpT (tmAt xs i) = r) := Lib.hid (HST.out.trans (by unfold ruleAll; simp only [hr1, hr2]))
          clear hr1 hr2
          go_wp2_with (first
            | (refine wpList_indexF (o := ⟨some 28, _, _, _, _, _⟩) rfl 157 (.tmp 25) (.tmp 26) rfl _ _ (.func (.func 127) #[] #[]) rfl rfl (ruleFn_any 1 _ (by decide)) ?_)
            | (go_at_call 127; refine (KK.out _ G4.out).mono ?_; rintro e w5 ⟨b5, rfl, hl5, hb5⟩; have H5 := Lib.hid hl5; have T5 := Lib.hid (T4.out.trans (hb5.mono T4.out.size)); clear hl5 hb5; have z2 := (HSTO.out _ T5.out).1; have f2 := (HSTO.out _ T5.out).2))
          have HNX := Lib.hid (HR.out.next hlt T5.out (by rw [HRES.out]; exact H5.out))

          go_roundw
          case rel => exact ⟨i + 1, by omega, by go_num, HNX⟩
          case measure => simp [intOf]; omega
        | none =>
          have KK := Lib.hid (fun W h => K2.out (.pointer (some ⟨b3, 0, none⟩)) W h)
          rw [hr2] at KK
          unfold LkOpt at KK
          have hr2h := Lib.hid hr2
          clear hr2
          go_wp2_with (first
            | (refine wpList_indexF (o := ⟨some 28, _, _, _, _, _⟩) rfl 157 (.tmp 25) (.tmp 26) rfl _ _ (.func (.func 127) #[] #[]) rfl rfl (ruleFn_any 1 _ (by decide)) ?_)
            | (go_at_call 127; refine (KK.out _ G4.out).mono ?_; rintro e w5 ⟨rfl, hb5⟩; have G5 := Lib.hid (G4.out.below hb5); have T5 := Lib.hid (T4.out.trans (hb5.mono T4.out.size)); clear hb5))
          clear KK
          have hr2 := hr2h.out
          clear hr2h
          rw [rounds_succ]
          cases hr3 : rule3 T with
          | some r =>
            have KK := Lib.hid (fun W h => K3.out (.pointer (some ⟨b3, 0, none⟩)) W h)
            rw [hr3] at KK
            unfold LkOpt LkAns at KK
            have HRES : Hid (simpT (tmAt xs i) = r) := Lib.hid (HST.out.trans (by unfold ruleAll; simp only [hr1, hr2, hr3]))
            clear hr1 hr2 hr3
            go_wp2_with (first
              | (refine wpList_indexF (o := ⟨some 28, _, _, _, _, _⟩) rfl 157 (.tmp 25) (.tmp 26) rfl _ _ (.func (.func 128) #[] #[]) rfl rfl (ruleFn_any 2 _ (by decide)) ?_)
              | (go_at_call 128; refine (KK.out _ G5.out).mono ?_; rintro e w6 ⟨b6, rfl, hl6, hb6⟩; have H6 := Lib.hid hl6; have T6 := Lib.hid (T5.out.trans (hb6.mono T5.out.size)); clear hl6 hb6; have z2 := (HSTO.out _ T6.out).1; have f2 := (HSTO.out _ T6.out).2))
            have HNX := Lib.hid (HR.out.next hlt T6.out (by rw [HRES.out]; exact H6.out))

            go_roundw
            case rel => exact ⟨i + 1, by omega, by go_num, HNX⟩
            case measure => simp [intOf]; omega
          | none =>
            have KK := Lib.hid (fun W h => K3.out (.pointer (some ⟨b3, 0, none⟩)) W h)
            rw [hr3] at KK
            unfold LkOpt at KK
            have hr3h := Lib.hid hr3
            clear hr3
            go_wp2_with (first
              | (refine wpList_indexF (o := ⟨some 28, _, _, _, _, _⟩) rfl 157 (.tmp 25) (.tmp 26) rfl _ _ (.func (.func 128) #[] #[]) rfl rfl (ruleFn_any 2 _ (by decide)) ?_)
              | (go_at_call 128; refine (KK.out _ G5.out).mono ?_; rintro e w6 ⟨rfl, hb6⟩; have G6 := Lib.hid (G5.out.below hb6); have T6 := Lib.hid (T5.out.trans (hb6.mono T5.out.size)); clear hb6))
            clear KK
            have hr3 := hr3h.out
            clear hr3h
            rw [rounds_succ]
            cases hr4 : rule4 T with
            | some r =>
              have KK := Lib.hid (fun W h => K4.out (.pointer (some ⟨b3, 0, none⟩)) W h)
              rw [hr4] at KK
              unfold LkOpt LkAns at KK
              have HRES : Hid (simpT (tmAt xs i) = r) := Lib.hid (HST.out.trans (by unfold ruleAll; simp only [hr1, hr2, hr3, hr4]))
              clear hr1 hr2 hr3 hr4
              go_wp2_with (first
                | (refine wpList_indexF (o := ⟨some 28, _, _, _, _, _⟩) rfl 157 (.tmp 25) (.tmp 26) rfl _ _ (.func (.func 129) #[] #[]) rfl rfl (ruleFn_any 3 _ (by decide)) ?_)
                | (go_at_call 129; refine (KK.out _ G6.out).mono ?_; rintro e w7 ⟨b7, rfl, hl7, hb7⟩; have H7 := Lib.hid hl7; have T7 := Lib.hid (T6.out.trans (hb7.mono T6.out.size)); clear hl7 hb7; have z2 := (HSTO.out _ T7.out).1; have f2 := (HSTO.out _ T7.out).2))
              have HNX := Lib.hid (HR.out.next hlt T7.out (by rw [HRES.out]; exact H7.out))

              go_roundw
              case rel => exact ⟨i + 1, by omega, by go_num, HNX⟩
              case measure => simp [intOf]; omega
            | none =>
              have KK := Lib.hid (fun W h => K4.out (.pointer (some ⟨b3, 0, none⟩)) W h)
              rw [hr4] at KK
              unfold LkOpt at KK
              have hr4h := Lib.hid hr4
              clear hr4
              go_wp2_with (first
                | (refine wpList_indexF (o := ⟨some 28, _, _, _, _, _⟩) rfl 157 (.tmp 25) (.tmp 26) rfl _ _ (.func (.func 129) #[] #[]) rfl rfl (ruleFn_any 3 _ (by decide)) ?_)
                | (go_at_call 129; refine (KK.out _ G6.out).mono ?_; rintro e w7 ⟨rfl, hb7⟩; have G7 := Lib.hid (G6.out.below hb7); have T7 := Lib.hid (T6.out.trans (hb7.mono T6.out.size)); clear hb7))
              clear KK
              have hr4 := hr4h.out
              clear hr4h
              rw [rounds_succ]
              have HRES : Hid (simpT (tmAt xs i) = T) := Lib.hid (HST.out.trans (by unfold ruleAll; simp only [hr1, hr2, hr3, hr4]))
              clear hr1 hr2 hr3 hr4
              obtain ⟨z2, f2⟩ := HSTO.out _ T7.out
              have HNX := Lib.hid (HR.out.next hlt T7.out (by rw [HRES.out]; exact G7.out))
              go_wp2
              go_roundw
              case rel => exact ⟨i + 1, by omega, by go_num, HNX⟩
              case measure => simp [intOf]; omega
    · obtain rfl : i = xs.length := by omega
      have HMD := Lib.hid (HR.out.made (Nat.le_refl _))
      have BR : Hid (Below w.heap.size w wr) := Lib.hid (B1.out.trans (HR.out.1.mono B1.out.size))
      obtain ⟨p, hpc, hpl⟩ := HMD.out.2 (xs.length - 1) (by omega)
      simp only [] at hpl
      rw [← HRT.out] at hpl
      obtain ⟨bp, rfl, -⟩ := hpl.ptr
      have HPL := Lib.hid (hpl.down (Nat.zero_le _))
      have hq0 : (0 : Int) ≤ (xs.length : Int) - 1 := by omega
      have hq1 : (xs.length : Int) - 1 < (xs.length : Int) := by omega
      have hq2 : (1 : Int) ≤ (xs.length : Int) := by omega
      clear hpl
      go_wp2
      try rw [Exit.noGoto_ret]
      go_ret
      exact ⟨_, rfl, HPL.out, BR.out⟩

set_option maxHeartbeats 8000000 in
theorem implSimplify_any (u : Value) (xs : List Nd) (w : World) (hr : Ns w u xs) :
    Calls Tryz.prog 28 #[u] w (Ans w (simpL xs)) := by
  have HR := Lib.hid hr
  have KO := Lib.hid (fun W h => implForm_any u xs W h)
  obtain ⟨ua, uc, rfl, -⟩ := hr
  cases hf : formOk xs with
  | false =>
    have HA : Hid (simpL xs = none) := Lib.hid (by unfold simpL; rw [hf]; rfl)
    rw [hf] at KO
    clear hf
    go_enter Tryz.func28, Tryz.ntmps28
    go_wp2_with fail
    refine (KO.out _ HR.out).mono ?_
    rintro e w1 ⟨rfl, hb1⟩
    have B1 := Lib.hid hb1; clear hb1
    go_wp2
    go_returns
    rw [HA.out]
    exact Ans.none_of B1.out
  | true =>
    rw [hf] at KO
    obtain ⟨hw, hz⟩ := simp_wf _ (termOfL_wf hf)
    have hs := termOfL_size hf
    have HA : Hid (simpL xs = some (lay 0 (simpT (termOfL xs)))) := Lib.hid (by unfold simpL; rw [hf]; rfl)
    have KW := Lib.hid (fun W h => simplified_any xs (.slice ua xs.length uc) W hf h)
    have KT := Lib.hid (fun b W h => term_any 0 (simpT (termOfL xs)) (.pointer (some ⟨b, 0, none⟩)) W h (Tm.wf_ops _ hw))
    have KF := Lib.hid (fun W => formulaOf_any (simpT (termOfL xs)) W (by omega))
    rw [show combL (simpT (termOfL xs)) = some (lay 0 (simpT (termOfL xs))) by unfold combL; rw [if_pos (lay_formOk hw (by omega))]] at KF
    unfold LkAns at KW
    unfold Ans at KF
    clear hf hw hz hs
    generalize simpT (termOfL xs) = T at *
    obtain ⟨ty, pv, hx⟩ := tv_form T
    rw [hx] at KT KF
    clear hx
    go_enter Tryz.func28, Tryz.ntmps28
    go_wp2_with fail
    refine (KO.out _ HR.out).mono ?_
    rintro e w1 ⟨rfl, hb1⟩
    have B1 := Lib.hid hb1; clear hb1
    go_wp2_with fail
    refine (KW.out _ (HR.out.below B1.out (Nat.le_refl _))).mono ?_
    rintro e w3 ⟨b3, rfl, hl3, hb3⟩
    have H3 := Lib.hid hl3
    have B3 := Lib.hid (B1.out.trans (hb3.mono B1.out.size)); clear hb3 hl3
    go_wp2_with fail
    refine (KT.out _ _ H3.out).mono ?_
    rintro e w4 ⟨rfl, hb4⟩
    have B4 := Lib.hid (B3.out.trans (hb4.mono B3.out.size)); clear hb4
    go_wp2_with fail
    refine (KF.out _).mono ?_
    rintro e w5 ⟨v5, rfl, ho5, hb5⟩
    have O5 := Lib.hid ho5; have B5 := Lib.hid hb5; clear ho5 hb5
    go_wp2
    go_returns
    rw [HA.out]
    exact Ans.later B4.out ⟨_, rfl, O5.out, B5.out⟩
end Go.Proofs.YtodjohdbngbpaaaGreat
