/-
  Contracts of grid.hasAgentsOf and truthIn. No condition but the models' and the formulas' readings.
-/
import Derived.Test.YtodjohdbngbpaaaGreatZMeg
namespace Go.Proofs.YtodjohdbngbpaaaGreat
open Go.RowKit Go.WideShapes
open Go Go.Deep
set_option linter.unusedSimpArgs false

section
variable {P : Program}
/-- three results, the first two in blocks of the call's own -/
theorem results_mid3 {fn : Func} {p p2 q : Tmp} {ty ty2 : TypeId} (h : fn.results = #[.cell p ty, .cell p2 ty2, .tmp q]) (tmps : Array Value) (w : World) (b b2 : Nat) (cs cs2 : List Value) (d d2 : TypeDesc) (v : Value)
    (hp : tmps.getD p undef = .pointer (some ⟨b, 0, none⟩)) (hp2 : tmps.getD p2 undef = .pointer (some ⟨b2, 0, none⟩)) (hq : tmps.getD q undef = v) (hc : w.rangeAt b 0 cs) (hc2 : w.rangeAt b2 0 cs2) (hu : P.underlying ty = some d) (hd : d.isRow = true) (hu2 : P.underlying ty2 = some d2) (hd2 : d2.isRow = true) (hi : (P.info? ty).map (·.size) = some cs.length) (hi2 : (P.info? ty2).map (·.size) = some cs2.length) :
    (results fn tmps).run P w = .ok (.tuple #[.agg cs.toArray, .agg cs2.toArray, v]) w := by
  have hp' : tmps[p]?.getD undef = .pointer (some ⟨b, 0, none⟩) := by simpa using hp
  have hp2' : tmps[p2]?.getD undef = .pointer (some ⟨b2, 0, none⟩) := by simpa using hp2
  have hq' : tmps[q]?.getD undef = v := by simpa using hq
  simp [results, h, hp', hp2', hq', asAddr, run_loadVar_mid w b 0 ty cs d hc hu hd hi, run_loadVar_mid w b2 0 ty2 cs2 d2 hc2 hu2 hd2 hi2]
end
/-- an agent that a node names is one of A -/
def agentOk (A : Nat) (x : Nd) : Bool := !(decide (x.op = 5 ∨ x.op = 6)) || inB x.n A
def agentsOk (xs : List Nd) (A : Nat) : Bool := (List.range xs.length).all fun j => agentOk A (xs.getD j default)
theorem agents_no {xs : List Nd} {A k : Nat} (hk : k < xs.length) (h : agentOk A (xs.getD k default) = false) : agentsOk xs A = false := by
  unfold agentsOk; rw [List.all_eq_false]; exact ⟨k, List.mem_range.2 hk, by rw [h]; decide⟩
theorem agents_yes {xs : List Nd} {A : Nat} (h : ∀ k, k < xs.length → agentOk A (xs.getD k default) = true) : agentsOk xs A = true := by
  unfold agentsOk; rw [List.all_eq_true]; exact fun k hk => h k (List.mem_range.1 hk)

set_option maxRecDepth 100000 in
set_option maxHeartbeats 16000000 in
theorem hasAgentsOf_any (m : Md) (v : Value) (xs : List Nd) (w : World) (hs : small m.facts m.blocks) (hr : Ns w v xs) :
    Calls Tryz.prog 110 #[.agg (ints (gM m)).toArray, v] w fun e w' => e = .returned (.bool (agentsOk xs m.blocks.length)) ∧ Below w.heap.size w w' := by
  obtain ⟨a, cap, rfl, h1, h2, h3⟩ := hr.parts
  have KEY := Lib.hid h3
  unfold maxLen at h2
  have KA := Lib.hid (fun x W => hasAgent_any m.facts.length m.blocks.length m.actual m.facts m.blocks x W)
  have HLG : Hid ((ints (gM m)).length = 67) := Lib.hid (by rw [ints_len]; exact gL_len hs)
  change Hid (∀ x W', Calls _ _ #[.agg (ints (gM m)).toArray, _] W' _) at KA
  generalize gM m = G at *
  obtain ⟨R, hR⟩ : ∃ R, R = agentsOk xs m.blocks.length := ⟨_, rfl⟩
  rw [← hR]
  have HR := Lib.hid hR
  clear h3 hr hR hs
  go_enter Tryz.func110, Tryz.ntmps110
  go_wp2
  go_loopw [9] (fun iv wr => ∃ k : Nat, k ≤ xs.length ∧ iv = .int .i64 k ∧ Hid (∀ j, j < k → agentOk m.blocks.length (xs.getD j default) = true) ∧ Hid (Cm wr w.heap.size 85 (ints G)) ∧ Hid (Below w.heap.size w wr)) (fun iv _ => xs.length - (intOf iv).toNat)
  case atStart => exact ⟨0, Nat.zero_le _, rfl, Lib.hid (fun j hj => by omega), Lib.hid (Cm.new rfl), Lib.hid (by go_grown)⟩
  case round =>
    obtain ⟨k, hk, rfl, HK, CR, BR⟩ := hrel
    by_cases hlt : k < xs.length
    · obtain ⟨b, o, rfl, hb, c0, c1, c2, c3⟩ := KEY.out k hlt
      rw [← BR.out.cell (p := ⟨b, o + k * 4, none⟩) hb] at c0
      rw [← BR.out.cell (p := ⟨b, o + k * 4 + 1, none⟩) hb] at c1
      rw [← BR.out.cell (p := ⟨b, o + k * 4 + 2, none⟩) hb] at c2
      rw [← BR.out.cell (p := ⟨b, o + k * 4 + 3, none⟩) hb] at c3
      have HF : Hid (agentOk m.blocks.length (xs.getD k default) = false → R = false) := Lib.hid (fun h => by rw [HR.out, agents_no hlt h])
      have HN : Hid (agentOk m.blocks.length (xs.getD k default) = true → ∀ j, j < k + 1 → agentOk m.blocks.length (xs.getD j default) = true) := Lib.hid (fun h j hj => by
        rcases Nat.lt_or_eq_of_le (Nat.le_of_lt_succ hj) with h1 | h1
        · exact HK.out j h1
        · subst h1; exact h)
      obtain ⟨x, hx⟩ : ∃ x, x = xs.getD k default := ⟨_, rfl⟩
      rw [← hx] at c0 c1 c2 c3 HF HN
      clear hx
      have KN := Lib.hid (fun W => namesAgent_any x.op W)
      have HAK : Hid (agentOk m.blocks.length x = (!(decide (x.op = 5 ∨ x.op = 6)) || inB x.n m.blocks.length)) := Lib.hid rfl
      obtain ⟨q, hq⟩ : ∃ q, q = decide (x.op = 5 ∨ x.op = 6) := ⟨_, rfl⟩
      rw [← hq] at KN HAK
      clear hq
      have lg := CR.out.lt
      cases q with
      | false =>
        have HN' := Lib.hid (HN.out (by rw [HAK.out]; rfl))
        go_wp2_with fail
        refine (KN.out _).mono ?_
        rintro e w2 ⟨rfl, rfl⟩
        go_wp2
        go_roundw
        case rel => exact ⟨k + 1, by omega, by go_num, HN', Lib.hid (CR.out.alloc _), Lib.hid (BR.out.alloc BR.out.size _)⟩
        case measure => simp [intOf]; omega
      | true =>
        have KA := Lib.hid (KA.out x.n)
        obtain ⟨q2, hq⟩ : ∃ q, q = inB x.n m.blocks.length := ⟨_, rfl⟩
        rw [← hq] at KA HAK
        clear hq
        cases q2 with
        | true =>
          have HN' := Lib.hid (HN.out (by rw [HAK.out]; rfl))
          go_wp2_with fail
          refine (KN.out _).mono ?_
          rintro e w2 ⟨rfl, rfl⟩
          have C2 := Lib.hid (CR.out.alloc (.cells #[.int .i64 x.op, .int .i64 x.n, .int .i64 x.a, .int .i64 x.b] 112))
          have B2 := Lib.hid (BR.out.alloc BR.out.size (.cells #[.int .i64 x.op, .int .i64 x.n, .int .i64 x.a, .int .i64 x.b] 112))
          have tk1 : True := trivial
          have tk2 : True := trivial
          go_wp2_with
            (first
              | (have _t := tk1; clear _t tk1; refine wpList_loadMG rfl (by rfl) 85 _ rfl w.heap.size 0 rfl 85 (ints G) (ints G) C2.out (fun j _ => by rw [Nat.zero_add]) _ Tryz.underlying85 rfl (by rw [HLG.out]; exact Tryz.sizeGrid) ?_)
              | (have _t := tk2; clear _t tk2; go_at_call 143; (with_reducible refine (KA.out _).mono ?_); rintro e w4 ⟨rfl, hb4⟩; have C3 := Lib.hid (C2.out.all hb4); have B3 := Lib.hid (B2.out.trans (hb4.mono B2.out.size)); clear hb4))
          go_roundw
          case rel => exact ⟨k + 1, by omega, by go_num, HN', C3, B3⟩
          case measure => simp [intOf]; omega
        | false =>
          have HF' := Lib.hid (HF.out (by rw [HAK.out]; rfl))
          go_wp2_with fail
          refine (KN.out _).mono ?_
          rintro e w2 ⟨rfl, rfl⟩
          have C2 := Lib.hid (CR.out.alloc (.cells #[.int .i64 x.op, .int .i64 x.n, .int .i64 x.a, .int .i64 x.b] 112))
          have B2 := Lib.hid (BR.out.alloc BR.out.size (.cells #[.int .i64 x.op, .int .i64 x.n, .int .i64 x.a, .int .i64 x.b] 112))
          have tk3 : True := trivial
          have tk4 : True := trivial
          go_wp2_with
            (first
              | (have _t := tk3; clear _t tk3; refine wpList_loadMG rfl (by rfl) 85 _ rfl w.heap.size 0 rfl 85 (ints G) (ints G) C2.out (fun j _ => by rw [Nat.zero_add]) _ Tryz.underlying85 rfl (by rw [HLG.out]; exact Tryz.sizeGrid) ?_)
              | (have _t := tk4; clear _t tk4; go_at_call 143; (with_reducible refine (KA.out _).mono ?_); rintro e w4 ⟨rfl, hb4⟩; have B3 := Lib.hid (B2.out.trans (hb4.mono B2.out.size)); clear hb4))
          go_ret
          exact ⟨ret_bool HF'.out.symm, B3.out⟩
    · go_wp2
      go_ret
      exact ⟨ret_bool (by rw [HR.out, agents_yes (fun j hj => HK.out j (by omega))]), BR.out⟩

/-- the formula can be evaluated in the model -/
def evOk (m : Md) (xs : List Nd) : Bool := mdOk m && formOk xs && agentsOk xs m.blocks.length
def evP (m : Md) (xs : List Nd) : Nat → Bool := evI (tmAt xs (xs.length - 1)) m
/-- what truthIn answers -/
def trV (m : Md) (p : Nat → Bool) : Bool → Value
  | true => .tuple #[.agg (ints (gM m)).toArray, .agg (bL p).toArray, .bool true]
  | false => .tuple #[.agg (ints (gL 0 0 [] [] 0)).toArray, .agg (bL (fun _ => false)).toArray, .bool false]
def TrAns (w : World) (m : Md) (p : Nat → Bool) (ok : Bool) (e : Ending) (w' : World) : Prop := e = .returned (trV m p ok) ∧ Below w.heap.size w w'
theorem mdOk_gok {m : Md} (h : mdOk m = true) : gok m := ⟨md_fits h, (mdOk_parts h).2.2.1, (mdOk_parts h).2.2.2.2.2.1⟩

set_option maxRecDepth 100000 in
set_option maxHeartbeats 32000000 in
theorem truthIn_any (lo hi : Nat) (v v2 : Value) (m : Md) (xs : List Nd) (w : World) (hr : Mv lo hi w v m) (hhi : hi ≤ w.heap.size) (hr2 : Ns w v2 xs) :
    Calls Tryz.prog 60 #[v, v2] w (TrAns w m (evP m xs) (evOk m xs)) := by
  have KG := Lib.hid (fun W (h : Below w.heap.size w W) => gridOf_any lo hi v m W (hr.keeps (Keeps.of_all h)) (Nat.le_trans hhi h.size))
  have KF := Lib.hid (fun W (h : Below w.heap.size w W) => implForm_any v2 xs W (hr2.below h (Nat.le_refl _)))
  have KA := Lib.hid (fun (hm : mdOk m = true) W (h : Below w.heap.size w W) => hasAgentsOf_any m v2 xs W (md_small hm) (hr2.below h (Nat.le_refl _)))
  have KM := Lib.hid (fun (hf : formOk xs = true) W (h : Below w.heap.size w W) => meaningOf_any v2 xs W (hr2.below h (Nat.le_refl _)) hf)
  have HR : Hid (evOk m xs = (mdOk m && formOk xs && agentsOk xs m.blocks.length)) := Lib.hid rfl
  unfold TrAns
  generalize evOk m xs = R at *
  have HP : Hid (evP m xs = evI (tmAt xs (xs.length - 1)) m) := Lib.hid rfl
  generalize evP m xs = PP at *
  obtain ⟨fv, bv, rfl, hf, hb⟩ := hr
  obtain ⟨a2, c2, rfl, -⟩ := hr2.parts
  clear hf hb hhi hr2
  cases hm : mdOk m with
  | false =>
    simp only [hm, Bool.false_eq_true, if_false] at KG
    have HR' : Hid (R = false) := Lib.hid (by rw [HR.out, hm]; rfl)
    clear HR hm KF KA KM
    unfold GdAns at KG
    simp only [Option.getD_none, Option.isSome_none] at KG
    have HLG : Hid ((ints (gL 0 0 [] [] 0)).length = 67) := Lib.hid rfl
    have HLO := Lib.hid (fun v (hv : v ∈ ints (gL 0 0 [] [] 0)) => ints_one hv)
    obtain ⟨G, hG⟩ : ∃ G, G = gL 0 0 [] [] 0 := ⟨_, rfl⟩
    rw [← hG] at KG HLG HLO
    clear hG
    go_enter Tryz.func60, Tryz.ntmps60
    have tk5 : True := trivial
    have tk6 : True := trivial
    go_wp2_with
      (first
        | (have _t := tk5; clear _t tk5; refine wpList_allocM rfl 85 rfl (ints (gL 0 0 [] [] 0)) Tryz.allocGrid ?_
           intro w1 hc1 hb1 hs1
           have R1 : Hid (Cm w1 (w.heap.size + 1) 85 (ints (gL 0 0 [] [] 0))) := Lib.hid (by simpa using hc1)
           have X1 := Lib.hid (Mcell.below (Mcell.new (w := w) (T := 26) (b := w.heap.size) (fv := fv) (bv := bv) (n := m.actual) rfl) hb1)
           have B1 : Hid (Below w.heap.size w w1) := Lib.hid (Below.trans (by go_grown) (hb1.mono (by simp)))
           have lt1 : w.heap.size + 1 < w1.heap.size := R1.out.lt
           clear hc1 hb1 hs1)
        | (have _t := tk6; clear _t tk6; refine wpList_allocM rfl 89 rfl (bL (fun _ => false)) Tryz.allocSet ?_
           intro w2 hc1 hb1 hs1
           have Q1 := Lib.hid hc1
           have R1 := Lib.hid (R1.out.all hb1)
           have X1 := Lib.hid (X1.out.below hb1)
           have B1 := Lib.hid (B1.out.trans (hb1.mono B1.out.size))
           have lt2 : w1.heap.size < w2.heap.size := Q1.out.lt
           obtain ⟨xc0, xc1, xc2, xc3, xc4, xc5⟩ := X1.out
           clear hc1 hb1 hs1))
    refine (KG.out _ B1.out).mono ?_
    rintro e w3 ⟨rfl, hb3⟩
    have Q1 := Lib.hid (Q1.out.all hb3)
    have R1 := Lib.hid (R1.out.all hb3)
    have X1 := Lib.hid (X1.out.below hb3)
    have B1 := Lib.hid (B1.out.trans (hb3.mono B1.out.size))
    have lt3 : w2.heap.size ≤ w3.heap.size := hb3.size
    clear hb3 xc0 xc1 xc2 xc3 xc4 xc5
    have tk7 : True := trivial
    have tk8 : True := trivial
    have tk9 : True := trivial
    have tk10 : True := trivial
    have tk11 : True := trivial
    have tk12 : True := trivial
    go_wp2_with
      (first
        | (have _t := tk7; clear _t tk7; refine wpList_allocM rfl 85 rfl (ints (gL 0 0 [] [] 0)) Tryz.allocGrid ?_
           intro w4 hc1 hb1 hs1
           have G1 := Lib.hid hc1
           have Q1 := Lib.hid (Q1.out.all hb1)
           have R1 := Lib.hid (R1.out.all hb1)
           have B1 := Lib.hid (B1.out.trans (hb1.mono B1.out.size))
           have lt4 : w3.heap.size < w4.heap.size := G1.out.lt
           clear hc1 hb1 hs1)
        | (have _t := tk8; clear _t tk8; refine wpList_storeM rfl 85 _ _ rfl w3.heap.size 0 rfl (ints G) rfl 85 (ints (gL 0 0 [] [] 0)) G1.out (by rw [HLG.out]; exact Nat.le_refl _) (by rw [HLG.out]; exact Tryz.sizeGrid) HLO.out ?_
           intro w5 hc3 ha3
           rw [lay'_all (by rw [HLG.out]; rfl)] at hc3
           have G1 := Lib.hid hc3
           have Q1 := Lib.hid (ha3.cm Q1.out (by omega))
           have R1 := Lib.hid (ha3.cm R1.out (by omega))
           have B1 : Hid (Below w.heap.size w w5) := Lib.hid (B1.out.trans (ha3.below (by omega)))
           clear hc3 ha3)
        | (have _t := tk9; clear _t tk9; refine wpList_buildM rfl 85 _ rfl #[] (by simp) (ints (gL 0 0 [] [] 0)) (Tryz.buildGrid0 _) ?_)
        | (have _t := tk10; clear _t tk10; refine wpList_buildM rfl 89 _ rfl #[] (by simp) (bL (fun _ => false)) (Tryz.buildSet _) ?_)
        | (have _t := tk11; clear _t tk11; refine wpList_storeM rfl 85 (.tmp 4) (.tmp 27) rfl (w.heap.size + 1) 0 rfl (ints (gL 0 0 [] [] 0)) rfl 85 _ R1.out (Nat.le_refl _) Tryz.sizeGrid (fun v hv => ints_one hv) ?_
           intro w8 hc3 ha3
           rw [lay'_all rfl] at hc3
           have R1 := Lib.hid hc3
           have Q1 := Lib.hid (ha3.cm Q1.out (by omega))
           have B1 : Hid (Below w.heap.size w w8) := Lib.hid (B1.out.trans (ha3.below (by omega)))
           clear hc3 ha3)
        | (have _t := tk12; clear _t tk12; refine wpList_storeM rfl 89 (.tmp 5) (.tmp 28) rfl w1.heap.size 0 rfl (bL (fun _ => false)) rfl 89 _ Q1.out (by rw [bL_len]; exact Nat.le_refl _) (by rw [bL_len]; exact Tryz.sizeSet) (fun v hv => bL_one hv) ?_
           intro w9 hc3 ha3
           rw [lay'_all rfl] at hc3
           have Q1 := Lib.hid hc3
           have R1 := Lib.hid (ha3.cm R1.out (by omega))
           have B1 : Hid (Below w.heap.size w w9) := Lib.hid (B1.out.trans (ha3.below (by omega)))
           clear hc3 ha3))
    refine bodyPost_ret (results_mid3 Tryz.results60 _ _ (w.heap.size + 1) w1.heap.size (ints (gL 0 0 [] [] 0)) (bL (fun _ => false)) _ _ (.bool false) rfl rfl rfl R1.out.whole Q1.out.whole Tryz.underlying85 rfl Tryz.underlying89 rfl Tryz.sizeGrid (by rw [bL_len]; exact Tryz.sizeSet)) rfl ?_
    rw [HR'.out]
    exact ⟨rfl, B1.out⟩
  | true =>
    have HMD := Lib.hid hm
    simp only [hm, if_true] at KG
    have hs := md_small hm
    have HLG : Hid ((ints (gM m)).length = 67) := Lib.hid (by rw [ints_len]; exact gL_len hs)
    have HLO := Lib.hid (fun v (hv : v ∈ ints (gM m)) => ints_one hv)
    have KA := Lib.hid (KA.out hm)
    unfold GdAns at KG
    simp only [Option.getD_some, Option.isSome_some] at KG
    unfold gOf at KG
    rw [hm] at HR
    change Hid (∀ W, _ → Calls _ _ _ W fun e w' => e = .returned (.tuple #[.agg (ints (gM m)).toArray, _]) ∧ _) at KG
    clear hm hs
    cases hf : formOk xs with
    | false =>
      rw [hf] at KF HR
      have HR' : Hid (R = false) := Lib.hid (by rw [HR.out]; rfl)
      generalize gM m = G at *
      clear HR hf KA KM
      go_enter Tryz.func60, Tryz.ntmps60
      have tk13 : True := trivial
      have tk14 : True := trivial
      go_wp2_with
        (first
          | (have _t := tk13; clear _t tk13; refine wpList_allocM rfl 85 rfl (ints (gL 0 0 [] [] 0)) Tryz.allocGrid ?_
             intro w1 hc1 hb1 hs1
             have R1 : Hid (Cm w1 (w.heap.size + 1) 85 (ints (gL 0 0 [] [] 0))) := Lib.hid (by simpa using hc1)
             have X1 := Lib.hid (Mcell.below (Mcell.new (w := w) (T := 26) (b := w.heap.size) (fv := fv) (bv := bv) (n := m.actual) rfl) hb1)
             have B1 : Hid (Below w.heap.size w w1) := Lib.hid (Below.trans (by go_grown) (hb1.mono (by simp)))
             have lt1 : w.heap.size + 1 < w1.heap.size := R1.out.lt
             clear hc1 hb1 hs1)
          | (have _t := tk14; clear _t tk14; refine wpList_allocM rfl 89 rfl (bL (fun _ => false)) Tryz.allocSet ?_
             intro w2 hc1 hb1 hs1
             have Q1 := Lib.hid hc1
             have R1 := Lib.hid (R1.out.all hb1)
             have X1 := Lib.hid (X1.out.below hb1)
             have B1 := Lib.hid (B1.out.trans (hb1.mono B1.out.size))
             have lt2 : w1.heap.size < w2.heap.size := Q1.out.lt
             obtain ⟨xc0, xc1, xc2, xc3, xc4, xc5⟩ := X1.out
             clear hc1 hb1 hs1))
      refine (KG.out _ B1.out).mono ?_
      rintro e w3 ⟨rfl, hb3⟩
      have Q1 := Lib.hid (Q1.out.all hb3)
      have R1 := Lib.hid (R1.out.all hb3)
      have X1 := Lib.hid (X1.out.below hb3)
      have B1 := Lib.hid (B1.out.trans (hb3.mono B1.out.size))
      have lt3 : w2.heap.size ≤ w3.heap.size := hb3.size
      clear hb3 xc0 xc1 xc2 xc3 xc4 xc5
      have tk15 : True := trivial
      have tk16 : True := trivial
      have tk17 : True := trivial
      have tk18 : True := trivial
      have tk19 : True := trivial
      have tk20 : True := trivial
      have tk21 : True := trivial
      go_wp2_with
        (first
          | (have _t := tk15; clear _t tk15; refine wpList_allocM rfl 85 rfl (ints (gL 0 0 [] [] 0)) Tryz.allocGrid ?_
             intro w4 hc1 hb1 hs1
             have G1 := Lib.hid hc1
             have Q1 := Lib.hid (Q1.out.all hb1)
             have R1 := Lib.hid (R1.out.all hb1)
             have B1 := Lib.hid (B1.out.trans (hb1.mono B1.out.size))
             have lt4 : w3.heap.size < w4.heap.size := G1.out.lt
             clear hc1 hb1 hs1)
          | (have _t := tk16; clear _t tk16; refine wpList_storeM rfl 85 _ _ rfl w3.heap.size 0 rfl (ints G) rfl 85 (ints (gL 0 0 [] [] 0)) G1.out (by rw [HLG.out]; exact Nat.le_refl _) (by rw [HLG.out]; exact Tryz.sizeGrid) HLO.out ?_
             intro w5 hc3 ha3
             rw [lay'_all (by rw [HLG.out]; rfl)] at hc3
             have G1 := Lib.hid hc3
             have Q1 := Lib.hid (ha3.cm Q1.out (by omega))
             have R1 := Lib.hid (ha3.cm R1.out (by omega))
             have B1 : Hid (Below w.heap.size w w5) := Lib.hid (B1.out.trans (ha3.below (by omega)))
             clear hc3 ha3)
          | (have _t := tk17; clear _t tk17; go_at_call 71; (with_reducible refine (KF.out _ B1.out).mono ?_); rintro e w6 ⟨rfl, hb4⟩; have G1 := Lib.hid (G1.out.all hb4); have Q1 := Lib.hid (Q1.out.all hb4); have R1 := Lib.hid (R1.out.all hb4); have B1 : Hid (Below w.heap.size w w6) := Lib.hid (B1.out.trans (hb4.mono B1.out.size)); clear hb4)
          | (have _t := tk18; clear _t tk18; refine wpList_buildM rfl 85 _ rfl #[] (by simp) (ints (gL 0 0 [] [] 0)) (Tryz.buildGrid0 _) ?_)
          | (have _t := tk19; clear _t tk19; refine wpList_buildM rfl 89 _ rfl #[] (by simp) (bL (fun _ => false)) (Tryz.buildSet _) ?_)
          | (have _t := tk20; clear _t tk20; refine wpList_storeM rfl 85 (.tmp 4) (.tmp 27) rfl (w.heap.size + 1) 0 rfl (ints (gL 0 0 [] [] 0)) rfl 85 _ R1.out (Nat.le_refl _) Tryz.sizeGrid (fun v hv => ints_one hv) ?_
             intro w8 hc3 ha3
             rw [lay'_all rfl] at hc3
             have R1 := Lib.hid hc3
             have Q1 := Lib.hid (ha3.cm Q1.out (by omega))
             have B1 : Hid (Below w.heap.size w w8) := Lib.hid (B1.out.trans (ha3.below (by omega)))
             clear hc3 ha3)
          | (have _t := tk21; clear _t tk21; refine wpList_storeM rfl 89 (.tmp 5) (.tmp 28) rfl w1.heap.size 0 rfl (bL (fun _ => false)) rfl 89 _ Q1.out (by rw [bL_len]; exact Nat.le_refl _) (by rw [bL_len]; exact Tryz.sizeSet) (fun v hv => bL_one hv) ?_
             intro w9 hc3 ha3
             rw [lay'_all rfl] at hc3
             have Q1 := Lib.hid hc3
             have R1 := Lib.hid (ha3.cm R1.out (by omega))
             have B1 : Hid (Below w.heap.size w w9) := Lib.hid (B1.out.trans (ha3.below (by omega)))
             clear hc3 ha3))
      refine bodyPost_ret (results_mid3 Tryz.results60 _ _ (w.heap.size + 1) w1.heap.size (ints (gL 0 0 [] [] 0)) (bL (fun _ => false)) _ _ (.bool false) rfl rfl rfl R1.out.whole Q1.out.whole Tryz.underlying85 rfl Tryz.underlying89 rfl Tryz.sizeGrid (by rw [bL_len]; exact Tryz.sizeSet)) rfl ?_
      rw [HR'.out]
      exact ⟨rfl, B1.out⟩
    | true =>
      have KM := Lib.hid (KM.out hf)
      rw [hf] at KF HR
      clear hf
      cases hag : agentsOk xs m.blocks.length with
      | false =>
        rw [hag] at KA HR
        have HR' : Hid (R = false) := Lib.hid (by rw [HR.out]; rfl)
        generalize gM m = G at *
        clear HR hag KM
        go_enter Tryz.func60, Tryz.ntmps60
        have tk22 : True := trivial
        have tk23 : True := trivial
        go_wp2_with
          (first
            | (have _t := tk22; clear _t tk22; refine wpList_allocM rfl 85 rfl (ints (gL 0 0 [] [] 0)) Tryz.allocGrid ?_
               intro w1 hc1 hb1 hs1
               have R1 : Hid (Cm w1 (w.heap.size + 1) 85 (ints (gL 0 0 [] [] 0))) := Lib.hid (by simpa using hc1)
               have X1 := Lib.hid (Mcell.below (Mcell.new (w := w) (T := 26) (b := w.heap.size) (fv := fv) (bv := bv) (n := m.actual) rfl) hb1)
               have B1 : Hid (Below w.heap.size w w1) := Lib.hid (Below.trans (by go_grown) (hb1.mono (by simp)))
               have lt1 : w.heap.size + 1 < w1.heap.size := R1.out.lt
               clear hc1 hb1 hs1)
            | (have _t := tk23; clear _t tk23; refine wpList_allocM rfl 89 rfl (bL (fun _ => false)) Tryz.allocSet ?_
               intro w2 hc1 hb1 hs1
               have Q1 := Lib.hid hc1
               have R1 := Lib.hid (R1.out.all hb1)
               have X1 := Lib.hid (X1.out.below hb1)
               have B1 := Lib.hid (B1.out.trans (hb1.mono B1.out.size))
               have lt2 : w1.heap.size < w2.heap.size := Q1.out.lt
               obtain ⟨xc0, xc1, xc2, xc3, xc4, xc5⟩ := X1.out
               clear hc1 hb1 hs1))
        refine (KG.out _ B1.out).mono ?_
        rintro e w3 ⟨rfl, hb3⟩
        have Q1 := Lib.hid (Q1.out.all hb3)
        have R1 := Lib.hid (R1.out.all hb3)
        have X1 := Lib.hid (X1.out.below hb3)
        have B1 := Lib.hid (B1.out.trans (hb3.mono B1.out.size))
        have lt3 : w2.heap.size ≤ w3.heap.size := hb3.size
        clear hb3 xc0 xc1 xc2 xc3 xc4 xc5
        have tk24 : True := trivial
        have tk25 : True := trivial
        have tk26 : True := trivial
        have tk27 : True := trivial
        have tk28 : True := trivial
        have tk29 : True := trivial
        have tk30 : True := trivial
        have tk31 : True := trivial
        have tk32 : True := trivial
        go_wp2_with
          (first
            | (have _t := tk24; clear _t tk24; refine wpList_allocM rfl 85 rfl (ints (gL 0 0 [] [] 0)) Tryz.allocGrid ?_
               intro w4 hc1 hb1 hs1
               have G1 := Lib.hid hc1
               have Q1 := Lib.hid (Q1.out.all hb1)
               have R1 := Lib.hid (R1.out.all hb1)
               have B1 := Lib.hid (B1.out.trans (hb1.mono B1.out.size))
               have lt4 : w3.heap.size < w4.heap.size := G1.out.lt
               clear hc1 hb1 hs1)
            | (have _t := tk25; clear _t tk25; refine wpList_storeM rfl 85 _ _ rfl w3.heap.size 0 rfl (ints G) rfl 85 (ints (gL 0 0 [] [] 0)) G1.out (by rw [HLG.out]; exact Nat.le_refl _) (by rw [HLG.out]; exact Tryz.sizeGrid) HLO.out ?_
               intro w5 hc3 ha3
               rw [lay'_all (by rw [HLG.out]; rfl)] at hc3
               have G1 := Lib.hid hc3
               have Q1 := Lib.hid (ha3.cm Q1.out (by omega))
               have R1 := Lib.hid (ha3.cm R1.out (by omega))
               have B1 : Hid (Below w.heap.size w w5) := Lib.hid (B1.out.trans (ha3.below (by omega)))
               clear hc3 ha3)
            | (have _t := tk26; clear _t tk26; go_at_call 71; (with_reducible refine (KF.out _ B1.out).mono ?_); rintro e w6 ⟨rfl, hb4⟩; have G1 := Lib.hid (G1.out.all hb4); have Q1 := Lib.hid (Q1.out.all hb4); have R1 := Lib.hid (R1.out.all hb4); have B1 : Hid (Below w.heap.size w w6) := Lib.hid (B1.out.trans (hb4.mono B1.out.size)); clear hb4)
            | (have _t := tk27; clear _t tk27; refine wpList_loadMG rfl (by rfl) 85 _ rfl w3.heap.size 0 rfl 85 (ints G) (ints G) G1.out (fun j _ => by rw [Nat.zero_add]) _ Tryz.underlying85 rfl (by rw [HLG.out]; exact Tryz.sizeGrid) ?_)
            | (have _t := tk28; clear _t tk28; go_at_call 110; (with_reducible refine (KA.out _ B1.out).mono ?_); rintro e w7 ⟨rfl, hb4⟩; have G1 := Lib.hid (G1.out.all hb4); have Q1 := Lib.hid (Q1.out.all hb4); have R1 := Lib.hid (R1.out.all hb4); have B1 : Hid (Below w.heap.size w w7) := Lib.hid (B1.out.trans (hb4.mono B1.out.size)); clear hb4)
            | (have _t := tk29; clear _t tk29; refine wpList_buildM rfl 85 _ rfl #[] (by simp) (ints (gL 0 0 [] [] 0)) (Tryz.buildGrid0 _) ?_)
            | (have _t := tk30; clear _t tk30; refine wpList_buildM rfl 89 _ rfl #[] (by simp) (bL (fun _ => false)) (Tryz.buildSet _) ?_)
            | (have _t := tk31; clear _t tk31; refine wpList_storeM rfl 85 (.tmp 4) (.tmp 27) rfl (w.heap.size + 1) 0 rfl (ints (gL 0 0 [] [] 0)) rfl 85 _ R1.out (Nat.le_refl _) Tryz.sizeGrid (fun v hv => ints_one hv) ?_
               intro w8 hc3 ha3
               rw [lay'_all rfl] at hc3
               have R1 := Lib.hid hc3
               have Q1 := Lib.hid (ha3.cm Q1.out (by omega))
               have B1 : Hid (Below w.heap.size w w8) := Lib.hid (B1.out.trans (ha3.below (by omega)))
               clear hc3 ha3)
            | (have _t := tk32; clear _t tk32; refine wpList_storeM rfl 89 (.tmp 5) (.tmp 28) rfl w1.heap.size 0 rfl (bL (fun _ => false)) rfl 89 _ Q1.out (by rw [bL_len]; exact Nat.le_refl _) (by rw [bL_len]; exact Tryz.sizeSet) (fun v hv => bL_one hv) ?_
               intro w9 hc3 ha3
               rw [lay'_all rfl] at hc3
               have Q1 := Lib.hid hc3
               have R1 := Lib.hid (ha3.cm R1.out (by omega))
               have B1 : Hid (Below w.heap.size w w9) := Lib.hid (B1.out.trans (ha3.below (by omega)))
               clear hc3 ha3))
        refine bodyPost_ret (results_mid3 Tryz.results60 _ _ (w.heap.size + 1) w1.heap.size (ints (gL 0 0 [] [] 0)) (bL (fun _ => false)) _ _ (.bool false) rfl rfl rfl R1.out.whole Q1.out.whole Tryz.underlying85 rfl Tryz.underlying89 rfl Tryz.sizeGrid (by rw [bL_len]; exact Tryz.sizeSet)) rfl ?_
        rw [HR'.out]
        exact ⟨rfl, B1.out⟩
      | true =>
        rw [hag] at KA HR
        have HR' : Hid (R = true) := Lib.hid (by rw [HR.out]; rfl)
        have HGK := Lib.hid (mdOk_gok HMD.out)
        obtain ⟨T, hT⟩ : ∃ T, T = tmAt xs (xs.length - 1) := ⟨_, rfl⟩
        rw [← hT] at KM HP
        clear HR hag hT
        have HMV : Hid (∀ (W W2 : World) k caps, Mean (W.heap.size + 1) W2 (.func (.func k) #[] caps) T → ∀ W3, Below W2.heap.size W2 W3 → (∀ args w, (callFunc k args).run Tryz.prog w = .ok (.enter k args) w) ∧ Calls Tryz.prog k (#[.agg (ints (gM m)).toArray] ++ caps) W3 fun e W' => e = .returned (.agg (bL PP).toArray) ∧ Below W3.heap.size W3 W') := Lib.hid (fun W W2 k caps hM W3 h3 => by
          obtain ⟨k', caps', e, h1, h2⟩ := hM
          cases e
          exact ⟨h1, by rw [HP.out]; exact h2 m HGK.out W3 (Keeps.of_all h3)⟩)
        obtain ⟨G, hG⟩ : ∃ G, G = gM m := ⟨_, rfl⟩
        rw [← hG] at KG KA HLG HLO HMV
        have HG := Lib.hid hG
        clear HP HGK HMD hG
        go_enter Tryz.func60, Tryz.ntmps60
        have tk33 : True := trivial
        have tk34 : True := trivial
        go_wp2_with
          (first
            | (have _t := tk33; clear _t tk33; refine wpList_allocM rfl 85 rfl (ints (gL 0 0 [] [] 0)) Tryz.allocGrid ?_
               intro w1 hc1 hb1 hs1
               have R1 : Hid (Cm w1 (w.heap.size + 1) 85 (ints (gL 0 0 [] [] 0))) := Lib.hid (by simpa using hc1)
               have X1 := Lib.hid (Mcell.below (Mcell.new (w := w) (T := 26) (b := w.heap.size) (fv := fv) (bv := bv) (n := m.actual) rfl) hb1)
               have B1 : Hid (Below w.heap.size w w1) := Lib.hid (Below.trans (by go_grown) (hb1.mono (by simp)))
               have lt1 : w.heap.size + 1 < w1.heap.size := R1.out.lt
               clear hc1 hb1 hs1)
            | (have _t := tk34; clear _t tk34; refine wpList_allocM rfl 89 rfl (bL (fun _ => false)) Tryz.allocSet ?_
               intro w2 hc1 hb1 hs1
               have Q1 := Lib.hid hc1
               have R1 := Lib.hid (R1.out.all hb1)
               have X1 := Lib.hid (X1.out.below hb1)
               have B1 := Lib.hid (B1.out.trans (hb1.mono B1.out.size))
               have lt2 : w1.heap.size < w2.heap.size := Q1.out.lt
               obtain ⟨xc0, xc1, xc2, xc3, xc4, xc5⟩ := X1.out
               clear hc1 hb1 hs1))
        refine (KG.out _ B1.out).mono ?_
        rintro e w3 ⟨rfl, hb3⟩
        have Q1 := Lib.hid (Q1.out.all hb3)
        have R1 := Lib.hid (R1.out.all hb3)
        have X1 := Lib.hid (X1.out.below hb3)
        have B1 := Lib.hid (B1.out.trans (hb3.mono B1.out.size))
        have lt3 : w2.heap.size ≤ w3.heap.size := hb3.size
        clear hb3 xc0 xc1 xc2 xc3 xc4 xc5
        have tk35 : True := trivial
        have tk36 : True := trivial
        have tk37 : True := trivial
        have tk38 : True := trivial
        have tk39 : True := trivial
        go_wp2_with
          (first
            | (have _t := tk35; clear _t tk35; refine wpList_allocM rfl 85 rfl (ints (gL 0 0 [] [] 0)) Tryz.allocGrid ?_
               intro w4 hc1 hb1 hs1
               have G1 := Lib.hid hc1
               have Q1 := Lib.hid (Q1.out.all hb1)
               have R1 := Lib.hid (R1.out.all hb1)
               have B1 := Lib.hid (B1.out.trans (hb1.mono B1.out.size))
               have lt4 : w3.heap.size < w4.heap.size := G1.out.lt
               clear hc1 hb1 hs1)
            | (have _t := tk36; clear _t tk36; refine wpList_storeM rfl 85 _ _ rfl w3.heap.size 0 rfl (ints G) rfl 85 (ints (gL 0 0 [] [] 0)) G1.out (by rw [HLG.out]; exact Nat.le_refl _) (by rw [HLG.out]; exact Tryz.sizeGrid) HLO.out ?_
               intro w5 hc3 ha3
               rw [lay'_all (by rw [HLG.out]; rfl)] at hc3
               have G1 := Lib.hid hc3
               have Q1 := Lib.hid (ha3.cm Q1.out (by omega))
               have R1 := Lib.hid (ha3.cm R1.out (by omega))
               have B1 : Hid (Below w.heap.size w w5) := Lib.hid (B1.out.trans (ha3.below (by omega)))
               clear hc3 ha3)
            | (have _t := tk37; clear _t tk37; go_at_call 71; (with_reducible refine (KF.out _ B1.out).mono ?_); rintro e w6 ⟨rfl, hb4⟩; have G1 := Lib.hid (G1.out.all hb4); have Q1 := Lib.hid (Q1.out.all hb4); have R1 := Lib.hid (R1.out.all hb4); have B1 : Hid (Below w.heap.size w w6) := Lib.hid (B1.out.trans (hb4.mono B1.out.size)); clear hb4)
            | (have _t := tk38; clear _t tk38; refine wpList_loadMG rfl (by rfl) 85 _ rfl w3.heap.size 0 rfl 85 (ints G) (ints G) G1.out (fun j _ => by rw [Nat.zero_add]) _ Tryz.underlying85 rfl (by rw [HLG.out]; exact Tryz.sizeGrid) ?_)
            | (have _t := tk39; clear _t tk39; go_at_call 110; (with_reducible refine (KA.out _ B1.out).mono ?_); rintro e w7 ⟨rfl, hb4⟩; have G1 := Lib.hid (G1.out.all hb4); have Q1 := Lib.hid (Q1.out.all hb4); have R1 := Lib.hid (R1.out.all hb4); have B1 : Hid (Below w.heap.size w w7) := Lib.hid (B1.out.trans (hb4.mono B1.out.size)); clear hb4))
        have HRG : Hid (∀ W', Below w7.heap.size w7 W' → W'.rangeAt w3.heap.size 0 (ints G)) := Lib.hid (fun W' h => (G1.out.all h).whole)
        have HU : Tryz.prog.underlying 85 = some _ := Tryz.underlying85
        have l7 := R1.out.lt
        have l7b := Q1.out.lt
        try simp only [Act.put, List.setIfInBounds_toArray, List.set_cons_zero, List.set_cons_succ]
        refine regionL (fun W => Below w7.heap.size w7 W) [5, 6, 7] (by kernel_rfl) (Below.refl _ _).drew (fun hHeld => ?_)
        refine takeA (i := 0) (v := .agg (ints G).toArray) 29 rfl rfl (by kernel_rfl) (by kernel_rfl) (by kernel_rfl) (by kernel_rfl) (fun _ _ _ h => h) (yieldsIf_load_mid (by rfl) 85 _ rfl w3.heap.size 0 rfl (ints G) _ HRG.out HU rfl (by rw [HLG.out]; exact Tryz.sizeGrid)) hHeld ?_
        simp only [Act.put, List.setIfInBounds_toArray, List.set_cons_zero, List.set_cons_succ]
        refine takeA (i := 1) (v := .slice a2 xs.length c2) 30 rfl rfl (by kernel_rfl) (by kernel_rfl) (by kernel_rfl) (by kernel_rfl) (fun _ _ _ h => h) (Or.inl ⟨by rfl, by intro W hSw; go_simp⟩) hHeld ?_
        simp only [Act.put, List.setIfInBounds_toArray, List.set_cons_zero, List.set_cons_succ]
        refine takeA (i := 3) (v := .agg (ints G).toArray) 32 rfl rfl (by kernel_rfl) (by kernel_rfl) (by kernel_rfl) (by kernel_rfl) (fun _ _ _ h => h) (yieldsIf_load_mid (by rfl) 85 _ rfl w3.heap.size 0 rfl (ints G) _ HRG.out HU rfl (by rw [HLG.out]; exact Tryz.sizeGrid)) hHeld ?_
        simp only [Act.put, List.setIfInBounds_toArray, List.set_cons_zero, List.set_cons_succ]
        refine onlyL (i := 2) (by kernel_rfl) rfl (by rfl) (fun K hK => ?_)
        go_simp
        refine (KM.out _ (B1.out.trans (hHeld.mono B1.out.size))).mono ?_
        rintro e w8 ⟨v8, rfl, hm8, hb8⟩
        have t8 : Below w7.heap.size w7 w8 := hHeld.trans (hb8.mono (Nat.le_refl _))
        have HM8 := Lib.hid hm8
        obtain ⟨k8, c8, rfl, -⟩ := hm8
        have HMW := Lib.hid (HMV.out _ _ _ _ HM8.out)
        have hent := (HMW.out _ (Below.refl _ _)).1
        clear hb8 hHeld HM8
        refine hK.out _ _ (fun _ => t8) (fun hHeld => ?_)
        have hHeld := hHeld (by decide)
        clear hK K
        try simp only [Act.put, List.setIfInBounds_toArray, List.set_cons_zero, List.set_cons_succ]
        refine onlyL (i := 4) (by kernel_rfl) rfl (by rfl) (fun K hK => ?_)
        go_simp
        refine ((HMW.out _ (Below.refl _ _)).2).mono ?_
        rintro e w9 ⟨rfl, hb9⟩
        have t9 : Below w7.heap.size w7 w9 := t8.trans (hb9.mono t8.size)
        clear hb9 hHeld
        refine hK.out _ _ (fun _ => t9) (fun hHeld => ?_)
        clear hK K hHeld hent
        try simp only [Act.put, List.setIfInBounds_toArray, List.set_cons_zero, List.set_cons_succ]
        have R9 := Lib.hid (R1.out.all t9)
        have Q9 := Lib.hid (Q1.out.all t9)
        have B9 := Lib.hid (B1.out.trans (t9.mono B1.out.size))
        clear t9 t8
        refine onlyL (i := 5) (by kernel_rfl) rfl (by rfl) (fun K hK => ?_)
        refine wp_storeM 85 (.tmp 4) (.tmp 29) rfl rfl (w.heap.size + 1) 0 rfl (ints G) rfl 85 _ R9.out (by rw [HLG.out]; exact Nat.le_refl _) (by rw [HLG.out]; exact Tryz.sizeGrid) HLO.out ?_
        intro y1 hc3 ha3
        rw [lay'_all (by rw [HLG.out]; rfl)] at hc3
        have R9 := Lib.hid hc3
        have Q9 := Lib.hid (ha3.cm Q9.out (by omega))
        have B9 : Hid (Below w.heap.size w y1) := Lib.hid (B9.out.trans (ha3.below (by omega)))
        clear hc3 ha3
        refine hK.out _ _ (fun h => absurd (by decide) h) (fun _ => ?_)
        clear hK K
        try simp only [Act.put, List.setIfInBounds_toArray, List.set_cons_zero, List.set_cons_succ]
        refine onlyL (i := 6) (by kernel_rfl) rfl (by rfl) (fun K hK => ?_)
        refine wp_storeM 89 (.tmp 5) (.tmp 33) rfl rfl w1.heap.size 0 rfl (bL PP) rfl 89 _ Q9.out (by rw [bL_len, bL_len]; exact Nat.le_refl _) (by rw [bL_len]; exact Tryz.sizeSet) (fun v hv => bL_one hv) ?_
        intro y2 hc3 ha3
        rw [lay'_all (by rw [bL_len, bL_len])] at hc3
        have Q9 := Lib.hid hc3
        have R9 := Lib.hid (ha3.cm R9.out (by omega))
        have B9 : Hid (Below w.heap.size w y2) := Lib.hid (B9.out.trans (ha3.below (by omega)))
        clear hc3 ha3
        refine hK.out _ _ (fun h => absurd (by decide) h) (fun _ => ?_)
        clear hK K
        try simp only [Act.put, List.setIfInBounds_toArray, List.set_cons_zero, List.set_cons_succ]
        refine onlyL (i := 7) (by kernel_rfl) rfl (by rfl) (fun K hK => ?_)
        go_simp
        refine hK.out _ _ (fun h => absurd (by decide) h) (fun _ => ?_)
        clear hK K
        try simp only [Act.put, List.setIfInBounds_toArray, List.set_cons_zero, List.set_cons_succ]
        refine doneL (by kernel_rfl) ?_ _
        go_wp2
        refine bodyPost_ret (results_mid3 Tryz.results60 _ _ (w.heap.size + 1) w1.heap.size (ints G) (bL PP) _ _ (.bool true) rfl rfl rfl R9.out.whole Q9.out.whole Tryz.underlying85 rfl Tryz.underlying89 rfl (by rw [HLG.out]; exact Tryz.sizeGrid) (by rw [bL_len]; exact Tryz.sizeSet)) rfl ?_
        rw [HR'.out, HG.out]
        exact ⟨rfl, B9.out⟩
end Go.Proofs.YtodjohdbngbpaaaGreat
