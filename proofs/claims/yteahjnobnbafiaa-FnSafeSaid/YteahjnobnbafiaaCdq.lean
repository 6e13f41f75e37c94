/-
  Contracts of spec.l13Search and FirstSafe. No condition.
-/
import Derived.Test.YteahjnobnbafiaaCdp
import Derived.Deep.DeepCutAuto
namespace Go.Proofs.Yteahjnobnbafiaa
open Go.RowKit Go.WideShapes
open Go Go.Deep
set_option linter.unusedSimpArgs false

section
variable {P : Program}
/-- append(s, x...), s a row of the call's own -/
theorem wp_appendO {o : Oper} {a : Act} {w : World} {K : Act → World → Prop} {Q : Exit → Act → World → Prop} (s x : Operand) (t : TypeId) (d : Nat) (hd : o.dst = some d)
    (ho : o.op = .call { callee := .builtin .append, args := #[s, x], argTypes := #[t, t] })
    (e : TypeId) (z : Value) (bytes : Nat) (ht : P.underlying t = some (.slice e))
    (hinfo : (P.info? e).map (fun i => (i.zero, i.size, i.bytes)) = some (some z, 1, bytes)) (hzs : z.cells.size = 1)
    (base : Nat) (v : Value) (n : Nat) (xs : List Value) (hown : w.ownsRow base e 1 v n xs) (hs : a.eval s = v)
    (ad : Addr) (m c : Nat) (news : List Value) (hx : a.eval x = .slice (some ad) m c) (hl : news.length = m) (hnews : ∀ j u, news[j]? = some u → w.cell? (ad.add j) = some u) (h1 : ∀ u ∈ news, u.oneCell' = true)
    (h63 : n + m ≤ maxLen) (hbytes : (n + m) * bytes ≤ 140737488355328) (hbase : base ≤ w.heap.size)
    (h : ∀ v' w', w'.ownsRow base e 1 v' (n + m) (xs ++ news) → w.grownBy w' v.ownBlock → K (a.put (some d) v') w') : Oper.wp P o a w K Q := by
  rw [← hd] at h
  obtain ⟨i0, hi, hz0, hz1, hz2⟩ := info_parts hinfo
  subst hz2
  obtain ⟨v', w', hr, hown', hg, _⟩ := run_append_own (P := P) w base t o.type e i0 z 1 i0.bytes ht hi hz0 hz1 rfl hzs (by decide) v n xs hown ad m c news (by omega) hnews h1 h63 hbytes hbase
  unfold Oper.wp execOp
  simp only [ho, resolve, invoke, builtin, Sem.run_bind, Sem.run_pure, Result.andThen_ok, List.map_toArray, List.map_cons, List.map_nil, hs, hx, hr]
  exact h v' w' hown' hg
end
theorem gr_belowC {B : Nat} {w w' : World} {row : Option Nat} (h : w.grownBy w' row) (hB : B ≤ w.heap.size) (hr : ∀ k, row = some k → B ≤ k) : Below B w w' := ⟨h.os, h.tape, h.output, h.size, fun k hk => h.block k (by omega) (fun e => by have := hr k e.symm; omega)⟩
theorem own_some {w : World} {B : Nat} {e : TypeId} {v : Value} {n : Nat} {xs : List Value} (h : w.ownsRow B e 1 v n xs) (hn : 0 < n) : ∃ g c, v = .slice (some ⟨g, 0, none⟩) n c ∧ B ≤ g := by
  rcases h.2 with ⟨_, h0⟩ | ⟨g, cap, cur, rfl, hb, _⟩
  · omega
  · exact ⟨g, cap, rfl, hb⟩
theorem own_formC {w : World} {B : Nat} {e : TypeId} {v : Value} {n : Nat} {xs : List Value} (h : w.ownsRow B e 1 v n xs) : ∃ a c, v = .slice a n c := by
  rcases h.2 with ⟨rfl, h0⟩ | ⟨g, cap, cur, rfl, hb, _⟩
  · exact ⟨none, 0, by rw [h0]⟩
  · exact ⟨_, cap, rfl⟩
theorem ownC {w : World} {B B' n : Nat} {e : TypeId} {s : Nat} {v : Value} {xs : List Value} (h : w.ownsRow B e s v n xs) (hB : B' ≤ B) : w.ownsRow B' e s v n xs := by
  refine ⟨h.1, ?_⟩
  rcases h.2 with h1 | ⟨g, cap, cur, h1, h2, h3⟩
  · exact .inl h1
  · exact .inr ⟨g, cap, cur, h1, Nat.le_trans hB h2, h3⟩
theorem ints_oneC {l : List Int} {v : Value} (h : v ∈ ints l) : v.oneCell' = true := by
  unfold ints at h
  obtain ⟨x, _, rfl⟩ := List.mem_map.1 h
  rfl
/-- what a search answers -/
def SrchP (B k : Nat) (r : Option (List Int)) (w : World) (e : Ending) (w' : World) : Prop :=
  ∃ v, e = .returned (.tuple #[v, .bool r.isSome]) ∧ (∃ a n c, v = .slice a n c) ∧ (∀ o, r = some o → w'.ownsRow B 3 1 v o.length (ints o)) ∧ (r = none → 0 < k → v = .slice none 0 0) ∧ Below w.heap.size w w'
theorem goS_step {hand : Int} {ok : List Int → Bool} {next : List Int → List Int → Option (List Int)} {al l : List Int} {i : Nat} (hi : i < al.length) :
    goS hand ok next (al.drop i) l = if ((decide (hand < al.getD i 0) && !hasI l hand) || !ok (l ++ [al.getD i 0])) = true then goS hand ok next (al.drop (i + 1)) l else match next (al.drop (i + 1)) (l ++ [al.getD i 0]) with
    | some o => some o
    | none => goS hand ok next (al.drop (i + 1)) l := by
  rw [List.drop_eq_getElem_cons hi]
  have e : al[i] = al.getD i 0 := by rw [List.getD_eq_getElem?_getD, List.getElem?_eq_getElem hi]; rfl
  rw [e]; rfl

set_option maxRecDepth 100000 in
set_option maxHeartbeats 32000000 in
theorem specSrch_any (d : Dl) (hand : Int) (N : Nat) (hN : N ≤ 1000) : ∀ (k : Nat) (_ : k ≤ 7) (lo hi : Nat) (av : Value) (al : List Int) (lv : Value) (l : List Int) (frI : Int) (fr : Nat) (_ : frI = (fr : Int)) (w : World) (B : Nat) (_ : Iv lo hi w av al) (_ : w.ownsRow B 3 1 lv l.length (ints l)) (_ : ∃ g c, lv = .slice (some ⟨g, 0, none⟩) l.length c) (_ : B ≤ w.heap.size) (_ : l.length + k ≤ N),
    Calls Try.prog 42 #[d.v, av, lv, .int .i64 frI, .int .i64 hand, .int .i64 k] w (SrchP B k (srchS hand (tellR d) (hidesR d) k (al.drop fr) l) w) := by
  intro k
  induction k with
  | zero =>
    intro _ lo hi av al lv l frI fr hfr w B hA hL hlv hB hlN
    subst hfr
    obtain ⟨lb, lc, rfl⟩ := hlv
    obtain ⟨aa, ac, rfl⟩ := hA.form
    have KH := Lib.hid (fun W (h : Below w.heap.size w W) => specHasI_any B W.heap.size _ l hand W (Io.read (Ro.of_own (own_below hL h (Nat.le_refl _)))))
    have KD := Lib.hid (fun W (h : Below w.heap.size w W) => specHides_any B W.heap.size _ l d W (Io.read (Ro.of_own (own_below hL h (Nat.le_refl _)))))
    have HL := Lib.hid hL
    have HR : Hid (srchS hand (tellR d) (hidesR d) 0 (al.drop fr) l = if hasI l hand && hidesR d l then some l else none) := Lib.hid rfl
    generalize srchS hand (tellR d) (hidesR d) 0 (al.drop fr) l = R at *
    unfold Dl.v at *
    generalize hasI l hand = q1 at *
    generalize hidesR d l = q2 at *
    obtain ⟨da, db, dc⟩ := d
    simp only at *
    have hX : Cm (w.alloc (.cells #[.int .i64 da, .int .i64 db, .int .i64 dc] 25)) w.heap.size 25 [.int .i64 da, .int .i64 db, .int .i64 dc] := Cm.new (cs := [.int .i64 da, .int .i64 db, .int .i64 dc]) rfl
    have hb1 : Below w.heap.size w (w.alloc (.cells #[.int .i64 da, .int .i64 db, .int .i64 dc] 25)) := (Below.refl _ _).alloc (Nat.le_refl _) _
    clear hA hL
    go_enter Try.func42, Try.ntmps42
    go_wp2_with fail
    generalize w.alloc (.cells #[.int .i64 da, .int .i64 db, .int .i64 dc] 25) = w1 at *
    refine (KH.out _ hb1).mono ?_
    rintro e w2 ⟨rfl, rfl⟩
    have c0 := hX.cell 0
    have c1 := hX.cell 1
    have c2 := hX.cell 2
    simp only [List.getElem?_cons_zero, List.getElem?_cons_succ] at c0 c1 c2
    have hl1 := hX.lt
    have B1 := Lib.hid hb1
    clear hX hb1
    cases q1 with
    | false =>
      have HF : Hid (R = none) := Lib.hid HR.out
      clear HR
      go_wp2
      go_returns
      rw [HF.out]
      exact ⟨_, rfl, ⟨_, _, _, rfl⟩, fun o e => (by cases e), fun _ h => absurd h (by decide), B1.out⟩
    | true =>
      go_wp2_with fail
      refine (KD.out _ B1.out).mono ?_
      rintro e w3 ⟨rfl, hb3⟩
      have B3 := Lib.hid (B1.out.trans (hb3.mono B1.out.size))
      clear hb3 c0 c1 c2
      cases q2 with
      | false =>
        have HF : Hid (R = none) := Lib.hid HR.out
        clear HR
        go_wp2
        go_returns
        rw [HF.out]
        exact ⟨_, rfl, ⟨_, _, _, rfl⟩, fun o e => (by cases e), fun _ h => absurd h (by decide), B3.out⟩
      | true =>
        have HF : Hid (R = some l) := Lib.hid HR.out
        clear HR
        go_wp2
        go_returns
        rw [HF.out]
        exact ⟨_, rfl, ⟨_, _, _, rfl⟩, fun o e => (by injection e with e; subst e; exact own_below HL.out B3.out (Nat.le_refl _)), fun e => (by cases e), B3.out⟩
  | succ k ih =>
    intro hk7 lo hi av al lv l frI fr hfr w B hA hL hlv hB hlN
    subst hfr
    have IH := Lib.hid (fun lo hi av al lv l frI fr hfr w B h1 h2 h3 h4 h5 => ih (by omega) lo hi av al lv l frI fr hfr w B h1 h2 h3 h4 h5)
    clear ih
    obtain ⟨lb, lc, rfl⟩ := hlv
    obtain ⟨aa, ac, rfl, ha1, ha2, ha3⟩ := hA.parts
    have KEY := Lib.hid ha3
    unfold maxLen at ha2
    have HR : Hid (srchS hand (tellR d) (hidesR d) (k + 1) (al.drop fr) l = goS hand (tellR d) (srchS hand (tellR d) (hidesR d) k) (al.drop fr) l) := Lib.hid rfl
    have AL0 := Lib.hid (fun W (h : Below w.heap.size w W) => hA.keeps (Keeps.of_all h))
    have HL := Lib.hid hL
    have HGS := Lib.hid (fun i hi => goS_step (hand := hand) (ok := tellR d) (next := srchS hand (tellR d) (hidesR d) k) (al := al) (l := l) (i := i) hi)
    have HEND : Hid (∀ i, ¬ i < al.length → goS hand (tellR d) (srchS hand (tellR d) (hidesR d) k) (al.drop i) l = none) := Lib.hid (fun i hi => by rw [List.drop_of_length_le (by omega)]; rfl)
    have KHas := Lib.hid (fun W (h : W.ownsRow B 3 1 (.slice (some ⟨lb, 0, none⟩) l.length lc) l.length (ints l)) => specHasI_any B W.heap.size (.slice (some ⟨lb, 0, none⟩) l.length lc) l hand W (show Io B W.heap.size W _ l from Ro.of_own h).read)
    have KT := Lib.hid (fun v x W B' (h : W.ownsRow B' 3 1 v x.length (ints x)) => specTells_any B' W.heap.size v x d W (show Io B' W.heap.size W v x from Ro.of_own h).read)
    have hlb0 : lb < w.heap.size := (hL.lt lb rfl).2
    clear hA ha3 hL
    have hk1i : ((k + 1 : Nat) : Int) = (k : Int) + 1 := by omega
    rw [hk1i]
    have hkn0 : ((k : Int) + 1 == 0) = false := beq_eq_false_iff_ne.2 (by omega)
    have hki : (k : Int) ≤ 6 := by omega
    have hki0 : (0 : Int) ≤ (k : Int) := by omega
    clear hk1i
    generalize srchS hand (tellR d) (hidesR d) (k + 1) (al.drop fr) l = R at *
    obtain ⟨dv, hdv⟩ : ∃ dv, dv = d.v := ⟨_, rfl⟩
    rw [← hdv] at KT IH ⊢
    obtain ⟨da, hda⟩ : ∃ da, da = d.a := ⟨_, rfl⟩
    obtain ⟨db, hdb⟩ : ∃ db, db = d.b := ⟨_, rfl⟩
    obtain ⟨dc, hdc⟩ : ∃ dc, dc = d.c := ⟨_, rfl⟩
    have hv : dv = .agg #[.int .i64 da, .int .i64 db, .int .i64 dc] := by rw [hdv, hda, hdb, hdc]; rfl
    rw [hv] at KT IH ⊢
    clear hdv hda hdb hdc hv
    have hX : Cm (w.alloc (.cells #[.int .i64 da, .int .i64 db, .int .i64 dc] 25)) w.heap.size 25 [.int .i64 da, .int .i64 db, .int .i64 dc] := Cm.new (cs := [.int .i64 da, .int .i64 db, .int .i64 dc]) rfl
    have hb1 : Below w.heap.size w (w.alloc (.cells #[.int .i64 da, .int .i64 db, .int .i64 dc] 25)) := (Below.refl _ _).alloc (Nat.le_refl _) _
    go_enter Try.func42, Try.ntmps42
    go_wp2
    have hbw0 : w.heap.size < (w.alloc (.cells #[.int .i64 da, .int .i64 db, .int .i64 dc] 25)).heap.size := by simp
    generalize w.alloc (.cells #[.int .i64 da, .int .i64 db, .int .i64 dc] 25) = w1 at *
    have hbw : w.heap.size ≤ w1.heap.size := by omega
    have HLB : Hid (lb < w1.heap.size) := Lib.hid (by omega)
    have B0 := Lib.hid hb1
    have L1 := Lib.hid (own_below HL.out hb1 (Nat.le_refl _))
    have AL := Lib.hid (fun W (h : Below w1.heap.size w1 W) => AL0.out W (hb1.trans (h.mono hbw)))
    have X1 := Lib.hid hX
    clear hX hb1 AL0 HL
    go_loopw [14] (fun iv wr => ∃ i : Nat, iv = .int .i64 i ∧ i ≤ max fr al.length ∧ Hid (R = goS hand (tellR d) (srchS hand (tellR d) (hidesR d) k) (al.drop i) l) ∧ Hid (wr.ownsRow B 3 1 (.slice (some ⟨lb, 0, none⟩) l.length lc) l.length (ints l)) ∧ Hid (Below w1.heap.size w1 wr)) (fun iv _ => al.length - (intOf iv).toNat)
    case atStart => exact ⟨fr, rfl, by omega, HR, L1, Lib.hid (Below.refl _ _)⟩
    case round =>
      clear HR L1
      obtain ⟨i, rfl, him, HR, HLr, HB⟩ := hrel
      have hii0 : (0 : Int) ≤ (i : Int) := Int.natCast_nonneg _
      by_cases hlt : i < al.length
      · have hii1 : (i : Int) < (al.length : Int) := by omega
        obtain ⟨ab, ao, rfl, -, -, hab, q0⟩ := KEY.out i hlt
        have hB0r := B0.out.trans (HB.out.mono hbw)
        rw [← hB0r.cell (p := ⟨ab, ao + i, none⟩) hab] at q0
        have HG0 := Lib.hid (HGS.out i hlt)
        generalize al.getD i 0 = a at *
        have hsr : w1.heap.size ≤ wr.heap.size := HB.out.size
        have HLC : Hid (∀ W, Below w1.heap.size wr W → ∀ j u, (ints l)[j]? = some u → W.cell? ((⟨lb, 0, none⟩ : Addr).add j) = some u) := Lib.hid (fun W hW j u hu => by
          have c := HLr.out.cells (g := lb) rfl j u hu
          rw [← c]
          exact hW.cell (p := (⟨lb, 0, none⟩ : Addr).add j) (by unfold Addr.add; split <;> exact HLB.out))
        go_upto_region 6 with fail
        go_cut [15] from 30 to 76 (fun xv w' => ∃ x9 y9, xv = .slice (some ⟨x9, 0, none⟩) (l.length + 1) y9 ∧ Hid (w'.ownsRow w1.heap.size 3 1 (.slice (some ⟨x9, 0, none⟩) (l.length + 1) y9) (l.length + 1) (ints (l ++ [a]))) ∧ Hid (Below w1.heap.size wr w'))
        case first =>
          clear KHas KT IH HGS HEND HG0 HR
          refine regionL (fun W => Below w1.heap.size wr W) [] (by kernel_rfl) (Below.refl _ _).drew (fun hHeld => ?_)
          refine takeA (i := 1) (v := .slice (some ⟨lb, 0, none⟩) l.length lc) 37 rfl rfl (by kernel_rfl) (by kernel_rfl) (by kernel_rfl) (by kernel_rfl) (fun _ _ _ h => h) (Or.inl ⟨by rfl, by intro W hSw; go_simp⟩) hHeld ?_
          simp only [Act.put, List.setIfInBounds_toArray, List.set_cons_zero, List.set_cons_succ]
          refine takeA (i := 3) (v := .slice (some ⟨ab, ao, none⟩) al.length ac) 39 rfl rfl (by kernel_rfl) (by kernel_rfl) (by kernel_rfl) (by kernel_rfl) (fun _ _ _ h => h) (Or.inl ⟨by rfl, by intro W hSw; go_simp⟩) hHeld ?_
          simp only [Act.put, List.setIfInBounds_toArray, List.set_cons_zero, List.set_cons_succ]
          refine takeA (i := 4) (v := .int .i64 i) 40 rfl rfl (by kernel_rfl) (by kernel_rfl) (by kernel_rfl) (by kernel_rfl) (fun _ _ _ h => h) (Or.inl ⟨by rfl, by intro W hSw; go_simp⟩) hHeld ?_
          simp only [Act.put, List.setIfInBounds_toArray, List.set_cons_zero, List.set_cons_succ]
          refine takeA (i := 5) (v := .pointer (some ⟨ab, ao + i, none⟩)) 41 rfl rfl (by kernel_rfl) (by kernel_rfl) (by kernel_rfl) (by kernel_rfl) (fun _ _ _ h => h) (Or.inl ⟨by rfl, by intro W hSw; go_simp⟩) hHeld ?_
          simp only [Act.put, List.setIfInBounds_toArray, List.set_cons_zero, List.set_cons_succ]
          refine takeA (i := 6) (v := .int .i64 a) 42 rfl rfl (by kernel_rfl) (by kernel_rfl) (by kernel_rfl) (by kernel_rfl) (fun _ _ _ h => h) (Or.inl ⟨by rfl, by intro W hSw; have c0 := (hSw.cell (p := ⟨ab, ao + i, none⟩) (by show ab < w1.heap.size; omega)).trans q0; go_simp⟩) hHeld ?_
          simp only [Act.put, List.setIfInBounds_toArray, List.set_cons_zero, List.set_cons_succ]
          generalize wr.drew = wd at hHeld ⊢
          refine twoL (i := 0) (j := 7) (by kernel_rfl) rfl rfl (by rfl) (by rfl) (fun K hK => ?_) (fun K hK => ?_)
          · skip
            go_simp
            have O101 : Hid ((wd.alloc (.cells #[] 3)).ownsRow w1.heap.size 3 1 (Value.slice (some ⟨wd.heap.size, 0, none⟩) 0 0) 0 []) := Lib.hid (World.ownsRow_lit _ #[] 0 (Nat.le_trans hsr hHeld.size) (by decide) rfl)
            have t101 : Below w1.heap.size wr (wd.alloc (.cells #[] 3)) := hHeld.alloc (Nat.le_trans hsr hHeld.size) _
            have hs101 : wd.heap.size < (wd.alloc (.cells #[] 3)).heap.size := by simp
            generalize wd.alloc (.cells #[] 3) = w101 at *
            refine hK.out _ _ (fun _ => t101) (fun hHeld => ?_)
            clear hHeld hK K
            try simp only [Act.put, List.setIfInBounds_toArray, List.set_cons_zero, List.set_cons_succ]
            refine twoL (i := 2) (j := 7) (by kernel_rfl) rfl rfl (by rfl) (by rfl) (fun K hK => ?_) (fun K hK => ?_)
            · skip
              refine wp_appendO (.tmp 36) (.tmp 37) 28 38 rfl rfl 3 (.int .i64 0) 8 Try.underlying28 Try.infoI rfl w1.heap.size (Value.slice (some ⟨wd.heap.size, 0, none⟩) 0 0) 0 [] O101.out rfl ⟨lb, 0, none⟩ l.length lc (ints l) rfl (ints_len _) (HLC.out _ (t101)) (fun u hu => ints_oneC hu) (by unfold maxLen; omega) (by omega) (Nat.le_trans hsr t101.size) ?_
              intro v102 w102 ho102 hg102
              rw [Nat.zero_add, List.nil_append] at ho102
              have t102 : Below w1.heap.size wr w102 := t101.trans (gr_belowC hg102 (Nat.le_trans hsr t101.size) (fun q hq => (O101.out.lt q hq).1))
              have O102 := Lib.hid ho102
              obtain ⟨ax102, cx102, ex102⟩ := own_formC O102.out
              subst ex102
              clear ho102 hg102
              refine hK.out _ _ (fun _ => t102) (fun hHeld => ?_)
              clear hHeld hK K
              try simp only [Act.put, List.setIfInBounds_toArray, List.set_cons_zero, List.set_cons_succ]
              refine onlyL (i := 7) (by kernel_rfl) rfl (by rfl) (fun K hK => ?_)
              go_simp
              have Z103 : Hid (Cm (w102.alloc (.cells #[.int .i64 a] 3)) w102.heap.size 3 [.int .i64 a]) := Lib.hid (Cm.new (cs := [.int .i64 a]) rfl)
              have t103 : Below w1.heap.size wr (w102.alloc (.cells #[.int .i64 a] 3)) := t102.alloc (Nat.le_trans hsr t102.size) _
              have O101z103 := Lib.hid (O101.out.alloc (.cells #[.int .i64 a] 3))
              have O102z103 := Lib.hid (O102.out.alloc (.cells #[.int .i64 a] 3))
              have hs103 : w102.heap.size < (w102.alloc (.cells #[.int .i64 a] 3)).heap.size := by simp
              generalize w102.alloc (.cells #[.int .i64 a] 3) = w103 at *
              refine hK.out _ _ (fun _ => t103) (fun hHeld => ?_)
              clear hHeld hK K
              try simp only [Act.put, List.setIfInBounds_toArray, List.set_cons_zero, List.set_cons_succ]
              refine onlyL (i := 8) (by kernel_rfl) rfl (by rfl) (fun K hK => ?_)
              refine wp_appendO (.tmp 38) (.tmp 43) 28 44 rfl rfl 3 (.int .i64 0) 8 Try.underlying28 Try.infoI rfl w1.heap.size (Value.slice ax102 l.length cx102) l.length (ints l) O102z103.out rfl ⟨w102.heap.size, 0, none⟩ 1 1 [.int .i64 a] rfl rfl (by intro j u hu; have c := Z103.out.cell 0; match j, hu with | 0, hu => (simp at hu; subst hu; rw [addr_add0]; exact c)) (by intro u hu; simp at hu; subst hu; rfl) (by unfold maxLen; omega) (by omega) (Nat.le_trans hsr t103.size) ?_
              intro v9 w9 ho9 hg9
              have t9 : Below w1.heap.size wr w9 := t103.trans (gr_belowC hg9 (Nat.le_trans hsr t103.size) (fun q hq => (O102z103.out.lt q hq).1))
              have O9 : Hid (w9.ownsRow w1.heap.size 3 1 v9 (l.length + 1) (ints (l ++ [a]))) := Lib.hid (by rw [ints_snoc]; exact ho9)
              obtain ⟨x9, y9, e9, h9⟩ := own_some O9.out (by omega)
              subst e9
              clear ho9 hg9 h9
              refine hK.out _ _ (fun _ => t9) (fun _ => ?_)
              clear hK K
              try simp only [Act.put, List.setIfInBounds_toArray, List.set_cons_zero, List.set_cons_succ]
              refine onlyL (i := 9) (by kernel_rfl) rfl (by rfl) (fun K hK => ?_)
              go_simp
              refine hK.out _ _ (fun _ => t9) (fun _ => ?_)
              clear hK K
              refine doneL (by kernel_rfl) ?_ _
              go_wp2_with fail
              go_meet
              case rel => exact ⟨x9, y9, rfl, O9, Lib.hid t9⟩
            · skip
              go_simp
              have Z104 : Hid (Cm (w101.alloc (.cells #[.int .i64 a] 3)) w101.heap.size 3 [.int .i64 a]) := Lib.hid (Cm.new (cs := [.int .i64 a]) rfl)
              have t104 : Below w1.heap.size wr (w101.alloc (.cells #[.int .i64 a] 3)) := t101.alloc (Nat.le_trans hsr t101.size) _
              have O101z104 := Lib.hid (O101.out.alloc (.cells #[.int .i64 a] 3))
              have hs104 : w101.heap.size < (w101.alloc (.cells #[.int .i64 a] 3)).heap.size := by simp
              generalize w101.alloc (.cells #[.int .i64 a] 3) = w104 at *
              refine hK.out _ _ (fun _ => t104) (fun hHeld => ?_)
              clear hHeld hK K
              try simp only [Act.put, List.setIfInBounds_toArray, List.set_cons_zero, List.set_cons_succ]
              refine onlyL (i := 2) (by kernel_rfl) rfl (by rfl) (fun K hK => ?_)
              refine wp_appendO (.tmp 36) (.tmp 37) 28 38 rfl rfl 3 (.int .i64 0) 8 Try.underlying28 Try.infoI rfl w1.heap.size (Value.slice (some ⟨wd.heap.size, 0, none⟩) 0 0) 0 [] O101z104.out rfl ⟨lb, 0, none⟩ l.length lc (ints l) rfl (ints_len _) (HLC.out _ (t104)) (fun u hu => ints_oneC hu) (by unfold maxLen; omega) (by omega) (Nat.le_trans hsr t104.size) ?_
              intro v105 w105 ho105 hg105
              rw [Nat.zero_add, List.nil_append] at ho105
              have t105 : Below w1.heap.size wr w105 := t104.trans (gr_belowC hg105 (Nat.le_trans hsr t104.size) (fun q hq => (O101z104.out.lt q hq).1))
              have Z105 := Lib.hid (Z104.out.of_block (hg105.block _ Z104.out.lt (by intro e; simp [Value.ownBlock] at e; omega)))
              have O105 := Lib.hid ho105
              obtain ⟨ax105, cx105, ex105⟩ := own_formC O105.out
              subst ex105
              clear ho105 hg105
              refine hK.out _ _ (fun _ => t105) (fun hHeld => ?_)
              clear hHeld hK K
              try simp only [Act.put, List.setIfInBounds_toArray, List.set_cons_zero, List.set_cons_succ]
              refine onlyL (i := 8) (by kernel_rfl) rfl (by rfl) (fun K hK => ?_)
              refine wp_appendO (.tmp 38) (.tmp 43) 28 44 rfl rfl 3 (.int .i64 0) 8 Try.underlying28 Try.infoI rfl w1.heap.size (Value.slice ax105 l.length cx105) l.length (ints l) O105.out rfl ⟨w101.heap.size, 0, none⟩ 1 1 [.int .i64 a] rfl rfl (by intro j u hu; have c := Z105.out.cell 0; match j, hu with | 0, hu => (simp at hu; subst hu; rw [addr_add0]; exact c)) (by intro u hu; simp at hu; subst hu; rfl) (by unfold maxLen; omega) (by omega) (Nat.le_trans hsr t105.size) ?_
              intro v9 w9 ho9 hg9
              have t9 : Below w1.heap.size wr w9 := t105.trans (gr_belowC hg9 (Nat.le_trans hsr t105.size) (fun q hq => (O105.out.lt q hq).1))
              have O9 : Hid (w9.ownsRow w1.heap.size 3 1 v9 (l.length + 1) (ints (l ++ [a]))) := Lib.hid (by rw [ints_snoc]; exact ho9)
              obtain ⟨x9, y9, e9, h9⟩ := own_some O9.out (by omega)
              subst e9
              clear ho9 hg9 h9
              refine hK.out _ _ (fun _ => t9) (fun _ => ?_)
              clear hK K
              try simp only [Act.put, List.setIfInBounds_toArray, List.set_cons_zero, List.set_cons_succ]
              refine onlyL (i := 9) (by kernel_rfl) rfl (by rfl) (fun K hK => ?_)
              go_simp
              refine hK.out _ _ (fun _ => t9) (fun _ => ?_)
              clear hK K
              refine doneL (by kernel_rfl) ?_ _
              go_wp2_with fail
              go_meet
              case rel => exact ⟨x9, y9, rfl, O9, Lib.hid t9⟩
          · skip
            go_simp
            have Z106 : Hid (Cm (wd.alloc (.cells #[.int .i64 a] 3)) wd.heap.size 3 [.int .i64 a]) := Lib.hid (Cm.new (cs := [.int .i64 a]) rfl)
            have t106 : Below w1.heap.size wr (wd.alloc (.cells #[.int .i64 a] 3)) := hHeld.alloc (Nat.le_trans hsr hHeld.size) _
            have hs106 : wd.heap.size < (wd.alloc (.cells #[.int .i64 a] 3)).heap.size := by simp
            generalize wd.alloc (.cells #[.int .i64 a] 3) = w106 at *
            refine hK.out _ _ (fun _ => t106) (fun hHeld => ?_)
            clear hHeld hK K
            try simp only [Act.put, List.setIfInBounds_toArray, List.set_cons_zero, List.set_cons_succ]
            refine onlyL (i := 0) (by kernel_rfl) rfl (by rfl) (fun K hK => ?_)
            go_simp
            have O107 : Hid ((w106.alloc (.cells #[] 3)).ownsRow w1.heap.size 3 1 (Value.slice (some ⟨w106.heap.size, 0, none⟩) 0 0) 0 []) := Lib.hid (World.ownsRow_lit _ #[] 0 (Nat.le_trans hsr t106.size) (by decide) rfl)
            have t107 : Below w1.heap.size wr (w106.alloc (.cells #[] 3)) := t106.alloc (Nat.le_trans hsr t106.size) _
            have Z107 := Lib.hid (Z106.out.alloc (.cells #[] 3))
            have hz107 := Z106.out.lt
            have hs107 : w106.heap.size < (w106.alloc (.cells #[] 3)).heap.size := by simp
            generalize w106.alloc (.cells #[] 3) = w107 at *
            refine hK.out _ _ (fun _ => t107) (fun hHeld => ?_)
            clear hHeld hK K
            try simp only [Act.put, List.setIfInBounds_toArray, List.set_cons_zero, List.set_cons_succ]
            refine onlyL (i := 2) (by kernel_rfl) rfl (by rfl) (fun K hK => ?_)
            refine wp_appendO (.tmp 36) (.tmp 37) 28 38 rfl rfl 3 (.int .i64 0) 8 Try.underlying28 Try.infoI rfl w1.heap.size (Value.slice (some ⟨w106.heap.size, 0, none⟩) 0 0) 0 [] O107.out rfl ⟨lb, 0, none⟩ l.length lc (ints l) rfl (ints_len _) (HLC.out _ (t107)) (fun u hu => ints_oneC hu) (by unfold maxLen; omega) (by omega) (Nat.le_trans hsr t107.size) ?_
            intro v108 w108 ho108 hg108
            rw [Nat.zero_add, List.nil_append] at ho108
            have t108 : Below w1.heap.size wr w108 := t107.trans (gr_belowC hg108 (Nat.le_trans hsr t107.size) (fun q hq => (O107.out.lt q hq).1))
            have Z108 := Lib.hid (Z107.out.of_block (hg108.block _ Z107.out.lt (by intro e; simp [Value.ownBlock] at e; omega)))
            have O108 := Lib.hid ho108
            obtain ⟨ax108, cx108, ex108⟩ := own_formC O108.out
            subst ex108
            clear ho108 hg108
            refine hK.out _ _ (fun _ => t108) (fun hHeld => ?_)
            clear hHeld hK K
            try simp only [Act.put, List.setIfInBounds_toArray, List.set_cons_zero, List.set_cons_succ]
            refine onlyL (i := 8) (by kernel_rfl) rfl (by rfl) (fun K hK => ?_)
            refine wp_appendO (.tmp 38) (.tmp 43) 28 44 rfl rfl 3 (.int .i64 0) 8 Try.underlying28 Try.infoI rfl w1.heap.size (Value.slice ax108 l.length cx108) l.length (ints l) O108.out rfl ⟨wd.heap.size, 0, none⟩ 1 1 [.int .i64 a] rfl rfl (by intro j u hu; have c := Z108.out.cell 0; match j, hu with | 0, hu => (simp at hu; subst hu; rw [addr_add0]; exact c)) (by intro u hu; simp at hu; subst hu; rfl) (by unfold maxLen; omega) (by omega) (Nat.le_trans hsr t108.size) ?_
            intro v9 w9 ho9 hg9
            have t9 : Below w1.heap.size wr w9 := t108.trans (gr_belowC hg9 (Nat.le_trans hsr t108.size) (fun q hq => (O108.out.lt q hq).1))
            have O9 : Hid (w9.ownsRow w1.heap.size 3 1 v9 (l.length + 1) (ints (l ++ [a]))) := Lib.hid (by rw [ints_snoc]; exact ho9)
            obtain ⟨x9, y9, e9, h9⟩ := own_some O9.out (by omega)
            subst e9
            clear ho9 hg9 h9
            refine hK.out _ _ (fun _ => t9) (fun _ => ?_)
            clear hK K
            try simp only [Act.put, List.setIfInBounds_toArray, List.set_cons_zero, List.set_cons_succ]
            refine onlyL (i := 9) (by kernel_rfl) rfl (by rfl) (fun K hK => ?_)
            go_simp
            refine hK.out _ _ (fun _ => t9) (fun _ => ?_)
            clear hK K
            refine doneL (by kernel_rfl) ?_ _
            go_wp2_with fail
            go_meet
            case rel => exact ⟨x9, y9, rfl, O9, Lib.hid t9⟩
        case rest =>
          obtain ⟨x9, y9, rfl, OX, hcut⟩ := hcut
          have T9 := hcut
          have B9 := Lib.hid (HB.out.trans T9.out)
          have X9 := Lib.hid (X1.out.all B9.out)
          have L9 : Hid (wc.ownsRow B 3 1 (.slice (some ⟨lb, 0, none⟩) l.length lc) l.length (ints l)) := Lib.hid (own_keeps HLr.out (fun q hq => T9.out.block q (by cases hq; exact HLB.out)))
          have q1 : wc.cell? ⟨ab, ao + i, none⟩ = some (.int .i64 a) := (T9.out.cell (p := ⟨ab, ao + i, none⟩) (by show ab < w1.heap.size; omega)).trans q0
          have c0 := X9.out.cell 0
          have c1 := X9.out.cell 1
          have c2 := X9.out.cell 2
          simp only [List.getElem?_cons_zero, List.getElem?_cons_succ] at c0 c1 c2
          have OXL : Hid (wc.ownsRow w1.heap.size 3 1 (.slice (some ⟨x9, 0, none⟩) (l.length + 1) y9) (l ++ [a]).length (ints (l ++ [a]))) := Lib.hid (by rw [List.length_append]; exact OX.out)
          have KT9 := Lib.hid (KT.out _ (l ++ [a]) wc _ OXL.out)
          clear q0 T9 hcut HLC HB HLr
          rename_i Qz Kz hKz
          refine hKz _ _ ?_
          obtain ⟨q1h, hq1h⟩ : ∃ q, q = hasI l hand := ⟨_, rfl⟩
          rw [← hq1h] at HG0
          have KH9 := Lib.hid (KHas.out wc L9.out)
          rw [← hq1h] at KH9
          clear hq1h
          by_cases hha : hand < a
          · rw [decide_eq_true hha] at HG0
            go_wp2_with fail
            refine KH9.out.mono ?_
            rintro e w8 ⟨rfl, rfl⟩
            cases q1h with
            | false =>
              have HF : Hid (R = goS hand (tellR d) (srchS hand (tellR d) (hidesR d) k) (al.drop (i + 1)) l) := Lib.hid (by rw [HR.out, HG0.out]; rfl)
              clear HG0 HR KT9 q1 c0 c1 c2
              go_wp2
              go_roundw
              case rel => exact ⟨i + 1, by go_num, by omega, HF, L9, B9⟩
              case measure => simp [intOf] <;> omega
            | true =>
              have HG : Hid (R = if (!tellR d (l ++ [a])) = true then goS hand (tellR d) (srchS hand (tellR d) (hidesR d) k) (al.drop (i + 1)) l else match srchS hand (tellR d) (hidesR d) k (al.drop (i + 1)) (l ++ [a]) with
                | some o => some o
                | none => goS hand (tellR d) (srchS hand (tellR d) (hidesR d) k) (al.drop (i + 1)) l) := Lib.hid (by rw [HR.out, HG0.out]; rfl)
              clear HG0 HR q1
              obtain ⟨q2, hq2⟩ : ∃ q2, q2 = tellR d (l ++ [a]) := ⟨_, rfl⟩
              rw [← hq2] at HG KT9
              clear hq2
              go_wp2_with fail
              refine KT9.out.mono ?_
              rintro e w10 ⟨rfl, hb10⟩
              have hX10 := X9.out.all hb10
              have O10 := Lib.hid (own_below OXL.out hb10 (Nat.le_refl _))
              have B10 := Lib.hid (B9.out.trans (hb10.mono B9.out.size))
              have L10 := Lib.hid (own_below L9.out hb10 (Nat.le_refl _))
              have d0 := hX10.cell 0
              have d1 := hX10.cell 1
              have d2 := hX10.cell 2
              simp only [List.getElem?_cons_zero, List.getElem?_cons_succ] at d0 d1 d2
              try clear q1
              clear hb10 c0 c1 c2 B9 L9 OX OXL KT9
              cases q2 with
              | false =>
                have HF : Hid (R = goS hand (tellR d) (srchS hand (tellR d) (hidesR d) k) (al.drop (i + 1)) l) := Lib.hid (HG.out)
                clear HG hX10 d0 d1 d2
                go_wp2
                go_roundw
                case rel => exact ⟨i + 1, by go_num, by omega, HF, L10, B10⟩
                case measure => simp [intOf] <;> omega
              | true =>
                have hX11 := Lib.hid hX10
                clear hX10
                go_wp2_with fail
                refine (IH.out lo hi _ al _ (l ++ [a]) _ (i + 1) (by omega) _ w1.heap.size (AL.out _ B10.out) O10.out ⟨_, _, by rw [List.length_append]; rfl⟩ (by have := B10.out.size; omega) (by rw [List.length_append]; simp; omega)).mono ?_
                rintro e w11 ⟨v11, rfl, ⟨a11, n11, c11, e11⟩, hs11, hn11, hb11⟩
                subst e11
                obtain ⟨r11, hr11⟩ : ∃ r, r = srchS hand (tellR d) (hidesR d) k (al.drop (i + 1)) (l ++ [a]) := ⟨_, rfl⟩
                rw [← hr11] at HG hs11 hn11 ⊢
                have L11 := Lib.hid (own_below L10.out hb11 (Nat.le_refl _))
                have B11 := Lib.hid (B10.out.trans (hb11.mono B10.out.size))
                have HS11 := Lib.hid hs11
                clear hr11 hb11 hs11 hn11 L10 B10 O10 hX11 d0 d1 d2
                cases r11 with
                | none =>
                  have HF : Hid (R = goS hand (tellR d) (srchS hand (tellR d) (hidesR d) k) (al.drop (i + 1)) l) := Lib.hid HG.out
                  clear HG HS11
                  go_wp2
                  go_roundw
                  case rel => exact ⟨i + 1, by go_num, by omega, HF, L11, B11⟩
                  case measure => simp [intOf] <;> omega
                | some o11 =>
                  have HF : Hid (R = some o11) := Lib.hid HG.out
                  clear HG
                  go_wp2
                  go_returns
                  rw [HF.out]
                  exact ⟨_, rfl, ⟨_, _, _, rfl⟩, fun o e => (by injection e with e; subst e; exact ownC (HS11.out _ rfl) (by omega)), fun e => (by cases e), B0.out.trans (B11.out.mono hbw)⟩
          · rw [decide_eq_false hha] at HG0
            have HG : Hid (R = if (!tellR d (l ++ [a])) = true then goS hand (tellR d) (srchS hand (tellR d) (hidesR d) k) (al.drop (i + 1)) l else match srchS hand (tellR d) (hidesR d) k (al.drop (i + 1)) (l ++ [a]) with
                | some o => some o
                | none => goS hand (tellR d) (srchS hand (tellR d) (hidesR d) k) (al.drop (i + 1)) l) := Lib.hid (by rw [HR.out, HG0.out]; rfl)
            clear HG0 HR KH9
            obtain ⟨q2, hq2⟩ : ∃ q2, q2 = tellR d (l ++ [a]) := ⟨_, rfl⟩
            rw [← hq2] at HG KT9
            clear hq2
            go_wp2_with fail
            refine KT9.out.mono ?_
            rintro e w10 ⟨rfl, hb10⟩
            have hX10 := X9.out.all hb10
            have O10 := Lib.hid (own_below OXL.out hb10 (Nat.le_refl _))
            have B10 := Lib.hid (B9.out.trans (hb10.mono B9.out.size))
            have L10 := Lib.hid (own_below L9.out hb10 (Nat.le_refl _))
            have d0 := hX10.cell 0
            have d1 := hX10.cell 1
            have d2 := hX10.cell 2
            simp only [List.getElem?_cons_zero, List.getElem?_cons_succ] at d0 d1 d2
            try clear q1
            clear hb10 c0 c1 c2 B9 L9 OX OXL KT9
            cases q2 with
            | false =>
              have HF : Hid (R = goS hand (tellR d) (srchS hand (tellR d) (hidesR d) k) (al.drop (i + 1)) l) := Lib.hid (HG.out)
              clear HG hX10 d0 d1 d2
              go_wp2
              go_roundw
              case rel => exact ⟨i + 1, by go_num, by omega, HF, L10, B10⟩
              case measure => simp [intOf] <;> omega
            | true =>
              have hX11 := Lib.hid hX10
              clear hX10
              go_wp2_with fail
              refine (IH.out lo hi _ al _ (l ++ [a]) _ (i + 1) (by omega) _ w1.heap.size (AL.out _ B10.out) O10.out ⟨_, _, by rw [List.length_append]; rfl⟩ (by have := B10.out.size; omega) (by rw [List.length_append]; simp; omega)).mono ?_
              rintro e w11 ⟨v11, rfl, ⟨a11, n11, c11, e11⟩, hs11, hn11, hb11⟩
              subst e11
              obtain ⟨r11, hr11⟩ : ∃ r, r = srchS hand (tellR d) (hidesR d) k (al.drop (i + 1)) (l ++ [a]) := ⟨_, rfl⟩
              rw [← hr11] at HG hs11 hn11 ⊢
              have L11 := Lib.hid (own_below L10.out hb11 (Nat.le_refl _))
              have B11 := Lib.hid (B10.out.trans (hb11.mono B10.out.size))
              have HS11 := Lib.hid hs11
              clear hr11 hb11 hs11 hn11 L10 B10 O10 hX11 d0 d1 d2
              cases r11 with
              | none =>
                have HF : Hid (R = goS hand (tellR d) (srchS hand (tellR d) (hidesR d) k) (al.drop (i + 1)) l) := Lib.hid HG.out
                clear HG HS11
                go_wp2
                go_roundw
                case rel => exact ⟨i + 1, by go_num, by omega, HF, L11, B11⟩
                case measure => simp [intOf] <;> omega
              | some o11 =>
                have HF : Hid (R = some o11) := Lib.hid HG.out
                clear HG
                go_wp2
                go_returns
                rw [HF.out]
                exact ⟨_, rfl, ⟨_, _, _, rfl⟩, fun o e => (by injection e with e; subst e; exact ownC (HS11.out _ rfl) (by omega)), fun e => (by cases e), B0.out.trans (B11.out.mono hbw)⟩
      · have HF : Hid (R = none) := Lib.hid (by rw [HR.out, HEND.out i hlt])
        have hnl : ¬ (i : Int) < (al.length : Int) := by omega
        clear HR
        go_wp2
        go_returns
        rw [HF.out]
        exact ⟨_, rfl, ⟨_, _, _, rfl⟩, fun o e => (by cases e), fun _ _ => rfl, B0.out.trans (HB.out.mono hbw)⟩
end Go.Proofs.Yteahjnobnbafiaa
