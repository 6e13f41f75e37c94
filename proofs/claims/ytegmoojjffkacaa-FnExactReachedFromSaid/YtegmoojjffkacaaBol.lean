/-
  Slices of bools in memory: what reads as a list of bools (Bv), what is owned (Bo); spec.l03All, spec.l03List. Condition: the length.
-/
import Derived.Test.YtegmoojjffkacaaRst
namespace Go.Proofs.Ytegmoojjffkacaa
open Go.RowKit Go.WideShapes
open Go Go.Deep
set_option linter.unusedSimpArgs false

def bools (l : List Bool) : List Value := l.map Value.bool
theorem bools_len (l : List Bool) : (bools l).length = l.length := by simp [bools]
theorem bools_at {l : List Bool} {j : Nat} (h : j < l.length) : (bools l)[j]? = some (.bool (l.getD j false)) := by
  unfold bools; rw [List.getElem?_map, getD_some false h]; rfl
theorem bools_app (l m : List Bool) : bools (l ++ m) = bools l ++ bools m := by simp [bools]
theorem bools_one {l : List Bool} {v : Value} (h : v ∈ bools l) : v.oneCell' = true := by
  unfold bools at h
  obtain ⟨x, _, rfl⟩ := List.mem_map.1 h
  rfl
theorem bools_set (l : List Bool) (j : Nat) (b : Bool) : (bools l).set j (.bool b) = bools (l.set j b) := by unfold bools; rw [List.map_set]
/-- the slice v reads as the bools l -/
def Bv (lo hi : Nat) (w : World) (v : Value) (l : List Bool) : Prop := Rv lo hi w v (bools l)
theorem Bv.keeps {lo hi : Nat} {w w' : World} {v : Value} {l : List Bool} (h : Bv lo hi w v l) (k : Keeps lo hi w w') : Bv lo hi w' v l := Rv.keeps h k
theorem Bv.wide {lo hi lo' hi' : Nat} {w : World} {v : Value} {l : List Bool} (h : Bv lo hi w v l) (h1 : lo' ≤ lo) (h2 : hi ≤ hi') : Bv lo' hi' w v l := Rv.wide h h1 h2
theorem Bv.parts {lo hi : Nat} {w : World} {v : Value} {l : List Bool} (h : Bv lo hi w v l) : ∃ a cap, v = .slice a l.length cap ∧ l.length ≤ cap ∧ cap ≤ maxLen ∧
    ∀ j, j < l.length → ∃ b o, a = some ⟨b, o, none⟩ ∧ lo ≤ b ∧ b < hi ∧ b < w.heap.size ∧ w.cell? ⟨b, o + j, none⟩ = some (.bool (l.getD j false)) := by
  obtain ⟨a, cap, rfl, h1, h2, h3⟩ := h
  rw [bools_len] at *
  refine ⟨a, cap, rfl, h1, h2, fun j hj => ?_⟩
  rcases h3 with h3 | ⟨b, o, rfl, hl, hh, hlt, h3⟩
  · have := congrArg List.length h3; rw [bools_len] at this; simp at this; subst this; simp at hj
  · exact ⟨b, o, rfl, hl, hh, hlt, h3 j _ (bools_at hj)⟩
theorem Bv.form {lo hi : Nat} {w : World} {v : Value} {l : List Bool} (h : Bv lo hi w v l) : ∃ a c, v = .slice a l.length c := by
  obtain ⟨a, c, e, _⟩ := h.parts
  exact ⟨a, c, e⟩
/-- the cells, when the length is not 0 -/
theorem Bv.cells {lo hi : Nat} {w : World} {v : Value} {l : List Bool} (h : Bv lo hi w v l) (h0 : 0 < l.length) : ∃ b o c, v = .slice (some ⟨b, o, none⟩) l.length c ∧ l.length ≤ c ∧ c ≤ maxLen ∧ lo ≤ b ∧ b < hi ∧ b < w.heap.size ∧ ∀ j, j < l.length → w.cell? ⟨b, o + j, none⟩ = some (.bool (l.getD j false)) := by
  obtain ⟨a, c, rfl, h1, h2, h3⟩ := h.parts
  obtain ⟨b, o, rfl, q1, q2, q3, _⟩ := h3 0 h0
  refine ⟨b, o, c, rfl, h1, h2, q1, q2, q3, fun j hj => ?_⟩
  obtain ⟨b', o', e, _, _, _, hc⟩ := h3 j hj
  cases e; exact hc
/-- v owns the bools l -/
def Bo (lo hi : Nat) (w : World) (v : Value) (l : List Bool) : Prop := Ro lo hi w 4 v (bools l)
theorem Bo.read {lo hi : Nat} {w : World} {v : Value} {l : List Bool} (h : Bo lo hi w v l) : Bv lo hi w v l := Ro.read h
theorem Bo.keeps {lo hi : Nat} {w w' : World} {v : Value} {l : List Bool} (h : Bo lo hi w v l) (k : Keeps lo hi w w') : Bo lo hi w' v l := Ro.keeps h k
theorem Bo.wide {lo hi lo' hi' : Nat} {w : World} {v : Value} {l : List Bool} (h : Bo lo hi w v l) (a : lo' ≤ lo) (b : hi ≤ hi') : Bo lo' hi' w v l := Ro.wide h a b
theorem Bo.form {lo hi : Nat} {w : World} {v : Value} {l : List Bool} (h : Bo lo hi w v l) : ∃ a c, v = .slice a l.length c := by
  obtain ⟨a, c, e⟩ := Ro.form h
  exact ⟨a, c, by rw [e, bools_len]⟩
/-- an answer: a new row of bools -/
def BoolsAns (w : World) (l : List Bool) (e : Ending) (w' : World) : Prop := ∃ v, e = .returned v ∧ Bo w.heap.size w'.heap.size w' v l ∧ Below w.heap.size w w'
/-- a row that has no room to spare is known whole -/
theorem own_cm {w : World} {base : Nat} {e : TypeId} {g n : Nat} {xs : List Value} (h : w.ownsRow base e 1 (.slice (some ⟨g, 0, none⟩) n n) n xs) : Cm w g e xs := by
  rcases h.2 with ⟨e1, _⟩ | ⟨g', cap, cur, e1, hb, hg, hnc, hcm, hcs, ht⟩
  · cases e1
  · cases e1
    unfold Cm
    rw [hg]
    have : cur.toList = xs := by rw [← ht, List.take_of_length_le (by rw [Array.length_toList, hcs]; exact Nat.le_refl _)]
    rw [← this]
theorem cm_own {w : World} {e : TypeId} {g n : Nat} {xs : List Value} (h : Cm w g e xs) (hl : xs.length = n) (hn : n ≤ maxLen) : w.ownsRow g e 1 (.slice (some ⟨g, 0, none⟩) n n) n xs :=
  ⟨by omega, .inr ⟨g, n, xs.toArray, rfl, Nat.le_refl _, h, Nat.le_refl _, hn, by simp [hl], by simp [← hl]⟩⟩
section
variable {P : Program}
/-- make of a row of one-cell values -/
theorem wpList_makeM {ops : Array Oper} {rest : List Oper} {o : Oper} {a : Act} {w : World} {Q : Exit → Act → World → Prop} (hgd : o.guard = none) (x y : Operand) (t : TypeId) (d : Nat) (hd : o.dst = some d) (ho : o.op = .makeSlice t x y)
    (e : TypeId) (z : Value) (bytes : Nat) (ht : P.underlying t = some (.slice e)) (hinfo : (P.info? e).map (fun i => (i.zero, i.size, i.bytes)) = some (some z, 1, bytes)) (n : Nat) (kl kc : IntKind)
    (hx : a.eval x = .int kl n) (hy : a.eval y = .int kc n) (hb : bytes * n ≤ 281474976710656) (h63 : n ≤ maxLen) (zs : List Value) (hz : (madeCells z.cells n).toList = zs)
    (h : ∀ w', Cm w' w.heap.size e zs → Below w.heap.size w w' → wpList P ops Q rest (a.put (some d) (.slice (some ⟨w.heap.size, 0, none⟩) n n)) w') : wpList P ops Q (o :: rest) a w :=
  wpList_plain hgd fun _ hK => wp_makeF x y t d hd ho e z bytes ht hinfo n kl kc hx hy hb h63 fun w' h1 h2 _ => hK _ _ (h w' (by rw [← hz]; exact own_cm h1) h2)
end
theorem madeB (n : Nat) : (madeCells (Value.bool false).cells n).toList = bools (List.replicate n false) := by
  have h : (Value.bool false).cells = #[.bool false] := rfl
  rw [h]
  apply List.ext_getElem?
  intro j
  simp only [madeCells, bools]
  rcases Nat.lt_or_ge j n with hj | hj
  · simp [hj, Nat.mod_one]
  · simp [hj]

set_option maxRecDepth 100000 in
set_option maxHeartbeats 8000000 in
theorem specAll_any (n : Nat) (w : World) (hn : n ≤ 16) :
    Calls Try.prog 78 #[.int .i64 n] w (BoolsAns w (List.replicate n true)) := by
  have HRS := Lib.hid (fun k => rep_succ k true)
  go_enter Try.func78, Try.ntmps78
  go_wp2
  go_loopw [3, 4] (fun lv iv wr => ∃ (k : Nat) (lv' : Value), k ≤ n ∧ iv = .int .i64 k ∧ lv' = lv ∧ Hid (wr.ownsRow w.heap.size 4 1 lv' k (bools (List.replicate k true))) ∧ Hid (Below w.heap.size w wr)) (fun _ iv _ => n - (intOf iv).toNat)
  case atStart => exact ⟨0, _, Nat.zero_le _, rfl, rfl, Lib.hid (World.ownsRow_lit w #[] 0 (Nat.le_refl _) (Nat.zero_le _) rfl), Lib.hid (by go_grown)⟩
  case round =>
    obtain ⟨k, lv, hk, rfl, rfl, LR, BR⟩ := hrel
    by_cases hlt : k < n
    · have HS := Lib.hid (HRS.out k)
      have hsz : w.heap.size ≤ wr.heap.size := BR.out.size
      have HLB : Hid (∀ q, lv.ownBlock = some q → w.heap.size ≤ q) := Lib.hid (fun q hq => (LR.out.lt q hq).1)
      have tk1 : True := trivial
      go_wp2_with
        (first
          | (have _t := tk1; clear _t tk1; at_builtin; refine wpList_pushL rfl (.tmp 11) (.tmp 12) 53 13 rfl rfl 4 (.bool false) 1 Try.underlying53 Try.infoB rfl w.heap.size (.bool true) lv k (bools (List.replicate k true)) LR.out rfl wr.heap.size rfl rfl rfl (by unfold maxLen; omega) (by omega) hsz ?_; intro v6 w6 hown hg; have L6 := Lib.hid hown; have B6 : Hid (Below w.heap.size w w6) := Lib.hid (BR.out.trans (hg.below hsz HLB.out)); clear hown hg))
      go_roundw
      case rel =>
        refine ⟨k + 1, _, by omega, by go_num, rfl, Lib.hid ?_, B6⟩
        rw [HS.out, bools_app]
        exact L6.out
      case measure => simp [intOf]; omega
    · obtain rfl : k = n := by omega
      go_wp2
      go_ret
      exact ⟨_, rfl, by have h := Ro.of_own LR.out; exact h, BR.out⟩

set_option maxRecDepth 100000 in
set_option maxHeartbeats 8000000 in
theorem specList_any (lo hi : Nat) (v : Value) (l : List Bool) (w : World) (hr : Bv lo hi w v l) (hn : l.length ≤ 1048576) :
    Calls Try.prog 76 #[v] w (IntsAns w (nums (lst (fun i => l.getD i false) l.length))) := by
  obtain ⟨a, cap, rfl, h1, h2, h3⟩ := hr.parts
  unfold maxLen at h2
  have KEY := Lib.hid h3
  clear h3 hr
  obtain ⟨p, hp⟩ : ∃ p : Nat → Bool, p = fun i => l.getD i false := ⟨_, rfl⟩
  rw [← hp]
  have HLL := Lib.hid (fun k => lst_len p k)
  have HLS := Lib.hid (fun k => lst_succ p k)
  have HP : Hid (∀ k, l.getD k false = p k) := Lib.hid (fun k => by rw [hp])
  clear hp
  go_enter Try.func76, Try.ntmps76
  go_wp2
  go_loopw [3, 9] (fun lv iv wr => ∃ (k : Nat) (lv' : Value), k ≤ l.length ∧ iv = .int .i64 k ∧ lv' = lv ∧ Hid (wr.ownsRow w.heap.size 3 1 lv' (lst p k).length (ints (nums (lst p k)))) ∧ Hid (Below w.heap.size w wr)) (fun _ iv _ => l.length - (intOf iv).toNat)
  case atStart => exact ⟨0, _, Nat.zero_le _, rfl, rfl, Lib.hid (World.ownsRow_lit w #[] 0 (Nat.le_refl _) (Nat.zero_le _) rfl), Lib.hid (by go_grown)⟩
  case round =>
    obtain ⟨k, lv, hk, rfl, rfl, LR, BR⟩ := hrel
    by_cases hlt : k < l.length
    · obtain ⟨b, o, rfl, _, _, hb, c0⟩ := KEY.out k hlt
      rw [← BR.out.cell (p := ⟨b, o + k, none⟩) hb, HP.out k] at c0
      have HS := Lib.hid (HLS.out k)
      have hlk := HLL.out k
      have hsz : w.heap.size ≤ wr.heap.size := BR.out.size
      have HLB : Hid (∀ q, lv.ownBlock = some q → w.heap.size ≤ q) := Lib.hid (fun q hq => (LR.out.lt q hq).1)
      obtain ⟨q, hq⟩ : ∃ q, q = p k := ⟨_, rfl⟩
      rw [← hq] at c0 HS
      clear hq
      cases q with
      | true =>
        have tk2 : True := trivial
        go_wp2_with
          (first
            | (have _t := tk2; clear _t tk2; at_builtin; refine wpList_pushL rfl (.tmp 15) (.tmp 17) 22 18 rfl rfl 3 (.int .i64 0) 8 Try.underlying22 Try.infoI rfl w.heap.size (.int .i64 k) lv (lst p k).length (ints (nums (lst p k))) LR.out rfl wr.heap.size rfl rfl rfl (by unfold maxLen; omega) (by omega) hsz ?_; intro v6 w6 hown hg; have L6 := Lib.hid hown; have B6 : Hid (Below w.heap.size w w6) := Lib.hid (BR.out.trans (hg.below hsz HLB.out)); clear hown hg c0))
        go_roundw
        case rel =>
          refine ⟨k + 1, _, by omega, by go_num, rfl, Lib.hid ?_, B6⟩
          rw [HS.out, if_pos rfl, nums_app, ints_app, List.length_append]
          exact L6.out
        case measure => simp [intOf]; omega
      | false =>
        go_wp2
        go_roundw
        case rel =>
          refine ⟨k + 1, _, by omega, by go_num, rfl, Lib.hid ?_, BR⟩
          rw [HS.out, if_neg (by decide), List.append_nil]
          exact LR.out
        case measure => simp [intOf]; omega
    · obtain rfl : k = l.length := by omega
      go_wp2
      go_ret
      exact ⟨_, rfl, Ro.of_own LR.out, BR.out⟩
end Go.Proofs.Ytegmoojjffkacaa
