/-
  Contracts of spec.SplitAny and impl.SplitAny: both return, in new memory, the pieces of s between the bytes that occur in by. Condition: each string has at most 1048576 bytes.
-/
import Derived.Test.YtmniigplfhmbjaaDoorTextA
import Derived.Test.YtmniigplfhmbjaaDoorStrs
import Derived.Deep.OwnRows
namespace Go.Proofs.YtmniigplfhmbjaaDoor
open Go.RowKit
open Go Go.Deep

/-- the pieces before byte k and where the next piece begins -/
def splitTo (by' : List UInt8) (s : ByteArray) : Nat → List ByteArray × Nat
  | 0 => ([], 0)
  | k + 1 => if by'.contains (s.data.toList.getD k 0) then ((splitTo by' s k).1 ++ [s.extract (splitTo by' s k).2 k], k + 1) else splitTo by' s k
def splitAll (by' : List UInt8) (s : ByteArray) : List ByteArray := (splitTo by' s s.size).1 ++ [s.extract (splitTo by' s s.size).2 s.size]
theorem splitTo_le (by' : List UInt8) (s : ByteArray) : ∀ k, (splitTo by' s k).2 ≤ k ∧ (splitTo by' s k).1.length ≤ k
  | 0 => ⟨Nat.le_refl _, Nat.le_refl _⟩
  | k + 1 => by
    have ih := splitTo_le by' s k
    unfold splitTo
    split
    · simp; omega
    · omega
theorem splitTo_hit {by' : List UInt8} {s : ByteArray} {k : Nat} (h : k < s.size) (hc : by'.contains s[k] = true) : splitTo by' s (k + 1) = ((splitTo by' s k).1 ++ [s.extract (splitTo by' s k).2 k], k + 1) := by
  rw [splitTo, getD_at s k h, if_pos hc]
theorem splitTo_miss {by' : List UInt8} {s : ByteArray} {k : Nat} (h : k < s.size) (hc : by'.contains s[k] = false) : splitTo by' s (k + 1) = splitTo by' s k := by
  rw [splitTo, getD_at s k h, if_neg (by rw [hc]; simp)]


/-- the byte occurs among the first j of by -/
def occ (c : UInt8) (l : List UInt8) (j : Nat) : Bool := (l.take j).contains c
theorem occ_succ (c : UInt8) (s : ByteArray) (j : Nat) (h : j < s.size) : occ c s.data.toList (j + 1) = (occ c s.data.toList j || c == s[j]) := by
  have e : s.data.toList.take (j + 1) = s.data.toList.take j ++ [s[j]] := by
    rw [List.take_succ_eq_append_getElem (by simpa using h)]; rfl
  unfold occ
  rw [e]
  simp
  rfl
theorem occ_end (c : UInt8) (s : ByteArray) : occ c s.data.toList s.size = s.data.toList.contains c := by
  unfold occ; rw [List.take_of_length_le (by simp)]
theorem occ_of (c : UInt8) (s : ByteArray) (j : Nat) (h : j < s.size) (hc : c = s[j]) : s.data.toList.contains c = true := by
  subst hc
  rw [List.contains_iff_mem]
  have := List.getElem_mem (l := s.data.toList) (n := j) (by simpa using h)
  exact this

/-- what the loops carry: the pieces so far in a row of the call's own -/
def Sp (B : Nat) (W : World) (by' : List UInt8) (s : ByteArray) (k : Nat) (v : Value) (wr : World) : Prop :=
  wr.ownsRow B 9 1 v (splitTo by' s k).1.length ((splitTo by' s k).1.map Value.string) ∧ Below B W wr ∧ B ≤ wr.heap.size

theorem sp_drew {B k : Nat} {W wr : World} {by' : List UInt8} {s : ByteArray} {v : Value} (h : Sp B W by' s k v wr) (n : Nat) : Sp B W by' s k v (wr.drewN n) := ⟨h.1, below_drewN' h.2.1 n, h.2.2⟩
theorem sp_hit {B k fr nq : Nat} {W wr w1 : World} {by' : List UInt8} {s : ByteArray} {v v' : Value} (hlt : k < s.size) (hc : by'.contains s[k] = true) (hfr : fr = (splitTo by' s k).2)
    (hsp : Sp B W by' s k v wr) (hown : w1.ownsRow B 9 1 v' ((splitTo by' s k).1.length + 1) ((splitTo by' s k).1.map Value.string ++ [.string (s.extract fr k)])) (hb : Below B (wr.drewN nq) w1) :
    Sp B W by' s (k + 1) v' w1 ∧ (splitTo by' s (k + 1)).2 = k + 1 := by
  have e := splitTo_hit hlt hc
  refine ⟨⟨?_, (below_drewN' hsp.2.1 nq).trans hb, Nat.le_trans hsp.2.2 hb.size⟩, by rw [e]⟩
  rw [e, ← hfr]
  simpa using hown
theorem sp_miss {B k : Nat} {W wr : World} {by' : List UInt8} {s : ByteArray} {v : Value} (hlt : k < s.size) (hc : by'.contains s[k] = false)
    (hsp : Sp B W by' s k v wr) : Sp B W by' s (k + 1) v wr ∧ (splitTo by' s (k + 1)).2 = (splitTo by' s k).2 := by
  have e := splitTo_miss hlt hc
  exact ⟨by unfold Sp at *; rw [e]; exact hsp, by rw [e]⟩
theorem sp_end {B fr : Nat} {W wr w1 : World} {by' : List UInt8} {s : ByteArray} {v v' : Value} (hfr : fr = (splitTo by' s s.size).2)
    (hsp : Sp B W by' s s.size v wr) (hown : w1.ownsRow B 9 1 v' ((splitTo by' s s.size).1.length + 1) ((splitTo by' s s.size).1.map Value.string ++ [.string (s.extract fr s.size)])) (hb : Below B wr w1) :
    w1.ownsRow B 9 1 v' (splitAll by' s).length ((splitAll by' s).map Value.string) ∧ Below B W w1 := by
  refine ⟨?_, hsp.2.1.trans hb⟩
  unfold splitAll
  rw [← hfr]
  simpa using hown

def cuts0 : Array Value := Array.replicate 256 (.bool false)
theorem alloc_cuts (w : World) : (Instr.alloc 46 true (.tuple #[])).run Tryd.prog w = .ok (.pointer (some ⟨w.heap.size, 0, none⟩)) (w.alloc (.cells cuts0 46)) := by kernel_rfl

def occN (l : List UInt8) (j c : Nat) : Bool := (l.take j).any fun x => x.toNat == c
def Cu (B : Nat) (W : World) (by' : List UInt8) (j : Nat) (wr : World) : Prop :=
  wr.rowIs B 46 256 (fun c => .bool (occN by' j c)) ∧ Below B W wr
theorem cu_start (w : World) (by' : List UInt8) : Cu w.heap.size w by' 0 (w.alloc (.cells cuts0 46)) := by
  refine ⟨?_, (Below.refl _ _).alloc (Nat.le_refl _) _⟩
  have h := World.rowIs_alloc w cuts0 46 (fun c => .bool (occN by' 0 c)) (fun i hi => by
    have hi' : i < 256 := by simpa [cuts0] using hi
    simp [cuts0, occN, hi'])
  have e : cuts0.size = 256 := by simp [cuts0]
  rw [e] at h
  exact h

theorem occN_end (c : UInt8) (b : ByteArray) : occN b.data.toList b.size c.toNat = b.data.toList.contains c := by
  unfold occN
  rw [List.take_of_length_le (by simp)]
  rw [Bool.eq_iff_iff, List.any_eq_true, List.contains_iff_mem]
  constructor
  · rintro ⟨x, hx, h⟩
    have e : x = c := UInt8.toNat_inj.1 (by simpa using h)
    subst e
    exact hx
  · intro h
    exact ⟨c, h, by simp⟩
theorem cu_step {B j : Nat} {W wr : World} {b : ByteArray} (hlt : j < b.size) (h : Cu B W b.data.toList j wr) : Cu B W b.data.toList (j + 1) (wr.setCell ⟨B, b[j].toNat, none⟩ (.bool true)) := by
  refine ⟨(h.1.set _ _).congr fun c _ => ?_, h.2.setCell (Nat.le_refl _) _⟩
  have e : b.data.toList.take (j + 1) = b.data.toList.take j ++ [b[j]] := by
    rw [List.take_succ_eq_append_getElem (by simpa using hlt)]; rfl
  have e2 : occN b.data.toList (j + 1) c = (occN b.data.toList j c || b[j].toNat == c) := by
    unfold occN; rw [e]; simp
  rw [e2]
  by_cases hc : c = b[j].toNat
  · subst hc; simp
  · have hb : (b[j].toNat == c) = false := by rw [beq_eq_false_iff_ne]; exact fun h => hc h.symm
    rw [if_neg hc, hb, Bool.or_false]

set_option maxHeartbeats 1000000 in
theorem implSplit_any (s b : ByteArray) (w : World) (hs : s.size ≤ 1048576) (hb : b.size ≤ 1048576) :
    Calls Tryd.prog 11 #[.string s, .string b] w fun e w' => ∃ v, e = .returned v ∧
      w'.ownsRow w.heap.size 9 1 v (splitAll b.data.toList s).length ((splitAll b.data.toList s).map Value.string) ∧ Below w.heap.size w w' := by
  go_enter Tryd.func11, Tryd.ntmps11
  go_wp2_with (refine wpList_alloc rfl 46 rfl _ (alloc_cuts _) ?_)
  go_loopw [12] (fun i wr => ∃ j : Nat, j ≤ b.size ∧ i = .int .i64 j ∧ Hid (Cu w.heap.size w b.data.toList j wr)) (fun i _ => b.size - (intOf i).toNat)
  case atStart => exact ⟨0, Nat.zero_le _, rfl, Lib.hid (cu_start _ _)⟩
  case round =>
    obtain ⟨j, hj, rfl, H⟩ := hrel
    by_cases hlt : j < b.size
    · have hb256 : b[j].toNat < 256 := b[j].toNat_lt
      have hcell := H.out.1.cell (i := b[j].toNat) hb256
      have hfree := H.out.1.frozen b[j].toNat
      go_wp2
      go_roundw
      case rel => exact ⟨j + 1, by omega, by go_num, Lib.hid (cu_step hlt H.out)⟩
      case measure => simp [intOf]; omega
    · obtain rfl : j = b.size := by omega
      obtain ⟨wo, rfl⟩ : ∃ wo : World, wo = wr := ⟨_, rfl⟩
      have hcu : ∀ c : UInt8, wo.cell? ⟨w.heap.size, c.toNat, none⟩ = some (.bool (b.data.toList.contains c)) := fun c => by
        rw [H.out.1.cell (i := c.toNat) c.toNat_lt, occN_end]
      have HCU := Lib.hid hcu
      have hB1 : w.heap.size + 1 ≤ wo.heap.size := H.out.1.lt
      have HB := Lib.hid H.out.2
      clear H hcu
      go_wp2
      go_loopw [7, 8, 22] (fun v f i wq => ∃ k : Nat, k ≤ s.size ∧ i = .int .i64 k ∧ f = .int .i64 (splitTo b.data.toList s k).2 ∧ Hid (Sp (w.heap.size + 1) wo b.data.toList s k v wq)) (fun _ _ i _ => s.size - (intOf i).toNat)
      case atStart => exact ⟨0, Nat.zero_le _, rfl, rfl, Lib.hid ⟨World.ownsRow_nil _ _ _ _, Below.refl _ _, hB1⟩⟩
      case round =>
        obtain ⟨k, hk, rfl, rfl, HS⟩ := hrel
        obtain ⟨hle1, hle2⟩ := splitTo_le b.data.toList s k
        obtain ⟨fr, hfr⟩ : ∃ fr, fr = (splitTo b.data.toList s k).2 := ⟨_, rfl⟩
        rw [← hfr] at hle1 ⊢
        have HF := Lib.hid hfr
        have hn1 : (splitTo b.data.toList s k).1.length + 1 ≤ maxLen := by unfold maxLen; omega
        have hn2 : ((splitTo b.data.toList s k).1.length + 1) * 16 ≤ 140737488355328 := by omega
        clear hfr
        by_cases hlt : k < s.size
        · have hcell : wr.cell? ⟨w.heap.size, s[k].toNat, none⟩ = some (.bool (b.data.toList.contains s[k])) := by
            rw [HS.out.2.1.cell (p := ⟨w.heap.size, s[k].toNat, none⟩) (Nat.lt_succ_self _)]
            exact HCU.out _
          have hk256 : s[k].toNat < 256 := s[k].toNat_lt
          by_cases hc : b.data.toList.contains s[k] = true
          · rw [hc] at hcell
            have HC := Lib.hid hc
            clear hc
            go_wp2_with (at_builtin; refine wpList_push rfl _ _ 29 rfl 9 (.string ByteArray.empty) 16 Tryd.underlying29 Tryd.infoStr rfl (w.heap.size + 1) wr (.string (s.extract fr k)) _ _ _ HS.out.1 rfl rfl rfl hn1 hn2 HS.out.2.2 ?_; intro v' w1 hown1 hb1 _; have HO1 := Lib.hid hown1; have HB1 := Lib.hid hb1; clear hown1 hb1)
            go_roundw
            case rel =>
              obtain ⟨e1, e2⟩ := sp_hit (nq := 0) hlt HC.out HF.out HS.out HO1.out HB1.out
              exact ⟨k + 1, by omega, by go_num, by rw [e2]; go_num, Lib.hid e1⟩
            case measure => simp [intOf]; omega
          · have hc' : b.data.toList.contains s[k] = false := by simpa using hc
            rw [hc'] at hcell
            obtain ⟨e1, e2⟩ := sp_miss hlt hc' HS.out
            have HE1 := Lib.hid e1
            have HE2 := Lib.hid e2
            clear e1 e2 hc hc'
            go_wp2
            go_roundw
            case rel => exact ⟨k + 1, by omega, by go_num, by rw [HE2.out, ← HF.out], HE1⟩
            case measure => simp [intOf]; omega
        · obtain rfl : k = s.size := by omega
          go_wp2_with (at_builtin; refine wpList_push rfl _ _ 29 rfl 9 (.string ByteArray.empty) 16 Tryd.underlying29 Tryd.infoStr rfl (w.heap.size + 1) wr (.string (s.extract fr s.size)) _ _ _ HS.out.1 rfl rfl rfl hn1 hn2 HS.out.2.2 ?_; intro v' w1 hown1 hb1 _; have HO1 := Lib.hid hown1; have HB1 := Lib.hid hb1; clear hown1 hb1)
          go_ret
          obtain ⟨h1, h2⟩ := sp_end HF.out HS.out HO1.out HB1.out
          exact ⟨_, rfl, own_mono h1 (by omega), HB.out.trans (h2.mono (by omega))⟩
end Go.Proofs.YtmniigplfhmbjaaDoor
