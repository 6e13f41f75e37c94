/-
  Contracts of strings.IndexByte, readByte, readAgent, readHead.
-/
import Derived.Test.YtodjohdbngbpaaaGreatZCmb
import Derived.Lib.Bytealg
namespace Go.Proofs.YtodjohdbngbpaaaGreat
open Go.RowKit
open Go Go.Deep

set_option maxHeartbeats 1000000 in
theorem indexF_any (s : ByteArray) (c : UInt8) (w : World) : Calls Tryz.prog 137 #[.string s, .int .u8 (c.toNat : Int)] w fun e w' => e = .returned (.int .i64 (Lib.indexByte s.data.toList c)) ∧ w = w' := by
  have hx : ∀ W : World, (callFunc 174 #[.string s, .int .u8 (c.toNat : Int)]).run Tryz.prog W = .ok (.value (.int .i64 (Lib.indexByte s.data.toList c))) W := fun W => by
    rw [run_callFunc_extern Tryz.func174 (by kernel_rfl) (by kernel_rfl) (by kernel_rfl) (e := Extern.BytealgIndexByte.indexByte) (by kernel_rfl), Lib.run_indexByteString]
    simp [Result.andThen]
  generalize Lib.indexByte s.data.toList c = r at *
  go_enter Tryz.func137, Tryz.ntmps137
  go_wp2
  go_ret
  exact ⟨rfl, rfl⟩

/-- the reader in its block -/
def Rd (w : World) (b : Nat) (l : List UInt8) (k : Nat) : Prop := w.rowIs b 73 2 (fun j => if j = 0 then .string (str l) else .int .i64 (k : Nat))
theorem Rd.cells {w : World} {b k : Nat} {l : List UInt8} (h : Rd w b l k) : w.cell? ⟨b, 0, none⟩ = some (.string (str l)) ∧ w.cell? ⟨b, 1, none⟩ = some (.int .i64 (k : Nat)) ∧ w.frozen? ⟨b, 0, none⟩ = false ∧ w.frozen? ⟨b, 1, none⟩ = false :=
  ⟨World.rowIs.cell h (i := 0) (by decide), World.rowIs.cell h (i := 1) (by decide), World.rowIs.frozen h 0, World.rowIs.frozen h 1⟩
theorem Rd.setRest {w : World} {b k : Nat} {l : List UInt8} (h : Rd w b l k) (l' : List UInt8) : Rd (w.setCell ⟨b, 0, none⟩ (.string (str l'))) b l' k :=
  (World.rowIs.set h 0 (.string (str l'))).congr fun i hi => by
    have : i = 0 ∨ i = 1 := by omega
    rcases this with rfl | rfl <;> rfl
theorem Rd.setNodes {w : World} {b k : Nat} {l : List UInt8} (h : Rd w b l k) (k' : Nat) : Rd (w.setCell ⟨b, 1, none⟩ (.int .i64 (k' : Nat))) b l k' :=
  (World.rowIs.set h 1 (.int .i64 (k' : Nat))).congr fun i hi => by
    have : i = 0 ∨ i = 1 := by omega
    rcases this with rfl | rfl <;> rfl
theorem grown_trans {w w1 w2 : World} {row : Option Nat} (h : w.grownBy w1 row) (k : w1.grownBy w2 row) : w.grownBy w2 row :=
  ⟨k.os.trans h.os, k.tape.trans h.tape, k.output.trans h.output, Nat.le_trans h.size k.size, fun i hi hne => (k.block i (Nat.lt_of_lt_of_le hi h.size) hne).trans (h.block i hi hne)⟩
theorem grown_set1 (w : World) (b j : Nat) (u : Value) : w.grownBy (w.setCell ⟨b, j, none⟩ u) (some b) :=
  ⟨rfl, rfl, rfl, by simp [World.setCell], fun k hk hne => Below.heap_setCell _ _ _ _ (fun e => hne (by rw [e]))⟩
theorem grown_below {w w' : World} (h : Below w.heap.size w w') (row : Option Nat) : w.grownBy w' row := ⟨h.os, h.tape, h.output, h.size, fun k hk _ => h.block k hk⟩

/-- what readByte answers -/
def BytePost (b : Nat) (w : World) (l : List UInt8) (k : Nat) (e : Ending) (w' : World) : Prop :=
  match l with
  | [] => e = .returned (.tuple #[.int .u8 0, .bool false]) ∧ w = w'
  | c :: r => e = .returned (.tuple #[.int .u8 (c.toNat : Int), .bool true]) ∧ Rd w' b r k ∧ w.grownBy w' (some b)

set_option maxHeartbeats 1000000 in
theorem readByte_any (b : Nat) (l : List UInt8) (k : Nat) (w : World) (h : Rd w b l k) (hl : l.length ≤ maxLen) : Calls Tryz.prog 136 #[.pointer (some ⟨b, 0, none⟩)] w (BytePost b w l k) := by
  obtain ⟨c0, c1, f0, f1⟩ := h.cells
  have HR := Lib.hid h
  cases l with
  | nil =>
    clear h hl
    have hx : (str []).toList = [] := by simp [str]
    have hx2 : (str []).toList.isEmpty = true := by simp [str]
    go_enter Tryz.func136, Tryz.ntmps136
    go_wp2
    go_returns
    exact ⟨rfl, rfl⟩
  | cons c r =>
    have R1 := Lib.hid (HR.out.setRest r)
    have G1 := Lib.hid (grown_set1 w b 0 (.string (str r)))
    have hs : (str (c :: r)).size = r.length + 1 := rfl
    have hx : (str (c :: r)).toList.isEmpty = false := by simp [str]
    have hx' : ¬ (str (c :: r)).toList = [] := by simp [str]
    have hex : (str (c :: r)).extract 1 (r.length + 1) = str r := by
      apply ByteArray.ext
      simp [str, ByteArray.data_extract]
    clear h
    unfold maxLen at hl
    simp at hl
    go_enter Tryz.func136, Tryz.ntmps136
    go_wp2
    go_returns
    exact ⟨rfl, R1.out, G1.out⟩

def agentOf : List UInt8 → Option (Int × List UInt8)
  | [] => none
  | d :: r => if 48 ≤ d.toNat ∧ d.toNat ≤ 50 then some ((d.toNat : Int) - 48, r) else none
/-- what readAgent and readHead answer -/
def AgentPost (b : Nat) (w : World) (k : Nat) (o : Option (Int × List UInt8)) (e : Ending) (w' : World) : Prop :=
  ∃ l', Rd w' b l' k ∧ w.grownBy w' (some b) ∧ match o with
    | some (n, r) => l' = r ∧ e = .returned (.tuple #[.int .i64 n, .bool true])
    | none => e = .returned (.tuple #[.int .i64 0, .bool false])
def HeadPost (b : Nat) (w : World) (k : Nat) (o : Option (Int × Int × List UInt8)) (e : Ending) (w' : World) : Prop :=
  ∃ l', Rd w' b l' k ∧ w.grownBy w' (some b) ∧ match o with
    | some (op, n, r) => l' = r ∧ e = .returned (.tuple #[.int .i64 op, .int .i64 n, .bool true])
    | none => e = .returned (.tuple #[.int .i64 0, .int .i64 0, .bool false])

set_option maxHeartbeats 1000000 in
theorem readAgent_any (b : Nat) (l : List UInt8) (k : Nat) (w : World) (h : Rd w b l k) (hl : l.length ≤ maxLen) : Calls Tryz.prog 139 #[.pointer (some ⟨b, 0, none⟩)] w (AgentPost b w k (agentOf l)) := by
  have KB := Lib.hid (readByte_any b l k w h hl)
  have HR := Lib.hid h
  clear h hl
  cases l with
  | nil =>
    rw [show agentOf [] = none from rfl]
    go_enter Tryz.func139, Tryz.ntmps139
    go_wp2_with fail
    refine KB.out.mono ?_
    rintro e w1 ⟨rfl, rfl⟩
    go_wp2
    go_returns
    exact ⟨[], HR.out, World.grownBy.refl _ _, rfl⟩
  | cons d r =>
    by_cases hd : 48 ≤ d.toNat ∧ d.toNat ≤ 50
    · rw [show agentOf (d :: r) = some ((d.toNat : Int) - 48, r) from if_pos hd]
      have h1 : (48 : Int) ≤ (d.toNat : Int) := by omega
      have h2 : (d.toNat : Int) ≤ 50 := by omega
      clear hd
      go_enter Tryz.func139, Tryz.ntmps139
      go_wp2_with fail
      refine KB.out.mono ?_
      rintro e w1 ⟨rfl, hr1, hg1⟩
      have R1 := Lib.hid hr1; have G1 := Lib.hid hg1; clear hr1 hg1
      go_wp2
      go_returns
      exact ⟨r, R1.out, G1.out, rfl, rfl⟩
    · rw [show agentOf (d :: r) = none from if_neg hd]
      have h0 : (0 : Int) ≤ (d.toNat : Int) := Int.natCast_nonneg _
      have h3 : (d.toNat : Int) ≤ 255 := by have := d.toNat_lt; omega
      by_cases hlo : (d.toNat : Int) < 48
      · clear hd
        go_enter Tryz.func139, Tryz.ntmps139
        go_wp2_with fail
        refine KB.out.mono ?_
        rintro e w1 ⟨rfl, hr1, hg1⟩
        have R1 := Lib.hid hr1; have G1 := Lib.hid hg1; clear hr1 hg1
        go_wp2
        go_returns
        exact ⟨r, R1.out, G1.out, rfl⟩
      · have hhi : (51 : Int) ≤ (d.toNat : Int) := by omega
        clear hd hlo
        go_enter Tryz.func139, Tryz.ntmps139
        go_wp2_with fail
        refine KB.out.mono ?_
        rintro e w1 ⟨rfl, hr1, hg1⟩
        have R1 := Lib.hid hr1; have G1 := Lib.hid hg1; clear hr1 hg1
        go_wp2
        go_returns
        exact ⟨r, R1.out, G1.out, rfl⟩

theorem index_no {l : List UInt8} {c : UInt8} (h : c ∉ l) : Lib.indexByte l c = -1 := by
  induction l with
  | nil => rfl
  | cons b l ih =>
    have h1 : ¬ b = c := fun e => h (by rw [e]; exact List.mem_cons_self)
    have h2 := ih (fun e => h (List.mem_cons_of_mem _ e))
    unfold Lib.indexByte
    rw [if_neg (by simpa using h1), h2]; rfl
theorem idx_zero {c : UInt8} (h : opB c = 0) : Lib.indexByte [97, 98, 99, 100] c = -1 ∧ Lib.indexByte [84, 45, 38, 75, 87, 69, 67, 33] c = -1 := by
  constructor
  · apply index_no
    intro hm
    simp only [List.mem_cons, List.not_mem_nil, or_false] at hm
    rcases hm with rfl | rfl | rfl | rfl <;> exact absurd h (by decide)
  · apply index_no
    intro hm
    simp only [List.mem_cons, List.not_mem_nil, or_false] at hm
    rcases hm with rfl | rfl | rfl | rfl | rfl | rfl | rfl | rfl <;> exact absurd h (by decide)
theorem idx_fact {c : UInt8} (h : 97 ≤ c.toNat ∧ c.toNat ≤ 100) : Lib.indexByte [97, 98, 99, 100] c = (c.toNat : Int) - 97 := by
  have h2 : c.toNat = 97 ∨ c.toNat = 98 ∨ c.toNat = 99 ∨ c.toNat = 100 := by omega
  have e : c = UInt8.ofNat c.toNat := by simp
  rcases h2 with h2 | h2 | h2 | h2 <;> (rw [h2] at e; subst e; rfl)
theorem idx_letter {c : UInt8} {op : Int} (h : opB c = op) (h2 : op ≠ 0) (h1 : op ≠ 1) : Lib.indexByte [97, 98, 99, 100] c = -1 ∧ Lib.indexByte [84, 45, 38, 75, 87, 69, 67, 33] c = op - 2 := by
  rcases opB_cases c with h0 | ⟨hk, _⟩ | ⟨hk, hc⟩ | ⟨hk, hc⟩ | ⟨hk, hc⟩ | ⟨hk, hc⟩ | ⟨hk, hc⟩ | ⟨hk, hc⟩ | ⟨hk, hc⟩ | ⟨hk, hc⟩
  · omega
  · omega
  all_goals
    rw [← h, hk, hc]
    exact ⟨rfl, rfl⟩

set_option maxRecDepth 100000 in
set_option maxHeartbeats 4000000 in
theorem readHead_any (b : Nat) (l : List UInt8) (k : Nat) (w : World) (h : Rd w b l k) (hl : l.length ≤ maxLen) : Calls Tryz.prog 104 #[.pointer (some ⟨b, 0, none⟩)] w (HeadPost b w k (headOf l)) := by
  have KB := Lib.hid (readByte_any b l k w h hl)
  have HR := Lib.hid h
  clear h
  cases l with
  | nil =>
    rw [show headOf [] = none from rfl]
    go_enter Tryz.func104, Tryz.ntmps104
    go_wp2_with fail
    refine KB.out.mono ?_
    rintro e w1 ⟨rfl, rfl⟩
    go_wp2
    go_returns
    exact ⟨[], HR.out, World.grownBy.refl _ _, rfl⟩
  | cons c r =>
    have hlr : r.length ≤ maxLen := by simp at hl; omega
    have I1 := fun W => indexF_any ⟨#[97, 98, 99, 100]⟩ c W
    have I2 := fun W => indexF_any ⟨#[84, 45, 38, 75, 87, 69, 67, 33]⟩ c W
    by_cases h0 : opB c = 0
    · rw [show headOf (c :: r) = none by simp [headOf, h0]]
      rw [show Lib.indexByte (ByteArray.mk #[97, 98, 99, 100]).data.toList c = -1 from (idx_zero h0).1] at I1
      rw [show Lib.indexByte (ByteArray.mk #[84, 45, 38, 75, 87, 69, 67, 33]).data.toList c = -1 from (idx_zero h0).2] at I2
      have I1 := Lib.hid I1
      have I2 := Lib.hid I2
      clear h0 hl hlr
      go_enter Tryz.func104, Tryz.ntmps104
      go_wp2_with fail
      refine KB.out.mono ?_
      rintro e w1 ⟨rfl, hr1, hg1⟩
      have R1 := Lib.hid hr1; have G1 := Lib.hid hg1; clear hr1 hg1
      go_wp2_with fail
      refine (I1.out _).mono ?_
      rintro e w' ⟨rfl, rfl⟩
      go_wp2_with fail
      refine (I2.out _).mono ?_
      rintro e w' ⟨rfl, rfl⟩
      go_wp2
      go_returns
      exact ⟨r, R1.out, G1.out, rfl⟩
    by_cases h1 : opB c = 1
    · have hr := opB_cases c
      have hc : 97 ≤ c.toNat ∧ c.toNat ≤ 100 := by omega
      rw [show headOf (c :: r) = some (1, (c.toNat : Int) - 97, r) by simp [headOf, h1]]
      rw [show Lib.indexByte (ByteArray.mk #[97, 98, 99, 100]).data.toList c = (c.toNat : Int) - 97 from idx_fact hc] at I1
      have I1 := Lib.hid I1
      have hq : 0 ≤ (c.toNat : Int) - 97 := by omega
      clear h0 h1 hl hlr hr hc I2
      generalize (c.toNat : Int) - 97 = q at *
      go_enter Tryz.func104, Tryz.ntmps104
      go_wp2_with fail
      refine KB.out.mono ?_
      rintro e w1 ⟨rfl, hr1, hg1⟩
      have R1 := Lib.hid hr1; have G1 := Lib.hid hg1; clear hr1 hg1
      go_wp2_with fail
      refine (I1.out _).mono ?_
      rintro e w' ⟨rfl, rfl⟩
      go_wp2
      go_returns
      exact ⟨r, R1.out, G1.out, rfl, rfl⟩
    obtain ⟨op, hop⟩ : ∃ op, opB c = op := ⟨_, rfl⟩
    have hrange : 2 ≤ op ∧ op ≤ 9 := by have := opB_cases c; omega
    rw [hop] at h0 h1
    rw [show Lib.indexByte (ByteArray.mk #[97, 98, 99, 100]).data.toList c = -1 from (idx_letter hop h0 h1).1] at I1
    rw [show Lib.indexByte (ByteArray.mk #[84, 45, 38, 75, 87, 69, 67, 33]).data.toList c = op - 2 from (idx_letter hop h0 h1).2] at I2
    obtain ⟨q, rfl⟩ : ∃ q, op = 2 + q := ⟨op - 2, by omega⟩
    rw [show 2 + q - 2 = q by omega] at I2
    have I1 := Lib.hid I1
    have I2 := Lib.hid I2
    have hq0 : 0 ≤ q := by omega
    have hq7 : q ≤ 7 := by omega
    have KN := fun W => namesAgent_any (2 + q) W
    by_cases h56 : 2 + q = 5 ∨ 2 + q = 6
    · rw [show decide (2 + q = 5 ∨ 2 + q = 6) = true by simpa using h56] at KN
      have KN := Lib.hid KN
      have hh : headOf (c :: r) = (agentOf r).map fun p => (2 + q, p.1, p.2) := by
        simp only [headOf, hop]; rw [if_neg h0, if_neg h1, if_pos h56]
        cases r with
        | nil => rfl
        | cons d r' => simp only [agentOf]; split <;> rfl
      rw [hh]
      have KA := Lib.hid (fun W h => readAgent_any b r k W h hlr)
      clear hop h0 h1 hrange h56 hh hl hlr
      cases ha : agentOf r with
      | none =>
        rw [ha] at KA
        rw [show (none : Option (Int × List UInt8)).map (fun p => (2 + q, p.1, p.2)) = none from rfl]
        clear ha
        go_enter Tryz.func104, Tryz.ntmps104
        go_wp2_with fail
        refine KB.out.mono ?_
        rintro e w1 ⟨rfl, hr1, hg1⟩
        have R1 := Lib.hid hr1; have G1 := Lib.hid hg1; clear hr1 hg1
        go_wp2_with fail
        refine (I1.out _).mono ?_
        rintro e w' ⟨rfl, rfl⟩
        go_wp2_with fail
        refine (I2.out _).mono ?_
        rintro e w' ⟨rfl, rfl⟩
        go_wp2_with fail
        refine (KN.out _).mono ?_
        rintro e w' ⟨rfl, rfl⟩
        go_wp2_with fail
        refine (KA.out _ R1.out).mono ?_
        rintro e w2 ⟨l2, hr2, hg2, rfl⟩
        have R2 := Lib.hid hr2; have G2 := Lib.hid (grown_trans G1.out hg2); clear hr2 hg2
        go_wp2
        go_returns
        exact ⟨l2, R2.out, G2.out, rfl⟩
      | some p =>
        obtain ⟨n, r2⟩ := p
        rw [ha] at KA
        rw [show (some (n, r2)).map (fun p => (2 + q, p.1, p.2)) = some (2 + q, n, r2) from rfl]
        clear ha
        go_enter Tryz.func104, Tryz.ntmps104
        go_wp2_with fail
        refine KB.out.mono ?_
        rintro e w1 ⟨rfl, hr1, hg1⟩
        have R1 := Lib.hid hr1; have G1 := Lib.hid hg1; clear hr1 hg1
        go_wp2_with fail
        refine (I1.out _).mono ?_
        rintro e w' ⟨rfl, rfl⟩
        go_wp2_with fail
        refine (I2.out _).mono ?_
        rintro e w' ⟨rfl, rfl⟩
        go_wp2_with fail
        refine (KN.out _).mono ?_
        rintro e w' ⟨rfl, rfl⟩
        go_wp2_with fail
        refine (KA.out _ R1.out).mono ?_
        rintro e w2 ⟨l2, hr2, hg2, rfl, rfl⟩
        have R2 := Lib.hid hr2; have G2 := Lib.hid (grown_trans G1.out hg2); clear hr2 hg2
        go_wp2
        go_returns
        exact ⟨_, R2.out, G2.out, rfl, rfl⟩
    · rw [show decide (2 + q = 5 ∨ 2 + q = 6) = false by simpa using h56] at KN
      have KN := Lib.hid KN
      rw [show headOf (c :: r) = some (2 + q, 0, r) by simp only [headOf, hop]; rw [if_neg h0, if_neg h1, if_neg h56]]
      clear hop h0 h1 hrange h56 hl hlr
      go_enter Tryz.func104, Tryz.ntmps104
      go_wp2_with fail
      refine KB.out.mono ?_
      rintro e w1 ⟨rfl, hr1, hg1⟩
      have R1 := Lib.hid hr1; have G1 := Lib.hid hg1; clear hr1 hg1
      go_wp2_with fail
      refine (I1.out _).mono ?_
      rintro e w' ⟨rfl, rfl⟩
      go_wp2_with fail
      refine (I2.out _).mono ?_
      rintro e w' ⟨rfl, rfl⟩
      go_wp2_with fail
      refine (KN.out _).mono ?_
      rintro e w' ⟨rfl, rfl⟩
      go_wp2
      go_returns
      exact ⟨r, R1.out, G1.out, rfl, rfl⟩
end Go.Proofs.YtodjohdbngbpaaaGreat
