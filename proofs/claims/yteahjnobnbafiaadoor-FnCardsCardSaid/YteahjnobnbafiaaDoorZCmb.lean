/-
  Several texts in one: NumA. Conditions: as each theorem says.
-/
import Derived.Test.YteahjnobnbafiaaDoorRows
import Derived.Test.YteahjnobnbafiaaDoorZLib
import Derived.Lib.ItoaNum
import Derived.Lib.ItoaMem
import Derived.Deep.RegionHeld3
import Derived.WalkSpells
import Derived.Deep.RegionWith
import Derived.IntWalk
/-
  Contracts of spec.FormatInt and impl.FormatInt: both return the decimal numeral. The second reads a table of the library's, which is a premise.
-/
namespace Go.Proofs.YteahjnobnbafiaaDoor
open Go.RowKit
open Go

theorem dec_len (u : Nat) : ∀ f, u < 10 ^ f → (Lib.decDigits u).length ≤ f + 1 := by
  intro f
  induction f generalizing u with
  | zero => intro h; rw [Lib.decDigits, dif_pos (by omega)]; simp
  | succ f ih =>
    intro h
    rw [Lib.decDigits]
    split
    · simp
    · have := ih (u / 10) (by omega)
      simp; omega
theorem ofNat48 (k : Nat) : UInt8.ofNat (48 + k) = 48 + UInt8.ofNat k := by
  rw [UInt8.ofNat_add]; rfl
theorem dec_step {k : Nat} (h : 9 < k) (l : List UInt8) : Lib.decDigits k ++ l = Lib.decDigits (k / 10) ++ ((48 + UInt8.ofNat (k % 10)) :: l) := by
  conv => lhs; rw [Lib.decDigits, dif_neg (by omega)]
  rw [ofNat48]; simp
theorem dec_last {k : Nat} (h : k ≤ 9) (l : List UInt8) : Lib.decDigits k ++ l = (48 + UInt8.ofNat k) :: l := by
  rw [Lib.decDigits, dif_pos (by omega), ofNat48]; rfl

set_option maxRecDepth 100000 in
set_option maxHeartbeats 1000000 in
theorem specFormat_pos (k0 : Nat) (w : World) (hk : k0 ≤ 9223372036854775807) :
    Calls Tryd.prog 18 #[.int .i64 k0] w fun e w' => e = .returned (.string ⟨(Lib.decDigits k0).toArray⟩) ∧ Below w.heap.size w w' := by
  go_enter Tryd.func18, Tryd.ntmps18
  go_wp2
  go_loopw [0, 3] (fun kv out wr => ∃ (k : Nat) (l : List UInt8), kv = .int .i64 k ∧ k ≤ 9223372036854775807 ∧ out = .string ⟨l.toArray⟩ ∧ (l.length = 0 ∨ k + l.length + 8 ≤ 9223372036854775807) ∧ Hid (Lib.decDigits k ++ l = Lib.decDigits k0) ∧ Hid (Below w.heap.size w wr) ∧ w.heap.size ≤ wr.heap.size) (fun kv _ _ => (intOf kv).toNat)
  case atStart => exact ⟨k0, [], rfl, hk, rfl, .inl rfl, Lib.hid (by simp), Lib.hid (Below.refl _ _), Nat.le_refl _⟩
  case round =>
    obtain ⟨k, l, rfl, hkm, rfl, hkl, HD, HB, hsz⟩ := hrel
    have hl1 : l.length + 1 ≤ 9223372036854775807 := by omega
    by_cases hlt : 9 < k
    · have hmod : (k : Int) % 10 < 10 := by omega
      have hmod0 : 0 ≤ (k : Int) % 10 := by omega
      have hcv := run_bytes_one (P := Tryd.prog) Tryd.underlying24 Tryd.underlying5 Tryd.underlying9 wr (48 + (k : Int) % 10)
      go_wp2
      go_roundw
      case rel =>
        refine ⟨k / 10, (48 + UInt8.ofNat (k % 10)) :: l, by simp, by omega, ?_, .inr (by simp; omega), Lib.hid ?_, Lib.hid (HB.out.alloc hsz _), by simp; omega⟩
        · rw [ByteArray.mk_append_lists]
        · rw [← HD.out, dec_step hlt]
      case measure => simp [intOf]; omega
    · have hcv := run_bytes_one (P := Tryd.prog) Tryd.underlying24 Tryd.underlying5 Tryd.underlying9 wr (48 + (k : Int))
      go_wp2
      go_ret
      exact ⟨ret_str (by rw [← HD.out, dec_last (by omega)]; rw [ByteArray.mk_append_lists]), HB.out.alloc hsz _⟩

theorem tq_facts (n : Int) (h : n < 0) : n.tdiv 10 = -((-n) / 10) ∧ n.tmod 10 = -((-n) % 10) := by
  obtain ⟨m, rfl⟩ : ∃ m : Nat, n = -(m : Int) := ⟨(-n).toNat, by omega⟩
  rw [Int.neg_tdiv, Int.neg_tmod, Int.neg_neg, Int.tdiv_eq_ediv_of_nonneg (by omega), Int.tmod_eq_emod_of_nonneg (by omega)]
  exact ⟨rfl, rfl⟩
theorem natAbs_div (n : Int) (h : n < 0) : (-((-n) / 10)).natAbs = n.natAbs / 10 ∧ (48 - -((-n) % 10)).toNat = 48 + n.natAbs % 10 := by omega

set_option maxHeartbeats 2000000 in
theorem specFormat_neg (f : Nat) : ∀ (n : Int) (w : World), -(f : Int) ≤ n → n < 0 → -9223372036854775808 ≤ n →
    Calls Tryd.prog 18 #[.int .i64 n] w fun e w' => e = .returned (.string ⟨(45 :: Lib.decDigits n.natAbs).toArray⟩) ∧ Below w.heap.size w w' := by
  induction f with
  | zero => intro n w h1 h2; omega
  | succ f ih =>
    intro n w h1 h2 h3
    obtain ⟨t1, t2⟩ := tq_facts n h2
    have b1 : -9 ≤ n.tmod 10 := by omega
    have b2 : n.tmod 10 ≤ 0 := by omega
    by_cases h9 : -9 ≤ n
    · have hz : (n.tdiv 10 == 0) = true := by rw [beq_iff_eq]; omega
      have HD := Lib.hid (show (45 :: Lib.decDigits n.natAbs) = [45, UInt8.ofNat (48 - n).toNat] from by
        rw [Lib.decDigits, dif_pos (by omega), show (48 - n).toNat = 48 + n.natAbs by omega])
      have hcv := run_bytes_one (P := Tryd.prog) Tryd.underlying24 Tryd.underlying5 Tryd.underlying9 w (48 - n)
      clear t1 t2 ih
      go_enter Tryd.func18, Tryd.ntmps18
      go_wp2
      go_ret
      exact ⟨ret_str (by rw [HD.out]; rfl), (Below.refl _ _).alloc (Nat.le_refl _) _⟩
    · have hz : (n.tdiv 10 == 0) = false := by rw [beq_eq_false_iff_ne]; omega
      have IH := Lib.hid (fun W => ih (n.tdiv 10) W (by omega) (by rw [t1]; omega) (by omega))
      have HD := Lib.hid (show (45 :: Lib.decDigits n.natAbs) = (45 :: Lib.decDigits (n.tdiv 10).natAbs) ++ [UInt8.ofNat (48 - n.tmod 10).toNat] from by
        conv => lhs; rw [Lib.decDigits, dif_neg (by omega)]
        rw [t1, t2, (natAbs_div n h2).1, (natAbs_div n h2).2]; rfl)
      have hlen : (Lib.decDigits (n.tdiv 10).natAbs).length ≤ 21 := dec_len _ 20 (by rw [t1, (natAbs_div n h2).1]; omega)
      generalize 45 :: Lib.decDigits n.natAbs = R at HD
      have q1 : -9223372036854775808 ≤ n.tdiv 10 := by omega
      have q2 : n.tdiv 10 ≤ 0 := by omega
      obtain ⟨D, hD⟩ : ∃ D, D = 45 :: Lib.decDigits (n.tdiv 10).natAbs := ⟨_, rfl⟩
      have hDl : D.length ≤ 22 := by rw [hD, List.length_cons]; omega
      rw [← hD] at HD IH
      have hcv := fun (W : World) (b : Nat) (hc : W.cell? ⟨b, 0, none⟩ = some (.int .u8 (48 - n.tmod 10))) => run_bytes_cell (P := Tryd.prog) Tryd.underlying24 Tryd.underlying5 Tryd.underlying9 W b (48 - n.tmod 10) hc
      clear t1 t2 ih hD hlen
      go_enter Tryd.func18, Tryd.ntmps18
      go_wp2_with fail
      have e1 : IntKind.i64.wrap (n.tdiv 10) = n.tdiv 10 := IntWalk.i64_in _ (by omega)
      have e2 : IntKind.i64.wrap (48 - n.tmod 10) = 48 - n.tmod 10 := IntWalk.i64_in _ (by omega)
      have e3 : IntKind.u8.wrap (48 - n.tmod 10) = 48 - n.tmod 10 := IntWalk.u8_in _ (by omega)
      go_region_with
        ((go_at_call 18; refine (IH.out _).mono ?_; rintro e w1 ⟨rfl, hb1⟩; try (have hk : w1.cell? ⟨w.heap.size, 0, none⟩ = some (.int .u8 (48 - n.tmod 10)) := (hb1.cell (p := ⟨w.heap.size, 0, none⟩) (by simp)).trans ((World.cell?_alloc_at _ _ _ _ rfl).trans rfl))))
      all_goals clear e1 e2 e3
      all_goals go_wp2
      all_goals go_ret
      all_goals refine ⟨ret_str (by rw [HD.out, ← ByteArray.mk_append_mk]), ?_⟩
      · have := hb1.size
        exact (((Below.refl _ _).drew).trans hb1).alloc (by simpa using this) _
      all_goals exact (((Below.refl _ _).drew).alloc (Nat.le_refl _) _).trans (hb1.mono (by simp))

theorem specFormat_any (n : Int) (w : World) (h0 : -9223372036854775808 ≤ n) (h1 : n ≤ 9223372036854775807) :
    Calls Tryd.prog 18 #[.int .i64 n] w fun e w' => e = .returned (.string ⟨(Lib.itoa n).toArray⟩) ∧ Below w.heap.size w w' := by
  by_cases h : n < 0
  · rw [show Lib.itoa n = 45 :: Lib.decDigits n.natAbs from if_pos h]
    exact specFormat_neg n.natAbs n w (by omega) h h0
  · obtain ⟨k, rfl⟩ : ∃ k : Nat, n = k := ⟨n.toNat, by omega⟩
    rw [Lib.itoa_nonneg]
    exact specFormat_pos k w (by omega)
end Go.Proofs.YteahjnobnbafiaaDoor
