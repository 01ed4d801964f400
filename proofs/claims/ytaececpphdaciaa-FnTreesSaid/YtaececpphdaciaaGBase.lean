/-
  Small facts on what a call leaves as it was.
  GcdOf, in the model and in the program: the greatest common divisor of the magnitudes.
-/
import Derived.Test.YtaececpphdaciaaRows
import Derived.WalkKit
import Derived.WalkSpells
import Derived.WalkLawsBesides
import Derived.Lib.Hide
import Derived.Outline
import Derived.Deep.QuietTactic
import Derived.BigQuiet
import Derived.IntWalk
namespace Go.Proofs.Ytaececpphdaciaa
open Go.RowKit

theorem ret_str {a b : ByteArray} (h : a = b) : Ending.returned (.string a) = .returned (.string b) := by rw [h]

theorem bcell {W w1 : World} (hb : Below W.heap.size W w1) : (∀ b o, b < W.heap.size → w1.cell? ⟨b, o, none⟩ = W.cell? ⟨b, o, none⟩) ∧ (∀ b o, b < W.heap.size → w1.frozen? ⟨b, o, none⟩ = W.frozen? ⟨b, o, none⟩) :=
  ⟨fun b o h => hb.cell (p := ⟨b, o, none⟩) h, fun b o h => hb.frozen (p := ⟨b, o, none⟩) h⟩
end Go.Proofs.Ytaececpphdaciaa

namespace Go.Proofs.Ytaececpphdaciaa
open Go.RowKit

theorem ret_i {a b : Int} (h : a = b) : Ending.returned (.int .i64 a) = .returned (.int .i64 b) := by rw [h]
theorem ret_b {a b : Bool} (h : a = b) : Ending.returned (.bool a) = .returned (.bool b) := by rw [h]
/-- What GcdOf answers. -/
def gcdV (a b : Int) : Int := if a = -9223372036854775808 ∨ b = -9223372036854775808 then 0 else (Nat.gcd a.natAbs b.natAbs : Nat)
theorem gcdV_min {a b : Int} (h : a = -9223372036854775808 ∨ b = -9223372036854775808) : gcdV a b = 0 := if_pos h
theorem gcdV_of {a b : Int} (ha : -9223372036854775808 < a) (hb : -9223372036854775808 < b) : gcdV a b = (Nat.gcd a.natAbs b.natAbs : Nat) := by
  unfold gcdV; rw [if_neg (by omega)]
theorem tmod_facts (x y : Int) (hy : y ≠ 0) : (x.tmod y).natAbs = x.natAbs % y.natAbs ∧ -(y.natAbs : Int) < x.tmod y ∧ x.tmod y < y.natAbs := by
  have h1 : (x.tmod y).natAbs = x.natAbs % y.natAbs := Int.natAbs_tmod x y
  have h2 : x.natAbs % y.natAbs < y.natAbs := Nat.mod_lt _ (by omega)
  exact ⟨h1, by omega, by omega⟩
theorem gcd_turn (x y : Int) : Nat.gcd y.natAbs (x.tmod y).natAbs = Nat.gcd x.natAbs y.natAbs := by
  rw [Int.natAbs_tmod, Nat.gcd_comm y.natAbs, ← Nat.gcd_rec, Nat.gcd_comm]
theorem below_draws {B : Nat} {a w : World} (h : Below B a w) (n : Nat) : Below B a (w.drewN n) := ⟨h.os, h.tape, h.output, h.size, h.block⟩
theorem abs_max (x : Int) : (if x < -x then -x else x) = (x.natAbs : Int) := by split <;> omega

set_option maxHeartbeats 800000 in
theorem impl_gcd (a b : Int) (w : World) (ha0 : -9223372036854775808 ≤ a) (ha1 : a ≤ 9223372036854775807) (hb0 : -9223372036854775808 ≤ b) (hb1 : b ≤ 9223372036854775807) :
    Calls Try.prog 107 #[.int .i64 a, .int .i64 b] w fun e w' => e = .returned (.int .i64 (gcdV a b)) ∧ Below w.heap.size w w' := by
  by_cases ha : a = -9223372036854775808
  · have HV := Lib.hid (gcdV_min (b := b) (Or.inl ha))
    have hb : (a == -9223372036854775808) = true := by rw [ha]; rfl
    clear ha
    go_enter Try.func107, Try.ntmps107
    go_wp2
    go_ret
    exact ⟨ret_i HV.out.symm, Below.refl _ _⟩
  by_cases hb : b = -9223372036854775808
  · have HV := Lib.hid (gcdV_min (a := a) (Or.inr hb))
    have hb : (b == -9223372036854775808) = true := by rw [hb]; rfl
    have ha' : (a == -9223372036854775808) = false := by simpa using ha
    clear ha
    go_enter Try.func107, Try.ntmps107
    go_wp2
    go_ret
    exact ⟨ret_i HV.out.symm, Below.refl _ _⟩
  have HV := Lib.hid (gcdV_of (a := a) (b := b) (by omega) (by omega))
  have ha' : (a == -9223372036854775808) = false := by simpa using ha
  have hb' : (b == -9223372036854775808) = false := by simpa using hb
  go_enter Try.func107, Try.ntmps107
  go_wp2
  go_loopw [0, 1] (fun p q wr => ∃ x y : Int, p = .int .i64 x ∧ q = .int .i64 y ∧ -9223372036854775808 < x ∧ x ≤ 9223372036854775807 ∧ -9223372036854775808 < y ∧ y ≤ 9223372036854775807 ∧ Hid (Nat.gcd x.natAbs y.natAbs = Nat.gcd a.natAbs b.natAbs) ∧ Below w.heap.size w wr) (fun _ q _ => (intOf q).natAbs)
  case atStart => exact ⟨a, b, rfl, rfl, by omega, by omega, by omega, by omega, rfl, Below.refl _ _⟩
  case round =>
    obtain ⟨x, y, rfl, rfl, hx0, hx1, hy0, hy1, hh, hB⟩ := hrel
    by_cases hy : y = 0
    · subst hy
      have hx := hh.out.symm
      rw [Int.natAbs_zero, Nat.gcd_zero_right] at hx
      have HX := Lib.hid hx; clear hx
      go_wp2
      all_goals
        go_ret
        exact ⟨ret_i (by rw [HV.out, HX.out]; omega), hB⟩
    · obtain ⟨t1, t2, t3⟩ := tmod_facts x y hy
      have hg := gcd_turn x y
      have hlt : (x.tmod y).natAbs < y.natAbs := by omega
      have hy' : (y == 0) = false := by simpa using hy
      have hg := Lib.hid (hg.trans hh.out)
      have T1 := Lib.hid t1
      clear t1 hy
      go_wp2
      go_quiet (fail)
      go_wp2
      go_roundw
      case rel => exact ⟨y, x.tmod y, rfl, rfl, by omega, by omega, by omega, by omega, hg, below_draws hB _⟩
      case measure => have := T1.out; simp [intOf]; omega

theorem spec_turn (x y : Int) (w : World) (hy : y ≠ 0) (_h1 : -9223372036854775808 < x.tmod y) (_h2 : x.tmod y ≤ 9223372036854775807) :
    Calls Try.prog 125 #[.int .i64 x, .int .i64 y] w fun e w' => e = .returned (.tuple #[.int .i64 y, .int .i64 (x.tmod y)]) ∧ Below w.heap.size w w' := by
  have hy' : (y == 0) = false := by simpa using hy
  go_enter Try.func125, Try.ntmps125
  go_wp2
  go_quiet (fail)
  go_wp2
  go_ret2
  exact ⟨rfl, below_draws (Below.refl _ _) _⟩

set_option maxHeartbeats 800000 in
theorem spec_gcd (a b : Int) (w : World) (ha0 : -9223372036854775808 ≤ a) (ha1 : a ≤ 9223372036854775807) (hb0 : -9223372036854775808 ≤ b) (hb1 : b ≤ 9223372036854775807) :
    Calls Try.prog 116 #[.int .i64 a, .int .i64 b] w fun e w' => e = .returned (.int .i64 (gcdV a b)) ∧ Below w.heap.size w w' := by
  by_cases ha : a < -9223372036854775807
  · have HV := Lib.hid (gcdV_min (a := a) (b := b) (Or.inl (by omega)))
    go_enter Try.func116, Try.ntmps116
    go_wp2
    go_ret
    exact ⟨ret_i HV.out.symm, Below.refl _ _⟩
  by_cases hb : b < -9223372036854775807
  · have HV := Lib.hid (gcdV_min (a := a) (b := b) (Or.inr (by omega)))
    have hb' : decide (b < -9223372036854775807) = true := by simpa using hb
    have ha' : decide (a < -9223372036854775807) = false := by simpa using ha
    clear ha
    go_enter Try.func116, Try.ntmps116
    go_wp2
    go_ret
    exact ⟨ret_i HV.out.symm, Below.refl _ _⟩
  have HV := Lib.hid (gcdV_of (a := a) (b := b) (by omega) (by omega))
  have ha' : decide (a < -9223372036854775807) = false := by simpa using ha
  have hb' : decide (b < -9223372036854775807) = false := by simpa using hb
  go_enter Try.func116, Try.ntmps116
  go_wp2
  all_goals
    go_loopw [0, 1, 21] (fun p q _ wr => ∃ x y : Int, p = .int .i64 x ∧ q = .int .i64 y ∧ 0 ≤ x ∧ x ≤ 9223372036854775807 ∧ 0 ≤ y ∧ y ≤ 9223372036854775807 ∧ Hid (Nat.gcd x.natAbs y.natAbs = Nat.gcd a.natAbs b.natAbs) ∧ Below w.heap.size w wr) (fun _ q _ _ => (intOf q).natAbs)
    case atStart => exact ⟨_, _, rfl, rfl, by omega, by omega, by omega, by omega, Lib.hid (by simp only [Int.natAbs_neg]), Below.refl _ _⟩
    case round =>
      obtain ⟨x, y, rfl, rfl, hx0, hx1, hy0, hy1, hh, hB⟩ := hrel
      by_cases hy : y = 0
      · subst hy
        have hx := hh.out.symm
        rw [Int.natAbs_zero, Nat.gcd_zero_right] at hx
        have HX := Lib.hid hx; clear hx
        go_wp2
        go_ret
        exact ⟨ret_i (by rw [HV.out, HX.out]; omega), hB⟩
      · obtain ⟨t1, t2, t3⟩ := tmod_facts x y hy
        have t4 : 0 ≤ x.tmod y := Int.tmod_nonneg _ hx0
        have hg := gcd_turn x y
        have hy' : (y == 0) = false := by simpa using hy
        have hg := Lib.hid (hg.trans hh.out)
        have hlt : (x.tmod y).natAbs < y.natAbs := by omega
        have T1 := Lib.hid t1
        clear t1
        go_wp2_with fail
        refine (spec_turn x y _ hy (by omega) (by omega)).mono ?_
        rintro e w1 ⟨rfl, B1⟩
        go_wp2
        go_roundw
        case rel => exact ⟨y, x.tmod y, rfl, by rw [Int.tmod_eq_emod_of_nonneg hx0], by omega, by omega, by omega, by omega, hg, hB.trans (B1.mono hB.size)⟩
        case measure =>
          have h1 := Int.emod_lt_of_pos x (b := y) (by omega)
          have h2 := Int.emod_nonneg x hy
          simp [intOf]; omega
end Go.Proofs.Ytaececpphdaciaa
