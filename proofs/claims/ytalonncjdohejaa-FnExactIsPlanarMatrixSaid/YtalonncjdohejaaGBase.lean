/-
  Small facts on what a call leaves as it was.
  GcdOf, in the model and in the program: the greatest common divisor of the magnitudes.
-/
import Derived.Test.YtalonncjdohejaaRows
import Derived.WalkKit
import Derived.WalkSpells
import Derived.WalkLawsBesides
import Derived.Lib.Hide
import Derived.Outline
import Derived.Deep.QuietTactic
import Derived.BigQuiet
import Derived.IntWalk
namespace Go.Proofs.Ytalonncjdohejaa
open Go.RowKit

theorem ret_str {a b : ByteArray} (h : a = b) : Ending.returned (.string a) = .returned (.string b) := by rw [h]

theorem bcell {W w1 : World} (hb : Below W.heap.size W w1) : (∀ b o, b < W.heap.size → w1.cell? ⟨b, o, none⟩ = W.cell? ⟨b, o, none⟩) ∧ (∀ b o, b < W.heap.size → w1.frozen? ⟨b, o, none⟩ = W.frozen? ⟨b, o, none⟩) :=
  ⟨fun b o h => hb.cell (p := ⟨b, o, none⟩) h, fun b o h => hb.frozen (p := ⟨b, o, none⟩) h⟩
end Go.Proofs.Ytalonncjdohejaa

namespace Go.Proofs.Ytalonncjdohejaa
open Go.RowKit

theorem ret_i {a b : Int} (h : a = b) : Ending.returned (.int .i64 a) = .returned (.int .i64 b) := by rw [h]
theorem ret_b {a b : Bool} (h : a = b) : Ending.returned (.bool a) = .returned (.bool b) := by rw [h]
/-- What GcdOf answers. -/
def gcdV (a b : Int) : Int := if a = -9223372036854775808 ∨ b = -9223372036854775808 then 0 else (Nat.gcd a.natAbs b.natAbs : Nat)
theorem gcdV_min {a b : Int} (h : a = -9223372036854775808 ∨ b = -9223372036854775808) : gcdV a b = 0 := if_pos h
theorem gcdV_of {a b : Int} (ha : -9223372036854775808 < a) (hb : -9223372036854775808 < b) : gcdV a b = (Nat.gcd a.natAbs b.natAbs : Nat) := by
  unfold gcdV; rw [if_neg (by omega)]
theorem tmod_facts (x y : Int) (hy : y ≠ 0) : (x.tmod y).natAbs = x.natAbs % y.natAbs ∧ -(y.natAbs : Int) < x.tmod y ∧ x.tmod y < y.natAbs := by
  have h1 : (x.tmod y).natAbs = x.natAbs % y.natAbs := Int.natAbs_tmod x y
  have h2 : x.natAbs % y.natAbs < y.natAbs := Nat.mod_lt _ (by omega)
  exact ⟨h1, by omega, by omega⟩
theorem gcd_turn (x y : Int) : Nat.gcd y.natAbs (x.tmod y).natAbs = Nat.gcd x.natAbs y.natAbs := by
  rw [Int.natAbs_tmod, Nat.gcd_comm y.natAbs, ← Nat.gcd_rec, Nat.gcd_comm]
theorem below_draws {B : Nat} {a w : World} (h : Below B a w) (n : Nat) : Below B a (w.drewN n) := ⟨h.os, h.tape, h.output, h.size, h.block⟩
theorem abs_max (x : Int) : (if x < -x then -x else x) = (x.natAbs : Int) := by split <;> omega

end Go.Proofs.Ytalonncjdohejaa
