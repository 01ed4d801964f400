/-
  What is asked of a matrix and of a list of its rows or columns, in the model and in the program.
-/
import Derived.Test.YtnbbmpilpeakiaaMat
import Derived.Test.YtnbbmpilpeakiaaAllReached
namespace Go.Proofs.Ytnbbmpilpeakiaa
open Go.RowKit

def rowV (n : Nat) (r : List Int) : Prop := r.length = n ∧ ∀ k (h : k < r.length), -1000 ≤ r[k] ∧ r[k] ≤ 1000
/-- A matrix that is taken: at most five rows, each as long as there are rows, entries between -1000 and 1000. -/
def matV (m : MatI) : Prop := m.length ≤ 5 ∧ ∀ k (h : k < m.length), rowV m.length m[k]
noncomputable def matB (m : MatI) : Bool := @decide (matV m) (Classical.propDecidable _)
theorem matB_yes {m : MatI} (h : matV m) : matB m = true := by simp [matB, h]
theorem matB_no {m : MatI} (h : ¬ matV m) : matB m = false := by simp [matB, h]
theorem matB_iff {m : MatI} : matB m = true ↔ matV m := by simp [matB]
/-- The first row that is not taken, or none. -/
theorem first_row (m : MatI) : ∃ k0, k0 ≤ m.length ∧ (∀ k, (h : k < m.length) → k < k0 → rowV m.length m[k]) ∧ (∀ h : k0 < m.length, ¬ rowV m.length m[k0]) := by
  by_cases hx : ∃ k, ∃ h : k < m.length, ¬ rowV m.length m[k]
  · obtain ⟨k, hk⟩ := hx
    obtain ⟨k0, ⟨h0, h1⟩, hmin⟩ := least (fun k => ∃ h : k < m.length, ¬ rowV m.length m[k]) k hk
    exact ⟨k0, by omega, fun k h hk => Classical.byContradiction fun hn => hmin k hk ⟨h, hn⟩, fun _ => h1⟩
  · exact ⟨m.length, Nat.le_refl _, fun k h _ => Classical.byContradiction fun hn => hx ⟨k, h, hn⟩, fun h => absurd h (by omega)⟩
/-- The first entry that is not taken. -/
theorem first_entry (n : Nat) (r : List Int) (h : ¬ rowV n r) (hl : r.length = n) : ∃ k0, ∃ h : k0 < r.length, ¬ (-1000 ≤ r[k0] ∧ r[k0] ≤ 1000) ∧ ∀ k, (hk : k < k0) → -1000 ≤ r[k] ∧ r[k] ≤ 1000 := by
  have hx : ∃ k, ∃ h : k < r.length, ¬ (-1000 ≤ r[k] ∧ r[k] ≤ 1000) := Classical.byContradiction fun hn => h ⟨hl, fun k hk => Classical.byContradiction fun hh => hn ⟨k, hk, hh⟩⟩
  obtain ⟨k, hk⟩ := hx
  obtain ⟨k0, ⟨h0, h1⟩, hmin⟩ := least (fun k => ∃ h : k < r.length, ¬ (-1000 ≤ r[k] ∧ r[k] ≤ 1000)) k hk
  exact ⟨k0, h0, h1, fun k hk => Classical.byContradiction fun hn => hmin k hk ⟨by omega, hn⟩⟩

end Go.Proofs.Ytnbbmpilpeakiaa
