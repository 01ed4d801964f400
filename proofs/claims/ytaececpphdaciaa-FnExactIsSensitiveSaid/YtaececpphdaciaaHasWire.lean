/-
  hasWire in the program.
-/
import Derived.Test.YtaececpphdaciaaGNet
import Derived.Below
namespace Go.Proofs.Ytaececpphdaciaa
open Go.RowKit

theorem hasWire_any (n e s i : Int) (v : Value) (ws : List W3) (w : World) (hr : ReadsW w v ws) :
    Calls Try.prog 54 #[.agg #[.int .i64 n, .int .i64 e, .int .i64 s, v], .int .i64 i] w fun en w' => en = .returned (.bool (decide (0 ≤ i ∧ i < ws.length))) ∧ Below w.heap.size w w' := by
  obtain ⟨p, cap, rfl⟩ := hr.shape
  clear hr
  by_cases h1 : 0 ≤ i
  · by_cases h2 : i < (ws.length : Int)
    · rw [decide_eq_true (⟨h1, h2⟩ : 0 ≤ i ∧ i < (ws.length : Int))]
      go_enter Try.func54, Try.ntmps54
      go_wp2
      go_ret
      exact ⟨rfl, by (repeat (first | exact Below.refl _ _ | (refine Below.setCell ?_ (by (first | exact Nat.le_refl _ | omega | (simp <;> omega) | simp)) _) | (refine Below.alloc ?_ (by (first | exact Nat.le_refl _ | omega | (simp <;> omega) | simp)) _) | (refine below_draws ?_ _)))⟩
    · rw [decide_eq_false (show ¬ (0 ≤ i ∧ i < (ws.length : Int)) from fun h => h2 h.2)]
      go_enter Try.func54, Try.ntmps54
      go_wp2
      go_ret
      exact ⟨rfl, by (repeat (first | exact Below.refl _ _ | (refine Below.setCell ?_ (by (first | exact Nat.le_refl _ | omega | (simp <;> omega) | simp)) _) | (refine Below.alloc ?_ (by (first | exact Nat.le_refl _ | omega | (simp <;> omega) | simp)) _) | (refine below_draws ?_ _)))⟩
  · rw [decide_eq_false (show ¬ (0 ≤ i ∧ i < (ws.length : Int)) from fun h => h1 h.1)]
    go_enter Try.func54, Try.ntmps54
    go_wp2
    go_ret
    exact ⟨rfl, by (repeat (first | exact Below.refl _ _ | (refine Below.setCell ?_ (by (first | exact Nat.le_refl _ | omega | (simp <;> omega) | simp)) _) | (refine Below.alloc ?_ (by (first | exact Nat.le_refl _ | omega | (simp <;> omega) | simp)) _) | (refine below_draws ?_ _)))⟩
end Go.Proofs.Ytaececpphdaciaa
