/-
  The resistance is symmetric, 0 only between equal nodes, never more than the way round; potentials are the same the other way round.
-/
import Derived.Test.YtaececpphdaciaaMaxPrin
import Derived.Test.YtaececpphdaciaaGap
import Derived.Test.YtaececpphdaciaaGPots
namespace Go.Proofs.Ytaececpphdaciaa
open Go.RowKit

theorem resR_comm {n e s : Int} {ws : List W3} {a b : Int} : resR n e s ws a b = resR n e s ws b a := by
  unfold resR
  by_cases h : netB n e s ws = true ∧ 0 ≤ a ∧ a < n ∧ 0 ≤ b ∧ b < n
  · rw [if_pos h, if_pos ⟨h.1, h.2.2.2.1, h.2.2.2.2, h.2.1, h.2.2.1⟩, forest_comm]
  · rw [if_neg h, if_neg (fun g => h ⟨g.1, g.2.2.2.1, g.2.2.2.2, g.2.1, g.2.2.1⟩)]
/-- The numerator has the sign of what is divided. -/
theorem rOf_sign {n d : Int} (hd : 0 < d) (n0 : n.natAbs ≤ 1000000000000000000) (d0 : d ≤ 1000000000000000) : (0 ≤ n → 0 ≤ rOfN n d) ∧ (rOfN n d = 0 ↔ n = 0) := by
  have h := rOf_isP hd n0 d0
  have hq := h.pos
  have hx := h.2.2
  refine ⟨fun hn => ?_, fun hz => ?_, fun hz => ?_⟩
  · by_cases hneg : 0 ≤ rOfN n d
    · exact hneg
    · have h1 : rOfN n d * d < 0 := Int.mul_neg_of_neg_of_pos (by omega) hd
      have h2 : 0 ≤ n * rOfD n d := Int.mul_nonneg hn (by omega)
      omega
  · rw [hz, Int.zero_mul] at hx
    rcases Int.mul_eq_zero.1 hx.symm with h1 | h1 <;> omega
  · rw [hz, Int.zero_mul] at hx
    rcases Int.mul_eq_zero.1 hx with h1 | h1
    · rw [hz]; exact h1
    · omega
theorem tree_facts {N : Nat} {e s : Int} {ws : List W3} (hb : netB N e s ws = true) : 0 < treeR N e s ws ∧ treeR N e s ws ≤ 1000000000000000 := by
  have h1 := tree_pos hb
  have h2 := tree_range N e s ws
  omega
theorem forest_pos {N : Nat} {e s : Int} {ws : List W3} (hb : netB N e s ws = true) (a b : Nat) (ha : a < N) (hb' : b < N) : 0 ≤ forestR N e s ws a b ∧ (forestR N e s ws a b = 0 ↔ a = b) := by
  rw [forest_forD hb a b ha hb']
  by_cases h : a = b
  · subst h
    unfold forD
    rw [if_pos rfl]
    exact ⟨Int.le_refl _, fun _ => rfl, fun _ => rfl⟩
  · have hp := pot_pos hb a b ha hb' h
    rw [potI_self _ _ _ _ h] at hp
    exact ⟨by omega, fun h0 => by omega, fun h0 => absurd h0 h⟩
theorem scale_pos {N : Nat} {e s : Int} {ws : List W3} (hb : netB N e s ws = true) : 1 ≤ s ∧ s ≤ 1000 := net_scale hb
theorem scaled_abs {s x : Int} (h1 : 1 ≤ s) (h2 : s ≤ 1000) (h3 : -18000000000 ≤ x) (h4 : x ≤ 18000000000) : (s * x).natAbs ≤ 1000000000000000000 := by
  have := scale_le h1 h2 h3 h4
  omega
/-- The resistance is 0 just between equal nodes. -/
theorem res_zero {N : Nat} {e s : Int} {ws : List W3} (hb : netB N e s ws = true) (a b : Nat) (ha : a < N) (hb' : b < N) : ((resR N e s ws a b).1 = 0 ↔ a = b) ∧ (resR N e s ws a b).2.2 = true := by
  obtain ⟨t1, t2⟩ := tree_facts hb
  obtain ⟨s1, s2⟩ := scale_pos hb
  obtain ⟨f1, f2⟩ := forest_range N e s ws a b
  have e1 : resR N e s ws a b = (rOfN (s * forestR N e s ws a b) (treeR N e s ws), rOfD (s * forestR N e s ws a b) (treeR N e s ws), true) := by unfold resR; rw [if_pos ⟨hb, by omega⟩]
  rw [e1]
  have hs := (rOf_sign t1 (scaled_abs s1 s2 (x := forestR N e s ws a b) (by omega) (by omega)) t2).2
  have hz := (forest_pos hb a b ha hb').2
  refine ⟨?_, rfl⟩
  show rOfN (s * forestR N e s ws a b) (treeR N e s ws) = 0 ↔ a = b
  rw [hs, Int.mul_eq_zero, hz]
  exact ⟨fun h => h.resolve_left (by omega), fun h => .inr h⟩
/-- The way round is never shorter. -/
theorem gap_nonneg {N : Nat} {e s : Int} {ws : List W3} (hb : netB N e s ws = true) (a b c : Nat) (ha : a < N) (hb' : b < N) (hc : c < N) : 0 ≤ gapF N e s ws a b c ∧ (a = b ∨ b = c → gapF N e s ws a b c = 0) := by
  by_cases hab : a = b
  · subst hab
    have : gapF N e s ws a a c = 0 := by unfold gapF; rw [forest_same]; omega
    exact ⟨by omega, fun _ => this⟩
  obtain ⟨_, h5, hw⟩ := net_nat hb
  have hp := pot_nonneg hb a b c ha hb' hc hab
  have hs := side_pot hw h5 a b c ha hb' hc hab
  rw [← forest_forD hb a b ha hb', ← forest_forD hb c b hc hb', ← forest_forD hb a c ha hc, forest_comm (a := (c : Int))] at hs
  have e1 : gapF N e s ws a b c = 2 * potI (lapM N ws) N a b c := hs
  refine ⟨by omega, fun h => ?_⟩
  rcases h with h | h
  · exact absurd h hab
  · subst h
    rw [e1]
    unfold potI
    rw [if_pos rfl]
    rfl
theorem gap_sign {N : Nat} {e s : Int} {ws : List W3} (hb : netB N e s ws = true) (a b c : Nat) (ha : a < N) (hb' : b < N) (hc : c < N) : 0 ≤ (gapR N e s ws a b c).1 ∧ (a = b ∨ b = c → (gapR N e s ws a b c).1 = 0) ∧ (gapR N e s ws a b c).2.2 = true := by
  obtain ⟨t1, t2⟩ := tree_facts hb
  obtain ⟨s1, s2⟩ := scale_pos hb
  obtain ⟨f1, f2⟩ := gap_range N e s ws a b c
  have e1 : gapR N e s ws a b c = (rOfN (s * gapF N e s ws a b c) (treeR N e s ws), rOfD (s * gapF N e s ws a b c) (treeR N e s ws), true) := by unfold gapR; rw [if_pos ⟨hb, by omega, by omega, by omega⟩]
  obtain ⟨g1, g2⟩ := gap_nonneg hb a b c ha hb' hc
  obtain ⟨h1, h2⟩ := rOf_sign t1 (scaled_abs s1 s2 (x := gapF N e s ws a b c) (by omega) (by omega)) t2
  rw [e1]
  refine ⟨h1 (Int.mul_nonneg (by omega) g1), fun h => h2.2 (by rw [g2 h, Int.mul_zero]), rfl⟩
/-- The potential at one node for a current at another one is the same the other way round. -/
theorem pot_switch {N : Nat} {e s : Int} {ws : List W3} (hb : netB N e s ws = true) (a b c : Nat) (ha : a < N) (hb' : b < N) (hc : c < N) (h1 : a ≠ c) (h2 : b ≠ c) : potAt N e s ws a c b = potAt N e s ws b c a := by
  obtain ⟨_, h5, hw⟩ := net_nat hb
  have e1 := side_pot hw h5 a c b ha hc hb' h1
  have e2 := side_pot hw h5 b c a hb' hc ha h2
  rw [forD_comm (lapM N ws) N b a] at e2
  have e3 : potI (lapM N ws) N a c b = potI (lapM N ws) N b c a := by omega
  unfold potAt
  rw [e3]
end Go.Proofs.Ytaececpphdaciaa
