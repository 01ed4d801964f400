/-
  A valid network has a tree: the minor without a node is positive.
-/
import Derived.Test.YtnbbmpilpeakiaaKirchhoff
namespace Go.Proofs.Ytnbbmpilpeakiaa
open Go.RowKit

/-- A matrix of a network without one node: no positive entry beside the diagonal, no negative row sum, every node joined with one whose row sum is positive. -/
structure MM (k : Nat) (A : Nat → Nat → Int) : Prop where
  sym : ∀ i j, A i j = A j i
  off : ∀ i j, i < k → j < k → i ≠ j → A i j ≤ 0
  row : ∀ i, i < k → 0 ≤ sumN (fun j => A i j) k
  conn : ∀ S : Nat → Prop, (∀ i, i < k → 0 < sumN (fun j => A i j) k → S i) → (∀ i j, i < k → j < k → A i j < 0 → (S i ↔ S j)) → ∀ i, i < k → S i
theorem sumN_le_zero {f : Nat → Int} : ∀ n, (∀ k, k < n → f k ≤ 0) → sumN f n ≤ 0 ∧ (sumN f n = 0 → ∀ k, k < n → f k = 0)
  | 0, _ => ⟨Int.le_refl _, fun _ k hk => absurd hk (by omega)⟩
  | n + 1, h => by
    obtain ⟨h1, h2⟩ := sumN_le_zero n (fun k hk => h k (by omega))
    have h3 := h n (by omega)
    have e : sumN f (n + 1) = sumN f n + f n := rfl
    refine ⟨by omega, fun h0 k hk => ?_⟩
    by_cases hkn : k = n
    · subst hkn; omega
    · exact h2 (by omega) k (by omega)
theorem MM.pivot {k : Nat} {A : Nat → Nat → Int} (h : MM (k + 1) A) : 0 < A k k := by
  have e : sumN (fun j => A k j) (k + 1) = sumN (fun j => A k j) k + A k k := rfl
  have hr := h.row k (by omega)
  obtain ⟨h1, h2⟩ := sumN_le_zero (f := fun j => A k j) k (fun j hj => h.off k j (by omega) (by omega) (by omega))
  by_cases hp : 0 < A k k
  · exact hp
  · exfalso
    have hz : sumN (fun j => A k j) k = 0 := by omega
    have hs := h.conn (fun i => i ≠ k) (fun i hi hri e' => by subst e'; omega) (fun i j hi hj hij => by
      constructor
      · intro hik hjk
        subst hjk
        have := h2 hz i (by omega)
        rw [h.sym] at hij
        omega
      · intro hjk hik
        subst hik
        have := h2 hz j (by omega)
        omega) k (by omega)
    exact hs rfl
theorem prod_nonneg {a b : Int} (ha : a ≤ 0) (hb : b ≤ 0) : 0 ≤ a * b := by
  have := Int.mul_nonneg (show 0 ≤ -a by omega) (show 0 ≤ -b by omega)
  rwa [Int.neg_mul_neg] at this
theorem MM.step {k : Nat} {A : Nat → Nat → Int} (h : MM (k + 1) A) : MM k (fun i j => A k k * A i j - A i k * A k j) := by
  have hp := h.pivot
  have hrow : ∀ i, i < k → sumN (fun j => A k k * A i j - A i k * A k j) k = A k k * sumN (fun j => A i j) (k + 1) - A i k * sumN (fun j => A k j) (k + 1) := fun i hi => by
    have e1 : sumN (fun j => A i j) (k + 1) = sumN (fun j => A i j) k + A i k := rfl
    have e2 : sumN (fun j => A k j) (k + 1) = sumN (fun j => A k j) k + A k k := rfl
    have e3 : sumN (fun j => A k k * A i j) k = sumN (fun j => A i j) k * A k k := by rw [← sumN_mul]; exact sumN_ext k fun j _ => Int.mul_comm _ _
    have e4 : sumN (fun j => A i k * A k j) k = sumN (fun j => A k j) k * A i k := by rw [← sumN_mul]; exact sumN_ext k fun j _ => Int.mul_comm _ _
    rw [sumN_sub, e1, e2, e3, e4]; grind
  have hneg : ∀ i, i < k → 0 ≤ -(A i k * sumN (fun j => A k j) (k + 1)) := fun i hi => by
    have h1 := h.off i k (by omega) (by omega) (by omega)
    have h2 := h.row k (by omega)
    have := Int.mul_nonneg (show 0 ≤ -A i k by omega) h2
    rw [Int.neg_mul] at this; exact this
  have hpos : ∀ i, i < k → 0 ≤ A k k * sumN (fun j => A i j) (k + 1) := fun i hi => Int.mul_nonneg (by omega) (h.row i (by omega))
  have hent : ∀ i j, i < k → j < k → i ≠ j → A k k * A i j ≤ 0 ∧ 0 ≤ A i k * A k j := fun i j hi hj hij => by
    have h1 := h.off i j (by omega) (by omega) hij
    have h2 := Int.mul_nonneg (show 0 ≤ A k k by omega) (show 0 ≤ -A i j by omega)
    rw [Int.mul_neg] at h2
    exact ⟨by omega, prod_nonneg (h.off i k (by omega) (by omega) (by omega)) (h.off k j (by omega) (by omega) (by omega))⟩
  refine ⟨fun i j => by rw [h.sym i j, h.sym i k, h.sym k j, Int.mul_comm (A k i)], fun i j hi hj hij => ?_, fun i hi => ?_, fun S h1 h2 i hi => ?_⟩
  · have := hent i j hi hj hij; omega
  · rw [hrow i hi]; have := hneg i hi; have := hpos i hi; omega
  · have hS := h.conn (fun i => if i < k then S i else (0 < sumN (fun j => A k j) (k + 1) ∨ ∃ j, j < k ∧ A k j < 0 ∧ S j)) (fun i hi hr => ?_) (fun i j hi hj hij => ?_) i (by omega)
    · rw [if_pos hi] at hS; exact hS
    · by_cases hik : i < k
      · rw [if_pos hik]
        refine h1 i hik ?_
        rw [hrow i hik]
        have := hneg i hik
        have := Int.mul_pos hp hr
        omega
      · rw [if_neg hik]
        have : i = k := by omega
        subst this
        exact .inl hr
    · have side : ∀ i, i < k → A i k < 0 → (S i ↔ (0 < sumN (fun j => A k j) (k + 1) ∨ ∃ j, j < k ∧ A k j < 0 ∧ S j)) := fun i hik hneg' => by
        constructor
        · intro hs; exact .inr ⟨i, hik, by rw [h.sym]; exact hneg', hs⟩
        · rintro (hr | ⟨j, hj, hkj, hs⟩)
          · refine h1 i hik ?_
            rw [hrow i hik]
            have := hpos i hik
            have h3 := Int.mul_pos (show 0 < -A i k by omega) hr
            rw [Int.neg_mul] at h3
            omega
          · by_cases e : i = j
            · subst e; exact hs
            · refine (h2 i j hik hj ?_).2 hs
              have := hent i j hik hj e
              have h3 := Int.mul_pos (show 0 < -A i k by omega) (show 0 < -A k j by omega)
              rw [Int.neg_mul_neg] at h3
              omega
      by_cases hik : i < k
      · by_cases hjk : j < k
        · rw [if_pos hik, if_pos hjk]
          by_cases e : i = j
          · subst e; exact Iff.rfl
          · refine h2 i j hik hjk ?_
            have := hent i j hik hjk e
            have h3 := Int.mul_pos hp (show 0 < -A i j by omega)
            rw [Int.mul_neg] at h3
            omega
        · have : j = k := by omega
          subst this
          rw [if_pos hik, if_neg (by omega)]
          exact side i hik hij
      · have : i = k := by omega
        subst this
        by_cases hjk : j < i
        · rw [if_neg (by omega), if_pos hjk]
          exact (side j hjk (by rw [h.sym]; exact hij)).symm
        · rw [if_neg (by omega), if_neg hjk]
def D1 (A : Nat → Nat → Int) : Int := A 0 0
def D2 (A : Nat → Nat → Int) : Int := A 0 0 * A 1 1 - A 0 1 * A 1 0
def D3 (A : Nat → Nat → Int) : Int := A 0 0 * (A 1 1 * A 2 2 - A 1 2 * A 2 1) - A 0 1 * (A 1 0 * A 2 2 - A 1 2 * A 2 0) + A 0 2 * (A 1 0 * A 2 1 - A 1 1 * A 2 0)
def D4 (A : Nat → Nat → Int) : Int :=
  A 0 0 * (A 1 1 * (A 2 2 * A 3 3 - A 2 3 * A 3 2) - A 1 2 * (A 2 1 * A 3 3 - A 2 3 * A 3 1) + A 1 3 * (A 2 1 * A 3 2 - A 2 2 * A 3 1))
  - A 0 1 * (A 1 0 * (A 2 2 * A 3 3 - A 2 3 * A 3 2) - A 1 2 * (A 2 0 * A 3 3 - A 2 3 * A 3 0) + A 1 3 * (A 2 0 * A 3 2 - A 2 2 * A 3 0))
  + A 0 2 * (A 1 0 * (A 2 1 * A 3 3 - A 2 3 * A 3 1) - A 1 1 * (A 2 0 * A 3 3 - A 2 3 * A 3 0) + A 1 3 * (A 2 0 * A 3 1 - A 2 1 * A 3 0))
  - A 0 3 * (A 1 0 * (A 2 1 * A 3 2 - A 2 2 * A 3 1) - A 1 1 * (A 2 0 * A 3 2 - A 2 2 * A 3 0) + A 1 2 * (A 2 0 * A 3 1 - A 2 1 * A 3 0))
theorem D1_pos {A : Nat → Nat → Int} (h : MM 1 A) : 0 < D1 A := h.pivot
theorem D2_pos {A : Nat → Nat → Int} (h : MM 2 A) : 0 < D2 A := by
  have := D1_pos h.step
  unfold D1 at this
  unfold D2
  have e : A 0 0 * A 1 1 - A 0 1 * A 1 0 = A 1 1 * A 0 0 - A 0 1 * A 1 0 := by grind
  rw [e]; exact this
theorem pos_of_mul {a b : Int} (ha : 0 < a) (h : 0 < a * b) : 0 < b := by
  rcases Int.lt_trichotomy b 0 with hb | hb | hb
  · have := Int.mul_neg_of_pos_of_neg ha hb; omega
  · rw [hb, Int.mul_zero] at h; omega
  · exact hb
theorem D3_pos {A : Nat → Nat → Int} (h : MM 3 A) : 0 < D3 A := by
  have h2 := D2_pos h.step
  have hp := h.pivot
  refine pos_of_mul hp ?_
  have e : A 2 2 * D3 A = D2 (fun i j => A 2 2 * A i j - A i 2 * A 2 j) := by unfold D3 D2; grind
  rw [e]; exact h2
theorem D4_pos {A : Nat → Nat → Int} (h : MM 4 A) : 0 < D4 A := by
  have h2 := D3_pos h.step
  have hp := h.pivot
  refine pos_of_mul hp (pos_of_mul hp ?_)
  have e : A 3 3 * (A 3 3 * D4 A) = D3 (fun i j => A 3 3 * A i j - A i 3 * A 3 j) := by unfold D4 D3; grind
  rw [e]; exact h2
end Go.Proofs.Ytnbbmpilpeakiaa
