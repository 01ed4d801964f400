/-
  A valid network has a tree: the minor without a node is positive.
  TreeSum of a valid network is at least 1.
  The dissipated power: a sum over the wires, and what flows off at the nodes; a bound of determinants.
-/
import Derived.Test.YtaececpphdaciaaGKir
namespace Go.Proofs.Ytaececpphdaciaa
open Go.RowKit

/-- A matrix of a network without one node: no positive entry beside the diagonal, no negative row sum, every node joined with one whose row sum is positive. -/
structure MM (k : Nat) (A : Nat → Nat → Int) : Prop where
  sym : ∀ i j, A i j = A j i
  off : ∀ i j, i < k → j < k → i ≠ j → A i j ≤ 0
  row : ∀ i, i < k → 0 ≤ sumN (fun j => A i j) k
  conn : ∀ S : Nat → Prop, (∀ i, i < k → 0 < sumN (fun j => A i j) k → S i) → (∀ i j, i < k → j < k → A i j < 0 → (S i ↔ S j)) → ∀ i, i < k → S i
theorem sumN_le_zero {f : Nat → Int} : ∀ n, (∀ k, k < n → f k ≤ 0) → sumN f n ≤ 0 ∧ (sumN f n = 0 → ∀ k, k < n → f k = 0)
  | 0, _ => ⟨Int.le_refl _, fun _ k hk => absurd hk (by omega)⟩
  | n + 1, h => by
    obtain ⟨h1, h2⟩ := sumN_le_zero n (fun k hk => h k (by omega))
    have h3 := h n (by omega)
    have e : sumN f (n + 1) = sumN f n + f n := rfl
    refine ⟨by omega, fun h0 k hk => ?_⟩
    by_cases hkn : k = n
    · subst hkn; omega
    · exact h2 (by omega) k (by omega)
theorem MM.pivot {k : Nat} {A : Nat → Nat → Int} (h : MM (k + 1) A) : 0 < A k k := by
  have e : sumN (fun j => A k j) (k + 1) = sumN (fun j => A k j) k + A k k := rfl
  have hr := h.row k (by omega)
  obtain ⟨h1, h2⟩ := sumN_le_zero (f := fun j => A k j) k (fun j hj => h.off k j (by omega) (by omega) (by omega))
  by_cases hp : 0 < A k k
  · exact hp
  · exfalso
    have hz : sumN (fun j => A k j) k = 0 := by omega
    have hs := h.conn (fun i => i ≠ k) (fun i hi hri e' => by subst e'; omega) (fun i j hi hj hij => by
      constructor
      · intro hik hjk
        subst hjk
        have := h2 hz i (by omega)
        rw [h.sym] at hij
        omega
      · intro hjk hik
        subst hik
        have := h2 hz j (by omega)
        omega) k (by omega)
    exact hs rfl
theorem prod_nonneg {a b : Int} (ha : a ≤ 0) (hb : b ≤ 0) : 0 ≤ a * b := by
  have := Int.mul_nonneg (show 0 ≤ -a by omega) (show 0 ≤ -b by omega)
  rwa [Int.neg_mul_neg] at this
theorem MM.step {k : Nat} {A : Nat → Nat → Int} (h : MM (k + 1) A) : MM k (fun i j => A k k * A i j - A i k * A k j) := by
  have hp := h.pivot
  have hrow : ∀ i, i < k → sumN (fun j => A k k * A i j - A i k * A k j) k = A k k * sumN (fun j => A i j) (k + 1) - A i k * sumN (fun j => A k j) (k + 1) := fun i hi => by
    have e1 : sumN (fun j => A i j) (k + 1) = sumN (fun j => A i j) k + A i k := rfl
    have e2 : sumN (fun j => A k j) (k + 1) = sumN (fun j => A k j) k + A k k := rfl
    have e3 : sumN (fun j => A k k * A i j) k = sumN (fun j => A i j) k * A k k := by rw [← sumN_mul]; exact sumN_ext k fun j _ => Int.mul_comm _ _
    have e4 : sumN (fun j => A i k * A k j) k = sumN (fun j => A k j) k * A i k := by rw [← sumN_mul]; exact sumN_ext k fun j _ => Int.mul_comm _ _
    rw [sumN_sub, e1, e2, e3, e4]; grind
  have hneg : ∀ i, i < k → 0 ≤ -(A i k * sumN (fun j => A k j) (k + 1)) := fun i hi => by
    have h1 := h.off i k (by omega) (by omega) (by omega)
    have h2 := h.row k (by omega)
    have := Int.mul_nonneg (show 0 ≤ -A i k by omega) h2
    rw [Int.neg_mul] at this; exact this
  have hpos : ∀ i, i < k → 0 ≤ A k k * sumN (fun j => A i j) (k + 1) := fun i hi => Int.mul_nonneg (by omega) (h.row i (by omega))
  have hent : ∀ i j, i < k → j < k → i ≠ j → A k k * A i j ≤ 0 ∧ 0 ≤ A i k * A k j := fun i j hi hj hij => by
    have h1 := h.off i j (by omega) (by omega) hij
    have h2 := Int.mul_nonneg (show 0 ≤ A k k by omega) (show 0 ≤ -A i j by omega)
    rw [Int.mul_neg] at h2
    exact ⟨by omega, prod_nonneg (h.off i k (by omega) (by omega) (by omega)) (h.off k j (by omega) (by omega) (by omega))⟩
  refine ⟨fun i j => by rw [h.sym i j, h.sym i k, h.sym k j, Int.mul_comm (A k i)], fun i j hi hj hij => ?_, fun i hi => ?_, fun S h1 h2 i hi => ?_⟩
  · have := hent i j hi hj hij; omega
  · rw [hrow i hi]; have := hneg i hi; have := hpos i hi; omega
  · have hS := h.conn (fun i => if i < k then S i else (0 < sumN (fun j => A k j) (k + 1) ∨ ∃ j, j < k ∧ A k j < 0 ∧ S j)) (fun i hi hr => ?_) (fun i j hi hj hij => ?_) i (by omega)
    · rw [if_pos hi] at hS; exact hS
    · by_cases hik : i < k
      · rw [if_pos hik]
        refine h1 i hik ?_
        rw [hrow i hik]
        have := hneg i hik
        have := Int.mul_pos hp hr
        omega
      · rw [if_neg hik]
        have : i = k := by omega
        subst this
        exact .inl hr
    · have side : ∀ i, i < k → A i k < 0 → (S i ↔ (0 < sumN (fun j => A k j) (k + 1) ∨ ∃ j, j < k ∧ A k j < 0 ∧ S j)) := fun i hik hneg' => by
        constructor
        · intro hs; exact .inr ⟨i, hik, by rw [h.sym]; exact hneg', hs⟩
        · rintro (hr | ⟨j, hj, hkj, hs⟩)
          · refine h1 i hik ?_
            rw [hrow i hik]
            have := hpos i hik
            have h3 := Int.mul_pos (show 0 < -A i k by omega) hr
            rw [Int.neg_mul] at h3
            omega
          · by_cases e : i = j
            · subst e; exact hs
            · refine (h2 i j hik hj ?_).2 hs
              have := hent i j hik hj e
              have h3 := Int.mul_pos (show 0 < -A i k by omega) (show 0 < -A k j by omega)
              rw [Int.neg_mul_neg] at h3
              omega
      by_cases hik : i < k
      · by_cases hjk : j < k
        · rw [if_pos hik, if_pos hjk]
          by_cases e : i = j
          · subst e; exact Iff.rfl
          · refine h2 i j hik hjk ?_
            have := hent i j hik hjk e
            have h3 := Int.mul_pos hp (show 0 < -A i j by omega)
            rw [Int.mul_neg] at h3
            omega
        · have : j = k := by omega
          subst this
          rw [if_pos hik, if_neg (by omega)]
          exact side i hik hij
      · have : i = k := by omega
        subst this
        by_cases hjk : j < i
        · rw [if_neg (by omega), if_pos hjk]
          exact (side j hjk (by rw [h.sym]; exact hij)).symm
        · rw [if_neg (by omega), if_neg hjk]
def D1 (A : Nat → Nat → Int) : Int := A 0 0
def D2 (A : Nat → Nat → Int) : Int := A 0 0 * A 1 1 - A 0 1 * A 1 0
def D3 (A : Nat → Nat → Int) : Int := A 0 0 * (A 1 1 * A 2 2 - A 1 2 * A 2 1) - A 0 1 * (A 1 0 * A 2 2 - A 1 2 * A 2 0) + A 0 2 * (A 1 0 * A 2 1 - A 1 1 * A 2 0)
def D4 (A : Nat → Nat → Int) : Int :=
  A 0 0 * (A 1 1 * (A 2 2 * A 3 3 - A 2 3 * A 3 2) - A 1 2 * (A 2 1 * A 3 3 - A 2 3 * A 3 1) + A 1 3 * (A 2 1 * A 3 2 - A 2 2 * A 3 1))
  - A 0 1 * (A 1 0 * (A 2 2 * A 3 3 - A 2 3 * A 3 2) - A 1 2 * (A 2 0 * A 3 3 - A 2 3 * A 3 0) + A 1 3 * (A 2 0 * A 3 2 - A 2 2 * A 3 0))
  + A 0 2 * (A 1 0 * (A 2 1 * A 3 3 - A 2 3 * A 3 1) - A 1 1 * (A 2 0 * A 3 3 - A 2 3 * A 3 0) + A 1 3 * (A 2 0 * A 3 1 - A 2 1 * A 3 0))
  - A 0 3 * (A 1 0 * (A 2 1 * A 3 2 - A 2 2 * A 3 1) - A 1 1 * (A 2 0 * A 3 2 - A 2 2 * A 3 0) + A 1 2 * (A 2 0 * A 3 1 - A 2 1 * A 3 0))
theorem D1_pos {A : Nat → Nat → Int} (h : MM 1 A) : 0 < D1 A := h.pivot
theorem D2_pos {A : Nat → Nat → Int} (h : MM 2 A) : 0 < D2 A := by
  have := D1_pos h.step
  unfold D1 at this
  unfold D2
  have e : A 0 0 * A 1 1 - A 0 1 * A 1 0 = A 1 1 * A 0 0 - A 0 1 * A 1 0 := by grind
  rw [e]; exact this
theorem pos_of_mul {a b : Int} (ha : 0 < a) (h : 0 < a * b) : 0 < b := by
  rcases Int.lt_trichotomy b 0 with hb | hb | hb
  · have := Int.mul_neg_of_pos_of_neg ha hb; omega
  · rw [hb, Int.mul_zero] at h; omega
  · exact hb
theorem D3_pos {A : Nat → Nat → Int} (h : MM 3 A) : 0 < D3 A := by
  have h2 := D2_pos h.step
  have hp := h.pivot
  refine pos_of_mul hp ?_
  have e : A 2 2 * D3 A = D2 (fun i j => A 2 2 * A i j - A i 2 * A 2 j) := by unfold D3 D2; grind
  rw [e]; exact h2
theorem D4_pos {A : Nat → Nat → Int} (h : MM 4 A) : 0 < D4 A := by
  have h2 := D3_pos h.step
  have hp := h.pivot
  refine pos_of_mul hp (pos_of_mul hp ?_)
  have e : A 3 3 * (A 3 3 * D4 A) = D3 (fun i j => A 3 3 * A i j - A i 3 * A 3 j) := by unfold D4 D3; grind
  rw [e]; exact h2
end Go.Proofs.Ytaececpphdaciaa

namespace Go.Proofs.Ytaececpphdaciaa
open Go.RowKit

theorem lapE_sym (ws : List W3) (i j : Nat) : lapE ws i j = lapE ws j i := by
  unfold lapE
  by_cases h : i = j
  · subst h; rfl
  · rw [if_neg h, if_neg (Ne.symm h), wBtw_comm]
theorem sumN_shift (f : Nat → Int) : ∀ n, sumN f (n + 1) = f 0 + sumN (fun k => f (k + 1)) n
  | 0 => by show 0 + f 0 = f 0 + 0; omega
  | n + 1 => by
    have h := sumN_shift f n
    show sumN f (n + 1) + f (n + 1) = f 0 + (sumN (fun k => f (k + 1)) n + f (n + 1))
    rw [h]; omega
theorem wBtw_mem {n : Int} {ws : List W3} (h : WiresV n ws) {e : W3} (he : e ∈ ws) : 0 < wBtw ws e.1 e.2.1 := by
  obtain ⟨v1, v2, v3, v4, v5⟩ := h.mem he
  unfold wBtw
  rw [if_neg (by omega)]
  have hb : ((e.1 == min e.1 e.2.1) && (e.2.1 == max e.1 e.2.1)) = true := by
    rw [Int.min_eq_left (by omega), Int.max_eq_right (by omega)]; simp
  cases hf : ws.find? (fun f => (f.1 == min e.1 e.2.1) && (f.2.1 == max e.1 e.2.1)) with
  | none => exact absurd hb (List.find?_eq_none.1 hf e he)
  | some f =>
    obtain ⟨u1, u2, u3, u4, u5⟩ := h.mem (List.mem_of_find?_eq_some hf)
    show 0 < f.2.2
    omega
theorem net_MM {k : Nat} {e s : Int} {ws : List W3} (hb : netB ((k + 1 : Nat) : Int) e s ws = true) : MM k (fun i j => lapE ws (i + 1) (j + 1)) := by
  obtain ⟨⟨n1, n5, -⟩, hw, hc⟩ := netB_iff.1 hb
  have hrow : ∀ i, i < k → sumN (fun j => lapE ws (i + 1) (j + 1)) k = wBtw ws ((i + 1 : Nat) : Int) ((0 : Nat) : Int) := fun i hi => by
    have h1 : sumN (fun j => lapE ws (i + 1) j) (k + 1) = 0 := by
      have e1 : sumN (fun j => lapE ws (i + 1) j) (k + 1) = sumN (fun j => (if j = i + 1 then wAt ws ((i + 1 : Nat) : Int) else 0) - wBtw ws ((i + 1 : Nat) : Int) (j : Int)) (k + 1) := sumN_ext _ fun j _ => by
        unfold lapE
        by_cases h : i + 1 = j
        · subst h; rw [if_pos rfl, if_pos rfl, wBtw_self]; omega
        · rw [if_neg h, if_neg (Ne.symm h)]; omega
      rw [e1, sumN_sub, sumN_one (i + 1) (k + 1) (by omega) (fun j _ hj => if_neg hj), if_pos rfl, wAt_sum hw (by omega) (i + 1) (by omega)]; omega
    rw [sumN_shift] at h1
    have h2 : lapE ws (i + 1) 0 = -wBtw ws ((i + 1 : Nat) : Int) ((0 : Nat) : Int) := by unfold lapE; rw [if_neg (by omega)]
    omega
  refine ⟨fun i j => lapE_sym ws _ _, fun i j hi hj hij => ?_, fun i hi => ?_, fun S h1 h2 i hi => ?_⟩
  · show lapE ws (i + 1) (j + 1) ≤ 0
    unfold lapE
    rw [if_neg (by omega)]
    have := wBtw_le hw ((i + 1 : Nat) : Int) ((j + 1 : Nat) : Int)
    omega
  · rw [hrow i hi]; exact (wBtw_le hw _ _).1
  · have key := hc ((i + 1 : Nat) : Int) (by omega) (by omega) (fun x => x = 0 ∨ ∃ j : Nat, j < k ∧ x = ((j + 1 : Nat) : Int) ∧ S j) (.inl rfl) (fun w hw' => ?_)
    · rcases key with h | ⟨j, hj, hx, hs⟩
      · omega
      · have : i = j := by omega
        subst this; exact hs
    · obtain ⟨v1, v2, v3, v4, v5⟩ := hw.mem hw'
      have hp := wBtw_mem hw hw'
      obtain ⟨q, hq⟩ : ∃ q : Nat, w.2.1 = ((q + 1 : Nat) : Int) := ⟨(w.2.1 - 1).toNat, by omega⟩
      have hqk : q < k := by omega
      by_cases h0 : w.1 = 0
      · constructor
        · intro _
          refine .inr ⟨q, hqk, hq, h1 q hqk ?_⟩
          rw [hrow q hqk, wBtw_comm, ← hq]
          rw [h0] at hp
          exact hp
        · intro _; exact .inl h0
      · obtain ⟨r, hr⟩ : ∃ r : Nat, w.1 = ((r + 1 : Nat) : Int) := ⟨(w.1 - 1).toNat, by omega⟩
        have hrk : r < k := by omega
        have hneg : lapE ws (r + 1) (q + 1) < 0 := by
          unfold lapE
          rw [if_neg (by omega), ← hr, ← hq]; omega
        have hiff := h2 r q hrk hqk hneg
        constructor
        · rintro (h | ⟨j, hj, hx, hs⟩)
          · exact absurd h h0
          · have : j = r := by omega
            subst this
            exact .inr ⟨q, hqk, hq, hiff.1 hs⟩
        · rintro (h | ⟨j, hj, hx, hs⟩)
          · omega
          · have : j = q := by omega
            subst this
            exact .inr ⟨r, hrk, hr, hiff.2 hs⟩
theorem at2_lapN {N : Nat} (ws : List W3) (i j : Nat) (hi : i < N) (hj : j < N) (x y : Int) (hx : x = i) (hy : y = j) : at2 (lapM N ws) x y = lapE ws i j := by
  subst hx; subst hy; exact at2_lap ws hi hj
theorem minI_D1 (ws : List W3) : minI (lapM 2 ws) 2 0 = D1 (fun i j => lapE ws (i + 1) (j + 1)) := by
  have h : minI (lapM 2 ws) 2 0 = detD (lapM 2 ws) [1] [1] := by unfold minI; rw [show woL 2 [((0 : Nat) : Int)] = [1] by decide]
  rw [h, det1]
  rw [at2_lapN ws 1 1 (by omega) (by omega) 1 1 rfl rfl]
  unfold D1; rfl
theorem minI_D2 (ws : List W3) : minI (lapM 3 ws) 3 0 = D2 (fun i j => lapE ws (i + 1) (j + 1)) := by
  have h : minI (lapM 3 ws) 3 0 = detD (lapM 3 ws) [1, 2] [1, 2] := by unfold minI; rw [show woL 3 [((0 : Nat) : Int)] = [1, 2] by decide]
  rw [h, det2]
  rw [at2_lapN ws 1 1 (by omega) (by omega) 1 1 rfl rfl]
  rw [at2_lapN ws 1 2 (by omega) (by omega) 1 2 rfl rfl]
  rw [at2_lapN ws 2 1 (by omega) (by omega) 2 1 rfl rfl]
  rw [at2_lapN ws 2 2 (by omega) (by omega) 2 2 rfl rfl]
  unfold D2; rfl
theorem minI_D3 (ws : List W3) : minI (lapM 4 ws) 4 0 = D3 (fun i j => lapE ws (i + 1) (j + 1)) := by
  have h : minI (lapM 4 ws) 4 0 = detD (lapM 4 ws) [1, 2, 3] [1, 2, 3] := by unfold minI; rw [show woL 4 [((0 : Nat) : Int)] = [1, 2, 3] by decide]
  rw [h, det3]
  rw [at2_lapN ws 1 1 (by omega) (by omega) 1 1 rfl rfl]
  rw [at2_lapN ws 1 2 (by omega) (by omega) 1 2 rfl rfl]
  rw [at2_lapN ws 1 3 (by omega) (by omega) 1 3 rfl rfl]
  rw [at2_lapN ws 2 1 (by omega) (by omega) 2 1 rfl rfl]
  rw [at2_lapN ws 2 2 (by omega) (by omega) 2 2 rfl rfl]
  rw [at2_lapN ws 2 3 (by omega) (by omega) 2 3 rfl rfl]
  rw [at2_lapN ws 3 1 (by omega) (by omega) 3 1 rfl rfl]
  rw [at2_lapN ws 3 2 (by omega) (by omega) 3 2 rfl rfl]
  rw [at2_lapN ws 3 3 (by omega) (by omega) 3 3 rfl rfl]
  unfold D3; rfl
theorem minI_D4 (ws : List W3) : minI (lapM 5 ws) 5 0 = D4 (fun i j => lapE ws (i + 1) (j + 1)) := by
  have h : minI (lapM 5 ws) 5 0 = detD (lapM 5 ws) [1, 2, 3, 4] [1, 2, 3, 4] := by unfold minI; rw [show woL 5 [((0 : Nat) : Int)] = [1, 2, 3, 4] by decide]
  rw [h, det4, det3, det3, det3, det3]
  rw [at2_lapN ws 1 1 (by omega) (by omega) 1 1 rfl rfl]
  rw [at2_lapN ws 1 2 (by omega) (by omega) 1 2 rfl rfl]
  rw [at2_lapN ws 1 3 (by omega) (by omega) 1 3 rfl rfl]
  rw [at2_lapN ws 1 4 (by omega) (by omega) 1 4 rfl rfl]
  rw [at2_lapN ws 2 1 (by omega) (by omega) 2 1 rfl rfl]
  rw [at2_lapN ws 2 2 (by omega) (by omega) 2 2 rfl rfl]
  rw [at2_lapN ws 2 3 (by omega) (by omega) 2 3 rfl rfl]
  rw [at2_lapN ws 2 4 (by omega) (by omega) 2 4 rfl rfl]
  rw [at2_lapN ws 3 1 (by omega) (by omega) 3 1 rfl rfl]
  rw [at2_lapN ws 3 2 (by omega) (by omega) 3 2 rfl rfl]
  rw [at2_lapN ws 3 3 (by omega) (by omega) 3 3 rfl rfl]
  rw [at2_lapN ws 3 4 (by omega) (by omega) 3 4 rfl rfl]
  rw [at2_lapN ws 4 1 (by omega) (by omega) 4 1 rfl rfl]
  rw [at2_lapN ws 4 2 (by omega) (by omega) 4 2 rfl rfl]
  rw [at2_lapN ws 4 3 (by omega) (by omega) 4 3 rfl rfl]
  rw [at2_lapN ws 4 4 (by omega) (by omega) 4 4 rfl rfl]
  unfold D4; rfl
theorem tree_pos {n e s : Int} {ws : List W3} (h : netB n e s ws = true) : 0 < treeR n e s ws := by
  obtain ⟨N, rfl, h1, h5, hw⟩ := net_small h
  have hN : N = 1 ∨ N = 2 ∨ N = 3 ∨ N = 4 ∨ N = 5 := by omega
  rcases hN with rfl | rfl | rfl | rfl | rfl
  · unfold treeR; rw [if_pos h]
    show 0 < detD _ (woL 1 [0]) (woL 1 [0])
    rw [show woL 1 [0] = [] by decide]
    show (0 : Int) < 1
    decide
  · rw [minI_tree h, minI_D1]; exact D1_pos (net_MM h)
  · rw [minI_tree h, minI_D2]; exact D2_pos (net_MM h)
  · rw [minI_tree h, minI_D3]; exact D3_pos (net_MM h)
  · rw [minI_tree h, minI_D4]; exact D4_pos (net_MM h)
end Go.Proofs.Ytaececpphdaciaa

namespace Go.Proofs.Ytaececpphdaciaa
open Go.RowKit

/-- What one wire is between two nodes. -/
def cJ (v w : Nat) (e : W3) : Int := if v ≠ w ∧ e.1 = min (v : Int) w ∧ e.2.1 = max (v : Int) w then e.2.2 else 0
theorem wBtw_cJ {n : Int} {ws : List W3} (h : WiresV n ws) (v w : Nat) : wBtw ws (v : Int) (w : Int) = (ws.map (cJ v w)).sum := by
  by_cases e : v = w
  · subst e
    rw [wBtw_self]
    have hz : ∀ l : List W3, (l.map (cJ v v)).sum = 0 := fun l => by
      induction l with
      | nil => rfl
      | cons x r ih =>
        show cJ v v x + (r.map (cJ v v)).sum = 0
        rw [ih]; unfold cJ; rw [if_neg (fun hh => hh.1 rfl)]; rfl
    exact (hz ws).symm
  · rw [wBtw_sJ (v : Int) (w : Int) (by omega) ws (pairW h)]
    unfold sJ
    congr 1
    apply List.map_congr_left
    intro x _
    unfold cJ
    by_cases hx : x.1 = min (v : Int) w ∧ x.2.1 = max (v : Int) w
    · rw [if_pos hx, if_pos ⟨e, hx⟩]
    · rw [if_neg hx, if_neg (fun hh => hx hh.2)]
/-- The power that potentials dissipate, times the scale. -/
def powE (P : Nat → Int) (e : W3) : Int := e.2.2 * ((P e.1.toNat - P e.2.1.toNat) * (P e.1.toNat - P e.2.1.toNat))
def powS (ws : List W3) (P : Nat → Int) : Int := (ws.map (powE P)).sum
theorem one_wire (N : Nat) (P : Nat → Int) (e : W3) (h : wireV N e) : sumN (fun v => P v * sumN (fun w => cJ v w e * (P v - P w)) N) N = powE P e := by
  obtain ⟨v1, v2, v3, v4, v5⟩ := h
  obtain ⟨a, ha⟩ : ∃ a : Nat, e.1 = a := ⟨e.1.toNat, by omega⟩
  obtain ⟨b, hb⟩ : ∃ b : Nat, e.2.1 = b := ⟨e.2.1.toNat, by omega⟩
  have hab : a < b := by omega
  have hbN : b < N := by omega
  have inner : ∀ v, v < N → sumN (fun w => cJ v w e * (P v - P w)) N = if v = a then e.2.2 * (P a - P b) else if v = b then e.2.2 * (P b - P a) else 0 := fun v hv => by
    by_cases hva : v = a
    · subst hva
      rw [if_pos rfl, sumN_one b N hbN (fun w _ hw => by
        have : cJ v w e = 0 := by unfold cJ; rw [if_neg]; rintro ⟨h1, h2, h3⟩; omega
        rw [this, Int.zero_mul])]
      have : cJ v b e = e.2.2 := by unfold cJ; rw [if_pos]; exact ⟨by omega, by omega, by omega⟩
      rw [this]
    · rw [if_neg hva]
      by_cases hvb : v = b
      · subst hvb
        rw [if_pos rfl, sumN_one a N (by omega) (fun w _ hw => by
          have : cJ v w e = 0 := by unfold cJ; rw [if_neg]; rintro ⟨h1, h2, h3⟩; omega
          rw [this, Int.zero_mul])]
        have : cJ v a e = e.2.2 := by unfold cJ; rw [if_pos]; exact ⟨by omega, by omega, by omega⟩
        rw [this]
      · rw [if_neg hvb, sumN_zero N (fun w _ => by
          have : cJ v w e = 0 := by unfold cJ; rw [if_neg]; rintro ⟨h1, h2, h3⟩; omega
          rw [this, Int.zero_mul])]
  have hs : sumN (fun v => P v * sumN (fun w => cJ v w e * (P v - P w)) N) N = sumN (fun v => P v * (if v = a then e.2.2 * (P a - P b) else if v = b then e.2.2 * (P b - P a) else 0)) N := sumN_ext N fun v hv => by rw [inner v hv]
  rw [hs, sumN_two a b (by omega) N (by omega) hbN (fun k _ h1 h2 => by rw [if_neg h1, if_neg h2, Int.mul_zero])]
  rw [if_pos rfl, if_neg (by omega), if_pos rfl]
  unfold powE
  rw [ha, hb, Int.toNat_natCast, Int.toNat_natCast]
  grind
theorem pow_wires (N : Nat) (P : Nat → Int) : ∀ ws : List W3, (∀ e ∈ ws, wireV N e) → sumN (fun v => P v * sumN (fun w => (ws.map (cJ v w)).sum * (P v - P w)) N) N = powS ws P
  | [], _ => by
    rw [sumN_zero]
    · rfl
    · intro v _
      rw [sumN_zero N (fun w _ => by show (0 : Int) * _ = 0; rw [Int.zero_mul]), Int.mul_zero]
  | e :: r, h => by
    have ih := pow_wires N P r (fun x hx => h x (by simp [hx]))
    have h1 := one_wire N P e (h e (by simp))
    show _ = powE P e + powS r P
    rw [← ih, ← h1, ← sumN_add]
    refine sumN_ext N fun v _ => ?_
    rw [← Int.mul_add, ← sumN_add]
    congr 1
    refine sumN_ext N fun w _ => ?_
    show (cJ v w e + (r.map (cJ v w)).sum) * (P v - P w) = _
    rw [Int.add_mul]
/-- The power is the sum of the potentials times what flows off. -/
theorem pow_flow {N : Nat} {ws : List W3} (h : WiresV N ws) (P : Nat → Int) : powS ws P = sumN (fun v => P v * sumN (fun w => wBtw ws (v : Int) (w : Int) * (P v - P w)) N) N := by
  rw [← pow_wires N P ws (fun e he => h.mem he)]
  exact sumN_ext N fun v _ => by
    congr 1
    exact sumN_ext N fun w _ => by rw [wBtw_cJ h v w]
/-- The power of the potentials by minors. -/
theorem pow_pot {N : Nat} {ws : List W3} (h : WiresV N ws) (h2 : 2 ≤ N) (hN : N ≤ 5) (a b : Nat) (ha : a < N) (hb : b < N) (hab : a ≠ b) :
    powS ws (potI (lapM N ws) N a b) = potI (lapM N ws) N a b a * minI (lapM N ws) N b := by
  rw [pow_flow h, sumN_ext N (fun v hv => by rw [kirchhoff h h2 hN a b v ha hb hv hab]), sumN_two a b hab N ha hb (fun k _ h1 h2' => by rw [if_neg h1, if_neg h2', Int.mul_zero]), if_pos rfl]
  have e : potI (lapM N ws) N a b b = 0 := by unfold potI; rw [if_pos rfl]
  rw [e, Int.zero_mul]; omega
/-- Another potential at one node: the power is more by the square of the difference times the weight at the node, if nothing flows off there. -/
theorem pow_shift {N : Nat} {ws : List W3} (h : WiresV N ws) (hN : N ≤ 5) (P : Nat → Int) (u : Nat) (hu : u < N) (t : Int) :
    powS ws (fun v => if v = u then P v + t else P v) = powS ws P + 2 * t * sumN (fun w => wBtw ws (u : Int) (w : Int) * (P u - P w)) N + t * t * wAt ws (u : Int) := by
  have key : ∀ l : List W3, (∀ e ∈ l, wireV N e) → powS l (fun v => if v = u then P v + t else P v) = powS l P + 2 * t * sumN (fun w => (l.map (cJ u w)).sum * (P u - P w)) N + t * t * sumN (fun w => (l.map (cJ u w)).sum) N := fun l => by
    induction l with
    | nil =>
      intro _
      rw [sumN_zero N (fun w _ => by show (0 : Int) * _ = 0; rw [Int.zero_mul]), sumN_zero (f := fun w => (List.map (cJ u w) []).sum) N (fun w _ => rfl)]
      simp [powS]
    | cons e r ih =>
      intro hr
      have ih := ih (fun x hx => hr x (by simp [hx]))
      obtain ⟨v1, v2, v3, v4, v5⟩ := hr e (by simp)
      obtain ⟨a, ha⟩ : ∃ a : Nat, e.1 = a := ⟨e.1.toNat, by omega⟩
      obtain ⟨b, hb⟩ : ∃ b : Nat, e.2.1 = b := ⟨e.2.1.toNat, by omega⟩
      have hbN : b < N := by omega
      have s1 : sumN (fun w => ((e :: r).map (cJ u w)).sum * (P u - P w)) N = sumN (fun w => cJ u w e * (P u - P w)) N + sumN (fun w => (r.map (cJ u w)).sum * (P u - P w)) N := by
        rw [← sumN_add]; exact sumN_ext N fun w _ => by show (cJ u w e + (r.map (cJ u w)).sum) * _ = _; rw [Int.add_mul]
      have s2 : sumN (fun w => ((e :: r).map (cJ u w)).sum) N = sumN (fun w => cJ u w e) N + sumN (fun w => (r.map (cJ u w)).sum) N := by
        rw [← sumN_add]; exact sumN_ext N fun w _ => rfl
      have pe : powE (fun v => if v = u then P v + t else P v) e = powE P e + 2 * t * sumN (fun w => cJ u w e * (P u - P w)) N + t * t * sumN (fun w => cJ u w e) N := by
        by_cases hua : u = a
        · subst hua
          have z : ∀ w, w ≠ b → cJ u w e = 0 := fun w hw => by unfold cJ; rw [if_neg]; rintro ⟨h1, h2, h3⟩; omega
          have o : cJ u b e = e.2.2 := by unfold cJ; rw [if_pos]; exact ⟨by omega, by omega, by omega⟩
          rw [sumN_one b N hbN (fun w _ hw => by rw [z w hw, Int.zero_mul]), sumN_one b N hbN (fun w _ hw => z w hw), o]
          unfold powE
          rw [ha, hb, Int.toNat_natCast, Int.toNat_natCast]
          simp only [if_true]
          rw [if_neg (by omega)]
          grind
        · by_cases hub : u = b
          · subst hub
            have z : ∀ w, w ≠ a → cJ u w e = 0 := fun w hw => by unfold cJ; rw [if_neg]; rintro ⟨h1, h2, h3⟩; omega
            have o : cJ u a e = e.2.2 := by unfold cJ; rw [if_pos]; exact ⟨by omega, by omega, by omega⟩
            rw [sumN_one a N (by omega) (fun w _ hw => by rw [z w hw, Int.zero_mul]), sumN_one a N (by omega) (fun w _ hw => z w hw), o]
            unfold powE
            rw [ha, hb, Int.toNat_natCast, Int.toNat_natCast]
            simp only [if_true]
            rw [if_neg (by omega)]
            grind
          · have z : ∀ w, cJ u w e = 0 := fun w => by unfold cJ; rw [if_neg]; rintro ⟨h1, h2, h3⟩; omega
            rw [sumN_zero N (fun w _ => by rw [z w, Int.zero_mul]), sumN_zero N (fun w _ => z w)]
            unfold powE
            rw [ha, hb, Int.toNat_natCast, Int.toNat_natCast]
            have na : ¬ a = u := Ne.symm hua
            have nb : ¬ b = u := Ne.symm hub
            simp only [if_neg na, if_neg nb]
            omega
      show powE (fun v => if v = u then P v + t else P v) e + powS r (fun v => if v = u then P v + t else P v) = powE P e + powS r P + _ + _
      rw [pe, ih, s1, s2]
      grind
  rw [key ws (fun e he => h.mem he), wAt_sum h hN u hu, sumN_ext N (fun w _ => by rw [← wBtw_cJ h u w]), sumN_ext (f := fun w => (ws.map (cJ u w)).sum) N (fun w _ => (wBtw_cJ h u w).symm)]

end Go.Proofs.Ytaececpphdaciaa
