/-
  TreeSum of a valid network is at least 1.
-/
import Derived.Test.YtnbbmpilpeakiaaTreePos
namespace Go.Proofs.Ytnbbmpilpeakiaa
open Go.RowKit

theorem lapE_sym (ws : List W3) (i j : Nat) : lapE ws i j = lapE ws j i := by
  unfold lapE
  by_cases h : i = j
  · subst h; rfl
  · rw [if_neg h, if_neg (Ne.symm h), wBtw_comm]
theorem sumN_shift (f : Nat → Int) : ∀ n, sumN f (n + 1) = f 0 + sumN (fun k => f (k + 1)) n
  | 0 => by show 0 + f 0 = f 0 + 0; omega
  | n + 1 => by
    have h := sumN_shift f n
    show sumN f (n + 1) + f (n + 1) = f 0 + (sumN (fun k => f (k + 1)) n + f (n + 1))
    rw [h]; omega
theorem wBtw_mem {n : Int} {ws : List W3} (h : WiresV n ws) {e : W3} (he : e ∈ ws) : 0 < wBtw ws e.1 e.2.1 := by
  obtain ⟨v1, v2, v3, v4, v5⟩ := h.mem he
  unfold wBtw
  rw [if_neg (by omega)]
  have hb : ((e.1 == min e.1 e.2.1) && (e.2.1 == max e.1 e.2.1)) = true := by
    rw [Int.min_eq_left (by omega), Int.max_eq_right (by omega)]; simp
  cases hf : ws.find? (fun f => (f.1 == min e.1 e.2.1) && (f.2.1 == max e.1 e.2.1)) with
  | none => exact absurd hb (List.find?_eq_none.1 hf e he)
  | some f =>
    obtain ⟨u1, u2, u3, u4, u5⟩ := h.mem (List.mem_of_find?_eq_some hf)
    show 0 < f.2.2
    omega
theorem net_MM {k : Nat} {e s : Int} {ws : List W3} (hb : netB ((k + 1 : Nat) : Int) e s ws = true) : MM k (fun i j => lapE ws (i + 1) (j + 1)) := by
  obtain ⟨⟨n1, n5, -⟩, hw, hc⟩ := netB_iff.1 hb
  have hrow : ∀ i, i < k → sumN (fun j => lapE ws (i + 1) (j + 1)) k = wBtw ws ((i + 1 : Nat) : Int) ((0 : Nat) : Int) := fun i hi => by
    have h1 : sumN (fun j => lapE ws (i + 1) j) (k + 1) = 0 := by
      have e1 : sumN (fun j => lapE ws (i + 1) j) (k + 1) = sumN (fun j => (if j = i + 1 then wAt ws ((i + 1 : Nat) : Int) else 0) - wBtw ws ((i + 1 : Nat) : Int) (j : Int)) (k + 1) := sumN_ext _ fun j _ => by
        unfold lapE
        by_cases h : i + 1 = j
        · subst h; rw [if_pos rfl, if_pos rfl, wBtw_self]; omega
        · rw [if_neg h, if_neg (Ne.symm h)]; omega
      rw [e1, sumN_sub, sumN_one (i + 1) (k + 1) (by omega) (fun j _ hj => if_neg hj), if_pos rfl, wAt_sum hw (by omega) (i + 1) (by omega)]; omega
    rw [sumN_shift] at h1
    have h2 : lapE ws (i + 1) 0 = -wBtw ws ((i + 1 : Nat) : Int) ((0 : Nat) : Int) := by unfold lapE; rw [if_neg (by omega)]
    omega
  refine ⟨fun i j => lapE_sym ws _ _, fun i j hi hj hij => ?_, fun i hi => ?_, fun S h1 h2 i hi => ?_⟩
  · show lapE ws (i + 1) (j + 1) ≤ 0
    unfold lapE
    rw [if_neg (by omega)]
    have := wBtw_le hw ((i + 1 : Nat) : Int) ((j + 1 : Nat) : Int)
    omega
  · rw [hrow i hi]; exact (wBtw_le hw _ _).1
  · have key := hc ((i + 1 : Nat) : Int) (by omega) (by omega) (fun x => x = 0 ∨ ∃ j : Nat, j < k ∧ x = ((j + 1 : Nat) : Int) ∧ S j) (.inl rfl) (fun w hw' => ?_)
    · rcases key with h | ⟨j, hj, hx, hs⟩
      · omega
      · have : i = j := by omega
        subst this; exact hs
    · obtain ⟨v1, v2, v3, v4, v5⟩ := hw.mem hw'
      have hp := wBtw_mem hw hw'
      obtain ⟨q, hq⟩ : ∃ q : Nat, w.2.1 = ((q + 1 : Nat) : Int) := ⟨(w.2.1 - 1).toNat, by omega⟩
      have hqk : q < k := by omega
      by_cases h0 : w.1 = 0
      · constructor
        · intro _
          refine .inr ⟨q, hqk, hq, h1 q hqk ?_⟩
          rw [hrow q hqk, wBtw_comm, ← hq]
          rw [h0] at hp
          exact hp
        · intro _; exact .inl h0
      · obtain ⟨r, hr⟩ : ∃ r : Nat, w.1 = ((r + 1 : Nat) : Int) := ⟨(w.1 - 1).toNat, by omega⟩
        have hrk : r < k := by omega
        have hneg : lapE ws (r + 1) (q + 1) < 0 := by
          unfold lapE
          rw [if_neg (by omega), ← hr, ← hq]; omega
        have hiff := h2 r q hrk hqk hneg
        constructor
        · rintro (h | ⟨j, hj, hx, hs⟩)
          · exact absurd h h0
          · have : j = r := by omega
            subst this
            exact .inr ⟨q, hqk, hq, hiff.1 hs⟩
        · rintro (h | ⟨j, hj, hx, hs⟩)
          · omega
          · have : j = q := by omega
            subst this
            exact .inr ⟨r, hrk, hr, hiff.2 hs⟩
theorem at2_lapN {N : Nat} (ws : List W3) (i j : Nat) (hi : i < N) (hj : j < N) (x y : Int) (hx : x = i) (hy : y = j) : at2 (lapM N ws) x y = lapE ws i j := by
  subst hx; subst hy; exact at2_lap ws hi hj
theorem minI_D1 (ws : List W3) : minI (lapM 2 ws) 2 0 = D1 (fun i j => lapE ws (i + 1) (j + 1)) := by
  have h : minI (lapM 2 ws) 2 0 = detD (lapM 2 ws) [1] [1] := by unfold minI; rw [show woL 2 [((0 : Nat) : Int)] = [1] by decide]
  rw [h, det1]
  rw [at2_lapN ws 1 1 (by omega) (by omega) 1 1 rfl rfl]
  unfold D1; rfl
theorem minI_D2 (ws : List W3) : minI (lapM 3 ws) 3 0 = D2 (fun i j => lapE ws (i + 1) (j + 1)) := by
  have h : minI (lapM 3 ws) 3 0 = detD (lapM 3 ws) [1, 2] [1, 2] := by unfold minI; rw [show woL 3 [((0 : Nat) : Int)] = [1, 2] by decide]
  rw [h, det2]
  rw [at2_lapN ws 1 1 (by omega) (by omega) 1 1 rfl rfl]
  rw [at2_lapN ws 1 2 (by omega) (by omega) 1 2 rfl rfl]
  rw [at2_lapN ws 2 1 (by omega) (by omega) 2 1 rfl rfl]
  rw [at2_lapN ws 2 2 (by omega) (by omega) 2 2 rfl rfl]
  unfold D2; rfl
theorem minI_D3 (ws : List W3) : minI (lapM 4 ws) 4 0 = D3 (fun i j => lapE ws (i + 1) (j + 1)) := by
  have h : minI (lapM 4 ws) 4 0 = detD (lapM 4 ws) [1, 2, 3] [1, 2, 3] := by unfold minI; rw [show woL 4 [((0 : Nat) : Int)] = [1, 2, 3] by decide]
  rw [h, det3]
  rw [at2_lapN ws 1 1 (by omega) (by omega) 1 1 rfl rfl]
  rw [at2_lapN ws 1 2 (by omega) (by omega) 1 2 rfl rfl]
  rw [at2_lapN ws 1 3 (by omega) (by omega) 1 3 rfl rfl]
  rw [at2_lapN ws 2 1 (by omega) (by omega) 2 1 rfl rfl]
  rw [at2_lapN ws 2 2 (by omega) (by omega) 2 2 rfl rfl]
  rw [at2_lapN ws 2 3 (by omega) (by omega) 2 3 rfl rfl]
  rw [at2_lapN ws 3 1 (by omega) (by omega) 3 1 rfl rfl]
  rw [at2_lapN ws 3 2 (by omega) (by omega) 3 2 rfl rfl]
  rw [at2_lapN ws 3 3 (by omega) (by omega) 3 3 rfl rfl]
  unfold D3; rfl
theorem minI_D4 (ws : List W3) : minI (lapM 5 ws) 5 0 = D4 (fun i j => lapE ws (i + 1) (j + 1)) := by
  have h : minI (lapM 5 ws) 5 0 = detD (lapM 5 ws) [1, 2, 3, 4] [1, 2, 3, 4] := by unfold minI; rw [show woL 5 [((0 : Nat) : Int)] = [1, 2, 3, 4] by decide]
  rw [h, det4, det3, det3, det3, det3]
  rw [at2_lapN ws 1 1 (by omega) (by omega) 1 1 rfl rfl]
  rw [at2_lapN ws 1 2 (by omega) (by omega) 1 2 rfl rfl]
  rw [at2_lapN ws 1 3 (by omega) (by omega) 1 3 rfl rfl]
  rw [at2_lapN ws 1 4 (by omega) (by omega) 1 4 rfl rfl]
  rw [at2_lapN ws 2 1 (by omega) (by omega) 2 1 rfl rfl]
  rw [at2_lapN ws 2 2 (by omega) (by omega) 2 2 rfl rfl]
  rw [at2_lapN ws 2 3 (by omega) (by omega) 2 3 rfl rfl]
  rw [at2_lapN ws 2 4 (by omega) (by omega) 2 4 rfl rfl]
  rw [at2_lapN ws 3 1 (by omega) (by omega) 3 1 rfl rfl]
  rw [at2_lapN ws 3 2 (by omega) (by omega) 3 2 rfl rfl]
  rw [at2_lapN ws 3 3 (by omega) (by omega) 3 3 rfl rfl]
  rw [at2_lapN ws 3 4 (by omega) (by omega) 3 4 rfl rfl]
  rw [at2_lapN ws 4 1 (by omega) (by omega) 4 1 rfl rfl]
  rw [at2_lapN ws 4 2 (by omega) (by omega) 4 2 rfl rfl]
  rw [at2_lapN ws 4 3 (by omega) (by omega) 4 3 rfl rfl]
  rw [at2_lapN ws 4 4 (by omega) (by omega) 4 4 rfl rfl]
  unfold D4; rfl
theorem tree_pos {n e s : Int} {ws : List W3} (h : netB n e s ws = true) : 0 < treeR n e s ws := by
  obtain ⟨N, rfl, h1, h5, hw⟩ := net_small h
  have hN : N = 1 ∨ N = 2 ∨ N = 3 ∨ N = 4 ∨ N = 5 := by omega
  rcases hN with rfl | rfl | rfl | rfl | rfl
  · unfold treeR; rw [if_pos h]
    show 0 < detD _ (woL 1 [0]) (woL 1 [0])
    rw [show woL 1 [0] = [] by decide]
    show (0 : Int) < 1
    decide
  · rw [minI_tree h, minI_D1]; exact D1_pos (net_MM h)
  · rw [minI_tree h, minI_D2]; exact D2_pos (net_MM h)
  · rw [minI_tree h, minI_D3]; exact D3_pos (net_MM h)
  · rw [minI_tree h, minI_D4]; exact D4_pos (net_MM h)
end Go.Proofs.Ytnbbmpilpeakiaa
