/-
  The potentials of a network obey Kirchhoff's laws, and the minor without a node does not hang on the node.
-/
import Derived.Test.YtnbbmpilpeakiaaKirDet
import Derived.Test.YtnbbmpilpeakiaaSums
namespace Go.Proofs.Ytnbbmpilpeakiaa
open Go.RowKit

theorem sumN_mul (f : Nat → Int) (x : Int) : ∀ n, sumN (fun k => f k * x) n = sumN f n * x
  | 0 => by simp [sumN]
  | n + 1 => by
    show sumN (fun k => f k * x) n + f n * x = (sumN f n + f n) * x
    rw [sumN_mul f x n, Int.add_mul]
theorem sumN_sub (f g : Nat → Int) : ∀ n, sumN (fun k => f k - g k) n = sumN f n - sumN g n
  | 0 => rfl
  | n + 1 => by
    show sumN (fun k => f k - g k) n + (f n - g n) = (sumN f n + f n) - (sumN g n + g n)
    rw [sumN_sub f g n]; omega
theorem sumN_swap (f : Nat → Nat → Int) (m : Nat) : ∀ n, sumN (fun i => sumN (fun j => f i j) m) n = sumN (fun j => sumN (fun i => f i j) n) m
  | 0 => by
    exact (sumN_zero m (fun _ _ => rfl)).symm
  | n + 1 => by
    show sumN (fun i => sumN (fun j => f i j) m) n + sumN (fun j => f n j) m = _
    rw [sumN_swap f m n, ← sumN_add]
    exact sumN_ext m fun j _ => rfl
theorem sumN_two {f : Nat → Int} (a b : Nat) (hab : a ≠ b) (n : Nat) (ha : a < n) (hb : b < n) (h : ∀ k, k < n → k ≠ a → k ≠ b → f k = 0) : sumN f n = f a + f b := by
  have e : sumN f n = sumN (fun k => (if k = a then f k else 0) + (if k = a then 0 else f k)) n := sumN_ext n fun k _ => by
    by_cases hk : k = a
    · rw [if_pos hk, if_pos hk]; omega
    · rw [if_neg hk, if_neg hk]; omega
  rw [e, sumN_add, sumN_one a n ha (fun k _ hk => if_neg hk), sumN_one b n hb (fun k hk hkb => by
    by_cases hka : k = a
    · rw [if_pos hka]
    · rw [if_neg hka]; exact h k hk hka hkb), if_pos rfl, if_neg (fun e => hab e.symm)]
theorem at2_lap {N : Nat} (ws : List W3) {i j : Nat} (hi : i < N) (hj : j < N) : at2 (lapM N ws) (i : Int) (j : Int) = lapE ws i j := by
  have h1 : i < (lapM N ws).length := by rw [lapM_length]; exact hi
  have h2 : j < (lapM N ws)[i].length := by rw [lapM_row]; simp; exact hj
  rw [at2_get h1 h2]
  simp only [lapM_row, List.getElem_map, List.getElem_range]
/-- A row of the matrix times potentials is what flows off. -/
theorem lap_row {N : Nat} {ws : List W3} (h : WiresV N ws) (hN : N ≤ 5) (P : Nat → Int) (v : Nat) (hv : v < N) :
    sumN (fun w => at2 (lapM N ws) v w * P w) N = sumN (fun w => wBtw ws (v : Int) (w : Int) * (P v - P w)) N := by
  have e1 : sumN (fun w => at2 (lapM N ws) v w * P w) N = sumN (fun w => (if w = v then wAt ws (v : Int) * P w else 0) - wBtw ws (v : Int) (w : Int) * P w) N := sumN_ext N fun w hw => by
    rw [at2_lap ws hv hw]
    unfold lapE
    by_cases e : v = w
    · subst e
      rw [if_pos rfl, if_pos rfl, wBtw_self]; grind
    · rw [if_neg e, if_neg (Ne.symm e)]; grind
  have e2 : sumN (fun w => wBtw ws (v : Int) (w : Int) * (P v - P w)) N = sumN (fun w => wBtw ws (v : Int) (w : Int) * P v - wBtw ws (v : Int) (w : Int) * P w) N := sumN_ext N fun w _ => Int.mul_sub _ _ _
  rw [e1, e2, sumN_sub, sumN_sub, sumN_mul, sumN_one v N hv (fun k _ hk => if_neg hk), if_pos rfl, wAt_sum h hN v hv]
/-- All that flows off everywhere is nothing. -/
theorem flow_zero (ws : List W3) (N : Nat) (P : Nat → Int) : sumN (fun v => sumN (fun w => wBtw ws (v : Int) (w : Int) * (P v - P w)) N) N = 0 := by
  have e : sumN (fun v => sumN (fun w => wBtw ws (v : Int) (w : Int) * (P v - P w)) N) N = sumN (fun v => sumN (fun w => wBtw ws (v : Int) (w : Int) * P v) N) N - sumN (fun v => sumN (fun w => wBtw ws (v : Int) (w : Int) * P w) N) N := by
    rw [← sumN_sub]
    refine sumN_ext N fun v _ => ?_
    rw [← sumN_sub]
    exact sumN_ext N fun w _ => Int.mul_sub _ _ _
  have e2 : sumN (fun v => sumN (fun w => wBtw ws (v : Int) (w : Int) * P w) N) N = sumN (fun v => sumN (fun w => wBtw ws (v : Int) (w : Int) * P v) N) N := by
    rw [sumN_swap]
    exact sumN_ext N fun w _ => sumN_ext N fun v _ => by rw [wBtw_comm]
  rw [e, e2]; omega
theorem cramer {N : Nat} (h2 : 2 ≤ N) (h5 : N ≤ 5) (m : MatI) (a b v : Nat) (ha : a < N) (hb : b < N) (hv : v < N) (hab : a ≠ b) (hvb : v ≠ b) : sumN (fun w => at2 m v w * potI m N a b w) N = if v = a then minI m N b else 0 := by
  have hN : N = 2 ∨ N = 3 ∨ N = 4 ∨ N = 5 := by omega
  rcases hN with rfl | rfl | rfl | rfl
  · exact cramer2 m a b v ha hb hv hab hvb
  · exact cramer3 m a b v ha hb hv hab hvb
  · exact cramer4 m a b v ha hb hv hab hvb
  · exact cramer5 m a b v ha hb hv hab hvb
/-- Kirchhoff's law at every node, for the potentials by minors. -/
theorem kirchhoff {N : Nat} {ws : List W3} (h : WiresV N ws) (h2 : 2 ≤ N) (hN : N ≤ 5) (a b v : Nat) (ha : a < N) (hb : b < N) (hv : v < N) (hab : a ≠ b) :
    sumN (fun w => wBtw ws (v : Int) (w : Int) * (potI (lapM N ws) N a b v - potI (lapM N ws) N a b w)) N = if v = a then minI (lapM N ws) N b else if v = b then -minI (lapM N ws) N b else 0 := by
  have hX : ∀ u, u < N → u ≠ b → sumN (fun w => wBtw ws (u : Int) (w : Int) * (potI (lapM N ws) N a b u - potI (lapM N ws) N a b w)) N = if u = a then minI (lapM N ws) N b else 0 := fun u hu hub => by
    rw [← lap_row h hN (potI (lapM N ws) N a b) u hu]
    exact cramer h2 hN _ a b u ha hb hu hab hub
  by_cases hvb : v = b
  · subst hvb
    rw [if_neg (Ne.symm hab), if_pos rfl]
    have hz := flow_zero ws N (potI (lapM N ws) N a v)
    rw [sumN_two a v hab N ha hb (fun k hk hka hkv => by rw [hX k hk hkv, if_neg hka])] at hz
    rw [hX a ha hab, if_pos rfl] at hz
    omega
  · rw [hX v hv hvb]
    by_cases hva : v = a
    · rw [if_pos hva, if_pos hva]
    · rw [if_neg hva, if_neg hva, if_neg hvb]

set_option maxHeartbeats 8000000 in
theorem min_same2 {ws : List W3} (h0 : WiresV (2 : Nat) ws) (b : Nat) (hb : b < 2) : minI (lapM 2 ws) 2 b = minI (lapM 2 ws) 2 0 := by
  have d0 : at2 (lapM 2 ws) 0 0 = wBtw ws 0 1 := by
    have h := at2_lap (N := 2) ws (i := 0) (j := 0) (by omega) (by omega)
    rw [lapE, if_pos rfl, wAt_sum h0 (by omega) 0 (by omega)] at h
    have h' : at2 (lapM 2 ws) 0 0 = _ := h
    rw [h']
    simp [sumN, wBtw_self]
  have d1 : at2 (lapM 2 ws) 1 1 = wBtw ws 0 1 := by
    have h := at2_lap (N := 2) ws (i := 1) (j := 1) (by omega) (by omega)
    rw [lapE, if_pos rfl, wAt_sum h0 (by omega) 1 (by omega)] at h
    have h' : at2 (lapM 2 ws) 1 1 = _ := h
    rw [h']
    simp [sumN, wBtw_self, wBtw_comm ws 1 0]
  have hb' : b = 0 ∨ b = 1 := by omega
  clear hb h0
  rcases hb' with rfl | rfl <;> simp [minI, w2_0, w2_1, det1, d0, d1] <;> grind
set_option maxHeartbeats 8000000 in
theorem min_same3 {ws : List W3} (h0 : WiresV (3 : Nat) ws) (b : Nat) (hb : b < 3) : minI (lapM 3 ws) 3 b = minI (lapM 3 ws) 3 0 := by
  have e01 : at2 (lapM 3 ws) 0 1 = -wBtw ws 0 1 := by have h := at2_lap (N := 3) ws (i := 0) (j := 1) (by omega) (by omega); rw [lapE, if_neg (by omega)] at h; exact h
  have e02 : at2 (lapM 3 ws) 0 2 = -wBtw ws 0 2 := by have h := at2_lap (N := 3) ws (i := 0) (j := 2) (by omega) (by omega); rw [lapE, if_neg (by omega)] at h; exact h
  have e10 : at2 (lapM 3 ws) 1 0 = -wBtw ws 0 1 := by have h := at2_lap (N := 3) ws (i := 1) (j := 0) (by omega) (by omega); rw [lapE, if_neg (by omega), wBtw_comm] at h; exact h
  have e12 : at2 (lapM 3 ws) 1 2 = -wBtw ws 1 2 := by have h := at2_lap (N := 3) ws (i := 1) (j := 2) (by omega) (by omega); rw [lapE, if_neg (by omega)] at h; exact h
  have e20 : at2 (lapM 3 ws) 2 0 = -wBtw ws 0 2 := by have h := at2_lap (N := 3) ws (i := 2) (j := 0) (by omega) (by omega); rw [lapE, if_neg (by omega), wBtw_comm] at h; exact h
  have e21 : at2 (lapM 3 ws) 2 1 = -wBtw ws 1 2 := by have h := at2_lap (N := 3) ws (i := 2) (j := 1) (by omega) (by omega); rw [lapE, if_neg (by omega), wBtw_comm] at h; exact h
  have d0 : at2 (lapM 3 ws) 0 0 = wBtw ws 0 1 + wBtw ws 0 2 := by
    have h := at2_lap (N := 3) ws (i := 0) (j := 0) (by omega) (by omega)
    rw [lapE, if_pos rfl, wAt_sum h0 (by omega) 0 (by omega)] at h
    have h' : at2 (lapM 3 ws) 0 0 = _ := h
    rw [h']
    simp [sumN, wBtw_self]
  have d1 : at2 (lapM 3 ws) 1 1 = wBtw ws 0 1 + wBtw ws 1 2 := by
    have h := at2_lap (N := 3) ws (i := 1) (j := 1) (by omega) (by omega)
    rw [lapE, if_pos rfl, wAt_sum h0 (by omega) 1 (by omega)] at h
    have h' : at2 (lapM 3 ws) 1 1 = _ := h
    rw [h']
    simp [sumN, wBtw_self, wBtw_comm ws 1 0]
  have d2 : at2 (lapM 3 ws) 2 2 = wBtw ws 0 2 + wBtw ws 1 2 := by
    have h := at2_lap (N := 3) ws (i := 2) (j := 2) (by omega) (by omega)
    rw [lapE, if_pos rfl, wAt_sum h0 (by omega) 2 (by omega)] at h
    have h' : at2 (lapM 3 ws) 2 2 = _ := h
    rw [h']
    simp [sumN, wBtw_self, wBtw_comm ws 2 0, wBtw_comm ws 2 1]
  have hb' : b = 0 ∨ b = 1 ∨ b = 2 := by omega
  clear hb h0
  rcases hb' with rfl | rfl | rfl <;> simp [minI, w3_0, w3_1, w3_2, det2, e01, e02, e10, e12, e20, e21, d0, d1, d2] <;> grind
set_option maxHeartbeats 8000000 in
theorem min_same4 {ws : List W3} (h0 : WiresV (4 : Nat) ws) (b : Nat) (hb : b < 4) : minI (lapM 4 ws) 4 b = minI (lapM 4 ws) 4 0 := by
  have e01 : at2 (lapM 4 ws) 0 1 = -wBtw ws 0 1 := by have h := at2_lap (N := 4) ws (i := 0) (j := 1) (by omega) (by omega); rw [lapE, if_neg (by omega)] at h; exact h
  have e02 : at2 (lapM 4 ws) 0 2 = -wBtw ws 0 2 := by have h := at2_lap (N := 4) ws (i := 0) (j := 2) (by omega) (by omega); rw [lapE, if_neg (by omega)] at h; exact h
  have e03 : at2 (lapM 4 ws) 0 3 = -wBtw ws 0 3 := by have h := at2_lap (N := 4) ws (i := 0) (j := 3) (by omega) (by omega); rw [lapE, if_neg (by omega)] at h; exact h
  have e10 : at2 (lapM 4 ws) 1 0 = -wBtw ws 0 1 := by have h := at2_lap (N := 4) ws (i := 1) (j := 0) (by omega) (by omega); rw [lapE, if_neg (by omega), wBtw_comm] at h; exact h
  have e12 : at2 (lapM 4 ws) 1 2 = -wBtw ws 1 2 := by have h := at2_lap (N := 4) ws (i := 1) (j := 2) (by omega) (by omega); rw [lapE, if_neg (by omega)] at h; exact h
  have e13 : at2 (lapM 4 ws) 1 3 = -wBtw ws 1 3 := by have h := at2_lap (N := 4) ws (i := 1) (j := 3) (by omega) (by omega); rw [lapE, if_neg (by omega)] at h; exact h
  have e20 : at2 (lapM 4 ws) 2 0 = -wBtw ws 0 2 := by have h := at2_lap (N := 4) ws (i := 2) (j := 0) (by omega) (by omega); rw [lapE, if_neg (by omega), wBtw_comm] at h; exact h
  have e21 : at2 (lapM 4 ws) 2 1 = -wBtw ws 1 2 := by have h := at2_lap (N := 4) ws (i := 2) (j := 1) (by omega) (by omega); rw [lapE, if_neg (by omega), wBtw_comm] at h; exact h
  have e23 : at2 (lapM 4 ws) 2 3 = -wBtw ws 2 3 := by have h := at2_lap (N := 4) ws (i := 2) (j := 3) (by omega) (by omega); rw [lapE, if_neg (by omega)] at h; exact h
  have e30 : at2 (lapM 4 ws) 3 0 = -wBtw ws 0 3 := by have h := at2_lap (N := 4) ws (i := 3) (j := 0) (by omega) (by omega); rw [lapE, if_neg (by omega), wBtw_comm] at h; exact h
  have e31 : at2 (lapM 4 ws) 3 1 = -wBtw ws 1 3 := by have h := at2_lap (N := 4) ws (i := 3) (j := 1) (by omega) (by omega); rw [lapE, if_neg (by omega), wBtw_comm] at h; exact h
  have e32 : at2 (lapM 4 ws) 3 2 = -wBtw ws 2 3 := by have h := at2_lap (N := 4) ws (i := 3) (j := 2) (by omega) (by omega); rw [lapE, if_neg (by omega), wBtw_comm] at h; exact h
  have d0 : at2 (lapM 4 ws) 0 0 = wBtw ws 0 1 + wBtw ws 0 2 + wBtw ws 0 3 := by
    have h := at2_lap (N := 4) ws (i := 0) (j := 0) (by omega) (by omega)
    rw [lapE, if_pos rfl, wAt_sum h0 (by omega) 0 (by omega)] at h
    have h' : at2 (lapM 4 ws) 0 0 = _ := h
    rw [h']
    simp [sumN, wBtw_self]
  have d1 : at2 (lapM 4 ws) 1 1 = wBtw ws 0 1 + wBtw ws 1 2 + wBtw ws 1 3 := by
    have h := at2_lap (N := 4) ws (i := 1) (j := 1) (by omega) (by omega)
    rw [lapE, if_pos rfl, wAt_sum h0 (by omega) 1 (by omega)] at h
    have h' : at2 (lapM 4 ws) 1 1 = _ := h
    rw [h']
    simp [sumN, wBtw_self, wBtw_comm ws 1 0]
  have d2 : at2 (lapM 4 ws) 2 2 = wBtw ws 0 2 + wBtw ws 1 2 + wBtw ws 2 3 := by
    have h := at2_lap (N := 4) ws (i := 2) (j := 2) (by omega) (by omega)
    rw [lapE, if_pos rfl, wAt_sum h0 (by omega) 2 (by omega)] at h
    have h' : at2 (lapM 4 ws) 2 2 = _ := h
    rw [h']
    simp [sumN, wBtw_self, wBtw_comm ws 2 0, wBtw_comm ws 2 1]
  have d3 : at2 (lapM 4 ws) 3 3 = wBtw ws 0 3 + wBtw ws 1 3 + wBtw ws 2 3 := by
    have h := at2_lap (N := 4) ws (i := 3) (j := 3) (by omega) (by omega)
    rw [lapE, if_pos rfl, wAt_sum h0 (by omega) 3 (by omega)] at h
    have h' : at2 (lapM 4 ws) 3 3 = _ := h
    rw [h']
    simp [sumN, wBtw_self, wBtw_comm ws 3 0, wBtw_comm ws 3 1, wBtw_comm ws 3 2]
  have hb' : b = 0 ∨ b = 1 ∨ b = 2 ∨ b = 3 := by omega
  clear hb h0
  rcases hb' with rfl | rfl | rfl | rfl <;> simp [minI, w4_0, w4_1, w4_2, w4_3, det3, e01, e02, e03, e10, e12, e13, e20, e21, e23, e30, e31, e32, d0, d1, d2, d3] <;> grind
set_option maxHeartbeats 8000000 in
theorem min_same5 {ws : List W3} (h0 : WiresV (5 : Nat) ws) (b : Nat) (hb : b < 5) : minI (lapM 5 ws) 5 b = minI (lapM 5 ws) 5 0 := by
  have e01 : at2 (lapM 5 ws) 0 1 = -wBtw ws 0 1 := by have h := at2_lap (N := 5) ws (i := 0) (j := 1) (by omega) (by omega); rw [lapE, if_neg (by omega)] at h; exact h
  have e02 : at2 (lapM 5 ws) 0 2 = -wBtw ws 0 2 := by have h := at2_lap (N := 5) ws (i := 0) (j := 2) (by omega) (by omega); rw [lapE, if_neg (by omega)] at h; exact h
  have e03 : at2 (lapM 5 ws) 0 3 = -wBtw ws 0 3 := by have h := at2_lap (N := 5) ws (i := 0) (j := 3) (by omega) (by omega); rw [lapE, if_neg (by omega)] at h; exact h
  have e04 : at2 (lapM 5 ws) 0 4 = -wBtw ws 0 4 := by have h := at2_lap (N := 5) ws (i := 0) (j := 4) (by omega) (by omega); rw [lapE, if_neg (by omega)] at h; exact h
  have e10 : at2 (lapM 5 ws) 1 0 = -wBtw ws 0 1 := by have h := at2_lap (N := 5) ws (i := 1) (j := 0) (by omega) (by omega); rw [lapE, if_neg (by omega), wBtw_comm] at h; exact h
  have e12 : at2 (lapM 5 ws) 1 2 = -wBtw ws 1 2 := by have h := at2_lap (N := 5) ws (i := 1) (j := 2) (by omega) (by omega); rw [lapE, if_neg (by omega)] at h; exact h
  have e13 : at2 (lapM 5 ws) 1 3 = -wBtw ws 1 3 := by have h := at2_lap (N := 5) ws (i := 1) (j := 3) (by omega) (by omega); rw [lapE, if_neg (by omega)] at h; exact h
  have e14 : at2 (lapM 5 ws) 1 4 = -wBtw ws 1 4 := by have h := at2_lap (N := 5) ws (i := 1) (j := 4) (by omega) (by omega); rw [lapE, if_neg (by omega)] at h; exact h
  have e20 : at2 (lapM 5 ws) 2 0 = -wBtw ws 0 2 := by have h := at2_lap (N := 5) ws (i := 2) (j := 0) (by omega) (by omega); rw [lapE, if_neg (by omega), wBtw_comm] at h; exact h
  have e21 : at2 (lapM 5 ws) 2 1 = -wBtw ws 1 2 := by have h := at2_lap (N := 5) ws (i := 2) (j := 1) (by omega) (by omega); rw [lapE, if_neg (by omega), wBtw_comm] at h; exact h
  have e23 : at2 (lapM 5 ws) 2 3 = -wBtw ws 2 3 := by have h := at2_lap (N := 5) ws (i := 2) (j := 3) (by omega) (by omega); rw [lapE, if_neg (by omega)] at h; exact h
  have e24 : at2 (lapM 5 ws) 2 4 = -wBtw ws 2 4 := by have h := at2_lap (N := 5) ws (i := 2) (j := 4) (by omega) (by omega); rw [lapE, if_neg (by omega)] at h; exact h
  have e30 : at2 (lapM 5 ws) 3 0 = -wBtw ws 0 3 := by have h := at2_lap (N := 5) ws (i := 3) (j := 0) (by omega) (by omega); rw [lapE, if_neg (by omega), wBtw_comm] at h; exact h
  have e31 : at2 (lapM 5 ws) 3 1 = -wBtw ws 1 3 := by have h := at2_lap (N := 5) ws (i := 3) (j := 1) (by omega) (by omega); rw [lapE, if_neg (by omega), wBtw_comm] at h; exact h
  have e32 : at2 (lapM 5 ws) 3 2 = -wBtw ws 2 3 := by have h := at2_lap (N := 5) ws (i := 3) (j := 2) (by omega) (by omega); rw [lapE, if_neg (by omega), wBtw_comm] at h; exact h
  have e34 : at2 (lapM 5 ws) 3 4 = -wBtw ws 3 4 := by have h := at2_lap (N := 5) ws (i := 3) (j := 4) (by omega) (by omega); rw [lapE, if_neg (by omega)] at h; exact h
  have e40 : at2 (lapM 5 ws) 4 0 = -wBtw ws 0 4 := by have h := at2_lap (N := 5) ws (i := 4) (j := 0) (by omega) (by omega); rw [lapE, if_neg (by omega), wBtw_comm] at h; exact h
  have e41 : at2 (lapM 5 ws) 4 1 = -wBtw ws 1 4 := by have h := at2_lap (N := 5) ws (i := 4) (j := 1) (by omega) (by omega); rw [lapE, if_neg (by omega), wBtw_comm] at h; exact h
  have e42 : at2 (lapM 5 ws) 4 2 = -wBtw ws 2 4 := by have h := at2_lap (N := 5) ws (i := 4) (j := 2) (by omega) (by omega); rw [lapE, if_neg (by omega), wBtw_comm] at h; exact h
  have e43 : at2 (lapM 5 ws) 4 3 = -wBtw ws 3 4 := by have h := at2_lap (N := 5) ws (i := 4) (j := 3) (by omega) (by omega); rw [lapE, if_neg (by omega), wBtw_comm] at h; exact h
  have d0 : at2 (lapM 5 ws) 0 0 = wBtw ws 0 1 + wBtw ws 0 2 + wBtw ws 0 3 + wBtw ws 0 4 := by
    have h := at2_lap (N := 5) ws (i := 0) (j := 0) (by omega) (by omega)
    rw [lapE, if_pos rfl, wAt_sum h0 (by omega) 0 (by omega)] at h
    have h' : at2 (lapM 5 ws) 0 0 = _ := h
    rw [h']
    simp [sumN, wBtw_self]
  have d1 : at2 (lapM 5 ws) 1 1 = wBtw ws 0 1 + wBtw ws 1 2 + wBtw ws 1 3 + wBtw ws 1 4 := by
    have h := at2_lap (N := 5) ws (i := 1) (j := 1) (by omega) (by omega)
    rw [lapE, if_pos rfl, wAt_sum h0 (by omega) 1 (by omega)] at h
    have h' : at2 (lapM 5 ws) 1 1 = _ := h
    rw [h']
    simp [sumN, wBtw_self, wBtw_comm ws 1 0]
  have d2 : at2 (lapM 5 ws) 2 2 = wBtw ws 0 2 + wBtw ws 1 2 + wBtw ws 2 3 + wBtw ws 2 4 := by
    have h := at2_lap (N := 5) ws (i := 2) (j := 2) (by omega) (by omega)
    rw [lapE, if_pos rfl, wAt_sum h0 (by omega) 2 (by omega)] at h
    have h' : at2 (lapM 5 ws) 2 2 = _ := h
    rw [h']
    simp [sumN, wBtw_self, wBtw_comm ws 2 0, wBtw_comm ws 2 1]
  have d3 : at2 (lapM 5 ws) 3 3 = wBtw ws 0 3 + wBtw ws 1 3 + wBtw ws 2 3 + wBtw ws 3 4 := by
    have h := at2_lap (N := 5) ws (i := 3) (j := 3) (by omega) (by omega)
    rw [lapE, if_pos rfl, wAt_sum h0 (by omega) 3 (by omega)] at h
    have h' : at2 (lapM 5 ws) 3 3 = _ := h
    rw [h']
    simp [sumN, wBtw_self, wBtw_comm ws 3 0, wBtw_comm ws 3 1, wBtw_comm ws 3 2]
  have d4 : at2 (lapM 5 ws) 4 4 = wBtw ws 0 4 + wBtw ws 1 4 + wBtw ws 2 4 + wBtw ws 3 4 := by
    have h := at2_lap (N := 5) ws (i := 4) (j := 4) (by omega) (by omega)
    rw [lapE, if_pos rfl, wAt_sum h0 (by omega) 4 (by omega)] at h
    have h' : at2 (lapM 5 ws) 4 4 = _ := h
    rw [h']
    simp [sumN, wBtw_self, wBtw_comm ws 4 0, wBtw_comm ws 4 1, wBtw_comm ws 4 2, wBtw_comm ws 4 3]
  have hb' : b = 0 ∨ b = 1 ∨ b = 2 ∨ b = 3 ∨ b = 4 := by omega
  clear hb h0
  rcases hb' with rfl | rfl | rfl | rfl | rfl <;> simp [minI, w5_0, w5_1, w5_2, w5_3, w5_4, det4, det3, e01, e02, e03, e04, e10, e12, e13, e14, e20, e21, e23, e24, e30, e31, e32, e34, e40, e41, e42, e43, d0, d1, d2, d3, d4] <;> grind
theorem min_same {N : Nat} {ws : List W3} (h : WiresV N ws) (h2 : 2 ≤ N) (hN : N ≤ 5) (b : Nat) (hb : b < N) : minI (lapM N ws) N b = minI (lapM N ws) N 0 := by
  have h' : N = 2 ∨ N = 3 ∨ N = 4 ∨ N = 5 := by omega
  rcases h' with rfl | rfl | rfl | rfl
  · exact min_same2 h b hb
  · exact min_same3 h b hb
  · exact min_same4 h b hb
  · exact min_same5 h b hb
/-- The minor without node 0 is what TreeSum answers. -/
theorem minI_tree {N : Nat} {e s : Int} {ws : List W3} (h : netB N e s ws = true) : treeR N e s ws = minI (lapM N ws) N 0 := by
  unfold treeR minI; rw [if_pos h, Int.toNat_natCast]; rfl
end Go.Proofs.Ytnbbmpilpeakiaa
