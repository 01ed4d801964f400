/-
  The sums of forests on both sides of a node make its potential.
-/
import Derived.Test.YtaececpphdaciaaGKir
namespace Go.Proofs.Ytaececpphdaciaa
open Go.RowKit

/-- The minor without two nodes; nothing for equal nodes. -/
def forD (m : MatI) (N a b : Nat) : Int := if a = b then 0 else detD m (woL N [((min a b : Nat) : Int), ((max a b : Nat) : Int)]) (woL N [((min a b : Nat) : Int), ((max a b : Nat) : Int)])
theorem forD_comm (m : MatI) (N a b : Nat) : forD m N a b = forD m N b a := by
  unfold forD
  rw [Nat.min_comm, Nat.max_comm]
  by_cases h : a = b
  · rw [if_pos h, if_pos h.symm]
  · rw [if_neg h, if_neg (Ne.symm h)]
theorem potI_self (m : MatI) (N a b : Nat) (h : a ≠ b) : potI m N a b a = forD m N a b := by
  unfold potI forD
  rw [if_neg h, if_neg h]
  have e : sgn (idx a b + idx a b) = 1 := by unfold sgn; rw [if_pos (by omega)]
  rw [e, Int.one_mul]
set_option maxHeartbeats 8000000 in
theorem side3_0 {ws : List W3} (h0 : WiresV (3 : Nat) ws) (a v : Nat) (ha : a < 3) (hv : v < 3) (hab : a ≠ 0) (hvb : v ≠ 0) (hva : v ≠ a) : forD (lapM 3 ws) 3 a 0 + forD (lapM 3 ws) 3 v 0 - forD (lapM 3 ws) 3 a v = 2 * potI (lapM 3 ws) 3 a 0 v := by
  have e01 : at2 (lapM 3 ws) 0 1 = -wBtw ws 0 1 := by have h := at2_lap (N := 3) ws (i := 0) (j := 1) (by omega) (by omega); rw [lapE, if_neg (by omega)] at h; exact h
  have e02 : at2 (lapM 3 ws) 0 2 = -wBtw ws 0 2 := by have h := at2_lap (N := 3) ws (i := 0) (j := 2) (by omega) (by omega); rw [lapE, if_neg (by omega)] at h; exact h
  have e10 : at2 (lapM 3 ws) 1 0 = -wBtw ws 0 1 := by have h := at2_lap (N := 3) ws (i := 1) (j := 0) (by omega) (by omega); rw [lapE, if_neg (by omega), wBtw_comm] at h; exact h
  have e12 : at2 (lapM 3 ws) 1 2 = -wBtw ws 1 2 := by have h := at2_lap (N := 3) ws (i := 1) (j := 2) (by omega) (by omega); rw [lapE, if_neg (by omega)] at h; exact h
  have e20 : at2 (lapM 3 ws) 2 0 = -wBtw ws 0 2 := by have h := at2_lap (N := 3) ws (i := 2) (j := 0) (by omega) (by omega); rw [lapE, if_neg (by omega), wBtw_comm] at h; exact h
  have e21 : at2 (lapM 3 ws) 2 1 = -wBtw ws 1 2 := by have h := at2_lap (N := 3) ws (i := 2) (j := 1) (by omega) (by omega); rw [lapE, if_neg (by omega), wBtw_comm] at h; exact h
  have d0 : at2 (lapM 3 ws) 0 0 = wBtw ws 0 1 + wBtw ws 0 2 := by
    have h := at2_lap (N := 3) ws (i := 0) (j := 0) (by omega) (by omega)
    rw [lapE, if_pos rfl, wAt_sum h0 (by omega) 0 (by omega)] at h
    have h' : at2 (lapM 3 ws) 0 0 = _ := h
    rw [h']
    simp [sumN, wBtw_self]
  have d1 : at2 (lapM 3 ws) 1 1 = wBtw ws 0 1 + wBtw ws 1 2 := by
    have h := at2_lap (N := 3) ws (i := 1) (j := 1) (by omega) (by omega)
    rw [lapE, if_pos rfl, wAt_sum h0 (by omega) 1 (by omega)] at h
    have h' : at2 (lapM 3 ws) 1 1 = _ := h
    rw [h']
    simp [sumN, wBtw_self, wBtw_comm ws 1 0]
  have d2 : at2 (lapM 3 ws) 2 2 = wBtw ws 0 2 + wBtw ws 1 2 := by
    have h := at2_lap (N := 3) ws (i := 2) (j := 2) (by omega) (by omega)
    rw [lapE, if_pos rfl, wAt_sum h0 (by omega) 2 (by omega)] at h
    have h' : at2 (lapM 3 ws) 2 2 = _ := h
    rw [h']
    simp [sumN, wBtw_self, wBtw_comm ws 2 0, wBtw_comm ws 2 1]
  have ha' : a = 0 ∨ a = 1 ∨ a = 2 := by omega
  have hv' : v = 0 ∨ v = 1 ∨ v = 2 := by omega
  clear ha hv h0
  have W0 := w3_01
  have W1 := w3_02
  have W2 := w3_12
  generalize lapM 3 ws = M at *
  generalize wBtw ws 0 1 = x01 at *
  generalize wBtw ws 0 2 = x02 at *
  generalize wBtw ws 1 2 = x12 at *
  rcases ha' with rfl | rfl | rfl <;> first | (exfalso; exact hab rfl) | (rcases hv' with rfl | rfl | rfl <;> first | (exfalso; exact hvb rfl) | (exfalso; exact hva rfl) | (clear hab hvb hva; simp [forD, potI, idx, sgn, det1, *] <;> grind))
set_option maxHeartbeats 8000000 in
theorem side3_1 {ws : List W3} (h0 : WiresV (3 : Nat) ws) (a v : Nat) (ha : a < 3) (hv : v < 3) (hab : a ≠ 1) (hvb : v ≠ 1) (hva : v ≠ a) : forD (lapM 3 ws) 3 a 1 + forD (lapM 3 ws) 3 v 1 - forD (lapM 3 ws) 3 a v = 2 * potI (lapM 3 ws) 3 a 1 v := by
  have e01 : at2 (lapM 3 ws) 0 1 = -wBtw ws 0 1 := by have h := at2_lap (N := 3) ws (i := 0) (j := 1) (by omega) (by omega); rw [lapE, if_neg (by omega)] at h; exact h
  have e02 : at2 (lapM 3 ws) 0 2 = -wBtw ws 0 2 := by have h := at2_lap (N := 3) ws (i := 0) (j := 2) (by omega) (by omega); rw [lapE, if_neg (by omega)] at h; exact h
  have e10 : at2 (lapM 3 ws) 1 0 = -wBtw ws 0 1 := by have h := at2_lap (N := 3) ws (i := 1) (j := 0) (by omega) (by omega); rw [lapE, if_neg (by omega), wBtw_comm] at h; exact h
  have e12 : at2 (lapM 3 ws) 1 2 = -wBtw ws 1 2 := by have h := at2_lap (N := 3) ws (i := 1) (j := 2) (by omega) (by omega); rw [lapE, if_neg (by omega)] at h; exact h
  have e20 : at2 (lapM 3 ws) 2 0 = -wBtw ws 0 2 := by have h := at2_lap (N := 3) ws (i := 2) (j := 0) (by omega) (by omega); rw [lapE, if_neg (by omega), wBtw_comm] at h; exact h
  have e21 : at2 (lapM 3 ws) 2 1 = -wBtw ws 1 2 := by have h := at2_lap (N := 3) ws (i := 2) (j := 1) (by omega) (by omega); rw [lapE, if_neg (by omega), wBtw_comm] at h; exact h
  have d0 : at2 (lapM 3 ws) 0 0 = wBtw ws 0 1 + wBtw ws 0 2 := by
    have h := at2_lap (N := 3) ws (i := 0) (j := 0) (by omega) (by omega)
    rw [lapE, if_pos rfl, wAt_sum h0 (by omega) 0 (by omega)] at h
    have h' : at2 (lapM 3 ws) 0 0 = _ := h
    rw [h']
    simp [sumN, wBtw_self]
  have d1 : at2 (lapM 3 ws) 1 1 = wBtw ws 0 1 + wBtw ws 1 2 := by
    have h := at2_lap (N := 3) ws (i := 1) (j := 1) (by omega) (by omega)
    rw [lapE, if_pos rfl, wAt_sum h0 (by omega) 1 (by omega)] at h
    have h' : at2 (lapM 3 ws) 1 1 = _ := h
    rw [h']
    simp [sumN, wBtw_self, wBtw_comm ws 1 0]
  have d2 : at2 (lapM 3 ws) 2 2 = wBtw ws 0 2 + wBtw ws 1 2 := by
    have h := at2_lap (N := 3) ws (i := 2) (j := 2) (by omega) (by omega)
    rw [lapE, if_pos rfl, wAt_sum h0 (by omega) 2 (by omega)] at h
    have h' : at2 (lapM 3 ws) 2 2 = _ := h
    rw [h']
    simp [sumN, wBtw_self, wBtw_comm ws 2 0, wBtw_comm ws 2 1]
  have ha' : a = 0 ∨ a = 1 ∨ a = 2 := by omega
  have hv' : v = 0 ∨ v = 1 ∨ v = 2 := by omega
  clear ha hv h0
  have W0 := w3_01
  have W1 := w3_02
  have W2 := w3_12
  generalize lapM 3 ws = M at *
  generalize wBtw ws 0 1 = x01 at *
  generalize wBtw ws 0 2 = x02 at *
  generalize wBtw ws 1 2 = x12 at *
  rcases ha' with rfl | rfl | rfl <;> first | (exfalso; exact hab rfl) | (rcases hv' with rfl | rfl | rfl <;> first | (exfalso; exact hvb rfl) | (exfalso; exact hva rfl) | (clear hab hvb hva; simp [forD, potI, idx, sgn, det1, *] <;> grind))
set_option maxHeartbeats 8000000 in
theorem side3_2 {ws : List W3} (h0 : WiresV (3 : Nat) ws) (a v : Nat) (ha : a < 3) (hv : v < 3) (hab : a ≠ 2) (hvb : v ≠ 2) (hva : v ≠ a) : forD (lapM 3 ws) 3 a 2 + forD (lapM 3 ws) 3 v 2 - forD (lapM 3 ws) 3 a v = 2 * potI (lapM 3 ws) 3 a 2 v := by
  have e01 : at2 (lapM 3 ws) 0 1 = -wBtw ws 0 1 := by have h := at2_lap (N := 3) ws (i := 0) (j := 1) (by omega) (by omega); rw [lapE, if_neg (by omega)] at h; exact h
  have e02 : at2 (lapM 3 ws) 0 2 = -wBtw ws 0 2 := by have h := at2_lap (N := 3) ws (i := 0) (j := 2) (by omega) (by omega); rw [lapE, if_neg (by omega)] at h; exact h
  have e10 : at2 (lapM 3 ws) 1 0 = -wBtw ws 0 1 := by have h := at2_lap (N := 3) ws (i := 1) (j := 0) (by omega) (by omega); rw [lapE, if_neg (by omega), wBtw_comm] at h; exact h
  have e12 : at2 (lapM 3 ws) 1 2 = -wBtw ws 1 2 := by have h := at2_lap (N := 3) ws (i := 1) (j := 2) (by omega) (by omega); rw [lapE, if_neg (by omega)] at h; exact h
  have e20 : at2 (lapM 3 ws) 2 0 = -wBtw ws 0 2 := by have h := at2_lap (N := 3) ws (i := 2) (j := 0) (by omega) (by omega); rw [lapE, if_neg (by omega), wBtw_comm] at h; exact h
  have e21 : at2 (lapM 3 ws) 2 1 = -wBtw ws 1 2 := by have h := at2_lap (N := 3) ws (i := 2) (j := 1) (by omega) (by omega); rw [lapE, if_neg (by omega), wBtw_comm] at h; exact h
  have d0 : at2 (lapM 3 ws) 0 0 = wBtw ws 0 1 + wBtw ws 0 2 := by
    have h := at2_lap (N := 3) ws (i := 0) (j := 0) (by omega) (by omega)
    rw [lapE, if_pos rfl, wAt_sum h0 (by omega) 0 (by omega)] at h
    have h' : at2 (lapM 3 ws) 0 0 = _ := h
    rw [h']
    simp [sumN, wBtw_self]
  have d1 : at2 (lapM 3 ws) 1 1 = wBtw ws 0 1 + wBtw ws 1 2 := by
    have h := at2_lap (N := 3) ws (i := 1) (j := 1) (by omega) (by omega)
    rw [lapE, if_pos rfl, wAt_sum h0 (by omega) 1 (by omega)] at h
    have h' : at2 (lapM 3 ws) 1 1 = _ := h
    rw [h']
    simp [sumN, wBtw_self, wBtw_comm ws 1 0]
  have d2 : at2 (lapM 3 ws) 2 2 = wBtw ws 0 2 + wBtw ws 1 2 := by
    have h := at2_lap (N := 3) ws (i := 2) (j := 2) (by omega) (by omega)
    rw [lapE, if_pos rfl, wAt_sum h0 (by omega) 2 (by omega)] at h
    have h' : at2 (lapM 3 ws) 2 2 = _ := h
    rw [h']
    simp [sumN, wBtw_self, wBtw_comm ws 2 0, wBtw_comm ws 2 1]
  have ha' : a = 0 ∨ a = 1 ∨ a = 2 := by omega
  have hv' : v = 0 ∨ v = 1 ∨ v = 2 := by omega
  clear ha hv h0
  have W0 := w3_01
  have W1 := w3_02
  have W2 := w3_12
  generalize lapM 3 ws = M at *
  generalize wBtw ws 0 1 = x01 at *
  generalize wBtw ws 0 2 = x02 at *
  generalize wBtw ws 1 2 = x12 at *
  rcases ha' with rfl | rfl | rfl <;> first | (exfalso; exact hab rfl) | (rcases hv' with rfl | rfl | rfl <;> first | (exfalso; exact hvb rfl) | (exfalso; exact hva rfl) | (clear hab hvb hva; simp [forD, potI, idx, sgn, det1, *] <;> grind))
set_option maxHeartbeats 8000000 in
theorem side4_0 {ws : List W3} (h0 : WiresV (4 : Nat) ws) (a v : Nat) (ha : a < 4) (hv : v < 4) (hab : a ≠ 0) (hvb : v ≠ 0) (hva : v ≠ a) : forD (lapM 4 ws) 4 a 0 + forD (lapM 4 ws) 4 v 0 - forD (lapM 4 ws) 4 a v = 2 * potI (lapM 4 ws) 4 a 0 v := by
  have e01 : at2 (lapM 4 ws) 0 1 = -wBtw ws 0 1 := by have h := at2_lap (N := 4) ws (i := 0) (j := 1) (by omega) (by omega); rw [lapE, if_neg (by omega)] at h; exact h
  have e02 : at2 (lapM 4 ws) 0 2 = -wBtw ws 0 2 := by have h := at2_lap (N := 4) ws (i := 0) (j := 2) (by omega) (by omega); rw [lapE, if_neg (by omega)] at h; exact h
  have e03 : at2 (lapM 4 ws) 0 3 = -wBtw ws 0 3 := by have h := at2_lap (N := 4) ws (i := 0) (j := 3) (by omega) (by omega); rw [lapE, if_neg (by omega)] at h; exact h
  have e10 : at2 (lapM 4 ws) 1 0 = -wBtw ws 0 1 := by have h := at2_lap (N := 4) ws (i := 1) (j := 0) (by omega) (by omega); rw [lapE, if_neg (by omega), wBtw_comm] at h; exact h
  have e12 : at2 (lapM 4 ws) 1 2 = -wBtw ws 1 2 := by have h := at2_lap (N := 4) ws (i := 1) (j := 2) (by omega) (by omega); rw [lapE, if_neg (by omega)] at h; exact h
  have e13 : at2 (lapM 4 ws) 1 3 = -wBtw ws 1 3 := by have h := at2_lap (N := 4) ws (i := 1) (j := 3) (by omega) (by omega); rw [lapE, if_neg (by omega)] at h; exact h
  have e20 : at2 (lapM 4 ws) 2 0 = -wBtw ws 0 2 := by have h := at2_lap (N := 4) ws (i := 2) (j := 0) (by omega) (by omega); rw [lapE, if_neg (by omega), wBtw_comm] at h; exact h
  have e21 : at2 (lapM 4 ws) 2 1 = -wBtw ws 1 2 := by have h := at2_lap (N := 4) ws (i := 2) (j := 1) (by omega) (by omega); rw [lapE, if_neg (by omega), wBtw_comm] at h; exact h
  have e23 : at2 (lapM 4 ws) 2 3 = -wBtw ws 2 3 := by have h := at2_lap (N := 4) ws (i := 2) (j := 3) (by omega) (by omega); rw [lapE, if_neg (by omega)] at h; exact h
  have e30 : at2 (lapM 4 ws) 3 0 = -wBtw ws 0 3 := by have h := at2_lap (N := 4) ws (i := 3) (j := 0) (by omega) (by omega); rw [lapE, if_neg (by omega), wBtw_comm] at h; exact h
  have e31 : at2 (lapM 4 ws) 3 1 = -wBtw ws 1 3 := by have h := at2_lap (N := 4) ws (i := 3) (j := 1) (by omega) (by omega); rw [lapE, if_neg (by omega), wBtw_comm] at h; exact h
  have e32 : at2 (lapM 4 ws) 3 2 = -wBtw ws 2 3 := by have h := at2_lap (N := 4) ws (i := 3) (j := 2) (by omega) (by omega); rw [lapE, if_neg (by omega), wBtw_comm] at h; exact h
  have d0 : at2 (lapM 4 ws) 0 0 = wBtw ws 0 1 + wBtw ws 0 2 + wBtw ws 0 3 := by
    have h := at2_lap (N := 4) ws (i := 0) (j := 0) (by omega) (by omega)
    rw [lapE, if_pos rfl, wAt_sum h0 (by omega) 0 (by omega)] at h
    have h' : at2 (lapM 4 ws) 0 0 = _ := h
    rw [h']
    simp [sumN, wBtw_self]
  have d1 : at2 (lapM 4 ws) 1 1 = wBtw ws 0 1 + wBtw ws 1 2 + wBtw ws 1 3 := by
    have h := at2_lap (N := 4) ws (i := 1) (j := 1) (by omega) (by omega)
    rw [lapE, if_pos rfl, wAt_sum h0 (by omega) 1 (by omega)] at h
    have h' : at2 (lapM 4 ws) 1 1 = _ := h
    rw [h']
    simp [sumN, wBtw_self, wBtw_comm ws 1 0]
  have d2 : at2 (lapM 4 ws) 2 2 = wBtw ws 0 2 + wBtw ws 1 2 + wBtw ws 2 3 := by
    have h := at2_lap (N := 4) ws (i := 2) (j := 2) (by omega) (by omega)
    rw [lapE, if_pos rfl, wAt_sum h0 (by omega) 2 (by omega)] at h
    have h' : at2 (lapM 4 ws) 2 2 = _ := h
    rw [h']
    simp [sumN, wBtw_self, wBtw_comm ws 2 0, wBtw_comm ws 2 1]
  have d3 : at2 (lapM 4 ws) 3 3 = wBtw ws 0 3 + wBtw ws 1 3 + wBtw ws 2 3 := by
    have h := at2_lap (N := 4) ws (i := 3) (j := 3) (by omega) (by omega)
    rw [lapE, if_pos rfl, wAt_sum h0 (by omega) 3 (by omega)] at h
    have h' : at2 (lapM 4 ws) 3 3 = _ := h
    rw [h']
    simp [sumN, wBtw_self, wBtw_comm ws 3 0, wBtw_comm ws 3 1, wBtw_comm ws 3 2]
  have ha' : a = 0 ∨ a = 1 ∨ a = 2 ∨ a = 3 := by omega
  have hv' : v = 0 ∨ v = 1 ∨ v = 2 ∨ v = 3 := by omega
  clear ha hv h0
  have W0 := w4_01
  have W1 := w4_02
  have W2 := w4_03
  have W3 := w4_12
  have W4 := w4_13
  have W5 := w4_23
  generalize lapM 4 ws = M at *
  generalize wBtw ws 0 1 = x01 at *
  generalize wBtw ws 0 2 = x02 at *
  generalize wBtw ws 0 3 = x03 at *
  generalize wBtw ws 1 2 = x12 at *
  generalize wBtw ws 1 3 = x13 at *
  generalize wBtw ws 2 3 = x23 at *
  rcases ha' with rfl | rfl | rfl | rfl <;> first | (exfalso; exact hab rfl) | (rcases hv' with rfl | rfl | rfl | rfl <;> first | (exfalso; exact hvb rfl) | (exfalso; exact hva rfl) | (clear hab hvb hva; simp [forD, potI, idx, sgn, det2, *] <;> grind))
set_option maxHeartbeats 8000000 in
theorem side4_1 {ws : List W3} (h0 : WiresV (4 : Nat) ws) (a v : Nat) (ha : a < 4) (hv : v < 4) (hab : a ≠ 1) (hvb : v ≠ 1) (hva : v ≠ a) : forD (lapM 4 ws) 4 a 1 + forD (lapM 4 ws) 4 v 1 - forD (lapM 4 ws) 4 a v = 2 * potI (lapM 4 ws) 4 a 1 v := by
  have e01 : at2 (lapM 4 ws) 0 1 = -wBtw ws 0 1 := by have h := at2_lap (N := 4) ws (i := 0) (j := 1) (by omega) (by omega); rw [lapE, if_neg (by omega)] at h; exact h
  have e02 : at2 (lapM 4 ws) 0 2 = -wBtw ws 0 2 := by have h := at2_lap (N := 4) ws (i := 0) (j := 2) (by omega) (by omega); rw [lapE, if_neg (by omega)] at h; exact h
  have e03 : at2 (lapM 4 ws) 0 3 = -wBtw ws 0 3 := by have h := at2_lap (N := 4) ws (i := 0) (j := 3) (by omega) (by omega); rw [lapE, if_neg (by omega)] at h; exact h
  have e10 : at2 (lapM 4 ws) 1 0 = -wBtw ws 0 1 := by have h := at2_lap (N := 4) ws (i := 1) (j := 0) (by omega) (by omega); rw [lapE, if_neg (by omega), wBtw_comm] at h; exact h
  have e12 : at2 (lapM 4 ws) 1 2 = -wBtw ws 1 2 := by have h := at2_lap (N := 4) ws (i := 1) (j := 2) (by omega) (by omega); rw [lapE, if_neg (by omega)] at h; exact h
  have e13 : at2 (lapM 4 ws) 1 3 = -wBtw ws 1 3 := by have h := at2_lap (N := 4) ws (i := 1) (j := 3) (by omega) (by omega); rw [lapE, if_neg (by omega)] at h; exact h
  have e20 : at2 (lapM 4 ws) 2 0 = -wBtw ws 0 2 := by have h := at2_lap (N := 4) ws (i := 2) (j := 0) (by omega) (by omega); rw [lapE, if_neg (by omega), wBtw_comm] at h; exact h
  have e21 : at2 (lapM 4 ws) 2 1 = -wBtw ws 1 2 := by have h := at2_lap (N := 4) ws (i := 2) (j := 1) (by omega) (by omega); rw [lapE, if_neg (by omega), wBtw_comm] at h; exact h
  have e23 : at2 (lapM 4 ws) 2 3 = -wBtw ws 2 3 := by have h := at2_lap (N := 4) ws (i := 2) (j := 3) (by omega) (by omega); rw [lapE, if_neg (by omega)] at h; exact h
  have e30 : at2 (lapM 4 ws) 3 0 = -wBtw ws 0 3 := by have h := at2_lap (N := 4) ws (i := 3) (j := 0) (by omega) (by omega); rw [lapE, if_neg (by omega), wBtw_comm] at h; exact h
  have e31 : at2 (lapM 4 ws) 3 1 = -wBtw ws 1 3 := by have h := at2_lap (N := 4) ws (i := 3) (j := 1) (by omega) (by omega); rw [lapE, if_neg (by omega), wBtw_comm] at h; exact h
  have e32 : at2 (lapM 4 ws) 3 2 = -wBtw ws 2 3 := by have h := at2_lap (N := 4) ws (i := 3) (j := 2) (by omega) (by omega); rw [lapE, if_neg (by omega), wBtw_comm] at h; exact h
  have d0 : at2 (lapM 4 ws) 0 0 = wBtw ws 0 1 + wBtw ws 0 2 + wBtw ws 0 3 := by
    have h := at2_lap (N := 4) ws (i := 0) (j := 0) (by omega) (by omega)
    rw [lapE, if_pos rfl, wAt_sum h0 (by omega) 0 (by omega)] at h
    have h' : at2 (lapM 4 ws) 0 0 = _ := h
    rw [h']
    simp [sumN, wBtw_self]
  have d1 : at2 (lapM 4 ws) 1 1 = wBtw ws 0 1 + wBtw ws 1 2 + wBtw ws 1 3 := by
    have h := at2_lap (N := 4) ws (i := 1) (j := 1) (by omega) (by omega)
    rw [lapE, if_pos rfl, wAt_sum h0 (by omega) 1 (by omega)] at h
    have h' : at2 (lapM 4 ws) 1 1 = _ := h
    rw [h']
    simp [sumN, wBtw_self, wBtw_comm ws 1 0]
  have d2 : at2 (lapM 4 ws) 2 2 = wBtw ws 0 2 + wBtw ws 1 2 + wBtw ws 2 3 := by
    have h := at2_lap (N := 4) ws (i := 2) (j := 2) (by omega) (by omega)
    rw [lapE, if_pos rfl, wAt_sum h0 (by omega) 2 (by omega)] at h
    have h' : at2 (lapM 4 ws) 2 2 = _ := h
    rw [h']
    simp [sumN, wBtw_self, wBtw_comm ws 2 0, wBtw_comm ws 2 1]
  have d3 : at2 (lapM 4 ws) 3 3 = wBtw ws 0 3 + wBtw ws 1 3 + wBtw ws 2 3 := by
    have h := at2_lap (N := 4) ws (i := 3) (j := 3) (by omega) (by omega)
    rw [lapE, if_pos rfl, wAt_sum h0 (by omega) 3 (by omega)] at h
    have h' : at2 (lapM 4 ws) 3 3 = _ := h
    rw [h']
    simp [sumN, wBtw_self, wBtw_comm ws 3 0, wBtw_comm ws 3 1, wBtw_comm ws 3 2]
  have ha' : a = 0 ∨ a = 1 ∨ a = 2 ∨ a = 3 := by omega
  have hv' : v = 0 ∨ v = 1 ∨ v = 2 ∨ v = 3 := by omega
  clear ha hv h0
  have W0 := w4_01
  have W1 := w4_02
  have W2 := w4_03
  have W3 := w4_12
  have W4 := w4_13
  have W5 := w4_23
  generalize lapM 4 ws = M at *
  generalize wBtw ws 0 1 = x01 at *
  generalize wBtw ws 0 2 = x02 at *
  generalize wBtw ws 0 3 = x03 at *
  generalize wBtw ws 1 2 = x12 at *
  generalize wBtw ws 1 3 = x13 at *
  generalize wBtw ws 2 3 = x23 at *
  rcases ha' with rfl | rfl | rfl | rfl <;> first | (exfalso; exact hab rfl) | (rcases hv' with rfl | rfl | rfl | rfl <;> first | (exfalso; exact hvb rfl) | (exfalso; exact hva rfl) | (clear hab hvb hva; simp [forD, potI, idx, sgn, det2, *] <;> grind))
set_option maxHeartbeats 8000000 in
theorem side4_2 {ws : List W3} (h0 : WiresV (4 : Nat) ws) (a v : Nat) (ha : a < 4) (hv : v < 4) (hab : a ≠ 2) (hvb : v ≠ 2) (hva : v ≠ a) : forD (lapM 4 ws) 4 a 2 + forD (lapM 4 ws) 4 v 2 - forD (lapM 4 ws) 4 a v = 2 * potI (lapM 4 ws) 4 a 2 v := by
  have e01 : at2 (lapM 4 ws) 0 1 = -wBtw ws 0 1 := by have h := at2_lap (N := 4) ws (i := 0) (j := 1) (by omega) (by omega); rw [lapE, if_neg (by omega)] at h; exact h
  have e02 : at2 (lapM 4 ws) 0 2 = -wBtw ws 0 2 := by have h := at2_lap (N := 4) ws (i := 0) (j := 2) (by omega) (by omega); rw [lapE, if_neg (by omega)] at h; exact h
  have e03 : at2 (lapM 4 ws) 0 3 = -wBtw ws 0 3 := by have h := at2_lap (N := 4) ws (i := 0) (j := 3) (by omega) (by omega); rw [lapE, if_neg (by omega)] at h; exact h
  have e10 : at2 (lapM 4 ws) 1 0 = -wBtw ws 0 1 := by have h := at2_lap (N := 4) ws (i := 1) (j := 0) (by omega) (by omega); rw [lapE, if_neg (by omega), wBtw_comm] at h; exact h
  have e12 : at2 (lapM 4 ws) 1 2 = -wBtw ws 1 2 := by have h := at2_lap (N := 4) ws (i := 1) (j := 2) (by omega) (by omega); rw [lapE, if_neg (by omega)] at h; exact h
  have e13 : at2 (lapM 4 ws) 1 3 = -wBtw ws 1 3 := by have h := at2_lap (N := 4) ws (i := 1) (j := 3) (by omega) (by omega); rw [lapE, if_neg (by omega)] at h; exact h
  have e20 : at2 (lapM 4 ws) 2 0 = -wBtw ws 0 2 := by have h := at2_lap (N := 4) ws (i := 2) (j := 0) (by omega) (by omega); rw [lapE, if_neg (by omega), wBtw_comm] at h; exact h
  have e21 : at2 (lapM 4 ws) 2 1 = -wBtw ws 1 2 := by have h := at2_lap (N := 4) ws (i := 2) (j := 1) (by omega) (by omega); rw [lapE, if_neg (by omega), wBtw_comm] at h; exact h
  have e23 : at2 (lapM 4 ws) 2 3 = -wBtw ws 2 3 := by have h := at2_lap (N := 4) ws (i := 2) (j := 3) (by omega) (by omega); rw [lapE, if_neg (by omega)] at h; exact h
  have e30 : at2 (lapM 4 ws) 3 0 = -wBtw ws 0 3 := by have h := at2_lap (N := 4) ws (i := 3) (j := 0) (by omega) (by omega); rw [lapE, if_neg (by omega), wBtw_comm] at h; exact h
  have e31 : at2 (lapM 4 ws) 3 1 = -wBtw ws 1 3 := by have h := at2_lap (N := 4) ws (i := 3) (j := 1) (by omega) (by omega); rw [lapE, if_neg (by omega), wBtw_comm] at h; exact h
  have e32 : at2 (lapM 4 ws) 3 2 = -wBtw ws 2 3 := by have h := at2_lap (N := 4) ws (i := 3) (j := 2) (by omega) (by omega); rw [lapE, if_neg (by omega), wBtw_comm] at h; exact h
  have d0 : at2 (lapM 4 ws) 0 0 = wBtw ws 0 1 + wBtw ws 0 2 + wBtw ws 0 3 := by
    have h := at2_lap (N := 4) ws (i := 0) (j := 0) (by omega) (by omega)
    rw [lapE, if_pos rfl, wAt_sum h0 (by omega) 0 (by omega)] at h
    have h' : at2 (lapM 4 ws) 0 0 = _ := h
    rw [h']
    simp [sumN, wBtw_self]
  have d1 : at2 (lapM 4 ws) 1 1 = wBtw ws 0 1 + wBtw ws 1 2 + wBtw ws 1 3 := by
    have h := at2_lap (N := 4) ws (i := 1) (j := 1) (by omega) (by omega)
    rw [lapE, if_pos rfl, wAt_sum h0 (by omega) 1 (by omega)] at h
    have h' : at2 (lapM 4 ws) 1 1 = _ := h
    rw [h']
    simp [sumN, wBtw_self, wBtw_comm ws 1 0]
  have d2 : at2 (lapM 4 ws) 2 2 = wBtw ws 0 2 + wBtw ws 1 2 + wBtw ws 2 3 := by
    have h := at2_lap (N := 4) ws (i := 2) (j := 2) (by omega) (by omega)
    rw [lapE, if_pos rfl, wAt_sum h0 (by omega) 2 (by omega)] at h
    have h' : at2 (lapM 4 ws) 2 2 = _ := h
    rw [h']
    simp [sumN, wBtw_self, wBtw_comm ws 2 0, wBtw_comm ws 2 1]
  have d3 : at2 (lapM 4 ws) 3 3 = wBtw ws 0 3 + wBtw ws 1 3 + wBtw ws 2 3 := by
    have h := at2_lap (N := 4) ws (i := 3) (j := 3) (by omega) (by omega)
    rw [lapE, if_pos rfl, wAt_sum h0 (by omega) 3 (by omega)] at h
    have h' : at2 (lapM 4 ws) 3 3 = _ := h
    rw [h']
    simp [sumN, wBtw_self, wBtw_comm ws 3 0, wBtw_comm ws 3 1, wBtw_comm ws 3 2]
  have ha' : a = 0 ∨ a = 1 ∨ a = 2 ∨ a = 3 := by omega
  have hv' : v = 0 ∨ v = 1 ∨ v = 2 ∨ v = 3 := by omega
  clear ha hv h0
  have W0 := w4_01
  have W1 := w4_02
  have W2 := w4_03
  have W3 := w4_12
  have W4 := w4_13
  have W5 := w4_23
  generalize lapM 4 ws = M at *
  generalize wBtw ws 0 1 = x01 at *
  generalize wBtw ws 0 2 = x02 at *
  generalize wBtw ws 0 3 = x03 at *
  generalize wBtw ws 1 2 = x12 at *
  generalize wBtw ws 1 3 = x13 at *
  generalize wBtw ws 2 3 = x23 at *
  rcases ha' with rfl | rfl | rfl | rfl <;> first | (exfalso; exact hab rfl) | (rcases hv' with rfl | rfl | rfl | rfl <;> first | (exfalso; exact hvb rfl) | (exfalso; exact hva rfl) | (clear hab hvb hva; simp [forD, potI, idx, sgn, det2, *] <;> grind))
set_option maxHeartbeats 8000000 in
theorem side4_3 {ws : List W3} (h0 : WiresV (4 : Nat) ws) (a v : Nat) (ha : a < 4) (hv : v < 4) (hab : a ≠ 3) (hvb : v ≠ 3) (hva : v ≠ a) : forD (lapM 4 ws) 4 a 3 + forD (lapM 4 ws) 4 v 3 - forD (lapM 4 ws) 4 a v = 2 * potI (lapM 4 ws) 4 a 3 v := by
  have e01 : at2 (lapM 4 ws) 0 1 = -wBtw ws 0 1 := by have h := at2_lap (N := 4) ws (i := 0) (j := 1) (by omega) (by omega); rw [lapE, if_neg (by omega)] at h; exact h
  have e02 : at2 (lapM 4 ws) 0 2 = -wBtw ws 0 2 := by have h := at2_lap (N := 4) ws (i := 0) (j := 2) (by omega) (by omega); rw [lapE, if_neg (by omega)] at h; exact h
  have e03 : at2 (lapM 4 ws) 0 3 = -wBtw ws 0 3 := by have h := at2_lap (N := 4) ws (i := 0) (j := 3) (by omega) (by omega); rw [lapE, if_neg (by omega)] at h; exact h
  have e10 : at2 (lapM 4 ws) 1 0 = -wBtw ws 0 1 := by have h := at2_lap (N := 4) ws (i := 1) (j := 0) (by omega) (by omega); rw [lapE, if_neg (by omega), wBtw_comm] at h; exact h
  have e12 : at2 (lapM 4 ws) 1 2 = -wBtw ws 1 2 := by have h := at2_lap (N := 4) ws (i := 1) (j := 2) (by omega) (by omega); rw [lapE, if_neg (by omega)] at h; exact h
  have e13 : at2 (lapM 4 ws) 1 3 = -wBtw ws 1 3 := by have h := at2_lap (N := 4) ws (i := 1) (j := 3) (by omega) (by omega); rw [lapE, if_neg (by omega)] at h; exact h
  have e20 : at2 (lapM 4 ws) 2 0 = -wBtw ws 0 2 := by have h := at2_lap (N := 4) ws (i := 2) (j := 0) (by omega) (by omega); rw [lapE, if_neg (by omega), wBtw_comm] at h; exact h
  have e21 : at2 (lapM 4 ws) 2 1 = -wBtw ws 1 2 := by have h := at2_lap (N := 4) ws (i := 2) (j := 1) (by omega) (by omega); rw [lapE, if_neg (by omega), wBtw_comm] at h; exact h
  have e23 : at2 (lapM 4 ws) 2 3 = -wBtw ws 2 3 := by have h := at2_lap (N := 4) ws (i := 2) (j := 3) (by omega) (by omega); rw [lapE, if_neg (by omega)] at h; exact h
  have e30 : at2 (lapM 4 ws) 3 0 = -wBtw ws 0 3 := by have h := at2_lap (N := 4) ws (i := 3) (j := 0) (by omega) (by omega); rw [lapE, if_neg (by omega), wBtw_comm] at h; exact h
  have e31 : at2 (lapM 4 ws) 3 1 = -wBtw ws 1 3 := by have h := at2_lap (N := 4) ws (i := 3) (j := 1) (by omega) (by omega); rw [lapE, if_neg (by omega), wBtw_comm] at h; exact h
  have e32 : at2 (lapM 4 ws) 3 2 = -wBtw ws 2 3 := by have h := at2_lap (N := 4) ws (i := 3) (j := 2) (by omega) (by omega); rw [lapE, if_neg (by omega), wBtw_comm] at h; exact h
  have d0 : at2 (lapM 4 ws) 0 0 = wBtw ws 0 1 + wBtw ws 0 2 + wBtw ws 0 3 := by
    have h := at2_lap (N := 4) ws (i := 0) (j := 0) (by omega) (by omega)
    rw [lapE, if_pos rfl, wAt_sum h0 (by omega) 0 (by omega)] at h
    have h' : at2 (lapM 4 ws) 0 0 = _ := h
    rw [h']
    simp [sumN, wBtw_self]
  have d1 : at2 (lapM 4 ws) 1 1 = wBtw ws 0 1 + wBtw ws 1 2 + wBtw ws 1 3 := by
    have h := at2_lap (N := 4) ws (i := 1) (j := 1) (by omega) (by omega)
    rw [lapE, if_pos rfl, wAt_sum h0 (by omega) 1 (by omega)] at h
    have h' : at2 (lapM 4 ws) 1 1 = _ := h
    rw [h']
    simp [sumN, wBtw_self, wBtw_comm ws 1 0]
  have d2 : at2 (lapM 4 ws) 2 2 = wBtw ws 0 2 + wBtw ws 1 2 + wBtw ws 2 3 := by
    have h := at2_lap (N := 4) ws (i := 2) (j := 2) (by omega) (by omega)
    rw [lapE, if_pos rfl, wAt_sum h0 (by omega) 2 (by omega)] at h
    have h' : at2 (lapM 4 ws) 2 2 = _ := h
    rw [h']
    simp [sumN, wBtw_self, wBtw_comm ws 2 0, wBtw_comm ws 2 1]
  have d3 : at2 (lapM 4 ws) 3 3 = wBtw ws 0 3 + wBtw ws 1 3 + wBtw ws 2 3 := by
    have h := at2_lap (N := 4) ws (i := 3) (j := 3) (by omega) (by omega)
    rw [lapE, if_pos rfl, wAt_sum h0 (by omega) 3 (by omega)] at h
    have h' : at2 (lapM 4 ws) 3 3 = _ := h
    rw [h']
    simp [sumN, wBtw_self, wBtw_comm ws 3 0, wBtw_comm ws 3 1, wBtw_comm ws 3 2]
  have ha' : a = 0 ∨ a = 1 ∨ a = 2 ∨ a = 3 := by omega
  have hv' : v = 0 ∨ v = 1 ∨ v = 2 ∨ v = 3 := by omega
  clear ha hv h0
  have W0 := w4_01
  have W1 := w4_02
  have W2 := w4_03
  have W3 := w4_12
  have W4 := w4_13
  have W5 := w4_23
  generalize lapM 4 ws = M at *
  generalize wBtw ws 0 1 = x01 at *
  generalize wBtw ws 0 2 = x02 at *
  generalize wBtw ws 0 3 = x03 at *
  generalize wBtw ws 1 2 = x12 at *
  generalize wBtw ws 1 3 = x13 at *
  generalize wBtw ws 2 3 = x23 at *
  rcases ha' with rfl | rfl | rfl | rfl <;> first | (exfalso; exact hab rfl) | (rcases hv' with rfl | rfl | rfl | rfl <;> first | (exfalso; exact hvb rfl) | (exfalso; exact hva rfl) | (clear hab hvb hva; simp [forD, potI, idx, sgn, det2, *] <;> grind))
set_option maxHeartbeats 8000000 in
theorem side5_0 {ws : List W3} (h0 : WiresV (5 : Nat) ws) (a v : Nat) (ha : a < 5) (hv : v < 5) (hab : a ≠ 0) (hvb : v ≠ 0) (hva : v ≠ a) : forD (lapM 5 ws) 5 a 0 + forD (lapM 5 ws) 5 v 0 - forD (lapM 5 ws) 5 a v = 2 * potI (lapM 5 ws) 5 a 0 v := by
  have e01 : at2 (lapM 5 ws) 0 1 = -wBtw ws 0 1 := by have h := at2_lap (N := 5) ws (i := 0) (j := 1) (by omega) (by omega); rw [lapE, if_neg (by omega)] at h; exact h
  have e02 : at2 (lapM 5 ws) 0 2 = -wBtw ws 0 2 := by have h := at2_lap (N := 5) ws (i := 0) (j := 2) (by omega) (by omega); rw [lapE, if_neg (by omega)] at h; exact h
  have e03 : at2 (lapM 5 ws) 0 3 = -wBtw ws 0 3 := by have h := at2_lap (N := 5) ws (i := 0) (j := 3) (by omega) (by omega); rw [lapE, if_neg (by omega)] at h; exact h
  have e04 : at2 (lapM 5 ws) 0 4 = -wBtw ws 0 4 := by have h := at2_lap (N := 5) ws (i := 0) (j := 4) (by omega) (by omega); rw [lapE, if_neg (by omega)] at h; exact h
  have e10 : at2 (lapM 5 ws) 1 0 = -wBtw ws 0 1 := by have h := at2_lap (N := 5) ws (i := 1) (j := 0) (by omega) (by omega); rw [lapE, if_neg (by omega), wBtw_comm] at h; exact h
  have e12 : at2 (lapM 5 ws) 1 2 = -wBtw ws 1 2 := by have h := at2_lap (N := 5) ws (i := 1) (j := 2) (by omega) (by omega); rw [lapE, if_neg (by omega)] at h; exact h
  have e13 : at2 (lapM 5 ws) 1 3 = -wBtw ws 1 3 := by have h := at2_lap (N := 5) ws (i := 1) (j := 3) (by omega) (by omega); rw [lapE, if_neg (by omega)] at h; exact h
  have e14 : at2 (lapM 5 ws) 1 4 = -wBtw ws 1 4 := by have h := at2_lap (N := 5) ws (i := 1) (j := 4) (by omega) (by omega); rw [lapE, if_neg (by omega)] at h; exact h
  have e20 : at2 (lapM 5 ws) 2 0 = -wBtw ws 0 2 := by have h := at2_lap (N := 5) ws (i := 2) (j := 0) (by omega) (by omega); rw [lapE, if_neg (by omega), wBtw_comm] at h; exact h
  have e21 : at2 (lapM 5 ws) 2 1 = -wBtw ws 1 2 := by have h := at2_lap (N := 5) ws (i := 2) (j := 1) (by omega) (by omega); rw [lapE, if_neg (by omega), wBtw_comm] at h; exact h
  have e23 : at2 (lapM 5 ws) 2 3 = -wBtw ws 2 3 := by have h := at2_lap (N := 5) ws (i := 2) (j := 3) (by omega) (by omega); rw [lapE, if_neg (by omega)] at h; exact h
  have e24 : at2 (lapM 5 ws) 2 4 = -wBtw ws 2 4 := by have h := at2_lap (N := 5) ws (i := 2) (j := 4) (by omega) (by omega); rw [lapE, if_neg (by omega)] at h; exact h
  have e30 : at2 (lapM 5 ws) 3 0 = -wBtw ws 0 3 := by have h := at2_lap (N := 5) ws (i := 3) (j := 0) (by omega) (by omega); rw [lapE, if_neg (by omega), wBtw_comm] at h; exact h
  have e31 : at2 (lapM 5 ws) 3 1 = -wBtw ws 1 3 := by have h := at2_lap (N := 5) ws (i := 3) (j := 1) (by omega) (by omega); rw [lapE, if_neg (by omega), wBtw_comm] at h; exact h
  have e32 : at2 (lapM 5 ws) 3 2 = -wBtw ws 2 3 := by have h := at2_lap (N := 5) ws (i := 3) (j := 2) (by omega) (by omega); rw [lapE, if_neg (by omega), wBtw_comm] at h; exact h
  have e34 : at2 (lapM 5 ws) 3 4 = -wBtw ws 3 4 := by have h := at2_lap (N := 5) ws (i := 3) (j := 4) (by omega) (by omega); rw [lapE, if_neg (by omega)] at h; exact h
  have e40 : at2 (lapM 5 ws) 4 0 = -wBtw ws 0 4 := by have h := at2_lap (N := 5) ws (i := 4) (j := 0) (by omega) (by omega); rw [lapE, if_neg (by omega), wBtw_comm] at h; exact h
  have e41 : at2 (lapM 5 ws) 4 1 = -wBtw ws 1 4 := by have h := at2_lap (N := 5) ws (i := 4) (j := 1) (by omega) (by omega); rw [lapE, if_neg (by omega), wBtw_comm] at h; exact h
  have e42 : at2 (lapM 5 ws) 4 2 = -wBtw ws 2 4 := by have h := at2_lap (N := 5) ws (i := 4) (j := 2) (by omega) (by omega); rw [lapE, if_neg (by omega), wBtw_comm] at h; exact h
  have e43 : at2 (lapM 5 ws) 4 3 = -wBtw ws 3 4 := by have h := at2_lap (N := 5) ws (i := 4) (j := 3) (by omega) (by omega); rw [lapE, if_neg (by omega), wBtw_comm] at h; exact h
  have d0 : at2 (lapM 5 ws) 0 0 = wBtw ws 0 1 + wBtw ws 0 2 + wBtw ws 0 3 + wBtw ws 0 4 := by
    have h := at2_lap (N := 5) ws (i := 0) (j := 0) (by omega) (by omega)
    rw [lapE, if_pos rfl, wAt_sum h0 (by omega) 0 (by omega)] at h
    have h' : at2 (lapM 5 ws) 0 0 = _ := h
    rw [h']
    simp [sumN, wBtw_self]
  have d1 : at2 (lapM 5 ws) 1 1 = wBtw ws 0 1 + wBtw ws 1 2 + wBtw ws 1 3 + wBtw ws 1 4 := by
    have h := at2_lap (N := 5) ws (i := 1) (j := 1) (by omega) (by omega)
    rw [lapE, if_pos rfl, wAt_sum h0 (by omega) 1 (by omega)] at h
    have h' : at2 (lapM 5 ws) 1 1 = _ := h
    rw [h']
    simp [sumN, wBtw_self, wBtw_comm ws 1 0]
  have d2 : at2 (lapM 5 ws) 2 2 = wBtw ws 0 2 + wBtw ws 1 2 + wBtw ws 2 3 + wBtw ws 2 4 := by
    have h := at2_lap (N := 5) ws (i := 2) (j := 2) (by omega) (by omega)
    rw [lapE, if_pos rfl, wAt_sum h0 (by omega) 2 (by omega)] at h
    have h' : at2 (lapM 5 ws) 2 2 = _ := h
    rw [h']
    simp [sumN, wBtw_self, wBtw_comm ws 2 0, wBtw_comm ws 2 1]
  have d3 : at2 (lapM 5 ws) 3 3 = wBtw ws 0 3 + wBtw ws 1 3 + wBtw ws 2 3 + wBtw ws 3 4 := by
    have h := at2_lap (N := 5) ws (i := 3) (j := 3) (by omega) (by omega)
    rw [lapE, if_pos rfl, wAt_sum h0 (by omega) 3 (by omega)] at h
    have h' : at2 (lapM 5 ws) 3 3 = _ := h
    rw [h']
    simp [sumN, wBtw_self, wBtw_comm ws 3 0, wBtw_comm ws 3 1, wBtw_comm ws 3 2]
  have d4 : at2 (lapM 5 ws) 4 4 = wBtw ws 0 4 + wBtw ws 1 4 + wBtw ws 2 4 + wBtw ws 3 4 := by
    have h := at2_lap (N := 5) ws (i := 4) (j := 4) (by omega) (by omega)
    rw [lapE, if_pos rfl, wAt_sum h0 (by omega) 4 (by omega)] at h
    have h' : at2 (lapM 5 ws) 4 4 = _ := h
    rw [h']
    simp [sumN, wBtw_self, wBtw_comm ws 4 0, wBtw_comm ws 4 1, wBtw_comm ws 4 2, wBtw_comm ws 4 3]
  have ha' : a = 0 ∨ a = 1 ∨ a = 2 ∨ a = 3 ∨ a = 4 := by omega
  have hv' : v = 0 ∨ v = 1 ∨ v = 2 ∨ v = 3 ∨ v = 4 := by omega
  clear ha hv h0
  have W0 := w5_01
  have W1 := w5_02
  have W2 := w5_03
  have W3 := w5_04
  have W4 := w5_12
  have W5 := w5_13
  have W6 := w5_14
  have W7 := w5_23
  have W8 := w5_24
  have W9 := w5_34
  generalize lapM 5 ws = M at *
  generalize wBtw ws 0 1 = x01 at *
  generalize wBtw ws 0 2 = x02 at *
  generalize wBtw ws 0 3 = x03 at *
  generalize wBtw ws 0 4 = x04 at *
  generalize wBtw ws 1 2 = x12 at *
  generalize wBtw ws 1 3 = x13 at *
  generalize wBtw ws 1 4 = x14 at *
  generalize wBtw ws 2 3 = x23 at *
  generalize wBtw ws 2 4 = x24 at *
  generalize wBtw ws 3 4 = x34 at *
  rcases ha' with rfl | rfl | rfl | rfl | rfl <;> first | (exfalso; exact hab rfl) | (rcases hv' with rfl | rfl | rfl | rfl | rfl <;> first | (exfalso; exact hvb rfl) | (exfalso; exact hva rfl) | (clear hab hvb hva; simp [forD, potI, idx, sgn, det3, *] <;> grind))
set_option maxHeartbeats 8000000 in
theorem side5_1 {ws : List W3} (h0 : WiresV (5 : Nat) ws) (a v : Nat) (ha : a < 5) (hv : v < 5) (hab : a ≠ 1) (hvb : v ≠ 1) (hva : v ≠ a) : forD (lapM 5 ws) 5 a 1 + forD (lapM 5 ws) 5 v 1 - forD (lapM 5 ws) 5 a v = 2 * potI (lapM 5 ws) 5 a 1 v := by
  have e01 : at2 (lapM 5 ws) 0 1 = -wBtw ws 0 1 := by have h := at2_lap (N := 5) ws (i := 0) (j := 1) (by omega) (by omega); rw [lapE, if_neg (by omega)] at h; exact h
  have e02 : at2 (lapM 5 ws) 0 2 = -wBtw ws 0 2 := by have h := at2_lap (N := 5) ws (i := 0) (j := 2) (by omega) (by omega); rw [lapE, if_neg (by omega)] at h; exact h
  have e03 : at2 (lapM 5 ws) 0 3 = -wBtw ws 0 3 := by have h := at2_lap (N := 5) ws (i := 0) (j := 3) (by omega) (by omega); rw [lapE, if_neg (by omega)] at h; exact h
  have e04 : at2 (lapM 5 ws) 0 4 = -wBtw ws 0 4 := by have h := at2_lap (N := 5) ws (i := 0) (j := 4) (by omega) (by omega); rw [lapE, if_neg (by omega)] at h; exact h
  have e10 : at2 (lapM 5 ws) 1 0 = -wBtw ws 0 1 := by have h := at2_lap (N := 5) ws (i := 1) (j := 0) (by omega) (by omega); rw [lapE, if_neg (by omega), wBtw_comm] at h; exact h
  have e12 : at2 (lapM 5 ws) 1 2 = -wBtw ws 1 2 := by have h := at2_lap (N := 5) ws (i := 1) (j := 2) (by omega) (by omega); rw [lapE, if_neg (by omega)] at h; exact h
  have e13 : at2 (lapM 5 ws) 1 3 = -wBtw ws 1 3 := by have h := at2_lap (N := 5) ws (i := 1) (j := 3) (by omega) (by omega); rw [lapE, if_neg (by omega)] at h; exact h
  have e14 : at2 (lapM 5 ws) 1 4 = -wBtw ws 1 4 := by have h := at2_lap (N := 5) ws (i := 1) (j := 4) (by omega) (by omega); rw [lapE, if_neg (by omega)] at h; exact h
  have e20 : at2 (lapM 5 ws) 2 0 = -wBtw ws 0 2 := by have h := at2_lap (N := 5) ws (i := 2) (j := 0) (by omega) (by omega); rw [lapE, if_neg (by omega), wBtw_comm] at h; exact h
  have e21 : at2 (lapM 5 ws) 2 1 = -wBtw ws 1 2 := by have h := at2_lap (N := 5) ws (i := 2) (j := 1) (by omega) (by omega); rw [lapE, if_neg (by omega), wBtw_comm] at h; exact h
  have e23 : at2 (lapM 5 ws) 2 3 = -wBtw ws 2 3 := by have h := at2_lap (N := 5) ws (i := 2) (j := 3) (by omega) (by omega); rw [lapE, if_neg (by omega)] at h; exact h
  have e24 : at2 (lapM 5 ws) 2 4 = -wBtw ws 2 4 := by have h := at2_lap (N := 5) ws (i := 2) (j := 4) (by omega) (by omega); rw [lapE, if_neg (by omega)] at h; exact h
  have e30 : at2 (lapM 5 ws) 3 0 = -wBtw ws 0 3 := by have h := at2_lap (N := 5) ws (i := 3) (j := 0) (by omega) (by omega); rw [lapE, if_neg (by omega), wBtw_comm] at h; exact h
  have e31 : at2 (lapM 5 ws) 3 1 = -wBtw ws 1 3 := by have h := at2_lap (N := 5) ws (i := 3) (j := 1) (by omega) (by omega); rw [lapE, if_neg (by omega), wBtw_comm] at h; exact h
  have e32 : at2 (lapM 5 ws) 3 2 = -wBtw ws 2 3 := by have h := at2_lap (N := 5) ws (i := 3) (j := 2) (by omega) (by omega); rw [lapE, if_neg (by omega), wBtw_comm] at h; exact h
  have e34 : at2 (lapM 5 ws) 3 4 = -wBtw ws 3 4 := by have h := at2_lap (N := 5) ws (i := 3) (j := 4) (by omega) (by omega); rw [lapE, if_neg (by omega)] at h; exact h
  have e40 : at2 (lapM 5 ws) 4 0 = -wBtw ws 0 4 := by have h := at2_lap (N := 5) ws (i := 4) (j := 0) (by omega) (by omega); rw [lapE, if_neg (by omega), wBtw_comm] at h; exact h
  have e41 : at2 (lapM 5 ws) 4 1 = -wBtw ws 1 4 := by have h := at2_lap (N := 5) ws (i := 4) (j := 1) (by omega) (by omega); rw [lapE, if_neg (by omega), wBtw_comm] at h; exact h
  have e42 : at2 (lapM 5 ws) 4 2 = -wBtw ws 2 4 := by have h := at2_lap (N := 5) ws (i := 4) (j := 2) (by omega) (by omega); rw [lapE, if_neg (by omega), wBtw_comm] at h; exact h
  have e43 : at2 (lapM 5 ws) 4 3 = -wBtw ws 3 4 := by have h := at2_lap (N := 5) ws (i := 4) (j := 3) (by omega) (by omega); rw [lapE, if_neg (by omega), wBtw_comm] at h; exact h
  have d0 : at2 (lapM 5 ws) 0 0 = wBtw ws 0 1 + wBtw ws 0 2 + wBtw ws 0 3 + wBtw ws 0 4 := by
    have h := at2_lap (N := 5) ws (i := 0) (j := 0) (by omega) (by omega)
    rw [lapE, if_pos rfl, wAt_sum h0 (by omega) 0 (by omega)] at h
    have h' : at2 (lapM 5 ws) 0 0 = _ := h
    rw [h']
    simp [sumN, wBtw_self]
  have d1 : at2 (lapM 5 ws) 1 1 = wBtw ws 0 1 + wBtw ws 1 2 + wBtw ws 1 3 + wBtw ws 1 4 := by
    have h := at2_lap (N := 5) ws (i := 1) (j := 1) (by omega) (by omega)
    rw [lapE, if_pos rfl, wAt_sum h0 (by omega) 1 (by omega)] at h
    have h' : at2 (lapM 5 ws) 1 1 = _ := h
    rw [h']
    simp [sumN, wBtw_self, wBtw_comm ws 1 0]
  have d2 : at2 (lapM 5 ws) 2 2 = wBtw ws 0 2 + wBtw ws 1 2 + wBtw ws 2 3 + wBtw ws 2 4 := by
    have h := at2_lap (N := 5) ws (i := 2) (j := 2) (by omega) (by omega)
    rw [lapE, if_pos rfl, wAt_sum h0 (by omega) 2 (by omega)] at h
    have h' : at2 (lapM 5 ws) 2 2 = _ := h
    rw [h']
    simp [sumN, wBtw_self, wBtw_comm ws 2 0, wBtw_comm ws 2 1]
  have d3 : at2 (lapM 5 ws) 3 3 = wBtw ws 0 3 + wBtw ws 1 3 + wBtw ws 2 3 + wBtw ws 3 4 := by
    have h := at2_lap (N := 5) ws (i := 3) (j := 3) (by omega) (by omega)
    rw [lapE, if_pos rfl, wAt_sum h0 (by omega) 3 (by omega)] at h
    have h' : at2 (lapM 5 ws) 3 3 = _ := h
    rw [h']
    simp [sumN, wBtw_self, wBtw_comm ws 3 0, wBtw_comm ws 3 1, wBtw_comm ws 3 2]
  have d4 : at2 (lapM 5 ws) 4 4 = wBtw ws 0 4 + wBtw ws 1 4 + wBtw ws 2 4 + wBtw ws 3 4 := by
    have h := at2_lap (N := 5) ws (i := 4) (j := 4) (by omega) (by omega)
    rw [lapE, if_pos rfl, wAt_sum h0 (by omega) 4 (by omega)] at h
    have h' : at2 (lapM 5 ws) 4 4 = _ := h
    rw [h']
    simp [sumN, wBtw_self, wBtw_comm ws 4 0, wBtw_comm ws 4 1, wBtw_comm ws 4 2, wBtw_comm ws 4 3]
  have ha' : a = 0 ∨ a = 1 ∨ a = 2 ∨ a = 3 ∨ a = 4 := by omega
  have hv' : v = 0 ∨ v = 1 ∨ v = 2 ∨ v = 3 ∨ v = 4 := by omega
  clear ha hv h0
  have W0 := w5_01
  have W1 := w5_02
  have W2 := w5_03
  have W3 := w5_04
  have W4 := w5_12
  have W5 := w5_13
  have W6 := w5_14
  have W7 := w5_23
  have W8 := w5_24
  have W9 := w5_34
  generalize lapM 5 ws = M at *
  generalize wBtw ws 0 1 = x01 at *
  generalize wBtw ws 0 2 = x02 at *
  generalize wBtw ws 0 3 = x03 at *
  generalize wBtw ws 0 4 = x04 at *
  generalize wBtw ws 1 2 = x12 at *
  generalize wBtw ws 1 3 = x13 at *
  generalize wBtw ws 1 4 = x14 at *
  generalize wBtw ws 2 3 = x23 at *
  generalize wBtw ws 2 4 = x24 at *
  generalize wBtw ws 3 4 = x34 at *
  rcases ha' with rfl | rfl | rfl | rfl | rfl <;> first | (exfalso; exact hab rfl) | (rcases hv' with rfl | rfl | rfl | rfl | rfl <;> first | (exfalso; exact hvb rfl) | (exfalso; exact hva rfl) | (clear hab hvb hva; simp [forD, potI, idx, sgn, det3, *] <;> grind))
set_option maxHeartbeats 8000000 in
theorem side5_2 {ws : List W3} (h0 : WiresV (5 : Nat) ws) (a v : Nat) (ha : a < 5) (hv : v < 5) (hab : a ≠ 2) (hvb : v ≠ 2) (hva : v ≠ a) : forD (lapM 5 ws) 5 a 2 + forD (lapM 5 ws) 5 v 2 - forD (lapM 5 ws) 5 a v = 2 * potI (lapM 5 ws) 5 a 2 v := by
  have e01 : at2 (lapM 5 ws) 0 1 = -wBtw ws 0 1 := by have h := at2_lap (N := 5) ws (i := 0) (j := 1) (by omega) (by omega); rw [lapE, if_neg (by omega)] at h; exact h
  have e02 : at2 (lapM 5 ws) 0 2 = -wBtw ws 0 2 := by have h := at2_lap (N := 5) ws (i := 0) (j := 2) (by omega) (by omega); rw [lapE, if_neg (by omega)] at h; exact h
  have e03 : at2 (lapM 5 ws) 0 3 = -wBtw ws 0 3 := by have h := at2_lap (N := 5) ws (i := 0) (j := 3) (by omega) (by omega); rw [lapE, if_neg (by omega)] at h; exact h
  have e04 : at2 (lapM 5 ws) 0 4 = -wBtw ws 0 4 := by have h := at2_lap (N := 5) ws (i := 0) (j := 4) (by omega) (by omega); rw [lapE, if_neg (by omega)] at h; exact h
  have e10 : at2 (lapM 5 ws) 1 0 = -wBtw ws 0 1 := by have h := at2_lap (N := 5) ws (i := 1) (j := 0) (by omega) (by omega); rw [lapE, if_neg (by omega), wBtw_comm] at h; exact h
  have e12 : at2 (lapM 5 ws) 1 2 = -wBtw ws 1 2 := by have h := at2_lap (N := 5) ws (i := 1) (j := 2) (by omega) (by omega); rw [lapE, if_neg (by omega)] at h; exact h
  have e13 : at2 (lapM 5 ws) 1 3 = -wBtw ws 1 3 := by have h := at2_lap (N := 5) ws (i := 1) (j := 3) (by omega) (by omega); rw [lapE, if_neg (by omega)] at h; exact h
  have e14 : at2 (lapM 5 ws) 1 4 = -wBtw ws 1 4 := by have h := at2_lap (N := 5) ws (i := 1) (j := 4) (by omega) (by omega); rw [lapE, if_neg (by omega)] at h; exact h
  have e20 : at2 (lapM 5 ws) 2 0 = -wBtw ws 0 2 := by have h := at2_lap (N := 5) ws (i := 2) (j := 0) (by omega) (by omega); rw [lapE, if_neg (by omega), wBtw_comm] at h; exact h
  have e21 : at2 (lapM 5 ws) 2 1 = -wBtw ws 1 2 := by have h := at2_lap (N := 5) ws (i := 2) (j := 1) (by omega) (by omega); rw [lapE, if_neg (by omega), wBtw_comm] at h; exact h
  have e23 : at2 (lapM 5 ws) 2 3 = -wBtw ws 2 3 := by have h := at2_lap (N := 5) ws (i := 2) (j := 3) (by omega) (by omega); rw [lapE, if_neg (by omega)] at h; exact h
  have e24 : at2 (lapM 5 ws) 2 4 = -wBtw ws 2 4 := by have h := at2_lap (N := 5) ws (i := 2) (j := 4) (by omega) (by omega); rw [lapE, if_neg (by omega)] at h; exact h
  have e30 : at2 (lapM 5 ws) 3 0 = -wBtw ws 0 3 := by have h := at2_lap (N := 5) ws (i := 3) (j := 0) (by omega) (by omega); rw [lapE, if_neg (by omega), wBtw_comm] at h; exact h
  have e31 : at2 (lapM 5 ws) 3 1 = -wBtw ws 1 3 := by have h := at2_lap (N := 5) ws (i := 3) (j := 1) (by omega) (by omega); rw [lapE, if_neg (by omega), wBtw_comm] at h; exact h
  have e32 : at2 (lapM 5 ws) 3 2 = -wBtw ws 2 3 := by have h := at2_lap (N := 5) ws (i := 3) (j := 2) (by omega) (by omega); rw [lapE, if_neg (by omega), wBtw_comm] at h; exact h
  have e34 : at2 (lapM 5 ws) 3 4 = -wBtw ws 3 4 := by have h := at2_lap (N := 5) ws (i := 3) (j := 4) (by omega) (by omega); rw [lapE, if_neg (by omega)] at h; exact h
  have e40 : at2 (lapM 5 ws) 4 0 = -wBtw ws 0 4 := by have h := at2_lap (N := 5) ws (i := 4) (j := 0) (by omega) (by omega); rw [lapE, if_neg (by omega), wBtw_comm] at h; exact h
  have e41 : at2 (lapM 5 ws) 4 1 = -wBtw ws 1 4 := by have h := at2_lap (N := 5) ws (i := 4) (j := 1) (by omega) (by omega); rw [lapE, if_neg (by omega), wBtw_comm] at h; exact h
  have e42 : at2 (lapM 5 ws) 4 2 = -wBtw ws 2 4 := by have h := at2_lap (N := 5) ws (i := 4) (j := 2) (by omega) (by omega); rw [lapE, if_neg (by omega), wBtw_comm] at h; exact h
  have e43 : at2 (lapM 5 ws) 4 3 = -wBtw ws 3 4 := by have h := at2_lap (N := 5) ws (i := 4) (j := 3) (by omega) (by omega); rw [lapE, if_neg (by omega), wBtw_comm] at h; exact h
  have d0 : at2 (lapM 5 ws) 0 0 = wBtw ws 0 1 + wBtw ws 0 2 + wBtw ws 0 3 + wBtw ws 0 4 := by
    have h := at2_lap (N := 5) ws (i := 0) (j := 0) (by omega) (by omega)
    rw [lapE, if_pos rfl, wAt_sum h0 (by omega) 0 (by omega)] at h
    have h' : at2 (lapM 5 ws) 0 0 = _ := h
    rw [h']
    simp [sumN, wBtw_self]
  have d1 : at2 (lapM 5 ws) 1 1 = wBtw ws 0 1 + wBtw ws 1 2 + wBtw ws 1 3 + wBtw ws 1 4 := by
    have h := at2_lap (N := 5) ws (i := 1) (j := 1) (by omega) (by omega)
    rw [lapE, if_pos rfl, wAt_sum h0 (by omega) 1 (by omega)] at h
    have h' : at2 (lapM 5 ws) 1 1 = _ := h
    rw [h']
    simp [sumN, wBtw_self, wBtw_comm ws 1 0]
  have d2 : at2 (lapM 5 ws) 2 2 = wBtw ws 0 2 + wBtw ws 1 2 + wBtw ws 2 3 + wBtw ws 2 4 := by
    have h := at2_lap (N := 5) ws (i := 2) (j := 2) (by omega) (by omega)
    rw [lapE, if_pos rfl, wAt_sum h0 (by omega) 2 (by omega)] at h
    have h' : at2 (lapM 5 ws) 2 2 = _ := h
    rw [h']
    simp [sumN, wBtw_self, wBtw_comm ws 2 0, wBtw_comm ws 2 1]
  have d3 : at2 (lapM 5 ws) 3 3 = wBtw ws 0 3 + wBtw ws 1 3 + wBtw ws 2 3 + wBtw ws 3 4 := by
    have h := at2_lap (N := 5) ws (i := 3) (j := 3) (by omega) (by omega)
    rw [lapE, if_pos rfl, wAt_sum h0 (by omega) 3 (by omega)] at h
    have h' : at2 (lapM 5 ws) 3 3 = _ := h
    rw [h']
    simp [sumN, wBtw_self, wBtw_comm ws 3 0, wBtw_comm ws 3 1, wBtw_comm ws 3 2]
  have d4 : at2 (lapM 5 ws) 4 4 = wBtw ws 0 4 + wBtw ws 1 4 + wBtw ws 2 4 + wBtw ws 3 4 := by
    have h := at2_lap (N := 5) ws (i := 4) (j := 4) (by omega) (by omega)
    rw [lapE, if_pos rfl, wAt_sum h0 (by omega) 4 (by omega)] at h
    have h' : at2 (lapM 5 ws) 4 4 = _ := h
    rw [h']
    simp [sumN, wBtw_self, wBtw_comm ws 4 0, wBtw_comm ws 4 1, wBtw_comm ws 4 2, wBtw_comm ws 4 3]
  have ha' : a = 0 ∨ a = 1 ∨ a = 2 ∨ a = 3 ∨ a = 4 := by omega
  have hv' : v = 0 ∨ v = 1 ∨ v = 2 ∨ v = 3 ∨ v = 4 := by omega
  clear ha hv h0
  have W0 := w5_01
  have W1 := w5_02
  have W2 := w5_03
  have W3 := w5_04
  have W4 := w5_12
  have W5 := w5_13
  have W6 := w5_14
  have W7 := w5_23
  have W8 := w5_24
  have W9 := w5_34
  generalize lapM 5 ws = M at *
  generalize wBtw ws 0 1 = x01 at *
  generalize wBtw ws 0 2 = x02 at *
  generalize wBtw ws 0 3 = x03 at *
  generalize wBtw ws 0 4 = x04 at *
  generalize wBtw ws 1 2 = x12 at *
  generalize wBtw ws 1 3 = x13 at *
  generalize wBtw ws 1 4 = x14 at *
  generalize wBtw ws 2 3 = x23 at *
  generalize wBtw ws 2 4 = x24 at *
  generalize wBtw ws 3 4 = x34 at *
  rcases ha' with rfl | rfl | rfl | rfl | rfl <;> first | (exfalso; exact hab rfl) | (rcases hv' with rfl | rfl | rfl | rfl | rfl <;> first | (exfalso; exact hvb rfl) | (exfalso; exact hva rfl) | (clear hab hvb hva; simp [forD, potI, idx, sgn, det3, *] <;> grind))
set_option maxHeartbeats 8000000 in
theorem side5_3 {ws : List W3} (h0 : WiresV (5 : Nat) ws) (a v : Nat) (ha : a < 5) (hv : v < 5) (hab : a ≠ 3) (hvb : v ≠ 3) (hva : v ≠ a) : forD (lapM 5 ws) 5 a 3 + forD (lapM 5 ws) 5 v 3 - forD (lapM 5 ws) 5 a v = 2 * potI (lapM 5 ws) 5 a 3 v := by
  have e01 : at2 (lapM 5 ws) 0 1 = -wBtw ws 0 1 := by have h := at2_lap (N := 5) ws (i := 0) (j := 1) (by omega) (by omega); rw [lapE, if_neg (by omega)] at h; exact h
  have e02 : at2 (lapM 5 ws) 0 2 = -wBtw ws 0 2 := by have h := at2_lap (N := 5) ws (i := 0) (j := 2) (by omega) (by omega); rw [lapE, if_neg (by omega)] at h; exact h
  have e03 : at2 (lapM 5 ws) 0 3 = -wBtw ws 0 3 := by have h := at2_lap (N := 5) ws (i := 0) (j := 3) (by omega) (by omega); rw [lapE, if_neg (by omega)] at h; exact h
  have e04 : at2 (lapM 5 ws) 0 4 = -wBtw ws 0 4 := by have h := at2_lap (N := 5) ws (i := 0) (j := 4) (by omega) (by omega); rw [lapE, if_neg (by omega)] at h; exact h
  have e10 : at2 (lapM 5 ws) 1 0 = -wBtw ws 0 1 := by have h := at2_lap (N := 5) ws (i := 1) (j := 0) (by omega) (by omega); rw [lapE, if_neg (by omega), wBtw_comm] at h; exact h
  have e12 : at2 (lapM 5 ws) 1 2 = -wBtw ws 1 2 := by have h := at2_lap (N := 5) ws (i := 1) (j := 2) (by omega) (by omega); rw [lapE, if_neg (by omega)] at h; exact h
  have e13 : at2 (lapM 5 ws) 1 3 = -wBtw ws 1 3 := by have h := at2_lap (N := 5) ws (i := 1) (j := 3) (by omega) (by omega); rw [lapE, if_neg (by omega)] at h; exact h
  have e14 : at2 (lapM 5 ws) 1 4 = -wBtw ws 1 4 := by have h := at2_lap (N := 5) ws (i := 1) (j := 4) (by omega) (by omega); rw [lapE, if_neg (by omega)] at h; exact h
  have e20 : at2 (lapM 5 ws) 2 0 = -wBtw ws 0 2 := by have h := at2_lap (N := 5) ws (i := 2) (j := 0) (by omega) (by omega); rw [lapE, if_neg (by omega), wBtw_comm] at h; exact h
  have e21 : at2 (lapM 5 ws) 2 1 = -wBtw ws 1 2 := by have h := at2_lap (N := 5) ws (i := 2) (j := 1) (by omega) (by omega); rw [lapE, if_neg (by omega), wBtw_comm] at h; exact h
  have e23 : at2 (lapM 5 ws) 2 3 = -wBtw ws 2 3 := by have h := at2_lap (N := 5) ws (i := 2) (j := 3) (by omega) (by omega); rw [lapE, if_neg (by omega)] at h; exact h
  have e24 : at2 (lapM 5 ws) 2 4 = -wBtw ws 2 4 := by have h := at2_lap (N := 5) ws (i := 2) (j := 4) (by omega) (by omega); rw [lapE, if_neg (by omega)] at h; exact h
  have e30 : at2 (lapM 5 ws) 3 0 = -wBtw ws 0 3 := by have h := at2_lap (N := 5) ws (i := 3) (j := 0) (by omega) (by omega); rw [lapE, if_neg (by omega), wBtw_comm] at h; exact h
  have e31 : at2 (lapM 5 ws) 3 1 = -wBtw ws 1 3 := by have h := at2_lap (N := 5) ws (i := 3) (j := 1) (by omega) (by omega); rw [lapE, if_neg (by omega), wBtw_comm] at h; exact h
  have e32 : at2 (lapM 5 ws) 3 2 = -wBtw ws 2 3 := by have h := at2_lap (N := 5) ws (i := 3) (j := 2) (by omega) (by omega); rw [lapE, if_neg (by omega), wBtw_comm] at h; exact h
  have e34 : at2 (lapM 5 ws) 3 4 = -wBtw ws 3 4 := by have h := at2_lap (N := 5) ws (i := 3) (j := 4) (by omega) (by omega); rw [lapE, if_neg (by omega)] at h; exact h
  have e40 : at2 (lapM 5 ws) 4 0 = -wBtw ws 0 4 := by have h := at2_lap (N := 5) ws (i := 4) (j := 0) (by omega) (by omega); rw [lapE, if_neg (by omega), wBtw_comm] at h; exact h
  have e41 : at2 (lapM 5 ws) 4 1 = -wBtw ws 1 4 := by have h := at2_lap (N := 5) ws (i := 4) (j := 1) (by omega) (by omega); rw [lapE, if_neg (by omega), wBtw_comm] at h; exact h
  have e42 : at2 (lapM 5 ws) 4 2 = -wBtw ws 2 4 := by have h := at2_lap (N := 5) ws (i := 4) (j := 2) (by omega) (by omega); rw [lapE, if_neg (by omega), wBtw_comm] at h; exact h
  have e43 : at2 (lapM 5 ws) 4 3 = -wBtw ws 3 4 := by have h := at2_lap (N := 5) ws (i := 4) (j := 3) (by omega) (by omega); rw [lapE, if_neg (by omega), wBtw_comm] at h; exact h
  have d0 : at2 (lapM 5 ws) 0 0 = wBtw ws 0 1 + wBtw ws 0 2 + wBtw ws 0 3 + wBtw ws 0 4 := by
    have h := at2_lap (N := 5) ws (i := 0) (j := 0) (by omega) (by omega)
    rw [lapE, if_pos rfl, wAt_sum h0 (by omega) 0 (by omega)] at h
    have h' : at2 (lapM 5 ws) 0 0 = _ := h
    rw [h']
    simp [sumN, wBtw_self]
  have d1 : at2 (lapM 5 ws) 1 1 = wBtw ws 0 1 + wBtw ws 1 2 + wBtw ws 1 3 + wBtw ws 1 4 := by
    have h := at2_lap (N := 5) ws (i := 1) (j := 1) (by omega) (by omega)
    rw [lapE, if_pos rfl, wAt_sum h0 (by omega) 1 (by omega)] at h
    have h' : at2 (lapM 5 ws) 1 1 = _ := h
    rw [h']
    simp [sumN, wBtw_self, wBtw_comm ws 1 0]
  have d2 : at2 (lapM 5 ws) 2 2 = wBtw ws 0 2 + wBtw ws 1 2 + wBtw ws 2 3 + wBtw ws 2 4 := by
    have h := at2_lap (N := 5) ws (i := 2) (j := 2) (by omega) (by omega)
    rw [lapE, if_pos rfl, wAt_sum h0 (by omega) 2 (by omega)] at h
    have h' : at2 (lapM 5 ws) 2 2 = _ := h
    rw [h']
    simp [sumN, wBtw_self, wBtw_comm ws 2 0, wBtw_comm ws 2 1]
  have d3 : at2 (lapM 5 ws) 3 3 = wBtw ws 0 3 + wBtw ws 1 3 + wBtw ws 2 3 + wBtw ws 3 4 := by
    have h := at2_lap (N := 5) ws (i := 3) (j := 3) (by omega) (by omega)
    rw [lapE, if_pos rfl, wAt_sum h0 (by omega) 3 (by omega)] at h
    have h' : at2 (lapM 5 ws) 3 3 = _ := h
    rw [h']
    simp [sumN, wBtw_self, wBtw_comm ws 3 0, wBtw_comm ws 3 1, wBtw_comm ws 3 2]
  have d4 : at2 (lapM 5 ws) 4 4 = wBtw ws 0 4 + wBtw ws 1 4 + wBtw ws 2 4 + wBtw ws 3 4 := by
    have h := at2_lap (N := 5) ws (i := 4) (j := 4) (by omega) (by omega)
    rw [lapE, if_pos rfl, wAt_sum h0 (by omega) 4 (by omega)] at h
    have h' : at2 (lapM 5 ws) 4 4 = _ := h
    rw [h']
    simp [sumN, wBtw_self, wBtw_comm ws 4 0, wBtw_comm ws 4 1, wBtw_comm ws 4 2, wBtw_comm ws 4 3]
  have ha' : a = 0 ∨ a = 1 ∨ a = 2 ∨ a = 3 ∨ a = 4 := by omega
  have hv' : v = 0 ∨ v = 1 ∨ v = 2 ∨ v = 3 ∨ v = 4 := by omega
  clear ha hv h0
  have W0 := w5_01
  have W1 := w5_02
  have W2 := w5_03
  have W3 := w5_04
  have W4 := w5_12
  have W5 := w5_13
  have W6 := w5_14
  have W7 := w5_23
  have W8 := w5_24
  have W9 := w5_34
  generalize lapM 5 ws = M at *
  generalize wBtw ws 0 1 = x01 at *
  generalize wBtw ws 0 2 = x02 at *
  generalize wBtw ws 0 3 = x03 at *
  generalize wBtw ws 0 4 = x04 at *
  generalize wBtw ws 1 2 = x12 at *
  generalize wBtw ws 1 3 = x13 at *
  generalize wBtw ws 1 4 = x14 at *
  generalize wBtw ws 2 3 = x23 at *
  generalize wBtw ws 2 4 = x24 at *
  generalize wBtw ws 3 4 = x34 at *
  rcases ha' with rfl | rfl | rfl | rfl | rfl <;> first | (exfalso; exact hab rfl) | (rcases hv' with rfl | rfl | rfl | rfl | rfl <;> first | (exfalso; exact hvb rfl) | (exfalso; exact hva rfl) | (clear hab hvb hva; simp [forD, potI, idx, sgn, det3, *] <;> grind))
set_option maxHeartbeats 8000000 in
theorem side5_4 {ws : List W3} (h0 : WiresV (5 : Nat) ws) (a v : Nat) (ha : a < 5) (hv : v < 5) (hab : a ≠ 4) (hvb : v ≠ 4) (hva : v ≠ a) : forD (lapM 5 ws) 5 a 4 + forD (lapM 5 ws) 5 v 4 - forD (lapM 5 ws) 5 a v = 2 * potI (lapM 5 ws) 5 a 4 v := by
  have e01 : at2 (lapM 5 ws) 0 1 = -wBtw ws 0 1 := by have h := at2_lap (N := 5) ws (i := 0) (j := 1) (by omega) (by omega); rw [lapE, if_neg (by omega)] at h; exact h
  have e02 : at2 (lapM 5 ws) 0 2 = -wBtw ws 0 2 := by have h := at2_lap (N := 5) ws (i := 0) (j := 2) (by omega) (by omega); rw [lapE, if_neg (by omega)] at h; exact h
  have e03 : at2 (lapM 5 ws) 0 3 = -wBtw ws 0 3 := by have h := at2_lap (N := 5) ws (i := 0) (j := 3) (by omega) (by omega); rw [lapE, if_neg (by omega)] at h; exact h
  have e04 : at2 (lapM 5 ws) 0 4 = -wBtw ws 0 4 := by have h := at2_lap (N := 5) ws (i := 0) (j := 4) (by omega) (by omega); rw [lapE, if_neg (by omega)] at h; exact h
  have e10 : at2 (lapM 5 ws) 1 0 = -wBtw ws 0 1 := by have h := at2_lap (N := 5) ws (i := 1) (j := 0) (by omega) (by omega); rw [lapE, if_neg (by omega), wBtw_comm] at h; exact h
  have e12 : at2 (lapM 5 ws) 1 2 = -wBtw ws 1 2 := by have h := at2_lap (N := 5) ws (i := 1) (j := 2) (by omega) (by omega); rw [lapE, if_neg (by omega)] at h; exact h
  have e13 : at2 (lapM 5 ws) 1 3 = -wBtw ws 1 3 := by have h := at2_lap (N := 5) ws (i := 1) (j := 3) (by omega) (by omega); rw [lapE, if_neg (by omega)] at h; exact h
  have e14 : at2 (lapM 5 ws) 1 4 = -wBtw ws 1 4 := by have h := at2_lap (N := 5) ws (i := 1) (j := 4) (by omega) (by omega); rw [lapE, if_neg (by omega)] at h; exact h
  have e20 : at2 (lapM 5 ws) 2 0 = -wBtw ws 0 2 := by have h := at2_lap (N := 5) ws (i := 2) (j := 0) (by omega) (by omega); rw [lapE, if_neg (by omega), wBtw_comm] at h; exact h
  have e21 : at2 (lapM 5 ws) 2 1 = -wBtw ws 1 2 := by have h := at2_lap (N := 5) ws (i := 2) (j := 1) (by omega) (by omega); rw [lapE, if_neg (by omega), wBtw_comm] at h; exact h
  have e23 : at2 (lapM 5 ws) 2 3 = -wBtw ws 2 3 := by have h := at2_lap (N := 5) ws (i := 2) (j := 3) (by omega) (by omega); rw [lapE, if_neg (by omega)] at h; exact h
  have e24 : at2 (lapM 5 ws) 2 4 = -wBtw ws 2 4 := by have h := at2_lap (N := 5) ws (i := 2) (j := 4) (by omega) (by omega); rw [lapE, if_neg (by omega)] at h; exact h
  have e30 : at2 (lapM 5 ws) 3 0 = -wBtw ws 0 3 := by have h := at2_lap (N := 5) ws (i := 3) (j := 0) (by omega) (by omega); rw [lapE, if_neg (by omega), wBtw_comm] at h; exact h
  have e31 : at2 (lapM 5 ws) 3 1 = -wBtw ws 1 3 := by have h := at2_lap (N := 5) ws (i := 3) (j := 1) (by omega) (by omega); rw [lapE, if_neg (by omega), wBtw_comm] at h; exact h
  have e32 : at2 (lapM 5 ws) 3 2 = -wBtw ws 2 3 := by have h := at2_lap (N := 5) ws (i := 3) (j := 2) (by omega) (by omega); rw [lapE, if_neg (by omega), wBtw_comm] at h; exact h
  have e34 : at2 (lapM 5 ws) 3 4 = -wBtw ws 3 4 := by have h := at2_lap (N := 5) ws (i := 3) (j := 4) (by omega) (by omega); rw [lapE, if_neg (by omega)] at h; exact h
  have e40 : at2 (lapM 5 ws) 4 0 = -wBtw ws 0 4 := by have h := at2_lap (N := 5) ws (i := 4) (j := 0) (by omega) (by omega); rw [lapE, if_neg (by omega), wBtw_comm] at h; exact h
  have e41 : at2 (lapM 5 ws) 4 1 = -wBtw ws 1 4 := by have h := at2_lap (N := 5) ws (i := 4) (j := 1) (by omega) (by omega); rw [lapE, if_neg (by omega), wBtw_comm] at h; exact h
  have e42 : at2 (lapM 5 ws) 4 2 = -wBtw ws 2 4 := by have h := at2_lap (N := 5) ws (i := 4) (j := 2) (by omega) (by omega); rw [lapE, if_neg (by omega), wBtw_comm] at h; exact h
  have e43 : at2 (lapM 5 ws) 4 3 = -wBtw ws 3 4 := by have h := at2_lap (N := 5) ws (i := 4) (j := 3) (by omega) (by omega); rw [lapE, if_neg (by omega), wBtw_comm] at h; exact h
  have d0 : at2 (lapM 5 ws) 0 0 = wBtw ws 0 1 + wBtw ws 0 2 + wBtw ws 0 3 + wBtw ws 0 4 := by
    have h := at2_lap (N := 5) ws (i := 0) (j := 0) (by omega) (by omega)
    rw [lapE, if_pos rfl, wAt_sum h0 (by omega) 0 (by omega)] at h
    have h' : at2 (lapM 5 ws) 0 0 = _ := h
    rw [h']
    simp [sumN, wBtw_self]
  have d1 : at2 (lapM 5 ws) 1 1 = wBtw ws 0 1 + wBtw ws 1 2 + wBtw ws 1 3 + wBtw ws 1 4 := by
    have h := at2_lap (N := 5) ws (i := 1) (j := 1) (by omega) (by omega)
    rw [lapE, if_pos rfl, wAt_sum h0 (by omega) 1 (by omega)] at h
    have h' : at2 (lapM 5 ws) 1 1 = _ := h
    rw [h']
    simp [sumN, wBtw_self, wBtw_comm ws 1 0]
  have d2 : at2 (lapM 5 ws) 2 2 = wBtw ws 0 2 + wBtw ws 1 2 + wBtw ws 2 3 + wBtw ws 2 4 := by
    have h := at2_lap (N := 5) ws (i := 2) (j := 2) (by omega) (by omega)
    rw [lapE, if_pos rfl, wAt_sum h0 (by omega) 2 (by omega)] at h
    have h' : at2 (lapM 5 ws) 2 2 = _ := h
    rw [h']
    simp [sumN, wBtw_self, wBtw_comm ws 2 0, wBtw_comm ws 2 1]
  have d3 : at2 (lapM 5 ws) 3 3 = wBtw ws 0 3 + wBtw ws 1 3 + wBtw ws 2 3 + wBtw ws 3 4 := by
    have h := at2_lap (N := 5) ws (i := 3) (j := 3) (by omega) (by omega)
    rw [lapE, if_pos rfl, wAt_sum h0 (by omega) 3 (by omega)] at h
    have h' : at2 (lapM 5 ws) 3 3 = _ := h
    rw [h']
    simp [sumN, wBtw_self, wBtw_comm ws 3 0, wBtw_comm ws 3 1, wBtw_comm ws 3 2]
  have d4 : at2 (lapM 5 ws) 4 4 = wBtw ws 0 4 + wBtw ws 1 4 + wBtw ws 2 4 + wBtw ws 3 4 := by
    have h := at2_lap (N := 5) ws (i := 4) (j := 4) (by omega) (by omega)
    rw [lapE, if_pos rfl, wAt_sum h0 (by omega) 4 (by omega)] at h
    have h' : at2 (lapM 5 ws) 4 4 = _ := h
    rw [h']
    simp [sumN, wBtw_self, wBtw_comm ws 4 0, wBtw_comm ws 4 1, wBtw_comm ws 4 2, wBtw_comm ws 4 3]
  have ha' : a = 0 ∨ a = 1 ∨ a = 2 ∨ a = 3 ∨ a = 4 := by omega
  have hv' : v = 0 ∨ v = 1 ∨ v = 2 ∨ v = 3 ∨ v = 4 := by omega
  clear ha hv h0
  have W0 := w5_01
  have W1 := w5_02
  have W2 := w5_03
  have W3 := w5_04
  have W4 := w5_12
  have W5 := w5_13
  have W6 := w5_14
  have W7 := w5_23
  have W8 := w5_24
  have W9 := w5_34
  generalize lapM 5 ws = M at *
  generalize wBtw ws 0 1 = x01 at *
  generalize wBtw ws 0 2 = x02 at *
  generalize wBtw ws 0 3 = x03 at *
  generalize wBtw ws 0 4 = x04 at *
  generalize wBtw ws 1 2 = x12 at *
  generalize wBtw ws 1 3 = x13 at *
  generalize wBtw ws 1 4 = x14 at *
  generalize wBtw ws 2 3 = x23 at *
  generalize wBtw ws 2 4 = x24 at *
  generalize wBtw ws 3 4 = x34 at *
  rcases ha' with rfl | rfl | rfl | rfl | rfl <;> first | (exfalso; exact hab rfl) | (rcases hv' with rfl | rfl | rfl | rfl | rfl <;> first | (exfalso; exact hvb rfl) | (exfalso; exact hva rfl) | (clear hab hvb hva; simp [forD, potI, idx, sgn, det3, *] <;> grind))
/-- The sums of forests on both sides of a node make its potential. -/
theorem side_pot {N : Nat} {ws : List W3} (h : WiresV N ws) (h5 : N ≤ 5) (a b v : Nat) (ha : a < N) (hb : b < N) (hv : v < N) (hab : a ≠ b) :
    forD (lapM N ws) N a b + forD (lapM N ws) N v b - forD (lapM N ws) N a v = 2 * potI (lapM N ws) N a b v := by
  by_cases hvb : v = b
  · subst hvb
    have e1 : forD (lapM N ws) N v v = 0 := by unfold forD; rw [if_pos rfl]
    have e2 : potI (lapM N ws) N a v v = 0 := by unfold potI; rw [if_pos rfl]
    rw [e1, e2]; omega
  by_cases hva : v = a
  · subst hva
    have e1 : forD (lapM N ws) N v v = 0 := by unfold forD; rw [if_pos rfl]
    rw [e1, potI_self _ _ _ _ hab]; omega
  have hN : N = 3 ∨ N = 4 ∨ N = 5 := by omega
  rcases hN with rfl | rfl | rfl
  · have hb' : b = 0 ∨ b = 1 ∨ b = 2 := by omega
    rcases hb' with rfl | rfl | rfl
    · exact side3_0 h a v ha hv hab hvb hva
    · exact side3_1 h a v ha hv hab hvb hva
    · exact side3_2 h a v ha hv hab hvb hva
  · have hb' : b = 0 ∨ b = 1 ∨ b = 2 ∨ b = 3 := by omega
    rcases hb' with rfl | rfl | rfl | rfl
    · exact side4_0 h a v ha hv hab hvb hva
    · exact side4_1 h a v ha hv hab hvb hva
    · exact side4_2 h a v ha hv hab hvb hva
    · exact side4_3 h a v ha hv hab hvb hva
  · have hb' : b = 0 ∨ b = 1 ∨ b = 2 ∨ b = 3 ∨ b = 4 := by omega
    rcases hb' with rfl | rfl | rfl | rfl | rfl
    · exact side5_0 h a v ha hv hab hvb hva
    · exact side5_1 h a v ha hv hab hvb hva
    · exact side5_2 h a v ha hv hab hvb hva
    · exact side5_3 h a v ha hv hab hvb hva
    · exact side5_4 h a v ha hv hab hvb hva
end Go.Proofs.Ytaececpphdaciaa
