/-
  The sums of forests on both sides of a node make its potential.
  The potential of a node, times the tree sum: by minors in the model, by sums of forests in the program.
-/
import Derived.Test.YtaececpphdaciaaGKir
import Derived.Test.YtaececpphdaciaaResist
namespace Go.Proofs.Ytaececpphdaciaa
open Go.RowKit

/-- The minor without two nodes; nothing for equal nodes. -/
def forD (m : MatI) (N a b : Nat) : Int := if a = b then 0 else detD m (woL N [((min a b : Nat) : Int), ((max a b : Nat) : Int)]) (woL N [((min a b : Nat) : Int), ((max a b : Nat) : Int)])
theorem forD_comm (m : MatI) (N a b : Nat) : forD m N a b = forD m N b a := by
  unfold forD
  rw [Nat.min_comm, Nat.max_comm]
  by_cases h : a = b
  · rw [if_pos h, if_pos h.symm]
  · rw [if_neg h, if_neg (Ne.symm h)]
theorem potI_self (m : MatI) (N a b : Nat) (h : a ≠ b) : potI m N a b a = forD m N a b := by
  unfold potI forD
  rw [if_neg h, if_neg h]
  have e : sgn (idx a b + idx a b) = 1 := by unfold sgn; rw [if_pos (by omega)]
  rw [e, Int.one_mul]
set_option maxHeartbeats 8000000 in
theorem side3_0 {ws : List W3} (h0 : WiresV (3 : Nat) ws) (a v : Nat) (ha : a < 3) (hv : v < 3) (hab : a ≠ 0) (hvb : v ≠ 0) (hva : v ≠ a) : forD (lapM 3 ws) 3 a 0 + forD (lapM 3 ws) 3 v 0 - forD (lapM 3 ws) 3 a v = 2 * potI (lapM 3 ws) 3 a 0 v := by
  have e01 : at2 (lapM 3 ws) 0 1 = -wBtw ws 0 1 := by have h := at2_lap (N := 3) ws (i := 0) (j := 1) (by omega) (by omega); rw [lapE, if_neg (by omega)] at h; exact h
  have e02 : at2 (lapM 3 ws) 0 2 = -wBtw ws 0 2 := by have h := at2_lap (N := 3) ws (i := 0) (j := 2) (by omega) (by omega); rw [lapE, if_neg (by omega)] at h; exact h
  have e10 : at2 (lapM 3 ws) 1 0 = -wBtw ws 0 1 := by have h := at2_lap (N := 3) ws (i := 1) (j := 0) (by omega) (by omega); rw [lapE, if_neg (by omega), wBtw_comm] at h; exact h
  have e12 : at2 (lapM 3 ws) 1 2 = -wBtw ws 1 2 := by have h := at2_lap (N := 3) ws (i := 1) (j := 2) (by omega) (by omega); rw [lapE, if_neg (by omega)] at h; exact h
  have e20 : at2 (lapM 3 ws) 2 0 = -wBtw ws 0 2 := by have h := at2_lap (N := 3) ws (i := 2) (j := 0) (by omega) (by omega); rw [lapE, if_neg (by omega), wBtw_comm] at h; exact h
  have e21 : at2 (lapM 3 ws) 2 1 = -wBtw ws 1 2 := by have h := at2_lap (N := 3) ws (i := 2) (j := 1) (by omega) (by omega); rw [lapE, if_neg (by omega), wBtw_comm] at h; exact h
  have d0 : at2 (lapM 3 ws) 0 0 = wBtw ws 0 1 + wBtw ws 0 2 := by
    have h := at2_lap (N := 3) ws (i := 0) (j := 0) (by omega) (by omega)
    rw [lapE, if_pos rfl, wAt_sum h0 (by omega) 0 (by omega)] at h
    have h' : at2 (lapM 3 ws) 0 0 = _ := h
    rw [h']
    simp [sumN, wBtw_self]
  have d1 : at2 (lapM 3 ws) 1 1 = wBtw ws 0 1 + wBtw ws 1 2 := by
    have h := at2_lap (N := 3) ws (i := 1) (j := 1) (by omega) (by omega)
    rw [lapE, if_pos rfl, wAt_sum h0 (by omega) 1 (by omega)] at h
    have h' : at2 (lapM 3 ws) 1 1 = _ := h
    rw [h']
    simp [sumN, wBtw_self, wBtw_comm ws 1 0]
  have d2 : at2 (lapM 3 ws) 2 2 = wBtw ws 0 2 + wBtw ws 1 2 := by
    have h := at2_lap (N := 3) ws (i := 2) (j := 2) (by omega) (by omega)
    rw [lapE, if_pos rfl, wAt_sum h0 (by omega) 2 (by omega)] at h
    have h' : at2 (lapM 3 ws) 2 2 = _ := h
    rw [h']
    simp [sumN, wBtw_self, wBtw_comm ws 2 0, wBtw_comm ws 2 1]
  have ha' : a = 0 ∨ a = 1 ∨ a = 2 := by omega
  have hv' : v = 0 ∨ v = 1 ∨ v = 2 := by omega
  clear ha hv h0
  have W0 := w3_01
  have W1 := w3_02
  have W2 := w3_12
  generalize lapM 3 ws = M at *
  generalize wBtw ws 0 1 = x01 at *
  generalize wBtw ws 0 2 = x02 at *
  generalize wBtw ws 1 2 = x12 at *
  rcases ha' with rfl | rfl | rfl <;> first | (exfalso; exact hab rfl) | (rcases hv' with rfl | rfl | rfl <;> first | (exfalso; exact hvb rfl) | (exfalso; exact hva rfl) | (clear hab hvb hva; simp [forD, potI, idx, sgn, det1, *] <;> grind))
set_option maxHeartbeats 8000000 in
theorem side3_1 {ws : List W3} (h0 : WiresV (3 : Nat) ws) (a v : Nat) (ha : a < 3) (hv : v < 3) (hab : a ≠ 1) (hvb : v ≠ 1) (hva : v ≠ a) : forD (lapM 3 ws) 3 a 1 + forD (lapM 3 ws) 3 v 1 - forD (lapM 3 ws) 3 a v = 2 * potI (lapM 3 ws) 3 a 1 v := by
  have e01 : at2 (lapM 3 ws) 0 1 = -wBtw ws 0 1 := by have h := at2_lap (N := 3) ws (i := 0) (j := 1) (by omega) (by omega); rw [lapE, if_neg (by omega)] at h; exact h
  have e02 : at2 (lapM 3 ws) 0 2 = -wBtw ws 0 2 := by have h := at2_lap (N := 3) ws (i := 0) (j := 2) (by omega) (by omega); rw [lapE, if_neg (by omega)] at h; exact h
  have e10 : at2 (lapM 3 ws) 1 0 = -wBtw ws 0 1 := by have h := at2_lap (N := 3) ws (i := 1) (j := 0) (by omega) (by omega); rw [lapE, if_neg (by omega), wBtw_comm] at h; exact h
  have e12 : at2 (lapM 3 ws) 1 2 = -wBtw ws 1 2 := by have h := at2_lap (N := 3) ws (i := 1) (j := 2) (by omega) (by omega); rw [lapE, if_neg (by omega)] at h; exact h
  have e20 : at2 (lapM 3 ws) 2 0 = -wBtw ws 0 2 := by have h := at2_lap (N := 3) ws (i := 2) (j := 0) (by omega) (by omega); rw [lapE, if_neg (by omega), wBtw_comm] at h; exact h
  have e21 : at2 (lapM 3 ws) 2 1 = -wBtw ws 1 2 := by have h := at2_lap (N := 3) ws (i := 2) (j := 1) (by omega) (by omega); rw [lapE, if_neg (by omega), wBtw_comm] at h; exact h
  have d0 : at2 (lapM 3 ws) 0 0 = wBtw ws 0 1 + wBtw ws 0 2 := by
    have h := at2_lap (N := 3) ws (i := 0) (j := 0) (by omega) (by omega)
    rw [lapE, if_pos rfl, wAt_sum h0 (by omega) 0 (by omega)] at h
    have h' : at2 (lapM 3 ws) 0 0 = _ := h
    rw [h']
    simp [sumN, wBtw_self]
  have d1 : at2 (lapM 3 ws) 1 1 = wBtw ws 0 1 + wBtw ws 1 2 := by
    have h := at2_lap (N := 3) ws (i := 1) (j := 1) (by omega) (by omega)
    rw [lapE, if_pos rfl, wAt_sum h0 (by omega) 1 (by omega)] at h
    have h' : at2 (lapM 3 ws) 1 1 = _ := h
    rw [h']
    simp [sumN, wBtw_self, wBtw_comm ws 1 0]
  have d2 : at2 (lapM 3 ws) 2 2 = wBtw ws 0 2 + wBtw ws 1 2 := by
    have h := at2_lap (N := 3) ws (i := 2) (j := 2) (by omega) (by omega)
    rw [lapE, if_pos rfl, wAt_sum h0 (by omega) 2 (by omega)] at h
    have h' : at2 (lapM 3 ws) 2 2 = _ := h
    rw [h']
    simp [sumN, wBtw_self, wBtw_comm ws 2 0, wBtw_comm ws 2 1]
  have ha' : a = 0 ∨ a = 1 ∨ a = 2 := by omega
  have hv' : v = 0 ∨ v = 1 ∨ v = 2 := by omega
  clear ha hv h0
  have W0 := w3_01
  have W1 := w3_02
  have W2 := w3_12
  generalize lapM 3 ws = M at *
  generalize wBtw ws 0 1 = x01 at *
  generalize wBtw ws 0 2 = x02 at *
  generalize wBtw ws 1 2 = x12 at *
  rcases ha' with rfl | rfl | rfl <;> first | (exfalso; exact hab rfl) | (rcases hv' with rfl | rfl | rfl <;> first | (exfalso; exact hvb rfl) | (exfalso; exact hva rfl) | (clear hab hvb hva; simp [forD, potI, idx, sgn, det1, *] <;> grind))
set_option maxHeartbeats 8000000 in
theorem side3_2 {ws : List W3} (h0 : WiresV (3 : Nat) ws) (a v : Nat) (ha : a < 3) (hv : v < 3) (hab : a ≠ 2) (hvb : v ≠ 2) (hva : v ≠ a) : forD (lapM 3 ws) 3 a 2 + forD (lapM 3 ws) 3 v 2 - forD (lapM 3 ws) 3 a v = 2 * potI (lapM 3 ws) 3 a 2 v := by
  have e01 : at2 (lapM 3 ws) 0 1 = -wBtw ws 0 1 := by have h := at2_lap (N := 3) ws (i := 0) (j := 1) (by omega) (by omega); rw [lapE, if_neg (by omega)] at h; exact h
  have e02 : at2 (lapM 3 ws) 0 2 = -wBtw ws 0 2 := by have h := at2_lap (N := 3) ws (i := 0) (j := 2) (by omega) (by omega); rw [lapE, if_neg (by omega)] at h; exact h
  have e10 : at2 (lapM 3 ws) 1 0 = -wBtw ws 0 1 := by have h := at2_lap (N := 3) ws (i := 1) (j := 0) (by omega) (by omega); rw [lapE, if_neg (by omega), wBtw_comm] at h; exact h
  have e12 : at2 (lapM 3 ws) 1 2 = -wBtw ws 1 2 := by have h := at2_lap (N := 3) ws (i := 1) (j := 2) (by omega) (by omega); rw [lapE, if_neg (by omega)] at h; exact h
  have e20 : at2 (lapM 3 ws) 2 0 = -wBtw ws 0 2 := by have h := at2_lap (N := 3) ws (i := 2) (j := 0) (by omega) (by omega); rw [lapE, if_neg (by omega), wBtw_comm] at h; exact h
  have e21 : at2 (lapM 3 ws) 2 1 = -wBtw ws 1 2 := by have h := at2_lap (N := 3) ws (i := 2) (j := 1) (by omega) (by omega); rw [lapE, if_neg (by omega), wBtw_comm] at h; exact h
  have d0 : at2 (lapM 3 ws) 0 0 = wBtw ws 0 1 + wBtw ws 0 2 := by
    have h := at2_lap (N := 3) ws (i := 0) (j := 0) (by omega) (by omega)
    rw [lapE, if_pos rfl, wAt_sum h0 (by omega) 0 (by omega)] at h
    have h' : at2 (lapM 3 ws) 0 0 = _ := h
    rw [h']
    simp [sumN, wBtw_self]
  have d1 : at2 (lapM 3 ws) 1 1 = wBtw ws 0 1 + wBtw ws 1 2 := by
    have h := at2_lap (N := 3) ws (i := 1) (j := 1) (by omega) (by omega)
    rw [lapE, if_pos rfl, wAt_sum h0 (by omega) 1 (by omega)] at h
    have h' : at2 (lapM 3 ws) 1 1 = _ := h
    rw [h']
    simp [sumN, wBtw_self, wBtw_comm ws 1 0]
  have d2 : at2 (lapM 3 ws) 2 2 = wBtw ws 0 2 + wBtw ws 1 2 := by
    have h := at2_lap (N := 3) ws (i := 2) (j := 2) (by omega) (by omega)
    rw [lapE, if_pos rfl, wAt_sum h0 (by omega) 2 (by omega)] at h
    have h' : at2 (lapM 3 ws) 2 2 = _ := h
    rw [h']
    simp [sumN, wBtw_self, wBtw_comm ws 2 0, wBtw_comm ws 2 1]
  have ha' : a = 0 ∨ a = 1 ∨ a = 2 := by omega
  have hv' : v = 0 ∨ v = 1 ∨ v = 2 := by omega
  clear ha hv h0
  have W0 := w3_01
  have W1 := w3_02
  have W2 := w3_12
  generalize lapM 3 ws = M at *
  generalize wBtw ws 0 1 = x01 at *
  generalize wBtw ws 0 2 = x02 at *
  generalize wBtw ws 1 2 = x12 at *
  rcases ha' with rfl | rfl | rfl <;> first | (exfalso; exact hab rfl) | (rcases hv' with rfl | rfl | rfl <;> first | (exfalso; exact hvb rfl) | (exfalso; exact hva rfl) | (clear hab hvb hva; simp [forD, potI, idx, sgn, det1, *] <;> grind))
set_option maxHeartbeats 8000000 in
theorem side4_0 {ws : List W3} (h0 : WiresV (4 : Nat) ws) (a v : Nat) (ha : a < 4) (hv : v < 4) (hab : a ≠ 0) (hvb : v ≠ 0) (hva : v ≠ a) : forD (lapM 4 ws) 4 a 0 + forD (lapM 4 ws) 4 v 0 - forD (lapM 4 ws) 4 a v = 2 * potI (lapM 4 ws) 4 a 0 v := by
  have e01 : at2 (lapM 4 ws) 0 1 = -wBtw ws 0 1 := by have h := at2_lap (N := 4) ws (i := 0) (j := 1) (by omega) (by omega); rw [lapE, if_neg (by omega)] at h; exact h
  have e02 : at2 (lapM 4 ws) 0 2 = -wBtw ws 0 2 := by have h := at2_lap (N := 4) ws (i := 0) (j := 2) (by omega) (by omega); rw [lapE, if_neg (by omega)] at h; exact h
  have e03 : at2 (lapM 4 ws) 0 3 = -wBtw ws 0 3 := by have h := at2_lap (N := 4) ws (i := 0) (j := 3) (by omega) (by omega); rw [lapE, if_neg (by omega)] at h; exact h
  have e10 : at2 (lapM 4 ws) 1 0 = -wBtw ws 0 1 := by have h := at2_lap (N := 4) ws (i := 1) (j := 0) (by omega) (by omega); rw [lapE, if_neg (by omega), wBtw_comm] at h; exact h
  have e12 : at2 (lapM 4 ws) 1 2 = -wBtw ws 1 2 := by have h := at2_lap (N := 4) ws (i := 1) (j := 2) (by omega) (by omega); rw [lapE, if_neg (by omega)] at h; exact h
  have e13 : at2 (lapM 4 ws) 1 3 = -wBtw ws 1 3 := by have h := at2_lap (N := 4) ws (i := 1) (j := 3) (by omega) (by omega); rw [lapE, if_neg (by omega)] at h; exact h
  have e20 : at2 (lapM 4 ws) 2 0 = -wBtw ws 0 2 := by have h := at2_lap (N := 4) ws (i := 2) (j := 0) (by omega) (by omega); rw [lapE, if_neg (by omega), wBtw_comm] at h; exact h
  have e21 : at2 (lapM 4 ws) 2 1 = -wBtw ws 1 2 := by have h := at2_lap (N := 4) ws (i := 2) (j := 1) (by omega) (by omega); rw [lapE, if_neg (by omega), wBtw_comm] at h; exact h
  have e23 : at2 (lapM 4 ws) 2 3 = -wBtw ws 2 3 := by have h := at2_lap (N := 4) ws (i := 2) (j := 3) (by omega) (by omega); rw [lapE, if_neg (by omega)] at h; exact h
  have e30 : at2 (lapM 4 ws) 3 0 = -wBtw ws 0 3 := by have h := at2_lap (N := 4) ws (i := 3) (j := 0) (by omega) (by omega); rw [lapE, if_neg (by omega), wBtw_comm] at h; exact h
  have e31 : at2 (lapM 4 ws) 3 1 = -wBtw ws 1 3 := by have h := at2_lap (N := 4) ws (i := 3) (j := 1) (by omega) (by omega); rw [lapE, if_neg (by omega), wBtw_comm] at h; exact h
  have e32 : at2 (lapM 4 ws) 3 2 = -wBtw ws 2 3 := by have h := at2_lap (N := 4) ws (i := 3) (j := 2) (by omega) (by omega); rw [lapE, if_neg (by omega), wBtw_comm] at h; exact h
  have d0 : at2 (lapM 4 ws) 0 0 = wBtw ws 0 1 + wBtw ws 0 2 + wBtw ws 0 3 := by
    have h := at2_lap (N := 4) ws (i := 0) (j := 0) (by omega) (by omega)
    rw [lapE, if_pos rfl, wAt_sum h0 (by omega) 0 (by omega)] at h
    have h' : at2 (lapM 4 ws) 0 0 = _ := h
    rw [h']
    simp [sumN, wBtw_self]
  have d1 : at2 (lapM 4 ws) 1 1 = wBtw ws 0 1 + wBtw ws 1 2 + wBtw ws 1 3 := by
    have h := at2_lap (N := 4) ws (i := 1) (j := 1) (by omega) (by omega)
    rw [lapE, if_pos rfl, wAt_sum h0 (by omega) 1 (by omega)] at h
    have h' : at2 (lapM 4 ws) 1 1 = _ := h
    rw [h']
    simp [sumN, wBtw_self, wBtw_comm ws 1 0]
  have d2 : at2 (lapM 4 ws) 2 2 = wBtw ws 0 2 + wBtw ws 1 2 + wBtw ws 2 3 := by
    have h := at2_lap (N := 4) ws (i := 2) (j := 2) (by omega) (by omega)
    rw [lapE, if_pos rfl, wAt_sum h0 (by omega) 2 (by omega)] at h
    have h' : at2 (lapM 4 ws) 2 2 = _ := h
    rw [h']
    simp [sumN, wBtw_self, wBtw_comm ws 2 0, wBtw_comm ws 2 1]
  have d3 : at2 (lapM 4 ws) 3 3 = wBtw ws 0 3 + wBtw ws 1 3 + wBtw ws 2 3 := by
    have h := at2_lap (N := 4) ws (i := 3) (j := 3) (by omega) (by omega)
    rw [lapE, if_pos rfl, wAt_sum h0 (by omega) 3 (by omega)] at h
    have h' : at2 (lapM 4 ws) 3 3 = _ := h
    rw [h']
    simp [sumN, wBtw_self, wBtw_comm ws 3 0, wBtw_comm ws 3 1, wBtw_comm ws 3 2]
  have ha' : a = 0 ∨ a = 1 ∨ a = 2 ∨ a = 3 := by omega
  have hv' : v = 0 ∨ v = 1 ∨ v = 2 ∨ v = 3 := by omega
  clear ha hv h0
  have W0 := w4_01
  have W1 := w4_02
  have W2 := w4_03
  have W3 := w4_12
  have W4 := w4_13
  have W5 := w4_23
  generalize lapM 4 ws = M at *
  generalize wBtw ws 0 1 = x01 at *
  generalize wBtw ws 0 2 = x02 at *
  generalize wBtw ws 0 3 = x03 at *
  generalize wBtw ws 1 2 = x12 at *
  generalize wBtw ws 1 3 = x13 at *
  generalize wBtw ws 2 3 = x23 at *
  rcases ha' with rfl | rfl | rfl | rfl <;> first | (exfalso; exact hab rfl) | (rcases hv' with rfl | rfl | rfl | rfl <;> first | (exfalso; exact hvb rfl) | (exfalso; exact hva rfl) | (clear hab hvb hva; simp [forD, potI, idx, sgn, det2, *] <;> grind))
set_option maxHeartbeats 8000000 in
theorem side4_1 {ws : List W3} (h0 : WiresV (4 : Nat) ws) (a v : Nat) (ha : a < 4) (hv : v < 4) (hab : a ≠ 1) (hvb : v ≠ 1) (hva : v ≠ a) : forD (lapM 4 ws) 4 a 1 + forD (lapM 4 ws) 4 v 1 - forD (lapM 4 ws) 4 a v = 2 * potI (lapM 4 ws) 4 a 1 v := by
  have e01 : at2 (lapM 4 ws) 0 1 = -wBtw ws 0 1 := by have h := at2_lap (N := 4) ws (i := 0) (j := 1) (by omega) (by omega); rw [lapE, if_neg (by omega)] at h; exact h
  have e02 : at2 (lapM 4 ws) 0 2 = -wBtw ws 0 2 := by have h := at2_lap (N := 4) ws (i := 0) (j := 2) (by omega) (by omega); rw [lapE, if_neg (by omega)] at h; exact h
  have e03 : at2 (lapM 4 ws) 0 3 = -wBtw ws 0 3 := by have h := at2_lap (N := 4) ws (i := 0) (j := 3) (by omega) (by omega); rw [lapE, if_neg (by omega)] at h; exact h
  have e10 : at2 (lapM 4 ws) 1 0 = -wBtw ws 0 1 := by have h := at2_lap (N := 4) ws (i := 1) (j := 0) (by omega) (by omega); rw [lapE, if_neg (by omega), wBtw_comm] at h; exact h
  have e12 : at2 (lapM 4 ws) 1 2 = -wBtw ws 1 2 := by have h := at2_lap (N := 4) ws (i := 1) (j := 2) (by omega) (by omega); rw [lapE, if_neg (by omega)] at h; exact h
  have e13 : at2 (lapM 4 ws) 1 3 = -wBtw ws 1 3 := by have h := at2_lap (N := 4) ws (i := 1) (j := 3) (by omega) (by omega); rw [lapE, if_neg (by omega)] at h; exact h
  have e20 : at2 (lapM 4 ws) 2 0 = -wBtw ws 0 2 := by have h := at2_lap (N := 4) ws (i := 2) (j := 0) (by omega) (by omega); rw [lapE, if_neg (by omega), wBtw_comm] at h; exact h
  have e21 : at2 (lapM 4 ws) 2 1 = -wBtw ws 1 2 := by have h := at2_lap (N := 4) ws (i := 2) (j := 1) (by omega) (by omega); rw [lapE, if_neg (by omega), wBtw_comm] at h; exact h
  have e23 : at2 (lapM 4 ws) 2 3 = -wBtw ws 2 3 := by have h := at2_lap (N := 4) ws (i := 2) (j := 3) (by omega) (by omega); rw [lapE, if_neg (by omega)] at h; exact h
  have e30 : at2 (lapM 4 ws) 3 0 = -wBtw ws 0 3 := by have h := at2_lap (N := 4) ws (i := 3) (j := 0) (by omega) (by omega); rw [lapE, if_neg (by omega), wBtw_comm] at h; exact h
  have e31 : at2 (lapM 4 ws) 3 1 = -wBtw ws 1 3 := by have h := at2_lap (N := 4) ws (i := 3) (j := 1) (by omega) (by omega); rw [lapE, if_neg (by omega), wBtw_comm] at h; exact h
  have e32 : at2 (lapM 4 ws) 3 2 = -wBtw ws 2 3 := by have h := at2_lap (N := 4) ws (i := 3) (j := 2) (by omega) (by omega); rw [lapE, if_neg (by omega), wBtw_comm] at h; exact h
  have d0 : at2 (lapM 4 ws) 0 0 = wBtw ws 0 1 + wBtw ws 0 2 + wBtw ws 0 3 := by
    have h := at2_lap (N := 4) ws (i := 0) (j := 0) (by omega) (by omega)
    rw [lapE, if_pos rfl, wAt_sum h0 (by omega) 0 (by omega)] at h
    have h' : at2 (lapM 4 ws) 0 0 = _ := h
    rw [h']
    simp [sumN, wBtw_self]
  have d1 : at2 (lapM 4 ws) 1 1 = wBtw ws 0 1 + wBtw ws 1 2 + wBtw ws 1 3 := by
    have h := at2_lap (N := 4) ws (i := 1) (j := 1) (by omega) (by omega)
    rw [lapE, if_pos rfl, wAt_sum h0 (by omega) 1 (by omega)] at h
    have h' : at2 (lapM 4 ws) 1 1 = _ := h
    rw [h']
    simp [sumN, wBtw_self, wBtw_comm ws 1 0]
  have d2 : at2 (lapM 4 ws) 2 2 = wBtw ws 0 2 + wBtw ws 1 2 + wBtw ws 2 3 := by
    have h := at2_lap (N := 4) ws (i := 2) (j := 2) (by omega) (by omega)
    rw [lapE, if_pos rfl, wAt_sum h0 (by omega) 2 (by omega)] at h
    have h' : at2 (lapM 4 ws) 2 2 = _ := h
    rw [h']
    simp [sumN, wBtw_self, wBtw_comm ws 2 0, wBtw_comm ws 2 1]
  have d3 : at2 (lapM 4 ws) 3 3 = wBtw ws 0 3 + wBtw ws 1 3 + wBtw ws 2 3 := by
    have h := at2_lap (N := 4) ws (i := 3) (j := 3) (by omega) (by omega)
    rw [lapE, if_pos rfl, wAt_sum h0 (by omega) 3 (by omega)] at h
    have h' : at2 (lapM 4 ws) 3 3 = _ := h
    rw [h']
    simp [sumN, wBtw_self, wBtw_comm ws 3 0, wBtw_comm ws 3 1, wBtw_comm ws 3 2]
  have ha' : a = 0 ∨ a = 1 ∨ a = 2 ∨ a = 3 := by omega
  have hv' : v = 0 ∨ v = 1 ∨ v = 2 ∨ v = 3 := by omega
  clear ha hv h0
  have W0 := w4_01
  have W1 := w4_02
  have W2 := w4_03
  have W3 := w4_12
  have W4 := w4_13
  have W5 := w4_23
  generalize lapM 4 ws = M at *
  generalize wBtw ws 0 1 = x01 at *
  generalize wBtw ws 0 2 = x02 at *
  generalize wBtw ws 0 3 = x03 at *
  generalize wBtw ws 1 2 = x12 at *
  generalize wBtw ws 1 3 = x13 at *
  generalize wBtw ws 2 3 = x23 at *
  rcases ha' with rfl | rfl | rfl | rfl <;> first | (exfalso; exact hab rfl) | (rcases hv' with rfl | rfl | rfl | rfl <;> first | (exfalso; exact hvb rfl) | (exfalso; exact hva rfl) | (clear hab hvb hva; simp [forD, potI, idx, sgn, det2, *] <;> grind))
set_option maxHeartbeats 8000000 in
theorem side4_2 {ws : List W3} (h0 : WiresV (4 : Nat) ws) (a v : Nat) (ha : a < 4) (hv : v < 4) (hab : a ≠ 2) (hvb : v ≠ 2) (hva : v ≠ a) : forD (lapM 4 ws) 4 a 2 + forD (lapM 4 ws) 4 v 2 - forD (lapM 4 ws) 4 a v = 2 * potI (lapM 4 ws) 4 a 2 v := by
  have e01 : at2 (lapM 4 ws) 0 1 = -wBtw ws 0 1 := by have h := at2_lap (N := 4) ws (i := 0) (j := 1) (by omega) (by omega); rw [lapE, if_neg (by omega)] at h; exact h
  have e02 : at2 (lapM 4 ws) 0 2 = -wBtw ws 0 2 := by have h := at2_lap (N := 4) ws (i := 0) (j := 2) (by omega) (by omega); rw [lapE, if_neg (by omega)] at h; exact h
  have e03 : at2 (lapM 4 ws) 0 3 = -wBtw ws 0 3 := by have h := at2_lap (N := 4) ws (i := 0) (j := 3) (by omega) (by omega); rw [lapE, if_neg (by omega)] at h; exact h
  have e10 : at2 (lapM 4 ws) 1 0 = -wBtw ws 0 1 := by have h := at2_lap (N := 4) ws (i := 1) (j := 0) (by omega) (by omega); rw [lapE, if_neg (by omega), wBtw_comm] at h; exact h
  have e12 : at2 (lapM 4 ws) 1 2 = -wBtw ws 1 2 := by have h := at2_lap (N := 4) ws (i := 1) (j := 2) (by omega) (by omega); rw [lapE, if_neg (by omega)] at h; exact h
  have e13 : at2 (lapM 4 ws) 1 3 = -wBtw ws 1 3 := by have h := at2_lap (N := 4) ws (i := 1) (j := 3) (by omega) (by omega); rw [lapE, if_neg (by omega)] at h; exact h
  have e20 : at2 (lapM 4 ws) 2 0 = -wBtw ws 0 2 := by have h := at2_lap (N := 4) ws (i := 2) (j := 0) (by omega) (by omega); rw [lapE, if_neg (by omega), wBtw_comm] at h; exact h
  have e21 : at2 (lapM 4 ws) 2 1 = -wBtw ws 1 2 := by have h := at2_lap (N := 4) ws (i := 2) (j := 1) (by omega) (by omega); rw [lapE, if_neg (by omega), wBtw_comm] at h; exact h
  have e23 : at2 (lapM 4 ws) 2 3 = -wBtw ws 2 3 := by have h := at2_lap (N := 4) ws (i := 2) (j := 3) (by omega) (by omega); rw [lapE, if_neg (by omega)] at h; exact h
  have e30 : at2 (lapM 4 ws) 3 0 = -wBtw ws 0 3 := by have h := at2_lap (N := 4) ws (i := 3) (j := 0) (by omega) (by omega); rw [lapE, if_neg (by omega), wBtw_comm] at h; exact h
  have e31 : at2 (lapM 4 ws) 3 1 = -wBtw ws 1 3 := by have h := at2_lap (N := 4) ws (i := 3) (j := 1) (by omega) (by omega); rw [lapE, if_neg (by omega), wBtw_comm] at h; exact h
  have e32 : at2 (lapM 4 ws) 3 2 = -wBtw ws 2 3 := by have h := at2_lap (N := 4) ws (i := 3) (j := 2) (by omega) (by omega); rw [lapE, if_neg (by omega), wBtw_comm] at h; exact h
  have d0 : at2 (lapM 4 ws) 0 0 = wBtw ws 0 1 + wBtw ws 0 2 + wBtw ws 0 3 := by
    have h := at2_lap (N := 4) ws (i := 0) (j := 0) (by omega) (by omega)
    rw [lapE, if_pos rfl, wAt_sum h0 (by omega) 0 (by omega)] at h
    have h' : at2 (lapM 4 ws) 0 0 = _ := h
    rw [h']
    simp [sumN, wBtw_self]
  have d1 : at2 (lapM 4 ws) 1 1 = wBtw ws 0 1 + wBtw ws 1 2 + wBtw ws 1 3 := by
    have h := at2_lap (N := 4) ws (i := 1) (j := 1) (by omega) (by omega)
    rw [lapE, if_pos rfl, wAt_sum h0 (by omega) 1 (by omega)] at h
    have h' : at2 (lapM 4 ws) 1 1 = _ := h
    rw [h']
    simp [sumN, wBtw_self, wBtw_comm ws 1 0]
  have d2 : at2 (lapM 4 ws) 2 2 = wBtw ws 0 2 + wBtw ws 1 2 + wBtw ws 2 3 := by
    have h := at2_lap (N := 4) ws (i := 2) (j := 2) (by omega) (by omega)
    rw [lapE, if_pos rfl, wAt_sum h0 (by omega) 2 (by omega)] at h
    have h' : at2 (lapM 4 ws) 2 2 = _ := h
    rw [h']
    simp [sumN, wBtw_self, wBtw_comm ws 2 0, wBtw_comm ws 2 1]
  have d3 : at2 (lapM 4 ws) 3 3 = wBtw ws 0 3 + wBtw ws 1 3 + wBtw ws 2 3 := by
    have h := at2_lap (N := 4) ws (i := 3) (j := 3) (by omega) (by omega)
    rw [lapE, if_pos rfl, wAt_sum h0 (by omega) 3 (by omega)] at h
    have h' : at2 (lapM 4 ws) 3 3 = _ := h
    rw [h']
    simp [sumN, wBtw_self, wBtw_comm ws 3 0, wBtw_comm ws 3 1, wBtw_comm ws 3 2]
  have ha' : a = 0 ∨ a = 1 ∨ a = 2 ∨ a = 3 := by omega
  have hv' : v = 0 ∨ v = 1 ∨ v = 2 ∨ v = 3 := by omega
  clear ha hv h0
  have W0 := w4_01
  have W1 := w4_02
  have W2 := w4_03
  have W3 := w4_12
  have W4 := w4_13
  have W5 := w4_23
  generalize lapM 4 ws = M at *
  generalize wBtw ws 0 1 = x01 at *
  generalize wBtw ws 0 2 = x02 at *
  generalize wBtw ws 0 3 = x03 at *
  generalize wBtw ws 1 2 = x12 at *
  generalize wBtw ws 1 3 = x13 at *
  generalize wBtw ws 2 3 = x23 at *
  rcases ha' with rfl | rfl | rfl | rfl <;> first | (exfalso; exact hab rfl) | (rcases hv' with rfl | rfl | rfl | rfl <;> first | (exfalso; exact hvb rfl) | (exfalso; exact hva rfl) | (clear hab hvb hva; simp [forD, potI, idx, sgn, det2, *] <;> grind))
set_option maxHeartbeats 8000000 in
theorem side4_3 {ws : List W3} (h0 : WiresV (4 : Nat) ws) (a v : Nat) (ha : a < 4) (hv : v < 4) (hab : a ≠ 3) (hvb : v ≠ 3) (hva : v ≠ a) : forD (lapM 4 ws) 4 a 3 + forD (lapM 4 ws) 4 v 3 - forD (lapM 4 ws) 4 a v = 2 * potI (lapM 4 ws) 4 a 3 v := by
  have e01 : at2 (lapM 4 ws) 0 1 = -wBtw ws 0 1 := by have h := at2_lap (N := 4) ws (i := 0) (j := 1) (by omega) (by omega); rw [lapE, if_neg (by omega)] at h; exact h
  have e02 : at2 (lapM 4 ws) 0 2 = -wBtw ws 0 2 := by have h := at2_lap (N := 4) ws (i := 0) (j := 2) (by omega) (by omega); rw [lapE, if_neg (by omega)] at h; exact h
  have e03 : at2 (lapM 4 ws) 0 3 = -wBtw ws 0 3 := by have h := at2_lap (N := 4) ws (i := 0) (j := 3) (by omega) (by omega); rw [lapE, if_neg (by omega)] at h; exact h
  have e10 : at2 (lapM 4 ws) 1 0 = -wBtw ws 0 1 := by have h := at2_lap (N := 4) ws (i := 1) (j := 0) (by omega) (by omega); rw [lapE, if_neg (by omega), wBtw_comm] at h; exact h
  have e12 : at2 (lapM 4 ws) 1 2 = -wBtw ws 1 2 := by have h := at2_lap (N := 4) ws (i := 1) (j := 2) (by omega) (by omega); rw [lapE, if_neg (by omega)] at h; exact h
  have e13 : at2 (lapM 4 ws) 1 3 = -wBtw ws 1 3 := by have h := at2_lap (N := 4) ws (i := 1) (j := 3) (by omega) (by omega); rw [lapE, if_neg (by omega)] at h; exact h
  have e20 : at2 (lapM 4 ws) 2 0 = -wBtw ws 0 2 := by have h := at2_lap (N := 4) ws (i := 2) (j := 0) (by omega) (by omega); rw [lapE, if_neg (by omega), wBtw_comm] at h; exact h
  have e21 : at2 (lapM 4 ws) 2 1 = -wBtw ws 1 2 := by have h := at2_lap (N := 4) ws (i := 2) (j := 1) (by omega) (by omega); rw [lapE, if_neg (by omega), wBtw_comm] at h; exact h
  have e23 : at2 (lapM 4 ws) 2 3 = -wBtw ws 2 3 := by have h := at2_lap (N := 4) ws (i := 2) (j := 3) (by omega) (by omega); rw [lapE, if_neg (by omega)] at h; exact h
  have e30 : at2 (lapM 4 ws) 3 0 = -wBtw ws 0 3 := by have h := at2_lap (N := 4) ws (i := 3) (j := 0) (by omega) (by omega); rw [lapE, if_neg (by omega), wBtw_comm] at h; exact h
  have e31 : at2 (lapM 4 ws) 3 1 = -wBtw ws 1 3 := by have h := at2_lap (N := 4) ws (i := 3) (j := 1) (by omega) (by omega); rw [lapE, if_neg (by omega), wBtw_comm] at h; exact h
  have e32 : at2 (lapM 4 ws) 3 2 = -wBtw ws 2 3 := by have h := at2_lap (N := 4) ws (i := 3) (j := 2) (by omega) (by omega); rw [lapE, if_neg (by omega), wBtw_comm] at h; exact h
  have d0 : at2 (lapM 4 ws) 0 0 = wBtw ws 0 1 + wBtw ws 0 2 + wBtw ws 0 3 := by
    have h := at2_lap (N := 4) ws (i := 0) (j := 0) (by omega) (by omega)
    rw [lapE, if_pos rfl, wAt_sum h0 (by omega) 0 (by omega)] at h
    have h' : at2 (lapM 4 ws) 0 0 = _ := h
    rw [h']
    simp [sumN, wBtw_self]
  have d1 : at2 (lapM 4 ws) 1 1 = wBtw ws 0 1 + wBtw ws 1 2 + wBtw ws 1 3 := by
    have h := at2_lap (N := 4) ws (i := 1) (j := 1) (by omega) (by omega)
    rw [lapE, if_pos rfl, wAt_sum h0 (by omega) 1 (by omega)] at h
    have h' : at2 (lapM 4 ws) 1 1 = _ := h
    rw [h']
    simp [sumN, wBtw_self, wBtw_comm ws 1 0]
  have d2 : at2 (lapM 4 ws) 2 2 = wBtw ws 0 2 + wBtw ws 1 2 + wBtw ws 2 3 := by
    have h := at2_lap (N := 4) ws (i := 2) (j := 2) (by omega) (by omega)
    rw [lapE, if_pos rfl, wAt_sum h0 (by omega) 2 (by omega)] at h
    have h' : at2 (lapM 4 ws) 2 2 = _ := h
    rw [h']
    simp [sumN, wBtw_self, wBtw_comm ws 2 0, wBtw_comm ws 2 1]
  have d3 : at2 (lapM 4 ws) 3 3 = wBtw ws 0 3 + wBtw ws 1 3 + wBtw ws 2 3 := by
    have h := at2_lap (N := 4) ws (i := 3) (j := 3) (by omega) (by omega)
    rw [lapE, if_pos rfl, wAt_sum h0 (by omega) 3 (by omega)] at h
    have h' : at2 (lapM 4 ws) 3 3 = _ := h
    rw [h']
    simp [sumN, wBtw_self, wBtw_comm ws 3 0, wBtw_comm ws 3 1, wBtw_comm ws 3 2]
  have ha' : a = 0 ∨ a = 1 ∨ a = 2 ∨ a = 3 := by omega
  have hv' : v = 0 ∨ v = 1 ∨ v = 2 ∨ v = 3 := by omega
  clear ha hv h0
  have W0 := w4_01
  have W1 := w4_02
  have W2 := w4_03
  have W3 := w4_12
  have W4 := w4_13
  have W5 := w4_23
  generalize lapM 4 ws = M at *
  generalize wBtw ws 0 1 = x01 at *
  generalize wBtw ws 0 2 = x02 at *
  generalize wBtw ws 0 3 = x03 at *
  generalize wBtw ws 1 2 = x12 at *
  generalize wBtw ws 1 3 = x13 at *
  generalize wBtw ws 2 3 = x23 at *
  rcases ha' with rfl | rfl | rfl | rfl <;> first | (exfalso; exact hab rfl) | (rcases hv' with rfl | rfl | rfl | rfl <;> first | (exfalso; exact hvb rfl) | (exfalso; exact hva rfl) | (clear hab hvb hva; simp [forD, potI, idx, sgn, det2, *] <;> grind))
set_option maxHeartbeats 8000000 in
theorem side5_0 {ws : List W3} (h0 : WiresV (5 : Nat) ws) (a v : Nat) (ha : a < 5) (hv : v < 5) (hab : a ≠ 0) (hvb : v ≠ 0) (hva : v ≠ a) : forD (lapM 5 ws) 5 a 0 + forD (lapM 5 ws) 5 v 0 - forD (lapM 5 ws) 5 a v = 2 * potI (lapM 5 ws) 5 a 0 v := by
  have e01 : at2 (lapM 5 ws) 0 1 = -wBtw ws 0 1 := by have h := at2_lap (N := 5) ws (i := 0) (j := 1) (by omega) (by omega); rw [lapE, if_neg (by omega)] at h; exact h
  have e02 : at2 (lapM 5 ws) 0 2 = -wBtw ws 0 2 := by have h := at2_lap (N := 5) ws (i := 0) (j := 2) (by omega) (by omega); rw [lapE, if_neg (by omega)] at h; exact h
  have e03 : at2 (lapM 5 ws) 0 3 = -wBtw ws 0 3 := by have h := at2_lap (N := 5) ws (i := 0) (j := 3) (by omega) (by omega); rw [lapE, if_neg (by omega)] at h; exact h
  have e04 : at2 (lapM 5 ws) 0 4 = -wBtw ws 0 4 := by have h := at2_lap (N := 5) ws (i := 0) (j := 4) (by omega) (by omega); rw [lapE, if_neg (by omega)] at h; exact h
  have e10 : at2 (lapM 5 ws) 1 0 = -wBtw ws 0 1 := by have h := at2_lap (N := 5) ws (i := 1) (j := 0) (by omega) (by omega); rw [lapE, if_neg (by omega), wBtw_comm] at h; exact h
  have e12 : at2 (lapM 5 ws) 1 2 = -wBtw ws 1 2 := by have h := at2_lap (N := 5) ws (i := 1) (j := 2) (by omega) (by omega); rw [lapE, if_neg (by omega)] at h; exact h
  have e13 : at2 (lapM 5 ws) 1 3 = -wBtw ws 1 3 := by have h := at2_lap (N := 5) ws (i := 1) (j := 3) (by omega) (by omega); rw [lapE, if_neg (by omega)] at h; exact h
  have e14 : at2 (lapM 5 ws) 1 4 = -wBtw ws 1 4 := by have h := at2_lap (N := 5) ws (i := 1) (j := 4) (by omega) (by omega); rw [lapE, if_neg (by omega)] at h; exact h
  have e20 : at2 (lapM 5 ws) 2 0 = -wBtw ws 0 2 := by have h := at2_lap (N := 5) ws (i := 2) (j := 0) (by omega) (by omega); rw [lapE, if_neg (by omega), wBtw_comm] at h; exact h
  have e21 : at2 (lapM 5 ws) 2 1 = -wBtw ws 1 2 := by have h := at2_lap (N := 5) ws (i := 2) (j := 1) (by omega) (by omega); rw [lapE, if_neg (by omega), wBtw_comm] at h; exact h
  have e23 : at2 (lapM 5 ws) 2 3 = -wBtw ws 2 3 := by have h := at2_lap (N := 5) ws (i := 2) (j := 3) (by omega) (by omega); rw [lapE, if_neg (by omega)] at h; exact h
  have e24 : at2 (lapM 5 ws) 2 4 = -wBtw ws 2 4 := by have h := at2_lap (N := 5) ws (i := 2) (j := 4) (by omega) (by omega); rw [lapE, if_neg (by omega)] at h; exact h
  have e30 : at2 (lapM 5 ws) 3 0 = -wBtw ws 0 3 := by have h := at2_lap (N := 5) ws (i := 3) (j := 0) (by omega) (by omega); rw [lapE, if_neg (by omega), wBtw_comm] at h; exact h
  have e31 : at2 (lapM 5 ws) 3 1 = -wBtw ws 1 3 := by have h := at2_lap (N := 5) ws (i := 3) (j := 1) (by omega) (by omega); rw [lapE, if_neg (by omega), wBtw_comm] at h; exact h
  have e32 : at2 (lapM 5 ws) 3 2 = -wBtw ws 2 3 := by have h := at2_lap (N := 5) ws (i := 3) (j := 2) (by omega) (by omega); rw [lapE, if_neg (by omega), wBtw_comm] at h; exact h
  have e34 : at2 (lapM 5 ws) 3 4 = -wBtw ws 3 4 := by have h := at2_lap (N := 5) ws (i := 3) (j := 4) (by omega) (by omega); rw [lapE, if_neg (by omega)] at h; exact h
  have e40 : at2 (lapM 5 ws) 4 0 = -wBtw ws 0 4 := by have h := at2_lap (N := 5) ws (i := 4) (j := 0) (by omega) (by omega); rw [lapE, if_neg (by omega), wBtw_comm] at h; exact h
  have e41 : at2 (lapM 5 ws) 4 1 = -wBtw ws 1 4 := by have h := at2_lap (N := 5) ws (i := 4) (j := 1) (by omega) (by omega); rw [lapE, if_neg (by omega), wBtw_comm] at h; exact h
  have e42 : at2 (lapM 5 ws) 4 2 = -wBtw ws 2 4 := by have h := at2_lap (N := 5) ws (i := 4) (j := 2) (by omega) (by omega); rw [lapE, if_neg (by omega), wBtw_comm] at h; exact h
  have e43 : at2 (lapM 5 ws) 4 3 = -wBtw ws 3 4 := by have h := at2_lap (N := 5) ws (i := 4) (j := 3) (by omega) (by omega); rw [lapE, if_neg (by omega), wBtw_comm] at h; exact h
  have d0 : at2 (lapM 5 ws) 0 0 = wBtw ws 0 1 + wBtw ws 0 2 + wBtw ws 0 3 + wBtw ws 0 4 := by
    have h := at2_lap (N := 5) ws (i := 0) (j := 0) (by omega) (by omega)
    rw [lapE, if_pos rfl, wAt_sum h0 (by omega) 0 (by omega)] at h
    have h' : at2 (lapM 5 ws) 0 0 = _ := h
    rw [h']
    simp [sumN, wBtw_self]
  have d1 : at2 (lapM 5 ws) 1 1 = wBtw ws 0 1 + wBtw ws 1 2 + wBtw ws 1 3 + wBtw ws 1 4 := by
    have h := at2_lap (N := 5) ws (i := 1) (j := 1) (by omega) (by omega)
    rw [lapE, if_pos rfl, wAt_sum h0 (by omega) 1 (by omega)] at h
    have h' : at2 (lapM 5 ws) 1 1 = _ := h
    rw [h']
    simp [sumN, wBtw_self, wBtw_comm ws 1 0]
  have d2 : at2 (lapM 5 ws) 2 2 = wBtw ws 0 2 + wBtw ws 1 2 + wBtw ws 2 3 + wBtw ws 2 4 := by
    have h := at2_lap (N := 5) ws (i := 2) (j := 2) (by omega) (by omega)
    rw [lapE, if_pos rfl, wAt_sum h0 (by omega) 2 (by omega)] at h
    have h' : at2 (lapM 5 ws) 2 2 = _ := h
    rw [h']
    simp [sumN, wBtw_self, wBtw_comm ws 2 0, wBtw_comm ws 2 1]
  have d3 : at2 (lapM 5 ws) 3 3 = wBtw ws 0 3 + wBtw ws 1 3 + wBtw ws 2 3 + wBtw ws 3 4 := by
    have h := at2_lap (N := 5) ws (i := 3) (j := 3) (by omega) (by omega)
    rw [lapE, if_pos rfl, wAt_sum h0 (by omega) 3 (by omega)] at h
    have h' : at2 (lapM 5 ws) 3 3 = _ := h
    rw [h']
    simp [sumN, wBtw_self, wBtw_comm ws 3 0, wBtw_comm ws 3 1, wBtw_comm ws 3 2]
  have d4 : at2 (lapM 5 ws) 4 4 = wBtw ws 0 4 + wBtw ws 1 4 + wBtw ws 2 4 + wBtw ws 3 4 := by
    have h := at2_lap (N := 5) ws (i := 4) (j := 4) (by omega) (by omega)
    rw [lapE, if_pos rfl, wAt_sum h0 (by omega) 4 (by omega)] at h
    have h' : at2 (lapM 5 ws) 4 4 = _ := h
    rw [h']
    simp [sumN, wBtw_self, wBtw_comm ws 4 0, wBtw_comm ws 4 1, wBtw_comm ws 4 2, wBtw_comm ws 4 3]
  have ha' : a = 0 ∨ a = 1 ∨ a = 2 ∨ a = 3 ∨ a = 4 := by omega
  have hv' : v = 0 ∨ v = 1 ∨ v = 2 ∨ v = 3 ∨ v = 4 := by omega
  clear ha hv h0
  have W0 := w5_01
  have W1 := w5_02
  have W2 := w5_03
  have W3 := w5_04
  have W4 := w5_12
  have W5 := w5_13
  have W6 := w5_14
  have W7 := w5_23
  have W8 := w5_24
  have W9 := w5_34
  generalize lapM 5 ws = M at *
  generalize wBtw ws 0 1 = x01 at *
  generalize wBtw ws 0 2 = x02 at *
  generalize wBtw ws 0 3 = x03 at *
  generalize wBtw ws 0 4 = x04 at *
  generalize wBtw ws 1 2 = x12 at *
  generalize wBtw ws 1 3 = x13 at *
  generalize wBtw ws 1 4 = x14 at *
  generalize wBtw ws 2 3 = x23 at *
  generalize wBtw ws 2 4 = x24 at *
  generalize wBtw ws 3 4 = x34 at *
  rcases ha' with rfl | rfl | rfl | rfl | rfl <;> first | (exfalso; exact hab rfl) | (rcases hv' with rfl | rfl | rfl | rfl | rfl <;> first | (exfalso; exact hvb rfl) | (exfalso; exact hva rfl) | (clear hab hvb hva; simp [forD, potI, idx, sgn, det3, *] <;> grind))
set_option maxHeartbeats 8000000 in
theorem side5_1 {ws : List W3} (h0 : WiresV (5 : Nat) ws) (a v : Nat) (ha : a < 5) (hv : v < 5) (hab : a ≠ 1) (hvb : v ≠ 1) (hva : v ≠ a) : forD (lapM 5 ws) 5 a 1 + forD (lapM 5 ws) 5 v 1 - forD (lapM 5 ws) 5 a v = 2 * potI (lapM 5 ws) 5 a 1 v := by
  have e01 : at2 (lapM 5 ws) 0 1 = -wBtw ws 0 1 := by have h := at2_lap (N := 5) ws (i := 0) (j := 1) (by omega) (by omega); rw [lapE, if_neg (by omega)] at h; exact h
  have e02 : at2 (lapM 5 ws) 0 2 = -wBtw ws 0 2 := by have h := at2_lap (N := 5) ws (i := 0) (j := 2) (by omega) (by omega); rw [lapE, if_neg (by omega)] at h; exact h
  have e03 : at2 (lapM 5 ws) 0 3 = -wBtw ws 0 3 := by have h := at2_lap (N := 5) ws (i := 0) (j := 3) (by omega) (by omega); rw [lapE, if_neg (by omega)] at h; exact h
  have e04 : at2 (lapM 5 ws) 0 4 = -wBtw ws 0 4 := by have h := at2_lap (N := 5) ws (i := 0) (j := 4) (by omega) (by omega); rw [lapE, if_neg (by omega)] at h; exact h
  have e10 : at2 (lapM 5 ws) 1 0 = -wBtw ws 0 1 := by have h := at2_lap (N := 5) ws (i := 1) (j := 0) (by omega) (by omega); rw [lapE, if_neg (by omega), wBtw_comm] at h; exact h
  have e12 : at2 (lapM 5 ws) 1 2 = -wBtw ws 1 2 := by have h := at2_lap (N := 5) ws (i := 1) (j := 2) (by omega) (by omega); rw [lapE, if_neg (by omega)] at h; exact h
  have e13 : at2 (lapM 5 ws) 1 3 = -wBtw ws 1 3 := by have h := at2_lap (N := 5) ws (i := 1) (j := 3) (by omega) (by omega); rw [lapE, if_neg (by omega)] at h; exact h
  have e14 : at2 (lapM 5 ws) 1 4 = -wBtw ws 1 4 := by have h := at2_lap (N := 5) ws (i := 1) (j := 4) (by omega) (by omega); rw [lapE, if_neg (by omega)] at h; exact h
  have e20 : at2 (lapM 5 ws) 2 0 = -wBtw ws 0 2 := by have h := at2_lap (N := 5) ws (i := 2) (j := 0) (by omega) (by omega); rw [lapE, if_neg (by omega), wBtw_comm] at h; exact h
  have e21 : at2 (lapM 5 ws) 2 1 = -wBtw ws 1 2 := by have h := at2_lap (N := 5) ws (i := 2) (j := 1) (by omega) (by omega); rw [lapE, if_neg (by omega), wBtw_comm] at h; exact h
  have e23 : at2 (lapM 5 ws) 2 3 = -wBtw ws 2 3 := by have h := at2_lap (N := 5) ws (i := 2) (j := 3) (by omega) (by omega); rw [lapE, if_neg (by omega)] at h; exact h
  have e24 : at2 (lapM 5 ws) 2 4 = -wBtw ws 2 4 := by have h := at2_lap (N := 5) ws (i := 2) (j := 4) (by omega) (by omega); rw [lapE, if_neg (by omega)] at h; exact h
  have e30 : at2 (lapM 5 ws) 3 0 = -wBtw ws 0 3 := by have h := at2_lap (N := 5) ws (i := 3) (j := 0) (by omega) (by omega); rw [lapE, if_neg (by omega), wBtw_comm] at h; exact h
  have e31 : at2 (lapM 5 ws) 3 1 = -wBtw ws 1 3 := by have h := at2_lap (N := 5) ws (i := 3) (j := 1) (by omega) (by omega); rw [lapE, if_neg (by omega), wBtw_comm] at h; exact h
  have e32 : at2 (lapM 5 ws) 3 2 = -wBtw ws 2 3 := by have h := at2_lap (N := 5) ws (i := 3) (j := 2) (by omega) (by omega); rw [lapE, if_neg (by omega), wBtw_comm] at h; exact h
  have e34 : at2 (lapM 5 ws) 3 4 = -wBtw ws 3 4 := by have h := at2_lap (N := 5) ws (i := 3) (j := 4) (by omega) (by omega); rw [lapE, if_neg (by omega)] at h; exact h
  have e40 : at2 (lapM 5 ws) 4 0 = -wBtw ws 0 4 := by have h := at2_lap (N := 5) ws (i := 4) (j := 0) (by omega) (by omega); rw [lapE, if_neg (by omega), wBtw_comm] at h; exact h
  have e41 : at2 (lapM 5 ws) 4 1 = -wBtw ws 1 4 := by have h := at2_lap (N := 5) ws (i := 4) (j := 1) (by omega) (by omega); rw [lapE, if_neg (by omega), wBtw_comm] at h; exact h
  have e42 : at2 (lapM 5 ws) 4 2 = -wBtw ws 2 4 := by have h := at2_lap (N := 5) ws (i := 4) (j := 2) (by omega) (by omega); rw [lapE, if_neg (by omega), wBtw_comm] at h; exact h
  have e43 : at2 (lapM 5 ws) 4 3 = -wBtw ws 3 4 := by have h := at2_lap (N := 5) ws (i := 4) (j := 3) (by omega) (by omega); rw [lapE, if_neg (by omega), wBtw_comm] at h; exact h
  have d0 : at2 (lapM 5 ws) 0 0 = wBtw ws 0 1 + wBtw ws 0 2 + wBtw ws 0 3 + wBtw ws 0 4 := by
    have h := at2_lap (N := 5) ws (i := 0) (j := 0) (by omega) (by omega)
    rw [lapE, if_pos rfl, wAt_sum h0 (by omega) 0 (by omega)] at h
    have h' : at2 (lapM 5 ws) 0 0 = _ := h
    rw [h']
    simp [sumN, wBtw_self]
  have d1 : at2 (lapM 5 ws) 1 1 = wBtw ws 0 1 + wBtw ws 1 2 + wBtw ws 1 3 + wBtw ws 1 4 := by
    have h := at2_lap (N := 5) ws (i := 1) (j := 1) (by omega) (by omega)
    rw [lapE, if_pos rfl, wAt_sum h0 (by omega) 1 (by omega)] at h
    have h' : at2 (lapM 5 ws) 1 1 = _ := h
    rw [h']
    simp [sumN, wBtw_self, wBtw_comm ws 1 0]
  have d2 : at2 (lapM 5 ws) 2 2 = wBtw ws 0 2 + wBtw ws 1 2 + wBtw ws 2 3 + wBtw ws 2 4 := by
    have h := at2_lap (N := 5) ws (i := 2) (j := 2) (by omega) (by omega)
    rw [lapE, if_pos rfl, wAt_sum h0 (by omega) 2 (by omega)] at h
    have h' : at2 (lapM 5 ws) 2 2 = _ := h
    rw [h']
    simp [sumN, wBtw_self, wBtw_comm ws 2 0, wBtw_comm ws 2 1]
  have d3 : at2 (lapM 5 ws) 3 3 = wBtw ws 0 3 + wBtw ws 1 3 + wBtw ws 2 3 + wBtw ws 3 4 := by
    have h := at2_lap (N := 5) ws (i := 3) (j := 3) (by omega) (by omega)
    rw [lapE, if_pos rfl, wAt_sum h0 (by omega) 3 (by omega)] at h
    have h' : at2 (lapM 5 ws) 3 3 = _ := h
    rw [h']
    simp [sumN, wBtw_self, wBtw_comm ws 3 0, wBtw_comm ws 3 1, wBtw_comm ws 3 2]
  have d4 : at2 (lapM 5 ws) 4 4 = wBtw ws 0 4 + wBtw ws 1 4 + wBtw ws 2 4 + wBtw ws 3 4 := by
    have h := at2_lap (N := 5) ws (i := 4) (j := 4) (by omega) (by omega)
    rw [lapE, if_pos rfl, wAt_sum h0 (by omega) 4 (by omega)] at h
    have h' : at2 (lapM 5 ws) 4 4 = _ := h
    rw [h']
    simp [sumN, wBtw_self, wBtw_comm ws 4 0, wBtw_comm ws 4 1, wBtw_comm ws 4 2, wBtw_comm ws 4 3]
  have ha' : a = 0 ∨ a = 1 ∨ a = 2 ∨ a = 3 ∨ a = 4 := by omega
  have hv' : v = 0 ∨ v = 1 ∨ v = 2 ∨ v = 3 ∨ v = 4 := by omega
  clear ha hv h0
  have W0 := w5_01
  have W1 := w5_02
  have W2 := w5_03
  have W3 := w5_04
  have W4 := w5_12
  have W5 := w5_13
  have W6 := w5_14
  have W7 := w5_23
  have W8 := w5_24
  have W9 := w5_34
  generalize lapM 5 ws = M at *
  generalize wBtw ws 0 1 = x01 at *
  generalize wBtw ws 0 2 = x02 at *
  generalize wBtw ws 0 3 = x03 at *
  generalize wBtw ws 0 4 = x04 at *
  generalize wBtw ws 1 2 = x12 at *
  generalize wBtw ws 1 3 = x13 at *
  generalize wBtw ws 1 4 = x14 at *
  generalize wBtw ws 2 3 = x23 at *
  generalize wBtw ws 2 4 = x24 at *
  generalize wBtw ws 3 4 = x34 at *
  rcases ha' with rfl | rfl | rfl | rfl | rfl <;> first | (exfalso; exact hab rfl) | (rcases hv' with rfl | rfl | rfl | rfl | rfl <;> first | (exfalso; exact hvb rfl) | (exfalso; exact hva rfl) | (clear hab hvb hva; simp [forD, potI, idx, sgn, det3, *] <;> grind))
set_option maxHeartbeats 8000000 in
theorem side5_2 {ws : List W3} (h0 : WiresV (5 : Nat) ws) (a v : Nat) (ha : a < 5) (hv : v < 5) (hab : a ≠ 2) (hvb : v ≠ 2) (hva : v ≠ a) : forD (lapM 5 ws) 5 a 2 + forD (lapM 5 ws) 5 v 2 - forD (lapM 5 ws) 5 a v = 2 * potI (lapM 5 ws) 5 a 2 v := by
  have e01 : at2 (lapM 5 ws) 0 1 = -wBtw ws 0 1 := by have h := at2_lap (N := 5) ws (i := 0) (j := 1) (by omega) (by omega); rw [lapE, if_neg (by omega)] at h; exact h
  have e02 : at2 (lapM 5 ws) 0 2 = -wBtw ws 0 2 := by have h := at2_lap (N := 5) ws (i := 0) (j := 2) (by omega) (by omega); rw [lapE, if_neg (by omega)] at h; exact h
  have e03 : at2 (lapM 5 ws) 0 3 = -wBtw ws 0 3 := by have h := at2_lap (N := 5) ws (i := 0) (j := 3) (by omega) (by omega); rw [lapE, if_neg (by omega)] at h; exact h
  have e04 : at2 (lapM 5 ws) 0 4 = -wBtw ws 0 4 := by have h := at2_lap (N := 5) ws (i := 0) (j := 4) (by omega) (by omega); rw [lapE, if_neg (by omega)] at h; exact h
  have e10 : at2 (lapM 5 ws) 1 0 = -wBtw ws 0 1 := by have h := at2_lap (N := 5) ws (i := 1) (j := 0) (by omega) (by omega); rw [lapE, if_neg (by omega), wBtw_comm] at h; exact h
  have e12 : at2 (lapM 5 ws) 1 2 = -wBtw ws 1 2 := by have h := at2_lap (N := 5) ws (i := 1) (j := 2) (by omega) (by omega); rw [lapE, if_neg (by omega)] at h; exact h
  have e13 : at2 (lapM 5 ws) 1 3 = -wBtw ws 1 3 := by have h := at2_lap (N := 5) ws (i := 1) (j := 3) (by omega) (by omega); rw [lapE, if_neg (by omega)] at h; exact h
  have e14 : at2 (lapM 5 ws) 1 4 = -wBtw ws 1 4 := by have h := at2_lap (N := 5) ws (i := 1) (j := 4) (by omega) (by omega); rw [lapE, if_neg (by omega)] at h; exact h
  have e20 : at2 (lapM 5 ws) 2 0 = -wBtw ws 0 2 := by have h := at2_lap (N := 5) ws (i := 2) (j := 0) (by omega) (by omega); rw [lapE, if_neg (by omega), wBtw_comm] at h; exact h
  have e21 : at2 (lapM 5 ws) 2 1 = -wBtw ws 1 2 := by have h := at2_lap (N := 5) ws (i := 2) (j := 1) (by omega) (by omega); rw [lapE, if_neg (by omega), wBtw_comm] at h; exact h
  have e23 : at2 (lapM 5 ws) 2 3 = -wBtw ws 2 3 := by have h := at2_lap (N := 5) ws (i := 2) (j := 3) (by omega) (by omega); rw [lapE, if_neg (by omega)] at h; exact h
  have e24 : at2 (lapM 5 ws) 2 4 = -wBtw ws 2 4 := by have h := at2_lap (N := 5) ws (i := 2) (j := 4) (by omega) (by omega); rw [lapE, if_neg (by omega)] at h; exact h
  have e30 : at2 (lapM 5 ws) 3 0 = -wBtw ws 0 3 := by have h := at2_lap (N := 5) ws (i := 3) (j := 0) (by omega) (by omega); rw [lapE, if_neg (by omega), wBtw_comm] at h; exact h
  have e31 : at2 (lapM 5 ws) 3 1 = -wBtw ws 1 3 := by have h := at2_lap (N := 5) ws (i := 3) (j := 1) (by omega) (by omega); rw [lapE, if_neg (by omega), wBtw_comm] at h; exact h
  have e32 : at2 (lapM 5 ws) 3 2 = -wBtw ws 2 3 := by have h := at2_lap (N := 5) ws (i := 3) (j := 2) (by omega) (by omega); rw [lapE, if_neg (by omega), wBtw_comm] at h; exact h
  have e34 : at2 (lapM 5 ws) 3 4 = -wBtw ws 3 4 := by have h := at2_lap (N := 5) ws (i := 3) (j := 4) (by omega) (by omega); rw [lapE, if_neg (by omega)] at h; exact h
  have e40 : at2 (lapM 5 ws) 4 0 = -wBtw ws 0 4 := by have h := at2_lap (N := 5) ws (i := 4) (j := 0) (by omega) (by omega); rw [lapE, if_neg (by omega), wBtw_comm] at h; exact h
  have e41 : at2 (lapM 5 ws) 4 1 = -wBtw ws 1 4 := by have h := at2_lap (N := 5) ws (i := 4) (j := 1) (by omega) (by omega); rw [lapE, if_neg (by omega), wBtw_comm] at h; exact h
  have e42 : at2 (lapM 5 ws) 4 2 = -wBtw ws 2 4 := by have h := at2_lap (N := 5) ws (i := 4) (j := 2) (by omega) (by omega); rw [lapE, if_neg (by omega), wBtw_comm] at h; exact h
  have e43 : at2 (lapM 5 ws) 4 3 = -wBtw ws 3 4 := by have h := at2_lap (N := 5) ws (i := 4) (j := 3) (by omega) (by omega); rw [lapE, if_neg (by omega), wBtw_comm] at h; exact h
  have d0 : at2 (lapM 5 ws) 0 0 = wBtw ws 0 1 + wBtw ws 0 2 + wBtw ws 0 3 + wBtw ws 0 4 := by
    have h := at2_lap (N := 5) ws (i := 0) (j := 0) (by omega) (by omega)
    rw [lapE, if_pos rfl, wAt_sum h0 (by omega) 0 (by omega)] at h
    have h' : at2 (lapM 5 ws) 0 0 = _ := h
    rw [h']
    simp [sumN, wBtw_self]
  have d1 : at2 (lapM 5 ws) 1 1 = wBtw ws 0 1 + wBtw ws 1 2 + wBtw ws 1 3 + wBtw ws 1 4 := by
    have h := at2_lap (N := 5) ws (i := 1) (j := 1) (by omega) (by omega)
    rw [lapE, if_pos rfl, wAt_sum h0 (by omega) 1 (by omega)] at h
    have h' : at2 (lapM 5 ws) 1 1 = _ := h
    rw [h']
    simp [sumN, wBtw_self, wBtw_comm ws 1 0]
  have d2 : at2 (lapM 5 ws) 2 2 = wBtw ws 0 2 + wBtw ws 1 2 + wBtw ws 2 3 + wBtw ws 2 4 := by
    have h := at2_lap (N := 5) ws (i := 2) (j := 2) (by omega) (by omega)
    rw [lapE, if_pos rfl, wAt_sum h0 (by omega) 2 (by omega)] at h
    have h' : at2 (lapM 5 ws) 2 2 = _ := h
    rw [h']
    simp [sumN, wBtw_self, wBtw_comm ws 2 0, wBtw_comm ws 2 1]
  have d3 : at2 (lapM 5 ws) 3 3 = wBtw ws 0 3 + wBtw ws 1 3 + wBtw ws 2 3 + wBtw ws 3 4 := by
    have h := at2_lap (N := 5) ws (i := 3) (j := 3) (by omega) (by omega)
    rw [lapE, if_pos rfl, wAt_sum h0 (by omega) 3 (by omega)] at h
    have h' : at2 (lapM 5 ws) 3 3 = _ := h
    rw [h']
    simp [sumN, wBtw_self, wBtw_comm ws 3 0, wBtw_comm ws 3 1, wBtw_comm ws 3 2]
  have d4 : at2 (lapM 5 ws) 4 4 = wBtw ws 0 4 + wBtw ws 1 4 + wBtw ws 2 4 + wBtw ws 3 4 := by
    have h := at2_lap (N := 5) ws (i := 4) (j := 4) (by omega) (by omega)
    rw [lapE, if_pos rfl, wAt_sum h0 (by omega) 4 (by omega)] at h
    have h' : at2 (lapM 5 ws) 4 4 = _ := h
    rw [h']
    simp [sumN, wBtw_self, wBtw_comm ws 4 0, wBtw_comm ws 4 1, wBtw_comm ws 4 2, wBtw_comm ws 4 3]
  have ha' : a = 0 ∨ a = 1 ∨ a = 2 ∨ a = 3 ∨ a = 4 := by omega
  have hv' : v = 0 ∨ v = 1 ∨ v = 2 ∨ v = 3 ∨ v = 4 := by omega
  clear ha hv h0
  have W0 := w5_01
  have W1 := w5_02
  have W2 := w5_03
  have W3 := w5_04
  have W4 := w5_12
  have W5 := w5_13
  have W6 := w5_14
  have W7 := w5_23
  have W8 := w5_24
  have W9 := w5_34
  generalize lapM 5 ws = M at *
  generalize wBtw ws 0 1 = x01 at *
  generalize wBtw ws 0 2 = x02 at *
  generalize wBtw ws 0 3 = x03 at *
  generalize wBtw ws 0 4 = x04 at *
  generalize wBtw ws 1 2 = x12 at *
  generalize wBtw ws 1 3 = x13 at *
  generalize wBtw ws 1 4 = x14 at *
  generalize wBtw ws 2 3 = x23 at *
  generalize wBtw ws 2 4 = x24 at *
  generalize wBtw ws 3 4 = x34 at *
  rcases ha' with rfl | rfl | rfl | rfl | rfl <;> first | (exfalso; exact hab rfl) | (rcases hv' with rfl | rfl | rfl | rfl | rfl <;> first | (exfalso; exact hvb rfl) | (exfalso; exact hva rfl) | (clear hab hvb hva; simp [forD, potI, idx, sgn, det3, *] <;> grind))
set_option maxHeartbeats 8000000 in
theorem side5_3 {ws : List W3} (h0 : WiresV (5 : Nat) ws) (a v : Nat) (ha : a < 5) (hv : v < 5) (hab : a ≠ 3) (hvb : v ≠ 3) (hva : v ≠ a) : forD (lapM 5 ws) 5 a 3 + forD (lapM 5 ws) 5 v 3 - forD (lapM 5 ws) 5 a v = 2 * potI (lapM 5 ws) 5 a 3 v := by
  have e01 : at2 (lapM 5 ws) 0 1 = -wBtw ws 0 1 := by have h := at2_lap (N := 5) ws (i := 0) (j := 1) (by omega) (by omega); rw [lapE, if_neg (by omega)] at h; exact h
  have e02 : at2 (lapM 5 ws) 0 2 = -wBtw ws 0 2 := by have h := at2_lap (N := 5) ws (i := 0) (j := 2) (by omega) (by omega); rw [lapE, if_neg (by omega)] at h; exact h
  have e03 : at2 (lapM 5 ws) 0 3 = -wBtw ws 0 3 := by have h := at2_lap (N := 5) ws (i := 0) (j := 3) (by omega) (by omega); rw [lapE, if_neg (by omega)] at h; exact h
  have e04 : at2 (lapM 5 ws) 0 4 = -wBtw ws 0 4 := by have h := at2_lap (N := 5) ws (i := 0) (j := 4) (by omega) (by omega); rw [lapE, if_neg (by omega)] at h; exact h
  have e10 : at2 (lapM 5 ws) 1 0 = -wBtw ws 0 1 := by have h := at2_lap (N := 5) ws (i := 1) (j := 0) (by omega) (by omega); rw [lapE, if_neg (by omega), wBtw_comm] at h; exact h
  have e12 : at2 (lapM 5 ws) 1 2 = -wBtw ws 1 2 := by have h := at2_lap (N := 5) ws (i := 1) (j := 2) (by omega) (by omega); rw [lapE, if_neg (by omega)] at h; exact h
  have e13 : at2 (lapM 5 ws) 1 3 = -wBtw ws 1 3 := by have h := at2_lap (N := 5) ws (i := 1) (j := 3) (by omega) (by omega); rw [lapE, if_neg (by omega)] at h; exact h
  have e14 : at2 (lapM 5 ws) 1 4 = -wBtw ws 1 4 := by have h := at2_lap (N := 5) ws (i := 1) (j := 4) (by omega) (by omega); rw [lapE, if_neg (by omega)] at h; exact h
  have e20 : at2 (lapM 5 ws) 2 0 = -wBtw ws 0 2 := by have h := at2_lap (N := 5) ws (i := 2) (j := 0) (by omega) (by omega); rw [lapE, if_neg (by omega), wBtw_comm] at h; exact h
  have e21 : at2 (lapM 5 ws) 2 1 = -wBtw ws 1 2 := by have h := at2_lap (N := 5) ws (i := 2) (j := 1) (by omega) (by omega); rw [lapE, if_neg (by omega), wBtw_comm] at h; exact h
  have e23 : at2 (lapM 5 ws) 2 3 = -wBtw ws 2 3 := by have h := at2_lap (N := 5) ws (i := 2) (j := 3) (by omega) (by omega); rw [lapE, if_neg (by omega)] at h; exact h
  have e24 : at2 (lapM 5 ws) 2 4 = -wBtw ws 2 4 := by have h := at2_lap (N := 5) ws (i := 2) (j := 4) (by omega) (by omega); rw [lapE, if_neg (by omega)] at h; exact h
  have e30 : at2 (lapM 5 ws) 3 0 = -wBtw ws 0 3 := by have h := at2_lap (N := 5) ws (i := 3) (j := 0) (by omega) (by omega); rw [lapE, if_neg (by omega), wBtw_comm] at h; exact h
  have e31 : at2 (lapM 5 ws) 3 1 = -wBtw ws 1 3 := by have h := at2_lap (N := 5) ws (i := 3) (j := 1) (by omega) (by omega); rw [lapE, if_neg (by omega), wBtw_comm] at h; exact h
  have e32 : at2 (lapM 5 ws) 3 2 = -wBtw ws 2 3 := by have h := at2_lap (N := 5) ws (i := 3) (j := 2) (by omega) (by omega); rw [lapE, if_neg (by omega), wBtw_comm] at h; exact h
  have e34 : at2 (lapM 5 ws) 3 4 = -wBtw ws 3 4 := by have h := at2_lap (N := 5) ws (i := 3) (j := 4) (by omega) (by omega); rw [lapE, if_neg (by omega)] at h; exact h
  have e40 : at2 (lapM 5 ws) 4 0 = -wBtw ws 0 4 := by have h := at2_lap (N := 5) ws (i := 4) (j := 0) (by omega) (by omega); rw [lapE, if_neg (by omega), wBtw_comm] at h; exact h
  have e41 : at2 (lapM 5 ws) 4 1 = -wBtw ws 1 4 := by have h := at2_lap (N := 5) ws (i := 4) (j := 1) (by omega) (by omega); rw [lapE, if_neg (by omega), wBtw_comm] at h; exact h
  have e42 : at2 (lapM 5 ws) 4 2 = -wBtw ws 2 4 := by have h := at2_lap (N := 5) ws (i := 4) (j := 2) (by omega) (by omega); rw [lapE, if_neg (by omega), wBtw_comm] at h; exact h
  have e43 : at2 (lapM 5 ws) 4 3 = -wBtw ws 3 4 := by have h := at2_lap (N := 5) ws (i := 4) (j := 3) (by omega) (by omega); rw [lapE, if_neg (by omega), wBtw_comm] at h; exact h
  have d0 : at2 (lapM 5 ws) 0 0 = wBtw ws 0 1 + wBtw ws 0 2 + wBtw ws 0 3 + wBtw ws 0 4 := by
    have h := at2_lap (N := 5) ws (i := 0) (j := 0) (by omega) (by omega)
    rw [lapE, if_pos rfl, wAt_sum h0 (by omega) 0 (by omega)] at h
    have h' : at2 (lapM 5 ws) 0 0 = _ := h
    rw [h']
    simp [sumN, wBtw_self]
  have d1 : at2 (lapM 5 ws) 1 1 = wBtw ws 0 1 + wBtw ws 1 2 + wBtw ws 1 3 + wBtw ws 1 4 := by
    have h := at2_lap (N := 5) ws (i := 1) (j := 1) (by omega) (by omega)
    rw [lapE, if_pos rfl, wAt_sum h0 (by omega) 1 (by omega)] at h
    have h' : at2 (lapM 5 ws) 1 1 = _ := h
    rw [h']
    simp [sumN, wBtw_self, wBtw_comm ws 1 0]
  have d2 : at2 (lapM 5 ws) 2 2 = wBtw ws 0 2 + wBtw ws 1 2 + wBtw ws 2 3 + wBtw ws 2 4 := by
    have h := at2_lap (N := 5) ws (i := 2) (j := 2) (by omega) (by omega)
    rw [lapE, if_pos rfl, wAt_sum h0 (by omega) 2 (by omega)] at h
    have h' : at2 (lapM 5 ws) 2 2 = _ := h
    rw [h']
    simp [sumN, wBtw_self, wBtw_comm ws 2 0, wBtw_comm ws 2 1]
  have d3 : at2 (lapM 5 ws) 3 3 = wBtw ws 0 3 + wBtw ws 1 3 + wBtw ws 2 3 + wBtw ws 3 4 := by
    have h := at2_lap (N := 5) ws (i := 3) (j := 3) (by omega) (by omega)
    rw [lapE, if_pos rfl, wAt_sum h0 (by omega) 3 (by omega)] at h
    have h' : at2 (lapM 5 ws) 3 3 = _ := h
    rw [h']
    simp [sumN, wBtw_self, wBtw_comm ws 3 0, wBtw_comm ws 3 1, wBtw_comm ws 3 2]
  have d4 : at2 (lapM 5 ws) 4 4 = wBtw ws 0 4 + wBtw ws 1 4 + wBtw ws 2 4 + wBtw ws 3 4 := by
    have h := at2_lap (N := 5) ws (i := 4) (j := 4) (by omega) (by omega)
    rw [lapE, if_pos rfl, wAt_sum h0 (by omega) 4 (by omega)] at h
    have h' : at2 (lapM 5 ws) 4 4 = _ := h
    rw [h']
    simp [sumN, wBtw_self, wBtw_comm ws 4 0, wBtw_comm ws 4 1, wBtw_comm ws 4 2, wBtw_comm ws 4 3]
  have ha' : a = 0 ∨ a = 1 ∨ a = 2 ∨ a = 3 ∨ a = 4 := by omega
  have hv' : v = 0 ∨ v = 1 ∨ v = 2 ∨ v = 3 ∨ v = 4 := by omega
  clear ha hv h0
  have W0 := w5_01
  have W1 := w5_02
  have W2 := w5_03
  have W3 := w5_04
  have W4 := w5_12
  have W5 := w5_13
  have W6 := w5_14
  have W7 := w5_23
  have W8 := w5_24
  have W9 := w5_34
  generalize lapM 5 ws = M at *
  generalize wBtw ws 0 1 = x01 at *
  generalize wBtw ws 0 2 = x02 at *
  generalize wBtw ws 0 3 = x03 at *
  generalize wBtw ws 0 4 = x04 at *
  generalize wBtw ws 1 2 = x12 at *
  generalize wBtw ws 1 3 = x13 at *
  generalize wBtw ws 1 4 = x14 at *
  generalize wBtw ws 2 3 = x23 at *
  generalize wBtw ws 2 4 = x24 at *
  generalize wBtw ws 3 4 = x34 at *
  rcases ha' with rfl | rfl | rfl | rfl | rfl <;> first | (exfalso; exact hab rfl) | (rcases hv' with rfl | rfl | rfl | rfl | rfl <;> first | (exfalso; exact hvb rfl) | (exfalso; exact hva rfl) | (clear hab hvb hva; simp [forD, potI, idx, sgn, det3, *] <;> grind))
set_option maxHeartbeats 8000000 in
theorem side5_4 {ws : List W3} (h0 : WiresV (5 : Nat) ws) (a v : Nat) (ha : a < 5) (hv : v < 5) (hab : a ≠ 4) (hvb : v ≠ 4) (hva : v ≠ a) : forD (lapM 5 ws) 5 a 4 + forD (lapM 5 ws) 5 v 4 - forD (lapM 5 ws) 5 a v = 2 * potI (lapM 5 ws) 5 a 4 v := by
  have e01 : at2 (lapM 5 ws) 0 1 = -wBtw ws 0 1 := by have h := at2_lap (N := 5) ws (i := 0) (j := 1) (by omega) (by omega); rw [lapE, if_neg (by omega)] at h; exact h
  have e02 : at2 (lapM 5 ws) 0 2 = -wBtw ws 0 2 := by have h := at2_lap (N := 5) ws (i := 0) (j := 2) (by omega) (by omega); rw [lapE, if_neg (by omega)] at h; exact h
  have e03 : at2 (lapM 5 ws) 0 3 = -wBtw ws 0 3 := by have h := at2_lap (N := 5) ws (i := 0) (j := 3) (by omega) (by omega); rw [lapE, if_neg (by omega)] at h; exact h
  have e04 : at2 (lapM 5 ws) 0 4 = -wBtw ws 0 4 := by have h := at2_lap (N := 5) ws (i := 0) (j := 4) (by omega) (by omega); rw [lapE, if_neg (by omega)] at h; exact h
  have e10 : at2 (lapM 5 ws) 1 0 = -wBtw ws 0 1 := by have h := at2_lap (N := 5) ws (i := 1) (j := 0) (by omega) (by omega); rw [lapE, if_neg (by omega), wBtw_comm] at h; exact h
  have e12 : at2 (lapM 5 ws) 1 2 = -wBtw ws 1 2 := by have h := at2_lap (N := 5) ws (i := 1) (j := 2) (by omega) (by omega); rw [lapE, if_neg (by omega)] at h; exact h
  have e13 : at2 (lapM 5 ws) 1 3 = -wBtw ws 1 3 := by have h := at2_lap (N := 5) ws (i := 1) (j := 3) (by omega) (by omega); rw [lapE, if_neg (by omega)] at h; exact h
  have e14 : at2 (lapM 5 ws) 1 4 = -wBtw ws 1 4 := by have h := at2_lap (N := 5) ws (i := 1) (j := 4) (by omega) (by omega); rw [lapE, if_neg (by omega)] at h; exact h
  have e20 : at2 (lapM 5 ws) 2 0 = -wBtw ws 0 2 := by have h := at2_lap (N := 5) ws (i := 2) (j := 0) (by omega) (by omega); rw [lapE, if_neg (by omega), wBtw_comm] at h; exact h
  have e21 : at2 (lapM 5 ws) 2 1 = -wBtw ws 1 2 := by have h := at2_lap (N := 5) ws (i := 2) (j := 1) (by omega) (by omega); rw [lapE, if_neg (by omega), wBtw_comm] at h; exact h
  have e23 : at2 (lapM 5 ws) 2 3 = -wBtw ws 2 3 := by have h := at2_lap (N := 5) ws (i := 2) (j := 3) (by omega) (by omega); rw [lapE, if_neg (by omega)] at h; exact h
  have e24 : at2 (lapM 5 ws) 2 4 = -wBtw ws 2 4 := by have h := at2_lap (N := 5) ws (i := 2) (j := 4) (by omega) (by omega); rw [lapE, if_neg (by omega)] at h; exact h
  have e30 : at2 (lapM 5 ws) 3 0 = -wBtw ws 0 3 := by have h := at2_lap (N := 5) ws (i := 3) (j := 0) (by omega) (by omega); rw [lapE, if_neg (by omega), wBtw_comm] at h; exact h
  have e31 : at2 (lapM 5 ws) 3 1 = -wBtw ws 1 3 := by have h := at2_lap (N := 5) ws (i := 3) (j := 1) (by omega) (by omega); rw [lapE, if_neg (by omega), wBtw_comm] at h; exact h
  have e32 : at2 (lapM 5 ws) 3 2 = -wBtw ws 2 3 := by have h := at2_lap (N := 5) ws (i := 3) (j := 2) (by omega) (by omega); rw [lapE, if_neg (by omega), wBtw_comm] at h; exact h
  have e34 : at2 (lapM 5 ws) 3 4 = -wBtw ws 3 4 := by have h := at2_lap (N := 5) ws (i := 3) (j := 4) (by omega) (by omega); rw [lapE, if_neg (by omega)] at h; exact h
  have e40 : at2 (lapM 5 ws) 4 0 = -wBtw ws 0 4 := by have h := at2_lap (N := 5) ws (i := 4) (j := 0) (by omega) (by omega); rw [lapE, if_neg (by omega), wBtw_comm] at h; exact h
  have e41 : at2 (lapM 5 ws) 4 1 = -wBtw ws 1 4 := by have h := at2_lap (N := 5) ws (i := 4) (j := 1) (by omega) (by omega); rw [lapE, if_neg (by omega), wBtw_comm] at h; exact h
  have e42 : at2 (lapM 5 ws) 4 2 = -wBtw ws 2 4 := by have h := at2_lap (N := 5) ws (i := 4) (j := 2) (by omega) (by omega); rw [lapE, if_neg (by omega), wBtw_comm] at h; exact h
  have e43 : at2 (lapM 5 ws) 4 3 = -wBtw ws 3 4 := by have h := at2_lap (N := 5) ws (i := 4) (j := 3) (by omega) (by omega); rw [lapE, if_neg (by omega), wBtw_comm] at h; exact h
  have d0 : at2 (lapM 5 ws) 0 0 = wBtw ws 0 1 + wBtw ws 0 2 + wBtw ws 0 3 + wBtw ws 0 4 := by
    have h := at2_lap (N := 5) ws (i := 0) (j := 0) (by omega) (by omega)
    rw [lapE, if_pos rfl, wAt_sum h0 (by omega) 0 (by omega)] at h
    have h' : at2 (lapM 5 ws) 0 0 = _ := h
    rw [h']
    simp [sumN, wBtw_self]
  have d1 : at2 (lapM 5 ws) 1 1 = wBtw ws 0 1 + wBtw ws 1 2 + wBtw ws 1 3 + wBtw ws 1 4 := by
    have h := at2_lap (N := 5) ws (i := 1) (j := 1) (by omega) (by omega)
    rw [lapE, if_pos rfl, wAt_sum h0 (by omega) 1 (by omega)] at h
    have h' : at2 (lapM 5 ws) 1 1 = _ := h
    rw [h']
    simp [sumN, wBtw_self, wBtw_comm ws 1 0]
  have d2 : at2 (lapM 5 ws) 2 2 = wBtw ws 0 2 + wBtw ws 1 2 + wBtw ws 2 3 + wBtw ws 2 4 := by
    have h := at2_lap (N := 5) ws (i := 2) (j := 2) (by omega) (by omega)
    rw [lapE, if_pos rfl, wAt_sum h0 (by omega) 2 (by omega)] at h
    have h' : at2 (lapM 5 ws) 2 2 = _ := h
    rw [h']
    simp [sumN, wBtw_self, wBtw_comm ws 2 0, wBtw_comm ws 2 1]
  have d3 : at2 (lapM 5 ws) 3 3 = wBtw ws 0 3 + wBtw ws 1 3 + wBtw ws 2 3 + wBtw ws 3 4 := by
    have h := at2_lap (N := 5) ws (i := 3) (j := 3) (by omega) (by omega)
    rw [lapE, if_pos rfl, wAt_sum h0 (by omega) 3 (by omega)] at h
    have h' : at2 (lapM 5 ws) 3 3 = _ := h
    rw [h']
    simp [sumN, wBtw_self, wBtw_comm ws 3 0, wBtw_comm ws 3 1, wBtw_comm ws 3 2]
  have d4 : at2 (lapM 5 ws) 4 4 = wBtw ws 0 4 + wBtw ws 1 4 + wBtw ws 2 4 + wBtw ws 3 4 := by
    have h := at2_lap (N := 5) ws (i := 4) (j := 4) (by omega) (by omega)
    rw [lapE, if_pos rfl, wAt_sum h0 (by omega) 4 (by omega)] at h
    have h' : at2 (lapM 5 ws) 4 4 = _ := h
    rw [h']
    simp [sumN, wBtw_self, wBtw_comm ws 4 0, wBtw_comm ws 4 1, wBtw_comm ws 4 2, wBtw_comm ws 4 3]
  have ha' : a = 0 ∨ a = 1 ∨ a = 2 ∨ a = 3 ∨ a = 4 := by omega
  have hv' : v = 0 ∨ v = 1 ∨ v = 2 ∨ v = 3 ∨ v = 4 := by omega
  clear ha hv h0
  have W0 := w5_01
  have W1 := w5_02
  have W2 := w5_03
  have W3 := w5_04
  have W4 := w5_12
  have W5 := w5_13
  have W6 := w5_14
  have W7 := w5_23
  have W8 := w5_24
  have W9 := w5_34
  generalize lapM 5 ws = M at *
  generalize wBtw ws 0 1 = x01 at *
  generalize wBtw ws 0 2 = x02 at *
  generalize wBtw ws 0 3 = x03 at *
  generalize wBtw ws 0 4 = x04 at *
  generalize wBtw ws 1 2 = x12 at *
  generalize wBtw ws 1 3 = x13 at *
  generalize wBtw ws 1 4 = x14 at *
  generalize wBtw ws 2 3 = x23 at *
  generalize wBtw ws 2 4 = x24 at *
  generalize wBtw ws 3 4 = x34 at *
  rcases ha' with rfl | rfl | rfl | rfl | rfl <;> first | (exfalso; exact hab rfl) | (rcases hv' with rfl | rfl | rfl | rfl | rfl <;> first | (exfalso; exact hvb rfl) | (exfalso; exact hva rfl) | (clear hab hvb hva; simp [forD, potI, idx, sgn, det3, *] <;> grind))
/-- The sums of forests on both sides of a node make its potential. -/
theorem side_pot {N : Nat} {ws : List W3} (h : WiresV N ws) (h5 : N ≤ 5) (a b v : Nat) (ha : a < N) (hb : b < N) (hv : v < N) (hab : a ≠ b) :
    forD (lapM N ws) N a b + forD (lapM N ws) N v b - forD (lapM N ws) N a v = 2 * potI (lapM N ws) N a b v := by
  by_cases hvb : v = b
  · subst hvb
    have e1 : forD (lapM N ws) N v v = 0 := by unfold forD; rw [if_pos rfl]
    have e2 : potI (lapM N ws) N a v v = 0 := by unfold potI; rw [if_pos rfl]
    rw [e1, e2]; omega
  by_cases hva : v = a
  · subst hva
    have e1 : forD (lapM N ws) N v v = 0 := by unfold forD; rw [if_pos rfl]
    rw [e1, potI_self _ _ _ _ hab]; omega
  have hN : N = 3 ∨ N = 4 ∨ N = 5 := by omega
  rcases hN with rfl | rfl | rfl
  · have hb' : b = 0 ∨ b = 1 ∨ b = 2 := by omega
    rcases hb' with rfl | rfl | rfl
    · exact side3_0 h a v ha hv hab hvb hva
    · exact side3_1 h a v ha hv hab hvb hva
    · exact side3_2 h a v ha hv hab hvb hva
  · have hb' : b = 0 ∨ b = 1 ∨ b = 2 ∨ b = 3 := by omega
    rcases hb' with rfl | rfl | rfl | rfl
    · exact side4_0 h a v ha hv hab hvb hva
    · exact side4_1 h a v ha hv hab hvb hva
    · exact side4_2 h a v ha hv hab hvb hva
    · exact side4_3 h a v ha hv hab hvb hva
  · have hb' : b = 0 ∨ b = 1 ∨ b = 2 ∨ b = 3 ∨ b = 4 := by omega
    rcases hb' with rfl | rfl | rfl | rfl | rfl
    · exact side5_0 h a v ha hv hab hvb hva
    · exact side5_1 h a v ha hv hab hvb hva
    · exact side5_2 h a v ha hv hab hvb hva
    · exact side5_3 h a v ha hv hab hvb hva
    · exact side5_4 h a v ha hv hab hvb hva
end Go.Proofs.Ytaececpphdaciaa

namespace Go.Proofs.Ytaececpphdaciaa
open Go.RowKit
theorem potI_yes {m : MatI} {N a b v : Nat} (h : v ≠ b) : potI m N a b v = sgn (idx a b + idx v b) * detD m (woL N [((min a b : Nat) : Int), ((max a b : Nat) : Int)]) (woL N [((min v b : Nat) : Int), ((max v b : Nat) : Int)]) := if_neg h
theorem forest_forD {N : Nat} {e s : Int} {ws : List W3} (hb : netB N e s ws = true) (a b : Nat) (ha : a < N) (hb' : b < N) : forestR N e s ws a b = forD (lapM N ws) N a b := by
  unfold forestR forD
  by_cases h : a = b
  · rw [if_pos h, if_neg (by omega)]
  · rw [if_neg h, if_pos ⟨hb, by omega⟩, Int.toNat_natCast]
    have hs : woL N [(a : Int), (b : Int)] = woL N [((min a b : Nat) : Int), ((max a b : Nat) : Int)] := woL_same fun x => by
      simp only [List.mem_cons, List.not_mem_nil, or_false]
      omega
    rw [hs]
theorem potI_range {N : Nat} {ws : List W3} (h : WiresV N ws) (hN : N ≤ 5) (a b v : Nat) (ha : a < N) (hb : b < N) (hv : v < N) (hab : a ≠ b) : -6000000000 ≤ potI (lapM N ws) N a b v ∧ potI (lapM N ws) N a b v ≤ 6000000000 := by
  by_cases hvb : v = b
  · unfold potI; rw [if_pos hvb]; omega
  · rw [potI_yes hvb]
    have l1 := woL_two (N := N) (a := ((min a b : Nat) : Int)) (b := ((max a b : Nat) : Int)) (by omega) (by omega) (by omega)
    have l2 := woL_two (N := N) (a := ((min v b : Nat) : Int)) (b := ((max v b : Nat) : Int)) (by omega) (by omega) (by omega)
    have hr := det_range3 h hN (woL N [((min a b : Nat) : Int), ((max a b : Nat) : Int)]) (woL N [((min v b : Nat) : Int), ((max v b : Nat) : Int)]) (by rw [l1, l2]) (by rw [l1]; omega)
    rcases sgn_cases (idx a b + idx v b) with e | e <;> rw [e] <;> omega

set_option maxHeartbeats 6400000 in
theorem impl_side (N : Nat) (e s : Int) (a b v : Nat) (vn : Value) (ws : List W3) (w : World) (hb : netB N e s ws = true) (ha : a < N) (hb' : b < N) (hv : v < N) (hab : a ≠ b) (hr : ReadsW w vn ws) :
    Calls Try.prog 72 #[.agg #[.int .i64 N, .int .i64 e, .int .i64 s, vn], .int .i64 a, .int .i64 b, .int .i64 v] w fun en w' => en = .returned (.int .i64 (potI (lapM N ws) N a b v)) ∧ Below w.heap.size w w' := by
  obtain ⟨_, h5, hw⟩ := net_nat hb
  obtain ⟨p, cap, rfl⟩ := hr.shape
  have hsp := side_pot hw h5 a b v ha hb' hv hab
  rw [← forest_forD hb a b ha hb', ← forest_forD hb v b hv hb', ← forest_forD hb a v ha hv] at hsp
  obtain ⟨f1, f2⟩ := forest_range N e s ws a b
  obtain ⟨f3, f4⟩ := forest_range N e s ws v b
  obtain ⟨f5, f6⟩ := forest_range N e s ws a v
  have c1 := fun (w' : World) (h1 : Below w.heap.size w w') => impl_forest N e s a b _ ws w' (hr.later h1)
  have c2 := fun (w' : World) (h1 : Below w.heap.size w w') => impl_forest N e s v b _ ws w' (hr.later h1)
  have c3 := fun (w' : World) (h1 : Below w.heap.size w w') => impl_forest N e s a v _ ws w' (hr.later h1)
  generalize forestR N e s ws a b = F1 at *
  generalize forestR N e s ws v b = F2 at *
  generalize forestR N e s ws a v = F3 at *
  generalize potI (lapM N ws) N a b v = PI at *
  have HW : Hid (IntKind.i64.wrap (Int.tdiv (IntKind.i64.wrap (IntKind.i64.wrap (F1 + F2) - F3)) 2) = PI) := Lib.hid (by
    rw [wrap_in (x := F1 + F2) (by omega) (by omega), wrap_in (x := F1 + F2 - F3) (by omega) (by omega), hsp, Int.mul_tdiv_cancel_left _ (by decide), wrap_in (by omega) (by omega)])
  have G1 := Lib.hid c1; have G2 := Lib.hid c2; have G3 := Lib.hid c3
  have HSP := Lib.hid hsp
  have HB : Below w.heap.size w ((w.alloc (.cells #[.int .i64 N, .int .i64 e, .int .i64 s, .slice p ws.length cap] 25)).drew) := by (repeat (first | exact Below.refl _ _ | (refine Below.setCell ?_ (by (first | exact Nat.le_refl _ | omega | (simp <;> omega) | simp)) _) | (refine Below.alloc ?_ (by (first | exact Nat.le_refl _ | omega | (simp <;> omega) | simp)) _) | (refine below_draws ?_ _)))
  have hS : boxN ((w.alloc (.cells #[.int .i64 N, .int .i64 e, .int .i64 s, .slice p ws.length cap] 25)).drew) w.heap.size N e s (.slice p ws.length cap) := boxN.new w N e s (.slice p ws.length cap) 25
  unfold boxN at hS
  clear c1 c2 c3 hsp hb hw hr
  go_enter Try.func72, Try.ntmps72
  go_wp2
  go_region_held3 (fun w' => w'.cell? ⟨w.heap.size, 0, none⟩ = some (.int .i64 N) ∧ w'.cell? ⟨w.heap.size, 1, none⟩ = some (.int .i64 e) ∧ w'.cell? ⟨w.heap.size, 2, none⟩ = some (.int .i64 s) ∧ w'.cell? ⟨w.heap.size, 3, none⟩ = some (.slice p ws.length cap))
    (first | exact hS)
    (first
      | (go_at_call 22; with_reducible refine Calls.mono (G1.out _ HB) ?_; rintro en w3 ⟨rfl, B3⟩; replace hS := four_keep B3 hS; have C3 := HB.trans (B3.mono HB.size))
      | (go_at_call 22; with_reducible refine Calls.mono (G2.out _ C3) ?_; rintro en w4 ⟨rfl, B4⟩; replace hS := four_keep B4 hS; have C4 := C3.trans (B4.mono C3.size))
      | (go_at_call 22; with_reducible refine Calls.mono (G3.out _ C4) ?_; rintro en w5 ⟨rfl, B5⟩; replace hS := four_keep B5 hS; have C5 := C4.trans (B5.mono C4.size)))
  all_goals
    rw [HW.out]
    go_wp2
    go_ret
    exact ⟨rfl, C5⟩

noncomputable def feedB (n e s : Int) (ws : List W3) (a b : Int) : Bool := netB n e s ws && (hasB n a && (hasB n b && !(a == b)))
set_option maxHeartbeats 3200000 in
theorem impl_feed (n e s a b : Int) (v : Value) (ws : List W3) (w : World) (hr : ReadsW w v ws) :
    Calls Try.prog 73 #[.agg #[.int .i64 n, .int .i64 e, .int .i64 s, v], .int .i64 a, .int .i64 b] w fun en w' => en = .returned (.bool (feedB n e s ws a b)) ∧ Below w.heap.size w w' := by
  have hok := impl_netOk n e s v ws _ (hr.later (show Below w.heap.size w (w.alloc (.cells #[.int .i64 n, .int .i64 e, .int .i64 s, v] 25)) by (repeat (first | exact Below.refl _ _ | (refine Below.setCell ?_ (by (first | exact Nat.le_refl _ | omega | (simp <;> omega) | simp)) _) | (refine Below.alloc ?_ (by (first | exact Nat.le_refl _ | omega | (simp <;> omega) | simp)) _) | (refine below_draws ?_ _)))))
  obtain ⟨p, cap, rfl⟩ := hr.shape
  clear hr
  cases hb : netB n e s ws
  · rw [hb] at hok
    have HF : Hid (feedB n e s ws a b = false) := Lib.hid (by unfold feedB; rw [hb]; rfl)
    clear hb
    go_enter Try.func73, Try.ntmps73
    go_wp2_with fail
    refine hok.mono ?_
    rintro en w1 ⟨rfl, B1⟩
    go_wp2
    go_ret
    exact ⟨ret_b HF.out.symm, by (repeat (first | exact Below.refl _ _ | (refine Below.setCell ?_ (by (first | exact Nat.le_refl _ | omega | (simp <;> omega) | simp)) _) | (refine Below.alloc ?_ (by (first | exact Nat.le_refl _ | omega | (simp <;> omega) | simp)) _) | (refine below_draws ?_ _) | exact B1 | (refine Below.trans ?_ (Below.mono B1 (by (first | exact Nat.le_refl _ | omega | (simp <;> omega) | simp))))))⟩
  rw [hb] at hok
  have c1 := fun w => hasN_any n e s a (.slice p ws.length cap) w
  have c2 := fun w => hasN_any n e s b (.slice p ws.length cap) w
  cases ha : hasB n a
  · rw [ha] at c1
    have HF : Hid (feedB n e s ws a b = false) := Lib.hid (by unfold feedB; rw [hb, ha]; rfl)
    have C1 := Lib.hid c1
    clear hb c1 c2 ha
    go_enter Try.func73, Try.ntmps73
    go_wp2_with fail
    refine hok.mono ?_
    rintro en w1 ⟨rfl, B1⟩
    obtain ⟨hc1, hf1⟩ := bcell B1
    have S1 := B1.size
    try simp at S1
    try (have _L1w : w.heap.size < w1.heap.size := by omega)
    have _M1w : w.heap.size ≤ w1.heap.size := by omega
    try (have _P1w_1 : w.heap.size + 1 < w1.heap.size := by omega)
    try (have _P1w_2 : w.heap.size + 1 + 1 < w1.heap.size := by omega)
    try (have _P1w_3 : w.heap.size + 1 + 1 + 1 < w1.heap.size := by omega)
    have _ : w1.cell? ⟨w.heap.size, 0, none⟩ = some (.int .i64 n) := by rw [hc1 (w.heap.size) 0 (by first | omega | (simp; done) | (simp; omega))]; first | assumption | (simp; done) | simp [go_sem, *]
    have _ : w1.frozen? ⟨w.heap.size, 0, none⟩ = false := by rw [hf1 (w.heap.size) 0 (by first | omega | (simp; done) | (simp; omega))]; first | assumption | (simp; done) | simp [go_sem, *]
    have _ : w1.cell? ⟨w.heap.size, 1, none⟩ = some (.int .i64 e) := by rw [hc1 (w.heap.size) 1 (by first | omega | (simp; done) | (simp; omega))]; first | assumption | (simp; done) | simp [go_sem, *]
    have _ : w1.frozen? ⟨w.heap.size, 1, none⟩ = false := by rw [hf1 (w.heap.size) 1 (by first | omega | (simp; done) | (simp; omega))]; first | assumption | (simp; done) | simp [go_sem, *]
    have _ : w1.cell? ⟨w.heap.size, 2, none⟩ = some (.int .i64 s) := by rw [hc1 (w.heap.size) 2 (by first | omega | (simp; done) | (simp; omega))]; first | assumption | (simp; done) | simp [go_sem, *]
    have _ : w1.frozen? ⟨w.heap.size, 2, none⟩ = false := by rw [hf1 (w.heap.size) 2 (by first | omega | (simp; done) | (simp; omega))]; first | assumption | (simp; done) | simp [go_sem, *]
    have _ : w1.cell? ⟨w.heap.size, 3, none⟩ = some (.slice p ws.length cap) := by rw [hc1 (w.heap.size) 3 (by first | omega | (simp; done) | (simp; omega))]; first | assumption | (simp; done) | simp [go_sem, *]
    have _ : w1.frozen? ⟨w.heap.size, 3, none⟩ = false := by rw [hf1 (w.heap.size) 3 (by first | omega | (simp; done) | (simp; omega))]; first | assumption | (simp; done) | simp [go_sem, *]
    clear hc1 hf1
    go_wp2_with fail
    refine (C1.out _).mono ?_
    rintro en w2 ⟨rfl, B2⟩
    obtain ⟨hc2, hf2⟩ := bcell B2
    have S2 := B2.size
    try simp at S2
    try (have _L2w : w.heap.size < w2.heap.size := by omega)
    have _M2w : w.heap.size ≤ w2.heap.size := by omega
    try (have _P2w_1 : w.heap.size + 1 < w2.heap.size := by omega)
    try (have _P2w_2 : w.heap.size + 1 + 1 < w2.heap.size := by omega)
    try (have _P2w_3 : w.heap.size + 1 + 1 + 1 < w2.heap.size := by omega)
    try (have _L2w1 : w1.heap.size < w2.heap.size := by omega)
    have _M2w1 : w1.heap.size ≤ w2.heap.size := by omega
    try (have _P2w1_1 : w1.heap.size + 1 < w2.heap.size := by omega)
    try (have _P2w1_2 : w1.heap.size + 1 + 1 < w2.heap.size := by omega)
    try (have _P2w1_3 : w1.heap.size + 1 + 1 + 1 < w2.heap.size := by omega)
    go_wp2
    go_ret
    exact ⟨ret_b HF.out.symm, by (repeat (first | exact Below.refl _ _ | (refine Below.setCell ?_ (by (first | exact Nat.le_refl _ | omega | (simp <;> omega) | simp)) _) | (refine Below.alloc ?_ (by (first | exact Nat.le_refl _ | omega | (simp <;> omega) | simp)) _) | (refine below_draws ?_ _) | exact B1 | (refine Below.trans ?_ (Below.mono B1 (by (first | exact Nat.le_refl _ | omega | (simp <;> omega) | simp)))) | exact B2 | (refine Below.trans ?_ (Below.mono B2 (by (first | exact Nat.le_refl _ | omega | (simp <;> omega) | simp))))))⟩
  rw [ha] at c1
  cases hb' : hasB n b
  · rw [hb'] at c2
    have HF : Hid (feedB n e s ws a b = false) := Lib.hid (by unfold feedB; rw [hb, ha, hb']; rfl)
    have C1 := Lib.hid c1
    have C2 := Lib.hid c2
    clear hb c1 c2 ha hb'
    go_enter Try.func73, Try.ntmps73
    go_wp2_with fail
    refine hok.mono ?_
    rintro en w1 ⟨rfl, B1⟩
    obtain ⟨hc1, hf1⟩ := bcell B1
    have S1 := B1.size
    try simp at S1
    try (have _L1w : w.heap.size < w1.heap.size := by omega)
    have _M1w : w.heap.size ≤ w1.heap.size := by omega
    try (have _P1w_1 : w.heap.size + 1 < w1.heap.size := by omega)
    try (have _P1w_2 : w.heap.size + 1 + 1 < w1.heap.size := by omega)
    try (have _P1w_3 : w.heap.size + 1 + 1 + 1 < w1.heap.size := by omega)
    have _ : w1.cell? ⟨w.heap.size, 0, none⟩ = some (.int .i64 n) := by rw [hc1 (w.heap.size) 0 (by first | omega | (simp; done) | (simp; omega))]; first | assumption | (simp; done) | simp [go_sem, *]
    have _ : w1.frozen? ⟨w.heap.size, 0, none⟩ = false := by rw [hf1 (w.heap.size) 0 (by first | omega | (simp; done) | (simp; omega))]; first | assumption | (simp; done) | simp [go_sem, *]
    have _ : w1.cell? ⟨w.heap.size, 1, none⟩ = some (.int .i64 e) := by rw [hc1 (w.heap.size) 1 (by first | omega | (simp; done) | (simp; omega))]; first | assumption | (simp; done) | simp [go_sem, *]
    have _ : w1.frozen? ⟨w.heap.size, 1, none⟩ = false := by rw [hf1 (w.heap.size) 1 (by first | omega | (simp; done) | (simp; omega))]; first | assumption | (simp; done) | simp [go_sem, *]
    have _ : w1.cell? ⟨w.heap.size, 2, none⟩ = some (.int .i64 s) := by rw [hc1 (w.heap.size) 2 (by first | omega | (simp; done) | (simp; omega))]; first | assumption | (simp; done) | simp [go_sem, *]
    have _ : w1.frozen? ⟨w.heap.size, 2, none⟩ = false := by rw [hf1 (w.heap.size) 2 (by first | omega | (simp; done) | (simp; omega))]; first | assumption | (simp; done) | simp [go_sem, *]
    have _ : w1.cell? ⟨w.heap.size, 3, none⟩ = some (.slice p ws.length cap) := by rw [hc1 (w.heap.size) 3 (by first | omega | (simp; done) | (simp; omega))]; first | assumption | (simp; done) | simp [go_sem, *]
    have _ : w1.frozen? ⟨w.heap.size, 3, none⟩ = false := by rw [hf1 (w.heap.size) 3 (by first | omega | (simp; done) | (simp; omega))]; first | assumption | (simp; done) | simp [go_sem, *]
    clear hc1 hf1
    go_wp2_with fail
    refine (C1.out _).mono ?_
    rintro en w2 ⟨rfl, B2⟩
    obtain ⟨hc2, hf2⟩ := bcell B2
    have S2 := B2.size
    try simp at S2
    try (have _L2w : w.heap.size < w2.heap.size := by omega)
    have _M2w : w.heap.size ≤ w2.heap.size := by omega
    try (have _P2w_1 : w.heap.size + 1 < w2.heap.size := by omega)
    try (have _P2w_2 : w.heap.size + 1 + 1 < w2.heap.size := by omega)
    try (have _P2w_3 : w.heap.size + 1 + 1 + 1 < w2.heap.size := by omega)
    try (have _L2w1 : w1.heap.size < w2.heap.size := by omega)
    have _M2w1 : w1.heap.size ≤ w2.heap.size := by omega
    try (have _P2w1_1 : w1.heap.size + 1 < w2.heap.size := by omega)
    try (have _P2w1_2 : w1.heap.size + 1 + 1 < w2.heap.size := by omega)
    try (have _P2w1_3 : w1.heap.size + 1 + 1 + 1 < w2.heap.size := by omega)
    have _ : w2.cell? ⟨w.heap.size, 0, none⟩ = some (.int .i64 n) := by rw [hc2 (w.heap.size) 0 (by first | omega | (simp; done) | (simp; omega))]; first | assumption | (simp; done) | simp [go_sem, *]
    have _ : w2.frozen? ⟨w.heap.size, 0, none⟩ = false := by rw [hf2 (w.heap.size) 0 (by first | omega | (simp; done) | (simp; omega))]; first | assumption | (simp; done) | simp [go_sem, *]
    have _ : w2.cell? ⟨w.heap.size, 1, none⟩ = some (.int .i64 e) := by rw [hc2 (w.heap.size) 1 (by first | omega | (simp; done) | (simp; omega))]; first | assumption | (simp; done) | simp [go_sem, *]
    have _ : w2.frozen? ⟨w.heap.size, 1, none⟩ = false := by rw [hf2 (w.heap.size) 1 (by first | omega | (simp; done) | (simp; omega))]; first | assumption | (simp; done) | simp [go_sem, *]
    have _ : w2.cell? ⟨w.heap.size, 2, none⟩ = some (.int .i64 s) := by rw [hc2 (w.heap.size) 2 (by first | omega | (simp; done) | (simp; omega))]; first | assumption | (simp; done) | simp [go_sem, *]
    have _ : w2.frozen? ⟨w.heap.size, 2, none⟩ = false := by rw [hf2 (w.heap.size) 2 (by first | omega | (simp; done) | (simp; omega))]; first | assumption | (simp; done) | simp [go_sem, *]
    have _ : w2.cell? ⟨w.heap.size, 3, none⟩ = some (.slice p ws.length cap) := by rw [hc2 (w.heap.size) 3 (by first | omega | (simp; done) | (simp; omega))]; first | assumption | (simp; done) | simp [go_sem, *]
    have _ : w2.frozen? ⟨w.heap.size, 3, none⟩ = false := by rw [hf2 (w.heap.size) 3 (by first | omega | (simp; done) | (simp; omega))]; first | assumption | (simp; done) | simp [go_sem, *]
    clear hc2 hf2
    go_wp2_with fail
    refine (C2.out _).mono ?_
    rintro en w3 ⟨rfl, B3⟩
    obtain ⟨hc3, hf3⟩ := bcell B3
    have S3 := B3.size
    try simp at S3
    try (have _L3w : w.heap.size < w3.heap.size := by omega)
    have _M3w : w.heap.size ≤ w3.heap.size := by omega
    try (have _P3w_1 : w.heap.size + 1 < w3.heap.size := by omega)
    try (have _P3w_2 : w.heap.size + 1 + 1 < w3.heap.size := by omega)
    try (have _P3w_3 : w.heap.size + 1 + 1 + 1 < w3.heap.size := by omega)
    try (have _L3w1 : w1.heap.size < w3.heap.size := by omega)
    have _M3w1 : w1.heap.size ≤ w3.heap.size := by omega
    try (have _P3w1_1 : w1.heap.size + 1 < w3.heap.size := by omega)
    try (have _P3w1_2 : w1.heap.size + 1 + 1 < w3.heap.size := by omega)
    try (have _P3w1_3 : w1.heap.size + 1 + 1 + 1 < w3.heap.size := by omega)
    try (have _L3w2 : w2.heap.size < w3.heap.size := by omega)
    have _M3w2 : w2.heap.size ≤ w3.heap.size := by omega
    try (have _P3w2_1 : w2.heap.size + 1 < w3.heap.size := by omega)
    try (have _P3w2_2 : w2.heap.size + 1 + 1 < w3.heap.size := by omega)
    try (have _P3w2_3 : w2.heap.size + 1 + 1 + 1 < w3.heap.size := by omega)
    go_wp2
    go_ret
    exact ⟨ret_b HF.out.symm, by (repeat (first | exact Below.refl _ _ | (refine Below.setCell ?_ (by (first | exact Nat.le_refl _ | omega | (simp <;> omega) | simp)) _) | (refine Below.alloc ?_ (by (first | exact Nat.le_refl _ | omega | (simp <;> omega) | simp)) _) | (refine below_draws ?_ _) | exact B1 | (refine Below.trans ?_ (Below.mono B1 (by (first | exact Nat.le_refl _ | omega | (simp <;> omega) | simp)))) | exact B2 | (refine Below.trans ?_ (Below.mono B2 (by (first | exact Nat.le_refl _ | omega | (simp <;> omega) | simp)))) | exact B3 | (refine Below.trans ?_ (Below.mono B3 (by (first | exact Nat.le_refl _ | omega | (simp <;> omega) | simp))))))⟩
  rw [hb'] at c2
  have HF : Hid (feedB n e s ws a b = !(a == b)) := Lib.hid (by unfold feedB; rw [hb, ha, hb']; rfl)
  have C1 := Lib.hid c1
  have C2 := Lib.hid c2
  clear hb c1 c2 ha hb'
  go_enter Try.func73, Try.ntmps73
  go_wp2_with fail
  refine hok.mono ?_
  rintro en w1 ⟨rfl, B1⟩
  obtain ⟨hc1, hf1⟩ := bcell B1
  have S1 := B1.size
  try simp at S1
  try (have _L1w : w.heap.size < w1.heap.size := by omega)
  have _M1w : w.heap.size ≤ w1.heap.size := by omega
  try (have _P1w_1 : w.heap.size + 1 < w1.heap.size := by omega)
  try (have _P1w_2 : w.heap.size + 1 + 1 < w1.heap.size := by omega)
  try (have _P1w_3 : w.heap.size + 1 + 1 + 1 < w1.heap.size := by omega)
  have _ : w1.cell? ⟨w.heap.size, 0, none⟩ = some (.int .i64 n) := by rw [hc1 (w.heap.size) 0 (by first | omega | (simp; done) | (simp; omega))]; first | assumption | (simp; done) | simp [go_sem, *]
  have _ : w1.frozen? ⟨w.heap.size, 0, none⟩ = false := by rw [hf1 (w.heap.size) 0 (by first | omega | (simp; done) | (simp; omega))]; first | assumption | (simp; done) | simp [go_sem, *]
  have _ : w1.cell? ⟨w.heap.size, 1, none⟩ = some (.int .i64 e) := by rw [hc1 (w.heap.size) 1 (by first | omega | (simp; done) | (simp; omega))]; first | assumption | (simp; done) | simp [go_sem, *]
  have _ : w1.frozen? ⟨w.heap.size, 1, none⟩ = false := by rw [hf1 (w.heap.size) 1 (by first | omega | (simp; done) | (simp; omega))]; first | assumption | (simp; done) | simp [go_sem, *]
  have _ : w1.cell? ⟨w.heap.size, 2, none⟩ = some (.int .i64 s) := by rw [hc1 (w.heap.size) 2 (by first | omega | (simp; done) | (simp; omega))]; first | assumption | (simp; done) | simp [go_sem, *]
  have _ : w1.frozen? ⟨w.heap.size, 2, none⟩ = false := by rw [hf1 (w.heap.size) 2 (by first | omega | (simp; done) | (simp; omega))]; first | assumption | (simp; done) | simp [go_sem, *]
  have _ : w1.cell? ⟨w.heap.size, 3, none⟩ = some (.slice p ws.length cap) := by rw [hc1 (w.heap.size) 3 (by first | omega | (simp; done) | (simp; omega))]; first | assumption | (simp; done) | simp [go_sem, *]
  have _ : w1.frozen? ⟨w.heap.size, 3, none⟩ = false := by rw [hf1 (w.heap.size) 3 (by first | omega | (simp; done) | (simp; omega))]; first | assumption | (simp; done) | simp [go_sem, *]
  clear hc1 hf1
  go_wp2_with fail
  refine (C1.out _).mono ?_
  rintro en w2 ⟨rfl, B2⟩
  obtain ⟨hc2, hf2⟩ := bcell B2
  have S2 := B2.size
  try simp at S2
  try (have _L2w : w.heap.size < w2.heap.size := by omega)
  have _M2w : w.heap.size ≤ w2.heap.size := by omega
  try (have _P2w_1 : w.heap.size + 1 < w2.heap.size := by omega)
  try (have _P2w_2 : w.heap.size + 1 + 1 < w2.heap.size := by omega)
  try (have _P2w_3 : w.heap.size + 1 + 1 + 1 < w2.heap.size := by omega)
  try (have _L2w1 : w1.heap.size < w2.heap.size := by omega)
  have _M2w1 : w1.heap.size ≤ w2.heap.size := by omega
  try (have _P2w1_1 : w1.heap.size + 1 < w2.heap.size := by omega)
  try (have _P2w1_2 : w1.heap.size + 1 + 1 < w2.heap.size := by omega)
  try (have _P2w1_3 : w1.heap.size + 1 + 1 + 1 < w2.heap.size := by omega)
  have _ : w2.cell? ⟨w.heap.size, 0, none⟩ = some (.int .i64 n) := by rw [hc2 (w.heap.size) 0 (by first | omega | (simp; done) | (simp; omega))]; first | assumption | (simp; done) | simp [go_sem, *]
  have _ : w2.frozen? ⟨w.heap.size, 0, none⟩ = false := by rw [hf2 (w.heap.size) 0 (by first | omega | (simp; done) | (simp; omega))]; first | assumption | (simp; done) | simp [go_sem, *]
  have _ : w2.cell? ⟨w.heap.size, 1, none⟩ = some (.int .i64 e) := by rw [hc2 (w.heap.size) 1 (by first | omega | (simp; done) | (simp; omega))]; first | assumption | (simp; done) | simp [go_sem, *]
  have _ : w2.frozen? ⟨w.heap.size, 1, none⟩ = false := by rw [hf2 (w.heap.size) 1 (by first | omega | (simp; done) | (simp; omega))]; first | assumption | (simp; done) | simp [go_sem, *]
  have _ : w2.cell? ⟨w.heap.size, 2, none⟩ = some (.int .i64 s) := by rw [hc2 (w.heap.size) 2 (by first | omega | (simp; done) | (simp; omega))]; first | assumption | (simp; done) | simp [go_sem, *]
  have _ : w2.frozen? ⟨w.heap.size, 2, none⟩ = false := by rw [hf2 (w.heap.size) 2 (by first | omega | (simp; done) | (simp; omega))]; first | assumption | (simp; done) | simp [go_sem, *]
  have _ : w2.cell? ⟨w.heap.size, 3, none⟩ = some (.slice p ws.length cap) := by rw [hc2 (w.heap.size) 3 (by first | omega | (simp; done) | (simp; omega))]; first | assumption | (simp; done) | simp [go_sem, *]
  have _ : w2.frozen? ⟨w.heap.size, 3, none⟩ = false := by rw [hf2 (w.heap.size) 3 (by first | omega | (simp; done) | (simp; omega))]; first | assumption | (simp; done) | simp [go_sem, *]
  clear hc2 hf2
  go_wp2_with fail
  refine (C2.out _).mono ?_
  rintro en w3 ⟨rfl, B3⟩
  obtain ⟨hc3, hf3⟩ := bcell B3
  have S3 := B3.size
  try simp at S3
  try (have _L3w : w.heap.size < w3.heap.size := by omega)
  have _M3w : w.heap.size ≤ w3.heap.size := by omega
  try (have _P3w_1 : w.heap.size + 1 < w3.heap.size := by omega)
  try (have _P3w_2 : w.heap.size + 1 + 1 < w3.heap.size := by omega)
  try (have _P3w_3 : w.heap.size + 1 + 1 + 1 < w3.heap.size := by omega)
  try (have _L3w1 : w1.heap.size < w3.heap.size := by omega)
  have _M3w1 : w1.heap.size ≤ w3.heap.size := by omega
  try (have _P3w1_1 : w1.heap.size + 1 < w3.heap.size := by omega)
  try (have _P3w1_2 : w1.heap.size + 1 + 1 < w3.heap.size := by omega)
  try (have _P3w1_3 : w1.heap.size + 1 + 1 + 1 < w3.heap.size := by omega)
  try (have _L3w2 : w2.heap.size < w3.heap.size := by omega)
  have _M3w2 : w2.heap.size ≤ w3.heap.size := by omega
  try (have _P3w2_1 : w2.heap.size + 1 < w3.heap.size := by omega)
  try (have _P3w2_2 : w2.heap.size + 1 + 1 < w3.heap.size := by omega)
  try (have _P3w2_3 : w2.heap.size + 1 + 1 + 1 < w3.heap.size := by omega)
  go_wp2
  go_ret
  exact ⟨ret_b HF.out.symm, by (repeat (first | exact Below.refl _ _ | (refine Below.setCell ?_ (by (first | exact Nat.le_refl _ | omega | (simp <;> omega) | simp)) _) | (refine Below.alloc ?_ (by (first | exact Nat.le_refl _ | omega | (simp <;> omega) | simp)) _) | (refine below_draws ?_ _) | exact B1 | (refine Below.trans ?_ (Below.mono B1 (by (first | exact Nat.le_refl _ | omega | (simp <;> omega) | simp)))) | exact B2 | (refine Below.trans ?_ (Below.mono B2 (by (first | exact Nat.le_refl _ | omega | (simp <;> omega) | simp)))) | exact B3 | (refine Below.trans ?_ (Below.mono B3 (by (first | exact Nat.le_refl _ | omega | (simp <;> omega) | simp))))))⟩
theorem feed_yes {n e s a b : Int} {ws : List W3} (h : feedB n e s ws a b = true) : ∃ (N a' b' : Nat), n = N ∧ a = a' ∧ b = b' ∧ netB N e s ws = true ∧ a' < N ∧ b' < N ∧ a' ≠ b' := by
  unfold feedB hasB at h
  simp only [Bool.and_eq_true, decide_eq_true_eq, Bool.not_eq_true', beq_eq_false_iff_ne] at h
  obtain ⟨h1, ⟨h2, h3⟩, ⟨h4, h5⟩, h6⟩ := h
  refine ⟨n.toNat, a.toNat, b.toNat, by omega, by omega, by omega, ?_, by omega, by omega, by omega⟩
  rw [Int.toNat_of_nonneg (by omega)]; exact h1
end Go.Proofs.Ytaececpphdaciaa
