/-
  Potentials by minors: they solve the equations of a network's matrix.
-/
import Derived.Test.YtnbbmpilpeakiaaKirMath
namespace Go.Proofs.Ytnbbmpilpeakiaa
open Go.RowKit

theorem det1 (m : MatI) (r c : Int) : detD m [r] [c] = at2 m r c := by simp [detD, detP, sgn]
theorem det2 (m : MatI) (r s c d : Int) : detD m [r, s] [c, d] = at2 m r c * at2 m s d - at2 m r d * at2 m s c := by
  simp [detD, detP, sgn]; grind
theorem det3 (m : MatI) (r s t c d e : Int) : detD m [r, s, t] [c, d, e] = at2 m r c * (at2 m s d * at2 m t e - at2 m s e * at2 m t d) - at2 m r d * (at2 m s c * at2 m t e - at2 m s e * at2 m t c) + at2 m r e * (at2 m s c * at2 m t d - at2 m s d * at2 m t c) := by
  simp [detD, detP, sgn]; grind
theorem det4 (m : MatI) (r s t u c d e f : Int) : detD m [r, s, t, u] [c, d, e, f] = at2 m r c * detD m [s, t, u] [d, e, f] - at2 m r d * detD m [s, t, u] [c, e, f] + at2 m r e * detD m [s, t, u] [c, d, f] - at2 m r f * detD m [s, t, u] [c, d, e] := by
  show detP m (detD m [s, t, u]) r [c, d, e, f] 4 = _
  simp [detP, sgn]; grind
theorem w2_0 : woL 2 [0] = [1] := by decide
theorem w2_01 : woL 2 [0, 1] = [] := by decide
theorem w2_1 : woL 2 [1] = [0] := by decide
theorem w3_0 : woL 3 [0] = [1, 2] := by decide
theorem w3_01 : woL 3 [0, 1] = [2] := by decide
theorem w3_02 : woL 3 [0, 2] = [1] := by decide
theorem w3_1 : woL 3 [1] = [0, 2] := by decide
theorem w3_12 : woL 3 [1, 2] = [0] := by decide
theorem w3_2 : woL 3 [2] = [0, 1] := by decide
theorem w4_0 : woL 4 [0] = [1, 2, 3] := by decide
theorem w4_01 : woL 4 [0, 1] = [2, 3] := by decide
theorem w4_02 : woL 4 [0, 2] = [1, 3] := by decide
theorem w4_03 : woL 4 [0, 3] = [1, 2] := by decide
theorem w4_1 : woL 4 [1] = [0, 2, 3] := by decide
theorem w4_12 : woL 4 [1, 2] = [0, 3] := by decide
theorem w4_13 : woL 4 [1, 3] = [0, 2] := by decide
theorem w4_2 : woL 4 [2] = [0, 1, 3] := by decide
theorem w4_23 : woL 4 [2, 3] = [0, 1] := by decide
theorem w4_3 : woL 4 [3] = [0, 1, 2] := by decide
theorem w5_0 : woL 5 [0] = [1, 2, 3, 4] := by decide
theorem w5_01 : woL 5 [0, 1] = [2, 3, 4] := by decide
theorem w5_02 : woL 5 [0, 2] = [1, 3, 4] := by decide
theorem w5_03 : woL 5 [0, 3] = [1, 2, 4] := by decide
theorem w5_04 : woL 5 [0, 4] = [1, 2, 3] := by decide
theorem w5_1 : woL 5 [1] = [0, 2, 3, 4] := by decide
theorem w5_12 : woL 5 [1, 2] = [0, 3, 4] := by decide
theorem w5_13 : woL 5 [1, 3] = [0, 2, 4] := by decide
theorem w5_14 : woL 5 [1, 4] = [0, 2, 3] := by decide
theorem w5_2 : woL 5 [2] = [0, 1, 3, 4] := by decide
theorem w5_23 : woL 5 [2, 3] = [0, 1, 4] := by decide
theorem w5_24 : woL 5 [2, 4] = [0, 1, 3] := by decide
theorem w5_3 : woL 5 [3] = [0, 1, 2, 4] := by decide
theorem w5_34 : woL 5 [3, 4] = [0, 1, 2] := by decide
theorem w5_4 : woL 5 [4] = [0, 1, 2, 3] := by decide
def idx (v b : Nat) : Nat := if b < v then v - 1 else v
def potI (m : MatI) (N a b v : Nat) : Int := if v = b then 0 else sgn (idx a b + idx v b) * detD m (woL N [((min a b : Nat) : Int), ((max a b : Nat) : Int)]) (woL N [((min v b : Nat) : Int), ((max v b : Nat) : Int)])
/-- The minor without one node. -/
def minI (m : MatI) (N b : Nat) : Int := detD m (woL N [(b : Int)]) (woL N [(b : Int)])
set_option maxHeartbeats 8000000 in
theorem cramer2 (m : MatI) (a b v : Nat) (ha : a < 2) (hb : b < 2) (hv : v < 2) (hab : a ≠ b) (hvb : v ≠ b) : sumN (fun w => at2 m v w * potI m 2 a b w) 2 = if v = a then minI m 2 b else 0 := by
  have ha' : a = 0 ∨ a = 1 := by omega
  have hb' : b = 0 ∨ b = 1 := by omega
  have hv' : v = 0 ∨ v = 1 := by omega
  clear ha hb hv
  rcases ha' with rfl | rfl <;> rcases hb' with rfl | rfl <;> first | (exfalso; exact hab rfl) | (rcases hv' with rfl | rfl <;> first | (exfalso; exact hvb rfl) | (simp [sumN, potI, minI, idx, sgn, w2_0, w2_1, w2_01, det1, detD] <;> grind))
set_option maxHeartbeats 8000000 in
theorem cramer3 (m : MatI) (a b v : Nat) (ha : a < 3) (hb : b < 3) (hv : v < 3) (hab : a ≠ b) (hvb : v ≠ b) : sumN (fun w => at2 m v w * potI m 3 a b w) 3 = if v = a then minI m 3 b else 0 := by
  have ha' : a = 0 ∨ a = 1 ∨ a = 2 := by omega
  have hb' : b = 0 ∨ b = 1 ∨ b = 2 := by omega
  have hv' : v = 0 ∨ v = 1 ∨ v = 2 := by omega
  clear ha hb hv
  rcases ha' with rfl | rfl | rfl <;> rcases hb' with rfl | rfl | rfl <;> first | (exfalso; exact hab rfl) | (rcases hv' with rfl | rfl | rfl <;> first | (exfalso; exact hvb rfl) | (simp [sumN, potI, minI, idx, sgn, w3_0, w3_1, w3_2, w3_01, w3_02, w3_12, det1, det2] <;> grind))
set_option maxHeartbeats 8000000 in
theorem cramer4 (m : MatI) (a b v : Nat) (ha : a < 4) (hb : b < 4) (hv : v < 4) (hab : a ≠ b) (hvb : v ≠ b) : sumN (fun w => at2 m v w * potI m 4 a b w) 4 = if v = a then minI m 4 b else 0 := by
  have ha' : a = 0 ∨ a = 1 ∨ a = 2 ∨ a = 3 := by omega
  have hb' : b = 0 ∨ b = 1 ∨ b = 2 ∨ b = 3 := by omega
  have hv' : v = 0 ∨ v = 1 ∨ v = 2 ∨ v = 3 := by omega
  clear ha hb hv
  rcases ha' with rfl | rfl | rfl | rfl <;> rcases hb' with rfl | rfl | rfl | rfl <;> first | (exfalso; exact hab rfl) | (rcases hv' with rfl | rfl | rfl | rfl <;> first | (exfalso; exact hvb rfl) | (simp [sumN, potI, minI, idx, sgn, w4_0, w4_1, w4_2, w4_3, w4_01, w4_02, w4_03, w4_12, w4_13, w4_23, det2, det3] <;> grind))
set_option maxHeartbeats 8000000 in
theorem cramer5 (m : MatI) (a b v : Nat) (ha : a < 5) (hb : b < 5) (hv : v < 5) (hab : a ≠ b) (hvb : v ≠ b) : sumN (fun w => at2 m v w * potI m 5 a b w) 5 = if v = a then minI m 5 b else 0 := by
  have ha' : a = 0 ∨ a = 1 ∨ a = 2 ∨ a = 3 ∨ a = 4 := by omega
  have hb' : b = 0 ∨ b = 1 ∨ b = 2 ∨ b = 3 ∨ b = 4 := by omega
  have hv' : v = 0 ∨ v = 1 ∨ v = 2 ∨ v = 3 ∨ v = 4 := by omega
  clear ha hb hv
  rcases ha' with rfl | rfl | rfl | rfl | rfl <;> rcases hb' with rfl | rfl | rfl | rfl | rfl <;> first | (exfalso; exact hab rfl) | (rcases hv' with rfl | rfl | rfl | rfl | rfl <;> first | (exfalso; exact hvb rfl) | (simp [sumN, potI, minI, idx, sgn, w5_0, w5_1, w5_2, w5_3, w5_4, w5_01, w5_02, w5_03, w5_04, w5_12, w5_13, w5_14, w5_23, w5_24, w5_34, det4, det3] <;> grind))
end Go.Proofs.Ytnbbmpilpeakiaa
