/-
  The tree sum is linear in the weight of a wire; where the network falls apart it is 0.
  The trees without a wire and those with it are all trees.
  What is added up where wires are collected under keys.
  The trees of a network with two nodes joined are the forests that part them.
  The numbers that FnTrees compares.
-/
import Derived.Test.YtaececpphdaciaaGPotl
import Derived.Test.YtaececpphdaciaaGTree
import Derived.Test.YtaececpphdaciaaGFlt
import Derived.Test.YtaececpphdaciaaSwapMath
import Derived.Test.YtaececpphdaciaaCount
import Derived.Test.YtaececpphdaciaaGMinor
import Derived.Test.YtaececpphdaciaaGLap
namespace Go.Proofs.Ytaececpphdaciaa
open Go.RowKit

theorem det0 (m : MatI) : detD m [] [] = 1 := by simp [detD, detP]

set_option maxHeartbeats 4000000 in
theorem entry2_01 (m m' : MatI) (h : ∀ i j : Nat, i < 2 → j < 2 → i ≠ 0 → j ≠ 0 → ¬ (i = 1 ∧ j = 1) → at2 m (i : Int) (j : Int) = at2 m' (i : Int) (j : Int)) : minI m 2 0 = minI m' 2 0 + (at2 m (1 : Int) (1 : Int) - at2 m' (1 : Int) (1 : Int)) * forD m 2 0 1 := by
  have W0 := w2_0
  have W1 := w2_01
  have f0 : forD m 2 0 1 = detD m [] [] := by simp [forD, W1]
  have g0 : minI m 2 0 = detD m [1] [1] := by simp [minI, W0]
  have g1 : minI m' 2 0 = detD m' [1] [1] := by simp [minI, W0]
  rw [f0, g0, g1]
  clear h f0 g0 g1 W0 W1
  simp only [det1, det0]
  generalize at2 m 1 1 = y
  generalize at2 m' 1 1 = z
  grind
set_option maxHeartbeats 4000000 in
theorem entry3_01 (m m' : MatI) (h : ∀ i j : Nat, i < 3 → j < 3 → i ≠ 0 → j ≠ 0 → ¬ (i = 1 ∧ j = 1) → at2 m (i : Int) (j : Int) = at2 m' (i : Int) (j : Int)) : minI m 3 0 = minI m' 3 0 + (at2 m (1 : Int) (1 : Int) - at2 m' (1 : Int) (1 : Int)) * forD m 3 0 1 := by
  have e12 : at2 m 1 2 = at2 m' 1 2 := h 1 2 (by omega) (by omega) (by omega) (by omega) (by omega)
  have e21 : at2 m 2 1 = at2 m' 2 1 := h 2 1 (by omega) (by omega) (by omega) (by omega) (by omega)
  have e22 : at2 m 2 2 = at2 m' 2 2 := h 2 2 (by omega) (by omega) (by omega) (by omega) (by omega)
  have W0 := w3_0
  have W1 := w3_01
  have f0 : forD m 3 0 1 = detD m [2] [2] := by simp [forD, W1]
  have g0 : minI m 3 0 = detD m [1, 2] [1, 2] := by simp [minI, W0]
  have g1 : minI m' 3 0 = detD m' [1, 2] [1, 2] := by simp [minI, W0]
  rw [f0, g0, g1]
  clear h f0 g0 g1 W0 W1
  simp only [det2, det1]
  rw [e12]; clear e12; generalize at2 m' 1 2 = x12
  rw [e21]; clear e21; generalize at2 m' 2 1 = x21
  rw [e22]; clear e22; generalize at2 m' 2 2 = x22
  generalize at2 m 1 1 = y
  generalize at2 m' 1 1 = z
  grind
set_option maxHeartbeats 4000000 in
theorem entry3_02 (m m' : MatI) (h : ∀ i j : Nat, i < 3 → j < 3 → i ≠ 0 → j ≠ 0 → ¬ (i = 2 ∧ j = 2) → at2 m (i : Int) (j : Int) = at2 m' (i : Int) (j : Int)) : minI m 3 0 = minI m' 3 0 + (at2 m (2 : Int) (2 : Int) - at2 m' (2 : Int) (2 : Int)) * forD m 3 0 2 := by
  have e11 : at2 m 1 1 = at2 m' 1 1 := h 1 1 (by omega) (by omega) (by omega) (by omega) (by omega)
  have e12 : at2 m 1 2 = at2 m' 1 2 := h 1 2 (by omega) (by omega) (by omega) (by omega) (by omega)
  have e21 : at2 m 2 1 = at2 m' 2 1 := h 2 1 (by omega) (by omega) (by omega) (by omega) (by omega)
  have W0 := w3_0
  have W1 := w3_02
  have f0 : forD m 3 0 2 = detD m [1] [1] := by simp [forD, W1]
  have g0 : minI m 3 0 = detD m [1, 2] [1, 2] := by simp [minI, W0]
  have g1 : minI m' 3 0 = detD m' [1, 2] [1, 2] := by simp [minI, W0]
  rw [f0, g0, g1]
  clear h f0 g0 g1 W0 W1
  simp only [det2, det1]
  rw [e11]; clear e11; generalize at2 m' 1 1 = x11
  rw [e12]; clear e12; generalize at2 m' 1 2 = x12
  rw [e21]; clear e21; generalize at2 m' 2 1 = x21
  generalize at2 m 2 2 = y
  generalize at2 m' 2 2 = z
  grind
set_option maxHeartbeats 4000000 in
theorem entry3_12 (m m' : MatI) (h : ∀ i j : Nat, i < 3 → j < 3 → i ≠ 1 → j ≠ 1 → ¬ (i = 2 ∧ j = 2) → at2 m (i : Int) (j : Int) = at2 m' (i : Int) (j : Int)) : minI m 3 1 = minI m' 3 1 + (at2 m (2 : Int) (2 : Int) - at2 m' (2 : Int) (2 : Int)) * forD m 3 1 2 := by
  have e00 : at2 m 0 0 = at2 m' 0 0 := h 0 0 (by omega) (by omega) (by omega) (by omega) (by omega)
  have e02 : at2 m 0 2 = at2 m' 0 2 := h 0 2 (by omega) (by omega) (by omega) (by omega) (by omega)
  have e20 : at2 m 2 0 = at2 m' 2 0 := h 2 0 (by omega) (by omega) (by omega) (by omega) (by omega)
  have W0 := w3_1
  have W1 := w3_12
  have f0 : forD m 3 1 2 = detD m [0] [0] := by simp [forD, W1]
  have g0 : minI m 3 1 = detD m [0, 2] [0, 2] := by simp [minI, W0]
  have g1 : minI m' 3 1 = detD m' [0, 2] [0, 2] := by simp [minI, W0]
  rw [f0, g0, g1]
  clear h f0 g0 g1 W0 W1
  simp only [det2, det1]
  rw [e00]; clear e00; generalize at2 m' 0 0 = x00
  rw [e02]; clear e02; generalize at2 m' 0 2 = x02
  rw [e20]; clear e20; generalize at2 m' 2 0 = x20
  generalize at2 m 2 2 = y
  generalize at2 m' 2 2 = z
  grind
set_option maxHeartbeats 4000000 in
theorem entry4_01 (m m' : MatI) (h : ∀ i j : Nat, i < 4 → j < 4 → i ≠ 0 → j ≠ 0 → ¬ (i = 1 ∧ j = 1) → at2 m (i : Int) (j : Int) = at2 m' (i : Int) (j : Int)) : minI m 4 0 = minI m' 4 0 + (at2 m (1 : Int) (1 : Int) - at2 m' (1 : Int) (1 : Int)) * forD m 4 0 1 := by
  have e12 : at2 m 1 2 = at2 m' 1 2 := h 1 2 (by omega) (by omega) (by omega) (by omega) (by omega)
  have e13 : at2 m 1 3 = at2 m' 1 3 := h 1 3 (by omega) (by omega) (by omega) (by omega) (by omega)
  have e21 : at2 m 2 1 = at2 m' 2 1 := h 2 1 (by omega) (by omega) (by omega) (by omega) (by omega)
  have e22 : at2 m 2 2 = at2 m' 2 2 := h 2 2 (by omega) (by omega) (by omega) (by omega) (by omega)
  have e23 : at2 m 2 3 = at2 m' 2 3 := h 2 3 (by omega) (by omega) (by omega) (by omega) (by omega)
  have e31 : at2 m 3 1 = at2 m' 3 1 := h 3 1 (by omega) (by omega) (by omega) (by omega) (by omega)
  have e32 : at2 m 3 2 = at2 m' 3 2 := h 3 2 (by omega) (by omega) (by omega) (by omega) (by omega)
  have e33 : at2 m 3 3 = at2 m' 3 3 := h 3 3 (by omega) (by omega) (by omega) (by omega) (by omega)
  have W0 := w4_0
  have W1 := w4_01
  have f0 : forD m 4 0 1 = detD m [2, 3] [2, 3] := by simp [forD, W1]
  have g0 : minI m 4 0 = detD m [1, 2, 3] [1, 2, 3] := by simp [minI, W0]
  have g1 : minI m' 4 0 = detD m' [1, 2, 3] [1, 2, 3] := by simp [minI, W0]
  rw [f0, g0, g1]
  clear h f0 g0 g1 W0 W1
  simp only [det3, det2]
  rw [e12]; clear e12; generalize at2 m' 1 2 = x12
  rw [e13]; clear e13; generalize at2 m' 1 3 = x13
  rw [e21]; clear e21; generalize at2 m' 2 1 = x21
  rw [e22]; clear e22; generalize at2 m' 2 2 = x22
  rw [e23]; clear e23; generalize at2 m' 2 3 = x23
  rw [e31]; clear e31; generalize at2 m' 3 1 = x31
  rw [e32]; clear e32; generalize at2 m' 3 2 = x32
  rw [e33]; clear e33; generalize at2 m' 3 3 = x33
  generalize at2 m 1 1 = y
  generalize at2 m' 1 1 = z
  grind
set_option maxHeartbeats 4000000 in
theorem entry4_02 (m m' : MatI) (h : ∀ i j : Nat, i < 4 → j < 4 → i ≠ 0 → j ≠ 0 → ¬ (i = 2 ∧ j = 2) → at2 m (i : Int) (j : Int) = at2 m' (i : Int) (j : Int)) : minI m 4 0 = minI m' 4 0 + (at2 m (2 : Int) (2 : Int) - at2 m' (2 : Int) (2 : Int)) * forD m 4 0 2 := by
  have e11 : at2 m 1 1 = at2 m' 1 1 := h 1 1 (by omega) (by omega) (by omega) (by omega) (by omega)
  have e12 : at2 m 1 2 = at2 m' 1 2 := h 1 2 (by omega) (by omega) (by omega) (by omega) (by omega)
  have e13 : at2 m 1 3 = at2 m' 1 3 := h 1 3 (by omega) (by omega) (by omega) (by omega) (by omega)
  have e21 : at2 m 2 1 = at2 m' 2 1 := h 2 1 (by omega) (by omega) (by omega) (by omega) (by omega)
  have e23 : at2 m 2 3 = at2 m' 2 3 := h 2 3 (by omega) (by omega) (by omega) (by omega) (by omega)
  have e31 : at2 m 3 1 = at2 m' 3 1 := h 3 1 (by omega) (by omega) (by omega) (by omega) (by omega)
  have e32 : at2 m 3 2 = at2 m' 3 2 := h 3 2 (by omega) (by omega) (by omega) (by omega) (by omega)
  have e33 : at2 m 3 3 = at2 m' 3 3 := h 3 3 (by omega) (by omega) (by omega) (by omega) (by omega)
  have W0 := w4_0
  have W1 := w4_02
  have f0 : forD m 4 0 2 = detD m [1, 3] [1, 3] := by simp [forD, W1]
  have g0 : minI m 4 0 = detD m [1, 2, 3] [1, 2, 3] := by simp [minI, W0]
  have g1 : minI m' 4 0 = detD m' [1, 2, 3] [1, 2, 3] := by simp [minI, W0]
  rw [f0, g0, g1]
  clear h f0 g0 g1 W0 W1
  simp only [det3, det2]
  rw [e11]; clear e11; generalize at2 m' 1 1 = x11
  rw [e12]; clear e12; generalize at2 m' 1 2 = x12
  rw [e13]; clear e13; generalize at2 m' 1 3 = x13
  rw [e21]; clear e21; generalize at2 m' 2 1 = x21
  rw [e23]; clear e23; generalize at2 m' 2 3 = x23
  rw [e31]; clear e31; generalize at2 m' 3 1 = x31
  rw [e32]; clear e32; generalize at2 m' 3 2 = x32
  rw [e33]; clear e33; generalize at2 m' 3 3 = x33
  generalize at2 m 2 2 = y
  generalize at2 m' 2 2 = z
  grind
set_option maxHeartbeats 4000000 in
theorem entry4_03 (m m' : MatI) (h : ∀ i j : Nat, i < 4 → j < 4 → i ≠ 0 → j ≠ 0 → ¬ (i = 3 ∧ j = 3) → at2 m (i : Int) (j : Int) = at2 m' (i : Int) (j : Int)) : minI m 4 0 = minI m' 4 0 + (at2 m (3 : Int) (3 : Int) - at2 m' (3 : Int) (3 : Int)) * forD m 4 0 3 := by
  have e11 : at2 m 1 1 = at2 m' 1 1 := h 1 1 (by omega) (by omega) (by omega) (by omega) (by omega)
  have e12 : at2 m 1 2 = at2 m' 1 2 := h 1 2 (by omega) (by omega) (by omega) (by omega) (by omega)
  have e13 : at2 m 1 3 = at2 m' 1 3 := h 1 3 (by omega) (by omega) (by omega) (by omega) (by omega)
  have e21 : at2 m 2 1 = at2 m' 2 1 := h 2 1 (by omega) (by omega) (by omega) (by omega) (by omega)
  have e22 : at2 m 2 2 = at2 m' 2 2 := h 2 2 (by omega) (by omega) (by omega) (by omega) (by omega)
  have e23 : at2 m 2 3 = at2 m' 2 3 := h 2 3 (by omega) (by omega) (by omega) (by omega) (by omega)
  have e31 : at2 m 3 1 = at2 m' 3 1 := h 3 1 (by omega) (by omega) (by omega) (by omega) (by omega)
  have e32 : at2 m 3 2 = at2 m' 3 2 := h 3 2 (by omega) (by omega) (by omega) (by omega) (by omega)
  have W0 := w4_0
  have W1 := w4_03
  have f0 : forD m 4 0 3 = detD m [1, 2] [1, 2] := by simp [forD, W1]
  have g0 : minI m 4 0 = detD m [1, 2, 3] [1, 2, 3] := by simp [minI, W0]
  have g1 : minI m' 4 0 = detD m' [1, 2, 3] [1, 2, 3] := by simp [minI, W0]
  rw [f0, g0, g1]
  clear h f0 g0 g1 W0 W1
  simp only [det3, det2]
  rw [e11]; clear e11; generalize at2 m' 1 1 = x11
  rw [e12]; clear e12; generalize at2 m' 1 2 = x12
  rw [e13]; clear e13; generalize at2 m' 1 3 = x13
  rw [e21]; clear e21; generalize at2 m' 2 1 = x21
  rw [e22]; clear e22; generalize at2 m' 2 2 = x22
  rw [e23]; clear e23; generalize at2 m' 2 3 = x23
  rw [e31]; clear e31; generalize at2 m' 3 1 = x31
  rw [e32]; clear e32; generalize at2 m' 3 2 = x32
  generalize at2 m 3 3 = y
  generalize at2 m' 3 3 = z
  grind
set_option maxHeartbeats 4000000 in
theorem entry4_12 (m m' : MatI) (h : ∀ i j : Nat, i < 4 → j < 4 → i ≠ 1 → j ≠ 1 → ¬ (i = 2 ∧ j = 2) → at2 m (i : Int) (j : Int) = at2 m' (i : Int) (j : Int)) : minI m 4 1 = minI m' 4 1 + (at2 m (2 : Int) (2 : Int) - at2 m' (2 : Int) (2 : Int)) * forD m 4 1 2 := by
  have e00 : at2 m 0 0 = at2 m' 0 0 := h 0 0 (by omega) (by omega) (by omega) (by omega) (by omega)
  have e02 : at2 m 0 2 = at2 m' 0 2 := h 0 2 (by omega) (by omega) (by omega) (by omega) (by omega)
  have e03 : at2 m 0 3 = at2 m' 0 3 := h 0 3 (by omega) (by omega) (by omega) (by omega) (by omega)
  have e20 : at2 m 2 0 = at2 m' 2 0 := h 2 0 (by omega) (by omega) (by omega) (by omega) (by omega)
  have e23 : at2 m 2 3 = at2 m' 2 3 := h 2 3 (by omega) (by omega) (by omega) (by omega) (by omega)
  have e30 : at2 m 3 0 = at2 m' 3 0 := h 3 0 (by omega) (by omega) (by omega) (by omega) (by omega)
  have e32 : at2 m 3 2 = at2 m' 3 2 := h 3 2 (by omega) (by omega) (by omega) (by omega) (by omega)
  have e33 : at2 m 3 3 = at2 m' 3 3 := h 3 3 (by omega) (by omega) (by omega) (by omega) (by omega)
  have W0 := w4_1
  have W1 := w4_12
  have f0 : forD m 4 1 2 = detD m [0, 3] [0, 3] := by simp [forD, W1]
  have g0 : minI m 4 1 = detD m [0, 2, 3] [0, 2, 3] := by simp [minI, W0]
  have g1 : minI m' 4 1 = detD m' [0, 2, 3] [0, 2, 3] := by simp [minI, W0]
  rw [f0, g0, g1]
  clear h f0 g0 g1 W0 W1
  simp only [det3, det2]
  rw [e00]; clear e00; generalize at2 m' 0 0 = x00
  rw [e02]; clear e02; generalize at2 m' 0 2 = x02
  rw [e03]; clear e03; generalize at2 m' 0 3 = x03
  rw [e20]; clear e20; generalize at2 m' 2 0 = x20
  rw [e23]; clear e23; generalize at2 m' 2 3 = x23
  rw [e30]; clear e30; generalize at2 m' 3 0 = x30
  rw [e32]; clear e32; generalize at2 m' 3 2 = x32
  rw [e33]; clear e33; generalize at2 m' 3 3 = x33
  generalize at2 m 2 2 = y
  generalize at2 m' 2 2 = z
  grind
set_option maxHeartbeats 4000000 in
theorem entry4_13 (m m' : MatI) (h : ∀ i j : Nat, i < 4 → j < 4 → i ≠ 1 → j ≠ 1 → ¬ (i = 3 ∧ j = 3) → at2 m (i : Int) (j : Int) = at2 m' (i : Int) (j : Int)) : minI m 4 1 = minI m' 4 1 + (at2 m (3 : Int) (3 : Int) - at2 m' (3 : Int) (3 : Int)) * forD m 4 1 3 := by
  have e00 : at2 m 0 0 = at2 m' 0 0 := h 0 0 (by omega) (by omega) (by omega) (by omega) (by omega)
  have e02 : at2 m 0 2 = at2 m' 0 2 := h 0 2 (by omega) (by omega) (by omega) (by omega) (by omega)
  have e03 : at2 m 0 3 = at2 m' 0 3 := h 0 3 (by omega) (by omega) (by omega) (by omega) (by omega)
  have e20 : at2 m 2 0 = at2 m' 2 0 := h 2 0 (by omega) (by omega) (by omega) (by omega) (by omega)
  have e22 : at2 m 2 2 = at2 m' 2 2 := h 2 2 (by omega) (by omega) (by omega) (by omega) (by omega)
  have e23 : at2 m 2 3 = at2 m' 2 3 := h 2 3 (by omega) (by omega) (by omega) (by omega) (by omega)
  have e30 : at2 m 3 0 = at2 m' 3 0 := h 3 0 (by omega) (by omega) (by omega) (by omega) (by omega)
  have e32 : at2 m 3 2 = at2 m' 3 2 := h 3 2 (by omega) (by omega) (by omega) (by omega) (by omega)
  have W0 := w4_1
  have W1 := w4_13
  have f0 : forD m 4 1 3 = detD m [0, 2] [0, 2] := by simp [forD, W1]
  have g0 : minI m 4 1 = detD m [0, 2, 3] [0, 2, 3] := by simp [minI, W0]
  have g1 : minI m' 4 1 = detD m' [0, 2, 3] [0, 2, 3] := by simp [minI, W0]
  rw [f0, g0, g1]
  clear h f0 g0 g1 W0 W1
  simp only [det3, det2]
  rw [e00]; clear e00; generalize at2 m' 0 0 = x00
  rw [e02]; clear e02; generalize at2 m' 0 2 = x02
  rw [e03]; clear e03; generalize at2 m' 0 3 = x03
  rw [e20]; clear e20; generalize at2 m' 2 0 = x20
  rw [e22]; clear e22; generalize at2 m' 2 2 = x22
  rw [e23]; clear e23; generalize at2 m' 2 3 = x23
  rw [e30]; clear e30; generalize at2 m' 3 0 = x30
  rw [e32]; clear e32; generalize at2 m' 3 2 = x32
  generalize at2 m 3 3 = y
  generalize at2 m' 3 3 = z
  grind
set_option maxHeartbeats 4000000 in
theorem entry4_23 (m m' : MatI) (h : ∀ i j : Nat, i < 4 → j < 4 → i ≠ 2 → j ≠ 2 → ¬ (i = 3 ∧ j = 3) → at2 m (i : Int) (j : Int) = at2 m' (i : Int) (j : Int)) : minI m 4 2 = minI m' 4 2 + (at2 m (3 : Int) (3 : Int) - at2 m' (3 : Int) (3 : Int)) * forD m 4 2 3 := by
  have e00 : at2 m 0 0 = at2 m' 0 0 := h 0 0 (by omega) (by omega) (by omega) (by omega) (by omega)
  have e01 : at2 m 0 1 = at2 m' 0 1 := h 0 1 (by omega) (by omega) (by omega) (by omega) (by omega)
  have e03 : at2 m 0 3 = at2 m' 0 3 := h 0 3 (by omega) (by omega) (by omega) (by omega) (by omega)
  have e10 : at2 m 1 0 = at2 m' 1 0 := h 1 0 (by omega) (by omega) (by omega) (by omega) (by omega)
  have e11 : at2 m 1 1 = at2 m' 1 1 := h 1 1 (by omega) (by omega) (by omega) (by omega) (by omega)
  have e13 : at2 m 1 3 = at2 m' 1 3 := h 1 3 (by omega) (by omega) (by omega) (by omega) (by omega)
  have e30 : at2 m 3 0 = at2 m' 3 0 := h 3 0 (by omega) (by omega) (by omega) (by omega) (by omega)
  have e31 : at2 m 3 1 = at2 m' 3 1 := h 3 1 (by omega) (by omega) (by omega) (by omega) (by omega)
  have W0 := w4_2
  have W1 := w4_23
  have f0 : forD m 4 2 3 = detD m [0, 1] [0, 1] := by simp [forD, W1]
  have g0 : minI m 4 2 = detD m [0, 1, 3] [0, 1, 3] := by simp [minI, W0]
  have g1 : minI m' 4 2 = detD m' [0, 1, 3] [0, 1, 3] := by simp [minI, W0]
  rw [f0, g0, g1]
  clear h f0 g0 g1 W0 W1
  simp only [det3, det2]
  rw [e00]; clear e00; generalize at2 m' 0 0 = x00
  rw [e01]; clear e01; generalize at2 m' 0 1 = x01
  rw [e03]; clear e03; generalize at2 m' 0 3 = x03
  rw [e10]; clear e10; generalize at2 m' 1 0 = x10
  rw [e11]; clear e11; generalize at2 m' 1 1 = x11
  rw [e13]; clear e13; generalize at2 m' 1 3 = x13
  rw [e30]; clear e30; generalize at2 m' 3 0 = x30
  rw [e31]; clear e31; generalize at2 m' 3 1 = x31
  generalize at2 m 3 3 = y
  generalize at2 m' 3 3 = z
  grind
set_option maxHeartbeats 4000000 in
theorem entry5_01 (m m' : MatI) (h : ∀ i j : Nat, i < 5 → j < 5 → i ≠ 0 → j ≠ 0 → ¬ (i = 1 ∧ j = 1) → at2 m (i : Int) (j : Int) = at2 m' (i : Int) (j : Int)) : minI m 5 0 = minI m' 5 0 + (at2 m (1 : Int) (1 : Int) - at2 m' (1 : Int) (1 : Int)) * forD m 5 0 1 := by
  have e12 : at2 m 1 2 = at2 m' 1 2 := h 1 2 (by omega) (by omega) (by omega) (by omega) (by omega)
  have e13 : at2 m 1 3 = at2 m' 1 3 := h 1 3 (by omega) (by omega) (by omega) (by omega) (by omega)
  have e14 : at2 m 1 4 = at2 m' 1 4 := h 1 4 (by omega) (by omega) (by omega) (by omega) (by omega)
  have e21 : at2 m 2 1 = at2 m' 2 1 := h 2 1 (by omega) (by omega) (by omega) (by omega) (by omega)
  have e22 : at2 m 2 2 = at2 m' 2 2 := h 2 2 (by omega) (by omega) (by omega) (by omega) (by omega)
  have e23 : at2 m 2 3 = at2 m' 2 3 := h 2 3 (by omega) (by omega) (by omega) (by omega) (by omega)
  have e24 : at2 m 2 4 = at2 m' 2 4 := h 2 4 (by omega) (by omega) (by omega) (by omega) (by omega)
  have e31 : at2 m 3 1 = at2 m' 3 1 := h 3 1 (by omega) (by omega) (by omega) (by omega) (by omega)
  have e32 : at2 m 3 2 = at2 m' 3 2 := h 3 2 (by omega) (by omega) (by omega) (by omega) (by omega)
  have e33 : at2 m 3 3 = at2 m' 3 3 := h 3 3 (by omega) (by omega) (by omega) (by omega) (by omega)
  have e34 : at2 m 3 4 = at2 m' 3 4 := h 3 4 (by omega) (by omega) (by omega) (by omega) (by omega)
  have e41 : at2 m 4 1 = at2 m' 4 1 := h 4 1 (by omega) (by omega) (by omega) (by omega) (by omega)
  have e42 : at2 m 4 2 = at2 m' 4 2 := h 4 2 (by omega) (by omega) (by omega) (by omega) (by omega)
  have e43 : at2 m 4 3 = at2 m' 4 3 := h 4 3 (by omega) (by omega) (by omega) (by omega) (by omega)
  have e44 : at2 m 4 4 = at2 m' 4 4 := h 4 4 (by omega) (by omega) (by omega) (by omega) (by omega)
  have W0 := w5_0
  have W1 := w5_01
  have f0 : forD m 5 0 1 = detD m [2, 3, 4] [2, 3, 4] := by simp [forD, W1]
  have g0 : minI m 5 0 = detD m [1, 2, 3, 4] [1, 2, 3, 4] := by simp [minI, W0]
  have g1 : minI m' 5 0 = detD m' [1, 2, 3, 4] [1, 2, 3, 4] := by simp [minI, W0]
  rw [f0, g0, g1]
  clear h f0 g0 g1 W0 W1
  simp only [det4, det3]
  rw [e12]; clear e12; generalize at2 m' 1 2 = x12
  rw [e13]; clear e13; generalize at2 m' 1 3 = x13
  rw [e14]; clear e14; generalize at2 m' 1 4 = x14
  rw [e21]; clear e21; generalize at2 m' 2 1 = x21
  rw [e22]; clear e22; generalize at2 m' 2 2 = x22
  rw [e23]; clear e23; generalize at2 m' 2 3 = x23
  rw [e24]; clear e24; generalize at2 m' 2 4 = x24
  rw [e31]; clear e31; generalize at2 m' 3 1 = x31
  rw [e32]; clear e32; generalize at2 m' 3 2 = x32
  rw [e33]; clear e33; generalize at2 m' 3 3 = x33
  rw [e34]; clear e34; generalize at2 m' 3 4 = x34
  rw [e41]; clear e41; generalize at2 m' 4 1 = x41
  rw [e42]; clear e42; generalize at2 m' 4 2 = x42
  rw [e43]; clear e43; generalize at2 m' 4 3 = x43
  rw [e44]; clear e44; generalize at2 m' 4 4 = x44
  generalize at2 m 1 1 = y
  generalize at2 m' 1 1 = z
  grind
set_option maxHeartbeats 4000000 in
theorem entry5_02 (m m' : MatI) (h : ∀ i j : Nat, i < 5 → j < 5 → i ≠ 0 → j ≠ 0 → ¬ (i = 2 ∧ j = 2) → at2 m (i : Int) (j : Int) = at2 m' (i : Int) (j : Int)) : minI m 5 0 = minI m' 5 0 + (at2 m (2 : Int) (2 : Int) - at2 m' (2 : Int) (2 : Int)) * forD m 5 0 2 := by
  have e11 : at2 m 1 1 = at2 m' 1 1 := h 1 1 (by omega) (by omega) (by omega) (by omega) (by omega)
  have e12 : at2 m 1 2 = at2 m' 1 2 := h 1 2 (by omega) (by omega) (by omega) (by omega) (by omega)
  have e13 : at2 m 1 3 = at2 m' 1 3 := h 1 3 (by omega) (by omega) (by omega) (by omega) (by omega)
  have e14 : at2 m 1 4 = at2 m' 1 4 := h 1 4 (by omega) (by omega) (by omega) (by omega) (by omega)
  have e21 : at2 m 2 1 = at2 m' 2 1 := h 2 1 (by omega) (by omega) (by omega) (by omega) (by omega)
  have e23 : at2 m 2 3 = at2 m' 2 3 := h 2 3 (by omega) (by omega) (by omega) (by omega) (by omega)
  have e24 : at2 m 2 4 = at2 m' 2 4 := h 2 4 (by omega) (by omega) (by omega) (by omega) (by omega)
  have e31 : at2 m 3 1 = at2 m' 3 1 := h 3 1 (by omega) (by omega) (by omega) (by omega) (by omega)
  have e32 : at2 m 3 2 = at2 m' 3 2 := h 3 2 (by omega) (by omega) (by omega) (by omega) (by omega)
  have e33 : at2 m 3 3 = at2 m' 3 3 := h 3 3 (by omega) (by omega) (by omega) (by omega) (by omega)
  have e34 : at2 m 3 4 = at2 m' 3 4 := h 3 4 (by omega) (by omega) (by omega) (by omega) (by omega)
  have e41 : at2 m 4 1 = at2 m' 4 1 := h 4 1 (by omega) (by omega) (by omega) (by omega) (by omega)
  have e42 : at2 m 4 2 = at2 m' 4 2 := h 4 2 (by omega) (by omega) (by omega) (by omega) (by omega)
  have e43 : at2 m 4 3 = at2 m' 4 3 := h 4 3 (by omega) (by omega) (by omega) (by omega) (by omega)
  have e44 : at2 m 4 4 = at2 m' 4 4 := h 4 4 (by omega) (by omega) (by omega) (by omega) (by omega)
  have W0 := w5_0
  have W1 := w5_02
  have f0 : forD m 5 0 2 = detD m [1, 3, 4] [1, 3, 4] := by simp [forD, W1]
  have g0 : minI m 5 0 = detD m [1, 2, 3, 4] [1, 2, 3, 4] := by simp [minI, W0]
  have g1 : minI m' 5 0 = detD m' [1, 2, 3, 4] [1, 2, 3, 4] := by simp [minI, W0]
  rw [f0, g0, g1]
  clear h f0 g0 g1 W0 W1
  simp only [det4, det3]
  rw [e11]; clear e11; generalize at2 m' 1 1 = x11
  rw [e12]; clear e12; generalize at2 m' 1 2 = x12
  rw [e13]; clear e13; generalize at2 m' 1 3 = x13
  rw [e14]; clear e14; generalize at2 m' 1 4 = x14
  rw [e21]; clear e21; generalize at2 m' 2 1 = x21
  rw [e23]; clear e23; generalize at2 m' 2 3 = x23
  rw [e24]; clear e24; generalize at2 m' 2 4 = x24
  rw [e31]; clear e31; generalize at2 m' 3 1 = x31
  rw [e32]; clear e32; generalize at2 m' 3 2 = x32
  rw [e33]; clear e33; generalize at2 m' 3 3 = x33
  rw [e34]; clear e34; generalize at2 m' 3 4 = x34
  rw [e41]; clear e41; generalize at2 m' 4 1 = x41
  rw [e42]; clear e42; generalize at2 m' 4 2 = x42
  rw [e43]; clear e43; generalize at2 m' 4 3 = x43
  rw [e44]; clear e44; generalize at2 m' 4 4 = x44
  generalize at2 m 2 2 = y
  generalize at2 m' 2 2 = z
  grind
set_option maxHeartbeats 4000000 in
theorem entry5_03 (m m' : MatI) (h : ∀ i j : Nat, i < 5 → j < 5 → i ≠ 0 → j ≠ 0 → ¬ (i = 3 ∧ j = 3) → at2 m (i : Int) (j : Int) = at2 m' (i : Int) (j : Int)) : minI m 5 0 = minI m' 5 0 + (at2 m (3 : Int) (3 : Int) - at2 m' (3 : Int) (3 : Int)) * forD m 5 0 3 := by
  have e11 : at2 m 1 1 = at2 m' 1 1 := h 1 1 (by omega) (by omega) (by omega) (by omega) (by omega)
  have e12 : at2 m 1 2 = at2 m' 1 2 := h 1 2 (by omega) (by omega) (by omega) (by omega) (by omega)
  have e13 : at2 m 1 3 = at2 m' 1 3 := h 1 3 (by omega) (by omega) (by omega) (by omega) (by omega)
  have e14 : at2 m 1 4 = at2 m' 1 4 := h 1 4 (by omega) (by omega) (by omega) (by omega) (by omega)
  have e21 : at2 m 2 1 = at2 m' 2 1 := h 2 1 (by omega) (by omega) (by omega) (by omega) (by omega)
  have e22 : at2 m 2 2 = at2 m' 2 2 := h 2 2 (by omega) (by omega) (by omega) (by omega) (by omega)
  have e23 : at2 m 2 3 = at2 m' 2 3 := h 2 3 (by omega) (by omega) (by omega) (by omega) (by omega)
  have e24 : at2 m 2 4 = at2 m' 2 4 := h 2 4 (by omega) (by omega) (by omega) (by omega) (by omega)
  have e31 : at2 m 3 1 = at2 m' 3 1 := h 3 1 (by omega) (by omega) (by omega) (by omega) (by omega)
  have e32 : at2 m 3 2 = at2 m' 3 2 := h 3 2 (by omega) (by omega) (by omega) (by omega) (by omega)
  have e34 : at2 m 3 4 = at2 m' 3 4 := h 3 4 (by omega) (by omega) (by omega) (by omega) (by omega)
  have e41 : at2 m 4 1 = at2 m' 4 1 := h 4 1 (by omega) (by omega) (by omega) (by omega) (by omega)
  have e42 : at2 m 4 2 = at2 m' 4 2 := h 4 2 (by omega) (by omega) (by omega) (by omega) (by omega)
  have e43 : at2 m 4 3 = at2 m' 4 3 := h 4 3 (by omega) (by omega) (by omega) (by omega) (by omega)
  have e44 : at2 m 4 4 = at2 m' 4 4 := h 4 4 (by omega) (by omega) (by omega) (by omega) (by omega)
  have W0 := w5_0
  have W1 := w5_03
  have f0 : forD m 5 0 3 = detD m [1, 2, 4] [1, 2, 4] := by simp [forD, W1]
  have g0 : minI m 5 0 = detD m [1, 2, 3, 4] [1, 2, 3, 4] := by simp [minI, W0]
  have g1 : minI m' 5 0 = detD m' [1, 2, 3, 4] [1, 2, 3, 4] := by simp [minI, W0]
  rw [f0, g0, g1]
  clear h f0 g0 g1 W0 W1
  simp only [det4, det3]
  rw [e11]; clear e11; generalize at2 m' 1 1 = x11
  rw [e12]; clear e12; generalize at2 m' 1 2 = x12
  rw [e13]; clear e13; generalize at2 m' 1 3 = x13
  rw [e14]; clear e14; generalize at2 m' 1 4 = x14
  rw [e21]; clear e21; generalize at2 m' 2 1 = x21
  rw [e22]; clear e22; generalize at2 m' 2 2 = x22
  rw [e23]; clear e23; generalize at2 m' 2 3 = x23
  rw [e24]; clear e24; generalize at2 m' 2 4 = x24
  rw [e31]; clear e31; generalize at2 m' 3 1 = x31
  rw [e32]; clear e32; generalize at2 m' 3 2 = x32
  rw [e34]; clear e34; generalize at2 m' 3 4 = x34
  rw [e41]; clear e41; generalize at2 m' 4 1 = x41
  rw [e42]; clear e42; generalize at2 m' 4 2 = x42
  rw [e43]; clear e43; generalize at2 m' 4 3 = x43
  rw [e44]; clear e44; generalize at2 m' 4 4 = x44
  generalize at2 m 3 3 = y
  generalize at2 m' 3 3 = z
  grind
set_option maxHeartbeats 4000000 in
theorem entry5_04 (m m' : MatI) (h : ∀ i j : Nat, i < 5 → j < 5 → i ≠ 0 → j ≠ 0 → ¬ (i = 4 ∧ j = 4) → at2 m (i : Int) (j : Int) = at2 m' (i : Int) (j : Int)) : minI m 5 0 = minI m' 5 0 + (at2 m (4 : Int) (4 : Int) - at2 m' (4 : Int) (4 : Int)) * forD m 5 0 4 := by
  have e11 : at2 m 1 1 = at2 m' 1 1 := h 1 1 (by omega) (by omega) (by omega) (by omega) (by omega)
  have e12 : at2 m 1 2 = at2 m' 1 2 := h 1 2 (by omega) (by omega) (by omega) (by omega) (by omega)
  have e13 : at2 m 1 3 = at2 m' 1 3 := h 1 3 (by omega) (by omega) (by omega) (by omega) (by omega)
  have e14 : at2 m 1 4 = at2 m' 1 4 := h 1 4 (by omega) (by omega) (by omega) (by omega) (by omega)
  have e21 : at2 m 2 1 = at2 m' 2 1 := h 2 1 (by omega) (by omega) (by omega) (by omega) (by omega)
  have e22 : at2 m 2 2 = at2 m' 2 2 := h 2 2 (by omega) (by omega) (by omega) (by omega) (by omega)
  have e23 : at2 m 2 3 = at2 m' 2 3 := h 2 3 (by omega) (by omega) (by omega) (by omega) (by omega)
  have e24 : at2 m 2 4 = at2 m' 2 4 := h 2 4 (by omega) (by omega) (by omega) (by omega) (by omega)
  have e31 : at2 m 3 1 = at2 m' 3 1 := h 3 1 (by omega) (by omega) (by omega) (by omega) (by omega)
  have e32 : at2 m 3 2 = at2 m' 3 2 := h 3 2 (by omega) (by omega) (by omega) (by omega) (by omega)
  have e33 : at2 m 3 3 = at2 m' 3 3 := h 3 3 (by omega) (by omega) (by omega) (by omega) (by omega)
  have e34 : at2 m 3 4 = at2 m' 3 4 := h 3 4 (by omega) (by omega) (by omega) (by omega) (by omega)
  have e41 : at2 m 4 1 = at2 m' 4 1 := h 4 1 (by omega) (by omega) (by omega) (by omega) (by omega)
  have e42 : at2 m 4 2 = at2 m' 4 2 := h 4 2 (by omega) (by omega) (by omega) (by omega) (by omega)
  have e43 : at2 m 4 3 = at2 m' 4 3 := h 4 3 (by omega) (by omega) (by omega) (by omega) (by omega)
  have W0 := w5_0
  have W1 := w5_04
  have f0 : forD m 5 0 4 = detD m [1, 2, 3] [1, 2, 3] := by simp [forD, W1]
  have g0 : minI m 5 0 = detD m [1, 2, 3, 4] [1, 2, 3, 4] := by simp [minI, W0]
  have g1 : minI m' 5 0 = detD m' [1, 2, 3, 4] [1, 2, 3, 4] := by simp [minI, W0]
  rw [f0, g0, g1]
  clear h f0 g0 g1 W0 W1
  simp only [det4, det3]
  rw [e11]; clear e11; generalize at2 m' 1 1 = x11
  rw [e12]; clear e12; generalize at2 m' 1 2 = x12
  rw [e13]; clear e13; generalize at2 m' 1 3 = x13
  rw [e14]; clear e14; generalize at2 m' 1 4 = x14
  rw [e21]; clear e21; generalize at2 m' 2 1 = x21
  rw [e22]; clear e22; generalize at2 m' 2 2 = x22
  rw [e23]; clear e23; generalize at2 m' 2 3 = x23
  rw [e24]; clear e24; generalize at2 m' 2 4 = x24
  rw [e31]; clear e31; generalize at2 m' 3 1 = x31
  rw [e32]; clear e32; generalize at2 m' 3 2 = x32
  rw [e33]; clear e33; generalize at2 m' 3 3 = x33
  rw [e34]; clear e34; generalize at2 m' 3 4 = x34
  rw [e41]; clear e41; generalize at2 m' 4 1 = x41
  rw [e42]; clear e42; generalize at2 m' 4 2 = x42
  rw [e43]; clear e43; generalize at2 m' 4 3 = x43
  generalize at2 m 4 4 = y
  generalize at2 m' 4 4 = z
  grind
set_option maxHeartbeats 4000000 in
theorem entry5_12 (m m' : MatI) (h : ∀ i j : Nat, i < 5 → j < 5 → i ≠ 1 → j ≠ 1 → ¬ (i = 2 ∧ j = 2) → at2 m (i : Int) (j : Int) = at2 m' (i : Int) (j : Int)) : minI m 5 1 = minI m' 5 1 + (at2 m (2 : Int) (2 : Int) - at2 m' (2 : Int) (2 : Int)) * forD m 5 1 2 := by
  have e00 : at2 m 0 0 = at2 m' 0 0 := h 0 0 (by omega) (by omega) (by omega) (by omega) (by omega)
  have e02 : at2 m 0 2 = at2 m' 0 2 := h 0 2 (by omega) (by omega) (by omega) (by omega) (by omega)
  have e03 : at2 m 0 3 = at2 m' 0 3 := h 0 3 (by omega) (by omega) (by omega) (by omega) (by omega)
  have e04 : at2 m 0 4 = at2 m' 0 4 := h 0 4 (by omega) (by omega) (by omega) (by omega) (by omega)
  have e20 : at2 m 2 0 = at2 m' 2 0 := h 2 0 (by omega) (by omega) (by omega) (by omega) (by omega)
  have e23 : at2 m 2 3 = at2 m' 2 3 := h 2 3 (by omega) (by omega) (by omega) (by omega) (by omega)
  have e24 : at2 m 2 4 = at2 m' 2 4 := h 2 4 (by omega) (by omega) (by omega) (by omega) (by omega)
  have e30 : at2 m 3 0 = at2 m' 3 0 := h 3 0 (by omega) (by omega) (by omega) (by omega) (by omega)
  have e32 : at2 m 3 2 = at2 m' 3 2 := h 3 2 (by omega) (by omega) (by omega) (by omega) (by omega)
  have e33 : at2 m 3 3 = at2 m' 3 3 := h 3 3 (by omega) (by omega) (by omega) (by omega) (by omega)
  have e34 : at2 m 3 4 = at2 m' 3 4 := h 3 4 (by omega) (by omega) (by omega) (by omega) (by omega)
  have e40 : at2 m 4 0 = at2 m' 4 0 := h 4 0 (by omega) (by omega) (by omega) (by omega) (by omega)
  have e42 : at2 m 4 2 = at2 m' 4 2 := h 4 2 (by omega) (by omega) (by omega) (by omega) (by omega)
  have e43 : at2 m 4 3 = at2 m' 4 3 := h 4 3 (by omega) (by omega) (by omega) (by omega) (by omega)
  have e44 : at2 m 4 4 = at2 m' 4 4 := h 4 4 (by omega) (by omega) (by omega) (by omega) (by omega)
  have W0 := w5_1
  have W1 := w5_12
  have f0 : forD m 5 1 2 = detD m [0, 3, 4] [0, 3, 4] := by simp [forD, W1]
  have g0 : minI m 5 1 = detD m [0, 2, 3, 4] [0, 2, 3, 4] := by simp [minI, W0]
  have g1 : minI m' 5 1 = detD m' [0, 2, 3, 4] [0, 2, 3, 4] := by simp [minI, W0]
  rw [f0, g0, g1]
  clear h f0 g0 g1 W0 W1
  simp only [det4, det3]
  rw [e00]; clear e00; generalize at2 m' 0 0 = x00
  rw [e02]; clear e02; generalize at2 m' 0 2 = x02
  rw [e03]; clear e03; generalize at2 m' 0 3 = x03
  rw [e04]; clear e04; generalize at2 m' 0 4 = x04
  rw [e20]; clear e20; generalize at2 m' 2 0 = x20
  rw [e23]; clear e23; generalize at2 m' 2 3 = x23
  rw [e24]; clear e24; generalize at2 m' 2 4 = x24
  rw [e30]; clear e30; generalize at2 m' 3 0 = x30
  rw [e32]; clear e32; generalize at2 m' 3 2 = x32
  rw [e33]; clear e33; generalize at2 m' 3 3 = x33
  rw [e34]; clear e34; generalize at2 m' 3 4 = x34
  rw [e40]; clear e40; generalize at2 m' 4 0 = x40
  rw [e42]; clear e42; generalize at2 m' 4 2 = x42
  rw [e43]; clear e43; generalize at2 m' 4 3 = x43
  rw [e44]; clear e44; generalize at2 m' 4 4 = x44
  generalize at2 m 2 2 = y
  generalize at2 m' 2 2 = z
  grind
set_option maxHeartbeats 4000000 in
theorem entry5_13 (m m' : MatI) (h : ∀ i j : Nat, i < 5 → j < 5 → i ≠ 1 → j ≠ 1 → ¬ (i = 3 ∧ j = 3) → at2 m (i : Int) (j : Int) = at2 m' (i : Int) (j : Int)) : minI m 5 1 = minI m' 5 1 + (at2 m (3 : Int) (3 : Int) - at2 m' (3 : Int) (3 : Int)) * forD m 5 1 3 := by
  have e00 : at2 m 0 0 = at2 m' 0 0 := h 0 0 (by omega) (by omega) (by omega) (by omega) (by omega)
  have e02 : at2 m 0 2 = at2 m' 0 2 := h 0 2 (by omega) (by omega) (by omega) (by omega) (by omega)
  have e03 : at2 m 0 3 = at2 m' 0 3 := h 0 3 (by omega) (by omega) (by omega) (by omega) (by omega)
  have e04 : at2 m 0 4 = at2 m' 0 4 := h 0 4 (by omega) (by omega) (by omega) (by omega) (by omega)
  have e20 : at2 m 2 0 = at2 m' 2 0 := h 2 0 (by omega) (by omega) (by omega) (by omega) (by omega)
  have e22 : at2 m 2 2 = at2 m' 2 2 := h 2 2 (by omega) (by omega) (by omega) (by omega) (by omega)
  have e23 : at2 m 2 3 = at2 m' 2 3 := h 2 3 (by omega) (by omega) (by omega) (by omega) (by omega)
  have e24 : at2 m 2 4 = at2 m' 2 4 := h 2 4 (by omega) (by omega) (by omega) (by omega) (by omega)
  have e30 : at2 m 3 0 = at2 m' 3 0 := h 3 0 (by omega) (by omega) (by omega) (by omega) (by omega)
  have e32 : at2 m 3 2 = at2 m' 3 2 := h 3 2 (by omega) (by omega) (by omega) (by omega) (by omega)
  have e34 : at2 m 3 4 = at2 m' 3 4 := h 3 4 (by omega) (by omega) (by omega) (by omega) (by omega)
  have e40 : at2 m 4 0 = at2 m' 4 0 := h 4 0 (by omega) (by omega) (by omega) (by omega) (by omega)
  have e42 : at2 m 4 2 = at2 m' 4 2 := h 4 2 (by omega) (by omega) (by omega) (by omega) (by omega)
  have e43 : at2 m 4 3 = at2 m' 4 3 := h 4 3 (by omega) (by omega) (by omega) (by omega) (by omega)
  have e44 : at2 m 4 4 = at2 m' 4 4 := h 4 4 (by omega) (by omega) (by omega) (by omega) (by omega)
  have W0 := w5_1
  have W1 := w5_13
  have f0 : forD m 5 1 3 = detD m [0, 2, 4] [0, 2, 4] := by simp [forD, W1]
  have g0 : minI m 5 1 = detD m [0, 2, 3, 4] [0, 2, 3, 4] := by simp [minI, W0]
  have g1 : minI m' 5 1 = detD m' [0, 2, 3, 4] [0, 2, 3, 4] := by simp [minI, W0]
  rw [f0, g0, g1]
  clear h f0 g0 g1 W0 W1
  simp only [det4, det3]
  rw [e00]; clear e00; generalize at2 m' 0 0 = x00
  rw [e02]; clear e02; generalize at2 m' 0 2 = x02
  rw [e03]; clear e03; generalize at2 m' 0 3 = x03
  rw [e04]; clear e04; generalize at2 m' 0 4 = x04
  rw [e20]; clear e20; generalize at2 m' 2 0 = x20
  rw [e22]; clear e22; generalize at2 m' 2 2 = x22
  rw [e23]; clear e23; generalize at2 m' 2 3 = x23
  rw [e24]; clear e24; generalize at2 m' 2 4 = x24
  rw [e30]; clear e30; generalize at2 m' 3 0 = x30
  rw [e32]; clear e32; generalize at2 m' 3 2 = x32
  rw [e34]; clear e34; generalize at2 m' 3 4 = x34
  rw [e40]; clear e40; generalize at2 m' 4 0 = x40
  rw [e42]; clear e42; generalize at2 m' 4 2 = x42
  rw [e43]; clear e43; generalize at2 m' 4 3 = x43
  rw [e44]; clear e44; generalize at2 m' 4 4 = x44
  generalize at2 m 3 3 = y
  generalize at2 m' 3 3 = z
  grind
set_option maxHeartbeats 4000000 in
theorem entry5_14 (m m' : MatI) (h : ∀ i j : Nat, i < 5 → j < 5 → i ≠ 1 → j ≠ 1 → ¬ (i = 4 ∧ j = 4) → at2 m (i : Int) (j : Int) = at2 m' (i : Int) (j : Int)) : minI m 5 1 = minI m' 5 1 + (at2 m (4 : Int) (4 : Int) - at2 m' (4 : Int) (4 : Int)) * forD m 5 1 4 := by
  have e00 : at2 m 0 0 = at2 m' 0 0 := h 0 0 (by omega) (by omega) (by omega) (by omega) (by omega)
  have e02 : at2 m 0 2 = at2 m' 0 2 := h 0 2 (by omega) (by omega) (by omega) (by omega) (by omega)
  have e03 : at2 m 0 3 = at2 m' 0 3 := h 0 3 (by omega) (by omega) (by omega) (by omega) (by omega)
  have e04 : at2 m 0 4 = at2 m' 0 4 := h 0 4 (by omega) (by omega) (by omega) (by omega) (by omega)
  have e20 : at2 m 2 0 = at2 m' 2 0 := h 2 0 (by omega) (by omega) (by omega) (by omega) (by omega)
  have e22 : at2 m 2 2 = at2 m' 2 2 := h 2 2 (by omega) (by omega) (by omega) (by omega) (by omega)
  have e23 : at2 m 2 3 = at2 m' 2 3 := h 2 3 (by omega) (by omega) (by omega) (by omega) (by omega)
  have e24 : at2 m 2 4 = at2 m' 2 4 := h 2 4 (by omega) (by omega) (by omega) (by omega) (by omega)
  have e30 : at2 m 3 0 = at2 m' 3 0 := h 3 0 (by omega) (by omega) (by omega) (by omega) (by omega)
  have e32 : at2 m 3 2 = at2 m' 3 2 := h 3 2 (by omega) (by omega) (by omega) (by omega) (by omega)
  have e33 : at2 m 3 3 = at2 m' 3 3 := h 3 3 (by omega) (by omega) (by omega) (by omega) (by omega)
  have e34 : at2 m 3 4 = at2 m' 3 4 := h 3 4 (by omega) (by omega) (by omega) (by omega) (by omega)
  have e40 : at2 m 4 0 = at2 m' 4 0 := h 4 0 (by omega) (by omega) (by omega) (by omega) (by omega)
  have e42 : at2 m 4 2 = at2 m' 4 2 := h 4 2 (by omega) (by omega) (by omega) (by omega) (by omega)
  have e43 : at2 m 4 3 = at2 m' 4 3 := h 4 3 (by omega) (by omega) (by omega) (by omega) (by omega)
  have W0 := w5_1
  have W1 := w5_14
  have f0 : forD m 5 1 4 = detD m [0, 2, 3] [0, 2, 3] := by simp [forD, W1]
  have g0 : minI m 5 1 = detD m [0, 2, 3, 4] [0, 2, 3, 4] := by simp [minI, W0]
  have g1 : minI m' 5 1 = detD m' [0, 2, 3, 4] [0, 2, 3, 4] := by simp [minI, W0]
  rw [f0, g0, g1]
  clear h f0 g0 g1 W0 W1
  simp only [det4, det3]
  rw [e00]; clear e00; generalize at2 m' 0 0 = x00
  rw [e02]; clear e02; generalize at2 m' 0 2 = x02
  rw [e03]; clear e03; generalize at2 m' 0 3 = x03
  rw [e04]; clear e04; generalize at2 m' 0 4 = x04
  rw [e20]; clear e20; generalize at2 m' 2 0 = x20
  rw [e22]; clear e22; generalize at2 m' 2 2 = x22
  rw [e23]; clear e23; generalize at2 m' 2 3 = x23
  rw [e24]; clear e24; generalize at2 m' 2 4 = x24
  rw [e30]; clear e30; generalize at2 m' 3 0 = x30
  rw [e32]; clear e32; generalize at2 m' 3 2 = x32
  rw [e33]; clear e33; generalize at2 m' 3 3 = x33
  rw [e34]; clear e34; generalize at2 m' 3 4 = x34
  rw [e40]; clear e40; generalize at2 m' 4 0 = x40
  rw [e42]; clear e42; generalize at2 m' 4 2 = x42
  rw [e43]; clear e43; generalize at2 m' 4 3 = x43
  generalize at2 m 4 4 = y
  generalize at2 m' 4 4 = z
  grind
set_option maxHeartbeats 4000000 in
theorem entry5_23 (m m' : MatI) (h : ∀ i j : Nat, i < 5 → j < 5 → i ≠ 2 → j ≠ 2 → ¬ (i = 3 ∧ j = 3) → at2 m (i : Int) (j : Int) = at2 m' (i : Int) (j : Int)) : minI m 5 2 = minI m' 5 2 + (at2 m (3 : Int) (3 : Int) - at2 m' (3 : Int) (3 : Int)) * forD m 5 2 3 := by
  have e00 : at2 m 0 0 = at2 m' 0 0 := h 0 0 (by omega) (by omega) (by omega) (by omega) (by omega)
  have e01 : at2 m 0 1 = at2 m' 0 1 := h 0 1 (by omega) (by omega) (by omega) (by omega) (by omega)
  have e03 : at2 m 0 3 = at2 m' 0 3 := h 0 3 (by omega) (by omega) (by omega) (by omega) (by omega)
  have e04 : at2 m 0 4 = at2 m' 0 4 := h 0 4 (by omega) (by omega) (by omega) (by omega) (by omega)
  have e10 : at2 m 1 0 = at2 m' 1 0 := h 1 0 (by omega) (by omega) (by omega) (by omega) (by omega)
  have e11 : at2 m 1 1 = at2 m' 1 1 := h 1 1 (by omega) (by omega) (by omega) (by omega) (by omega)
  have e13 : at2 m 1 3 = at2 m' 1 3 := h 1 3 (by omega) (by omega) (by omega) (by omega) (by omega)
  have e14 : at2 m 1 4 = at2 m' 1 4 := h 1 4 (by omega) (by omega) (by omega) (by omega) (by omega)
  have e30 : at2 m 3 0 = at2 m' 3 0 := h 3 0 (by omega) (by omega) (by omega) (by omega) (by omega)
  have e31 : at2 m 3 1 = at2 m' 3 1 := h 3 1 (by omega) (by omega) (by omega) (by omega) (by omega)
  have e34 : at2 m 3 4 = at2 m' 3 4 := h 3 4 (by omega) (by omega) (by omega) (by omega) (by omega)
  have e40 : at2 m 4 0 = at2 m' 4 0 := h 4 0 (by omega) (by omega) (by omega) (by omega) (by omega)
  have e41 : at2 m 4 1 = at2 m' 4 1 := h 4 1 (by omega) (by omega) (by omega) (by omega) (by omega)
  have e43 : at2 m 4 3 = at2 m' 4 3 := h 4 3 (by omega) (by omega) (by omega) (by omega) (by omega)
  have e44 : at2 m 4 4 = at2 m' 4 4 := h 4 4 (by omega) (by omega) (by omega) (by omega) (by omega)
  have W0 := w5_2
  have W1 := w5_23
  have f0 : forD m 5 2 3 = detD m [0, 1, 4] [0, 1, 4] := by simp [forD, W1]
  have g0 : minI m 5 2 = detD m [0, 1, 3, 4] [0, 1, 3, 4] := by simp [minI, W0]
  have g1 : minI m' 5 2 = detD m' [0, 1, 3, 4] [0, 1, 3, 4] := by simp [minI, W0]
  rw [f0, g0, g1]
  clear h f0 g0 g1 W0 W1
  simp only [det4, det3]
  rw [e00]; clear e00; generalize at2 m' 0 0 = x00
  rw [e01]; clear e01; generalize at2 m' 0 1 = x01
  rw [e03]; clear e03; generalize at2 m' 0 3 = x03
  rw [e04]; clear e04; generalize at2 m' 0 4 = x04
  rw [e10]; clear e10; generalize at2 m' 1 0 = x10
  rw [e11]; clear e11; generalize at2 m' 1 1 = x11
  rw [e13]; clear e13; generalize at2 m' 1 3 = x13
  rw [e14]; clear e14; generalize at2 m' 1 4 = x14
  rw [e30]; clear e30; generalize at2 m' 3 0 = x30
  rw [e31]; clear e31; generalize at2 m' 3 1 = x31
  rw [e34]; clear e34; generalize at2 m' 3 4 = x34
  rw [e40]; clear e40; generalize at2 m' 4 0 = x40
  rw [e41]; clear e41; generalize at2 m' 4 1 = x41
  rw [e43]; clear e43; generalize at2 m' 4 3 = x43
  rw [e44]; clear e44; generalize at2 m' 4 4 = x44
  generalize at2 m 3 3 = y
  generalize at2 m' 3 3 = z
  grind
set_option maxHeartbeats 4000000 in
theorem entry5_24 (m m' : MatI) (h : ∀ i j : Nat, i < 5 → j < 5 → i ≠ 2 → j ≠ 2 → ¬ (i = 4 ∧ j = 4) → at2 m (i : Int) (j : Int) = at2 m' (i : Int) (j : Int)) : minI m 5 2 = minI m' 5 2 + (at2 m (4 : Int) (4 : Int) - at2 m' (4 : Int) (4 : Int)) * forD m 5 2 4 := by
  have e00 : at2 m 0 0 = at2 m' 0 0 := h 0 0 (by omega) (by omega) (by omega) (by omega) (by omega)
  have e01 : at2 m 0 1 = at2 m' 0 1 := h 0 1 (by omega) (by omega) (by omega) (by omega) (by omega)
  have e03 : at2 m 0 3 = at2 m' 0 3 := h 0 3 (by omega) (by omega) (by omega) (by omega) (by omega)
  have e04 : at2 m 0 4 = at2 m' 0 4 := h 0 4 (by omega) (by omega) (by omega) (by omega) (by omega)
  have e10 : at2 m 1 0 = at2 m' 1 0 := h 1 0 (by omega) (by omega) (by omega) (by omega) (by omega)
  have e11 : at2 m 1 1 = at2 m' 1 1 := h 1 1 (by omega) (by omega) (by omega) (by omega) (by omega)
  have e13 : at2 m 1 3 = at2 m' 1 3 := h 1 3 (by omega) (by omega) (by omega) (by omega) (by omega)
  have e14 : at2 m 1 4 = at2 m' 1 4 := h 1 4 (by omega) (by omega) (by omega) (by omega) (by omega)
  have e30 : at2 m 3 0 = at2 m' 3 0 := h 3 0 (by omega) (by omega) (by omega) (by omega) (by omega)
  have e31 : at2 m 3 1 = at2 m' 3 1 := h 3 1 (by omega) (by omega) (by omega) (by omega) (by omega)
  have e33 : at2 m 3 3 = at2 m' 3 3 := h 3 3 (by omega) (by omega) (by omega) (by omega) (by omega)
  have e34 : at2 m 3 4 = at2 m' 3 4 := h 3 4 (by omega) (by omega) (by omega) (by omega) (by omega)
  have e40 : at2 m 4 0 = at2 m' 4 0 := h 4 0 (by omega) (by omega) (by omega) (by omega) (by omega)
  have e41 : at2 m 4 1 = at2 m' 4 1 := h 4 1 (by omega) (by omega) (by omega) (by omega) (by omega)
  have e43 : at2 m 4 3 = at2 m' 4 3 := h 4 3 (by omega) (by omega) (by omega) (by omega) (by omega)
  have W0 := w5_2
  have W1 := w5_24
  have f0 : forD m 5 2 4 = detD m [0, 1, 3] [0, 1, 3] := by simp [forD, W1]
  have g0 : minI m 5 2 = detD m [0, 1, 3, 4] [0, 1, 3, 4] := by simp [minI, W0]
  have g1 : minI m' 5 2 = detD m' [0, 1, 3, 4] [0, 1, 3, 4] := by simp [minI, W0]
  rw [f0, g0, g1]
  clear h f0 g0 g1 W0 W1
  simp only [det4, det3]
  rw [e00]; clear e00; generalize at2 m' 0 0 = x00
  rw [e01]; clear e01; generalize at2 m' 0 1 = x01
  rw [e03]; clear e03; generalize at2 m' 0 3 = x03
  rw [e04]; clear e04; generalize at2 m' 0 4 = x04
  rw [e10]; clear e10; generalize at2 m' 1 0 = x10
  rw [e11]; clear e11; generalize at2 m' 1 1 = x11
  rw [e13]; clear e13; generalize at2 m' 1 3 = x13
  rw [e14]; clear e14; generalize at2 m' 1 4 = x14
  rw [e30]; clear e30; generalize at2 m' 3 0 = x30
  rw [e31]; clear e31; generalize at2 m' 3 1 = x31
  rw [e33]; clear e33; generalize at2 m' 3 3 = x33
  rw [e34]; clear e34; generalize at2 m' 3 4 = x34
  rw [e40]; clear e40; generalize at2 m' 4 0 = x40
  rw [e41]; clear e41; generalize at2 m' 4 1 = x41
  rw [e43]; clear e43; generalize at2 m' 4 3 = x43
  generalize at2 m 4 4 = y
  generalize at2 m' 4 4 = z
  grind
set_option maxHeartbeats 4000000 in
theorem entry5_34 (m m' : MatI) (h : ∀ i j : Nat, i < 5 → j < 5 → i ≠ 3 → j ≠ 3 → ¬ (i = 4 ∧ j = 4) → at2 m (i : Int) (j : Int) = at2 m' (i : Int) (j : Int)) : minI m 5 3 = minI m' 5 3 + (at2 m (4 : Int) (4 : Int) - at2 m' (4 : Int) (4 : Int)) * forD m 5 3 4 := by
  have e00 : at2 m 0 0 = at2 m' 0 0 := h 0 0 (by omega) (by omega) (by omega) (by omega) (by omega)
  have e01 : at2 m 0 1 = at2 m' 0 1 := h 0 1 (by omega) (by omega) (by omega) (by omega) (by omega)
  have e02 : at2 m 0 2 = at2 m' 0 2 := h 0 2 (by omega) (by omega) (by omega) (by omega) (by omega)
  have e04 : at2 m 0 4 = at2 m' 0 4 := h 0 4 (by omega) (by omega) (by omega) (by omega) (by omega)
  have e10 : at2 m 1 0 = at2 m' 1 0 := h 1 0 (by omega) (by omega) (by omega) (by omega) (by omega)
  have e11 : at2 m 1 1 = at2 m' 1 1 := h 1 1 (by omega) (by omega) (by omega) (by omega) (by omega)
  have e12 : at2 m 1 2 = at2 m' 1 2 := h 1 2 (by omega) (by omega) (by omega) (by omega) (by omega)
  have e14 : at2 m 1 4 = at2 m' 1 4 := h 1 4 (by omega) (by omega) (by omega) (by omega) (by omega)
  have e20 : at2 m 2 0 = at2 m' 2 0 := h 2 0 (by omega) (by omega) (by omega) (by omega) (by omega)
  have e21 : at2 m 2 1 = at2 m' 2 1 := h 2 1 (by omega) (by omega) (by omega) (by omega) (by omega)
  have e22 : at2 m 2 2 = at2 m' 2 2 := h 2 2 (by omega) (by omega) (by omega) (by omega) (by omega)
  have e24 : at2 m 2 4 = at2 m' 2 4 := h 2 4 (by omega) (by omega) (by omega) (by omega) (by omega)
  have e40 : at2 m 4 0 = at2 m' 4 0 := h 4 0 (by omega) (by omega) (by omega) (by omega) (by omega)
  have e41 : at2 m 4 1 = at2 m' 4 1 := h 4 1 (by omega) (by omega) (by omega) (by omega) (by omega)
  have e42 : at2 m 4 2 = at2 m' 4 2 := h 4 2 (by omega) (by omega) (by omega) (by omega) (by omega)
  have W0 := w5_3
  have W1 := w5_34
  have f0 : forD m 5 3 4 = detD m [0, 1, 2] [0, 1, 2] := by simp [forD, W1]
  have g0 : minI m 5 3 = detD m [0, 1, 2, 4] [0, 1, 2, 4] := by simp [minI, W0]
  have g1 : minI m' 5 3 = detD m' [0, 1, 2, 4] [0, 1, 2, 4] := by simp [minI, W0]
  rw [f0, g0, g1]
  clear h f0 g0 g1 W0 W1
  simp only [det4, det3]
  rw [e00]; clear e00; generalize at2 m' 0 0 = x00
  rw [e01]; clear e01; generalize at2 m' 0 1 = x01
  rw [e02]; clear e02; generalize at2 m' 0 2 = x02
  rw [e04]; clear e04; generalize at2 m' 0 4 = x04
  rw [e10]; clear e10; generalize at2 m' 1 0 = x10
  rw [e11]; clear e11; generalize at2 m' 1 1 = x11
  rw [e12]; clear e12; generalize at2 m' 1 2 = x12
  rw [e14]; clear e14; generalize at2 m' 1 4 = x14
  rw [e20]; clear e20; generalize at2 m' 2 0 = x20
  rw [e21]; clear e21; generalize at2 m' 2 1 = x21
  rw [e22]; clear e22; generalize at2 m' 2 2 = x22
  rw [e24]; clear e24; generalize at2 m' 2 4 = x24
  rw [e40]; clear e40; generalize at2 m' 4 0 = x40
  rw [e41]; clear e41; generalize at2 m' 4 1 = x41
  rw [e42]; clear e42; generalize at2 m' 4 2 = x42
  generalize at2 m 4 4 = y
  generalize at2 m' 4 4 = z
  grind
/-- One entry of the diagonal less. -/
theorem minor_entry {N A B : Nat} (h5 : N ≤ 5) (hAB : A < B) (hB : B < N) (m m' : MatI) (h : ∀ i j : Nat, i < N → j < N → i ≠ A → j ≠ A → ¬ (i = B ∧ j = B) → at2 m (i : Int) (j : Int) = at2 m' (i : Int) (j : Int)) : minI m N A = minI m' N A + (at2 m (B : Int) (B : Int) - at2 m' (B : Int) (B : Int)) * forD m N A B := by
  have hN : N = 2 ∨ N = 3 ∨ N = 4 ∨ N = 5 := by omega
  rcases hN with rfl | rfl | rfl | rfl
  · have hp : (A = 0 ∧ B = 1) := by omega
    obtain ⟨rfl, rfl⟩ := hp
    exact entry2_01 m m' h
  · have hp : (A = 0 ∧ B = 1) ∨ (A = 0 ∧ B = 2) ∨ (A = 1 ∧ B = 2) := by omega
    rcases hp with ⟨rfl, rfl⟩ | ⟨rfl, rfl⟩ | ⟨rfl, rfl⟩
    · exact entry3_01 m m' h
    · exact entry3_02 m m' h
    · exact entry3_12 m m' h
  · have hp : (A = 0 ∧ B = 1) ∨ (A = 0 ∧ B = 2) ∨ (A = 0 ∧ B = 3) ∨ (A = 1 ∧ B = 2) ∨ (A = 1 ∧ B = 3) ∨ (A = 2 ∧ B = 3) := by omega
    rcases hp with ⟨rfl, rfl⟩ | ⟨rfl, rfl⟩ | ⟨rfl, rfl⟩ | ⟨rfl, rfl⟩ | ⟨rfl, rfl⟩ | ⟨rfl, rfl⟩
    · exact entry4_01 m m' h
    · exact entry4_02 m m' h
    · exact entry4_03 m m' h
    · exact entry4_12 m m' h
    · exact entry4_13 m m' h
    · exact entry4_23 m m' h
  · have hp : (A = 0 ∧ B = 1) ∨ (A = 0 ∧ B = 2) ∨ (A = 0 ∧ B = 3) ∨ (A = 0 ∧ B = 4) ∨ (A = 1 ∧ B = 2) ∨ (A = 1 ∧ B = 3) ∨ (A = 1 ∧ B = 4) ∨ (A = 2 ∧ B = 3) ∨ (A = 2 ∧ B = 4) ∨ (A = 3 ∧ B = 4) := by omega
    rcases hp with ⟨rfl, rfl⟩ | ⟨rfl, rfl⟩ | ⟨rfl, rfl⟩ | ⟨rfl, rfl⟩ | ⟨rfl, rfl⟩ | ⟨rfl, rfl⟩ | ⟨rfl, rfl⟩ | ⟨rfl, rfl⟩ | ⟨rfl, rfl⟩ | ⟨rfl, rfl⟩
    · exact entry5_01 m m' h
    · exact entry5_02 m m' h
    · exact entry5_03 m m' h
    · exact entry5_04 m m' h
    · exact entry5_12 m m' h
    · exact entry5_13 m m' h
    · exact entry5_14 m m' h
    · exact entry5_23 m m' h
    · exact entry5_24 m m' h
    · exact entry5_34 m m' h
set_option maxHeartbeats 8000000 in
open Classical in
theorem apart2 {ws : List W3} (h0 : WiresV (2 : Nat) ws) (S : Nat → Prop) (hS0 : ¬ S 0) (hz : ∀ i j : Nat, i < 2 → j < 2 → S i → ¬ S j → wBtw ws (i : Int) (j : Int) = 0) (v : Nat) (hv : v < 2) (hS : S v) : minI (lapM 2 ws) 2 0 = 0 := by
  have d1 : at2 (lapM 2 ws) 1 1 = wBtw ws 0 1 := by
    have h := at2_lap (N := 2) ws (i := 1) (j := 1) (by omega) (by omega)
    rw [lapE, if_pos rfl, wAt_sum h0 (by omega) 1 (by omega)] at h
    have h' : at2 (lapM 2 ws) 1 1 = _ := h
    rw [h']
    simp [sumN, wBtw_self, wBtw_comm ws 1 0]
  have W0 := w2_0
  have g0 : minI (lapM 2 ws) 2 0 = detD (lapM 2 ws) [1] [1] := by simp [minI, W0]
  rw [g0]
  simp only [det1]
  have z01 : (S 0 ∧ ¬ S 1) ∨ (S 1 ∧ ¬ S 0) → wBtw ws 0 1 = 0 := fun h => by rcases h with h | h; exact hz 0 1 (by omega) (by omega) h.1 h.2; rw [wBtw_comm]; exact hz 1 0 (by omega) (by omega) h.1 h.2
  rw [d1]
  have hex : S 1 := by
    have hv0 : v ≠ 0 := fun h => hS0 (h ▸ hS)
    have hc : v = 1 := by omega
    subst hc; exact hS
  clear d1 hz h0 g0 W0 hv hS
  generalize wBtw ws 0 1 = x01 at *
  generalize S 0 = s0 at *
  generalize S 1 = s1 at *
  by_cases c1 : s1
  · skip
    have y01 := z01 (Or.inr ⟨c1, hS0⟩)
    subst y01
    clear hex hS0 c1 z01
    first | grind | (simp only [Int.zero_add, Int.add_zero, Int.neg_zero, Int.zero_mul, Int.mul_zero, Int.sub_zero, Int.zero_sub]; done) | (simp only [Int.zero_add, Int.add_zero, Int.neg_zero, Int.zero_mul, Int.mul_zero, Int.sub_zero, Int.zero_sub]; grind)
  · skip
    exfalso; exact c1 hex
set_option maxHeartbeats 8000000 in
open Classical in
theorem apart3 {ws : List W3} (h0 : WiresV (3 : Nat) ws) (S : Nat → Prop) (hS0 : ¬ S 0) (hz : ∀ i j : Nat, i < 3 → j < 3 → S i → ¬ S j → wBtw ws (i : Int) (j : Int) = 0) (v : Nat) (hv : v < 3) (hS : S v) : minI (lapM 3 ws) 3 0 = 0 := by
  have e12 : at2 (lapM 3 ws) 1 2 = -wBtw ws 1 2 := by have h := at2_lap (N := 3) ws (i := 1) (j := 2) (by omega) (by omega); rw [lapE, if_neg (by omega)] at h; exact h
  have e21 : at2 (lapM 3 ws) 2 1 = -wBtw ws 1 2 := by have h := at2_lap (N := 3) ws (i := 2) (j := 1) (by omega) (by omega); rw [lapE, if_neg (by omega), wBtw_comm] at h; exact h
  have d1 : at2 (lapM 3 ws) 1 1 = wBtw ws 0 1 + wBtw ws 1 2 := by
    have h := at2_lap (N := 3) ws (i := 1) (j := 1) (by omega) (by omega)
    rw [lapE, if_pos rfl, wAt_sum h0 (by omega) 1 (by omega)] at h
    have h' : at2 (lapM 3 ws) 1 1 = _ := h
    rw [h']
    simp [sumN, wBtw_self, wBtw_comm ws 1 0]
  have d2 : at2 (lapM 3 ws) 2 2 = wBtw ws 0 2 + wBtw ws 1 2 := by
    have h := at2_lap (N := 3) ws (i := 2) (j := 2) (by omega) (by omega)
    rw [lapE, if_pos rfl, wAt_sum h0 (by omega) 2 (by omega)] at h
    have h' : at2 (lapM 3 ws) 2 2 = _ := h
    rw [h']
    simp [sumN, wBtw_self, wBtw_comm ws 2 0, wBtw_comm ws 2 1]
  have W0 := w3_0
  have g0 : minI (lapM 3 ws) 3 0 = detD (lapM 3 ws) [1, 2] [1, 2] := by simp [minI, W0]
  rw [g0]
  simp only [det2]
  have z01 : (S 0 ∧ ¬ S 1) ∨ (S 1 ∧ ¬ S 0) → wBtw ws 0 1 = 0 := fun h => by rcases h with h | h; exact hz 0 1 (by omega) (by omega) h.1 h.2; rw [wBtw_comm]; exact hz 1 0 (by omega) (by omega) h.1 h.2
  have z02 : (S 0 ∧ ¬ S 2) ∨ (S 2 ∧ ¬ S 0) → wBtw ws 0 2 = 0 := fun h => by rcases h with h | h; exact hz 0 2 (by omega) (by omega) h.1 h.2; rw [wBtw_comm]; exact hz 2 0 (by omega) (by omega) h.1 h.2
  have z12 : (S 1 ∧ ¬ S 2) ∨ (S 2 ∧ ¬ S 1) → wBtw ws 1 2 = 0 := fun h => by rcases h with h | h; exact hz 1 2 (by omega) (by omega) h.1 h.2; rw [wBtw_comm]; exact hz 2 1 (by omega) (by omega) h.1 h.2
  rw [e12, e21, d1, d2]
  have hex : S 1 ∨ S 2 := by
    have hv0 : v ≠ 0 := fun h => hS0 (h ▸ hS)
    have hc : v = 1 ∨ v = 2 := by omega
    rcases hc with rfl | rfl
    · exact Or.inl hS
    · exact Or.inr (hS)
  clear e12 e21 d1 d2 hz h0 g0 W0 hv hS
  generalize wBtw ws 0 1 = x01 at *
  generalize wBtw ws 0 2 = x02 at *
  generalize wBtw ws 1 2 = x12 at *
  generalize S 0 = s0 at *
  generalize S 1 = s1 at *
  generalize S 2 = s2 at *
  by_cases c1 : s1
  · skip
    by_cases c2 : s2
    · skip
      have y01 := z01 (Or.inr ⟨c1, hS0⟩)
      have y02 := z02 (Or.inr ⟨c2, hS0⟩)
      subst y01 y02
      clear hex hS0 c1 c2 z01 z02 z12
      first | grind | (simp only [Int.zero_add, Int.add_zero, Int.neg_zero, Int.zero_mul, Int.mul_zero, Int.sub_zero, Int.zero_sub]; done) | (simp only [Int.zero_add, Int.add_zero, Int.neg_zero, Int.zero_mul, Int.mul_zero, Int.sub_zero, Int.zero_sub]; grind)
    · skip
      have y01 := z01 (Or.inr ⟨c1, hS0⟩)
      have y12 := z12 (Or.inl ⟨c1, c2⟩)
      subst y01 y12
      clear hex hS0 c1 c2 z01 z02 z12
      first | grind | (simp only [Int.zero_add, Int.add_zero, Int.neg_zero, Int.zero_mul, Int.mul_zero, Int.sub_zero, Int.zero_sub]; done) | (simp only [Int.zero_add, Int.add_zero, Int.neg_zero, Int.zero_mul, Int.mul_zero, Int.sub_zero, Int.zero_sub]; grind)
  · skip
    by_cases c2 : s2
    · skip
      have y02 := z02 (Or.inr ⟨c2, hS0⟩)
      have y12 := z12 (Or.inr ⟨c2, c1⟩)
      subst y02 y12
      clear hex hS0 c1 c2 z01 z02 z12
      first | grind | (simp only [Int.zero_add, Int.add_zero, Int.neg_zero, Int.zero_mul, Int.mul_zero, Int.sub_zero, Int.zero_sub]; done) | (simp only [Int.zero_add, Int.add_zero, Int.neg_zero, Int.zero_mul, Int.mul_zero, Int.sub_zero, Int.zero_sub]; grind)
    · skip
      exfalso; rcases hex with h | h <;> contradiction
set_option maxHeartbeats 8000000 in
open Classical in
theorem apart4 {ws : List W3} (h0 : WiresV (4 : Nat) ws) (S : Nat → Prop) (hS0 : ¬ S 0) (hz : ∀ i j : Nat, i < 4 → j < 4 → S i → ¬ S j → wBtw ws (i : Int) (j : Int) = 0) (v : Nat) (hv : v < 4) (hS : S v) : minI (lapM 4 ws) 4 0 = 0 := by
  have e12 : at2 (lapM 4 ws) 1 2 = -wBtw ws 1 2 := by have h := at2_lap (N := 4) ws (i := 1) (j := 2) (by omega) (by omega); rw [lapE, if_neg (by omega)] at h; exact h
  have e13 : at2 (lapM 4 ws) 1 3 = -wBtw ws 1 3 := by have h := at2_lap (N := 4) ws (i := 1) (j := 3) (by omega) (by omega); rw [lapE, if_neg (by omega)] at h; exact h
  have e21 : at2 (lapM 4 ws) 2 1 = -wBtw ws 1 2 := by have h := at2_lap (N := 4) ws (i := 2) (j := 1) (by omega) (by omega); rw [lapE, if_neg (by omega), wBtw_comm] at h; exact h
  have e23 : at2 (lapM 4 ws) 2 3 = -wBtw ws 2 3 := by have h := at2_lap (N := 4) ws (i := 2) (j := 3) (by omega) (by omega); rw [lapE, if_neg (by omega)] at h; exact h
  have e31 : at2 (lapM 4 ws) 3 1 = -wBtw ws 1 3 := by have h := at2_lap (N := 4) ws (i := 3) (j := 1) (by omega) (by omega); rw [lapE, if_neg (by omega), wBtw_comm] at h; exact h
  have e32 : at2 (lapM 4 ws) 3 2 = -wBtw ws 2 3 := by have h := at2_lap (N := 4) ws (i := 3) (j := 2) (by omega) (by omega); rw [lapE, if_neg (by omega), wBtw_comm] at h; exact h
  have d1 : at2 (lapM 4 ws) 1 1 = wBtw ws 0 1 + wBtw ws 1 2 + wBtw ws 1 3 := by
    have h := at2_lap (N := 4) ws (i := 1) (j := 1) (by omega) (by omega)
    rw [lapE, if_pos rfl, wAt_sum h0 (by omega) 1 (by omega)] at h
    have h' : at2 (lapM 4 ws) 1 1 = _ := h
    rw [h']
    simp [sumN, wBtw_self, wBtw_comm ws 1 0]
  have d2 : at2 (lapM 4 ws) 2 2 = wBtw ws 0 2 + wBtw ws 1 2 + wBtw ws 2 3 := by
    have h := at2_lap (N := 4) ws (i := 2) (j := 2) (by omega) (by omega)
    rw [lapE, if_pos rfl, wAt_sum h0 (by omega) 2 (by omega)] at h
    have h' : at2 (lapM 4 ws) 2 2 = _ := h
    rw [h']
    simp [sumN, wBtw_self, wBtw_comm ws 2 0, wBtw_comm ws 2 1]
  have d3 : at2 (lapM 4 ws) 3 3 = wBtw ws 0 3 + wBtw ws 1 3 + wBtw ws 2 3 := by
    have h := at2_lap (N := 4) ws (i := 3) (j := 3) (by omega) (by omega)
    rw [lapE, if_pos rfl, wAt_sum h0 (by omega) 3 (by omega)] at h
    have h' : at2 (lapM 4 ws) 3 3 = _ := h
    rw [h']
    simp [sumN, wBtw_self, wBtw_comm ws 3 0, wBtw_comm ws 3 1, wBtw_comm ws 3 2]
  have W0 := w4_0
  have g0 : minI (lapM 4 ws) 4 0 = detD (lapM 4 ws) [1, 2, 3] [1, 2, 3] := by simp [minI, W0]
  rw [g0]
  simp only [det3]
  have z01 : (S 0 ∧ ¬ S 1) ∨ (S 1 ∧ ¬ S 0) → wBtw ws 0 1 = 0 := fun h => by rcases h with h | h; exact hz 0 1 (by omega) (by omega) h.1 h.2; rw [wBtw_comm]; exact hz 1 0 (by omega) (by omega) h.1 h.2
  have z02 : (S 0 ∧ ¬ S 2) ∨ (S 2 ∧ ¬ S 0) → wBtw ws 0 2 = 0 := fun h => by rcases h with h | h; exact hz 0 2 (by omega) (by omega) h.1 h.2; rw [wBtw_comm]; exact hz 2 0 (by omega) (by omega) h.1 h.2
  have z03 : (S 0 ∧ ¬ S 3) ∨ (S 3 ∧ ¬ S 0) → wBtw ws 0 3 = 0 := fun h => by rcases h with h | h; exact hz 0 3 (by omega) (by omega) h.1 h.2; rw [wBtw_comm]; exact hz 3 0 (by omega) (by omega) h.1 h.2
  have z12 : (S 1 ∧ ¬ S 2) ∨ (S 2 ∧ ¬ S 1) → wBtw ws 1 2 = 0 := fun h => by rcases h with h | h; exact hz 1 2 (by omega) (by omega) h.1 h.2; rw [wBtw_comm]; exact hz 2 1 (by omega) (by omega) h.1 h.2
  have z13 : (S 1 ∧ ¬ S 3) ∨ (S 3 ∧ ¬ S 1) → wBtw ws 1 3 = 0 := fun h => by rcases h with h | h; exact hz 1 3 (by omega) (by omega) h.1 h.2; rw [wBtw_comm]; exact hz 3 1 (by omega) (by omega) h.1 h.2
  have z23 : (S 2 ∧ ¬ S 3) ∨ (S 3 ∧ ¬ S 2) → wBtw ws 2 3 = 0 := fun h => by rcases h with h | h; exact hz 2 3 (by omega) (by omega) h.1 h.2; rw [wBtw_comm]; exact hz 3 2 (by omega) (by omega) h.1 h.2
  rw [e12, e13, e21, e23, e31, e32, d1, d2, d3]
  have hex : S 1 ∨ S 2 ∨ S 3 := by
    have hv0 : v ≠ 0 := fun h => hS0 (h ▸ hS)
    have hc : v = 1 ∨ v = 2 ∨ v = 3 := by omega
    rcases hc with rfl | rfl | rfl
    · exact Or.inl hS
    · exact Or.inr (Or.inl hS)
    · exact Or.inr (Or.inr (hS))
  clear e12 e13 e21 e23 e31 e32 d1 d2 d3 hz h0 g0 W0 hv hS
  generalize wBtw ws 0 1 = x01 at *
  generalize wBtw ws 0 2 = x02 at *
  generalize wBtw ws 0 3 = x03 at *
  generalize wBtw ws 1 2 = x12 at *
  generalize wBtw ws 1 3 = x13 at *
  generalize wBtw ws 2 3 = x23 at *
  generalize S 0 = s0 at *
  generalize S 1 = s1 at *
  generalize S 2 = s2 at *
  generalize S 3 = s3 at *
  by_cases c1 : s1
  · skip
    by_cases c2 : s2
    · skip
      by_cases c3 : s3
      · skip
        have y01 := z01 (Or.inr ⟨c1, hS0⟩)
        have y02 := z02 (Or.inr ⟨c2, hS0⟩)
        have y03 := z03 (Or.inr ⟨c3, hS0⟩)
        subst y01 y02 y03
        clear hex hS0 c1 c2 c3 z01 z02 z03 z12 z13 z23
        first | grind | (simp only [Int.zero_add, Int.add_zero, Int.neg_zero, Int.zero_mul, Int.mul_zero, Int.sub_zero, Int.zero_sub]; done) | (simp only [Int.zero_add, Int.add_zero, Int.neg_zero, Int.zero_mul, Int.mul_zero, Int.sub_zero, Int.zero_sub]; grind)
      · skip
        have y01 := z01 (Or.inr ⟨c1, hS0⟩)
        have y02 := z02 (Or.inr ⟨c2, hS0⟩)
        have y13 := z13 (Or.inl ⟨c1, c3⟩)
        have y23 := z23 (Or.inl ⟨c2, c3⟩)
        subst y01 y02 y13 y23
        clear hex hS0 c1 c2 c3 z01 z02 z03 z12 z13 z23
        first | grind | (simp only [Int.zero_add, Int.add_zero, Int.neg_zero, Int.zero_mul, Int.mul_zero, Int.sub_zero, Int.zero_sub]; done) | (simp only [Int.zero_add, Int.add_zero, Int.neg_zero, Int.zero_mul, Int.mul_zero, Int.sub_zero, Int.zero_sub]; grind)
    · skip
      by_cases c3 : s3
      · skip
        have y01 := z01 (Or.inr ⟨c1, hS0⟩)
        have y03 := z03 (Or.inr ⟨c3, hS0⟩)
        have y12 := z12 (Or.inl ⟨c1, c2⟩)
        have y23 := z23 (Or.inr ⟨c3, c2⟩)
        subst y01 y03 y12 y23
        clear hex hS0 c1 c2 c3 z01 z02 z03 z12 z13 z23
        first | grind | (simp only [Int.zero_add, Int.add_zero, Int.neg_zero, Int.zero_mul, Int.mul_zero, Int.sub_zero, Int.zero_sub]; done) | (simp only [Int.zero_add, Int.add_zero, Int.neg_zero, Int.zero_mul, Int.mul_zero, Int.sub_zero, Int.zero_sub]; grind)
      · skip
        have y01 := z01 (Or.inr ⟨c1, hS0⟩)
        have y12 := z12 (Or.inl ⟨c1, c2⟩)
        have y13 := z13 (Or.inl ⟨c1, c3⟩)
        subst y01 y12 y13
        clear hex hS0 c1 c2 c3 z01 z02 z03 z12 z13 z23
        first | grind | (simp only [Int.zero_add, Int.add_zero, Int.neg_zero, Int.zero_mul, Int.mul_zero, Int.sub_zero, Int.zero_sub]; done) | (simp only [Int.zero_add, Int.add_zero, Int.neg_zero, Int.zero_mul, Int.mul_zero, Int.sub_zero, Int.zero_sub]; grind)
  · skip
    by_cases c2 : s2
    · skip
      by_cases c3 : s3
      · skip
        have y02 := z02 (Or.inr ⟨c2, hS0⟩)
        have y03 := z03 (Or.inr ⟨c3, hS0⟩)
        have y12 := z12 (Or.inr ⟨c2, c1⟩)
        have y13 := z13 (Or.inr ⟨c3, c1⟩)
        subst y02 y03 y12 y13
        clear hex hS0 c1 c2 c3 z01 z02 z03 z12 z13 z23
        first | grind | (simp only [Int.zero_add, Int.add_zero, Int.neg_zero, Int.zero_mul, Int.mul_zero, Int.sub_zero, Int.zero_sub]; done) | (simp only [Int.zero_add, Int.add_zero, Int.neg_zero, Int.zero_mul, Int.mul_zero, Int.sub_zero, Int.zero_sub]; grind)
      · skip
        have y02 := z02 (Or.inr ⟨c2, hS0⟩)
        have y12 := z12 (Or.inr ⟨c2, c1⟩)
        have y23 := z23 (Or.inl ⟨c2, c3⟩)
        subst y02 y12 y23
        clear hex hS0 c1 c2 c3 z01 z02 z03 z12 z13 z23
        first | grind | (simp only [Int.zero_add, Int.add_zero, Int.neg_zero, Int.zero_mul, Int.mul_zero, Int.sub_zero, Int.zero_sub]; done) | (simp only [Int.zero_add, Int.add_zero, Int.neg_zero, Int.zero_mul, Int.mul_zero, Int.sub_zero, Int.zero_sub]; grind)
    · skip
      by_cases c3 : s3
      · skip
        have y03 := z03 (Or.inr ⟨c3, hS0⟩)
        have y13 := z13 (Or.inr ⟨c3, c1⟩)
        have y23 := z23 (Or.inr ⟨c3, c2⟩)
        subst y03 y13 y23
        clear hex hS0 c1 c2 c3 z01 z02 z03 z12 z13 z23
        first | grind | (simp only [Int.zero_add, Int.add_zero, Int.neg_zero, Int.zero_mul, Int.mul_zero, Int.sub_zero, Int.zero_sub]; done) | (simp only [Int.zero_add, Int.add_zero, Int.neg_zero, Int.zero_mul, Int.mul_zero, Int.sub_zero, Int.zero_sub]; grind)
      · skip
        exfalso; rcases hex with h | h | h <;> contradiction
set_option maxHeartbeats 8000000 in
open Classical in
theorem apart5 {ws : List W3} (h0 : WiresV (5 : Nat) ws) (S : Nat → Prop) (hS0 : ¬ S 0) (hz : ∀ i j : Nat, i < 5 → j < 5 → S i → ¬ S j → wBtw ws (i : Int) (j : Int) = 0) (v : Nat) (hv : v < 5) (hS : S v) : minI (lapM 5 ws) 5 0 = 0 := by
  have e12 : at2 (lapM 5 ws) 1 2 = -wBtw ws 1 2 := by have h := at2_lap (N := 5) ws (i := 1) (j := 2) (by omega) (by omega); rw [lapE, if_neg (by omega)] at h; exact h
  have e13 : at2 (lapM 5 ws) 1 3 = -wBtw ws 1 3 := by have h := at2_lap (N := 5) ws (i := 1) (j := 3) (by omega) (by omega); rw [lapE, if_neg (by omega)] at h; exact h
  have e14 : at2 (lapM 5 ws) 1 4 = -wBtw ws 1 4 := by have h := at2_lap (N := 5) ws (i := 1) (j := 4) (by omega) (by omega); rw [lapE, if_neg (by omega)] at h; exact h
  have e21 : at2 (lapM 5 ws) 2 1 = -wBtw ws 1 2 := by have h := at2_lap (N := 5) ws (i := 2) (j := 1) (by omega) (by omega); rw [lapE, if_neg (by omega), wBtw_comm] at h; exact h
  have e23 : at2 (lapM 5 ws) 2 3 = -wBtw ws 2 3 := by have h := at2_lap (N := 5) ws (i := 2) (j := 3) (by omega) (by omega); rw [lapE, if_neg (by omega)] at h; exact h
  have e24 : at2 (lapM 5 ws) 2 4 = -wBtw ws 2 4 := by have h := at2_lap (N := 5) ws (i := 2) (j := 4) (by omega) (by omega); rw [lapE, if_neg (by omega)] at h; exact h
  have e31 : at2 (lapM 5 ws) 3 1 = -wBtw ws 1 3 := by have h := at2_lap (N := 5) ws (i := 3) (j := 1) (by omega) (by omega); rw [lapE, if_neg (by omega), wBtw_comm] at h; exact h
  have e32 : at2 (lapM 5 ws) 3 2 = -wBtw ws 2 3 := by have h := at2_lap (N := 5) ws (i := 3) (j := 2) (by omega) (by omega); rw [lapE, if_neg (by omega), wBtw_comm] at h; exact h
  have e34 : at2 (lapM 5 ws) 3 4 = -wBtw ws 3 4 := by have h := at2_lap (N := 5) ws (i := 3) (j := 4) (by omega) (by omega); rw [lapE, if_neg (by omega)] at h; exact h
  have e41 : at2 (lapM 5 ws) 4 1 = -wBtw ws 1 4 := by have h := at2_lap (N := 5) ws (i := 4) (j := 1) (by omega) (by omega); rw [lapE, if_neg (by omega), wBtw_comm] at h; exact h
  have e42 : at2 (lapM 5 ws) 4 2 = -wBtw ws 2 4 := by have h := at2_lap (N := 5) ws (i := 4) (j := 2) (by omega) (by omega); rw [lapE, if_neg (by omega), wBtw_comm] at h; exact h
  have e43 : at2 (lapM 5 ws) 4 3 = -wBtw ws 3 4 := by have h := at2_lap (N := 5) ws (i := 4) (j := 3) (by omega) (by omega); rw [lapE, if_neg (by omega), wBtw_comm] at h; exact h
  have d1 : at2 (lapM 5 ws) 1 1 = wBtw ws 0 1 + wBtw ws 1 2 + wBtw ws 1 3 + wBtw ws 1 4 := by
    have h := at2_lap (N := 5) ws (i := 1) (j := 1) (by omega) (by omega)
    rw [lapE, if_pos rfl, wAt_sum h0 (by omega) 1 (by omega)] at h
    have h' : at2 (lapM 5 ws) 1 1 = _ := h
    rw [h']
    simp [sumN, wBtw_self, wBtw_comm ws 1 0]
  have d2 : at2 (lapM 5 ws) 2 2 = wBtw ws 0 2 + wBtw ws 1 2 + wBtw ws 2 3 + wBtw ws 2 4 := by
    have h := at2_lap (N := 5) ws (i := 2) (j := 2) (by omega) (by omega)
    rw [lapE, if_pos rfl, wAt_sum h0 (by omega) 2 (by omega)] at h
    have h' : at2 (lapM 5 ws) 2 2 = _ := h
    rw [h']
    simp [sumN, wBtw_self, wBtw_comm ws 2 0, wBtw_comm ws 2 1]
  have d3 : at2 (lapM 5 ws) 3 3 = wBtw ws 0 3 + wBtw ws 1 3 + wBtw ws 2 3 + wBtw ws 3 4 := by
    have h := at2_lap (N := 5) ws (i := 3) (j := 3) (by omega) (by omega)
    rw [lapE, if_pos rfl, wAt_sum h0 (by omega) 3 (by omega)] at h
    have h' : at2 (lapM 5 ws) 3 3 = _ := h
    rw [h']
    simp [sumN, wBtw_self, wBtw_comm ws 3 0, wBtw_comm ws 3 1, wBtw_comm ws 3 2]
  have d4 : at2 (lapM 5 ws) 4 4 = wBtw ws 0 4 + wBtw ws 1 4 + wBtw ws 2 4 + wBtw ws 3 4 := by
    have h := at2_lap (N := 5) ws (i := 4) (j := 4) (by omega) (by omega)
    rw [lapE, if_pos rfl, wAt_sum h0 (by omega) 4 (by omega)] at h
    have h' : at2 (lapM 5 ws) 4 4 = _ := h
    rw [h']
    simp [sumN, wBtw_self, wBtw_comm ws 4 0, wBtw_comm ws 4 1, wBtw_comm ws 4 2, wBtw_comm ws 4 3]
  have W0 := w5_0
  have g0 : minI (lapM 5 ws) 5 0 = detD (lapM 5 ws) [1, 2, 3, 4] [1, 2, 3, 4] := by simp [minI, W0]
  rw [g0]
  simp only [det4, det3]
  have z01 : (S 0 ∧ ¬ S 1) ∨ (S 1 ∧ ¬ S 0) → wBtw ws 0 1 = 0 := fun h => by rcases h with h | h; exact hz 0 1 (by omega) (by omega) h.1 h.2; rw [wBtw_comm]; exact hz 1 0 (by omega) (by omega) h.1 h.2
  have z02 : (S 0 ∧ ¬ S 2) ∨ (S 2 ∧ ¬ S 0) → wBtw ws 0 2 = 0 := fun h => by rcases h with h | h; exact hz 0 2 (by omega) (by omega) h.1 h.2; rw [wBtw_comm]; exact hz 2 0 (by omega) (by omega) h.1 h.2
  have z03 : (S 0 ∧ ¬ S 3) ∨ (S 3 ∧ ¬ S 0) → wBtw ws 0 3 = 0 := fun h => by rcases h with h | h; exact hz 0 3 (by omega) (by omega) h.1 h.2; rw [wBtw_comm]; exact hz 3 0 (by omega) (by omega) h.1 h.2
  have z04 : (S 0 ∧ ¬ S 4) ∨ (S 4 ∧ ¬ S 0) → wBtw ws 0 4 = 0 := fun h => by rcases h with h | h; exact hz 0 4 (by omega) (by omega) h.1 h.2; rw [wBtw_comm]; exact hz 4 0 (by omega) (by omega) h.1 h.2
  have z12 : (S 1 ∧ ¬ S 2) ∨ (S 2 ∧ ¬ S 1) → wBtw ws 1 2 = 0 := fun h => by rcases h with h | h; exact hz 1 2 (by omega) (by omega) h.1 h.2; rw [wBtw_comm]; exact hz 2 1 (by omega) (by omega) h.1 h.2
  have z13 : (S 1 ∧ ¬ S 3) ∨ (S 3 ∧ ¬ S 1) → wBtw ws 1 3 = 0 := fun h => by rcases h with h | h; exact hz 1 3 (by omega) (by omega) h.1 h.2; rw [wBtw_comm]; exact hz 3 1 (by omega) (by omega) h.1 h.2
  have z14 : (S 1 ∧ ¬ S 4) ∨ (S 4 ∧ ¬ S 1) → wBtw ws 1 4 = 0 := fun h => by rcases h with h | h; exact hz 1 4 (by omega) (by omega) h.1 h.2; rw [wBtw_comm]; exact hz 4 1 (by omega) (by omega) h.1 h.2
  have z23 : (S 2 ∧ ¬ S 3) ∨ (S 3 ∧ ¬ S 2) → wBtw ws 2 3 = 0 := fun h => by rcases h with h | h; exact hz 2 3 (by omega) (by omega) h.1 h.2; rw [wBtw_comm]; exact hz 3 2 (by omega) (by omega) h.1 h.2
  have z24 : (S 2 ∧ ¬ S 4) ∨ (S 4 ∧ ¬ S 2) → wBtw ws 2 4 = 0 := fun h => by rcases h with h | h; exact hz 2 4 (by omega) (by omega) h.1 h.2; rw [wBtw_comm]; exact hz 4 2 (by omega) (by omega) h.1 h.2
  have z34 : (S 3 ∧ ¬ S 4) ∨ (S 4 ∧ ¬ S 3) → wBtw ws 3 4 = 0 := fun h => by rcases h with h | h; exact hz 3 4 (by omega) (by omega) h.1 h.2; rw [wBtw_comm]; exact hz 4 3 (by omega) (by omega) h.1 h.2
  rw [e12, e13, e14, e21, e23, e24, e31, e32, e34, e41, e42, e43, d1, d2, d3, d4]
  have hex : S 1 ∨ S 2 ∨ S 3 ∨ S 4 := by
    have hv0 : v ≠ 0 := fun h => hS0 (h ▸ hS)
    have hc : v = 1 ∨ v = 2 ∨ v = 3 ∨ v = 4 := by omega
    rcases hc with rfl | rfl | rfl | rfl
    · exact Or.inl hS
    · exact Or.inr (Or.inl hS)
    · exact Or.inr (Or.inr (Or.inl hS))
    · exact Or.inr (Or.inr (Or.inr (hS)))
  clear e12 e13 e14 e21 e23 e24 e31 e32 e34 e41 e42 e43 d1 d2 d3 d4 hz h0 g0 W0 hv hS
  generalize wBtw ws 0 1 = x01 at *
  generalize wBtw ws 0 2 = x02 at *
  generalize wBtw ws 0 3 = x03 at *
  generalize wBtw ws 0 4 = x04 at *
  generalize wBtw ws 1 2 = x12 at *
  generalize wBtw ws 1 3 = x13 at *
  generalize wBtw ws 1 4 = x14 at *
  generalize wBtw ws 2 3 = x23 at *
  generalize wBtw ws 2 4 = x24 at *
  generalize wBtw ws 3 4 = x34 at *
  generalize S 0 = s0 at *
  generalize S 1 = s1 at *
  generalize S 2 = s2 at *
  generalize S 3 = s3 at *
  generalize S 4 = s4 at *
  by_cases c1 : s1
  · skip
    by_cases c2 : s2
    · skip
      by_cases c3 : s3
      · skip
        by_cases c4 : s4
        · skip
          have y01 := z01 (Or.inr ⟨c1, hS0⟩)
          have y02 := z02 (Or.inr ⟨c2, hS0⟩)
          have y03 := z03 (Or.inr ⟨c3, hS0⟩)
          have y04 := z04 (Or.inr ⟨c4, hS0⟩)
          subst y01 y02 y03 y04
          clear hex hS0 c1 c2 c3 c4 z01 z02 z03 z04 z12 z13 z14 z23 z24 z34
          first | grind | (simp only [Int.zero_add, Int.add_zero, Int.neg_zero, Int.zero_mul, Int.mul_zero, Int.sub_zero, Int.zero_sub]; done) | (simp only [Int.zero_add, Int.add_zero, Int.neg_zero, Int.zero_mul, Int.mul_zero, Int.sub_zero, Int.zero_sub]; grind)
        · skip
          have y01 := z01 (Or.inr ⟨c1, hS0⟩)
          have y02 := z02 (Or.inr ⟨c2, hS0⟩)
          have y03 := z03 (Or.inr ⟨c3, hS0⟩)
          have y14 := z14 (Or.inl ⟨c1, c4⟩)
          have y24 := z24 (Or.inl ⟨c2, c4⟩)
          have y34 := z34 (Or.inl ⟨c3, c4⟩)
          subst y01 y02 y03 y14 y24 y34
          clear hex hS0 c1 c2 c3 c4 z01 z02 z03 z04 z12 z13 z14 z23 z24 z34
          first | grind | (simp only [Int.zero_add, Int.add_zero, Int.neg_zero, Int.zero_mul, Int.mul_zero, Int.sub_zero, Int.zero_sub]; done) | (simp only [Int.zero_add, Int.add_zero, Int.neg_zero, Int.zero_mul, Int.mul_zero, Int.sub_zero, Int.zero_sub]; grind)
      · skip
        by_cases c4 : s4
        · skip
          have y01 := z01 (Or.inr ⟨c1, hS0⟩)
          have y02 := z02 (Or.inr ⟨c2, hS0⟩)
          have y04 := z04 (Or.inr ⟨c4, hS0⟩)
          have y13 := z13 (Or.inl ⟨c1, c3⟩)
          have y23 := z23 (Or.inl ⟨c2, c3⟩)
          have y34 := z34 (Or.inr ⟨c4, c3⟩)
          subst y01 y02 y04 y13 y23 y34
          clear hex hS0 c1 c2 c3 c4 z01 z02 z03 z04 z12 z13 z14 z23 z24 z34
          first | grind | (simp only [Int.zero_add, Int.add_zero, Int.neg_zero, Int.zero_mul, Int.mul_zero, Int.sub_zero, Int.zero_sub]; done) | (simp only [Int.zero_add, Int.add_zero, Int.neg_zero, Int.zero_mul, Int.mul_zero, Int.sub_zero, Int.zero_sub]; grind)
        · skip
          have y01 := z01 (Or.inr ⟨c1, hS0⟩)
          have y02 := z02 (Or.inr ⟨c2, hS0⟩)
          have y13 := z13 (Or.inl ⟨c1, c3⟩)
          have y14 := z14 (Or.inl ⟨c1, c4⟩)
          have y23 := z23 (Or.inl ⟨c2, c3⟩)
          have y24 := z24 (Or.inl ⟨c2, c4⟩)
          subst y01 y02 y13 y14 y23 y24
          clear hex hS0 c1 c2 c3 c4 z01 z02 z03 z04 z12 z13 z14 z23 z24 z34
          first | grind | (simp only [Int.zero_add, Int.add_zero, Int.neg_zero, Int.zero_mul, Int.mul_zero, Int.sub_zero, Int.zero_sub]; done) | (simp only [Int.zero_add, Int.add_zero, Int.neg_zero, Int.zero_mul, Int.mul_zero, Int.sub_zero, Int.zero_sub]; grind)
    · skip
      by_cases c3 : s3
      · skip
        by_cases c4 : s4
        · skip
          have y01 := z01 (Or.inr ⟨c1, hS0⟩)
          have y03 := z03 (Or.inr ⟨c3, hS0⟩)
          have y04 := z04 (Or.inr ⟨c4, hS0⟩)
          have y12 := z12 (Or.inl ⟨c1, c2⟩)
          have y23 := z23 (Or.inr ⟨c3, c2⟩)
          have y24 := z24 (Or.inr ⟨c4, c2⟩)
          subst y01 y03 y04 y12 y23 y24
          clear hex hS0 c1 c2 c3 c4 z01 z02 z03 z04 z12 z13 z14 z23 z24 z34
          first | grind | (simp only [Int.zero_add, Int.add_zero, Int.neg_zero, Int.zero_mul, Int.mul_zero, Int.sub_zero, Int.zero_sub]; done) | (simp only [Int.zero_add, Int.add_zero, Int.neg_zero, Int.zero_mul, Int.mul_zero, Int.sub_zero, Int.zero_sub]; grind)
        · skip
          have y01 := z01 (Or.inr ⟨c1, hS0⟩)
          have y03 := z03 (Or.inr ⟨c3, hS0⟩)
          have y12 := z12 (Or.inl ⟨c1, c2⟩)
          have y14 := z14 (Or.inl ⟨c1, c4⟩)
          have y23 := z23 (Or.inr ⟨c3, c2⟩)
          have y34 := z34 (Or.inl ⟨c3, c4⟩)
          subst y01 y03 y12 y14 y23 y34
          clear hex hS0 c1 c2 c3 c4 z01 z02 z03 z04 z12 z13 z14 z23 z24 z34
          first | grind | (simp only [Int.zero_add, Int.add_zero, Int.neg_zero, Int.zero_mul, Int.mul_zero, Int.sub_zero, Int.zero_sub]; done) | (simp only [Int.zero_add, Int.add_zero, Int.neg_zero, Int.zero_mul, Int.mul_zero, Int.sub_zero, Int.zero_sub]; grind)
      · skip
        by_cases c4 : s4
        · skip
          have y01 := z01 (Or.inr ⟨c1, hS0⟩)
          have y04 := z04 (Or.inr ⟨c4, hS0⟩)
          have y12 := z12 (Or.inl ⟨c1, c2⟩)
          have y13 := z13 (Or.inl ⟨c1, c3⟩)
          have y24 := z24 (Or.inr ⟨c4, c2⟩)
          have y34 := z34 (Or.inr ⟨c4, c3⟩)
          subst y01 y04 y12 y13 y24 y34
          clear hex hS0 c1 c2 c3 c4 z01 z02 z03 z04 z12 z13 z14 z23 z24 z34
          first | grind | (simp only [Int.zero_add, Int.add_zero, Int.neg_zero, Int.zero_mul, Int.mul_zero, Int.sub_zero, Int.zero_sub]; done) | (simp only [Int.zero_add, Int.add_zero, Int.neg_zero, Int.zero_mul, Int.mul_zero, Int.sub_zero, Int.zero_sub]; grind)
        · skip
          have y01 := z01 (Or.inr ⟨c1, hS0⟩)
          have y12 := z12 (Or.inl ⟨c1, c2⟩)
          have y13 := z13 (Or.inl ⟨c1, c3⟩)
          have y14 := z14 (Or.inl ⟨c1, c4⟩)
          subst y01 y12 y13 y14
          clear hex hS0 c1 c2 c3 c4 z01 z02 z03 z04 z12 z13 z14 z23 z24 z34
          first | grind | (simp only [Int.zero_add, Int.add_zero, Int.neg_zero, Int.zero_mul, Int.mul_zero, Int.sub_zero, Int.zero_sub]; done) | (simp only [Int.zero_add, Int.add_zero, Int.neg_zero, Int.zero_mul, Int.mul_zero, Int.sub_zero, Int.zero_sub]; grind)
  · skip
    by_cases c2 : s2
    · skip
      by_cases c3 : s3
      · skip
        by_cases c4 : s4
        · skip
          have y02 := z02 (Or.inr ⟨c2, hS0⟩)
          have y03 := z03 (Or.inr ⟨c3, hS0⟩)
          have y04 := z04 (Or.inr ⟨c4, hS0⟩)
          have y12 := z12 (Or.inr ⟨c2, c1⟩)
          have y13 := z13 (Or.inr ⟨c3, c1⟩)
          have y14 := z14 (Or.inr ⟨c4, c1⟩)
          subst y02 y03 y04 y12 y13 y14
          clear hex hS0 c1 c2 c3 c4 z01 z02 z03 z04 z12 z13 z14 z23 z24 z34
          first | grind | (simp only [Int.zero_add, Int.add_zero, Int.neg_zero, Int.zero_mul, Int.mul_zero, Int.sub_zero, Int.zero_sub]; done) | (simp only [Int.zero_add, Int.add_zero, Int.neg_zero, Int.zero_mul, Int.mul_zero, Int.sub_zero, Int.zero_sub]; grind)
        · skip
          have y02 := z02 (Or.inr ⟨c2, hS0⟩)
          have y03 := z03 (Or.inr ⟨c3, hS0⟩)
          have y12 := z12 (Or.inr ⟨c2, c1⟩)
          have y13 := z13 (Or.inr ⟨c3, c1⟩)
          have y24 := z24 (Or.inl ⟨c2, c4⟩)
          have y34 := z34 (Or.inl ⟨c3, c4⟩)
          subst y02 y03 y12 y13 y24 y34
          clear hex hS0 c1 c2 c3 c4 z01 z02 z03 z04 z12 z13 z14 z23 z24 z34
          first | grind | (simp only [Int.zero_add, Int.add_zero, Int.neg_zero, Int.zero_mul, Int.mul_zero, Int.sub_zero, Int.zero_sub]; done) | (simp only [Int.zero_add, Int.add_zero, Int.neg_zero, Int.zero_mul, Int.mul_zero, Int.sub_zero, Int.zero_sub]; grind)
      · skip
        by_cases c4 : s4
        · skip
          have y02 := z02 (Or.inr ⟨c2, hS0⟩)
          have y04 := z04 (Or.inr ⟨c4, hS0⟩)
          have y12 := z12 (Or.inr ⟨c2, c1⟩)
          have y14 := z14 (Or.inr ⟨c4, c1⟩)
          have y23 := z23 (Or.inl ⟨c2, c3⟩)
          have y34 := z34 (Or.inr ⟨c4, c3⟩)
          subst y02 y04 y12 y14 y23 y34
          clear hex hS0 c1 c2 c3 c4 z01 z02 z03 z04 z12 z13 z14 z23 z24 z34
          first | grind | (simp only [Int.zero_add, Int.add_zero, Int.neg_zero, Int.zero_mul, Int.mul_zero, Int.sub_zero, Int.zero_sub]; done) | (simp only [Int.zero_add, Int.add_zero, Int.neg_zero, Int.zero_mul, Int.mul_zero, Int.sub_zero, Int.zero_sub]; grind)
        · skip
          have y02 := z02 (Or.inr ⟨c2, hS0⟩)
          have y12 := z12 (Or.inr ⟨c2, c1⟩)
          have y23 := z23 (Or.inl ⟨c2, c3⟩)
          have y24 := z24 (Or.inl ⟨c2, c4⟩)
          subst y02 y12 y23 y24
          clear hex hS0 c1 c2 c3 c4 z01 z02 z03 z04 z12 z13 z14 z23 z24 z34
          first | grind | (simp only [Int.zero_add, Int.add_zero, Int.neg_zero, Int.zero_mul, Int.mul_zero, Int.sub_zero, Int.zero_sub]; done) | (simp only [Int.zero_add, Int.add_zero, Int.neg_zero, Int.zero_mul, Int.mul_zero, Int.sub_zero, Int.zero_sub]; grind)
    · skip
      by_cases c3 : s3
      · skip
        by_cases c4 : s4
        · skip
          have y03 := z03 (Or.inr ⟨c3, hS0⟩)
          have y04 := z04 (Or.inr ⟨c4, hS0⟩)
          have y13 := z13 (Or.inr ⟨c3, c1⟩)
          have y14 := z14 (Or.inr ⟨c4, c1⟩)
          have y23 := z23 (Or.inr ⟨c3, c2⟩)
          have y24 := z24 (Or.inr ⟨c4, c2⟩)
          subst y03 y04 y13 y14 y23 y24
          clear hex hS0 c1 c2 c3 c4 z01 z02 z03 z04 z12 z13 z14 z23 z24 z34
          first | grind | (simp only [Int.zero_add, Int.add_zero, Int.neg_zero, Int.zero_mul, Int.mul_zero, Int.sub_zero, Int.zero_sub]; done) | (simp only [Int.zero_add, Int.add_zero, Int.neg_zero, Int.zero_mul, Int.mul_zero, Int.sub_zero, Int.zero_sub]; grind)
        · skip
          have y03 := z03 (Or.inr ⟨c3, hS0⟩)
          have y13 := z13 (Or.inr ⟨c3, c1⟩)
          have y23 := z23 (Or.inr ⟨c3, c2⟩)
          have y34 := z34 (Or.inl ⟨c3, c4⟩)
          subst y03 y13 y23 y34
          clear hex hS0 c1 c2 c3 c4 z01 z02 z03 z04 z12 z13 z14 z23 z24 z34
          first | grind | (simp only [Int.zero_add, Int.add_zero, Int.neg_zero, Int.zero_mul, Int.mul_zero, Int.sub_zero, Int.zero_sub]; done) | (simp only [Int.zero_add, Int.add_zero, Int.neg_zero, Int.zero_mul, Int.mul_zero, Int.sub_zero, Int.zero_sub]; grind)
      · skip
        by_cases c4 : s4
        · skip
          have y04 := z04 (Or.inr ⟨c4, hS0⟩)
          have y14 := z14 (Or.inr ⟨c4, c1⟩)
          have y24 := z24 (Or.inr ⟨c4, c2⟩)
          have y34 := z34 (Or.inr ⟨c4, c3⟩)
          subst y04 y14 y24 y34
          clear hex hS0 c1 c2 c3 c4 z01 z02 z03 z04 z12 z13 z14 z23 z24 z34
          first | grind | (simp only [Int.zero_add, Int.add_zero, Int.neg_zero, Int.zero_mul, Int.mul_zero, Int.sub_zero, Int.zero_sub]; done) | (simp only [Int.zero_add, Int.add_zero, Int.neg_zero, Int.zero_mul, Int.mul_zero, Int.sub_zero, Int.zero_sub]; grind)
        · skip
          exfalso; rcases hex with h | h | h | h <;> contradiction
/-- Where a set of nodes has no wire to the others, there is no tree. -/
theorem apart {N : Nat} {ws : List W3} (h0 : WiresV N ws) (h5 : N ≤ 5) (S : Nat → Prop) (hS0 : ¬ S 0) (hz : ∀ i j : Nat, i < N → j < N → S i → ¬ S j → wBtw ws (i : Int) (j : Int) = 0) (v : Nat) (hv : v < N) (hS : S v) : minI (lapM N ws) N 0 = 0 := by
  have hv0 : v ≠ 0 := fun h => hS0 (h ▸ hS)
  have hN : N = 2 ∨ N = 3 ∨ N = 4 ∨ N = 5 := by omega
  rcases hN with rfl | rfl | rfl | rfl
  · exact apart2 h0 S hS0 hz v hv hS
  · exact apart3 h0 S hS0 hz v hv hS
  · exact apart4 h0 S hS0 hz v hv hS
  · exact apart5 h0 S hS0 hz v hv hS
end Go.Proofs.Ytaececpphdaciaa

namespace Go.Proofs.Ytaececpphdaciaa
open Go.RowKit

theorem sum_none {f : W3 → Int} : ∀ {ws : List W3}, (∀ t ∈ ws, f t = 0) → (ws.map f).sum = 0
  | [], _ => rfl
  | e :: r, h => by
    simp only [List.map_cons, List.sum_cons, h e (by simp)]
    rw [sum_none fun t ht => h t (by simp [ht])]
    rfl
theorem sum_set (f : W3 → Int) : ∀ (ws : List W3) (j : Nat) (y : W3), (h : j < ws.length) → ((ws.set j y).map f).sum = (ws.map f).sum - f ws[j] + f y
  | [], j, y, h => by simp at h
  | e :: r, 0, y, _ => by simp; omega
  | e :: r, j + 1, y, h => by
    have ih := sum_set f r j y (by simpa using h)
    simp only [List.set_cons_succ, List.map_cons, List.sum_cons, List.getElem_cons_succ]
    omega
theorem sum_dropZ (f : W3 → Int) (hf : ∀ t : W3, t.2.2 = 0 → f t = 0) : ∀ ws : List W3, ((dropZ ws).map f).sum = (ws.map f).sum
  | [] => rfl
  | e :: r => by
    have ih := sum_dropZ f hf r
    unfold dropZ at ih ⊢
    by_cases h : e.2.2 = 0
    · rw [List.filter_cons_of_neg (by simpa using h), ih]
      simp only [List.map_cons, List.sum_cons, hf e h]
      omega
    · rw [List.filter_cons_of_pos (by simpa using h)]
      simp only [List.map_cons, List.sum_cons, ih]
/-- The wires without the j-th one. -/
def cutW (ws : List W3) (j : Nat) : List W3 := dropZ (fltW ws j 0)
theorem flt_mem {ws : List W3} {j : Nat} {x : Int} {t : W3} (h : t ∈ fltW ws j x) (hj : j < ws.length) : t ∈ ws ∨ t.2.2 = x := by
  obtain ⟨k, hk, rfl⟩ := List.mem_iff_getElem.1 h
  have hk2 : k < ws.length := by simpa [fltW] using hk
  obtain ⟨a, b, c⟩ := fltW_get ws j x k hk hk2
  by_cases hkj : k = j
  · right; rw [c, if_pos hkj]
  · left
    rw [if_neg hkj] at c
    have : (fltW ws j x)[k] = ws[k] := Prod.ext a (Prod.ext b c)
    rw [this]
    exact List.getElem_mem _
theorem flt_pair {ws : List W3} {j : Nat} {x : Int} (h : ws.Pairwise wLt) : (fltW ws j x).Pairwise wLt := by
  rw [List.pairwise_iff_getElem] at h ⊢
  intro a b ha hb hab
  have ha2 : a < ws.length := by simpa [fltW] using ha
  have hb2 : b < ws.length := by simpa [fltW] using hb
  obtain ⟨a1, a2, -⟩ := fltW_get ws j x a ha ha2
  obtain ⟨b1, b2, -⟩ := fltW_get ws j x b hb hb2
  have hl := h a b ha2 hb2 hab
  unfold wLt at hl ⊢
  rw [a1, a2, b1, b2]
  exact hl
theorem cutW_valid {N : Nat} {ws : List W3} {j : Nat} (h : WiresV N ws) (hj : j < ws.length) : WiresV N (cutW ws j) := by
  have hp : (cutW ws j).Pairwise wLt := List.Pairwise.filter _ (flt_pair h.pairwise)
  refine ⟨fun k hk => ?_, fun k hk => ?_⟩
  · have hm := List.getElem_mem hk
    have h1 := List.mem_filter.1 hm
    rcases flt_mem h1.1 hj with h2 | h2
    · exact h.mem h2
    · have h3 := h1.2
      rw [h2] at h3
      simp at h3
  · rw [List.pairwise_iff_getElem] at hp
    exact hp k (k + 1) (by omega) hk (by omega)
theorem cut_cJ {N : Nat} {ws : List W3} {j : Nat} (h : WiresV N ws) (hj : j < ws.length) (v w : Nat) : wBtw (cutW ws j) (v : Int) (w : Int) = wBtw ws (v : Int) (w : Int) - cJ v w ws[j] := by
  rw [wBtw_cJ (cutW_valid h hj), wBtw_cJ h]
  unfold cutW
  rw [sum_dropZ _ (fun t ht => by unfold cJ; split <;> first | exact ht | rfl)]
  unfold fltW
  rw [sum_set _ ws j _ hj]
  have h0 : cJ v w ((ws.getD j (0, 0, 0)).1, (ws.getD j (0, 0, 0)).2.1, 0) = 0 := by unfold cJ; split <;> rfl
  rw [h0]
  omega
theorem cJ_not {v w : Nat} {e : W3} (h : ¬ (v ≠ w ∧ e.1 = min (v : Int) w ∧ e.2.1 = max (v : Int) w)) : cJ v w e = 0 := if_neg h
/-- The tree sum by the weight of a wire. -/
theorem cut_minor {N : Nat} {ws : List W3} {j A B : Nat} (h : WiresV N ws) (h5 : N ≤ 5) (hj : j < ws.length) (hA : ws[j].1 = A) (hB : ws[j].2.1 = B) :
    minI (lapM N ws) N A = minI (lapM N (cutW ws j)) N A + ws[j].2.2 * forD (lapM N ws) N A B := by
  have hv := h.1 j hj
  unfold wireV at hv
  have hAB : A < B := by omega
  have hBN : B < N := by omega
  have hc := cutW_valid h hj
  have hd : ∀ i, i < N → wAt (cutW ws j) (i : Int) = wAt ws (i : Int) - sumN (fun k => cJ i k ws[j]) N := fun i hi => by
    rw [wAt_sum hc h5 i hi, wAt_sum h h5 i hi, sumN_ext N (fun k _ => cut_cJ h hj i k), sumN_sub]
  have hm := minor_entry h5 hAB hBN (lapM N ws) (lapM N (cutW ws j)) (fun i k hi hk hiA hkA hne => by
    rw [at2_lap ws hi hk, at2_lap (cutW ws j) hi hk]
    unfold lapE
    by_cases hik : i = k
    · subst hik
      rw [if_pos rfl, if_pos rfl, hd i hi, sumN_zero N (fun q _ => cJ_not (by omega))]
      omega
    · rw [if_neg hik, if_neg hik, cut_cJ h hj i k, cJ_not (by omega)]
      omega)
  have hBB : at2 (lapM N ws) (B : Int) (B : Int) - at2 (lapM N (cutW ws j)) (B : Int) (B : Int) = ws[j].2.2 := by
    rw [at2_lap ws hBN hBN, at2_lap (cutW ws j) hBN hBN]
    unfold lapE
    rw [if_pos rfl, if_pos rfl, hd B hBN, sumN_one A N (by omega) (fun q _ hq => cJ_not (by omega))]
    have : cJ B A ws[j] = ws[j].2.2 := by unfold cJ; rw [if_pos ⟨by omega, by omega, by omega⟩]
    rw [this]
    omega
  rw [hm, hBB]
/-- Where the wire holds the network together, there is no tree without it. -/
theorem cut_apart {N : Nat} {ws : List W3} (h : WiresV N ws) (h5 : N ≤ 5) (hC : ¬ Conn N ws) : minI (lapM N ws) N 0 = 0 := by
  obtain ⟨v, hv⟩ := Classical.not_forall.1 hC
  obtain ⟨h0, hv⟩ := Classical.not_imp.1 hv
  obtain ⟨h1, hv⟩ := Classical.not_imp.1 hv
  obtain ⟨u, rfl⟩ : ∃ u : Nat, v = u := ⟨v.toNat, by omega⟩
  refine apart h h5 (fun x => ¬ Rch ws (x : Int)) (fun hx => hx (Rch.zero ws)) (fun i k hi hk hS hnS => ?_) u (by omega) hv
  rw [wBtw_cJ h]
  have hz : ∀ t ∈ ws, cJ i k t = 0 := fun t ht => cJ_not fun hx => by
    obtain ⟨hx1, hx2, hx3⟩ := hx
    have hs := Rch.step ht
    have hk' : Rch ws (k : Int) := Classical.byContradiction hnS
    rcases Nat.lt_or_gt_of_ne hx1 with hl | hl
    · rw [show min (i : Int) k = i by omega] at hx2
      rw [show max (i : Int) k = k by omega] at hx3
      rw [hx2, hx3] at hs
      exact hS (hs.2 hk')
    · rw [show min (i : Int) k = k by omega] at hx2
      rw [show max (i : Int) k = i by omega] at hx3
      rw [hx2, hx3] at hs
      exact hS (hs.1 hk')
  exact sum_none hz
/-- The trees with a wire and those without it are all trees. -/
theorem tree_cut {N : Nat} {e s : Int} {ws : List W3} {j : Nat} (hb : netB N e s ws = true) (hj : j < ws.length) :
    treeR N e s ws = ws[j].2.2 * forestR N e s ws ws[j].1 ws[j].2.1 + (if netB N e s (cutW ws j) = true then treeR N e s (cutW ws j) else 0) := by
  obtain ⟨hN, hW, hC⟩ := netB_iff.1 hb
  have h5 : N ≤ 5 := by unfold NumsV at hN; omega
  have hv := hW.1 j hj
  unfold wireV at hv
  obtain ⟨A, hA⟩ : ∃ A : Nat, ws[j].1 = A := ⟨ws[j].1.toNat, by omega⟩
  obtain ⟨B, hB⟩ : ∃ B : Nat, ws[j].2.1 = B := ⟨ws[j].2.1.toNat, by omega⟩
  have h2 : 2 ≤ N := by omega
  have hm := cut_minor hW h5 hj hA hB
  have hc := cutW_valid hW hj
  rw [hA, hB, forest_forD hb A B (by omega) (by omega), minI_tree hb, ← min_same hW h2 h5 A (by omega), hm]
  have hx : minI (lapM N (cutW ws j)) N A = if netB N e s (cutW ws j) = true then treeR N e s (cutW ws j) else 0 := by
    rw [min_same hc h2 h5 A (by omega)]
    by_cases hcb : netB N e s (cutW ws j) = true
    · rw [if_pos hcb, minI_tree hcb]
    · rw [if_neg hcb]
      exact cut_apart hc h5 (fun hcc => hcb (netB_iff.2 ⟨hN, hc, hcc⟩))
  rw [hx]
  omega
end Go.Proofs.Ytaececpphdaciaa

namespace Go.Proofs.Ytaececpphdaciaa
open Go.RowKit

/-- The weights, each with a factor that hangs on the ends. -/
def sumC (c : Int → Int → Int) (L : List W3) : Int := (L.map fun t => c t.1 t.2.1 * t.2.2).sum
theorem sumC_cons (c : Int → Int → Int) (e : W3) (L : List W3) : sumC c (e :: L) = c e.1 e.2.1 * e.2.2 + sumC c L := by simp [sumC]
theorem sumC_insW (c : Int → Int → Int) (x : W3) : ∀ L : List W3, sumC c (insW x L) = c x.1 x.2.1 * x.2.2 + sumC c L
  | [] => by simp [insW, sumC]
  | e :: r => by
    unfold insW
    split
    · rw [sumC_cons, sumC_cons]
    · rw [sumC_cons, sumC_insW c x r, sumC_cons]; omega
/-- The weights between two nodes. -/
def sumE (lo hi : Int) (L : List W3) : Int := sumC (fun u v => if u = lo ∧ v = hi then 1 else 0) L
theorem sumE_cons (lo hi : Int) (e : W3) (L : List W3) : sumE lo hi (e :: L) = (if e.1 = lo ∧ e.2.1 = hi then e.2.2 else 0) + sumE lo hi L := by
  unfold sumE
  rw [sumC_cons]
  split <;> simp
theorem sumC_rest (c : Int → Int → Int) (lo hi : Int) : ∀ L : List W3, sumC c L = c lo hi * sumE lo hi L + sumC c (restW L lo hi)
  | [] => by simp [sumC, sumE, restW]
  | e :: r => by
    have ih := sumC_rest c lo hi r
    rw [sumC_cons, sumE_cons, ih]
    unfold restW
    by_cases h : e.1 = lo ∧ e.2.1 = hi
    · rw [List.filter_cons_of_neg (by simp [atEnds, h]), if_pos h, Int.mul_add, h.1, h.2]
      omega
    · rw [List.filter_cons_of_pos (by
        simp only [atEnds, Bool.not_eq_true', Bool.and_eq_false_iff, beq_eq_false_iff_ne]
        by_cases h1 : e.1 = lo
        · exact .inr fun h2 => h ⟨h1, h2⟩
        · exact .inl h1), if_neg h, sumC_cons]
      rw [Int.zero_add]
      omega
theorem sumE_nonneg (lo hi : Int) : ∀ L : List W3, (∀ t ∈ L, 0 ≤ t.2.2) → 0 ≤ sumE lo hi L ∧ sumE lo hi L ≤ sumC (fun _ _ => 1) L
  | [], _ => by simp [sumE, sumC]
  | e :: r, h => by
    have ih := sumE_nonneg lo hi r (fun t ht => h t (by simp [ht]))
    have h1 := h e (by simp)
    rw [sumE_cons, sumC_cons]
    split <;> omega
theorem sumW_sum (lo hi : Int) : ∀ (L : List W3) (x : Int), 0 ≤ x → (∀ t ∈ L, 0 ≤ t.2.2) → x + sumC (fun _ _ => 1) L ≤ 9000000000000000000 → sumW L lo hi x true = x + sumE lo hi L
  | [], x, _, _, _ => by simp [sumW, sumE, sumC]
  | e :: r, x, h0, h, hb => by
    have h1 := h e (by simp)
    have h2 := (sumE_nonneg lo hi r (fun t ht => h t (by simp [ht])))
    have h3 := (sumE_nonneg 0 0 r (fun t ht => h t (by simp [ht])))
    rw [sumC_cons] at hb
    rw [sumE_cons]
    have hs : sumW (e :: r) lo hi x true = sumW r lo hi (if e.1 = lo ∧ e.2.1 = hi then wrap64 (x + e.2.2) else x) true := by
      unfold sumW
      rw [List.foldl_cons]
      congr 1
      by_cases hh : e.1 = lo ∧ e.2.1 = hi
      · rw [if_pos hh, if_pos (by simp [atEnds, hh])]
      · rw [if_neg hh, if_neg (by
          simp only [atEnds, Bool.and_true, Bool.and_eq_true, beq_iff_eq]
          exact hh)]
    rw [hs]
    by_cases hh : e.1 = lo ∧ e.2.1 = hi
    · rw [if_pos hh, if_pos hh]
      have hw : wrap64 (x + e.2.2) = x + e.2.2 := by unfold wrap64; omega
      rw [hw, sumW_sum lo hi r _ (by omega) (fun t ht => h t (by simp [ht])) (by omega)]
      omega
    · rw [if_neg hh, if_neg hh, sumW_sum lo hi r x h0 (fun t ht => h t (by simp [ht])) (by omega)]
      omega
theorem sumC_put3 (c : Int → Int → Int) {L : List W3} {lo hi x : Int} (h0 : 0 ≤ x) (h : ∀ t ∈ L, 0 ≤ t.2.2) (hb : x + sumC (fun _ _ => 1) L ≤ 9000000000000000000) : sumC c (put3 L lo hi x true) = sumC c L + c lo hi * x := by
  unfold put3
  rw [sumC_insW, sumW_sum lo hi L x h0 h hb, sumC_rest c lo hi L]
  show c lo hi * (x + sumE lo hi L) + _ = _
  rw [Int.mul_add]
  omega
/-- What is collected under keys adds up to what there was. -/
theorem spec_sum (key : W3 → Int × Int) (L : List W3) : (∀ e ∈ L, 1 ≤ e.2.2 ∧ e.2.2 ≤ 200) → L.length ≤ 1000 →
    (∀ c, sumC c (specM key true L) = sumC c (L.map fun e => ((key e).1, (key e).2, e.2.2))) ∧ ∀ t ∈ specM key true L, 1 ≤ t.2.2 := by
  induction L using snoc_ind with
  | h0 => intro _ _; exact ⟨fun c => rfl, fun t ht => by simp [specM] at ht⟩
  | h1 l e ih =>
    intro h hl
    have hl2 : l.length + 1 ≤ 1000 := by simpa using hl
    obtain ⟨h1, h2⟩ := ih (fun t ht => h t (by simp [ht])) (by omega)
    have he := h e (by simp)
    have hb : sumC (fun _ _ => 1) (l.map fun e => ((key e).1, (key e).2, e.2.2)) ≤ 200 * (l.length : Int) := by
      have hw : ∀ t ∈ l, 1 ≤ t.2.2 ∧ t.2.2 ≤ 200 := fun t ht => h t (by simp [ht])
      clear h h1 h2 ih hl hl2 he
      induction l with
      | nil => simp [sumC]
      | cons a r ihr =>
        have := ihr (fun t ht => hw t (by simp [ht]))
        have := hw a (by simp)
        rw [List.map_cons, sumC_cons]
        simp only [List.length_cons]
        omega
    rw [specM_snoc]
    have hnn : ∀ t ∈ specM key true l, 0 ≤ t.2.2 := fun t ht => by have := h2 t ht; omega
    have hbb : e.2.2 + sumC (fun _ _ => 1) (specM key true l) ≤ 9000000000000000000 := by rw [h1]; omega
    refine ⟨fun c => ?_, fun t ht => ?_⟩
    · rw [sumC_put3 c (by omega) hnn hbb, h1]
      simp [sumC]
    · unfold put3 at ht
      rw [mem_insW] at ht
      rcases ht with rfl | ht
      · show 1 ≤ sumW _ _ _ _ _
        rw [sumW_sum _ _ _ _ (by omega) hnn hbb]
        have := (sumE_nonneg (key e).1 (key e).2 _ hnn).1
        omega
      · exact h2 t (List.mem_filter.1 ht).1
theorem sumC_map (c : Int → Int → Int) (key : W3 → Int × Int) (L : List W3) : sumC c (L.map fun e => ((key e).1, (key e).2, e.2.2)) = (L.map fun e => c (key e).1 (key e).2 * e.2.2).sum := by
  unfold sumC
  rw [List.map_map]
  rfl
theorem spec_sorted (key : W3 → Int × Int) (L : List W3) : (specM key true L).Pairwise wLt := by
  induction L using snoc_ind with
  | h0 => exact List.Pairwise.nil
  | h1 l e ih =>
    rw [specM_snoc]
    unfold put3
    exact sorted_insW _ _ (List.Pairwise.filter _ ih) (fun t ht => by
      have h := (List.mem_filter.1 ht).2
      simp only [atEnds, Bool.not_eq_true', Bool.and_eq_false_iff, beq_eq_false_iff_ne] at h
      rintro ⟨h1, h2⟩
      rcases h with h | h
      · exact h h1
      · exact h h2)
theorem spec_has (key : W3 → Int × Int) (L : List W3) : ∀ e ∈ L, ∃ t ∈ specM key true L, t.1 = (key e).1 ∧ t.2.1 = (key e).2 := by
  induction L using snoc_ind with
  | h0 => intro e he; simp at he
  | h1 l x ih =>
    intro e he
    rw [specM_snoc]
    unfold put3
    rcases List.mem_append.1 he with h | h
    · obtain ⟨t, ht, h1, h2⟩ := ih e h
      by_cases hx : t.1 = (key x).1 ∧ t.2.1 = (key x).2
      · exact ⟨_, (mem_insW _ _ _).2 (.inl rfl), by rw [← h1, hx.1], by rw [← h2, hx.2]⟩
      · refine ⟨t, (mem_insW _ _ _).2 (.inr (List.mem_filter.2 ⟨ht, ?_⟩)), h1, h2⟩
        simp only [atEnds, Bool.not_eq_true', Bool.and_eq_false_iff, beq_eq_false_iff_ne]
        by_cases h3 : t.1 = (key x).1
        · exact .inr fun h4 => hx ⟨h3, h4⟩
        · exact .inl h3
    · have : e = x := by simpa using h
      subst this
      exact ⟨_, (mem_insW _ _ _).2 (.inl rfl), rfl, rfl⟩
end Go.Proofs.Ytaececpphdaciaa

namespace Go.Proofs.Ytaececpphdaciaa
open Go.RowKit

/-- A node's number before b was joined to a. -/
def upJ (B i : Nat) : Nat := if i < B then i else i + 1

theorem w1_0 : woL 1 [0] = [] := by decide
theorem joined2_01 (m m' : MatI) (h : ∀ i j : Nat, i < 1 → j < 1 → i ≠ 0 → j ≠ 0 → at2 m' (i : Int) (j : Int) = at2 m (upJ 1 i : Nat) (upJ 1 j : Nat)) : minI m' 1 0 = forD m 2 0 1 := by
  have W0 := w1_0
  have W1 := w2_01
  have f0 : forD m 2 0 1 = detD m [] [] := by simp [forD, W1]
  have g1 : minI m' 1 0 = detD m' [] [] := by simp [minI, W0]
  rw [f0, g1]
  rw [det0, det0]
theorem joined3_01 (m m' : MatI) (h : ∀ i j : Nat, i < 2 → j < 2 → i ≠ 0 → j ≠ 0 → at2 m' (i : Int) (j : Int) = at2 m (upJ 1 i : Nat) (upJ 1 j : Nat)) : minI m' 2 0 = forD m 3 0 1 := by
  have e11 : at2 m' 1 1 = at2 m 2 2 := by have h := h 1 1 (by omega) (by omega) (by omega) (by omega); simpa [upJ] using h
  have W0 := w2_0
  have W1 := w3_01
  have f0 : forD m 3 0 1 = detD m [2] [2] := by simp [forD, W1]
  have g1 : minI m' 2 0 = detD m' [1] [1] := by simp [minI, W0]
  rw [f0, g1]
  simp only [det1, e11]
theorem joined3_02 (m m' : MatI) (h : ∀ i j : Nat, i < 2 → j < 2 → i ≠ 0 → j ≠ 0 → at2 m' (i : Int) (j : Int) = at2 m (upJ 2 i : Nat) (upJ 2 j : Nat)) : minI m' 2 0 = forD m 3 0 2 := by
  have e11 : at2 m' 1 1 = at2 m 1 1 := by have h := h 1 1 (by omega) (by omega) (by omega) (by omega); simpa [upJ] using h
  have W0 := w2_0
  have W1 := w3_02
  have f0 : forD m 3 0 2 = detD m [1] [1] := by simp [forD, W1]
  have g1 : minI m' 2 0 = detD m' [1] [1] := by simp [minI, W0]
  rw [f0, g1]
  simp only [det1, e11]
theorem joined3_12 (m m' : MatI) (h : ∀ i j : Nat, i < 2 → j < 2 → i ≠ 1 → j ≠ 1 → at2 m' (i : Int) (j : Int) = at2 m (upJ 2 i : Nat) (upJ 2 j : Nat)) : minI m' 2 1 = forD m 3 1 2 := by
  have e00 : at2 m' 0 0 = at2 m 0 0 := by have h := h 0 0 (by omega) (by omega) (by omega) (by omega); simpa [upJ] using h
  have W0 := w2_1
  have W1 := w3_12
  have f0 : forD m 3 1 2 = detD m [0] [0] := by simp [forD, W1]
  have g1 : minI m' 2 1 = detD m' [0] [0] := by simp [minI, W0]
  rw [f0, g1]
  simp only [det1, e00]
theorem joined4_01 (m m' : MatI) (h : ∀ i j : Nat, i < 3 → j < 3 → i ≠ 0 → j ≠ 0 → at2 m' (i : Int) (j : Int) = at2 m (upJ 1 i : Nat) (upJ 1 j : Nat)) : minI m' 3 0 = forD m 4 0 1 := by
  have e11 : at2 m' 1 1 = at2 m 2 2 := by have h := h 1 1 (by omega) (by omega) (by omega) (by omega); simpa [upJ] using h
  have e12 : at2 m' 1 2 = at2 m 2 3 := by have h := h 1 2 (by omega) (by omega) (by omega) (by omega); simpa [upJ] using h
  have e21 : at2 m' 2 1 = at2 m 3 2 := by have h := h 2 1 (by omega) (by omega) (by omega) (by omega); simpa [upJ] using h
  have e22 : at2 m' 2 2 = at2 m 3 3 := by have h := h 2 2 (by omega) (by omega) (by omega) (by omega); simpa [upJ] using h
  have W0 := w3_0
  have W1 := w4_01
  have f0 : forD m 4 0 1 = detD m [2, 3] [2, 3] := by simp [forD, W1]
  have g1 : minI m' 3 0 = detD m' [1, 2] [1, 2] := by simp [minI, W0]
  rw [f0, g1]
  simp only [det2, e11, e12, e21, e22]
theorem joined4_02 (m m' : MatI) (h : ∀ i j : Nat, i < 3 → j < 3 → i ≠ 0 → j ≠ 0 → at2 m' (i : Int) (j : Int) = at2 m (upJ 2 i : Nat) (upJ 2 j : Nat)) : minI m' 3 0 = forD m 4 0 2 := by
  have e11 : at2 m' 1 1 = at2 m 1 1 := by have h := h 1 1 (by omega) (by omega) (by omega) (by omega); simpa [upJ] using h
  have e12 : at2 m' 1 2 = at2 m 1 3 := by have h := h 1 2 (by omega) (by omega) (by omega) (by omega); simpa [upJ] using h
  have e21 : at2 m' 2 1 = at2 m 3 1 := by have h := h 2 1 (by omega) (by omega) (by omega) (by omega); simpa [upJ] using h
  have e22 : at2 m' 2 2 = at2 m 3 3 := by have h := h 2 2 (by omega) (by omega) (by omega) (by omega); simpa [upJ] using h
  have W0 := w3_0
  have W1 := w4_02
  have f0 : forD m 4 0 2 = detD m [1, 3] [1, 3] := by simp [forD, W1]
  have g1 : minI m' 3 0 = detD m' [1, 2] [1, 2] := by simp [minI, W0]
  rw [f0, g1]
  simp only [det2, e11, e12, e21, e22]
theorem joined4_03 (m m' : MatI) (h : ∀ i j : Nat, i < 3 → j < 3 → i ≠ 0 → j ≠ 0 → at2 m' (i : Int) (j : Int) = at2 m (upJ 3 i : Nat) (upJ 3 j : Nat)) : minI m' 3 0 = forD m 4 0 3 := by
  have e11 : at2 m' 1 1 = at2 m 1 1 := by have h := h 1 1 (by omega) (by omega) (by omega) (by omega); simpa [upJ] using h
  have e12 : at2 m' 1 2 = at2 m 1 2 := by have h := h 1 2 (by omega) (by omega) (by omega) (by omega); simpa [upJ] using h
  have e21 : at2 m' 2 1 = at2 m 2 1 := by have h := h 2 1 (by omega) (by omega) (by omega) (by omega); simpa [upJ] using h
  have e22 : at2 m' 2 2 = at2 m 2 2 := by have h := h 2 2 (by omega) (by omega) (by omega) (by omega); simpa [upJ] using h
  have W0 := w3_0
  have W1 := w4_03
  have f0 : forD m 4 0 3 = detD m [1, 2] [1, 2] := by simp [forD, W1]
  have g1 : minI m' 3 0 = detD m' [1, 2] [1, 2] := by simp [minI, W0]
  rw [f0, g1]
  simp only [det2, e11, e12, e21, e22]
theorem joined4_12 (m m' : MatI) (h : ∀ i j : Nat, i < 3 → j < 3 → i ≠ 1 → j ≠ 1 → at2 m' (i : Int) (j : Int) = at2 m (upJ 2 i : Nat) (upJ 2 j : Nat)) : minI m' 3 1 = forD m 4 1 2 := by
  have e00 : at2 m' 0 0 = at2 m 0 0 := by have h := h 0 0 (by omega) (by omega) (by omega) (by omega); simpa [upJ] using h
  have e02 : at2 m' 0 2 = at2 m 0 3 := by have h := h 0 2 (by omega) (by omega) (by omega) (by omega); simpa [upJ] using h
  have e20 : at2 m' 2 0 = at2 m 3 0 := by have h := h 2 0 (by omega) (by omega) (by omega) (by omega); simpa [upJ] using h
  have e22 : at2 m' 2 2 = at2 m 3 3 := by have h := h 2 2 (by omega) (by omega) (by omega) (by omega); simpa [upJ] using h
  have W0 := w3_1
  have W1 := w4_12
  have f0 : forD m 4 1 2 = detD m [0, 3] [0, 3] := by simp [forD, W1]
  have g1 : minI m' 3 1 = detD m' [0, 2] [0, 2] := by simp [minI, W0]
  rw [f0, g1]
  simp only [det2, e00, e02, e20, e22]
theorem joined4_13 (m m' : MatI) (h : ∀ i j : Nat, i < 3 → j < 3 → i ≠ 1 → j ≠ 1 → at2 m' (i : Int) (j : Int) = at2 m (upJ 3 i : Nat) (upJ 3 j : Nat)) : minI m' 3 1 = forD m 4 1 3 := by
  have e00 : at2 m' 0 0 = at2 m 0 0 := by have h := h 0 0 (by omega) (by omega) (by omega) (by omega); simpa [upJ] using h
  have e02 : at2 m' 0 2 = at2 m 0 2 := by have h := h 0 2 (by omega) (by omega) (by omega) (by omega); simpa [upJ] using h
  have e20 : at2 m' 2 0 = at2 m 2 0 := by have h := h 2 0 (by omega) (by omega) (by omega) (by omega); simpa [upJ] using h
  have e22 : at2 m' 2 2 = at2 m 2 2 := by have h := h 2 2 (by omega) (by omega) (by omega) (by omega); simpa [upJ] using h
  have W0 := w3_1
  have W1 := w4_13
  have f0 : forD m 4 1 3 = detD m [0, 2] [0, 2] := by simp [forD, W1]
  have g1 : minI m' 3 1 = detD m' [0, 2] [0, 2] := by simp [minI, W0]
  rw [f0, g1]
  simp only [det2, e00, e02, e20, e22]
theorem joined4_23 (m m' : MatI) (h : ∀ i j : Nat, i < 3 → j < 3 → i ≠ 2 → j ≠ 2 → at2 m' (i : Int) (j : Int) = at2 m (upJ 3 i : Nat) (upJ 3 j : Nat)) : minI m' 3 2 = forD m 4 2 3 := by
  have e00 : at2 m' 0 0 = at2 m 0 0 := by have h := h 0 0 (by omega) (by omega) (by omega) (by omega); simpa [upJ] using h
  have e01 : at2 m' 0 1 = at2 m 0 1 := by have h := h 0 1 (by omega) (by omega) (by omega) (by omega); simpa [upJ] using h
  have e10 : at2 m' 1 0 = at2 m 1 0 := by have h := h 1 0 (by omega) (by omega) (by omega) (by omega); simpa [upJ] using h
  have e11 : at2 m' 1 1 = at2 m 1 1 := by have h := h 1 1 (by omega) (by omega) (by omega) (by omega); simpa [upJ] using h
  have W0 := w3_2
  have W1 := w4_23
  have f0 : forD m 4 2 3 = detD m [0, 1] [0, 1] := by simp [forD, W1]
  have g1 : minI m' 3 2 = detD m' [0, 1] [0, 1] := by simp [minI, W0]
  rw [f0, g1]
  simp only [det2, e00, e01, e10, e11]
theorem joined5_01 (m m' : MatI) (h : ∀ i j : Nat, i < 4 → j < 4 → i ≠ 0 → j ≠ 0 → at2 m' (i : Int) (j : Int) = at2 m (upJ 1 i : Nat) (upJ 1 j : Nat)) : minI m' 4 0 = forD m 5 0 1 := by
  have e11 : at2 m' 1 1 = at2 m 2 2 := by have h := h 1 1 (by omega) (by omega) (by omega) (by omega); simpa [upJ] using h
  have e12 : at2 m' 1 2 = at2 m 2 3 := by have h := h 1 2 (by omega) (by omega) (by omega) (by omega); simpa [upJ] using h
  have e13 : at2 m' 1 3 = at2 m 2 4 := by have h := h 1 3 (by omega) (by omega) (by omega) (by omega); simpa [upJ] using h
  have e21 : at2 m' 2 1 = at2 m 3 2 := by have h := h 2 1 (by omega) (by omega) (by omega) (by omega); simpa [upJ] using h
  have e22 : at2 m' 2 2 = at2 m 3 3 := by have h := h 2 2 (by omega) (by omega) (by omega) (by omega); simpa [upJ] using h
  have e23 : at2 m' 2 3 = at2 m 3 4 := by have h := h 2 3 (by omega) (by omega) (by omega) (by omega); simpa [upJ] using h
  have e31 : at2 m' 3 1 = at2 m 4 2 := by have h := h 3 1 (by omega) (by omega) (by omega) (by omega); simpa [upJ] using h
  have e32 : at2 m' 3 2 = at2 m 4 3 := by have h := h 3 2 (by omega) (by omega) (by omega) (by omega); simpa [upJ] using h
  have e33 : at2 m' 3 3 = at2 m 4 4 := by have h := h 3 3 (by omega) (by omega) (by omega) (by omega); simpa [upJ] using h
  have W0 := w4_0
  have W1 := w5_01
  have f0 : forD m 5 0 1 = detD m [2, 3, 4] [2, 3, 4] := by simp [forD, W1]
  have g1 : minI m' 4 0 = detD m' [1, 2, 3] [1, 2, 3] := by simp [minI, W0]
  rw [f0, g1]
  simp only [det3, e11, e12, e13, e21, e22, e23, e31, e32, e33]
theorem joined5_02 (m m' : MatI) (h : ∀ i j : Nat, i < 4 → j < 4 → i ≠ 0 → j ≠ 0 → at2 m' (i : Int) (j : Int) = at2 m (upJ 2 i : Nat) (upJ 2 j : Nat)) : minI m' 4 0 = forD m 5 0 2 := by
  have e11 : at2 m' 1 1 = at2 m 1 1 := by have h := h 1 1 (by omega) (by omega) (by omega) (by omega); simpa [upJ] using h
  have e12 : at2 m' 1 2 = at2 m 1 3 := by have h := h 1 2 (by omega) (by omega) (by omega) (by omega); simpa [upJ] using h
  have e13 : at2 m' 1 3 = at2 m 1 4 := by have h := h 1 3 (by omega) (by omega) (by omega) (by omega); simpa [upJ] using h
  have e21 : at2 m' 2 1 = at2 m 3 1 := by have h := h 2 1 (by omega) (by omega) (by omega) (by omega); simpa [upJ] using h
  have e22 : at2 m' 2 2 = at2 m 3 3 := by have h := h 2 2 (by omega) (by omega) (by omega) (by omega); simpa [upJ] using h
  have e23 : at2 m' 2 3 = at2 m 3 4 := by have h := h 2 3 (by omega) (by omega) (by omega) (by omega); simpa [upJ] using h
  have e31 : at2 m' 3 1 = at2 m 4 1 := by have h := h 3 1 (by omega) (by omega) (by omega) (by omega); simpa [upJ] using h
  have e32 : at2 m' 3 2 = at2 m 4 3 := by have h := h 3 2 (by omega) (by omega) (by omega) (by omega); simpa [upJ] using h
  have e33 : at2 m' 3 3 = at2 m 4 4 := by have h := h 3 3 (by omega) (by omega) (by omega) (by omega); simpa [upJ] using h
  have W0 := w4_0
  have W1 := w5_02
  have f0 : forD m 5 0 2 = detD m [1, 3, 4] [1, 3, 4] := by simp [forD, W1]
  have g1 : minI m' 4 0 = detD m' [1, 2, 3] [1, 2, 3] := by simp [minI, W0]
  rw [f0, g1]
  simp only [det3, e11, e12, e13, e21, e22, e23, e31, e32, e33]
theorem joined5_03 (m m' : MatI) (h : ∀ i j : Nat, i < 4 → j < 4 → i ≠ 0 → j ≠ 0 → at2 m' (i : Int) (j : Int) = at2 m (upJ 3 i : Nat) (upJ 3 j : Nat)) : minI m' 4 0 = forD m 5 0 3 := by
  have e11 : at2 m' 1 1 = at2 m 1 1 := by have h := h 1 1 (by omega) (by omega) (by omega) (by omega); simpa [upJ] using h
  have e12 : at2 m' 1 2 = at2 m 1 2 := by have h := h 1 2 (by omega) (by omega) (by omega) (by omega); simpa [upJ] using h
  have e13 : at2 m' 1 3 = at2 m 1 4 := by have h := h 1 3 (by omega) (by omega) (by omega) (by omega); simpa [upJ] using h
  have e21 : at2 m' 2 1 = at2 m 2 1 := by have h := h 2 1 (by omega) (by omega) (by omega) (by omega); simpa [upJ] using h
  have e22 : at2 m' 2 2 = at2 m 2 2 := by have h := h 2 2 (by omega) (by omega) (by omega) (by omega); simpa [upJ] using h
  have e23 : at2 m' 2 3 = at2 m 2 4 := by have h := h 2 3 (by omega) (by omega) (by omega) (by omega); simpa [upJ] using h
  have e31 : at2 m' 3 1 = at2 m 4 1 := by have h := h 3 1 (by omega) (by omega) (by omega) (by omega); simpa [upJ] using h
  have e32 : at2 m' 3 2 = at2 m 4 2 := by have h := h 3 2 (by omega) (by omega) (by omega) (by omega); simpa [upJ] using h
  have e33 : at2 m' 3 3 = at2 m 4 4 := by have h := h 3 3 (by omega) (by omega) (by omega) (by omega); simpa [upJ] using h
  have W0 := w4_0
  have W1 := w5_03
  have f0 : forD m 5 0 3 = detD m [1, 2, 4] [1, 2, 4] := by simp [forD, W1]
  have g1 : minI m' 4 0 = detD m' [1, 2, 3] [1, 2, 3] := by simp [minI, W0]
  rw [f0, g1]
  simp only [det3, e11, e12, e13, e21, e22, e23, e31, e32, e33]
theorem joined5_04 (m m' : MatI) (h : ∀ i j : Nat, i < 4 → j < 4 → i ≠ 0 → j ≠ 0 → at2 m' (i : Int) (j : Int) = at2 m (upJ 4 i : Nat) (upJ 4 j : Nat)) : minI m' 4 0 = forD m 5 0 4 := by
  have e11 : at2 m' 1 1 = at2 m 1 1 := by have h := h 1 1 (by omega) (by omega) (by omega) (by omega); simpa [upJ] using h
  have e12 : at2 m' 1 2 = at2 m 1 2 := by have h := h 1 2 (by omega) (by omega) (by omega) (by omega); simpa [upJ] using h
  have e13 : at2 m' 1 3 = at2 m 1 3 := by have h := h 1 3 (by omega) (by omega) (by omega) (by omega); simpa [upJ] using h
  have e21 : at2 m' 2 1 = at2 m 2 1 := by have h := h 2 1 (by omega) (by omega) (by omega) (by omega); simpa [upJ] using h
  have e22 : at2 m' 2 2 = at2 m 2 2 := by have h := h 2 2 (by omega) (by omega) (by omega) (by omega); simpa [upJ] using h
  have e23 : at2 m' 2 3 = at2 m 2 3 := by have h := h 2 3 (by omega) (by omega) (by omega) (by omega); simpa [upJ] using h
  have e31 : at2 m' 3 1 = at2 m 3 1 := by have h := h 3 1 (by omega) (by omega) (by omega) (by omega); simpa [upJ] using h
  have e32 : at2 m' 3 2 = at2 m 3 2 := by have h := h 3 2 (by omega) (by omega) (by omega) (by omega); simpa [upJ] using h
  have e33 : at2 m' 3 3 = at2 m 3 3 := by have h := h 3 3 (by omega) (by omega) (by omega) (by omega); simpa [upJ] using h
  have W0 := w4_0
  have W1 := w5_04
  have f0 : forD m 5 0 4 = detD m [1, 2, 3] [1, 2, 3] := by simp [forD, W1]
  have g1 : minI m' 4 0 = detD m' [1, 2, 3] [1, 2, 3] := by simp [minI, W0]
  rw [f0, g1]
  simp only [det3, e11, e12, e13, e21, e22, e23, e31, e32, e33]
theorem joined5_12 (m m' : MatI) (h : ∀ i j : Nat, i < 4 → j < 4 → i ≠ 1 → j ≠ 1 → at2 m' (i : Int) (j : Int) = at2 m (upJ 2 i : Nat) (upJ 2 j : Nat)) : minI m' 4 1 = forD m 5 1 2 := by
  have e00 : at2 m' 0 0 = at2 m 0 0 := by have h := h 0 0 (by omega) (by omega) (by omega) (by omega); simpa [upJ] using h
  have e02 : at2 m' 0 2 = at2 m 0 3 := by have h := h 0 2 (by omega) (by omega) (by omega) (by omega); simpa [upJ] using h
  have e03 : at2 m' 0 3 = at2 m 0 4 := by have h := h 0 3 (by omega) (by omega) (by omega) (by omega); simpa [upJ] using h
  have e20 : at2 m' 2 0 = at2 m 3 0 := by have h := h 2 0 (by omega) (by omega) (by omega) (by omega); simpa [upJ] using h
  have e22 : at2 m' 2 2 = at2 m 3 3 := by have h := h 2 2 (by omega) (by omega) (by omega) (by omega); simpa [upJ] using h
  have e23 : at2 m' 2 3 = at2 m 3 4 := by have h := h 2 3 (by omega) (by omega) (by omega) (by omega); simpa [upJ] using h
  have e30 : at2 m' 3 0 = at2 m 4 0 := by have h := h 3 0 (by omega) (by omega) (by omega) (by omega); simpa [upJ] using h
  have e32 : at2 m' 3 2 = at2 m 4 3 := by have h := h 3 2 (by omega) (by omega) (by omega) (by omega); simpa [upJ] using h
  have e33 : at2 m' 3 3 = at2 m 4 4 := by have h := h 3 3 (by omega) (by omega) (by omega) (by omega); simpa [upJ] using h
  have W0 := w4_1
  have W1 := w5_12
  have f0 : forD m 5 1 2 = detD m [0, 3, 4] [0, 3, 4] := by simp [forD, W1]
  have g1 : minI m' 4 1 = detD m' [0, 2, 3] [0, 2, 3] := by simp [minI, W0]
  rw [f0, g1]
  simp only [det3, e00, e02, e03, e20, e22, e23, e30, e32, e33]
theorem joined5_13 (m m' : MatI) (h : ∀ i j : Nat, i < 4 → j < 4 → i ≠ 1 → j ≠ 1 → at2 m' (i : Int) (j : Int) = at2 m (upJ 3 i : Nat) (upJ 3 j : Nat)) : minI m' 4 1 = forD m 5 1 3 := by
  have e00 : at2 m' 0 0 = at2 m 0 0 := by have h := h 0 0 (by omega) (by omega) (by omega) (by omega); simpa [upJ] using h
  have e02 : at2 m' 0 2 = at2 m 0 2 := by have h := h 0 2 (by omega) (by omega) (by omega) (by omega); simpa [upJ] using h
  have e03 : at2 m' 0 3 = at2 m 0 4 := by have h := h 0 3 (by omega) (by omega) (by omega) (by omega); simpa [upJ] using h
  have e20 : at2 m' 2 0 = at2 m 2 0 := by have h := h 2 0 (by omega) (by omega) (by omega) (by omega); simpa [upJ] using h
  have e22 : at2 m' 2 2 = at2 m 2 2 := by have h := h 2 2 (by omega) (by omega) (by omega) (by omega); simpa [upJ] using h
  have e23 : at2 m' 2 3 = at2 m 2 4 := by have h := h 2 3 (by omega) (by omega) (by omega) (by omega); simpa [upJ] using h
  have e30 : at2 m' 3 0 = at2 m 4 0 := by have h := h 3 0 (by omega) (by omega) (by omega) (by omega); simpa [upJ] using h
  have e32 : at2 m' 3 2 = at2 m 4 2 := by have h := h 3 2 (by omega) (by omega) (by omega) (by omega); simpa [upJ] using h
  have e33 : at2 m' 3 3 = at2 m 4 4 := by have h := h 3 3 (by omega) (by omega) (by omega) (by omega); simpa [upJ] using h
  have W0 := w4_1
  have W1 := w5_13
  have f0 : forD m 5 1 3 = detD m [0, 2, 4] [0, 2, 4] := by simp [forD, W1]
  have g1 : minI m' 4 1 = detD m' [0, 2, 3] [0, 2, 3] := by simp [minI, W0]
  rw [f0, g1]
  simp only [det3, e00, e02, e03, e20, e22, e23, e30, e32, e33]
theorem joined5_14 (m m' : MatI) (h : ∀ i j : Nat, i < 4 → j < 4 → i ≠ 1 → j ≠ 1 → at2 m' (i : Int) (j : Int) = at2 m (upJ 4 i : Nat) (upJ 4 j : Nat)) : minI m' 4 1 = forD m 5 1 4 := by
  have e00 : at2 m' 0 0 = at2 m 0 0 := by have h := h 0 0 (by omega) (by omega) (by omega) (by omega); simpa [upJ] using h
  have e02 : at2 m' 0 2 = at2 m 0 2 := by have h := h 0 2 (by omega) (by omega) (by omega) (by omega); simpa [upJ] using h
  have e03 : at2 m' 0 3 = at2 m 0 3 := by have h := h 0 3 (by omega) (by omega) (by omega) (by omega); simpa [upJ] using h
  have e20 : at2 m' 2 0 = at2 m 2 0 := by have h := h 2 0 (by omega) (by omega) (by omega) (by omega); simpa [upJ] using h
  have e22 : at2 m' 2 2 = at2 m 2 2 := by have h := h 2 2 (by omega) (by omega) (by omega) (by omega); simpa [upJ] using h
  have e23 : at2 m' 2 3 = at2 m 2 3 := by have h := h 2 3 (by omega) (by omega) (by omega) (by omega); simpa [upJ] using h
  have e30 : at2 m' 3 0 = at2 m 3 0 := by have h := h 3 0 (by omega) (by omega) (by omega) (by omega); simpa [upJ] using h
  have e32 : at2 m' 3 2 = at2 m 3 2 := by have h := h 3 2 (by omega) (by omega) (by omega) (by omega); simpa [upJ] using h
  have e33 : at2 m' 3 3 = at2 m 3 3 := by have h := h 3 3 (by omega) (by omega) (by omega) (by omega); simpa [upJ] using h
  have W0 := w4_1
  have W1 := w5_14
  have f0 : forD m 5 1 4 = detD m [0, 2, 3] [0, 2, 3] := by simp [forD, W1]
  have g1 : minI m' 4 1 = detD m' [0, 2, 3] [0, 2, 3] := by simp [minI, W0]
  rw [f0, g1]
  simp only [det3, e00, e02, e03, e20, e22, e23, e30, e32, e33]
theorem joined5_23 (m m' : MatI) (h : ∀ i j : Nat, i < 4 → j < 4 → i ≠ 2 → j ≠ 2 → at2 m' (i : Int) (j : Int) = at2 m (upJ 3 i : Nat) (upJ 3 j : Nat)) : minI m' 4 2 = forD m 5 2 3 := by
  have e00 : at2 m' 0 0 = at2 m 0 0 := by have h := h 0 0 (by omega) (by omega) (by omega) (by omega); simpa [upJ] using h
  have e01 : at2 m' 0 1 = at2 m 0 1 := by have h := h 0 1 (by omega) (by omega) (by omega) (by omega); simpa [upJ] using h
  have e03 : at2 m' 0 3 = at2 m 0 4 := by have h := h 0 3 (by omega) (by omega) (by omega) (by omega); simpa [upJ] using h
  have e10 : at2 m' 1 0 = at2 m 1 0 := by have h := h 1 0 (by omega) (by omega) (by omega) (by omega); simpa [upJ] using h
  have e11 : at2 m' 1 1 = at2 m 1 1 := by have h := h 1 1 (by omega) (by omega) (by omega) (by omega); simpa [upJ] using h
  have e13 : at2 m' 1 3 = at2 m 1 4 := by have h := h 1 3 (by omega) (by omega) (by omega) (by omega); simpa [upJ] using h
  have e30 : at2 m' 3 0 = at2 m 4 0 := by have h := h 3 0 (by omega) (by omega) (by omega) (by omega); simpa [upJ] using h
  have e31 : at2 m' 3 1 = at2 m 4 1 := by have h := h 3 1 (by omega) (by omega) (by omega) (by omega); simpa [upJ] using h
  have e33 : at2 m' 3 3 = at2 m 4 4 := by have h := h 3 3 (by omega) (by omega) (by omega) (by omega); simpa [upJ] using h
  have W0 := w4_2
  have W1 := w5_23
  have f0 : forD m 5 2 3 = detD m [0, 1, 4] [0, 1, 4] := by simp [forD, W1]
  have g1 : minI m' 4 2 = detD m' [0, 1, 3] [0, 1, 3] := by simp [minI, W0]
  rw [f0, g1]
  simp only [det3, e00, e01, e03, e10, e11, e13, e30, e31, e33]
theorem joined5_24 (m m' : MatI) (h : ∀ i j : Nat, i < 4 → j < 4 → i ≠ 2 → j ≠ 2 → at2 m' (i : Int) (j : Int) = at2 m (upJ 4 i : Nat) (upJ 4 j : Nat)) : minI m' 4 2 = forD m 5 2 4 := by
  have e00 : at2 m' 0 0 = at2 m 0 0 := by have h := h 0 0 (by omega) (by omega) (by omega) (by omega); simpa [upJ] using h
  have e01 : at2 m' 0 1 = at2 m 0 1 := by have h := h 0 1 (by omega) (by omega) (by omega) (by omega); simpa [upJ] using h
  have e03 : at2 m' 0 3 = at2 m 0 3 := by have h := h 0 3 (by omega) (by omega) (by omega) (by omega); simpa [upJ] using h
  have e10 : at2 m' 1 0 = at2 m 1 0 := by have h := h 1 0 (by omega) (by omega) (by omega) (by omega); simpa [upJ] using h
  have e11 : at2 m' 1 1 = at2 m 1 1 := by have h := h 1 1 (by omega) (by omega) (by omega) (by omega); simpa [upJ] using h
  have e13 : at2 m' 1 3 = at2 m 1 3 := by have h := h 1 3 (by omega) (by omega) (by omega) (by omega); simpa [upJ] using h
  have e30 : at2 m' 3 0 = at2 m 3 0 := by have h := h 3 0 (by omega) (by omega) (by omega) (by omega); simpa [upJ] using h
  have e31 : at2 m' 3 1 = at2 m 3 1 := by have h := h 3 1 (by omega) (by omega) (by omega) (by omega); simpa [upJ] using h
  have e33 : at2 m' 3 3 = at2 m 3 3 := by have h := h 3 3 (by omega) (by omega) (by omega) (by omega); simpa [upJ] using h
  have W0 := w4_2
  have W1 := w5_24
  have f0 : forD m 5 2 4 = detD m [0, 1, 3] [0, 1, 3] := by simp [forD, W1]
  have g1 : minI m' 4 2 = detD m' [0, 1, 3] [0, 1, 3] := by simp [minI, W0]
  rw [f0, g1]
  simp only [det3, e00, e01, e03, e10, e11, e13, e30, e31, e33]
theorem joined5_34 (m m' : MatI) (h : ∀ i j : Nat, i < 4 → j < 4 → i ≠ 3 → j ≠ 3 → at2 m' (i : Int) (j : Int) = at2 m (upJ 4 i : Nat) (upJ 4 j : Nat)) : minI m' 4 3 = forD m 5 3 4 := by
  have e00 : at2 m' 0 0 = at2 m 0 0 := by have h := h 0 0 (by omega) (by omega) (by omega) (by omega); simpa [upJ] using h
  have e01 : at2 m' 0 1 = at2 m 0 1 := by have h := h 0 1 (by omega) (by omega) (by omega) (by omega); simpa [upJ] using h
  have e02 : at2 m' 0 2 = at2 m 0 2 := by have h := h 0 2 (by omega) (by omega) (by omega) (by omega); simpa [upJ] using h
  have e10 : at2 m' 1 0 = at2 m 1 0 := by have h := h 1 0 (by omega) (by omega) (by omega) (by omega); simpa [upJ] using h
  have e11 : at2 m' 1 1 = at2 m 1 1 := by have h := h 1 1 (by omega) (by omega) (by omega) (by omega); simpa [upJ] using h
  have e12 : at2 m' 1 2 = at2 m 1 2 := by have h := h 1 2 (by omega) (by omega) (by omega) (by omega); simpa [upJ] using h
  have e20 : at2 m' 2 0 = at2 m 2 0 := by have h := h 2 0 (by omega) (by omega) (by omega) (by omega); simpa [upJ] using h
  have e21 : at2 m' 2 1 = at2 m 2 1 := by have h := h 2 1 (by omega) (by omega) (by omega) (by omega); simpa [upJ] using h
  have e22 : at2 m' 2 2 = at2 m 2 2 := by have h := h 2 2 (by omega) (by omega) (by omega) (by omega); simpa [upJ] using h
  have W0 := w4_3
  have W1 := w5_34
  have f0 : forD m 5 3 4 = detD m [0, 1, 2] [0, 1, 2] := by simp [forD, W1]
  have g1 : minI m' 4 3 = detD m' [0, 1, 2] [0, 1, 2] := by simp [minI, W0]
  rw [f0, g1]
  simp only [det3, e00, e01, e02, e10, e11, e12, e20, e21, e22]
theorem minor_join {N A B : Nat} (h5 : N ≤ 5) (hAB : A < B) (hB : B < N) (m m' : MatI) (h : ∀ i j : Nat, i < N - 1 → j < N - 1 → i ≠ A → j ≠ A → at2 m' (i : Int) (j : Int) = at2 m (upJ B i : Nat) (upJ B j : Nat)) : minI m' (N - 1) A = forD m N A B := by
  have hN : N = 2 ∨ N = 3 ∨ N = 4 ∨ N = 5 := by omega
  rcases hN with rfl | rfl | rfl | rfl
  · have hp : (A = 0 ∧ B = 1) := by omega
    obtain ⟨rfl, rfl⟩ := hp
    exact joined2_01 m m' h
  · have hp : (A = 0 ∧ B = 1) ∨ (A = 0 ∧ B = 2) ∨ (A = 1 ∧ B = 2) := by omega
    rcases hp with ⟨rfl, rfl⟩ | ⟨rfl, rfl⟩ | ⟨rfl, rfl⟩
    · exact joined3_01 m m' h
    · exact joined3_02 m m' h
    · exact joined3_12 m m' h
  · have hp : (A = 0 ∧ B = 1) ∨ (A = 0 ∧ B = 2) ∨ (A = 0 ∧ B = 3) ∨ (A = 1 ∧ B = 2) ∨ (A = 1 ∧ B = 3) ∨ (A = 2 ∧ B = 3) := by omega
    rcases hp with ⟨rfl, rfl⟩ | ⟨rfl, rfl⟩ | ⟨rfl, rfl⟩ | ⟨rfl, rfl⟩ | ⟨rfl, rfl⟩ | ⟨rfl, rfl⟩
    · exact joined4_01 m m' h
    · exact joined4_02 m m' h
    · exact joined4_03 m m' h
    · exact joined4_12 m m' h
    · exact joined4_13 m m' h
    · exact joined4_23 m m' h
  · have hp : (A = 0 ∧ B = 1) ∨ (A = 0 ∧ B = 2) ∨ (A = 0 ∧ B = 3) ∨ (A = 0 ∧ B = 4) ∨ (A = 1 ∧ B = 2) ∨ (A = 1 ∧ B = 3) ∨ (A = 1 ∧ B = 4) ∨ (A = 2 ∧ B = 3) ∨ (A = 2 ∧ B = 4) ∨ (A = 3 ∧ B = 4) := by omega
    rcases hp with ⟨rfl, rfl⟩ | ⟨rfl, rfl⟩ | ⟨rfl, rfl⟩ | ⟨rfl, rfl⟩ | ⟨rfl, rfl⟩ | ⟨rfl, rfl⟩ | ⟨rfl, rfl⟩ | ⟨rfl, rfl⟩ | ⟨rfl, rfl⟩ | ⟨rfl, rfl⟩
    · exact joined5_01 m m' h
    · exact joined5_02 m m' h
    · exact joined5_03 m m' h
    · exact joined5_04 m m' h
    · exact joined5_12 m m' h
    · exact joined5_13 m m' h
    · exact joined5_14 m m' h
    · exact joined5_23 m m' h
    · exact joined5_24 m m' h
    · exact joined5_34 m m' h
theorem sumC_congr {c d : Int → Int → Int} : ∀ {L : List W3}, (∀ t ∈ L, c t.1 t.2.1 = d t.1 t.2.1) → sumC c L = sumC d L
  | [], _ => rfl
  | e :: r, h => by
    rw [sumC_cons, sumC_cons, h e (by simp), sumC_congr fun t ht => h t (by simp [ht])]
theorem mem_le_sum : ∀ {L : List W3} {t : W3}, t ∈ L → (∀ u ∈ L, 0 ≤ u.2.2) → t.2.2 ≤ sumC (fun _ _ => 1) L
  | e :: r, t, ht, h => by
    have h1 := (sumE_nonneg 0 0 r (fun u hu => h u (by simp [hu])))
    have h2 := h e (by simp)
    rw [sumC_cons]
    rcases List.mem_cons.1 ht with rfl | ht
    · omega
    · have := mem_le_sum ht (fun u hu => h u (by simp [hu])); omega
/-- The wires of the joined network. -/
def joinW (ws : List W3) (A B : Nat) : List W3 := specM (keyJ A B) true (restW ws A B)
theorem rest_mem {ws : List W3} {lo hi : Int} {t : W3} (h : t ∈ restW ws lo hi) : t ∈ ws ∧ ¬ (t.1 = lo ∧ t.2.1 = hi) := by
  have h1 := List.mem_filter.1 h
  refine ⟨h1.1, ?_⟩
  have h2 := h1.2
  simp only [atEnds, Bool.not_eq_true', Bool.and_eq_false_iff, beq_eq_false_iff_ne] at h2
  rintro ⟨h3, h4⟩
  rcases h2 with h2 | h2
  · exact h2 h3
  · exact h2 h4
/-- What the joined network adds up to. -/
theorem join_sum {N A B : Nat} {ws : List W3} (h : WiresV N ws) (h5 : N ≤ 5) (c : Int → Int → Int) (hc : c A A = 0) :
    sumC c (joinW ws A B) = sumC (fun x y => c (min (joinI A B x) (joinI A B y)) (max (joinI A B x) (joinI A B y))) ws := by
  have hl : ws.length ≤ 25 := wires_few h (by omega)
  have hw : ∀ t ∈ restW ws A B, 1 ≤ t.2.2 ∧ t.2.2 ≤ 200 := fun t ht => by
    have := h.mem (rest_mem ht).1
    unfold wireV at this
    omega
  have h1 := (spec_sum (keyJ A B) (restW ws A B) hw (by have : (restW ws A B).length ≤ ws.length := List.length_filter_le _ _; omega)).1 c
  unfold joinW
  rw [h1, sumC_map, sumC_rest _ (A : Int) (B : Int) ws]
  have e0 : c (min (joinI A B A) (joinI A B B)) (max (joinI A B A) (joinI A B B)) * sumE (A : Int) (B : Int) ws = 0 := by
    by_cases hAB : (A : Int) < B
    · have e1 : joinI A B A = A := by unfold joinI; rw [if_neg (by omega), if_neg (by omega)]
      have e2 : joinI A B B = A := by unfold joinI; rw [if_pos rfl]
      rw [e1, e2, Int.min_self, Int.max_self, hc, Int.zero_mul]
    · have e3 : sumE (A : Int) (B : Int) ws = 0 := by
        have hm : ∀ t ∈ ws, wireV N t := fun t ht => h.mem ht
        clear h h1 hw hl
        induction ws with
        | nil => rfl
        | cons t r ih =>
          have hv := hm t (by simp)
          unfold wireV at hv
          rw [sumE_cons, if_neg (by omega), ih (fun u hu => hm u (by simp [hu]))]
          rfl
      rw [e3, Int.mul_zero]
  rw [e0, Int.zero_add]
  rfl
theorem sJ_sumE (lo hi : Int) : ∀ ws : List W3, sJ ws lo hi = sumE lo hi ws
  | [] => rfl
  | e :: r => by
    rw [sumE_cons, ← sJ_sumE lo hi r]
    simp [sJ]
theorem wBtw_E {n : Int} {ws : List W3} (h : WiresV n ws) (a b : Int) (hab : a ≠ b) : wBtw ws a b = sumE (min a b) (max a b) ws := by
  rw [wBtw_sJ a b hab ws h.pairwise, sJ_sumE]
theorem joinI_cases (A B x : Int) : (x = B ∧ joinI A B x = A) ∨ (B < x ∧ joinI A B x = x - 1) ∨ (x < B ∧ joinI A B x = x) := by
  unfold joinI
  by_cases h1 : x = B
  · exact .inl ⟨h1, if_pos h1⟩
  · by_cases h2 : B < x
    · exact .inr (.inl ⟨h2, by rw [if_neg h1, if_pos h2]⟩)
    · exact .inr (.inr ⟨by omega, by rw [if_neg h1, if_neg h2]⟩)
theorem upJ_cases (B i : Nat) : (i < B ∧ upJ B i = i) ∨ (B ≤ i ∧ upJ B i = i + 1) := by
  unfold upJ
  by_cases h : i < B
  · exact .inl ⟨h, if_pos h⟩
  · exact .inr ⟨by omega, if_neg h⟩
theorem ite_iff {P Q : Prop} [Decidable P] [Decidable Q] (h : P ↔ Q) : (if P then (1 : Int) else 0) = if Q then 1 else 0 := by
  by_cases hp : P
  · rw [if_pos hp, if_pos (h.1 hp)]
  · rw [if_neg hp, if_neg (fun hq => hp (h.2 hq))]
/-- Between nodes that are not joined nothing has changed. -/
theorem join_btw {N A B : Nat} {ws : List W3} (h : WiresV N ws) (h5 : N ≤ 5) (hAB : A < B) (hJ : WiresV ((N - 1 : Nat) : Int) (joinW ws A B)) (u v : Nat) (huA : u ≠ A) (hvA : v ≠ A) (huv : u ≠ v) :
    wBtw (joinW ws A B) (u : Int) (v : Int) = wBtw ws (upJ B u : Nat) (upJ B v : Nat) := by
  have hU := upJ_cases B u; have hV := upJ_cases B v
  generalize upJ B u = U at *
  generalize upJ B v = V at *
  rw [wBtw_E hJ _ _ (by omega), wBtw_E h _ _ (by omega)]
  unfold sumE
  rw [join_sum h h5 _ (by rw [if_neg]; omega)]
  refine sumC_congr fun t ht => ite_iff ?_
  have hv := h.mem ht
  unfold wireV at hv
  have c1 := joinI_cases A B t.1; have c2 := joinI_cases A B t.2.1
  generalize joinI A B t.1 = x1 at *
  generalize joinI A B t.2.1 = x2 at *
  omega
theorem wAt_C {n : Int} {ws : List W3} (h : WiresV n ws) (hn : n ≤ 5) (x : Int) (h0 : 0 ≤ x) (hx : x < n) : wAt ws x = sumC (fun a b => if a = x ∨ b = x then 1 else 0) ws := by
  have h1 := wAt_sT h hn x h0 hx ws.length (Nat.le_refl _)
  rw [List.take_length] at h1
  rw [h1]
  clear h1 h
  induction ws with
  | nil => rfl
  | cons e r ih =>
    rw [sumC_cons, ← ih]
    simp only [sT, List.map_cons, List.sum_cons]
    split <;> simp
theorem join_at {N A B : Nat} {ws : List W3} (h : WiresV N ws) (h5 : N ≤ 5) (hAB : A < B) (hB : B < N) (hJ : WiresV ((N - 1 : Nat) : Int) (joinW ws A B)) (u : Nat) (hu : u < N - 1) (huA : u ≠ A) :
    wAt (joinW ws A B) (u : Int) = wAt ws (upJ B u : Nat) := by
  have hU := upJ_cases B u
  generalize upJ B u = U at *
  rw [wAt_C hJ (by omega) _ (by omega) (by omega), wAt_C h (by omega) _ (by omega) (by omega)]
  rw [join_sum h h5 _ (by rw [if_neg]; omega)]
  refine sumC_congr fun t ht => ite_iff ?_
  have hv := h.mem ht
  unfold wireV at hv
  have c1 := joinI_cases A B t.1; have c2 := joinI_cases A B t.2.1
  generalize joinI A B t.1 = x1 at *
  generalize joinI A B t.2.1 = x2 at *
  omega
/-- The joined network is valid, if the weights are small. -/
theorem join_net {N A B : Nat} {e s : Int} {ws : List W3} (hb : netB N e s ws = true) (hAB : A < B) (hB : B < N) (hs : sumC (fun _ _ => 1) ws ≤ 200) : netB ((N - 1 : Nat) : Int) (endsJ e B) s (joinW ws A B) = true := by
  obtain ⟨hN, h, hC⟩ := netB_iff.1 hb
  have h5 : N ≤ 5 := by unfold NumsV at hN; omega
  have hl : ws.length ≤ 25 := wires_few h (by omega)
  have hw : ∀ t ∈ restW ws A B, 1 ≤ t.2.2 ∧ t.2.2 ≤ 200 := fun t ht => by
    have := h.mem (rest_mem ht).1
    unfold wireV at this
    omega
  obtain ⟨q1, q2⟩ := spec_sum (keyJ A B) (restW ws A B) hw (by have : (restW ws A B).length ≤ ws.length := List.length_filter_le _ _; omega)
  have hp := spec_sorted (keyJ A B) (restW ws A B)
  have hmem : ∀ t ∈ joinW ws A B, wireV ((N - 1 : Nat) : Int) t := fun t ht => by
    obtain ⟨x, hx, k1, k2⟩ := specM_keys (keyJ A B) true (restW ws A B) t ht
    obtain ⟨hx1, hx2⟩ := rest_mem hx
    have hv := h.mem hx1
    unfold wireV at hv
    have c1 := joinI_cases A B x.1; have c2 := joinI_cases A B x.2.1
    have w1 := q2 t ht
    have w2 := mem_le_sum ht (fun u hu => by have := q2 u hu; omega)
    have w3 : sumC (fun _ _ => 1) (specM (keyJ A B) true (restW ws A B)) ≤ 200 := by
      rw [q1, sumC_map]
      have e1 := sumC_rest (fun _ _ => 1) (A : Int) (B : Int) ws
      have e2 := (sumE_nonneg (A : Int) (B : Int) ws (fun u hu => by have := h.mem hu; unfold wireV at this; omega)).1
      have e3 : ((restW ws (A : Int) (B : Int)).map fun e => (1 : Int) * e.2.2).sum = sumC (fun _ _ => 1) (restW ws A B) := rfl
      rw [e3]
      omega
    unfold keyJ at k1 k2
    simp only at k1 k2
    generalize joinI A B x.1 = x1 at *
    generalize joinI A B x.2.1 = x2 at *
    unfold joinW at w2
    unfold wireV
    omega
  refine netB_iff.2 ⟨?_, ⟨fun k hk => hmem _ (List.getElem_mem hk), fun k hk => ?_⟩, fun v h0 h1 S hS0 hS => ?_⟩
  · unfold NumsV at hN ⊢
    unfold endsJ
    split <;> omega
  · rw [List.pairwise_iff_getElem] at hp
    exact hp k (k + 1) (by have : (joinW ws A B).length = _ := rfl; unfold joinW at hk; omega) hk (by omega)
  · have hst := hC (upJ B v.toNat : Nat) (by omega) (by have := upJ_cases B v.toNat; omega) (fun x => S (joinI A B x)) (by
      have c := joinI_cases A B 0
      have : joinI A B 0 = 0 := by omega
      rw [this]; exact hS0) (fun t ht => by
      by_cases hAt : t.1 = A ∧ t.2.1 = B
      · have c1 := joinI_cases A B t.1; have c2 := joinI_cases A B t.2.1
        have : joinI A B t.1 = joinI A B t.2.1 := by omega
        rw [this]
      · obtain ⟨y, hy, k1, k2⟩ := spec_has (keyJ A B) (restW ws A B) t (List.mem_filter.2 ⟨ht, by
          simp only [atEnds, Bool.not_eq_true', Bool.and_eq_false_iff, beq_eq_false_iff_ne]
          by_cases h3 : t.1 = A
          · exact .inr fun h4 => hAt ⟨h3, h4⟩
          · exact .inl h3⟩)
        have hy2 := hS y hy
        rw [k1, k2] at hy2
        unfold keyJ at hy2
        simp only at hy2
        rcases Int.le_total (joinI A B t.1) (joinI A B t.2.1) with hh | hh
        · rw [Int.min_eq_left hh, Int.max_eq_right hh] at hy2; exact hy2
        · rw [Int.min_eq_right hh, Int.max_eq_left hh] at hy2; exact hy2.symm)
    have c := joinI_cases A B (upJ B v.toNat : Nat)
    have d := upJ_cases B v.toNat
    have : joinI A B (upJ B v.toNat : Nat) = v := by omega
    rw [this] at hst
    exact hst
/-- The trees of the joined network are the forests that part the two nodes. -/
theorem join_tree {N A B : Nat} {e s : Int} {ws : List W3} (hb : netB N e s ws = true) (hAB : A < B) (hB : B < N) (hs : sumC (fun _ _ => 1) ws ≤ 200) : treeR ((N - 1 : Nat) : Int) (endsJ e B) s (joinW ws A B) = forestR N e s ws A B := by
  obtain ⟨hN, h, hC⟩ := netB_iff.1 hb
  have h5 : N ≤ 5 := by unfold NumsV at hN; omega
  have hjn := join_net hb hAB hB hs
  obtain ⟨-, hJ, -⟩ := netB_iff.1 hjn
  rw [minI_tree hjn, forest_forD hb A B (by omega) hB]
  have hm : minI (lapM (N - 1) (joinW ws A B)) (N - 1) A = forD (lapM N ws) N A B := minor_join h5 hAB hB _ _ (fun i j hi hj hiA hjA => by
    have di := upJ_cases B i; have dj := upJ_cases B j
    rw [at2_lap _ hi hj, at2_lap ws (by omega) (by omega)]
    unfold lapE
    by_cases hij : i = j
    · subst hij
      rw [if_pos rfl, if_pos rfl]
      exact join_at h h5 hAB hB hJ i hi hiA
    · rw [if_neg hij, if_neg (by omega), join_btw h h5 hAB hJ i j hiA hjA hij])
  rw [← hm]
  by_cases h2 : 2 ≤ N - 1
  · exact (min_same hJ h2 (by omega) A (by omega)).symm
  · have : A = 0 := by omega
    subst this
    rfl

end Go.Proofs.Ytaececpphdaciaa

namespace Go.Proofs.Ytaececpphdaciaa
open Go.RowKit

theorem cut_yes2 {n e s : Int} {j : Nat} {ws : List W3} (hb : netB n e s ws = true) (hj : j < ws.length) : faultR n e s (j : Int) 0 ws = withR n e s (dropZ (fltW ws j 0)) := by
  have hgd : ws.getD ((j : Int)).toNat (0, 0, 0) = ws[j] := by rw [Int.toNat_natCast, List.getD_eq_getElem?_getD, List.getElem?_eq_getElem hj]; rfl
  have hw := (netB_iff.1 hb).2.1.1 j hj
  unfold wireV at hw
  rw [faultR_yes hb ⟨by omega, by omega, by rw [hgd]; omega⟩, Int.toNat_natCast]
theorem wires_some {N : Nat} {e s : Int} {ws : List W3} (hb : netB N e s ws = true) (h2 : 2 ≤ N) : 0 < ws.length := by
  obtain ⟨-, -, hC⟩ := netB_iff.1 hb
  cases ws with
  | cons t r => simp
  | nil =>
    exfalso
    have h := hC 1 (by omega) (by omega) (fun x => x = 0) rfl (fun t ht => by simp at ht)
    simp at h
theorem sum_small {ws : List W3} (h : ∀ t ∈ ws, 1 ≤ t.2.2 ∧ t.2.2 ≤ 8) : sumC (fun _ _ => 1) ws ≤ 8 * (ws.length : Int) := by
  induction ws with
  | nil => simp [sumC]
  | cons a r ih =>
    have h1 := ih (fun t ht => h t (by simp [ht]))
    have h2 := h a (by simp)
    rw [sumC_cons]
    simp only [List.length_cons]
    omega
theorem trees_join {N A B : Nat} {e s : Int} {ws : List W3} (hb : netB N e s ws = true) (hAB : A < B) (hB : B < N) (h6 : ∀ t ∈ ws, 1 ≤ t.2.2 ∧ t.2.2 ≤ 8) :
    joinR N e s A B ws = ((N : Int) - 1, endsJ e B, s, joinW ws A B, true) ∧ treeR ((N : Int) - 1) (endsJ e B) s (joinW ws A B) = forestR N e s ws A B := by
  obtain ⟨hN, hW, -⟩ := netB_iff.1 hb
  have h5 : N ≤ 5 := by unfold NumsV at hN; omega
  have hl : ws.length ≤ 25 := wires_few hW (by omega)
  have hs := sum_small h6
  have hjn := join_net hb hAB hB (by omega)
  have hjt := join_tree hb hAB hB (by omega)
  have hc : ((N - 1 : Nat) : Int) = (N : Int) - 1 := by omega
  rw [hc] at hjn hjt
  refine ⟨?_, hjt⟩
  rw [joinR_yes hb (by unfold JoinOk; omega)]
  exact withR_yes hjn
theorem count_pos {N : Nat} {e s : Int} {ws : List W3} (hb : netB N e s ws = true) : 1 ≤ countR N e s ws := by
  have ho : netB N e s (ones ws) = true := netB_weights hb (ones_length ws) fun k h1 h2 => by
    have : (ones ws)[k] = (ws[k].1, ws[k].2.1, 1) := by simp [ones, one1]
    rw [this]
    exact ⟨rfl, rfl, Int.le_refl _, (by show (1 : Int) ≤ 200; decide)⟩
  unfold countR
  rw [if_pos hb]
  exact tree_pos ho
theorem minor_one {N : Nat} {e s : Int} {ws : List W3} (hb : netB N e s ws = true) : minR (lapR N e s ws) [0] [0] = (wAt ws 0, true) := by
  obtain ⟨hN, hW, -⟩ := netB_iff.1 hb
  have h5 : N ≤ 5 := by unfold NumsV at hN; omega
  have h1 : 1 ≤ N := by unfold NumsV at hN; omega
  rw [lapR_yes hb, Int.toNat_natCast]
  unfold minR
  have hl : linB (lapM N ws).length [0] = true := linB_yes (by rw [lapM_length]; simp [linV]; omega)
  rw [if_pos ⟨matB_yes (lapM_ok hW h5), rfl, hl, hl⟩, det1]
  have h := at2_lap (N := N) ws (i := 0) (j := 0) (by omega) (by omega)
  rw [lapE, if_pos rfl] at h
  have h' : at2 (lapM N ws) 0 0 = wAt ws 0 := h
  rw [h']
/-- What the cut network adds. -/
theorem trees_cut {N A B : Nat} {e s : Int} {ws : List W3} {j : Nat} (hb : netB N e s ws = true) (hj : j < ws.length) (hA : ws[j].1 = A) (hB : ws[j].2.1 = B) :
    (faultR N e s (j : Int) 0 ws).2.2.2.2 = true ∧ treeR N e s ws = ws[j].2.2 * forestR N e s ws A B + treeR (faultR N e s (j : Int) 0 ws).1 (faultR N e s (j : Int) 0 ws).2.1 (faultR N e s (j : Int) 0 ws).2.2.1 (faultR N e s (j : Int) 0 ws).2.2.2.1 ∨
    (faultR N e s (j : Int) 0 ws).2.2.2.2 = false ∧ treeR N e s ws = ws[j].2.2 * forestR N e s ws A B := by
  have h := tree_cut hb hj
  rw [hA, hB] at h
  have hf : faultR N e s (j : Int) 0 ws = withR N e s (cutW ws j) := cut_yes2 hb hj
  by_cases hc : netB N e s (cutW ws j) = true
  · left
    rw [if_pos hc] at h
    rw [hf, withR_yes hc]
    exact ⟨rfl, h⟩
  · right
    rw [if_neg hc, Int.add_zero] at h
    rw [hf, withR_no (by simpa using hc)]
    exact ⟨rfl, h⟩
end Go.Proofs.Ytaececpphdaciaa
