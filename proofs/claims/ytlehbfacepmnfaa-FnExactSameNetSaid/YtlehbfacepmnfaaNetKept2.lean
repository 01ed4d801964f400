/-
  Networks in memory, and what is kept of them.
-/
import Derived.Test.YtlehbfacepmnfaaWire
namespace Go.Proofs.Ytlehbfacepmnfaa
open Go.RowKit

theorem netk2_2 {w1 : World} {lo : Nat} {g0 g1 : Nat} {w0 w : World} {a0_0 a0_1 a0_2 a0_3 a1_0 a1_1 a1_2 a1_3 v0 v1 : Value} {r0 r1 : List W3} (h : Below w.heap.size w w1) (k : (w.cell? ⟨g0, 0, none⟩ = some a0_0 ∧ w.cell? ⟨g0, 1, none⟩ = some a0_1 ∧ w.cell? ⟨g0, 2, none⟩ = some a0_2 ∧ w.cell? ⟨g0, 3, none⟩ = some a0_3) ∧ (w.cell? ⟨g1, 0, none⟩ = some a1_0 ∧ w.cell? ⟨g1, 1, none⟩ = some a1_1 ∧ w.cell? ⟨g1, 2, none⟩ = some a1_2 ∧ w.cell? ⟨g1, 3, none⟩ = some a1_3) ∧ ReadsW w v0 r0 ∧ ReadsW w v1 r1 ∧ lo ≤ w.heap.size ∧ Below lo w0 w) :
    (w1.cell? ⟨g0, 0, none⟩ = some a0_0 ∧ w1.cell? ⟨g0, 1, none⟩ = some a0_1 ∧ w1.cell? ⟨g0, 2, none⟩ = some a0_2 ∧ w1.cell? ⟨g0, 3, none⟩ = some a0_3) ∧ (w1.cell? ⟨g1, 0, none⟩ = some a1_0 ∧ w1.cell? ⟨g1, 1, none⟩ = some a1_1 ∧ w1.cell? ⟨g1, 2, none⟩ = some a1_2 ∧ w1.cell? ⟨g1, 3, none⟩ = some a1_3) ∧ ReadsW w1 v0 r0 ∧ ReadsW w1 v1 r1 ∧ lo ≤ w1.heap.size ∧ Below lo w0 w1 := by
  obtain ⟨⟨x0_0, x0_1, x0_2, x0_3⟩, ⟨x1_0, x1_1, x1_2, x1_3⟩, q0, q1, s, b⟩ := k
  have sz := h.size
  have hg0 := World.block_lt_of_cell? w _ x0_0
  have hg1 := World.block_lt_of_cell? w _ x1_0
  refine ⟨⟨?_, ?_, ?_, ?_⟩, ⟨?_, ?_, ?_, ?_⟩, q0.later h, q1.later h, by omega, b.trans (h.mono s)⟩
  · exact (h.cell (p := ⟨g0, 0, none⟩) hg0).trans x0_0
  · exact (h.cell (p := ⟨g0, 1, none⟩) hg0).trans x0_1
  · exact (h.cell (p := ⟨g0, 2, none⟩) hg0).trans x0_2
  · exact (h.cell (p := ⟨g0, 3, none⟩) hg0).trans x0_3
  · exact (h.cell (p := ⟨g1, 0, none⟩) hg1).trans x1_0
  · exact (h.cell (p := ⟨g1, 1, none⟩) hg1).trans x1_1
  · exact (h.cell (p := ⟨g1, 2, none⟩) hg1).trans x1_2
  · exact (h.cell (p := ⟨g1, 3, none⟩) hg1).trans x1_3
theorem netd2_2 {lo : Nat} {g0 g1 : Nat} {w0 w : World} {a0_0 a0_1 a0_2 a0_3 a1_0 a1_1 a1_2 a1_3 v0 v1 : Value} {r0 r1 : List W3} (k : (w.cell? ⟨g0, 0, none⟩ = some a0_0 ∧ w.cell? ⟨g0, 1, none⟩ = some a0_1 ∧ w.cell? ⟨g0, 2, none⟩ = some a0_2 ∧ w.cell? ⟨g0, 3, none⟩ = some a0_3) ∧ (w.cell? ⟨g1, 0, none⟩ = some a1_0 ∧ w.cell? ⟨g1, 1, none⟩ = some a1_1 ∧ w.cell? ⟨g1, 2, none⟩ = some a1_2 ∧ w.cell? ⟨g1, 3, none⟩ = some a1_3) ∧ ReadsW w v0 r0 ∧ ReadsW w v1 r1 ∧ lo ≤ w.heap.size ∧ Below lo w0 w) :
    (w.drew.cell? ⟨g0, 0, none⟩ = some a0_0 ∧ w.drew.cell? ⟨g0, 1, none⟩ = some a0_1 ∧ w.drew.cell? ⟨g0, 2, none⟩ = some a0_2 ∧ w.drew.cell? ⟨g0, 3, none⟩ = some a0_3) ∧ (w.drew.cell? ⟨g1, 0, none⟩ = some a1_0 ∧ w.drew.cell? ⟨g1, 1, none⟩ = some a1_1 ∧ w.drew.cell? ⟨g1, 2, none⟩ = some a1_2 ∧ w.drew.cell? ⟨g1, 3, none⟩ = some a1_3) ∧ ReadsW w.drew v0 r0 ∧ ReadsW w.drew v1 r1 ∧ lo ≤ w.drew.heap.size ∧ Below lo w0 w.drew := by
  obtain ⟨⟨x0_0, x0_1, x0_2, x0_3⟩, ⟨x1_0, x1_1, x1_2, x1_3⟩, q0, q1, s, b⟩ := k
  exact ⟨⟨x0_0, x0_1, x0_2, x0_3⟩, ⟨x1_0, x1_1, x1_2, x1_3⟩, q0, q1, s, below_draws b 1⟩
theorem netk4_4 {w1 : World} {lo : Nat} {g0 g1 g2 g3 : Nat} {w0 w : World} {a0_0 a0_1 a0_2 a0_3 a1_0 a1_1 a1_2 a1_3 a2_0 a2_1 a2_2 a2_3 a3_0 a3_1 a3_2 a3_3 v0 v1 v2 v3 : Value} {r0 r1 r2 r3 : List W3} (h : Below w.heap.size w w1) (k : (w.cell? ⟨g0, 0, none⟩ = some a0_0 ∧ w.cell? ⟨g0, 1, none⟩ = some a0_1 ∧ w.cell? ⟨g0, 2, none⟩ = some a0_2 ∧ w.cell? ⟨g0, 3, none⟩ = some a0_3) ∧ (w.cell? ⟨g1, 0, none⟩ = some a1_0 ∧ w.cell? ⟨g1, 1, none⟩ = some a1_1 ∧ w.cell? ⟨g1, 2, none⟩ = some a1_2 ∧ w.cell? ⟨g1, 3, none⟩ = some a1_3) ∧ (w.cell? ⟨g2, 0, none⟩ = some a2_0 ∧ w.cell? ⟨g2, 1, none⟩ = some a2_1 ∧ w.cell? ⟨g2, 2, none⟩ = some a2_2 ∧ w.cell? ⟨g2, 3, none⟩ = some a2_3) ∧ (w.cell? ⟨g3, 0, none⟩ = some a3_0 ∧ w.cell? ⟨g3, 1, none⟩ = some a3_1 ∧ w.cell? ⟨g3, 2, none⟩ = some a3_2 ∧ w.cell? ⟨g3, 3, none⟩ = some a3_3) ∧ ReadsW w v0 r0 ∧ ReadsW w v1 r1 ∧ ReadsW w v2 r2 ∧ ReadsW w v3 r3 ∧ lo ≤ w.heap.size ∧ Below lo w0 w) :
    (w1.cell? ⟨g0, 0, none⟩ = some a0_0 ∧ w1.cell? ⟨g0, 1, none⟩ = some a0_1 ∧ w1.cell? ⟨g0, 2, none⟩ = some a0_2 ∧ w1.cell? ⟨g0, 3, none⟩ = some a0_3) ∧ (w1.cell? ⟨g1, 0, none⟩ = some a1_0 ∧ w1.cell? ⟨g1, 1, none⟩ = some a1_1 ∧ w1.cell? ⟨g1, 2, none⟩ = some a1_2 ∧ w1.cell? ⟨g1, 3, none⟩ = some a1_3) ∧ (w1.cell? ⟨g2, 0, none⟩ = some a2_0 ∧ w1.cell? ⟨g2, 1, none⟩ = some a2_1 ∧ w1.cell? ⟨g2, 2, none⟩ = some a2_2 ∧ w1.cell? ⟨g2, 3, none⟩ = some a2_3) ∧ (w1.cell? ⟨g3, 0, none⟩ = some a3_0 ∧ w1.cell? ⟨g3, 1, none⟩ = some a3_1 ∧ w1.cell? ⟨g3, 2, none⟩ = some a3_2 ∧ w1.cell? ⟨g3, 3, none⟩ = some a3_3) ∧ ReadsW w1 v0 r0 ∧ ReadsW w1 v1 r1 ∧ ReadsW w1 v2 r2 ∧ ReadsW w1 v3 r3 ∧ lo ≤ w1.heap.size ∧ Below lo w0 w1 := by
  obtain ⟨⟨x0_0, x0_1, x0_2, x0_3⟩, ⟨x1_0, x1_1, x1_2, x1_3⟩, ⟨x2_0, x2_1, x2_2, x2_3⟩, ⟨x3_0, x3_1, x3_2, x3_3⟩, q0, q1, q2, q3, s, b⟩ := k
  have sz := h.size
  have hg0 := World.block_lt_of_cell? w _ x0_0
  have hg1 := World.block_lt_of_cell? w _ x1_0
  have hg2 := World.block_lt_of_cell? w _ x2_0
  have hg3 := World.block_lt_of_cell? w _ x3_0
  refine ⟨⟨?_, ?_, ?_, ?_⟩, ⟨?_, ?_, ?_, ?_⟩, ⟨?_, ?_, ?_, ?_⟩, ⟨?_, ?_, ?_, ?_⟩, q0.later h, q1.later h, q2.later h, q3.later h, by omega, b.trans (h.mono s)⟩
  · exact (h.cell (p := ⟨g0, 0, none⟩) hg0).trans x0_0
  · exact (h.cell (p := ⟨g0, 1, none⟩) hg0).trans x0_1
  · exact (h.cell (p := ⟨g0, 2, none⟩) hg0).trans x0_2
  · exact (h.cell (p := ⟨g0, 3, none⟩) hg0).trans x0_3
  · exact (h.cell (p := ⟨g1, 0, none⟩) hg1).trans x1_0
  · exact (h.cell (p := ⟨g1, 1, none⟩) hg1).trans x1_1
  · exact (h.cell (p := ⟨g1, 2, none⟩) hg1).trans x1_2
  · exact (h.cell (p := ⟨g1, 3, none⟩) hg1).trans x1_3
  · exact (h.cell (p := ⟨g2, 0, none⟩) hg2).trans x2_0
  · exact (h.cell (p := ⟨g2, 1, none⟩) hg2).trans x2_1
  · exact (h.cell (p := ⟨g2, 2, none⟩) hg2).trans x2_2
  · exact (h.cell (p := ⟨g2, 3, none⟩) hg2).trans x2_3
  · exact (h.cell (p := ⟨g3, 0, none⟩) hg3).trans x3_0
  · exact (h.cell (p := ⟨g3, 1, none⟩) hg3).trans x3_1
  · exact (h.cell (p := ⟨g3, 2, none⟩) hg3).trans x3_2
  · exact (h.cell (p := ⟨g3, 3, none⟩) hg3).trans x3_3
theorem netd4_4 {lo : Nat} {g0 g1 g2 g3 : Nat} {w0 w : World} {a0_0 a0_1 a0_2 a0_3 a1_0 a1_1 a1_2 a1_3 a2_0 a2_1 a2_2 a2_3 a3_0 a3_1 a3_2 a3_3 v0 v1 v2 v3 : Value} {r0 r1 r2 r3 : List W3} (k : (w.cell? ⟨g0, 0, none⟩ = some a0_0 ∧ w.cell? ⟨g0, 1, none⟩ = some a0_1 ∧ w.cell? ⟨g0, 2, none⟩ = some a0_2 ∧ w.cell? ⟨g0, 3, none⟩ = some a0_3) ∧ (w.cell? ⟨g1, 0, none⟩ = some a1_0 ∧ w.cell? ⟨g1, 1, none⟩ = some a1_1 ∧ w.cell? ⟨g1, 2, none⟩ = some a1_2 ∧ w.cell? ⟨g1, 3, none⟩ = some a1_3) ∧ (w.cell? ⟨g2, 0, none⟩ = some a2_0 ∧ w.cell? ⟨g2, 1, none⟩ = some a2_1 ∧ w.cell? ⟨g2, 2, none⟩ = some a2_2 ∧ w.cell? ⟨g2, 3, none⟩ = some a2_3) ∧ (w.cell? ⟨g3, 0, none⟩ = some a3_0 ∧ w.cell? ⟨g3, 1, none⟩ = some a3_1 ∧ w.cell? ⟨g3, 2, none⟩ = some a3_2 ∧ w.cell? ⟨g3, 3, none⟩ = some a3_3) ∧ ReadsW w v0 r0 ∧ ReadsW w v1 r1 ∧ ReadsW w v2 r2 ∧ ReadsW w v3 r3 ∧ lo ≤ w.heap.size ∧ Below lo w0 w) :
    (w.drew.cell? ⟨g0, 0, none⟩ = some a0_0 ∧ w.drew.cell? ⟨g0, 1, none⟩ = some a0_1 ∧ w.drew.cell? ⟨g0, 2, none⟩ = some a0_2 ∧ w.drew.cell? ⟨g0, 3, none⟩ = some a0_3) ∧ (w.drew.cell? ⟨g1, 0, none⟩ = some a1_0 ∧ w.drew.cell? ⟨g1, 1, none⟩ = some a1_1 ∧ w.drew.cell? ⟨g1, 2, none⟩ = some a1_2 ∧ w.drew.cell? ⟨g1, 3, none⟩ = some a1_3) ∧ (w.drew.cell? ⟨g2, 0, none⟩ = some a2_0 ∧ w.drew.cell? ⟨g2, 1, none⟩ = some a2_1 ∧ w.drew.cell? ⟨g2, 2, none⟩ = some a2_2 ∧ w.drew.cell? ⟨g2, 3, none⟩ = some a2_3) ∧ (w.drew.cell? ⟨g3, 0, none⟩ = some a3_0 ∧ w.drew.cell? ⟨g3, 1, none⟩ = some a3_1 ∧ w.drew.cell? ⟨g3, 2, none⟩ = some a3_2 ∧ w.drew.cell? ⟨g3, 3, none⟩ = some a3_3) ∧ ReadsW w.drew v0 r0 ∧ ReadsW w.drew v1 r1 ∧ ReadsW w.drew v2 r2 ∧ ReadsW w.drew v3 r3 ∧ lo ≤ w.drew.heap.size ∧ Below lo w0 w.drew := by
  obtain ⟨⟨x0_0, x0_1, x0_2, x0_3⟩, ⟨x1_0, x1_1, x1_2, x1_3⟩, ⟨x2_0, x2_1, x2_2, x2_3⟩, ⟨x3_0, x3_1, x3_2, x3_3⟩, q0, q1, q2, q3, s, b⟩ := k
  exact ⟨⟨x0_0, x0_1, x0_2, x0_3⟩, ⟨x1_0, x1_1, x1_2, x1_3⟩, ⟨x2_0, x2_1, x2_2, x2_3⟩, ⟨x3_0, x3_1, x3_2, x3_3⟩, q0, q1, q2, q3, s, below_draws b 1⟩
end Go.Proofs.Ytlehbfacepmnfaa
