/-
  Two networks in memory, and what is kept of them.
-/
import Derived.Test.YtnbbmpilpeakiaaWire
namespace Go.Proofs.Ytnbbmpilpeakiaa
open Go.RowKit

theorem net2_keep {lo g q : Nat} {w0 w w1 : World} {a0 a1 a2 a3 b0 b1 b2 b3 va vb : Value} {ws vs : List W3} (h : Below w.heap.size w w1)
    (k : (w.cell? ⟨g, 0, none⟩ = some a0 ∧ w.cell? ⟨g, 1, none⟩ = some a1 ∧ w.cell? ⟨g, 2, none⟩ = some a2 ∧ w.cell? ⟨g, 3, none⟩ = some a3) ∧ (w.cell? ⟨q, 0, none⟩ = some b0 ∧ w.cell? ⟨q, 1, none⟩ = some b1 ∧ w.cell? ⟨q, 2, none⟩ = some b2 ∧ w.cell? ⟨q, 3, none⟩ = some b3) ∧ ReadsW w va ws ∧ ReadsW w vb vs ∧ lo ≤ w.heap.size ∧ Below lo w0 w) :
    (w1.cell? ⟨g, 0, none⟩ = some a0 ∧ w1.cell? ⟨g, 1, none⟩ = some a1 ∧ w1.cell? ⟨g, 2, none⟩ = some a2 ∧ w1.cell? ⟨g, 3, none⟩ = some a3) ∧ (w1.cell? ⟨q, 0, none⟩ = some b0 ∧ w1.cell? ⟨q, 1, none⟩ = some b1 ∧ w1.cell? ⟨q, 2, none⟩ = some b2 ∧ w1.cell? ⟨q, 3, none⟩ = some b3) ∧ ReadsW w1 va ws ∧ ReadsW w1 vb vs ∧ lo ≤ w1.heap.size ∧ Below lo w0 w1 := by
  obtain ⟨⟨x0, x1, x2, x3⟩, ⟨y0, y1, y2, y3⟩, ra, rb, s, b⟩ := k
  have hg := World.block_lt_of_cell? w _ x0
  have hq := World.block_lt_of_cell? w _ y0
  have sz := h.size
  refine ⟨⟨?_, ?_, ?_, ?_⟩, ⟨?_, ?_, ?_, ?_⟩, ra.later h, rb.later h, by omega, b.trans (h.mono s)⟩
  · exact (h.cell (p := ⟨g, 0, none⟩) hg).trans x0
  · exact (h.cell (p := ⟨g, 1, none⟩) hg).trans x1
  · exact (h.cell (p := ⟨g, 2, none⟩) hg).trans x2
  · exact (h.cell (p := ⟨g, 3, none⟩) hg).trans x3
  · exact (h.cell (p := ⟨q, 0, none⟩) hq).trans y0
  · exact (h.cell (p := ⟨q, 1, none⟩) hq).trans y1
  · exact (h.cell (p := ⟨q, 2, none⟩) hq).trans y2
  · exact (h.cell (p := ⟨q, 3, none⟩) hq).trans y3
theorem net2_drew {lo g q : Nat} {w0 w : World} {a0 a1 a2 a3 b0 b1 b2 b3 va vb : Value} {ws vs : List W3}
    (k : (w.cell? ⟨g, 0, none⟩ = some a0 ∧ w.cell? ⟨g, 1, none⟩ = some a1 ∧ w.cell? ⟨g, 2, none⟩ = some a2 ∧ w.cell? ⟨g, 3, none⟩ = some a3) ∧ (w.cell? ⟨q, 0, none⟩ = some b0 ∧ w.cell? ⟨q, 1, none⟩ = some b1 ∧ w.cell? ⟨q, 2, none⟩ = some b2 ∧ w.cell? ⟨q, 3, none⟩ = some b3) ∧ ReadsW w va ws ∧ ReadsW w vb vs ∧ lo ≤ w.heap.size ∧ Below lo w0 w) :
    (w.drew.cell? ⟨g, 0, none⟩ = some a0 ∧ w.drew.cell? ⟨g, 1, none⟩ = some a1 ∧ w.drew.cell? ⟨g, 2, none⟩ = some a2 ∧ w.drew.cell? ⟨g, 3, none⟩ = some a3) ∧ (w.drew.cell? ⟨q, 0, none⟩ = some b0 ∧ w.drew.cell? ⟨q, 1, none⟩ = some b1 ∧ w.drew.cell? ⟨q, 2, none⟩ = some b2 ∧ w.drew.cell? ⟨q, 3, none⟩ = some b3) ∧ ReadsW w.drew va ws ∧ ReadsW w.drew vb vs ∧ lo ≤ w.drew.heap.size ∧ Below lo w0 w.drew :=
  ⟨k.1, k.2.1, k.2.2.1, k.2.2.2.1, k.2.2.2.2.1, below_draws k.2.2.2.2.2 1⟩
end Go.Proofs.Ytnbbmpilpeakiaa
