/-
  PowerOf in the model.
-/
import Derived.Test.YtpfnlnllaapjeaaGPow
namespace Go.Proofs.Ytpfnlnllaapjeaa
open Go.RowKit

theorem s_sum {n d m e x y : Int} (h : rSum n d m e = (x, y)) (hn : In n ∧ In d) (hm : In m ∧ In e) (w : World) : Calls Try.prog 184 #[.agg #[.int .i64 n, .int .i64 d], .agg #[.int .i64 m, .int .i64 e]] w fun en w' => en = .returned (.agg #[.int .i64 x, .int .i64 y]) ∧ Below w.heap.size w w' := by
  have hc := spec_rSum n d m e w hn.1.1 hn.1.2 hn.2.1 hn.2.2 hm.1.1 hm.1.2 hm.2.1 hm.2.2
  rw [h] at hc; exact hc
theorem s_diff {n d m e x y : Int} (h : rDiff n d m e = (x, y)) (hn : In n ∧ In d) (hm : In m ∧ In e) (w : World) : Calls Try.prog 144 #[.agg #[.int .i64 n, .int .i64 d], .agg #[.int .i64 m, .int .i64 e]] w fun en w' => en = .returned (.agg #[.int .i64 x, .int .i64 y]) ∧ Below w.heap.size w w' := by
  have hc := spec_rDiff n d m e w hn.1.1 hn.1.2 hn.2.1 hn.2.2 hm.1.1 hm.1.2 hm.2.1 hm.2.2
  rw [h] at hc; exact hc
theorem s_times {n d m e x y : Int} (h : rTimes n d m e = (x, y)) (hn : In n ∧ In d) (hm : In m ∧ In e) (w : World) : Calls Try.prog 143 #[.agg #[.int .i64 n, .int .i64 d], .agg #[.int .i64 m, .int .i64 e]] w fun en w' => en = .returned (.agg #[.int .i64 x, .int .i64 y]) ∧ Below w.heap.size w w' := by
  have hc := spec_rTimes n d m e w hn.1.1 hn.1.2 hn.2.1 hn.2.2 hm.1.1 hm.1.2 hm.2.1 hm.2.2
  rw [h] at hc; exact hc
theorem t2_keep {B : Nat} {wa wb : World} {v0 v1 : Value} (hb : Below wa.heap.size wa wb) (h : wa.cell? ⟨B, 0, none⟩ = some v0 ∧ wa.cell? ⟨B, 1, none⟩ = some v1 ∧ (∀ o, wa.frozen? ⟨B, o, none⟩ = false) ∧ B < wa.heap.size) :
    wb.cell? ⟨B, 0, none⟩ = some v0 ∧ wb.cell? ⟨B, 1, none⟩ = some v1 ∧ (∀ o, wb.frozen? ⟨B, o, none⟩ = false) ∧ B < wb.heap.size :=
  ⟨(hb.cell (p := ⟨B, 0, none⟩) h.2.2.2).trans h.1, (hb.cell (p := ⟨B, 1, none⟩) h.2.2.2).trans h.2.1, fun o => (hb.frozen (p := ⟨B, o, none⟩) h.2.2.2).trans (h.2.2.1 o), Nat.lt_of_lt_of_le h.2.2.2 hb.size⟩
theorem t2_drew {B : Nat} {wa : World} {v0 v1 : Value} (h : wa.cell? ⟨B, 0, none⟩ = some v0 ∧ wa.cell? ⟨B, 1, none⟩ = some v1 ∧ (∀ o, wa.frozen? ⟨B, o, none⟩ = false) ∧ B < wa.heap.size) :
    wa.drew.cell? ⟨B, 0, none⟩ = some v0 ∧ wa.drew.cell? ⟨B, 1, none⟩ = some v1 ∧ (∀ o, wa.drew.frozen? ⟨B, o, none⟩ = false) ∧ B < wa.drew.heap.size := h
theorem t2_set {B : Nat} {wa : World} {a b c d : Int} (h : wa.cell? ⟨B, 0, none⟩ = some (.int .i64 c) ∧ wa.cell? ⟨B, 1, none⟩ = some (.int .i64 d) ∧ (∀ o, wa.frozen? ⟨B, o, none⟩ = false) ∧ B < wa.heap.size) :
    ((wa.setCell ⟨B, 0, none⟩ (.int .i64 a)).setCell ⟨B, 1, none⟩ (.int .i64 b)).cell? ⟨B, 0, none⟩ = some (.int .i64 a) ∧ ((wa.setCell ⟨B, 0, none⟩ (.int .i64 a)).setCell ⟨B, 1, none⟩ (.int .i64 b)).cell? ⟨B, 1, none⟩ = some (.int .i64 b) ∧ (∀ o, ((wa.setCell ⟨B, 0, none⟩ (.int .i64 a)).setCell ⟨B, 1, none⟩ (.int .i64 b)).frozen? ⟨B, o, none⟩ = false) ∧ B < ((wa.setCell ⟨B, 0, none⟩ (.int .i64 a)).setCell ⟨B, 1, none⟩ (.int .i64 b)).heap.size := by
  obtain ⟨n0, n1, nf, nk, ns⟩ := set2 (a := a) (b := b) h.1 h.2.1 h.2.2.1
  exact ⟨n0, n1, nf, by rw [ns]; exact h.2.2.2⟩
theorem ret_bad {p : P2} (h : p = (0, 0)) : Ending.returned (.tuple #[.agg #[.int .i64 0, .int .i64 0], .bool false]) = .returned (.tuple #[.agg #[.int .i64 p.1, .int .i64 p.2], .bool (rOk p.1 p.2)]) := by
  subst h; rfl
theorem ret_good {p : P2} {a b : Int} (h : p = (a, b)) (hk : rOk a b = true) : Ending.returned (.tuple #[.agg #[.int .i64 a, .int .i64 b], .bool true]) = .returned (.tuple #[.agg #[.int .i64 p.1, .int .i64 p.2], .bool (rOk p.1 p.2)]) := by
  subst h; rw [hk]
end Go.Proofs.Ytpfnlnllaapjeaa
