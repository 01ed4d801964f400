/-
  A network in a box beside a fraction that is to be answered; how large the sums over trees are.
-/
import Derived.Test.YtaececpphdaciaaGKir
import Derived.Test.YtaececpphdaciaaForestImpl
import Derived.Test.YtaececpphdaciaaGForest
import Derived.Test.YtaececpphdaciaaGRatS
import Derived.Test.YtaececpphdaciaaGRat
namespace Go.Proofs.Ytaececpphdaciaa
open Go.RowKit

variable {n e s : Int} {p : Option Addr} {ws : List W3} {cap B : Nat} {w wa wb : World}

theorem nb_keep (hb : Below wa.heap.size wa wb) (h : wa.cell? ⟨B, 0, none⟩ = some (.int .i64 n) ∧ wa.cell? ⟨B, 1, none⟩ = some (.int .i64 e) ∧ wa.cell? ⟨B, 2, none⟩ = some (.int .i64 s) ∧ wa.cell? ⟨B, 3, none⟩ = some (.slice p ws.length cap) ∧ (∃ z0 z1, wa.cell? ⟨B + 1, 0, none⟩ = some z0 ∧ wa.cell? ⟨B + 1, 1, none⟩ = some z1 ∧ wa.frozen? ⟨B + 1, 0, none⟩ = false ∧ wa.frozen? ⟨B + 1, 1, none⟩ = false) ∧ B + 1 < wa.heap.size ∧ Below B w wa) :
    wb.cell? ⟨B, 0, none⟩ = some (.int .i64 n) ∧ wb.cell? ⟨B, 1, none⟩ = some (.int .i64 e) ∧ wb.cell? ⟨B, 2, none⟩ = some (.int .i64 s) ∧ wb.cell? ⟨B, 3, none⟩ = some (.slice p ws.length cap) ∧ (∃ z0 z1, wb.cell? ⟨B + 1, 0, none⟩ = some z0 ∧ wb.cell? ⟨B + 1, 1, none⟩ = some z1 ∧ wb.frozen? ⟨B + 1, 0, none⟩ = false ∧ wb.frozen? ⟨B + 1, 1, none⟩ = false) ∧ B + 1 < wb.heap.size ∧ Below B w wb := by
  obtain ⟨a, b, c, d, ⟨u, v, g, g', x, y⟩, s', hB⟩ := h
  have := hb.size
  refine ⟨?_, ?_, ?_, ?_, ⟨u, v, ?_, ?_, ?_, ?_⟩, by omega, hB.trans (hb.mono (by omega))⟩
  · rw [hb.cell (p := ⟨B, 0, none⟩) (show B < _ by omega)]; exact a
  · rw [hb.cell (p := ⟨B, 1, none⟩) (show B < _ by omega)]; exact b
  · rw [hb.cell (p := ⟨B, 2, none⟩) (show B < _ by omega)]; exact c
  · rw [hb.cell (p := ⟨B, 3, none⟩) (show B < _ by omega)]; exact d
  · rw [hb.cell (p := ⟨B + 1, 0, none⟩) s']; exact g
  · rw [hb.cell (p := ⟨B + 1, 1, none⟩) s']; exact g'
  · rw [hb.frozen (p := ⟨B + 1, 0, none⟩) s']; exact x
  · rw [hb.frozen (p := ⟨B + 1, 1, none⟩) s']; exact y
theorem nb_drew (h : wa.cell? ⟨B, 0, none⟩ = some (.int .i64 n) ∧ wa.cell? ⟨B, 1, none⟩ = some (.int .i64 e) ∧ wa.cell? ⟨B, 2, none⟩ = some (.int .i64 s) ∧ wa.cell? ⟨B, 3, none⟩ = some (.slice p ws.length cap) ∧ (∃ z0 z1, wa.cell? ⟨B + 1, 0, none⟩ = some z0 ∧ wa.cell? ⟨B + 1, 1, none⟩ = some z1 ∧ wa.frozen? ⟨B + 1, 0, none⟩ = false ∧ wa.frozen? ⟨B + 1, 1, none⟩ = false) ∧ B + 1 < wa.heap.size ∧ Below B w wa) :
    wa.drew.cell? ⟨B, 0, none⟩ = some (.int .i64 n) ∧ wa.drew.cell? ⟨B, 1, none⟩ = some (.int .i64 e) ∧ wa.drew.cell? ⟨B, 2, none⟩ = some (.int .i64 s) ∧ wa.drew.cell? ⟨B, 3, none⟩ = some (.slice p ws.length cap) ∧ (∃ z0 z1, wa.drew.cell? ⟨B + 1, 0, none⟩ = some z0 ∧ wa.drew.cell? ⟨B + 1, 1, none⟩ = some z1 ∧ wa.drew.frozen? ⟨B + 1, 0, none⟩ = false ∧ wa.drew.frozen? ⟨B + 1, 1, none⟩ = false) ∧ B + 1 < wa.drew.heap.size ∧ Below B w wa.drew := ⟨h.1, h.2.1, h.2.2.1, h.2.2.2.1, h.2.2.2.2.1, h.2.2.2.2.2.1, h.2.2.2.2.2.2.drew⟩
theorem nb_set {j : Nat} {v : Value} (h : wa.cell? ⟨B, 0, none⟩ = some (.int .i64 n) ∧ wa.cell? ⟨B, 1, none⟩ = some (.int .i64 e) ∧ wa.cell? ⟨B, 2, none⟩ = some (.int .i64 s) ∧ wa.cell? ⟨B, 3, none⟩ = some (.slice p ws.length cap) ∧ (∃ z0 z1, wa.cell? ⟨B + 1, 0, none⟩ = some z0 ∧ wa.cell? ⟨B + 1, 1, none⟩ = some z1 ∧ wa.frozen? ⟨B + 1, 0, none⟩ = false ∧ wa.frozen? ⟨B + 1, 1, none⟩ = false) ∧ B + 1 < wa.heap.size ∧ Below B w wa) :
    (wa.setCell ⟨B + 1, j, none⟩ v).cell? ⟨B, 0, none⟩ = some (.int .i64 n) ∧ (wa.setCell ⟨B + 1, j, none⟩ v).cell? ⟨B, 1, none⟩ = some (.int .i64 e) ∧ (wa.setCell ⟨B + 1, j, none⟩ v).cell? ⟨B, 2, none⟩ = some (.int .i64 s) ∧ (wa.setCell ⟨B + 1, j, none⟩ v).cell? ⟨B, 3, none⟩ = some (.slice p ws.length cap) ∧ (∃ z0 z1, (wa.setCell ⟨B + 1, j, none⟩ v).cell? ⟨B + 1, 0, none⟩ = some z0 ∧ (wa.setCell ⟨B + 1, j, none⟩ v).cell? ⟨B + 1, 1, none⟩ = some z1 ∧ (wa.setCell ⟨B + 1, j, none⟩ v).frozen? ⟨B + 1, 0, none⟩ = false ∧ (wa.setCell ⟨B + 1, j, none⟩ v).frozen? ⟨B + 1, 1, none⟩ = false) ∧ B + 1 < (wa.setCell ⟨B + 1, j, none⟩ v).heap.size ∧ Below B w (wa.setCell ⟨B + 1, j, none⟩ v) := by
  obtain ⟨a, b, c, d, ⟨u, u', g, g', x, y⟩, s', hB⟩ := h
  refine ⟨by rw [World.cell?_setCell_far _ _ _ _ (show B + 1 ≠ B by omega)]; exact a, by rw [World.cell?_setCell_far _ _ _ _ (show B + 1 ≠ B by omega)]; exact b, by rw [World.cell?_setCell_far _ _ _ _ (show B + 1 ≠ B by omega)]; exact c, by rw [World.cell?_setCell_far _ _ _ _ (show B + 1 ≠ B by omega)]; exact d, ?_, by simpa using s', hB.setCell (show B ≤ B + 1 by omega) _⟩
  by_cases h0 : j = 0
  · subst h0
    exact ⟨v, u', World.cell?_setCell_same _ _ _ g, (World.cell?_setCell_other _ _ _ _ (by simp)).trans g', by simpa using x, by simpa using y⟩
  · by_cases h1 : j = 1
    · subst h1
      exact ⟨u, v, (World.cell?_setCell_other _ _ _ _ (by simp)).trans g, World.cell?_setCell_same _ _ _ g', by simpa using x, by simpa using y⟩
    · exact ⟨u, u', (World.cell?_setCell_other _ _ _ _ (by first | (simp; done) | (simp; omega))).trans g, (World.cell?_setCell_other _ _ _ _ (by first | (simp; done) | (simp; omega))).trans g', by simpa using x, by simpa using y⟩
theorem nb_new {t u : TypeId} : ((w.alloc (.cells #[.int .i64 n, .int .i64 e, .int .i64 s, .slice p ws.length cap] t)).alloc (.cells #[.int .i64 0, .int .i64 0] u)).cell? ⟨w.heap.size, 0, none⟩ = some (.int .i64 n) ∧ ((w.alloc (.cells #[.int .i64 n, .int .i64 e, .int .i64 s, .slice p ws.length cap] t)).alloc (.cells #[.int .i64 0, .int .i64 0] u)).cell? ⟨w.heap.size, 1, none⟩ = some (.int .i64 e) ∧ ((w.alloc (.cells #[.int .i64 n, .int .i64 e, .int .i64 s, .slice p ws.length cap] t)).alloc (.cells #[.int .i64 0, .int .i64 0] u)).cell? ⟨w.heap.size, 2, none⟩ = some (.int .i64 s) ∧ ((w.alloc (.cells #[.int .i64 n, .int .i64 e, .int .i64 s, .slice p ws.length cap] t)).alloc (.cells #[.int .i64 0, .int .i64 0] u)).cell? ⟨w.heap.size, 3, none⟩ = some (.slice p ws.length cap) ∧ (∃ z0 z1, ((w.alloc (.cells #[.int .i64 n, .int .i64 e, .int .i64 s, .slice p ws.length cap] t)).alloc (.cells #[.int .i64 0, .int .i64 0] u)).cell? ⟨w.heap.size + 1, 0, none⟩ = some z0 ∧ ((w.alloc (.cells #[.int .i64 n, .int .i64 e, .int .i64 s, .slice p ws.length cap] t)).alloc (.cells #[.int .i64 0, .int .i64 0] u)).cell? ⟨w.heap.size + 1, 1, none⟩ = some z1 ∧ ((w.alloc (.cells #[.int .i64 n, .int .i64 e, .int .i64 s, .slice p ws.length cap] t)).alloc (.cells #[.int .i64 0, .int .i64 0] u)).frozen? ⟨w.heap.size + 1, 0, none⟩ = false ∧ ((w.alloc (.cells #[.int .i64 n, .int .i64 e, .int .i64 s, .slice p ws.length cap] t)).alloc (.cells #[.int .i64 0, .int .i64 0] u)).frozen? ⟨w.heap.size + 1, 1, none⟩ = false) ∧ w.heap.size + 1 < ((w.alloc (.cells #[.int .i64 n, .int .i64 e, .int .i64 s, .slice p ws.length cap] t)).alloc (.cells #[.int .i64 0, .int .i64 0] u)).heap.size ∧ Below w.heap.size w ((w.alloc (.cells #[.int .i64 n, .int .i64 e, .int .i64 s, .slice p ws.length cap] t)).alloc (.cells #[.int .i64 0, .int .i64 0] u)) := by
  exact ⟨by simp [go_sem], by simp [go_sem], by simp [go_sem], by simp [go_sem], ⟨.int .i64 0, .int .i64 0, by simp [go_sem], by simp [go_sem], by simp [go_sem], by simp [go_sem]⟩, by simp, by (repeat (first | exact Below.refl _ _ | (refine Below.setCell ?_ (by (first | exact Nat.le_refl _ | omega | (simp <;> omega) | simp)) _) | (refine Below.alloc ?_ (by (first | exact Nat.le_refl _ | omega | (simp <;> omega) | simp)) _) | (refine below_draws ?_ _)))⟩

/-! ### a bound that hangs on the entries -/
def fac : Nat → Int
  | 0 => 1
  | n + 1 => ((n + 1 : Nat) : Int) * fac n
def pow (E : Int) : Nat → Int
  | 0 => 1
  | n + 1 => E * pow E n
theorem fac_pos (n : Nat) : 0 < fac n := by
  induction n with
  | zero => decide
  | succ n ih => unfold fac; exact Int.mul_pos (by omega) ih
theorem pow_pos {E : Int} (hE : 0 ≤ E) (n : Nat) : 0 ≤ pow E n := by
  induction n with
  | zero => show (0 : Int) ≤ 1; decide
  | succ n ih => unfold pow; exact Int.mul_nonneg hE ih
theorem detD_leE {m : MatI} {E : Int} (hE : 0 ≤ E) (hm : ∀ r c, -E ≤ at2 m r c ∧ at2 m r c ≤ E) : ∀ (rows cols : List Int), rows.length = cols.length → -(fac rows.length * pow E rows.length) ≤ detD m rows cols ∧ detD m rows cols ≤ fac rows.length * pow E rows.length
  | [], _, _ => by simp [detD, fac, pow]
  | r :: rs, cols, hl => by
    simp only [List.length_cons] at hl
    have hf : ∀ q : List Int, q.length = rs.length → -(fac rs.length * pow E rs.length) ≤ detD m rs q ∧ detD m rs q ≤ fac rs.length * pow E rs.length := fun q hq => detD_leE hE hm rs q hq.symm
    have key : ∀ k, k ≤ cols.length → -(k * (E * (fac rs.length * pow E rs.length))) ≤ detP m (detD m rs) r cols k ∧ detP m (detD m rs) r cols k ≤ k * (E * (fac rs.length * pow E rs.length)) := by
      intro k
      induction k with
      | zero => intro _; simp [detP]
      | succ k ih =>
        intro hk
        have ih := ih (by omega)
        have h1 : -E ≤ sgn k * at2 m r (cols.getD k 0) ∧ sgn k * at2 m r (cols.getD k 0) ≤ E := by
          have := hm r (cols.getD k 0)
          rcases sgn_cases k with e | e <;> rw [e] <;> omega
        have h2 := hf (cols.eraseIdx k) (by rw [List.length_eraseIdx, if_pos (by omega)]; omega)
        have h3 := mul_le2 h1 h2
        have e : ((k + 1 : Nat) : Int) * (E * (fac rs.length * pow E rs.length)) = k * (E * (fac rs.length * pow E rs.length)) + E * (fac rs.length * pow E rs.length) := by
          rw [Int.natCast_add, Int.add_mul]; simp
        unfold detP
        rw [e]
        omega
    have h := key cols.length (Nat.le_refl _)
    have e : fac (rs.length + 1) * pow E (rs.length + 1) = (cols.length : Int) * (E * (fac rs.length * pow E rs.length)) := by
      show ((rs.length + 1 : Nat) : Int) * fac rs.length * (E * pow E rs.length) = _
      rw [hl]; grind
    show -(fac (rs.length + 1) * pow E (rs.length + 1)) ≤ detP m (detD m rs) r cols cols.length ∧ detP m (detD m rs) r cols cols.length ≤ fac (rs.length + 1) * pow E (rs.length + 1)
    rw [e]
    exact h

/-! ### ranges -/
theorem det_range {N : Nat} {ws : List W3} (h : WiresV N ws) (hN : N ≤ 5) (rows cols : List Int) (hl : rows.length = cols.length) (h4 : rows.length ≤ 4) : -24000000000000 ≤ detD (lapM N ws) rows cols ∧ detD (lapM N ws) rows cols ≤ 24000000000000 := by
  have hb := detD_leE (m := lapM N ws) (E := 1000) (by omega) (fun r c => at2_le (lapM_ok h hN) r c) rows cols hl
  have hk : rows.length = 0 ∨ rows.length = 1 ∨ rows.length = 2 ∨ rows.length = 3 ∨ rows.length = 4 := by omega
  rcases hk with hk | hk | hk | hk | hk <;> rw [hk] at hb <;> simp [fac, pow] at hb <;> omega
theorem det_range3 {N : Nat} {ws : List W3} (h : WiresV N ws) (hN : N ≤ 5) (rows cols : List Int) (hl : rows.length = cols.length) (h4 : rows.length ≤ 3) : -6000000000 ≤ detD (lapM N ws) rows cols ∧ detD (lapM N ws) rows cols ≤ 6000000000 := by
  have hb := detD_leE (m := lapM N ws) (E := 1000) (by omega) (fun r c => at2_le (lapM_ok h hN) r c) rows cols hl
  have hk : rows.length = 0 ∨ rows.length = 1 ∨ rows.length = 2 ∨ rows.length = 3 := by omega
  rcases hk with hk | hk | hk | hk <;> rw [hk] at hb <;> simp [fac, pow] at hb <;> omega
theorem tree_range (n e s : Int) (ws : List W3) : -24000000000000 ≤ treeR n e s ws ∧ treeR n e s ws ≤ 24000000000000 := by
  unfold treeR
  by_cases hb : netB n e s ws = true
  · rw [if_pos hb]
    obtain ⟨N, rfl, h1, h5, hw⟩ := net_small hb
    rw [Int.toNat_natCast]
    have hl := woL_len (N := N) (q := [0]) (by simp) (by simp; omega)
    exact det_range hw h5 _ _ rfl (by rw [hl]; simp; omega)
  · rw [if_neg hb]; omega
theorem forest_range (n e s : Int) (ws : List W3) (a b : Int) : -6000000000 ≤ forestR n e s ws a b ∧ forestR n e s ws a b ≤ 6000000000 := by
  unfold forestR
  by_cases hb : netB n e s ws = true ∧ 0 ≤ a ∧ a < n ∧ 0 ≤ b ∧ b < n ∧ a ≠ b
  · rw [if_pos hb]
    obtain ⟨hb, h⟩ := hb
    obtain ⟨N, rfl, h1, h5, hw⟩ := net_small hb
    rw [Int.toNat_natCast]
    have hl := woL_two (N := N) (a := a) (b := b) (by omega) (by omega) (by omega)
    exact det_range3 hw h5 _ _ rfl (by rw [hl]; omega)
  · rw [if_neg hb]; omega
theorem scale_le {s x X : Int} (h1 : 1 ≤ s) (h2 : s ≤ 1000) (h3 : -X ≤ x) (h4 : x ≤ X) : -(1000 * X) ≤ s * x ∧ s * x ≤ 1000 * X := by
  have hX : 0 ≤ X := by omega
  have a1 : s * x ≤ s * X := Int.mul_le_mul_of_nonneg_left h4 (by omega)
  have a2 : s * X ≤ 1000 * X := Int.mul_le_mul_of_nonneg_right h2 hX
  have a3 : s * (-X) ≤ s * x := Int.mul_le_mul_of_nonneg_left h3 (by omega)
  rw [Int.mul_neg] at a3
  omega
end Go.Proofs.Ytaececpphdaciaa
