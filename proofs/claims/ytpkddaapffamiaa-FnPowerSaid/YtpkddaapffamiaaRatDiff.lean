/-
  RatioDiff in the program: the sum with the negative fraction.
-/
import Derived.Test.YtpkddaapffamiaaRatArith
import Derived.Deep.RegionHeld3
namespace Go.Proofs.Ytpkddaapffamiaa
open Go.RowKit

theorem rOk_neg (m e : Int) (m0 : -9223372036854775808 < m) (e0 : -9223372036854775808 < e) : rOk (-m) e = rOk m e := by
  rw [Bool.eq_iff_iff, rOk_iff, rOk_iff]
  by_cases hb : -9223372036854775808 < -m
  · rw [gcdV_of hb e0, gcdV_of m0 e0, Int.natAbs_neg]
    omega
  · omega
theorem diff_sum (n d m e : Int) (m0 : -9223372036854775808 ≤ m) (m1 : m ≤ 9223372036854775807) (e0 : -9223372036854775808 ≤ e) : rSum n d (wrap64 (-m)) e = rDiff n d m e := by
  by_cases hm : m = -9223372036854775808
  · have k1 : rOk m e = false := by rw [Bool.eq_false_iff, Ne, rOk_iff]; omega
    have k2 : wrap64 (-m) = m := by subst hm; unfold wrap64; omega
    rw [k2]
    unfold rSum rDiff fit4
    rw [k1]
    simp
  · have k2 : wrap64 (-m) = -m := by unfold wrap64; omega
    rw [k2]
    by_cases he : e = -9223372036854775808
    · have k1 : rOk m e = false := by rw [Bool.eq_false_iff, Ne, rOk_iff]; omega
      have k3 : rOk (-m) e = false := by rw [Bool.eq_false_iff, Ne, rOk_iff]; omega
      unfold rSum rDiff fit4
      rw [k1, k3]
      simp
    · have k1 := rOk_neg m e (by omega) (by omega)
      unfold rSum rDiff fit4 fitP
      rw [k1, Int.neg_mul, Int.mul_neg, Int.natAbs_neg, Int.natAbs_neg, Int.sub_eq_add_neg]
theorem sx_keep {w wa wb : World} {B : Nat} {n d m e : Int} (hb : Below wa.heap.size wa wb) (h : wa.cell? ⟨B, 0, none⟩ = some (.int .i64 n) ∧ wa.cell? ⟨B, 1, none⟩ = some (.int .i64 d) ∧ wa.cell? ⟨B + 1, 0, none⟩ = some (.int .i64 m) ∧ wa.cell? ⟨B + 1, 1, none⟩ = some (.int .i64 e) ∧ (∃ z0 z1, wa.cell? ⟨B + 1 + 1, 0, none⟩ = some z0 ∧ wa.cell? ⟨B + 1 + 1, 1, none⟩ = some z1 ∧ wa.frozen? ⟨B + 1 + 1, 0, none⟩ = false ∧ wa.frozen? ⟨B + 1 + 1, 1, none⟩ = false) ∧ B + 1 + 1 < wa.heap.size ∧ Below B w wa) : wb.cell? ⟨B, 0, none⟩ = some (.int .i64 n) ∧ wb.cell? ⟨B, 1, none⟩ = some (.int .i64 d) ∧ wb.cell? ⟨B + 1, 0, none⟩ = some (.int .i64 m) ∧ wb.cell? ⟨B + 1, 1, none⟩ = some (.int .i64 e) ∧ (∃ z0 z1, wb.cell? ⟨B + 1 + 1, 0, none⟩ = some z0 ∧ wb.cell? ⟨B + 1 + 1, 1, none⟩ = some z1 ∧ wb.frozen? ⟨B + 1 + 1, 0, none⟩ = false ∧ wb.frozen? ⟨B + 1 + 1, 1, none⟩ = false) ∧ B + 1 + 1 < wb.heap.size ∧ Below B w wb := by
  obtain ⟨a, b, c, f, ⟨u, v, g, g', x, y⟩, s, hB⟩ := h
  have := hb.size
  refine ⟨?_, ?_, ?_, ?_, ⟨u, v, ?_, ?_, ?_, ?_⟩, by omega, hB.trans (hb.mono (by omega))⟩
  · rw [hb.cell (p := ⟨B, 0, none⟩) (show B < _ by omega)]; exact a
  · rw [hb.cell (p := ⟨B, 1, none⟩) (show B < _ by omega)]; exact b
  · rw [hb.cell (p := ⟨B + 1, 0, none⟩) (show B + 1 < _ by omega)]; exact c
  · rw [hb.cell (p := ⟨B + 1, 1, none⟩) (show B + 1 < _ by omega)]; exact f
  · rw [hb.cell (p := ⟨B + 1 + 1, 0, none⟩) s]; exact g
  · rw [hb.cell (p := ⟨B + 1 + 1, 1, none⟩) s]; exact g'
  · rw [hb.frozen (p := ⟨B + 1 + 1, 0, none⟩) s]; exact x
  · rw [hb.frozen (p := ⟨B + 1 + 1, 1, none⟩) s]; exact y
theorem sx_drew {w wa : World} {B : Nat} {n d m e : Int} (h : wa.cell? ⟨B, 0, none⟩ = some (.int .i64 n) ∧ wa.cell? ⟨B, 1, none⟩ = some (.int .i64 d) ∧ wa.cell? ⟨B + 1, 0, none⟩ = some (.int .i64 m) ∧ wa.cell? ⟨B + 1, 1, none⟩ = some (.int .i64 e) ∧ (∃ z0 z1, wa.cell? ⟨B + 1 + 1, 0, none⟩ = some z0 ∧ wa.cell? ⟨B + 1 + 1, 1, none⟩ = some z1 ∧ wa.frozen? ⟨B + 1 + 1, 0, none⟩ = false ∧ wa.frozen? ⟨B + 1 + 1, 1, none⟩ = false) ∧ B + 1 + 1 < wa.heap.size ∧ Below B w wa) : wa.drew.cell? ⟨B, 0, none⟩ = some (.int .i64 n) ∧ wa.drew.cell? ⟨B, 1, none⟩ = some (.int .i64 d) ∧ wa.drew.cell? ⟨B + 1, 0, none⟩ = some (.int .i64 m) ∧ wa.drew.cell? ⟨B + 1, 1, none⟩ = some (.int .i64 e) ∧ (∃ z0 z1, wa.drew.cell? ⟨B + 1 + 1, 0, none⟩ = some z0 ∧ wa.drew.cell? ⟨B + 1 + 1, 1, none⟩ = some z1 ∧ wa.drew.frozen? ⟨B + 1 + 1, 0, none⟩ = false ∧ wa.drew.frozen? ⟨B + 1 + 1, 1, none⟩ = false) ∧ B + 1 + 1 < wa.drew.heap.size ∧ Below B w wa.drew :=
  ⟨h.1, h.2.1, h.2.2.1, h.2.2.2.1, h.2.2.2.2.1, h.2.2.2.2.2.1, h.2.2.2.2.2.2.drew⟩
theorem sx_set {w wa : World} {B j : Nat} {n d m e : Int} {v : Value} (h : wa.cell? ⟨B, 0, none⟩ = some (.int .i64 n) ∧ wa.cell? ⟨B, 1, none⟩ = some (.int .i64 d) ∧ wa.cell? ⟨B + 1, 0, none⟩ = some (.int .i64 m) ∧ wa.cell? ⟨B + 1, 1, none⟩ = some (.int .i64 e) ∧ (∃ z0 z1, wa.cell? ⟨B + 1 + 1, 0, none⟩ = some z0 ∧ wa.cell? ⟨B + 1 + 1, 1, none⟩ = some z1 ∧ wa.frozen? ⟨B + 1 + 1, 0, none⟩ = false ∧ wa.frozen? ⟨B + 1 + 1, 1, none⟩ = false) ∧ B + 1 + 1 < wa.heap.size ∧ Below B w wa) : (wa.setCell ⟨B + 1 + 1, j, none⟩ v).cell? ⟨B, 0, none⟩ = some (.int .i64 n) ∧ (wa.setCell ⟨B + 1 + 1, j, none⟩ v).cell? ⟨B, 1, none⟩ = some (.int .i64 d) ∧ (wa.setCell ⟨B + 1 + 1, j, none⟩ v).cell? ⟨B + 1, 0, none⟩ = some (.int .i64 m) ∧ (wa.setCell ⟨B + 1 + 1, j, none⟩ v).cell? ⟨B + 1, 1, none⟩ = some (.int .i64 e) ∧ (∃ z0 z1, (wa.setCell ⟨B + 1 + 1, j, none⟩ v).cell? ⟨B + 1 + 1, 0, none⟩ = some z0 ∧ (wa.setCell ⟨B + 1 + 1, j, none⟩ v).cell? ⟨B + 1 + 1, 1, none⟩ = some z1 ∧ (wa.setCell ⟨B + 1 + 1, j, none⟩ v).frozen? ⟨B + 1 + 1, 0, none⟩ = false ∧ (wa.setCell ⟨B + 1 + 1, j, none⟩ v).frozen? ⟨B + 1 + 1, 1, none⟩ = false) ∧ B + 1 + 1 < (wa.setCell ⟨B + 1 + 1, j, none⟩ v).heap.size ∧ Below B w (wa.setCell ⟨B + 1 + 1, j, none⟩ v) := by
  obtain ⟨a, b, c, f, ⟨u, u', g, g', x, y⟩, s, hB⟩ := h
  refine ⟨by rw [World.cell?_setCell_far _ _ _ _ (show B + 1 + 1 ≠ B by omega)]; exact a, by rw [World.cell?_setCell_far _ _ _ _ (show B + 1 + 1 ≠ B by omega)]; exact b, by rw [World.cell?_setCell_far _ _ _ _ (show B + 1 + 1 ≠ B + 1 by omega)]; exact c, by rw [World.cell?_setCell_far _ _ _ _ (show B + 1 + 1 ≠ B + 1 by omega)]; exact f, ?_, by simpa using s, hB.setCell (show B ≤ B + 1 + 1 by omega) _⟩
  by_cases h0 : j = 0
  · subst h0
    exact ⟨v, u', World.cell?_setCell_same _ _ _ g, (World.cell?_setCell_other _ _ _ _ (by simp)).trans g', by simpa using x, by simpa using y⟩
  · by_cases h1 : j = 1
    · subst h1
      exact ⟨u, v, (World.cell?_setCell_other _ _ _ _ (by simp)).trans g, World.cell?_setCell_same _ _ _ g', by simpa using x, by simpa using y⟩
    · exact ⟨u, u', (World.cell?_setCell_other _ _ _ _ (by first | (simp; done) | (simp; omega))).trans g, (World.cell?_setCell_other _ _ _ _ (by first | (simp; done) | (simp; omega))).trans g', by simpa using x, by simpa using y⟩
set_option maxHeartbeats 800000 in
theorem impl_neg (n d : Int) (w : World) :
    Calls Try.prog 60 #[.agg #[.int .i64 n, .int .i64 d]] w fun en w' => en = .returned (.agg #[.int .i64 (wrap64 (-n)), .int .i64 d]) ∧ Below w.heap.size w w' := by
  go_enter Try.func60, Try.ntmps60
  go_wp2
  exact bodyPost_ret (v := (.agg #[.int .i64 (wrap64 (-n)), .int .i64 d])) (by simp (maxDischargeDepth := 8) [results, Try.results60, go_sem, *]) rfl ⟨rfl, by (repeat (first | exact Below.refl _ _ | (refine Below.setCell ?_ (by (first | exact Nat.le_refl _ | omega | (simp <;> omega) | simp)) _) | (refine Below.alloc ?_ (by (first | exact Nat.le_refl _ | omega | (simp <;> omega) | simp)) _) | (refine below_draws ?_ _)))⟩
set_option maxHeartbeats 3200000 in
theorem impl_rDiff (n d m e : Int) (w : World) (n0 : -9223372036854775808 ≤ n) (n1 : n ≤ 9223372036854775807) (d0 : -9223372036854775808 ≤ d) (d1 : d ≤ 9223372036854775807) (m0 : -9223372036854775808 ≤ m) (m1 : m ≤ 9223372036854775807) (e0 : -9223372036854775808 ≤ e) (e1 : e ≤ 9223372036854775807) :
    Calls Try.prog 19 #[.agg #[.int .i64 n, .int .i64 d], .agg #[.int .i64 m, .int .i64 e]] w fun en w' => en = .returned (.agg #[.int .i64 (rDiff n d m e).1, .int .i64 (rDiff n d m e).2]) ∧ Below w.heap.size w w' := by
  have HD := Lib.hid (diff_sum n d m e m0 m1 e0)
  have hw : -9223372036854775808 ≤ wrap64 (-m) ∧ wrap64 (-m) ≤ 9223372036854775807 := by unfold wrap64; omega
  obtain ⟨z0, z1⟩ := hw
  go_enter Try.func19, Try.ntmps19
  go_wp2
  have hS0 : (((w.alloc (.cells #[.int .i64 n, .int .i64 d] 32)).alloc (.cells #[.int .i64 m, .int .i64 e] 32)).alloc (.cells #[.int .i64 0, .int .i64 0] 32)).cell? ⟨w.heap.size, 0, none⟩ = some (.int .i64 n) ∧ (((w.alloc (.cells #[.int .i64 n, .int .i64 d] 32)).alloc (.cells #[.int .i64 m, .int .i64 e] 32)).alloc (.cells #[.int .i64 0, .int .i64 0] 32)).cell? ⟨w.heap.size, 1, none⟩ = some (.int .i64 d) ∧ (((w.alloc (.cells #[.int .i64 n, .int .i64 d] 32)).alloc (.cells #[.int .i64 m, .int .i64 e] 32)).alloc (.cells #[.int .i64 0, .int .i64 0] 32)).cell? ⟨w.heap.size + 1, 0, none⟩ = some (.int .i64 m) ∧ (((w.alloc (.cells #[.int .i64 n, .int .i64 d] 32)).alloc (.cells #[.int .i64 m, .int .i64 e] 32)).alloc (.cells #[.int .i64 0, .int .i64 0] 32)).cell? ⟨w.heap.size + 1, 1, none⟩ = some (.int .i64 e) ∧ (∃ z0 z1, (((w.alloc (.cells #[.int .i64 n, .int .i64 d] 32)).alloc (.cells #[.int .i64 m, .int .i64 e] 32)).alloc (.cells #[.int .i64 0, .int .i64 0] 32)).cell? ⟨w.heap.size + 1 + 1, 0, none⟩ = some z0 ∧ (((w.alloc (.cells #[.int .i64 n, .int .i64 d] 32)).alloc (.cells #[.int .i64 m, .int .i64 e] 32)).alloc (.cells #[.int .i64 0, .int .i64 0] 32)).cell? ⟨w.heap.size + 1 + 1, 1, none⟩ = some z1 ∧ (((w.alloc (.cells #[.int .i64 n, .int .i64 d] 32)).alloc (.cells #[.int .i64 m, .int .i64 e] 32)).alloc (.cells #[.int .i64 0, .int .i64 0] 32)).frozen? ⟨w.heap.size + 1 + 1, 0, none⟩ = false ∧ (((w.alloc (.cells #[.int .i64 n, .int .i64 d] 32)).alloc (.cells #[.int .i64 m, .int .i64 e] 32)).alloc (.cells #[.int .i64 0, .int .i64 0] 32)).frozen? ⟨w.heap.size + 1 + 1, 1, none⟩ = false) ∧ w.heap.size + 1 + 1 < (((w.alloc (.cells #[.int .i64 n, .int .i64 d] 32)).alloc (.cells #[.int .i64 m, .int .i64 e] 32)).alloc (.cells #[.int .i64 0, .int .i64 0] 32)).heap.size ∧ Below w.heap.size w (((w.alloc (.cells #[.int .i64 n, .int .i64 d] 32)).alloc (.cells #[.int .i64 m, .int .i64 e] 32)).alloc (.cells #[.int .i64 0, .int .i64 0] 32)) := ⟨by simp [go_sem], by simp [go_sem], by simp [go_sem], by simp [go_sem], ⟨.int .i64 0, .int .i64 0, by simp [go_sem], by simp [go_sem], by simp [go_sem], by simp [go_sem]⟩, by simp <;> omega, by (repeat (first | exact Below.refl _ _ | (refine Below.setCell ?_ (by (first | exact Nat.le_refl _ | omega | (simp <;> omega) | simp)) _) | (refine Below.alloc ?_ (by (first | exact Nat.le_refl _ | omega | (simp <;> omega) | simp)) _) | (refine below_draws ?_ _)))⟩
  have hS := sx_drew hS0
  clear hS0
  go_region_held3 (fun w' => w'.cell? ⟨w.heap.size, 0, none⟩ = some (.int .i64 n) ∧ w'.cell? ⟨w.heap.size, 1, none⟩ = some (.int .i64 d) ∧ w'.cell? ⟨w.heap.size + 1, 0, none⟩ = some (.int .i64 m) ∧ w'.cell? ⟨w.heap.size + 1, 1, none⟩ = some (.int .i64 e) ∧ (∃ z0 z1, w'.cell? ⟨w.heap.size + 1 + 1, 0, none⟩ = some z0 ∧ w'.cell? ⟨w.heap.size + 1 + 1, 1, none⟩ = some z1 ∧ w'.frozen? ⟨w.heap.size + 1 + 1, 0, none⟩ = false ∧ w'.frozen? ⟨w.heap.size + 1 + 1, 1, none⟩ = false) ∧ w.heap.size + 1 + 1 < w'.heap.size ∧ Below w.heap.size w w')
    (first | exact hS | exact sx_set (sx_set hS))
    (first | (go_at_call 60; refine (impl_neg m e _).mono ?_; rintro en w1 ⟨rfl, B1⟩; replace hS := sx_keep B1 hS; obtain ⟨x1, x2, x3, x4, ⟨u0, u1, x5, x6, x7, x8⟩, x9, x10⟩ := id hS) | (go_at_call 22; refine (impl_rSum n d (wrap64 (-m)) e _ n0 n1 d0 d1 z0 z1 e0 e1).mono ?_; rintro en w1 ⟨rfl, B1⟩; replace hS := sx_keep B1 hS; obtain ⟨x1, x2, x3, x4, ⟨u0, u1, x5, x6, x7, x8⟩, x9, x10⟩ := id hS))
  all_goals
    rw [HD.out]
    go_wp2
    exact bodyPost_ret (v := (.agg #[.int .i64 (rDiff n d m e).1, .int .i64 (rDiff n d m e).2])) (by simp (maxDischargeDepth := 8) [results, Try.results19, go_sem, *]) rfl ⟨rfl, (x10.setCell (by first | omega | (simp; omega)) _).setCell (by first | omega | (simp; omega)) _⟩
end Go.Proofs.Ytpkddaapffamiaa
