/-
  RatioCmp, RatioMin, RatioMax, in the model and in the program.
-/
import Derived.Test.YtpkddaapffamiaaRatioFloor
import Derived.Test.YtpkddaapffamiaaShelf
import Derived.Deep.RegionHeld3
import Derived.Laws.StructEq
namespace Go.Proofs.Ytpkddaapffamiaa
open Go.RowKit

/-- Two fractions in memory, and nothing else is turned. -/
theorem two_keep {B : Nat} {x0 x1 y0 y1 : Value} {w wa wb : World} (hb : Below wa.heap.size wa wb)
    (h : wa.cell? ⟨B, 0, none⟩ = some x0 ∧ wa.cell? ⟨B, 1, none⟩ = some x1 ∧ wa.cell? ⟨B + 1, 0, none⟩ = some y0 ∧ wa.cell? ⟨B + 1, 1, none⟩ = some y1 ∧ B < wa.heap.size ∧ B + 1 < wa.heap.size ∧ Below B w wa) :
    wb.cell? ⟨B, 0, none⟩ = some x0 ∧ wb.cell? ⟨B, 1, none⟩ = some x1 ∧ wb.cell? ⟨B + 1, 0, none⟩ = some y0 ∧ wb.cell? ⟨B + 1, 1, none⟩ = some y1 ∧ B < wb.heap.size ∧ B + 1 < wb.heap.size ∧ Below B w wb := by
  obtain ⟨a, b, c, d, s, s', hB⟩ := h
  have := hb.size
  refine ⟨?_, ?_, ?_, ?_, by omega, by omega, hB.trans (hb.mono (by omega))⟩
  · rw [hb.cell (p := ⟨B, 0, none⟩) (show B < _ by omega)]; exact a
  · rw [hb.cell (p := ⟨B, 1, none⟩) (show B < _ by omega)]; exact b
  · rw [hb.cell (p := ⟨B + 1, 0, none⟩) (show B + 1 < _ by omega)]; exact c
  · rw [hb.cell (p := ⟨B + 1, 1, none⟩) (show B + 1 < _ by omega)]; exact d

theorem two_drew {B : Nat} {x0 x1 y0 y1 : Value} {w wa : World}
    (h : wa.cell? ⟨B, 0, none⟩ = some x0 ∧ wa.cell? ⟨B, 1, none⟩ = some x1 ∧ wa.cell? ⟨B + 1, 0, none⟩ = some y0 ∧ wa.cell? ⟨B + 1, 1, none⟩ = some y1 ∧ B < wa.heap.size ∧ B + 1 < wa.heap.size ∧ Below B w wa) :
    wa.drew.cell? ⟨B, 0, none⟩ = some x0 ∧ wa.drew.cell? ⟨B, 1, none⟩ = some x1 ∧ wa.drew.cell? ⟨B + 1, 0, none⟩ = some y0 ∧ wa.drew.cell? ⟨B + 1, 1, none⟩ = some y1 ∧ B < wa.drew.heap.size ∧ B + 1 < wa.drew.heap.size ∧ Below B w wa.drew :=
  ⟨h.1, h.2.1, h.2.2.1, h.2.2.2.1, h.2.2.2.2.1, h.2.2.2.2.2.1, h.2.2.2.2.2.2.drew⟩

theorem two_alloc {B : Nat} {x0 x1 y0 y1 : Value} {w wa : World} {o : Obj}
    (h : wa.cell? ⟨B, 0, none⟩ = some x0 ∧ wa.cell? ⟨B, 1, none⟩ = some x1 ∧ wa.cell? ⟨B + 1, 0, none⟩ = some y0 ∧ wa.cell? ⟨B + 1, 1, none⟩ = some y1 ∧ B < wa.heap.size ∧ B + 1 < wa.heap.size ∧ Below B w wa) :
    (wa.alloc o).cell? ⟨B, 0, none⟩ = some x0 ∧ (wa.alloc o).cell? ⟨B, 1, none⟩ = some x1 ∧ (wa.alloc o).cell? ⟨B + 1, 0, none⟩ = some y0 ∧ (wa.alloc o).cell? ⟨B + 1, 1, none⟩ = some y1 ∧ B < (wa.alloc o).heap.size ∧ B + 1 < (wa.alloc o).heap.size ∧ Below B w (wa.alloc o) :=
  two_keep ((Below.refl _ _).alloc (Nat.le_refl _) _) h
theorem two_set {B : Nat} {x0 x1 y0 y1 v : Value} {w wa : World} {p : Addr} (hp : B + 1 < p.block)
    (h : wa.cell? ⟨B, 0, none⟩ = some x0 ∧ wa.cell? ⟨B, 1, none⟩ = some x1 ∧ wa.cell? ⟨B + 1, 0, none⟩ = some y0 ∧ wa.cell? ⟨B + 1, 1, none⟩ = some y1 ∧ B < wa.heap.size ∧ B + 1 < wa.heap.size ∧ Below B w wa) :
    (wa.setCell p v).cell? ⟨B, 0, none⟩ = some x0 ∧ (wa.setCell p v).cell? ⟨B, 1, none⟩ = some x1 ∧ (wa.setCell p v).cell? ⟨B + 1, 0, none⟩ = some y0 ∧ (wa.setCell p v).cell? ⟨B + 1, 1, none⟩ = some y1 ∧ B < (wa.setCell p v).heap.size ∧ B + 1 < (wa.setCell p v).heap.size ∧ Below B w (wa.setCell p v) := by
  obtain ⟨a, b, c, d, s, s', hB⟩ := h
  refine ⟨?_, ?_, ?_, ?_, by simpa using s, by simpa using s', hB.setCell (by omega) _⟩
  · rw [World.cell?_setCell_far _ _ _ _ (show p.block ≠ B by omega)]; exact a
  · rw [World.cell?_setCell_far _ _ _ _ (show p.block ≠ B by omega)]; exact b
  · rw [World.cell?_setCell_far _ _ _ _ (show p.block ≠ B + 1 by omega)]; exact c
  · rw [World.cell?_setCell_far _ _ _ _ (show p.block ≠ B + 1 by omega)]; exact d

theorem impl_floor_at (n d p : Int) (w : World) (hp : Hid (n / d = p)) (hd : 0 < d) (n0 : -2000000000000000000 ≤ n) (n1 : n ≤ 2000000000000000000) (d1 : d ≤ 2000000000000000000) :
    Calls Try.prog 100 #[.agg #[.int .i64 n, .int .i64 d]] w fun e w' => e = .returned (.int .i64 p) ∧ Below w.heap.size w w' := by
  have h := hp.out
  subst h
  exact impl_floor n d w hd n0 n1 d1

/-- The halves of a product of two unsigned numbers of 64 bits. -/
def hi64 (a b : Int) : Int := a * b / 18446744073709551616
def lo64 (a b : Int) : Int := a * b % 18446744073709551616
theorem mul64_at (a b : Int) (w : World) (a0 : 0 ≤ a) (a1 : a ≤ 9223372036854775807) (b0 : 0 ≤ b) (b1 : b ≤ 9223372036854775807) :
    Calls Try.prog 101 #[.int .u64 a, .int .u64 b] w fun en w' => en = .returned (.tuple #[.int .u64 (hi64 a b), .int .u64 (lo64 a b)]) ∧ w = w' := by
  obtain ⟨x, rfl⟩ : ∃ x : Nat, a = x := ⟨a.toNat, by omega⟩
  obtain ⟨y, rfl⟩ : ∃ y : Nat, b = y := ⟨b.toNat, by omega⟩
  refine (Try.bits_Mul64 x y (by omega) (by omega) w).mono ?_
  rintro en w' ⟨rfl, rfl⟩
  exact ⟨rfl, rfl⟩
theorem hi_lt {a b c d : Int} (h : hi64 a b < hi64 c d) : a * b < c * d := by
  unfold hi64 at h; omega
theorem hi_eq {a b c d : Int} (h : hi64 a b = hi64 c d) : decide (lo64 a b < lo64 c d) = decide (a * b < c * d) := by
  unfold hi64 at h; unfold lo64
  rw [Bool.eq_iff_iff, decide_eq_true_eq, decide_eq_true_eq]; omega

set_option maxHeartbeats 800000 in
theorem impl_less (n d m e : Int) (w : World) (hk : rOk n d = true) (hl : rOk m e = true) :
    Calls Try.prog 69 #[.agg #[.int .i64 n, .int .i64 d], .agg #[.int .i64 m, .int .i64 e]] w fun en w' => en = .returned (.bool (decide (n * e < m * d))) ∧ Below w.heap.size w w' := by
  obtain ⟨a1, a2, a3, a4, _⟩ := rOk_iff.1 hk
  obtain ⟨b1, b2, b3, b4, _⟩ := rOk_iff.1 hl
  obtain ⟨p, hp⟩ : ∃ p, n / d = p := ⟨_, rfl⟩
  obtain ⟨q, hq⟩ : ∃ q, m / e = q := ⟨_, rfl⟩
  have HP := Lib.hid hp
  have HQ := Lib.hid hq
  by_cases hpq : p = q
  · subst hpq
    have f1 := floor_mul n d (by omega)
    have f2 := floor_mul m e (by omega)
    rw [hp] at f1
    rw [hq] at f2
    obtain ⟨u0, u1, u2⟩ := f1
    obtain ⟨v0, v1, v2⟩ := f2
    have hx : 0 ≤ n - p * d := by omega
    have hx' : n - p * d ≤ 1000000000000000 := by omega
    have hy : 0 ≤ m - p * e := by omega
    have hy' : m - p * e ≤ 1000000000000000 := by omega
    have hE : decide (n * e < m * d) = decide ((n - p * d) * e < (m - p * e) * d) := by
      have := cmp_rest (a := n) (b := d) (c := m) (d := e) (by omega)
      rw [← u2, ← v2] at this
      rw [Bool.eq_iff_iff, decide_eq_true_eq, decide_eq_true_eq]; omega
    clear hp hq u2 v2 hk hl
    rcases Int.lt_trichotomy (hi64 (n - p * d) e) (hi64 (m - p * e) d) with h | h | h
    · have hE' : decide (n * e < m * d) = true := by rw [hE]; have := hi_lt h; simpa using this
      have HE := Lib.hid hE'; clear hE hE'
      go_enter Try.func69, Try.ntmps69
      go_wp2
      go_region_held3 (fun w' => w'.cell? ⟨w.heap.size, 0, none⟩ = some (.int .i64 n) ∧ w'.cell? ⟨w.heap.size, 1, none⟩ = some (.int .i64 d) ∧ w'.cell? ⟨w.heap.size + 1, 0, none⟩ = some (.int .i64 m) ∧ w'.cell? ⟨w.heap.size + 1, 1, none⟩ = some (.int .i64 e) ∧ w.heap.size < w'.heap.size ∧ w.heap.size + 1 < w'.heap.size ∧ Below w.heap.size w w') (first | exact ⟨by simp, by simp, by simp, by simp, by simp <;> omega, by simp, by (repeat (first | exact Below.refl _ _ | (refine Below.setCell ?_ (by (first | exact Nat.le_refl _ | omega | (simp <;> omega) | simp)) _) | (refine Below.alloc ?_ (by (first | exact Nat.le_refl _ | omega | (simp <;> omega) | simp)) _) | (refine below_draws ?_ _)))⟩ | exact two_keep hB1 (by assumption))
            (first | (go_at_call 100; (with_reducible refine (impl_floor_at n d _ _ HP (by omega) (by omega) (by omega) (by omega)).mono ?_); rintro en w1 ⟨rfl, hB1⟩) | (go_at_call 100; (with_reducible refine (impl_floor_at m e _ _ HQ (by omega) (by omega) (by omega) (by omega)).mono ?_); rintro en w1 ⟨rfl, hB1⟩))
      rename_i wz _ hS
      obtain ⟨c0, c1, c2, c3, hz, hz', hB⟩ := hS
      go_wp2_with fail
      refine (mul64_at _ _ _ hx (by omega) (by omega) (by omega)).mono ?_
      rintro en w2 ⟨rfl, rfl⟩
      go_wp2_with fail
      refine (mul64_at _ _ _ hy (by omega) (by omega) (by omega)).mono ?_
      rintro en w2 ⟨rfl, rfl⟩
      go_wp2
      go_ret
      exact ⟨ret_b HE.out.symm, hB⟩
    · have hE' := hE.trans (hi_eq h).symm
      have HE := Lib.hid hE'
      have hb : (hi64 (n - p * d) e == hi64 (m - p * e) d) = true := by simpa using h
      have hb' : decide (hi64 (n - p * d) e < hi64 (m - p * e) d) = false := by rw [h]; simp
      clear hE hE' h
      go_enter Try.func69, Try.ntmps69
      go_wp2
      go_region_held3 (fun w' => w'.cell? ⟨w.heap.size, 0, none⟩ = some (.int .i64 n) ∧ w'.cell? ⟨w.heap.size, 1, none⟩ = some (.int .i64 d) ∧ w'.cell? ⟨w.heap.size + 1, 0, none⟩ = some (.int .i64 m) ∧ w'.cell? ⟨w.heap.size + 1, 1, none⟩ = some (.int .i64 e) ∧ w.heap.size < w'.heap.size ∧ w.heap.size + 1 < w'.heap.size ∧ Below w.heap.size w w') (first | exact ⟨by simp, by simp, by simp, by simp, by simp <;> omega, by simp, by (repeat (first | exact Below.refl _ _ | (refine Below.setCell ?_ (by (first | exact Nat.le_refl _ | omega | (simp <;> omega) | simp)) _) | (refine Below.alloc ?_ (by (first | exact Nat.le_refl _ | omega | (simp <;> omega) | simp)) _) | (refine below_draws ?_ _)))⟩ | exact two_keep hB1 (by assumption))
            (first | (go_at_call 100; (with_reducible refine (impl_floor_at n d _ _ HP (by omega) (by omega) (by omega) (by omega)).mono ?_); rintro en w1 ⟨rfl, hB1⟩) | (go_at_call 100; (with_reducible refine (impl_floor_at m e _ _ HQ (by omega) (by omega) (by omega) (by omega)).mono ?_); rintro en w1 ⟨rfl, hB1⟩))
      rename_i wz _ hS
      obtain ⟨c0, c1, c2, c3, hz, hz', hB⟩ := hS
      go_wp2_with fail
      refine (mul64_at _ _ _ hx (by omega) (by omega) (by omega)).mono ?_
      rintro en w2 ⟨rfl, rfl⟩
      go_wp2_with fail
      refine (mul64_at _ _ _ hy (by omega) (by omega) (by omega)).mono ?_
      rintro en w2 ⟨rfl, rfl⟩
      go_wp2
      go_ret
      exact ⟨ret_b HE.out.symm, hB⟩
    · have hE' : decide (n * e < m * d) = false := by rw [hE]; have := hi_lt h; simp; omega
      have HE := Lib.hid hE'; clear hE hE'
      have hb : (hi64 (n - p * d) e == hi64 (m - p * e) d) = false := by rw [beq_eq_false_iff_ne]; omega
      have hb' : decide (hi64 (n - p * d) e < hi64 (m - p * e) d) = false := by simp; omega
      clear h
      go_enter Try.func69, Try.ntmps69
      go_wp2
      go_region_held3 (fun w' => w'.cell? ⟨w.heap.size, 0, none⟩ = some (.int .i64 n) ∧ w'.cell? ⟨w.heap.size, 1, none⟩ = some (.int .i64 d) ∧ w'.cell? ⟨w.heap.size + 1, 0, none⟩ = some (.int .i64 m) ∧ w'.cell? ⟨w.heap.size + 1, 1, none⟩ = some (.int .i64 e) ∧ w.heap.size < w'.heap.size ∧ w.heap.size + 1 < w'.heap.size ∧ Below w.heap.size w w') (first | exact ⟨by simp, by simp, by simp, by simp, by simp <;> omega, by simp, by (repeat (first | exact Below.refl _ _ | (refine Below.setCell ?_ (by (first | exact Nat.le_refl _ | omega | (simp <;> omega) | simp)) _) | (refine Below.alloc ?_ (by (first | exact Nat.le_refl _ | omega | (simp <;> omega) | simp)) _) | (refine below_draws ?_ _)))⟩ | exact two_keep hB1 (by assumption))
            (first | (go_at_call 100; (with_reducible refine (impl_floor_at n d _ _ HP (by omega) (by omega) (by omega) (by omega)).mono ?_); rintro en w1 ⟨rfl, hB1⟩) | (go_at_call 100; (with_reducible refine (impl_floor_at m e _ _ HQ (by omega) (by omega) (by omega) (by omega)).mono ?_); rintro en w1 ⟨rfl, hB1⟩))
      rename_i wz _ hS
      obtain ⟨c0, c1, c2, c3, hz, hz', hB⟩ := hS
      go_wp2_with fail
      refine (mul64_at _ _ _ hx (by omega) (by omega) (by omega)).mono ?_
      rintro en w2 ⟨rfl, rfl⟩
      go_wp2_with fail
      refine (mul64_at _ _ _ hy (by omega) (by omega) (by omega)).mono ?_
      rintro en w2 ⟨rfl, rfl⟩
      go_wp2
      go_ret
      exact ⟨ret_b HE.out.symm, hB⟩
  · have hE : (decide (n * e < m * d)) = decide (p < q) := by
      rw [Bool.eq_iff_iff, decide_eq_true_eq, decide_eq_true_eq]
      rcases Int.lt_or_le p q with h | h
      · have := cmp_lt (a := n) (b := d) (c := m) (d := e) (by omega) (by omega) (by omega); omega
      · have := cmp_lt (a := m) (b := e) (c := n) (d := d) (by omega) (by omega) (by omega); omega
    have HE := Lib.hid hE
    have hpb : (p == q) = false := by simpa using hpq
    clear hp hq hE hk hl
    go_enter Try.func69, Try.ntmps69
    go_wp2
    go_region_held3 (fun w' => w'.cell? ⟨w.heap.size, 0, none⟩ = some (.int .i64 n) ∧ w'.cell? ⟨w.heap.size, 1, none⟩ = some (.int .i64 d) ∧ w'.cell? ⟨w.heap.size + 1, 0, none⟩ = some (.int .i64 m) ∧ w'.cell? ⟨w.heap.size + 1, 1, none⟩ = some (.int .i64 e) ∧ w.heap.size < w'.heap.size ∧ w.heap.size + 1 < w'.heap.size ∧ Below w.heap.size w w') (first | exact ⟨by simp, by simp, by simp, by simp, by simp <;> omega, by simp, by (repeat (first | exact Below.refl _ _ | (refine Below.setCell ?_ (by (first | exact Nat.le_refl _ | omega | (simp <;> omega) | simp)) _) | (refine Below.alloc ?_ (by (first | exact Nat.le_refl _ | omega | (simp <;> omega) | simp)) _) | (refine below_draws ?_ _)))⟩ | exact two_keep hB1 (by assumption))
          (first | (go_at_call 100; (with_reducible refine (impl_floor_at n d _ _ HP (by omega) (by omega) (by omega) (by omega)).mono ?_); rintro en w1 ⟨rfl, hB1⟩) | (go_at_call 100; (with_reducible refine (impl_floor_at m e _ _ HQ (by omega) (by omega) (by omega) (by omega)).mono ?_); rintro en w1 ⟨rfl, hB1⟩))
    rename_i wz _ hS
    obtain ⟨c0, c1, c2, c3, hz, hz', hB⟩ := hS
    go_wp2
    go_ret
    exact ⟨ret_b HE.out.symm, hB⟩
/-- The smaller and the greater one of two fractions. -/
def rMin (n d m e : Int) : Int × Int := if rOk n d = true ∧ rOk m e = true then (if m * d < n * e then (m, e) else (n, d)) else (0, 0)
def rMax (n d m e : Int) : Int × Int := if rOk n d = true ∧ rOk m e = true then (if m * d < n * e then (n, d) else (m, e)) else (0, 0)
theorem cmp_no {n d m e : Int} (h : rOk n d = false ∨ rOk m e = false) : rCmp n d m e = 0 := by
  unfold rCmp; rw [if_neg]; rintro ⟨a, b⟩; rcases h with h | h <;> simp_all
theorem min_no {n d m e : Int} (h : rOk n d = false ∨ rOk m e = false) : rMin n d m e = (0, 0) ∧ rMax n d m e = (0, 0) := by
  have hn : ¬ (rOk n d = true ∧ rOk m e = true) := by rintro ⟨a, b⟩; rcases h with h | h <;> simp_all
  unfold rMin rMax; rw [if_neg hn, if_neg hn]; exact ⟨rfl, rfl⟩
theorem cmp_of {n d m e : Int} (h : rOk n d = true) (k : rOk m e = true) : rCmp n d m e = (n * e - m * d).sign := by
  unfold rCmp; rw [if_pos ⟨h, k⟩]
theorem min_of {n d m e : Int} (h : rOk n d = true) (k : rOk m e = true) : rMin n d m e = (if m * d < n * e then (m, e) else (n, d)) ∧ rMax n d m e = (if m * d < n * e then (n, d) else (m, e)) := by
  have hc : rOk n d = true ∧ rOk m e = true := ⟨h, k⟩
  unfold rMin rMax; rw [if_pos hc, if_pos hc]; exact ⟨rfl, rfl⟩
theorem ret_agg4 {a b c d a' b' c' d' : Int} (h : (a, b) = (a', b')) (k : (c, d) = (c', d')) : Ending.returned (.tuple #[.agg #[.int .i64 a, .int .i64 b], .agg #[.int .i64 c, .int .i64 d]]) = .returned (.tuple #[.agg #[.int .i64 a', .int .i64 b'], .agg #[.int .i64 c', .int .i64 d']]) := by
  injection h with h1 h2; injection k with k1 k2; rw [h1, h2, k1, k2]
theorem ret_pair {a b a' b' : Int} (h : (a, b) = (a', b')) : Ending.returned (.agg #[.int .i64 a, .int .i64 b]) = .returned (.agg #[.int .i64 a', .int .i64 b']) := by
  injection h with h1 h2; rw [h1, h2]

set_option maxHeartbeats 1600000 in
theorem impl_rCmp (n d m e : Int) (w : World) (n0 : -9223372036854775808 ≤ n) (n1 : n ≤ 9223372036854775807) (d0 : -9223372036854775808 ≤ d) (d1 : d ≤ 9223372036854775807) (m0 : -9223372036854775808 ≤ m) (m1 : m ≤ 9223372036854775807) (e0 : -9223372036854775808 ≤ e) (e1 : e ≤ 9223372036854775807) :
    Calls Try.prog 26 #[.agg #[.int .i64 n, .int .i64 d], .agg #[.int .i64 m, .int .i64 e]] w fun en w' => en = .returned (.int .i64 (rCmp n d m e)) ∧ Below w.heap.size w w' := by
  by_cases hk : rOk n d = true
  case neg =>
    have hk : rOk n d = false := by simpa using hk
    have HE := Lib.hid (cmp_no (Or.inl hk) : rCmp n d m e = 0)
    go_enter Try.func26, Try.ntmps26
    go_wp2_with fail
    refine (impl_rOk _ _ _ n0 n1 d0 d1).mono ?_
    rintro en w1 ⟨rfl, B1⟩
    obtain ⟨hc1, hf1⟩ := bcell B1
    have S1 := B1.size
    try simp at S1
    try (have _L1w : w.heap.size < w1.heap.size := by omega)
    have _M1w : w.heap.size ≤ w1.heap.size := by omega
    try (have _P1w_1 : w.heap.size + 1 < w1.heap.size := by omega)
    try (have _P1w_2 : w.heap.size + 1 + 1 < w1.heap.size := by omega)
    try (have _P1w_3 : w.heap.size + 1 + 1 + 1 < w1.heap.size := by omega)
    go_wp2
    go_ret
    exact ⟨ret_i HE.out.symm, by (repeat (first | exact Below.refl _ _ | (refine Below.setCell ?_ (by (first | exact Nat.le_refl _ | omega | (simp <;> omega) | simp)) _) | (refine Below.alloc ?_ (by (first | exact Nat.le_refl _ | omega | (simp <;> omega) | simp)) _) | (refine below_draws ?_ _) | exact B1 | (refine Below.trans ?_ (Below.mono B1 (by (first | exact Nat.le_refl _ | omega | (simp <;> omega) | simp))))))⟩
  by_cases hl : rOk m e = true
  case neg =>
    have hl : rOk m e = false := by simpa using hl
    have HE := Lib.hid (cmp_no (Or.inr hl) : rCmp n d m e = 0)
    go_enter Try.func26, Try.ntmps26
    go_wp2_with fail
    refine (impl_rOk _ _ _ n0 n1 d0 d1).mono ?_
    rintro en w1 ⟨rfl, B1⟩
    obtain ⟨hc1, hf1⟩ := bcell B1
    have S1 := B1.size
    try simp at S1
    try (have _L1w : w.heap.size < w1.heap.size := by omega)
    have _M1w : w.heap.size ≤ w1.heap.size := by omega
    try (have _P1w_1 : w.heap.size + 1 < w1.heap.size := by omega)
    try (have _P1w_2 : w.heap.size + 1 + 1 < w1.heap.size := by omega)
    try (have _P1w_3 : w.heap.size + 1 + 1 + 1 < w1.heap.size := by omega)
    go_wp2_with fail
    refine (impl_rOk _ _ _ m0 m1 e0 e1).mono ?_
    rintro en w2 ⟨rfl, B2⟩
    obtain ⟨hc2, hf2⟩ := bcell B2
    have S2 := B2.size
    try simp at S2
    try (have _L2w : w.heap.size < w2.heap.size := by omega)
    have _M2w : w.heap.size ≤ w2.heap.size := by omega
    try (have _P2w_1 : w.heap.size + 1 < w2.heap.size := by omega)
    try (have _P2w_2 : w.heap.size + 1 + 1 < w2.heap.size := by omega)
    try (have _P2w_3 : w.heap.size + 1 + 1 + 1 < w2.heap.size := by omega)
    try (have _L2w1 : w1.heap.size < w2.heap.size := by omega)
    have _M2w1 : w1.heap.size ≤ w2.heap.size := by omega
    try (have _P2w1_1 : w1.heap.size + 1 < w2.heap.size := by omega)
    try (have _P2w1_2 : w1.heap.size + 1 + 1 < w2.heap.size := by omega)
    try (have _P2w1_3 : w1.heap.size + 1 + 1 + 1 < w2.heap.size := by omega)
    go_wp2
    go_ret
    exact ⟨ret_i HE.out.symm, by (repeat (first | exact Below.refl _ _ | (refine Below.setCell ?_ (by (first | exact Nat.le_refl _ | omega | (simp <;> omega) | simp)) _) | (refine Below.alloc ?_ (by (first | exact Nat.le_refl _ | omega | (simp <;> omega) | simp)) _) | (refine below_draws ?_ _) | exact B1 | (refine Below.trans ?_ (Below.mono B1 (by (first | exact Nat.le_refl _ | omega | (simp <;> omega) | simp)))) | exact B2 | (refine Below.trans ?_ (Below.mono B2 (by (first | exact Nat.le_refl _ | omega | (simp <;> omega) | simp))))))⟩
  have hC := cmp_of hk hl
  by_cases hq : n = m ∧ d = e
  · obtain ⟨rfl, rfl⟩ := hq
    have HE := Lib.hid (hC.trans (by rw [Int.sub_self, Int.sign_zero])); clear hC
    go_enter Try.func26, Try.ntmps26
    go_wp2_with fail
    refine (impl_rOk _ _ _ n0 n1 d0 d1).mono ?_
    rintro en w1 ⟨rfl, B1⟩
    obtain ⟨hc1, hf1⟩ := bcell B1
    have S1 := B1.size
    try simp at S1
    try (have _L1w : w.heap.size < w1.heap.size := by omega)
    have _M1w : w.heap.size ≤ w1.heap.size := by omega
    try (have _P1w_1 : w.heap.size + 1 < w1.heap.size := by omega)
    try (have _P1w_2 : w.heap.size + 1 + 1 < w1.heap.size := by omega)
    try (have _P1w_3 : w.heap.size + 1 + 1 + 1 < w1.heap.size := by omega)
    go_wp2_with fail
    refine (impl_rOk _ _ _ n0 n1 d0 d1).mono ?_
    rintro en w2 ⟨rfl, B2⟩
    obtain ⟨hc2, hf2⟩ := bcell B2
    have S2 := B2.size
    try simp at S2
    try (have _L2w : w.heap.size < w2.heap.size := by omega)
    have _M2w : w.heap.size ≤ w2.heap.size := by omega
    try (have _P2w_1 : w.heap.size + 1 < w2.heap.size := by omega)
    try (have _P2w_2 : w.heap.size + 1 + 1 < w2.heap.size := by omega)
    try (have _P2w_3 : w.heap.size + 1 + 1 + 1 < w2.heap.size := by omega)
    try (have _L2w1 : w1.heap.size < w2.heap.size := by omega)
    have _M2w1 : w1.heap.size ≤ w2.heap.size := by omega
    try (have _P2w1_1 : w1.heap.size + 1 < w2.heap.size := by omega)
    try (have _P2w1_2 : w1.heap.size + 1 + 1 < w2.heap.size := by omega)
    try (have _P2w1_3 : w1.heap.size + 1 + 1 + 1 < w2.heap.size := by omega)
    go_wp2
    go_ret
    exact ⟨ret_i HE.out.symm, by (repeat (first | exact Below.refl _ _ | (refine Below.setCell ?_ (by (first | exact Nat.le_refl _ | omega | (simp <;> omega) | simp)) _) | (refine Below.alloc ?_ (by (first | exact Nat.le_refl _ | omega | (simp <;> omega) | simp)) _) | (refine below_draws ?_ _) | exact B1 | (refine Below.trans ?_ (Below.mono B1 (by (first | exact Nat.le_refl _ | omega | (simp <;> omega) | simp)))) | exact B2 | (refine Below.trans ?_ (Below.mono B2 (by (first | exact Nat.le_refl _ | omega | (simp <;> omega) | simp))))))⟩
  · have hne := low_ne hk hl hq
    by_cases hlt : n * e < m * d
    · have HE := Lib.hid (hC.trans (sign_neg (by omega))); clear hC
      have hlb : decide (n * e < m * d) = true := by simpa using hlt
      clear hlt hne
      by_cases hnm : n = m
      · have hde : (d == e) = false := by rw [beq_eq_false_iff_ne]; exact fun h => hq ⟨hnm, h⟩
        have hnm' : (n == m) = true := by simpa using hnm
        clear hq hnm
        skip
        go_enter Try.func26, Try.ntmps26
        go_wp2_with fail
        refine (impl_rOk _ _ _ n0 n1 d0 d1).mono ?_
        rintro en w1 ⟨rfl, B1⟩
        obtain ⟨hc1, hf1⟩ := bcell B1
        have S1 := B1.size
        try simp at S1
        try (have _L1w : w.heap.size < w1.heap.size := by omega)
        have _M1w : w.heap.size ≤ w1.heap.size := by omega
        try (have _P1w_1 : w.heap.size + 1 < w1.heap.size := by omega)
        try (have _P1w_2 : w.heap.size + 1 + 1 < w1.heap.size := by omega)
        try (have _P1w_3 : w.heap.size + 1 + 1 + 1 < w1.heap.size := by omega)
        go_wp2_with fail
        refine (impl_rOk _ _ _ m0 m1 e0 e1).mono ?_
        rintro en w2 ⟨rfl, B2⟩
        obtain ⟨hc2, hf2⟩ := bcell B2
        have S2 := B2.size
        try simp at S2
        try (have _L2w : w.heap.size < w2.heap.size := by omega)
        have _M2w : w.heap.size ≤ w2.heap.size := by omega
        try (have _P2w_1 : w.heap.size + 1 < w2.heap.size := by omega)
        try (have _P2w_2 : w.heap.size + 1 + 1 < w2.heap.size := by omega)
        try (have _P2w_3 : w.heap.size + 1 + 1 + 1 < w2.heap.size := by omega)
        try (have _L2w1 : w1.heap.size < w2.heap.size := by omega)
        have _M2w1 : w1.heap.size ≤ w2.heap.size := by omega
        try (have _P2w1_1 : w1.heap.size + 1 < w2.heap.size := by omega)
        try (have _P2w1_2 : w1.heap.size + 1 + 1 < w2.heap.size := by omega)
        try (have _P2w1_3 : w1.heap.size + 1 + 1 + 1 < w2.heap.size := by omega)
        go_wp2_with fail
        refine (impl_less _ _ _ _ _ hk hl).mono ?_
        rintro en w3 ⟨rfl, B3⟩
        rw [hlb]
        go_wp2
        go_ret
        exact ⟨ret_i HE.out.symm, by (repeat (first | exact Below.refl _ _ | (refine Below.setCell ?_ (by (first | exact Nat.le_refl _ | omega | (simp <;> omega) | simp)) _) | (refine Below.alloc ?_ (by (first | exact Nat.le_refl _ | omega | (simp <;> omega) | simp)) _) | (refine below_draws ?_ _) | exact B1 | (refine Below.trans ?_ (Below.mono B1 (by (first | exact Nat.le_refl _ | omega | (simp <;> omega) | simp)))) | exact B2 | (refine Below.trans ?_ (Below.mono B2 (by (first | exact Nat.le_refl _ | omega | (simp <;> omega) | simp)))) | exact B3 | (refine Below.trans ?_ (Below.mono B3 (by (first | exact Nat.le_refl _ | omega | (simp <;> omega) | simp))))))⟩
      · have hnm' : (n == m) = false := by simpa using hnm
        clear hq hnm
        skip
        go_enter Try.func26, Try.ntmps26
        go_wp2_with fail
        refine (impl_rOk _ _ _ n0 n1 d0 d1).mono ?_
        rintro en w1 ⟨rfl, B1⟩
        obtain ⟨hc1, hf1⟩ := bcell B1
        have S1 := B1.size
        try simp at S1
        try (have _L1w : w.heap.size < w1.heap.size := by omega)
        have _M1w : w.heap.size ≤ w1.heap.size := by omega
        try (have _P1w_1 : w.heap.size + 1 < w1.heap.size := by omega)
        try (have _P1w_2 : w.heap.size + 1 + 1 < w1.heap.size := by omega)
        try (have _P1w_3 : w.heap.size + 1 + 1 + 1 < w1.heap.size := by omega)
        go_wp2_with fail
        refine (impl_rOk _ _ _ m0 m1 e0 e1).mono ?_
        rintro en w2 ⟨rfl, B2⟩
        obtain ⟨hc2, hf2⟩ := bcell B2
        have S2 := B2.size
        try simp at S2
        try (have _L2w : w.heap.size < w2.heap.size := by omega)
        have _M2w : w.heap.size ≤ w2.heap.size := by omega
        try (have _P2w_1 : w.heap.size + 1 < w2.heap.size := by omega)
        try (have _P2w_2 : w.heap.size + 1 + 1 < w2.heap.size := by omega)
        try (have _P2w_3 : w.heap.size + 1 + 1 + 1 < w2.heap.size := by omega)
        try (have _L2w1 : w1.heap.size < w2.heap.size := by omega)
        have _M2w1 : w1.heap.size ≤ w2.heap.size := by omega
        try (have _P2w1_1 : w1.heap.size + 1 < w2.heap.size := by omega)
        try (have _P2w1_2 : w1.heap.size + 1 + 1 < w2.heap.size := by omega)
        try (have _P2w1_3 : w1.heap.size + 1 + 1 + 1 < w2.heap.size := by omega)
        go_wp2_with fail
        refine (impl_less _ _ _ _ _ hk hl).mono ?_
        rintro en w3 ⟨rfl, B3⟩
        rw [hlb]
        go_wp2
        go_ret
        exact ⟨ret_i HE.out.symm, by (repeat (first | exact Below.refl _ _ | (refine Below.setCell ?_ (by (first | exact Nat.le_refl _ | omega | (simp <;> omega) | simp)) _) | (refine Below.alloc ?_ (by (first | exact Nat.le_refl _ | omega | (simp <;> omega) | simp)) _) | (refine below_draws ?_ _) | exact B1 | (refine Below.trans ?_ (Below.mono B1 (by (first | exact Nat.le_refl _ | omega | (simp <;> omega) | simp)))) | exact B2 | (refine Below.trans ?_ (Below.mono B2 (by (first | exact Nat.le_refl _ | omega | (simp <;> omega) | simp)))) | exact B3 | (refine Below.trans ?_ (Below.mono B3 (by (first | exact Nat.le_refl _ | omega | (simp <;> omega) | simp))))))⟩
    · have HE := Lib.hid (hC.trans (sign_pos (by omega))); clear hC
      have hlb : decide (n * e < m * d) = false := by simpa using hlt
      clear hlt hne
      by_cases hnm : n = m
      · have hde : (d == e) = false := by rw [beq_eq_false_iff_ne]; exact fun h => hq ⟨hnm, h⟩
        have hnm' : (n == m) = true := by simpa using hnm
        clear hq hnm
        skip
        go_enter Try.func26, Try.ntmps26
        go_wp2_with fail
        refine (impl_rOk _ _ _ n0 n1 d0 d1).mono ?_
        rintro en w1 ⟨rfl, B1⟩
        obtain ⟨hc1, hf1⟩ := bcell B1
        have S1 := B1.size
        try simp at S1
        try (have _L1w : w.heap.size < w1.heap.size := by omega)
        have _M1w : w.heap.size ≤ w1.heap.size := by omega
        try (have _P1w_1 : w.heap.size + 1 < w1.heap.size := by omega)
        try (have _P1w_2 : w.heap.size + 1 + 1 < w1.heap.size := by omega)
        try (have _P1w_3 : w.heap.size + 1 + 1 + 1 < w1.heap.size := by omega)
        go_wp2_with fail
        refine (impl_rOk _ _ _ m0 m1 e0 e1).mono ?_
        rintro en w2 ⟨rfl, B2⟩
        obtain ⟨hc2, hf2⟩ := bcell B2
        have S2 := B2.size
        try simp at S2
        try (have _L2w : w.heap.size < w2.heap.size := by omega)
        have _M2w : w.heap.size ≤ w2.heap.size := by omega
        try (have _P2w_1 : w.heap.size + 1 < w2.heap.size := by omega)
        try (have _P2w_2 : w.heap.size + 1 + 1 < w2.heap.size := by omega)
        try (have _P2w_3 : w.heap.size + 1 + 1 + 1 < w2.heap.size := by omega)
        try (have _L2w1 : w1.heap.size < w2.heap.size := by omega)
        have _M2w1 : w1.heap.size ≤ w2.heap.size := by omega
        try (have _P2w1_1 : w1.heap.size + 1 < w2.heap.size := by omega)
        try (have _P2w1_2 : w1.heap.size + 1 + 1 < w2.heap.size := by omega)
        try (have _P2w1_3 : w1.heap.size + 1 + 1 + 1 < w2.heap.size := by omega)
        go_wp2_with fail
        refine (impl_less _ _ _ _ _ hk hl).mono ?_
        rintro en w3 ⟨rfl, B3⟩
        rw [hlb]
        go_wp2
        go_ret
        exact ⟨ret_i HE.out.symm, by (repeat (first | exact Below.refl _ _ | (refine Below.setCell ?_ (by (first | exact Nat.le_refl _ | omega | (simp <;> omega) | simp)) _) | (refine Below.alloc ?_ (by (first | exact Nat.le_refl _ | omega | (simp <;> omega) | simp)) _) | (refine below_draws ?_ _) | exact B1 | (refine Below.trans ?_ (Below.mono B1 (by (first | exact Nat.le_refl _ | omega | (simp <;> omega) | simp)))) | exact B2 | (refine Below.trans ?_ (Below.mono B2 (by (first | exact Nat.le_refl _ | omega | (simp <;> omega) | simp)))) | exact B3 | (refine Below.trans ?_ (Below.mono B3 (by (first | exact Nat.le_refl _ | omega | (simp <;> omega) | simp))))))⟩
      · have hnm' : (n == m) = false := by simpa using hnm
        clear hq hnm
        skip
        go_enter Try.func26, Try.ntmps26
        go_wp2_with fail
        refine (impl_rOk _ _ _ n0 n1 d0 d1).mono ?_
        rintro en w1 ⟨rfl, B1⟩
        obtain ⟨hc1, hf1⟩ := bcell B1
        have S1 := B1.size
        try simp at S1
        try (have _L1w : w.heap.size < w1.heap.size := by omega)
        have _M1w : w.heap.size ≤ w1.heap.size := by omega
        try (have _P1w_1 : w.heap.size + 1 < w1.heap.size := by omega)
        try (have _P1w_2 : w.heap.size + 1 + 1 < w1.heap.size := by omega)
        try (have _P1w_3 : w.heap.size + 1 + 1 + 1 < w1.heap.size := by omega)
        go_wp2_with fail
        refine (impl_rOk _ _ _ m0 m1 e0 e1).mono ?_
        rintro en w2 ⟨rfl, B2⟩
        obtain ⟨hc2, hf2⟩ := bcell B2
        have S2 := B2.size
        try simp at S2
        try (have _L2w : w.heap.size < w2.heap.size := by omega)
        have _M2w : w.heap.size ≤ w2.heap.size := by omega
        try (have _P2w_1 : w.heap.size + 1 < w2.heap.size := by omega)
        try (have _P2w_2 : w.heap.size + 1 + 1 < w2.heap.size := by omega)
        try (have _P2w_3 : w.heap.size + 1 + 1 + 1 < w2.heap.size := by omega)
        try (have _L2w1 : w1.heap.size < w2.heap.size := by omega)
        have _M2w1 : w1.heap.size ≤ w2.heap.size := by omega
        try (have _P2w1_1 : w1.heap.size + 1 < w2.heap.size := by omega)
        try (have _P2w1_2 : w1.heap.size + 1 + 1 < w2.heap.size := by omega)
        try (have _P2w1_3 : w1.heap.size + 1 + 1 + 1 < w2.heap.size := by omega)
        go_wp2_with fail
        refine (impl_less _ _ _ _ _ hk hl).mono ?_
        rintro en w3 ⟨rfl, B3⟩
        rw [hlb]
        go_wp2
        go_ret
        exact ⟨ret_i HE.out.symm, by (repeat (first | exact Below.refl _ _ | (refine Below.setCell ?_ (by (first | exact Nat.le_refl _ | omega | (simp <;> omega) | simp)) _) | (refine Below.alloc ?_ (by (first | exact Nat.le_refl _ | omega | (simp <;> omega) | simp)) _) | (refine below_draws ?_ _) | exact B1 | (refine Below.trans ?_ (Below.mono B1 (by (first | exact Nat.le_refl _ | omega | (simp <;> omega) | simp)))) | exact B2 | (refine Below.trans ?_ (Below.mono B2 (by (first | exact Nat.le_refl _ | omega | (simp <;> omega) | simp)))) | exact B3 | (refine Below.trans ?_ (Below.mono B3 (by (first | exact Nat.le_refl _ | omega | (simp <;> omega) | simp))))))⟩
end Go.Proofs.Ytpkddaapffamiaa
