/-
  RatioOf, in the model and in the program: the fraction in lowest terms.
-/
import Derived.Test.YtpkddaapffamiaaGRat
namespace Go.Proofs.Ytpkddaapffamiaa
open Go.RowKit

theorem ret_agg2 {a b c d : Int} (h : a = c) (k : b = d) : Ending.returned (.agg #[.int .i64 a, .int .i64 b]) = .returned (.agg #[.int .i64 c, .int .i64 d]) := by rw [h, k]
theorem rOf_zero {n d : Int} (h : d = 0 ∨ gcdV n d = 0) : rOfN n d = 0 ∧ rOfD n d = 0 := by
  have hb : rOfB n d = false := by
    unfold rOfB
    rcases h with h | h <;> simp [h]
  unfold rOfN rOfD; rw [hb]; exact ⟨rfl, rfl⟩
theorem rOf_no {n d : Int} (h : rOk (rNum n d) (rDen n d) = false) : rOfN n d = 0 ∧ rOfD n d = 0 := by
  have hb : rOfB n d = false := by unfold rOfB; rw [h, Bool.and_false]
  unfold rOfN rOfD; rw [hb]; exact ⟨rfl, rfl⟩
theorem rOf_yes {n d : Int} (hd : d ≠ 0) (hg : gcdV n d ≠ 0) (h : rOk (rNum n d) (rDen n d) = true) : rOfN n d = rNum n d ∧ rOfD n d = rDen n d := by
  have hb : rOfB n d = true := by unfold rOfB; rw [h]; simp [hd, hg]
  unfold rOfN rOfD; rw [hb]; exact ⟨rfl, rfl⟩
theorem rPos {n d : Int} (hd : 0 < d) : rNum n d = n.tdiv (gcdV n d) ∧ rDen n d = d.tdiv (gcdV n d) := by
  unfold rNum rDen; rw [if_neg (by omega), if_neg (by omega)]; exact ⟨rfl, rfl⟩
theorem rNeg {n d : Int} (hd : d < 0) : rNum n d = -(n.tdiv (gcdV n d)) ∧ rDen n d = -(d.tdiv (gcdV n d)) := by
  unfold rNum rDen; rw [if_pos hd, if_pos hd]; exact ⟨rfl, rfl⟩

set_option maxHeartbeats 1600000 in
theorem impl_rOf (n d : Int) (w : World) (n0 : -9223372036854775808 ≤ n) (n1 : n ≤ 9223372036854775807) (d0 : -9223372036854775808 ≤ d) (d1 : d ≤ 9223372036854775807) :
    Calls Try.prog 20 #[.int .i64 n, .int .i64 d] w fun e w' => e = .returned (.agg #[.int .i64 (rOfN n d), .int .i64 (rOfD n d)]) ∧ Below w.heap.size w w' := by
  obtain ⟨g0, g1⟩ := gcdV_range n d n0 n1 d0 d1
  by_cases hd : d = 0
  · have HZ := Lib.hid (rOf_zero (n := n) (d := d) (Or.inl hd))
    have hdb : (d == 0) = true := by rw [hd]; rfl
    clear hd
    go_enter Try.func20, Try.ntmps20
    go_wp2_with fail
    refine (impl_gcd _ _ _ n0 n1 d0 d1).mono ?_
    rintro e w1 ⟨rfl, B1⟩
    obtain ⟨hc1, hf1⟩ := bcell B1
    have S1 := B1.size
    try simp at S1
    try (have _L1w : w.heap.size < w1.heap.size := by omega)
    have _M1w : w.heap.size ≤ w1.heap.size := by omega
    try (have _P1w_1 : w.heap.size + 1 < w1.heap.size := by omega)
    try (have _P1w_2 : w.heap.size + 1 + 1 < w1.heap.size := by omega)
    try (have _P1w_3 : w.heap.size + 1 + 1 + 1 < w1.heap.size := by omega)
    go_wp2
    exact bodyPost_ret (v := (.agg #[.int .i64 0, .int .i64 0])) (by simp (maxDischargeDepth := 8) [results, Try.results20, go_sem, *]) rfl ⟨ret_agg2 HZ.out.1.symm HZ.out.2.symm, by (repeat (first | exact Below.refl _ _ | (refine Below.setCell ?_ (by (first | exact Nat.le_refl _ | omega | (simp <;> omega) | simp)) _) | (refine Below.alloc ?_ (by (first | exact Nat.le_refl _ | omega | (simp <;> omega) | simp)) _) | (refine below_draws ?_ _) | exact B1 | (refine Below.trans ?_ (Below.mono B1 (by (first | exact Nat.le_refl _ | omega | (simp <;> omega) | simp))))))⟩
  by_cases hg : gcdV n d = 0
  · have HZ := Lib.hid (rOf_zero (n := n) (d := d) (Or.inr hg))
    have hdb : (d == 0) = false := by simpa using hd
    have hgb : (gcdV n d == 0) = true := by simpa using hg
    clear hd hg
    go_enter Try.func20, Try.ntmps20
    go_wp2_with fail
    refine (impl_gcd _ _ _ n0 n1 d0 d1).mono ?_
    rintro e w1 ⟨rfl, B1⟩
    obtain ⟨hc1, hf1⟩ := bcell B1
    have S1 := B1.size
    try simp at S1
    try (have _L1w : w.heap.size < w1.heap.size := by omega)
    have _M1w : w.heap.size ≤ w1.heap.size := by omega
    try (have _P1w_1 : w.heap.size + 1 < w1.heap.size := by omega)
    try (have _P1w_2 : w.heap.size + 1 + 1 < w1.heap.size := by omega)
    try (have _P1w_3 : w.heap.size + 1 + 1 + 1 < w1.heap.size := by omega)
    go_wp2
    exact bodyPost_ret (v := (.agg #[.int .i64 0, .int .i64 0])) (by simp (maxDischargeDepth := 8) [results, Try.results20, go_sem, *]) rfl ⟨ret_agg2 HZ.out.1.symm HZ.out.2.symm, by (repeat (first | exact Below.refl _ _ | (refine Below.setCell ?_ (by (first | exact Nat.le_refl _ | omega | (simp <;> omega) | simp)) _) | (refine Below.alloc ?_ (by (first | exact Nat.le_refl _ | omega | (simp <;> omega) | simp)) _) | (refine below_draws ?_ _) | exact B1 | (refine Below.trans ?_ (Below.mono B1 (by (first | exact Nat.le_refl _ | omega | (simp <;> omega) | simp))))))⟩
  have hn0 : -9223372036854775808 < n := by
    rcases Int.lt_or_eq_of_le n0 with h | h
    · exact h
    · exact absurd (gcdV_min (b := d) (Or.inl h.symm)) hg
  have hd0 : -9223372036854775808 < d := by
    rcases Int.lt_or_eq_of_le d0 with h | h
    · exact h
    · exact absurd (gcdV_min (a := n) (Or.inr h.symm)) hg
  obtain ⟨p0, p1⟩ := tdiv_abs n (gcdV n d) hn0 n1
  obtain ⟨q0, q1⟩ := tdiv_abs d (gcdV n d) hd0 d1
  have hdb : (d == 0) = false := by simpa using hd
  have hgb : (gcdV n d == 0) = false := by simpa using hg
  by_cases hs : d < 0
  · obtain ⟨e1, e2⟩ := rNeg (n := n) hs
    have hs' : d.tdiv (gcdV n d) < 0 := by
      have := gcdV_dvd hn0 hd0
      have h2 := Int.tdiv_mul_cancel this.2
      rcases Int.lt_or_le (d.tdiv (gcdV n d)) 0 with h | h
      · exact h
      · have := Int.mul_nonneg h g0; omega
    have E := Lib.hid e1
    have E2 := Lib.hid e2
    clear e1 e2
    go_enter Try.func20, Try.ntmps20
    go_wp2_with fail
    refine (impl_gcd _ _ _ n0 n1 d0 d1).mono ?_
    rintro e w1 ⟨rfl, B1⟩
    obtain ⟨hc1, hf1⟩ := bcell B1
    have S1 := B1.size
    try simp at S1
    try (have _L1w : w.heap.size < w1.heap.size := by omega)
    have _M1w : w.heap.size ≤ w1.heap.size := by omega
    try (have _P1w_1 : w.heap.size + 1 < w1.heap.size := by omega)
    try (have _P1w_2 : w.heap.size + 1 + 1 < w1.heap.size := by omega)
    try (have _P1w_3 : w.heap.size + 1 + 1 + 1 < w1.heap.size := by omega)
    go_wp2
    go_region
    all_goals
      go_wp2_with fail
      refine (impl_rOk _ _ _ (by omega) (by omega) (by omega) (by omega)).mono ?_
      rintro e w2 ⟨rfl, B2⟩
      obtain ⟨hc2, hf2⟩ := bcell B2
      have S2 := B2.size
      try simp at S2
      try (have _L2w : w.heap.size < w2.heap.size := by omega)
      have _M2w : w.heap.size ≤ w2.heap.size := by omega
      try (have _P2w_1 : w.heap.size + 1 < w2.heap.size := by omega)
      try (have _P2w_2 : w.heap.size + 1 + 1 < w2.heap.size := by omega)
      try (have _P2w_3 : w.heap.size + 1 + 1 + 1 < w2.heap.size := by omega)
      try (have _L2w1 : w1.heap.size < w2.heap.size := by omega)
      have _M2w1 : w1.heap.size ≤ w2.heap.size := by omega
      try (have _P2w1_1 : w1.heap.size + 1 < w2.heap.size := by omega)
      try (have _P2w1_2 : w1.heap.size + 1 + 1 < w2.heap.size := by omega)
      try (have _P2w1_3 : w1.heap.size + 1 + 1 + 1 < w2.heap.size := by omega)
      by_cases hk : rOk (-(n.tdiv (gcdV n d))) (-(d.tdiv (gcdV n d))) = true
      · have HZ := Lib.hid (rOf_yes hd hg (by rw [E.out, E2.out]; exact hk))
        go_wp2
        exact bodyPost_ret (v := (.agg #[.int .i64 (-(n.tdiv (gcdV n d))), .int .i64 (-(d.tdiv (gcdV n d)))])) (by simp (maxDischargeDepth := 8) [results, Try.results20, go_sem, *]) rfl ⟨ret_agg2 (by rw [HZ.out.1, E.out]) (by rw [HZ.out.2, E2.out]), by (repeat (first | exact Below.refl _ _ | (refine Below.setCell ?_ (by (first | exact Nat.le_refl _ | omega | (simp <;> omega) | simp)) _) | (refine Below.alloc ?_ (by (first | exact Nat.le_refl _ | omega | (simp <;> omega) | simp)) _) | (refine below_draws ?_ _) | exact B1 | (refine Below.trans ?_ (Below.mono B1 (by (first | exact Nat.le_refl _ | omega | (simp <;> omega) | simp)))) | exact B2 | (refine Below.trans ?_ (Below.mono B2 (by (first | exact Nat.le_refl _ | omega | (simp <;> omega) | simp))))))⟩
      · have hk : rOk (-(n.tdiv (gcdV n d))) (-(d.tdiv (gcdV n d))) = false := by simpa using hk
        have HZ := Lib.hid (rOf_no (n := n) (d := d) (by rw [E.out, E2.out]; exact hk))
        go_wp2
        exact bodyPost_ret (v := (.agg #[.int .i64 0, .int .i64 0])) (by simp (maxDischargeDepth := 8) [results, Try.results20, go_sem, *]) rfl ⟨ret_agg2 HZ.out.1.symm HZ.out.2.symm, by (repeat (first | exact Below.refl _ _ | (refine Below.setCell ?_ (by (first | exact Nat.le_refl _ | omega | (simp <;> omega) | simp)) _) | (refine Below.alloc ?_ (by (first | exact Nat.le_refl _ | omega | (simp <;> omega) | simp)) _) | (refine below_draws ?_ _) | exact B1 | (refine Below.trans ?_ (Below.mono B1 (by (first | exact Nat.le_refl _ | omega | (simp <;> omega) | simp)))) | exact B2 | (refine Below.trans ?_ (Below.mono B2 (by (first | exact Nat.le_refl _ | omega | (simp <;> omega) | simp))))))⟩
  · have hs0 : 0 < d := by omega
    obtain ⟨e1, e2⟩ := rPos (n := n) hs0
    have hs' : 0 ≤ d.tdiv (gcdV n d) := Int.tdiv_nonneg (by omega) g0
    have E := Lib.hid e1
    have E2 := Lib.hid e2
    clear e1 e2
    go_enter Try.func20, Try.ntmps20
    go_wp2_with fail
    refine (impl_gcd _ _ _ n0 n1 d0 d1).mono ?_
    rintro e w1 ⟨rfl, B1⟩
    obtain ⟨hc1, hf1⟩ := bcell B1
    have S1 := B1.size
    try simp at S1
    try (have _L1w : w.heap.size < w1.heap.size := by omega)
    have _M1w : w.heap.size ≤ w1.heap.size := by omega
    try (have _P1w_1 : w.heap.size + 1 < w1.heap.size := by omega)
    try (have _P1w_2 : w.heap.size + 1 + 1 < w1.heap.size := by omega)
    try (have _P1w_3 : w.heap.size + 1 + 1 + 1 < w1.heap.size := by omega)
    go_wp2
    go_region
    all_goals
      go_wp2_with fail
      refine (impl_rOk _ _ _ (by omega) (by omega) (by omega) (by omega)).mono ?_
      rintro e w2 ⟨rfl, B2⟩
      obtain ⟨hc2, hf2⟩ := bcell B2
      have S2 := B2.size
      try simp at S2
      try (have _L2w : w.heap.size < w2.heap.size := by omega)
      have _M2w : w.heap.size ≤ w2.heap.size := by omega
      try (have _P2w_1 : w.heap.size + 1 < w2.heap.size := by omega)
      try (have _P2w_2 : w.heap.size + 1 + 1 < w2.heap.size := by omega)
      try (have _P2w_3 : w.heap.size + 1 + 1 + 1 < w2.heap.size := by omega)
      try (have _L2w1 : w1.heap.size < w2.heap.size := by omega)
      have _M2w1 : w1.heap.size ≤ w2.heap.size := by omega
      try (have _P2w1_1 : w1.heap.size + 1 < w2.heap.size := by omega)
      try (have _P2w1_2 : w1.heap.size + 1 + 1 < w2.heap.size := by omega)
      try (have _P2w1_3 : w1.heap.size + 1 + 1 + 1 < w2.heap.size := by omega)
      by_cases hk : rOk (n.tdiv (gcdV n d)) (d.tdiv (gcdV n d)) = true
      · have HZ := Lib.hid (rOf_yes hd hg (by rw [E.out, E2.out]; exact hk))
        go_wp2
        exact bodyPost_ret (v := (.agg #[.int .i64 (n.tdiv (gcdV n d)), .int .i64 (d.tdiv (gcdV n d))])) (by simp (maxDischargeDepth := 8) [results, Try.results20, go_sem, *]) rfl ⟨ret_agg2 (by rw [HZ.out.1, E.out]) (by rw [HZ.out.2, E2.out]), by (repeat (first | exact Below.refl _ _ | (refine Below.setCell ?_ (by (first | exact Nat.le_refl _ | omega | (simp <;> omega) | simp)) _) | (refine Below.alloc ?_ (by (first | exact Nat.le_refl _ | omega | (simp <;> omega) | simp)) _) | (refine below_draws ?_ _) | exact B1 | (refine Below.trans ?_ (Below.mono B1 (by (first | exact Nat.le_refl _ | omega | (simp <;> omega) | simp)))) | exact B2 | (refine Below.trans ?_ (Below.mono B2 (by (first | exact Nat.le_refl _ | omega | (simp <;> omega) | simp))))))⟩
      · have hk : rOk (n.tdiv (gcdV n d)) (d.tdiv (gcdV n d)) = false := by simpa using hk
        have HZ := Lib.hid (rOf_no (n := n) (d := d) (by rw [E.out, E2.out]; exact hk))
        go_wp2
        exact bodyPost_ret (v := (.agg #[.int .i64 0, .int .i64 0])) (by simp (maxDischargeDepth := 8) [results, Try.results20, go_sem, *]) rfl ⟨ret_agg2 HZ.out.1.symm HZ.out.2.symm, by (repeat (first | exact Below.refl _ _ | (refine Below.setCell ?_ (by (first | exact Nat.le_refl _ | omega | (simp <;> omega) | simp)) _) | (refine Below.alloc ?_ (by (first | exact Nat.le_refl _ | omega | (simp <;> omega) | simp)) _) | (refine below_draws ?_ _) | exact B1 | (refine Below.trans ?_ (Below.mono B1 (by (first | exact Nat.le_refl _ | omega | (simp <;> omega) | simp)))) | exact B2 | (refine Below.trans ?_ (Below.mono B2 (by (first | exact Nat.le_refl _ | omega | (simp <;> omega) | simp))))))⟩

set_option maxHeartbeats 1600000 in
theorem spec_rOf (n d : Int) (w : World) (n0 : -9223372036854775808 ≤ n) (n1 : n ≤ 9223372036854775807) (d0 : -9223372036854775808 ≤ d) (d1 : d ≤ 9223372036854775807) :
    Calls Try.prog 85 #[.int .i64 n, .int .i64 d] w fun e w' => e = .returned (.agg #[.int .i64 (rOfN n d), .int .i64 (rOfD n d)]) ∧ Below w.heap.size w w' := by
  obtain ⟨g0, g1⟩ := gcdV_range n d n0 n1 d0 d1
  by_cases hg : gcdV n d = 0
  · have HZ := Lib.hid (rOf_zero (n := n) (d := d) (Or.inr hg))
    have hgb : (gcdV n d == 0) = true := by simpa using hg
    clear hg
    go_enter Try.func85, Try.ntmps85
    go_wp2_with fail
    refine (spec_gcd _ _ _ n0 n1 d0 d1).mono ?_
    rintro e w1 ⟨rfl, B1⟩
    obtain ⟨hc1, hf1⟩ := bcell B1
    have S1 := B1.size
    try simp at S1
    try (have _L1w : w.heap.size < w1.heap.size := by omega)
    have _M1w : w.heap.size ≤ w1.heap.size := by omega
    try (have _P1w_1 : w.heap.size + 1 < w1.heap.size := by omega)
    try (have _P1w_2 : w.heap.size + 1 + 1 < w1.heap.size := by omega)
    try (have _P1w_3 : w.heap.size + 1 + 1 + 1 < w1.heap.size := by omega)
    go_wp2
    exact bodyPost_ret (v := (.agg #[.int .i64 0, .int .i64 0])) (by simp (maxDischargeDepth := 8) [results, Try.results85, go_sem, *]) rfl ⟨ret_agg2 HZ.out.1.symm HZ.out.2.symm, by (repeat (first | exact Below.refl _ _ | (refine Below.setCell ?_ (by (first | exact Nat.le_refl _ | omega | (simp <;> omega) | simp)) _) | (refine Below.alloc ?_ (by (first | exact Nat.le_refl _ | omega | (simp <;> omega) | simp)) _) | (refine below_draws ?_ _) | exact B1 | (refine Below.trans ?_ (Below.mono B1 (by (first | exact Nat.le_refl _ | omega | (simp <;> omega) | simp))))))⟩
  by_cases hd : d = 0
  · have HZ := Lib.hid (rOf_zero (n := n) (d := d) (Or.inl hd))
    have hgb : (gcdV n d == 0) = false := by simpa using hg
    have hdb : (d == 0) = true := by rw [hd]; rfl
    clear hd hg
    go_enter Try.func85, Try.ntmps85
    go_wp2_with fail
    refine (spec_gcd _ _ _ n0 n1 d0 d1).mono ?_
    rintro e w1 ⟨rfl, B1⟩
    obtain ⟨hc1, hf1⟩ := bcell B1
    have S1 := B1.size
    try simp at S1
    try (have _L1w : w.heap.size < w1.heap.size := by omega)
    have _M1w : w.heap.size ≤ w1.heap.size := by omega
    try (have _P1w_1 : w.heap.size + 1 < w1.heap.size := by omega)
    try (have _P1w_2 : w.heap.size + 1 + 1 < w1.heap.size := by omega)
    try (have _P1w_3 : w.heap.size + 1 + 1 + 1 < w1.heap.size := by omega)
    go_wp2
    exact bodyPost_ret (v := (.agg #[.int .i64 0, .int .i64 0])) (by simp (maxDischargeDepth := 8) [results, Try.results85, go_sem, *]) rfl ⟨ret_agg2 HZ.out.1.symm HZ.out.2.symm, by (repeat (first | exact Below.refl _ _ | (refine Below.setCell ?_ (by (first | exact Nat.le_refl _ | omega | (simp <;> omega) | simp)) _) | (refine Below.alloc ?_ (by (first | exact Nat.le_refl _ | omega | (simp <;> omega) | simp)) _) | (refine below_draws ?_ _) | exact B1 | (refine Below.trans ?_ (Below.mono B1 (by (first | exact Nat.le_refl _ | omega | (simp <;> omega) | simp))))))⟩
  have hn0 : -9223372036854775808 < n := by
    rcases Int.lt_or_eq_of_le n0 with h | h
    · exact h
    · exact absurd (gcdV_min (b := d) (Or.inl h.symm)) hg
  have hd0 : -9223372036854775808 < d := by
    rcases Int.lt_or_eq_of_le d0 with h | h
    · exact h
    · exact absurd (gcdV_min (a := n) (Or.inr h.symm)) hg
  have hdb : (d == 0) = false := by simpa using hd
  have hgb : (gcdV n d == 0) = false := by simpa using hg
  by_cases hs : d < 0
  · obtain ⟨e1, e2⟩ := rNeg (n := n) hs
    obtain ⟨p0, p1⟩ := tdiv_abs n (gcdV n d) hn0 n1
    obtain ⟨q0, q1⟩ := tdiv_abs d (gcdV n d) hd0 d1
    have hgb' : (-gcdV n d == 0) = false := by simpa using hg
    have E := Lib.hid e1
    have E2 := Lib.hid e2
    clear e1 e2
    go_enter Try.func85, Try.ntmps85
    go_wp2_with fail
    refine (spec_gcd _ _ _ n0 n1 d0 d1).mono ?_
    rintro e w1 ⟨rfl, B1⟩
    obtain ⟨hc1, hf1⟩ := bcell B1
    have S1 := B1.size
    try simp at S1
    try (have _L1w : w.heap.size < w1.heap.size := by omega)
    have _M1w : w.heap.size ≤ w1.heap.size := by omega
    try (have _P1w_1 : w.heap.size + 1 < w1.heap.size := by omega)
    try (have _P1w_2 : w.heap.size + 1 + 1 < w1.heap.size := by omega)
    try (have _P1w_3 : w.heap.size + 1 + 1 + 1 < w1.heap.size := by omega)
    go_wp2
    go_region
    all_goals
      go_wp2_with fail
      refine (spec_rOk _ _ _ (by omega) (by omega) (by omega) (by omega)).mono ?_
      rintro e w2 ⟨rfl, B2⟩
      obtain ⟨hc2, hf2⟩ := bcell B2
      have S2 := B2.size
      try simp at S2
      try (have _L2w : w.heap.size < w2.heap.size := by omega)
      have _M2w : w.heap.size ≤ w2.heap.size := by omega
      try (have _P2w_1 : w.heap.size + 1 < w2.heap.size := by omega)
      try (have _P2w_2 : w.heap.size + 1 + 1 < w2.heap.size := by omega)
      try (have _P2w_3 : w.heap.size + 1 + 1 + 1 < w2.heap.size := by omega)
      try (have _L2w1 : w1.heap.size < w2.heap.size := by omega)
      have _M2w1 : w1.heap.size ≤ w2.heap.size := by omega
      try (have _P2w1_1 : w1.heap.size + 1 < w2.heap.size := by omega)
      try (have _P2w1_2 : w1.heap.size + 1 + 1 < w2.heap.size := by omega)
      try (have _P2w1_3 : w1.heap.size + 1 + 1 + 1 < w2.heap.size := by omega)
      by_cases hk : rOk (-(n.tdiv (gcdV n d))) (-(d.tdiv (gcdV n d))) = true
      · have HZ := Lib.hid (rOf_yes hd hg (by rw [E.out, E2.out]; exact hk))
        go_wp2
        exact bodyPost_ret (v := (.agg #[.int .i64 (-(n.tdiv (gcdV n d))), .int .i64 (-(d.tdiv (gcdV n d)))])) (by simp (maxDischargeDepth := 8) [results, Try.results85, go_sem, *]) rfl ⟨ret_agg2 (by rw [HZ.out.1, E.out]) (by rw [HZ.out.2, E2.out]), by (repeat (first | exact Below.refl _ _ | (refine Below.setCell ?_ (by (first | exact Nat.le_refl _ | omega | (simp <;> omega) | simp)) _) | (refine Below.alloc ?_ (by (first | exact Nat.le_refl _ | omega | (simp <;> omega) | simp)) _) | (refine below_draws ?_ _) | exact B1 | (refine Below.trans ?_ (Below.mono B1 (by (first | exact Nat.le_refl _ | omega | (simp <;> omega) | simp)))) | exact B2 | (refine Below.trans ?_ (Below.mono B2 (by (first | exact Nat.le_refl _ | omega | (simp <;> omega) | simp))))))⟩
      · have hk : rOk (-(n.tdiv (gcdV n d))) (-(d.tdiv (gcdV n d))) = false := by simpa using hk
        have HZ := Lib.hid (rOf_no (n := n) (d := d) (by rw [E.out, E2.out]; exact hk))
        go_wp2
        exact bodyPost_ret (v := (.agg #[.int .i64 0, .int .i64 0])) (by simp (maxDischargeDepth := 8) [results, Try.results85, go_sem, *]) rfl ⟨ret_agg2 HZ.out.1.symm HZ.out.2.symm, by (repeat (first | exact Below.refl _ _ | (refine Below.setCell ?_ (by (first | exact Nat.le_refl _ | omega | (simp <;> omega) | simp)) _) | (refine Below.alloc ?_ (by (first | exact Nat.le_refl _ | omega | (simp <;> omega) | simp)) _) | (refine below_draws ?_ _) | exact B1 | (refine Below.trans ?_ (Below.mono B1 (by (first | exact Nat.le_refl _ | omega | (simp <;> omega) | simp)))) | exact B2 | (refine Below.trans ?_ (Below.mono B2 (by (first | exact Nat.le_refl _ | omega | (simp <;> omega) | simp))))))⟩
  · have hs0 : 0 < d := by omega
    obtain ⟨e1, e2⟩ := rPos (n := n) hs0
    have hs' : 0 ≤ d.tdiv (gcdV n d) := Int.tdiv_nonneg (by omega) g0
    obtain ⟨p0, p1⟩ := tdiv_abs n (gcdV n d) hn0 n1
    obtain ⟨q0, q1⟩ := tdiv_abs d (gcdV n d) hd0 d1
    have E := Lib.hid e1
    have E2 := Lib.hid e2
    clear e1 e2
    go_enter Try.func85, Try.ntmps85
    go_wp2_with fail
    refine (spec_gcd _ _ _ n0 n1 d0 d1).mono ?_
    rintro e w1 ⟨rfl, B1⟩
    obtain ⟨hc1, hf1⟩ := bcell B1
    have S1 := B1.size
    try simp at S1
    try (have _L1w : w.heap.size < w1.heap.size := by omega)
    have _M1w : w.heap.size ≤ w1.heap.size := by omega
    try (have _P1w_1 : w.heap.size + 1 < w1.heap.size := by omega)
    try (have _P1w_2 : w.heap.size + 1 + 1 < w1.heap.size := by omega)
    try (have _P1w_3 : w.heap.size + 1 + 1 + 1 < w1.heap.size := by omega)
    go_wp2
    go_region
    all_goals
      go_wp2_with fail
      refine (spec_rOk _ _ _ (by omega) (by omega) (by omega) (by omega)).mono ?_
      rintro e w2 ⟨rfl, B2⟩
      obtain ⟨hc2, hf2⟩ := bcell B2
      have S2 := B2.size
      try simp at S2
      try (have _L2w : w.heap.size < w2.heap.size := by omega)
      have _M2w : w.heap.size ≤ w2.heap.size := by omega
      try (have _P2w_1 : w.heap.size + 1 < w2.heap.size := by omega)
      try (have _P2w_2 : w.heap.size + 1 + 1 < w2.heap.size := by omega)
      try (have _P2w_3 : w.heap.size + 1 + 1 + 1 < w2.heap.size := by omega)
      try (have _L2w1 : w1.heap.size < w2.heap.size := by omega)
      have _M2w1 : w1.heap.size ≤ w2.heap.size := by omega
      try (have _P2w1_1 : w1.heap.size + 1 < w2.heap.size := by omega)
      try (have _P2w1_2 : w1.heap.size + 1 + 1 < w2.heap.size := by omega)
      try (have _P2w1_3 : w1.heap.size + 1 + 1 + 1 < w2.heap.size := by omega)
      by_cases hk : rOk (n.tdiv (gcdV n d)) (d.tdiv (gcdV n d)) = true
      · have HZ := Lib.hid (rOf_yes hd hg (by rw [E.out, E2.out]; exact hk))
        go_wp2
        exact bodyPost_ret (v := (.agg #[.int .i64 (n.tdiv (gcdV n d)), .int .i64 (d.tdiv (gcdV n d))])) (by simp (maxDischargeDepth := 8) [results, Try.results85, go_sem, *]) rfl ⟨ret_agg2 (by rw [HZ.out.1, E.out]) (by rw [HZ.out.2, E2.out]), by (repeat (first | exact Below.refl _ _ | (refine Below.setCell ?_ (by (first | exact Nat.le_refl _ | omega | (simp <;> omega) | simp)) _) | (refine Below.alloc ?_ (by (first | exact Nat.le_refl _ | omega | (simp <;> omega) | simp)) _) | (refine below_draws ?_ _) | exact B1 | (refine Below.trans ?_ (Below.mono B1 (by (first | exact Nat.le_refl _ | omega | (simp <;> omega) | simp)))) | exact B2 | (refine Below.trans ?_ (Below.mono B2 (by (first | exact Nat.le_refl _ | omega | (simp <;> omega) | simp))))))⟩
      · have hk : rOk (n.tdiv (gcdV n d)) (d.tdiv (gcdV n d)) = false := by simpa using hk
        have HZ := Lib.hid (rOf_no (n := n) (d := d) (by rw [E.out, E2.out]; exact hk))
        go_wp2
        exact bodyPost_ret (v := (.agg #[.int .i64 0, .int .i64 0])) (by simp (maxDischargeDepth := 8) [results, Try.results85, go_sem, *]) rfl ⟨ret_agg2 HZ.out.1.symm HZ.out.2.symm, by (repeat (first | exact Below.refl _ _ | (refine Below.setCell ?_ (by (first | exact Nat.le_refl _ | omega | (simp <;> omega) | simp)) _) | (refine Below.alloc ?_ (by (first | exact Nat.le_refl _ | omega | (simp <;> omega) | simp)) _) | (refine below_draws ?_ _) | exact B1 | (refine Below.trans ?_ (Below.mono B1 (by (first | exact Nat.le_refl _ | omega | (simp <;> omega) | simp)))) | exact B2 | (refine Below.trans ?_ (Below.mono B2 (by (first | exact Nat.le_refl _ | omega | (simp <;> omega) | simp))))))⟩
end Go.Proofs.Ytpkddaapffamiaa
