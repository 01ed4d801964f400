/-
  RatioOf, in the model and in the program: the fraction in lowest terms.
  The laws' own helpers on fractions: toRatio copies, eqRatio compares.
  Lists of fractions (two numbers each): how a slice of them reads, what a call owns of them; the laws' copies, comparisons, marks and sizes of them.
  Slices of slices of fractions: how they read; the laws' copies, comparisons and sizes of them.
-/
import Derived.Test.YtaececpphdaciaaGRat
import Derived.Test.YtaececpphdaciaaGNet
import Derived.Test.YtaececpphdaciaaGLists
namespace Go.Proofs.Ytaececpphdaciaa
open Go.RowKit

theorem ret_agg2 {a b c d : Int} (h : a = c) (k : b = d) : Ending.returned (.agg #[.int .i64 a, .int .i64 b]) = .returned (.agg #[.int .i64 c, .int .i64 d]) := by rw [h, k]
theorem rOf_zero {n d : Int} (h : d = 0 ∨ gcdV n d = 0) : rOfN n d = 0 ∧ rOfD n d = 0 := by
  have hb : rOfB n d = false := by
    unfold rOfB
    rcases h with h | h <;> simp [h]
  unfold rOfN rOfD; rw [hb]; exact ⟨rfl, rfl⟩
theorem rOf_no {n d : Int} (h : rOk (rNum n d) (rDen n d) = false) : rOfN n d = 0 ∧ rOfD n d = 0 := by
  have hb : rOfB n d = false := by unfold rOfB; rw [h, Bool.and_false]
  unfold rOfN rOfD; rw [hb]; exact ⟨rfl, rfl⟩
theorem rOf_yes {n d : Int} (hd : d ≠ 0) (hg : gcdV n d ≠ 0) (h : rOk (rNum n d) (rDen n d) = true) : rOfN n d = rNum n d ∧ rOfD n d = rDen n d := by
  have hb : rOfB n d = true := by unfold rOfB; rw [h]; simp [hd, hg]
  unfold rOfN rOfD; rw [hb]; exact ⟨rfl, rfl⟩
theorem rPos {n d : Int} (hd : 0 < d) : rNum n d = n.tdiv (gcdV n d) ∧ rDen n d = d.tdiv (gcdV n d) := by
  unfold rNum rDen; rw [if_neg (by omega), if_neg (by omega)]; exact ⟨rfl, rfl⟩
theorem rNeg {n d : Int} (hd : d < 0) : rNum n d = -(n.tdiv (gcdV n d)) ∧ rDen n d = -(d.tdiv (gcdV n d)) := by
  unfold rNum rDen; rw [if_pos hd, if_pos hd]; exact ⟨rfl, rfl⟩

set_option maxHeartbeats 1600000 in
theorem impl_rOf (n d : Int) (w : World) (n0 : -9223372036854775808 ≤ n) (n1 : n ≤ 9223372036854775807) (d0 : -9223372036854775808 ≤ d) (d1 : d ≤ 9223372036854775807) :
    Calls Try.prog 71 #[.int .i64 n, .int .i64 d] w fun e w' => e = .returned (.agg #[.int .i64 (rOfN n d), .int .i64 (rOfD n d)]) ∧ Below w.heap.size w w' := by
  obtain ⟨g0, g1⟩ := gcdV_range n d n0 n1 d0 d1
  by_cases hd : d = 0
  · have HZ := Lib.hid (rOf_zero (n := n) (d := d) (Or.inl hd))
    have hdb : (d == 0) = true := by rw [hd]; rfl
    clear hd
    go_enter Try.func71, Try.ntmps71
    go_wp2_with fail
    refine (impl_gcd _ _ _ n0 n1 d0 d1).mono ?_
    rintro e w1 ⟨rfl, B1⟩
    obtain ⟨hc1, hf1⟩ := bcell B1
    have S1 := B1.size
    try simp at S1
    try (have _L1w : w.heap.size < w1.heap.size := by omega)
    have _M1w : w.heap.size ≤ w1.heap.size := by omega
    try (have _P1w_1 : w.heap.size + 1 < w1.heap.size := by omega)
    try (have _P1w_2 : w.heap.size + 1 + 1 < w1.heap.size := by omega)
    try (have _P1w_3 : w.heap.size + 1 + 1 + 1 < w1.heap.size := by omega)
    go_wp2
    exact bodyPost_ret (v := (.agg #[.int .i64 0, .int .i64 0])) (by simp (maxDischargeDepth := 8) [results, Try.results71, go_sem, *]) rfl ⟨ret_agg2 HZ.out.1.symm HZ.out.2.symm, by (repeat (first | exact Below.refl _ _ | (refine Below.setCell ?_ (by (first | exact Nat.le_refl _ | omega | (simp <;> omega) | simp)) _) | (refine Below.alloc ?_ (by (first | exact Nat.le_refl _ | omega | (simp <;> omega) | simp)) _) | (refine below_draws ?_ _) | exact B1 | (refine Below.trans ?_ (Below.mono B1 (by (first | exact Nat.le_refl _ | omega | (simp <;> omega) | simp))))))⟩
  by_cases hg : gcdV n d = 0
  · have HZ := Lib.hid (rOf_zero (n := n) (d := d) (Or.inr hg))
    have hdb : (d == 0) = false := by simpa using hd
    have hgb : (gcdV n d == 0) = true := by simpa using hg
    clear hd hg
    go_enter Try.func71, Try.ntmps71
    go_wp2_with fail
    refine (impl_gcd _ _ _ n0 n1 d0 d1).mono ?_
    rintro e w1 ⟨rfl, B1⟩
    obtain ⟨hc1, hf1⟩ := bcell B1
    have S1 := B1.size
    try simp at S1
    try (have _L1w : w.heap.size < w1.heap.size := by omega)
    have _M1w : w.heap.size ≤ w1.heap.size := by omega
    try (have _P1w_1 : w.heap.size + 1 < w1.heap.size := by omega)
    try (have _P1w_2 : w.heap.size + 1 + 1 < w1.heap.size := by omega)
    try (have _P1w_3 : w.heap.size + 1 + 1 + 1 < w1.heap.size := by omega)
    go_wp2
    exact bodyPost_ret (v := (.agg #[.int .i64 0, .int .i64 0])) (by simp (maxDischargeDepth := 8) [results, Try.results71, go_sem, *]) rfl ⟨ret_agg2 HZ.out.1.symm HZ.out.2.symm, by (repeat (first | exact Below.refl _ _ | (refine Below.setCell ?_ (by (first | exact Nat.le_refl _ | omega | (simp <;> omega) | simp)) _) | (refine Below.alloc ?_ (by (first | exact Nat.le_refl _ | omega | (simp <;> omega) | simp)) _) | (refine below_draws ?_ _) | exact B1 | (refine Below.trans ?_ (Below.mono B1 (by (first | exact Nat.le_refl _ | omega | (simp <;> omega) | simp))))))⟩
  have hn0 : -9223372036854775808 < n := by
    rcases Int.lt_or_eq_of_le n0 with h | h
    · exact h
    · exact absurd (gcdV_min (b := d) (Or.inl h.symm)) hg
  have hd0 : -9223372036854775808 < d := by
    rcases Int.lt_or_eq_of_le d0 with h | h
    · exact h
    · exact absurd (gcdV_min (a := n) (Or.inr h.symm)) hg
  obtain ⟨p0, p1⟩ := tdiv_abs n (gcdV n d) hn0 n1
  obtain ⟨q0, q1⟩ := tdiv_abs d (gcdV n d) hd0 d1
  have hdb : (d == 0) = false := by simpa using hd
  have hgb : (gcdV n d == 0) = false := by simpa using hg
  by_cases hs : d < 0
  · obtain ⟨e1, e2⟩ := rNeg (n := n) hs
    have hs' : d.tdiv (gcdV n d) < 0 := by
      have := gcdV_dvd hn0 hd0
      have h2 := Int.tdiv_mul_cancel this.2
      rcases Int.lt_or_le (d.tdiv (gcdV n d)) 0 with h | h
      · exact h
      · have := Int.mul_nonneg h g0; omega
    have E := Lib.hid e1
    have E2 := Lib.hid e2
    clear e1 e2
    go_enter Try.func71, Try.ntmps71
    go_wp2_with fail
    refine (impl_gcd _ _ _ n0 n1 d0 d1).mono ?_
    rintro e w1 ⟨rfl, B1⟩
    obtain ⟨hc1, hf1⟩ := bcell B1
    have S1 := B1.size
    try simp at S1
    try (have _L1w : w.heap.size < w1.heap.size := by omega)
    have _M1w : w.heap.size ≤ w1.heap.size := by omega
    try (have _P1w_1 : w.heap.size + 1 < w1.heap.size := by omega)
    try (have _P1w_2 : w.heap.size + 1 + 1 < w1.heap.size := by omega)
    try (have _P1w_3 : w.heap.size + 1 + 1 + 1 < w1.heap.size := by omega)
    go_wp2
    go_region
    all_goals
      go_wp2_with fail
      refine (impl_rOk _ _ _ (by omega) (by omega) (by omega) (by omega)).mono ?_
      rintro e w2 ⟨rfl, B2⟩
      obtain ⟨hc2, hf2⟩ := bcell B2
      have S2 := B2.size
      try simp at S2
      try (have _L2w : w.heap.size < w2.heap.size := by omega)
      have _M2w : w.heap.size ≤ w2.heap.size := by omega
      try (have _P2w_1 : w.heap.size + 1 < w2.heap.size := by omega)
      try (have _P2w_2 : w.heap.size + 1 + 1 < w2.heap.size := by omega)
      try (have _P2w_3 : w.heap.size + 1 + 1 + 1 < w2.heap.size := by omega)
      try (have _L2w1 : w1.heap.size < w2.heap.size := by omega)
      have _M2w1 : w1.heap.size ≤ w2.heap.size := by omega
      try (have _P2w1_1 : w1.heap.size + 1 < w2.heap.size := by omega)
      try (have _P2w1_2 : w1.heap.size + 1 + 1 < w2.heap.size := by omega)
      try (have _P2w1_3 : w1.heap.size + 1 + 1 + 1 < w2.heap.size := by omega)
      by_cases hk : rOk (-(n.tdiv (gcdV n d))) (-(d.tdiv (gcdV n d))) = true
      · have HZ := Lib.hid (rOf_yes hd hg (by rw [E.out, E2.out]; exact hk))
        go_wp2
        exact bodyPost_ret (v := (.agg #[.int .i64 (-(n.tdiv (gcdV n d))), .int .i64 (-(d.tdiv (gcdV n d)))])) (by simp (maxDischargeDepth := 8) [results, Try.results71, go_sem, *]) rfl ⟨ret_agg2 (by rw [HZ.out.1, E.out]) (by rw [HZ.out.2, E2.out]), by (repeat (first | exact Below.refl _ _ | (refine Below.setCell ?_ (by (first | exact Nat.le_refl _ | omega | (simp <;> omega) | simp)) _) | (refine Below.alloc ?_ (by (first | exact Nat.le_refl _ | omega | (simp <;> omega) | simp)) _) | (refine below_draws ?_ _) | exact B1 | (refine Below.trans ?_ (Below.mono B1 (by (first | exact Nat.le_refl _ | omega | (simp <;> omega) | simp)))) | exact B2 | (refine Below.trans ?_ (Below.mono B2 (by (first | exact Nat.le_refl _ | omega | (simp <;> omega) | simp))))))⟩
      · have hk : rOk (-(n.tdiv (gcdV n d))) (-(d.tdiv (gcdV n d))) = false := by simpa using hk
        have HZ := Lib.hid (rOf_no (n := n) (d := d) (by rw [E.out, E2.out]; exact hk))
        go_wp2
        exact bodyPost_ret (v := (.agg #[.int .i64 0, .int .i64 0])) (by simp (maxDischargeDepth := 8) [results, Try.results71, go_sem, *]) rfl ⟨ret_agg2 HZ.out.1.symm HZ.out.2.symm, by (repeat (first | exact Below.refl _ _ | (refine Below.setCell ?_ (by (first | exact Nat.le_refl _ | omega | (simp <;> omega) | simp)) _) | (refine Below.alloc ?_ (by (first | exact Nat.le_refl _ | omega | (simp <;> omega) | simp)) _) | (refine below_draws ?_ _) | exact B1 | (refine Below.trans ?_ (Below.mono B1 (by (first | exact Nat.le_refl _ | omega | (simp <;> omega) | simp)))) | exact B2 | (refine Below.trans ?_ (Below.mono B2 (by (first | exact Nat.le_refl _ | omega | (simp <;> omega) | simp))))))⟩
  · have hs0 : 0 < d := by omega
    obtain ⟨e1, e2⟩ := rPos (n := n) hs0
    have hs' : 0 ≤ d.tdiv (gcdV n d) := Int.tdiv_nonneg (by omega) g0
    have E := Lib.hid e1
    have E2 := Lib.hid e2
    clear e1 e2
    go_enter Try.func71, Try.ntmps71
    go_wp2_with fail
    refine (impl_gcd _ _ _ n0 n1 d0 d1).mono ?_
    rintro e w1 ⟨rfl, B1⟩
    obtain ⟨hc1, hf1⟩ := bcell B1
    have S1 := B1.size
    try simp at S1
    try (have _L1w : w.heap.size < w1.heap.size := by omega)
    have _M1w : w.heap.size ≤ w1.heap.size := by omega
    try (have _P1w_1 : w.heap.size + 1 < w1.heap.size := by omega)
    try (have _P1w_2 : w.heap.size + 1 + 1 < w1.heap.size := by omega)
    try (have _P1w_3 : w.heap.size + 1 + 1 + 1 < w1.heap.size := by omega)
    go_wp2
    go_region
    all_goals
      go_wp2_with fail
      refine (impl_rOk _ _ _ (by omega) (by omega) (by omega) (by omega)).mono ?_
      rintro e w2 ⟨rfl, B2⟩
      obtain ⟨hc2, hf2⟩ := bcell B2
      have S2 := B2.size
      try simp at S2
      try (have _L2w : w.heap.size < w2.heap.size := by omega)
      have _M2w : w.heap.size ≤ w2.heap.size := by omega
      try (have _P2w_1 : w.heap.size + 1 < w2.heap.size := by omega)
      try (have _P2w_2 : w.heap.size + 1 + 1 < w2.heap.size := by omega)
      try (have _P2w_3 : w.heap.size + 1 + 1 + 1 < w2.heap.size := by omega)
      try (have _L2w1 : w1.heap.size < w2.heap.size := by omega)
      have _M2w1 : w1.heap.size ≤ w2.heap.size := by omega
      try (have _P2w1_1 : w1.heap.size + 1 < w2.heap.size := by omega)
      try (have _P2w1_2 : w1.heap.size + 1 + 1 < w2.heap.size := by omega)
      try (have _P2w1_3 : w1.heap.size + 1 + 1 + 1 < w2.heap.size := by omega)
      by_cases hk : rOk (n.tdiv (gcdV n d)) (d.tdiv (gcdV n d)) = true
      · have HZ := Lib.hid (rOf_yes hd hg (by rw [E.out, E2.out]; exact hk))
        go_wp2
        exact bodyPost_ret (v := (.agg #[.int .i64 (n.tdiv (gcdV n d)), .int .i64 (d.tdiv (gcdV n d))])) (by simp (maxDischargeDepth := 8) [results, Try.results71, go_sem, *]) rfl ⟨ret_agg2 (by rw [HZ.out.1, E.out]) (by rw [HZ.out.2, E2.out]), by (repeat (first | exact Below.refl _ _ | (refine Below.setCell ?_ (by (first | exact Nat.le_refl _ | omega | (simp <;> omega) | simp)) _) | (refine Below.alloc ?_ (by (first | exact Nat.le_refl _ | omega | (simp <;> omega) | simp)) _) | (refine below_draws ?_ _) | exact B1 | (refine Below.trans ?_ (Below.mono B1 (by (first | exact Nat.le_refl _ | omega | (simp <;> omega) | simp)))) | exact B2 | (refine Below.trans ?_ (Below.mono B2 (by (first | exact Nat.le_refl _ | omega | (simp <;> omega) | simp))))))⟩
      · have hk : rOk (n.tdiv (gcdV n d)) (d.tdiv (gcdV n d)) = false := by simpa using hk
        have HZ := Lib.hid (rOf_no (n := n) (d := d) (by rw [E.out, E2.out]; exact hk))
        go_wp2
        exact bodyPost_ret (v := (.agg #[.int .i64 0, .int .i64 0])) (by simp (maxDischargeDepth := 8) [results, Try.results71, go_sem, *]) rfl ⟨ret_agg2 HZ.out.1.symm HZ.out.2.symm, by (repeat (first | exact Below.refl _ _ | (refine Below.setCell ?_ (by (first | exact Nat.le_refl _ | omega | (simp <;> omega) | simp)) _) | (refine Below.alloc ?_ (by (first | exact Nat.le_refl _ | omega | (simp <;> omega) | simp)) _) | (refine below_draws ?_ _) | exact B1 | (refine Below.trans ?_ (Below.mono B1 (by (first | exact Nat.le_refl _ | omega | (simp <;> omega) | simp)))) | exact B2 | (refine Below.trans ?_ (Below.mono B2 (by (first | exact Nat.le_refl _ | omega | (simp <;> omega) | simp))))))⟩

set_option maxHeartbeats 1600000 in
theorem spec_rOf (n d : Int) (w : World) (n0 : -9223372036854775808 ≤ n) (n1 : n ≤ 9223372036854775807) (d0 : -9223372036854775808 ≤ d) (d1 : d ≤ 9223372036854775807) :
    Calls Try.prog 93 #[.int .i64 n, .int .i64 d] w fun e w' => e = .returned (.agg #[.int .i64 (rOfN n d), .int .i64 (rOfD n d)]) ∧ Below w.heap.size w w' := by
  obtain ⟨g0, g1⟩ := gcdV_range n d n0 n1 d0 d1
  by_cases hg : gcdV n d = 0
  · have HZ := Lib.hid (rOf_zero (n := n) (d := d) (Or.inr hg))
    have hgb : (gcdV n d == 0) = true := by simpa using hg
    clear hg
    go_enter Try.func93, Try.ntmps93
    go_wp2_with fail
    refine (spec_gcd _ _ _ n0 n1 d0 d1).mono ?_
    rintro e w1 ⟨rfl, B1⟩
    obtain ⟨hc1, hf1⟩ := bcell B1
    have S1 := B1.size
    try simp at S1
    try (have _L1w : w.heap.size < w1.heap.size := by omega)
    have _M1w : w.heap.size ≤ w1.heap.size := by omega
    try (have _P1w_1 : w.heap.size + 1 < w1.heap.size := by omega)
    try (have _P1w_2 : w.heap.size + 1 + 1 < w1.heap.size := by omega)
    try (have _P1w_3 : w.heap.size + 1 + 1 + 1 < w1.heap.size := by omega)
    go_wp2
    exact bodyPost_ret (v := (.agg #[.int .i64 0, .int .i64 0])) (by simp (maxDischargeDepth := 8) [results, Try.results93, go_sem, *]) rfl ⟨ret_agg2 HZ.out.1.symm HZ.out.2.symm, by (repeat (first | exact Below.refl _ _ | (refine Below.setCell ?_ (by (first | exact Nat.le_refl _ | omega | (simp <;> omega) | simp)) _) | (refine Below.alloc ?_ (by (first | exact Nat.le_refl _ | omega | (simp <;> omega) | simp)) _) | (refine below_draws ?_ _) | exact B1 | (refine Below.trans ?_ (Below.mono B1 (by (first | exact Nat.le_refl _ | omega | (simp <;> omega) | simp))))))⟩
  by_cases hd : d = 0
  · have HZ := Lib.hid (rOf_zero (n := n) (d := d) (Or.inl hd))
    have hgb : (gcdV n d == 0) = false := by simpa using hg
    have hdb : (d == 0) = true := by rw [hd]; rfl
    clear hd hg
    go_enter Try.func93, Try.ntmps93
    go_wp2_with fail
    refine (spec_gcd _ _ _ n0 n1 d0 d1).mono ?_
    rintro e w1 ⟨rfl, B1⟩
    obtain ⟨hc1, hf1⟩ := bcell B1
    have S1 := B1.size
    try simp at S1
    try (have _L1w : w.heap.size < w1.heap.size := by omega)
    have _M1w : w.heap.size ≤ w1.heap.size := by omega
    try (have _P1w_1 : w.heap.size + 1 < w1.heap.size := by omega)
    try (have _P1w_2 : w.heap.size + 1 + 1 < w1.heap.size := by omega)
    try (have _P1w_3 : w.heap.size + 1 + 1 + 1 < w1.heap.size := by omega)
    go_wp2
    exact bodyPost_ret (v := (.agg #[.int .i64 0, .int .i64 0])) (by simp (maxDischargeDepth := 8) [results, Try.results93, go_sem, *]) rfl ⟨ret_agg2 HZ.out.1.symm HZ.out.2.symm, by (repeat (first | exact Below.refl _ _ | (refine Below.setCell ?_ (by (first | exact Nat.le_refl _ | omega | (simp <;> omega) | simp)) _) | (refine Below.alloc ?_ (by (first | exact Nat.le_refl _ | omega | (simp <;> omega) | simp)) _) | (refine below_draws ?_ _) | exact B1 | (refine Below.trans ?_ (Below.mono B1 (by (first | exact Nat.le_refl _ | omega | (simp <;> omega) | simp))))))⟩
  have hn0 : -9223372036854775808 < n := by
    rcases Int.lt_or_eq_of_le n0 with h | h
    · exact h
    · exact absurd (gcdV_min (b := d) (Or.inl h.symm)) hg
  have hd0 : -9223372036854775808 < d := by
    rcases Int.lt_or_eq_of_le d0 with h | h
    · exact h
    · exact absurd (gcdV_min (a := n) (Or.inr h.symm)) hg
  have hdb : (d == 0) = false := by simpa using hd
  have hgb : (gcdV n d == 0) = false := by simpa using hg
  by_cases hs : d < 0
  · obtain ⟨e1, e2⟩ := rNeg (n := n) hs
    obtain ⟨p0, p1⟩ := tdiv_abs n (gcdV n d) hn0 n1
    obtain ⟨q0, q1⟩ := tdiv_abs d (gcdV n d) hd0 d1
    have hgb' : (-gcdV n d == 0) = false := by simpa using hg
    have E := Lib.hid e1
    have E2 := Lib.hid e2
    clear e1 e2
    go_enter Try.func93, Try.ntmps93
    go_wp2_with fail
    refine (spec_gcd _ _ _ n0 n1 d0 d1).mono ?_
    rintro e w1 ⟨rfl, B1⟩
    obtain ⟨hc1, hf1⟩ := bcell B1
    have S1 := B1.size
    try simp at S1
    try (have _L1w : w.heap.size < w1.heap.size := by omega)
    have _M1w : w.heap.size ≤ w1.heap.size := by omega
    try (have _P1w_1 : w.heap.size + 1 < w1.heap.size := by omega)
    try (have _P1w_2 : w.heap.size + 1 + 1 < w1.heap.size := by omega)
    try (have _P1w_3 : w.heap.size + 1 + 1 + 1 < w1.heap.size := by omega)
    go_wp2
    go_region
    all_goals
      go_wp2_with fail
      refine (spec_rOk _ _ _ (by omega) (by omega) (by omega) (by omega)).mono ?_
      rintro e w2 ⟨rfl, B2⟩
      obtain ⟨hc2, hf2⟩ := bcell B2
      have S2 := B2.size
      try simp at S2
      try (have _L2w : w.heap.size < w2.heap.size := by omega)
      have _M2w : w.heap.size ≤ w2.heap.size := by omega
      try (have _P2w_1 : w.heap.size + 1 < w2.heap.size := by omega)
      try (have _P2w_2 : w.heap.size + 1 + 1 < w2.heap.size := by omega)
      try (have _P2w_3 : w.heap.size + 1 + 1 + 1 < w2.heap.size := by omega)
      try (have _L2w1 : w1.heap.size < w2.heap.size := by omega)
      have _M2w1 : w1.heap.size ≤ w2.heap.size := by omega
      try (have _P2w1_1 : w1.heap.size + 1 < w2.heap.size := by omega)
      try (have _P2w1_2 : w1.heap.size + 1 + 1 < w2.heap.size := by omega)
      try (have _P2w1_3 : w1.heap.size + 1 + 1 + 1 < w2.heap.size := by omega)
      by_cases hk : rOk (-(n.tdiv (gcdV n d))) (-(d.tdiv (gcdV n d))) = true
      · have HZ := Lib.hid (rOf_yes hd hg (by rw [E.out, E2.out]; exact hk))
        go_wp2
        exact bodyPost_ret (v := (.agg #[.int .i64 (-(n.tdiv (gcdV n d))), .int .i64 (-(d.tdiv (gcdV n d)))])) (by simp (maxDischargeDepth := 8) [results, Try.results93, go_sem, *]) rfl ⟨ret_agg2 (by rw [HZ.out.1, E.out]) (by rw [HZ.out.2, E2.out]), by (repeat (first | exact Below.refl _ _ | (refine Below.setCell ?_ (by (first | exact Nat.le_refl _ | omega | (simp <;> omega) | simp)) _) | (refine Below.alloc ?_ (by (first | exact Nat.le_refl _ | omega | (simp <;> omega) | simp)) _) | (refine below_draws ?_ _) | exact B1 | (refine Below.trans ?_ (Below.mono B1 (by (first | exact Nat.le_refl _ | omega | (simp <;> omega) | simp)))) | exact B2 | (refine Below.trans ?_ (Below.mono B2 (by (first | exact Nat.le_refl _ | omega | (simp <;> omega) | simp))))))⟩
      · have hk : rOk (-(n.tdiv (gcdV n d))) (-(d.tdiv (gcdV n d))) = false := by simpa using hk
        have HZ := Lib.hid (rOf_no (n := n) (d := d) (by rw [E.out, E2.out]; exact hk))
        go_wp2
        exact bodyPost_ret (v := (.agg #[.int .i64 0, .int .i64 0])) (by simp (maxDischargeDepth := 8) [results, Try.results93, go_sem, *]) rfl ⟨ret_agg2 HZ.out.1.symm HZ.out.2.symm, by (repeat (first | exact Below.refl _ _ | (refine Below.setCell ?_ (by (first | exact Nat.le_refl _ | omega | (simp <;> omega) | simp)) _) | (refine Below.alloc ?_ (by (first | exact Nat.le_refl _ | omega | (simp <;> omega) | simp)) _) | (refine below_draws ?_ _) | exact B1 | (refine Below.trans ?_ (Below.mono B1 (by (first | exact Nat.le_refl _ | omega | (simp <;> omega) | simp)))) | exact B2 | (refine Below.trans ?_ (Below.mono B2 (by (first | exact Nat.le_refl _ | omega | (simp <;> omega) | simp))))))⟩
  · have hs0 : 0 < d := by omega
    obtain ⟨e1, e2⟩ := rPos (n := n) hs0
    have hs' : 0 ≤ d.tdiv (gcdV n d) := Int.tdiv_nonneg (by omega) g0
    obtain ⟨p0, p1⟩ := tdiv_abs n (gcdV n d) hn0 n1
    obtain ⟨q0, q1⟩ := tdiv_abs d (gcdV n d) hd0 d1
    have E := Lib.hid e1
    have E2 := Lib.hid e2
    clear e1 e2
    go_enter Try.func93, Try.ntmps93
    go_wp2_with fail
    refine (spec_gcd _ _ _ n0 n1 d0 d1).mono ?_
    rintro e w1 ⟨rfl, B1⟩
    obtain ⟨hc1, hf1⟩ := bcell B1
    have S1 := B1.size
    try simp at S1
    try (have _L1w : w.heap.size < w1.heap.size := by omega)
    have _M1w : w.heap.size ≤ w1.heap.size := by omega
    try (have _P1w_1 : w.heap.size + 1 < w1.heap.size := by omega)
    try (have _P1w_2 : w.heap.size + 1 + 1 < w1.heap.size := by omega)
    try (have _P1w_3 : w.heap.size + 1 + 1 + 1 < w1.heap.size := by omega)
    go_wp2
    go_region
    all_goals
      go_wp2_with fail
      refine (spec_rOk _ _ _ (by omega) (by omega) (by omega) (by omega)).mono ?_
      rintro e w2 ⟨rfl, B2⟩
      obtain ⟨hc2, hf2⟩ := bcell B2
      have S2 := B2.size
      try simp at S2
      try (have _L2w : w.heap.size < w2.heap.size := by omega)
      have _M2w : w.heap.size ≤ w2.heap.size := by omega
      try (have _P2w_1 : w.heap.size + 1 < w2.heap.size := by omega)
      try (have _P2w_2 : w.heap.size + 1 + 1 < w2.heap.size := by omega)
      try (have _P2w_3 : w.heap.size + 1 + 1 + 1 < w2.heap.size := by omega)
      try (have _L2w1 : w1.heap.size < w2.heap.size := by omega)
      have _M2w1 : w1.heap.size ≤ w2.heap.size := by omega
      try (have _P2w1_1 : w1.heap.size + 1 < w2.heap.size := by omega)
      try (have _P2w1_2 : w1.heap.size + 1 + 1 < w2.heap.size := by omega)
      try (have _P2w1_3 : w1.heap.size + 1 + 1 + 1 < w2.heap.size := by omega)
      by_cases hk : rOk (n.tdiv (gcdV n d)) (d.tdiv (gcdV n d)) = true
      · have HZ := Lib.hid (rOf_yes hd hg (by rw [E.out, E2.out]; exact hk))
        go_wp2
        exact bodyPost_ret (v := (.agg #[.int .i64 (n.tdiv (gcdV n d)), .int .i64 (d.tdiv (gcdV n d))])) (by simp (maxDischargeDepth := 8) [results, Try.results93, go_sem, *]) rfl ⟨ret_agg2 (by rw [HZ.out.1, E.out]) (by rw [HZ.out.2, E2.out]), by (repeat (first | exact Below.refl _ _ | (refine Below.setCell ?_ (by (first | exact Nat.le_refl _ | omega | (simp <;> omega) | simp)) _) | (refine Below.alloc ?_ (by (first | exact Nat.le_refl _ | omega | (simp <;> omega) | simp)) _) | (refine below_draws ?_ _) | exact B1 | (refine Below.trans ?_ (Below.mono B1 (by (first | exact Nat.le_refl _ | omega | (simp <;> omega) | simp)))) | exact B2 | (refine Below.trans ?_ (Below.mono B2 (by (first | exact Nat.le_refl _ | omega | (simp <;> omega) | simp))))))⟩
      · have hk : rOk (n.tdiv (gcdV n d)) (d.tdiv (gcdV n d)) = false := by simpa using hk
        have HZ := Lib.hid (rOf_no (n := n) (d := d) (by rw [E.out, E2.out]; exact hk))
        go_wp2
        exact bodyPost_ret (v := (.agg #[.int .i64 0, .int .i64 0])) (by simp (maxDischargeDepth := 8) [results, Try.results93, go_sem, *]) rfl ⟨ret_agg2 HZ.out.1.symm HZ.out.2.symm, by (repeat (first | exact Below.refl _ _ | (refine Below.setCell ?_ (by (first | exact Nat.le_refl _ | omega | (simp <;> omega) | simp)) _) | (refine Below.alloc ?_ (by (first | exact Nat.le_refl _ | omega | (simp <;> omega) | simp)) _) | (refine below_draws ?_ _) | exact B1 | (refine Below.trans ?_ (Below.mono B1 (by (first | exact Nat.le_refl _ | omega | (simp <;> omega) | simp)))) | exact B2 | (refine Below.trans ?_ (Below.mono B2 (by (first | exact Nat.le_refl _ | omega | (simp <;> omega) | simp))))))⟩
end Go.Proofs.Ytaececpphdaciaa

namespace Go.Proofs.Ytaececpphdaciaa
open Go.RowKit
set_option maxHeartbeats 400000 in
theorem eq_ratio (n d : Int) (w : World) :
    Calls Try.prog 45 #[.agg #[.int .i64 n, .int .i64 d], .agg #[.int .i64 n, .int .i64 d]] w fun e w' => e = .returned (.bool true) ∧ Below w.heap.size w w' := by
  go_enter Try.func45, Try.ntmps45
  go_wp2
  go_ret
  exact ⟨rfl, by (repeat (first | exact Below.refl _ _ | (refine Below.setCell ?_ (by (first | exact Nat.le_refl _ | omega | (simp <;> omega) | simp)) _) | (refine Below.alloc ?_ (by (first | exact Nat.le_refl _ | omega | (simp <;> omega) | simp)) _) | (refine below_draws ?_ _)))⟩
end Go.Proofs.Ytaececpphdaciaa

namespace Go.Proofs.Ytaececpphdaciaa
open Go.RowKit

/-- A fraction: numerator and denominator. -/
abbrev P2 := Int × Int
def cells2 (e : P2) : List Value := [.int .i64 e.1, .int .i64 e.2]
def cellsP (ws : List P2) : List Value := ws.flatMap cells2
theorem cellsP_nil : cellsP [] = [] := rfl
theorem cellsP_snoc (ws : List P2) (e : P2) : cellsP (ws ++ [e]) = cellsP ws ++ cells2 e := by simp [cellsP]
theorem cellsP_length : ∀ ws : List P2, (cellsP ws).length = ws.length * 2
  | [] => rfl
  | e :: r => by have := cellsP_length r; simp [cellsP, cells2] at *; omega
theorem cellsP_get : ∀ (ws : List P2) (k : Nat) (h : k < ws.length), (cellsP ws)[k * 2]? = some (.int .i64 ws[k].1) ∧ (cellsP ws)[k * 2 + 1]? = some (.int .i64 ws[k].2)
  | [], k, h => absurd h (by simp)
  | e :: r, 0, _ => ⟨rfl, rfl⟩
  | e :: r, k + 1, h => by
    have ih := cellsP_get r k (by simpa using h)
    have hc : cellsP (e :: r) = Value.int .i64 e.1 :: Value.int .i64 e.2 :: cellsP r := rfl
    have a0 : (k + 1) * 2 = k * 2 + 1 + 1 := by omega
    rw [hc, a0]
    exact ⟨ih.1, ih.2⟩

/-- The slice v reads as the fractions ws. -/
def ReadsP (w : World) (v : Value) (ws : List P2) : Prop :=
  ws.length ≤ 9223372036854775807 ∧ ((ws = [] ∧ ∃ p cap, v = .slice p 0 cap) ∨
    ∃ g o cap, v = .slice (some ⟨g, o, none⟩) ws.length cap ∧ ∀ k (h : k < ws.length), w.cell? ⟨g, o + k * 2, none⟩ = some (.int .i64 ws[k].1) ∧ w.cell? ⟨g, o + k * 2 + 1, none⟩ = some (.int .i64 ws[k].2))

theorem ReadsP.later {w w' : World} {v : Value} {ws : List P2} (h : ReadsP w v ws) (hB : Below w.heap.size w w') : ReadsP w' v ws := by
  refine ⟨h.1, ?_⟩
  rcases h.2 with h0 | ⟨g, o, cap, rfl, hc⟩
  · exact .inl h0
  · refine .inr ⟨g, o, cap, rfl, fun k hk => ?_⟩
    obtain ⟨a, b⟩ := hc k hk
    have hg := World.block_lt_of_cell? w _ a
    exact ⟨by rw [hB.cell (p := ⟨g, o + k * 2, none⟩) hg]; exact a, by rw [hB.cell (p := ⟨g, o + k * 2 + 1, none⟩) hg]; exact b⟩
theorem ReadsP.of_own {w : World} {base : Nat} {e : TypeId} {v : Value} {ws : List P2} (h : w.ownsRow base e 2 v ws.length (cellsP ws)) : ReadsP w v ws := by
  obtain ⟨hl, h2⟩ := h
  rcases h2 with ⟨rfl, hn⟩ | ⟨g, cap, cur, rfl, hb, hg, hnc, hcm, hcs, ht⟩
  · exact ⟨by omega, .inl ⟨List.eq_nil_of_length_eq_zero hn, none, 0, rfl⟩⟩
  · have hm : ws.length ≤ 9223372036854775807 := by unfold maxLen at hcm; omega
    have hh : w.ownsRow base e 2 (.slice (some ⟨g, 0, none⟩) ws.length cap) ws.length (cellsP ws) := ⟨hl, .inr ⟨g, cap, cur, rfl, hb, hg, hnc, hcm, hcs, ht⟩⟩
    refine ⟨by omega, .inr ⟨g, 0, cap, rfl, fun k hk => ?_⟩⟩
    obtain ⟨a, b⟩ := cellsP_get ws k hk
    simp only [Nat.zero_add]
    exact ⟨by rw [hh.cellAt (k * 2) (by omega), a], by rw [hh.cellAt (k * 2 + 1) (by omega), b]⟩
theorem ReadsP.shape {w : World} {v : Value} {ws : List P2} (h : ReadsP w v ws) : ∃ p cap, v = .slice p ws.length cap := by
  rcases h.2 with ⟨hx, p, cap, rfl⟩ | ⟨g, o, cap, rfl, _⟩
  · exact ⟨p, cap, by rw [hx]; rfl⟩
  · exact ⟨_, cap, rfl⟩
theorem ReadsP.pos {w : World} {v : Value} {ws : List P2} (h : ReadsP w v ws) (h0 : 0 < ws.length) : ∃ g o cap, v = .slice (some ⟨g, o, none⟩) ws.length cap ∧ g < w.heap.size ∧ ∀ k (h : k < ws.length), w.cell? ⟨g, o + k * 2, none⟩ = some (.int .i64 ws[k].1) ∧ w.cell? ⟨g, o + k * 2 + 1, none⟩ = some (.int .i64 ws[k].2) := by
  rcases h.2 with ⟨hx, _⟩ | ⟨g, o, cap, rfl, hc⟩
  · rw [hx] at h0; simp at h0
  · exact ⟨g, o, cap, rfl, World.block_lt_of_cell? w _ (hc 0 h0).1, hc⟩
theorem ReadsP.kept {w w' : World} {row : Option Nat} {v : Value} {ws : List P2} (h : ReadsP w v ws) (hg : w.grownBy w' row) (hne : v.ownBlock = none ∨ v.ownBlock ≠ row) : ReadsP w' v ws := by
  refine ⟨h.1, ?_⟩
  rcases h.2 with h0 | ⟨g, o, cap, rfl, hc⟩
  · exact .inl h0
  · have hr : some g ≠ row := by
      rcases hne with h | h
      · exact absurd h (by simp [Value.ownBlock])
      · exact h
    refine .inr ⟨g, o, cap, rfl, fun k hk => ?_⟩
    obtain ⟨a, b⟩ := hc k hk
    exact ⟨hg.cell a hr, hg.cell b hr⟩

theorem Try.infoRatio : (Try.prog.info? 43).map (fun i => (i.zero, i.size, i.bytes)) = some (some (.agg #[.int .i64 0, .int .i64 0]), 2, 16) := by kernel_rfl
theorem set2_take (ys : List Value) (ws : List P2) (k : Nat) (hk : k < ws.length) (hy : ys.length = ws.length * 2) (h : ys.take (k * 2) = cellsP (ws.take k)) :
    ((ys.set (k * 2) (.int .i64 ws[k].1)).set (k * 2 + 1) (.int .i64 ws[k].2)).take ((k + 1) * 2) = cellsP (ws.take (k + 1)) := by
  rw [List.take_succ_eq_append_getElem hk, cellsP_snoc, ← h]
  have e : (k + 1) * 2 = k * 2 + 1 + 1 := by omega
  rw [e, List.take_succ_eq_append_getElem (by simp; omega), List.take_succ_eq_append_getElem (by simp; omega)]
  simp [List.take_set_of_le, cells2]

theorem four2_keep {B : Nat} {W w w1 : World} {a b d e : Addr} {u1 u2 : Value} (h : Below w.heap.size w w1)
    (k : w.cell? a = some u1 ∧ w.cell? b = some u2 ∧ w.cell? d = some u1 ∧ w.cell? e = some u2 ∧ B ≤ w.heap.size ∧ Below B W w) :
    w1.cell? a = some u1 ∧ w1.cell? b = some u2 ∧ w1.cell? d = some u1 ∧ w1.cell? e = some u2 ∧ B ≤ w1.heap.size ∧ Below B W w1 := by
  obtain ⟨h1, h2, h4, h5, h7, h8⟩ := k
  have s := h.size
  refine ⟨?_, ?_, ?_, ?_, by omega, h8.trans (h.mono h7)⟩
  · rw [h.cell (World.block_lt_of_cell? w _ h1)]; exact h1
  · rw [h.cell (World.block_lt_of_cell? w _ h2)]; exact h2
  · rw [h.cell (World.block_lt_of_cell? w _ h4)]; exact h4
  · rw [h.cell (World.block_lt_of_cell? w _ h5)]; exact h5

/-- n fractions of running numbers from k on. -/
def mkp (k n : Nat) : List P2 := (List.range n).map fun i => (((k + i * 2 : Nat) : Int), ((k + i * 2 + 1 : Nat) : Int))
theorem mkp_length (k n : Nat) : (mkp k n).length = n := by simp [mkp]
theorem mkp_get (k n i : Nat) (h : i < (mkp k n).length) : (mkp k n)[i] = (((k + i * 2 : Nat) : Int), ((k + i * 2 + 1 : Nat) : Int)) := by simp [mkp]
theorem mkp_take (k n i : Nat) (h : i ≤ n) : (mkp k n).take i = mkp k i := by
  unfold mkp; rw [← List.map_take, List.take_range, Nat.min_eq_left h]

end Go.Proofs.Ytaececpphdaciaa

namespace Go.Proofs.Ytaececpphdaciaa
open Go.RowKit

abbrev MatP := List (List P2)
/-- The slice v reads as the rows m. -/
def ReadsPP (w : World) (v : Value) (m : MatP) : Prop :=
  ∃ p cap, v = .slice p m.length cap ∧ m.length ≤ cap ∧ cap ≤ 9223372036854775807 ∧ (m = [] ∨ ∃ g o, p = some ⟨g, o, none⟩ ∧ ∀ k (h : k < m.length), ∃ r, w.cell? ⟨g, o + k, none⟩ = some r ∧ ReadsP w r m[k])
theorem ReadsPP.later {w w' : World} {v : Value} {m : MatP} (h : ReadsPP w v m) (hB : Below w.heap.size w w') : ReadsPP w' v m := by
  obtain ⟨p, cap, rfl, h1, h2, h3⟩ := h
  refine ⟨p, cap, rfl, h1, h2, ?_⟩
  rcases h3 with h0 | ⟨g, o, rfl, hc⟩
  · exact .inl h0
  · exact .inr ⟨g, o, rfl, fun k hk => by
      obtain ⟨r, a, b⟩ := hc k hk
      exact ⟨r, by rw [hB.cell (p := ⟨g, o + k, none⟩) (World.block_lt_of_cell? w _ a)]; exact a, b.later hB⟩⟩
theorem ReadsPP.shape {w : World} {v : Value} {m : MatP} (h : ReadsPP w v m) : ∃ p cap, v = .slice p m.length cap ∧ m.length ≤ cap ∧ cap ≤ 9223372036854775807 := by
  obtain ⟨p, cap, rfl, h1, h2, h3⟩ := h
  exact ⟨p, cap, rfl, h1, h2⟩
theorem ReadsPP.pos {w : World} {v : Value} {m : MatP} (h : ReadsPP w v m) (hq : 0 < m.length) : ∃ g o cap, v = .slice (some ⟨g, o, none⟩) m.length cap ∧ m.length ≤ cap ∧ cap ≤ 9223372036854775807 ∧ g < w.heap.size ∧ ∀ k (h : k < m.length), ∃ r, w.cell? ⟨g, o + k, none⟩ = some r ∧ ReadsP w r m[k] := by
  obtain ⟨p, cap, rfl, h1, h2, h3⟩ := h
  rcases h3 with h0 | ⟨g, o, rfl, hc⟩
  · subst h0; simp at hq
  · obtain ⟨r, a, _⟩ := hc 0 hq
    exact ⟨g, o, cap, rfl, h1, h2, World.block_lt_of_cell? w _ a, hc⟩

theorem Try.infoRowP : (Try.prog.info? 47).map (fun i => (i.zero, i.size, i.bytes)) = some (some (.slice none 0 0), 1, 24) := by kernel_rfl

/-! ### comparisons -/
theorem rowsP2_keep {lo : Nat} {w0 w w1 : World} {a b : Addr} {ra rb : Value} {q : List P2} (h : Below w.heap.size w w1)
    (k : w.cell? a = some ra ∧ w.cell? b = some rb ∧ ReadsP w ra q ∧ ReadsP w rb q ∧ lo ≤ w.heap.size ∧ Below lo w0 w) :
    w1.cell? a = some ra ∧ w1.cell? b = some rb ∧ ReadsP w1 ra q ∧ ReadsP w1 rb q ∧ lo ≤ w1.heap.size ∧ Below lo w0 w1 := by
  obtain ⟨h1, h2, h3, h4, h5, h6⟩ := k
  have s := h.size
  refine ⟨?_, ?_, h3.later h, h4.later h, by omega, h6.trans (h.mono h5)⟩
  · rw [h.cell (World.block_lt_of_cell? w _ h1)]; exact h1
  · rw [h.cell (World.block_lt_of_cell? w _ h2)]; exact h2

end Go.Proofs.Ytaececpphdaciaa
