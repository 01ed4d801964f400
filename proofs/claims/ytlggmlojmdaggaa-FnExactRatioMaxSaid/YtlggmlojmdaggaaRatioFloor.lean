/-
  Floors and ceilings of fractions, in the model and in the program.
-/
import Derived.Test.YtlggmlojmdaggaaRatio
namespace Go.Proofs.Ytlggmlojmdaggaa
open Go.RowKit

def rFloor (n d : Int) : Int := if rOk n d = true then n / d else 0
def rCeil (n d : Int) : Int := if rOk n d = true then -(-n / d) else 0

set_option maxHeartbeats 400000 in
theorem spec_floor (n d : Int) (w : World) (hd : 0 < d) (n0 : -2000000000000000000 ≤ n) (n1 : n ≤ 2000000000000000000) (d1 : d ≤ 2000000000000000000) :
    Calls Try.prog 31 #[.int .i64 n, .int .i64 d] w fun e w' => e = .returned (.int .i64 (n / d)) ∧ w = w' := by
  have hdb : (d == 0) = false := by rw [beq_eq_false_iff_ne]; omega
  have hr := Int.natAbs_tdiv_le_natAbs n d
  have hr0 : -2000000000000000000 ≤ n.tdiv d := by omega
  have hr1 : n.tdiv d ≤ 2000000000000000000 := by omega
  clear hr
  by_cases hm : n.tmod d < 0
  · have HE := Lib.hid (floor_neg n d hd hm)
    go_enter Try.func31, Try.ntmps31
    go_wp2
    go_ret
    exact ⟨ret_i HE.out, rfl⟩
  · have HE := Lib.hid (floor_nonneg n d hd hm)
    have hm' : decide (n.tmod d < 0) = false := by simpa using hm
    clear hm
    go_enter Try.func31, Try.ntmps31
    go_wp2
    go_ret
    exact ⟨ret_i HE.out, rfl⟩

set_option maxHeartbeats 400000 in
theorem impl_floor (n d : Int) (w : World) (hd : 0 < d) (n0 : -2000000000000000000 ≤ n) (n1 : n ≤ 2000000000000000000) (d1 : d ≤ 2000000000000000000) :
    Calls Try.prog 33 #[.agg #[.int .i64 n, .int .i64 d]] w fun e w' => e = .returned (.int .i64 (n / d)) ∧ Below w.heap.size w w' := by
  have hdb : (d == 0) = false := by rw [beq_eq_false_iff_ne]; omega
  have hr := Int.natAbs_tdiv_le_natAbs n d
  have hr0 : -2000000000000000000 ≤ n.tdiv d := by omega
  have hr1 : n.tdiv d ≤ 2000000000000000000 := by omega
  clear hr
  by_cases hm : n.tmod d < 0
  · have HE := Lib.hid (floor_neg n d hd hm)
    go_enter Try.func33, Try.ntmps33
    go_wp2
    go_ret
    exact ⟨ret_i HE.out, by (repeat (first | exact Below.refl _ _ | (refine Below.setCell ?_ (by (first | exact Nat.le_refl _ | omega | (simp <;> omega) | simp)) _) | (refine Below.alloc ?_ (by (first | exact Nat.le_refl _ | omega | (simp <;> omega) | simp)) _) | (refine below_draws ?_ _)))⟩
  · have HE := Lib.hid (floor_nonneg n d hd hm)
    have hm' : decide (n.tmod d < 0) = false := by simpa using hm
    clear hm
    go_enter Try.func33, Try.ntmps33
    go_wp2
    go_ret
    exact ⟨ret_i HE.out, by (repeat (first | exact Below.refl _ _ | (refine Below.setCell ?_ (by (first | exact Nat.le_refl _ | omega | (simp <;> omega) | simp)) _) | (refine Below.alloc ?_ (by (first | exact Nat.le_refl _ | omega | (simp <;> omega) | simp)) _) | (refine below_draws ?_ _)))⟩

set_option maxHeartbeats 400000 in
theorem impl_negative (n d : Int) (w : World) (n0 : -2000000000000000000 ≤ n) (n1 : n ≤ 2000000000000000000) :
    Calls Try.prog 34 #[.agg #[.int .i64 n, .int .i64 d]] w fun e w' => e = .returned (.agg #[.int .i64 (-n), .int .i64 d]) ∧ Below w.heap.size w w' := by
  go_enter Try.func34, Try.ntmps34
  go_wp2
  exact bodyPost_ret (v := (.agg #[.int .i64 (-n), .int .i64 d])) (by simp (maxDischargeDepth := 8) [results, Try.results34, go_sem, *]) rfl ⟨rfl, by (repeat (first | exact Below.refl _ _ | (refine Below.setCell ?_ (by (first | exact Nat.le_refl _ | omega | (simp <;> omega) | simp)) _) | (refine Below.alloc ?_ (by (first | exact Nat.le_refl _ | omega | (simp <;> omega) | simp)) _) | (refine below_draws ?_ _)))⟩

set_option maxHeartbeats 400000 in
theorem spec_rFloor (n d : Int) (w : World) (n0 : -9223372036854775808 ≤ n) (n1 : n ≤ 9223372036854775807) (d0 : -9223372036854775808 ≤ d) (d1 : d ≤ 9223372036854775807) :
    Calls Try.prog 21 #[.agg #[.int .i64 n, .int .i64 d]] w fun e w' => e = .returned (.int .i64 (rFloor n d)) ∧ Below w.heap.size w w' := by
  by_cases hk : rOk n d = true
  · obtain ⟨c0, c1, c2, c3, _⟩ := rOk_iff.1 hk
    have HE := Lib.hid (show rFloor n d = n / d by unfold rFloor; rw [if_pos hk])
    go_enter Try.func21, Try.ntmps21
    go_wp2_with fail
    refine (spec_rOk _ _ _ n0 n1 d0 d1).mono ?_
    rintro e w1 ⟨rfl, B1⟩
    obtain ⟨hc1, hf1⟩ := bcell B1
    have S1 := B1.size
    try simp at S1
    try (have _L1w : w.heap.size < w1.heap.size := by omega)
    have _M1w : w.heap.size ≤ w1.heap.size := by omega
    go_wp2_with fail
    refine (spec_floor _ _ _ (by omega) (by omega) (by omega) (by omega)).mono ?_
    rintro e w2 ⟨rfl, rfl⟩
    go_wp2
    go_ret
    exact ⟨ret_i HE.out.symm, by (repeat (first | exact Below.refl _ _ | (refine Below.setCell ?_ (by (first | exact Nat.le_refl _ | omega | (simp <;> omega) | simp)) _) | (refine Below.alloc ?_ (by (first | exact Nat.le_refl _ | omega | (simp <;> omega) | simp)) _) | (refine below_draws ?_ _) | exact B1 | (refine Below.trans ?_ (Below.mono B1 (by (first | exact Nat.le_refl _ | omega | (simp <;> omega) | simp))))))⟩
  · have HE := Lib.hid (show rFloor n d = 0 by unfold rFloor; rw [if_neg hk])
    have hk : rOk n d = false := by simpa using hk
    go_enter Try.func21, Try.ntmps21
    go_wp2_with fail
    refine (spec_rOk _ _ _ n0 n1 d0 d1).mono ?_
    rintro e w1 ⟨rfl, B1⟩
    obtain ⟨hc1, hf1⟩ := bcell B1
    have S1 := B1.size
    try simp at S1
    try (have _L1w : w.heap.size < w1.heap.size := by omega)
    have _M1w : w.heap.size ≤ w1.heap.size := by omega
    go_wp2
    go_ret
    exact ⟨ret_i HE.out.symm, by (repeat (first | exact Below.refl _ _ | (refine Below.setCell ?_ (by (first | exact Nat.le_refl _ | omega | (simp <;> omega) | simp)) _) | (refine Below.alloc ?_ (by (first | exact Nat.le_refl _ | omega | (simp <;> omega) | simp)) _) | (refine below_draws ?_ _) | exact B1 | (refine Below.trans ?_ (Below.mono B1 (by (first | exact Nat.le_refl _ | omega | (simp <;> omega) | simp))))))⟩
set_option maxHeartbeats 400000 in
theorem impl_rFloor (n d : Int) (w : World) (n0 : -9223372036854775808 ≤ n) (n1 : n ≤ 9223372036854775807) (d0 : -9223372036854775808 ≤ d) (d1 : d ≤ 9223372036854775807) :
    Calls Try.prog 22 #[.agg #[.int .i64 n, .int .i64 d]] w fun e w' => e = .returned (.int .i64 (rFloor n d)) ∧ Below w.heap.size w w' := by
  by_cases hk : rOk n d = true
  · obtain ⟨c0, c1, c2, c3, _⟩ := rOk_iff.1 hk
    have HE := Lib.hid (show rFloor n d = n / d by unfold rFloor; rw [if_pos hk])
    go_enter Try.func22, Try.ntmps22
    go_wp2_with fail
    refine (impl_rOk _ _ _ n0 n1 d0 d1).mono ?_
    rintro e w1 ⟨rfl, B1⟩
    obtain ⟨hc1, hf1⟩ := bcell B1
    have S1 := B1.size
    try simp at S1
    try (have _L1w : w.heap.size < w1.heap.size := by omega)
    have _M1w : w.heap.size ≤ w1.heap.size := by omega
    go_wp2_with fail
    refine (impl_floor _ _ _ (by omega) (by omega) (by omega) (by omega)).mono ?_
    rintro e w2 ⟨rfl, B2⟩
    obtain ⟨hc2, hf2⟩ := bcell B2
    have S2 := B2.size
    try simp at S2
    try (have _L2w : w.heap.size < w2.heap.size := by omega)
    have _M2w : w.heap.size ≤ w2.heap.size := by omega
    try (have _L2w1 : w1.heap.size < w2.heap.size := by omega)
    have _M2w1 : w1.heap.size ≤ w2.heap.size := by omega
    go_wp2
    go_ret
    exact ⟨ret_i HE.out.symm, by (repeat (first | exact Below.refl _ _ | (refine Below.setCell ?_ (by (first | exact Nat.le_refl _ | omega | (simp <;> omega) | simp)) _) | (refine Below.alloc ?_ (by (first | exact Nat.le_refl _ | omega | (simp <;> omega) | simp)) _) | (refine below_draws ?_ _) | exact B1 | (refine Below.trans ?_ (Below.mono B1 (by (first | exact Nat.le_refl _ | omega | (simp <;> omega) | simp)))) | exact B2 | (refine Below.trans ?_ (Below.mono B2 (by (first | exact Nat.le_refl _ | omega | (simp <;> omega) | simp))))))⟩
  · have HE := Lib.hid (show rFloor n d = 0 by unfold rFloor; rw [if_neg hk])
    have hk : rOk n d = false := by simpa using hk
    go_enter Try.func22, Try.ntmps22
    go_wp2_with fail
    refine (impl_rOk _ _ _ n0 n1 d0 d1).mono ?_
    rintro e w1 ⟨rfl, B1⟩
    obtain ⟨hc1, hf1⟩ := bcell B1
    have S1 := B1.size
    try simp at S1
    try (have _L1w : w.heap.size < w1.heap.size := by omega)
    have _M1w : w.heap.size ≤ w1.heap.size := by omega
    go_wp2
    go_ret
    exact ⟨ret_i HE.out.symm, by (repeat (first | exact Below.refl _ _ | (refine Below.setCell ?_ (by (first | exact Nat.le_refl _ | omega | (simp <;> omega) | simp)) _) | (refine Below.alloc ?_ (by (first | exact Nat.le_refl _ | omega | (simp <;> omega) | simp)) _) | (refine below_draws ?_ _) | exact B1 | (refine Below.trans ?_ (Below.mono B1 (by (first | exact Nat.le_refl _ | omega | (simp <;> omega) | simp))))))⟩
set_option maxHeartbeats 400000 in
theorem spec_rCeil (n d : Int) (w : World) (n0 : -9223372036854775808 ≤ n) (n1 : n ≤ 9223372036854775807) (d0 : -9223372036854775808 ≤ d) (d1 : d ≤ 9223372036854775807) :
    Calls Try.prog 23 #[.agg #[.int .i64 n, .int .i64 d]] w fun e w' => e = .returned (.int .i64 (rCeil n d)) ∧ Below w.heap.size w w' := by
  by_cases hk : rOk n d = true
  · obtain ⟨c0, c1, c2, c3, _⟩ := rOk_iff.1 hk
    have HE := Lib.hid (show rCeil n d = -(-n / d) by unfold rCeil; rw [if_pos hk])
    obtain ⟨r0, r1⟩ := ediv_range (-n) d (by omega) 1000000000000000000 (by omega) (by omega) (by omega)
    go_enter Try.func23, Try.ntmps23
    go_wp2_with fail
    refine (spec_rOk _ _ _ n0 n1 d0 d1).mono ?_
    rintro e w1 ⟨rfl, B1⟩
    obtain ⟨hc1, hf1⟩ := bcell B1
    have S1 := B1.size
    try simp at S1
    try (have _L1w : w.heap.size < w1.heap.size := by omega)
    have _M1w : w.heap.size ≤ w1.heap.size := by omega
    go_wp2_with fail
    refine (spec_floor _ _ _ (by omega) (by omega) (by omega) (by omega)).mono ?_
    rintro e w2 ⟨rfl, rfl⟩
    go_wp2
    go_ret
    exact ⟨ret_i HE.out.symm, by (repeat (first | exact Below.refl _ _ | (refine Below.setCell ?_ (by (first | exact Nat.le_refl _ | omega | (simp <;> omega) | simp)) _) | (refine Below.alloc ?_ (by (first | exact Nat.le_refl _ | omega | (simp <;> omega) | simp)) _) | (refine below_draws ?_ _) | exact B1 | (refine Below.trans ?_ (Below.mono B1 (by (first | exact Nat.le_refl _ | omega | (simp <;> omega) | simp))))))⟩
  · have HE := Lib.hid (show rCeil n d = 0 by unfold rCeil; rw [if_neg hk])
    have hk : rOk n d = false := by simpa using hk
    go_enter Try.func23, Try.ntmps23
    go_wp2_with fail
    refine (spec_rOk _ _ _ n0 n1 d0 d1).mono ?_
    rintro e w1 ⟨rfl, B1⟩
    obtain ⟨hc1, hf1⟩ := bcell B1
    have S1 := B1.size
    try simp at S1
    try (have _L1w : w.heap.size < w1.heap.size := by omega)
    have _M1w : w.heap.size ≤ w1.heap.size := by omega
    go_wp2
    go_ret
    exact ⟨ret_i HE.out.symm, by (repeat (first | exact Below.refl _ _ | (refine Below.setCell ?_ (by (first | exact Nat.le_refl _ | omega | (simp <;> omega) | simp)) _) | (refine Below.alloc ?_ (by (first | exact Nat.le_refl _ | omega | (simp <;> omega) | simp)) _) | (refine below_draws ?_ _) | exact B1 | (refine Below.trans ?_ (Below.mono B1 (by (first | exact Nat.le_refl _ | omega | (simp <;> omega) | simp))))))⟩
set_option maxHeartbeats 400000 in
theorem impl_rCeil (n d : Int) (w : World) (n0 : -9223372036854775808 ≤ n) (n1 : n ≤ 9223372036854775807) (d0 : -9223372036854775808 ≤ d) (d1 : d ≤ 9223372036854775807) :
    Calls Try.prog 24 #[.agg #[.int .i64 n, .int .i64 d]] w fun e w' => e = .returned (.int .i64 (rCeil n d)) ∧ Below w.heap.size w w' := by
  by_cases hk : rOk n d = true
  · obtain ⟨c0, c1, c2, c3, _⟩ := rOk_iff.1 hk
    have HE := Lib.hid (show rCeil n d = -(-n / d) by unfold rCeil; rw [if_pos hk])
    obtain ⟨r0, r1⟩ := ediv_range (-n) d (by omega) 1000000000000000000 (by omega) (by omega) (by omega)
    go_enter Try.func24, Try.ntmps24
    go_wp2_with fail
    refine (impl_rOk _ _ _ n0 n1 d0 d1).mono ?_
    rintro e w1 ⟨rfl, B1⟩
    obtain ⟨hc1, hf1⟩ := bcell B1
    have S1 := B1.size
    try simp at S1
    try (have _L1w : w.heap.size < w1.heap.size := by omega)
    have _M1w : w.heap.size ≤ w1.heap.size := by omega
    go_wp2_with fail
    refine (impl_negative _ _ _ (by omega) (by omega)).mono ?_
    rintro e w2 ⟨rfl, B2⟩
    obtain ⟨hc2, hf2⟩ := bcell B2
    have S2 := B2.size
    try simp at S2
    try (have _L2w : w.heap.size < w2.heap.size := by omega)
    have _M2w : w.heap.size ≤ w2.heap.size := by omega
    try (have _L2w1 : w1.heap.size < w2.heap.size := by omega)
    have _M2w1 : w1.heap.size ≤ w2.heap.size := by omega
    go_wp2_with fail
    refine (impl_floor _ _ _ (by omega) (by omega) (by omega) (by omega)).mono ?_
    rintro e w3 ⟨rfl, B3⟩
    obtain ⟨hc3, hf3⟩ := bcell B3
    have S3 := B3.size
    try simp at S3
    try (have _L3w : w.heap.size < w3.heap.size := by omega)
    have _M3w : w.heap.size ≤ w3.heap.size := by omega
    try (have _L3w1 : w1.heap.size < w3.heap.size := by omega)
    have _M3w1 : w1.heap.size ≤ w3.heap.size := by omega
    try (have _L3w2 : w2.heap.size < w3.heap.size := by omega)
    have _M3w2 : w2.heap.size ≤ w3.heap.size := by omega
    go_wp2
    go_ret
    exact ⟨ret_i HE.out.symm, by (repeat (first | exact Below.refl _ _ | (refine Below.setCell ?_ (by (first | exact Nat.le_refl _ | omega | (simp <;> omega) | simp)) _) | (refine Below.alloc ?_ (by (first | exact Nat.le_refl _ | omega | (simp <;> omega) | simp)) _) | (refine below_draws ?_ _) | exact B1 | (refine Below.trans ?_ (Below.mono B1 (by (first | exact Nat.le_refl _ | omega | (simp <;> omega) | simp)))) | exact B2 | (refine Below.trans ?_ (Below.mono B2 (by (first | exact Nat.le_refl _ | omega | (simp <;> omega) | simp)))) | exact B3 | (refine Below.trans ?_ (Below.mono B3 (by (first | exact Nat.le_refl _ | omega | (simp <;> omega) | simp))))))⟩
  · have HE := Lib.hid (show rCeil n d = 0 by unfold rCeil; rw [if_neg hk])
    have hk : rOk n d = false := by simpa using hk
    go_enter Try.func24, Try.ntmps24
    go_wp2_with fail
    refine (impl_rOk _ _ _ n0 n1 d0 d1).mono ?_
    rintro e w1 ⟨rfl, B1⟩
    obtain ⟨hc1, hf1⟩ := bcell B1
    have S1 := B1.size
    try simp at S1
    try (have _L1w : w.heap.size < w1.heap.size := by omega)
    have _M1w : w.heap.size ≤ w1.heap.size := by omega
    go_wp2
    go_ret
    exact ⟨ret_i HE.out.symm, by (repeat (first | exact Below.refl _ _ | (refine Below.setCell ?_ (by (first | exact Nat.le_refl _ | omega | (simp <;> omega) | simp)) _) | (refine Below.alloc ?_ (by (first | exact Nat.le_refl _ | omega | (simp <;> omega) | simp)) _) | (refine below_draws ?_ _) | exact B1 | (refine Below.trans ?_ (Below.mono B1 (by (first | exact Nat.le_refl _ | omega | (simp <;> omega) | simp))))))⟩
end Go.Proofs.Ytlggmlojmdaggaa
