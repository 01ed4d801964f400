/-
  RatioOk, floors and the like, in the model and in the program.
-/
import Derived.Test.YtnbbmpilpeakiaaRatMath
import Derived.RegionTactic
import Derived.BigRegion
namespace Go.Proofs.Ytnbbmpilpeakiaa
open Go.RowKit

theorem spec_in_yes (n lo hi : Int) (w : World) (h0 : lo ≤ n) (h1 : n ≤ hi) :
    Calls Try.prog 74 #[.int .i64 n, .int .i64 lo, .int .i64 hi] w fun e w' => e = .returned (.bool true) ∧ w = w' := by
  go_enter Try.func74, Try.ntmps74
  go_wp2
  go_ret
  exact ⟨rfl, rfl⟩
theorem spec_in_no (n lo hi : Int) (w : World) (h : n < lo ∨ hi < n) :
    Calls Try.prog 74 #[.int .i64 n, .int .i64 lo, .int .i64 hi] w fun e w' => e = .returned (.bool false) ∧ w = w' := by
  by_cases h0 : lo ≤ n
  · have h1 : decide (n ≤ hi) = false := by simp; omega
    clear h
    go_enter Try.func74, Try.ntmps74
    go_wp2
    go_ret
    exact ⟨rfl, rfl⟩
  · clear h
    go_enter Try.func74, Try.ntmps74
    go_wp2
    go_ret
    exact ⟨rfl, rfl⟩

set_option maxHeartbeats 800000 in
theorem spec_rOk (n d : Int) (w : World) (n0 : -9223372036854775808 ≤ n) (n1 : n ≤ 9223372036854775807) (d0 : -9223372036854775808 ≤ d) (d1 : d ≤ 9223372036854775807) :
    Calls Try.prog 71 #[.agg #[.int .i64 n, .int .i64 d]] w fun e w' => e = .returned (.bool (rOk n d)) ∧ Below w.heap.size w w' := by
  by_cases hd : d < 1 ∨ 1000000000000000 < d
  · have hF : rOk n d = false := by rw [Bool.eq_false_iff, Ne, rOk_iff]; omega
    have HF := Lib.hid hF; clear hF
    go_enter Try.func71, Try.ntmps71
    go_wp2_with (go_at_call 74; refine (spec_in_no _ _ _ _ hd).mono ?_; rintro e w' ⟨rfl, rfl⟩)
    go_ret
    exact ⟨ret_b HF.out.symm, (Below.refl _ _).alloc (Nat.le_refl _) _⟩
  · have hd0 : 1 ≤ d := by omega
    have hd1 : d ≤ 1000000000000000 := by omega
    clear hd
    by_cases hn : n < -1000000000000000000 ∨ 1000000000000000000 < n
    · have hF : rOk n d = false := by rw [Bool.eq_false_iff, Ne, rOk_iff]; omega
      have HF := Lib.hid hF; clear hF
      go_enter Try.func71, Try.ntmps71
      go_wp2_with fail
      refine (spec_in_yes _ _ _ _ hd0 hd1).mono ?_
      rintro e w' ⟨rfl, rfl⟩
      go_wp2_with fail
      refine (spec_in_no _ _ _ _ hn).mono ?_
      rintro e w' ⟨rfl, rfl⟩
      go_wp2
      go_ret
      exact ⟨ret_b HF.out.symm, (Below.refl _ _).alloc (Nat.le_refl _) _⟩
    · have hn0 : -1000000000000000000 ≤ n := by omega
      have hn1 : n ≤ 1000000000000000000 := by omega
      clear hn
      have hE : rOk n d = (gcdV n d == 1) := by
        rw [Bool.eq_iff_iff, rOk_iff, beq_iff_eq]; exact ⟨fun h => h.2.2.2.2, fun h => ⟨hd0, hd1, hn0, hn1, h⟩⟩
      have HE := Lib.hid hE; clear hE
      go_enter Try.func71, Try.ntmps71
      go_wp2_with fail
      refine (spec_in_yes _ _ _ _ hd0 hd1).mono ?_
      rintro e w' ⟨rfl, rfl⟩
      go_wp2_with fail
      refine (spec_in_yes _ _ _ _ hn0 hn1).mono ?_
      rintro e w' ⟨rfl, rfl⟩
      go_wp2_with fail
      refine (spec_gcd _ _ _ n0 n1 d0 d1).mono ?_
      rintro e w1 ⟨rfl, B1⟩
      go_wp2
      go_ret
      exact ⟨ret_b HE.out.symm, ((Below.refl _ _).alloc (Nat.le_refl _) _).trans (B1.mono (by simp))⟩

set_option maxHeartbeats 800000 in
theorem impl_rOk (n d : Int) (w : World) (n0 : -9223372036854775808 ≤ n) (n1 : n ≤ 9223372036854775807) (d0 : -9223372036854775808 ≤ d) (d1 : d ≤ 9223372036854775807) :
    Calls Try.prog 16 #[.agg #[.int .i64 n, .int .i64 d]] w fun e w' => e = .returned (.bool (rOk n d)) ∧ Below w.heap.size w w' := by
  by_cases h : 1 ≤ d ∧ d ≤ 1000000000000000 ∧ -1000000000000000000 ≤ n ∧ n ≤ 1000000000000000000
  · obtain ⟨hd0, hd1, hn0, hn1⟩ := h
    have hE : rOk n d = (gcdV n d == 1) := by
      rw [Bool.eq_iff_iff, rOk_iff, beq_iff_eq]; exact ⟨fun h => h.2.2.2.2, fun h => ⟨hd0, hd1, hn0, hn1, h⟩⟩
    have HE := Lib.hid hE; clear hE
    go_enter Try.func16, Try.ntmps16
    go_wp2_with fail
    refine (impl_gcd _ _ _ n0 n1 d0 d1).mono ?_
    rintro e w1 ⟨rfl, B1⟩
    go_wp2
    go_ret
    exact ⟨ret_b HE.out.symm, ((Below.refl _ _).alloc (Nat.le_refl _) _).trans (B1.mono (by simp))⟩
  · have hF : rOk n d = false := by rw [Bool.eq_false_iff, Ne, rOk_iff]; intro k; exact h ⟨k.1, k.2.1, k.2.2.1, k.2.2.2.1⟩
    have HF := Lib.hid hF; clear hF
    by_cases c0 : 1 ≤ d
    · by_cases c1 : d ≤ 1000000000000000
      · by_cases c2 : -1000000000000000000 ≤ n
        · have c3 : ¬ n ≤ 1000000000000000000 := by omega
          have c3' : decide (n ≤ 1000000000000000000) = false := by simpa using c3
          clear h c3
          go_enter Try.func16, Try.ntmps16
          go_wp2
          go_ret
          exact ⟨ret_b HF.out.symm, (Below.refl _ _).alloc (Nat.le_refl _) _⟩
        · have c3' : decide (-1000000000000000000 ≤ n) = false := by simpa using c2
          clear h c2
          go_enter Try.func16, Try.ntmps16
          go_wp2
          go_ret
          exact ⟨ret_b HF.out.symm, (Below.refl _ _).alloc (Nat.le_refl _) _⟩
      · have c3' : decide (d ≤ 1000000000000000) = false := by simpa using c1
        clear h c1
        go_enter Try.func16, Try.ntmps16
        go_wp2
        go_ret
        exact ⟨ret_b HF.out.symm, (Below.refl _ _).alloc (Nat.le_refl _) _⟩
    · have c3' : decide (1 ≤ d) = false := by simpa using c0
      clear h
      go_enter Try.func16, Try.ntmps16
      go_wp2
      go_ret
      exact ⟨ret_b HF.out.symm, (Below.refl _ _).alloc (Nat.le_refl _) _⟩
end Go.Proofs.Ytnbbmpilpeakiaa
