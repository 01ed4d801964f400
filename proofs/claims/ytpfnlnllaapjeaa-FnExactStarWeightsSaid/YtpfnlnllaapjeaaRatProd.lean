/-
  Sums, differences, products and inverses of fractions, in the model and in the program.
-/
import Derived.Test.YtpfnlnllaapjeaaRatioOf
import Derived.Test.YtpfnlnllaapjeaaGRat
namespace Go.Proofs.Ytpfnlnllaapjeaa
open Go.RowKit

theorem ret_ibs {a b : Int} {c d : Bool} (h : (a, c) = (b, d)) : Ending.returned (.tuple #[.int .i64 a, .bool c]) = .returned (.tuple #[.int .i64 b, .bool d]) := by
  cases h; rfl
theorem fitP_comm (a b : Int) : fitP a b = fitP b a := by unfold fitP; rw [Int.mul_comm]
theorem fitP_range {a b : Int} (h : fitP a b = true) : -1000000000000000000 ≤ a * b ∧ a * b ≤ 1000000000000000000 := by
  unfold fitP at h; simp only [decide_eq_true_eq] at h; omega
theorem fit_zero {a b : Int} (h : a = 0 ∨ b = 0) : fitP a b = true ∧ a * b = 0 := by
  have e : a * b = 0 := Int.mul_eq_zero.2 h
  exact ⟨by unfold fitP; rw [e]; decide, e⟩
def sgnI (a : Int) : Int := if a < 0 then -1 else 1
theorem fit_div {a b A B : Int} (hA : A = (a.natAbs : Int)) (hB : B = (b.natAbs : Int)) (h0 : 0 < B) : decide (1000000000000000000 / B < A) = !fitP a b := by
  unfold fitP
  rw [Bool.eq_iff_iff]
  simp only [decide_eq_true_eq, Bool.not_eq_true', decide_eq_false_iff_not]
  rw [Int.ediv_lt_iff_lt_mul h0]
  have e : ((a * b).natAbs : Int) = A * B := by rw [hA, hB, Int.natAbs_mul]; simp
  omega
theorem fit_div2 {a b A B : Int} (hA : A = (a.natAbs : Int)) (hB : B = (b.natAbs : Int)) (h0 : 0 < A) : decide (B ≤ 1000000000000000000 / A) = fitP a b := by
  have h := fit_div (a := b) (b := a) hB hA h0
  rw [fitP_comm b a] at h
  by_cases hk : fitP a b = true
  · rw [hk] at h ⊢
    simp at h ⊢; omega
  · have hk : fitP a b = false := by simpa using hk
    rw [hk] at h ⊢
    simp at h ⊢; omega
theorem tdiv_neg (b : Int) (hb : b < 0) (hb0 : -1000000000000000000 ≤ b) : 1000000000000000000 / -b = -(Int.tdiv 1000000000000000000 b) ∧ -1000000000000000000 ≤ Int.tdiv 1000000000000000000 b ∧ Int.tdiv 1000000000000000000 b ≤ 0 := by
  have h1 : Int.tdiv 1000000000000000000 (-b) = 1000000000000000000 / -b := Int.tdiv_eq_ediv_of_nonneg (by omega)
  rw [Int.tdiv_neg] at h1
  have h2 : 0 ≤ 1000000000000000000 / -b := Int.ediv_nonneg (by omega) (by omega)
  have h3 : 1000000000000000000 / -b ≤ 1000000000000000000 := Int.ediv_le_self _ (by omega)
  omega
theorem fit4_parts {n d m e : Int} (h : fit4 n d m e = true) : rOk n d = true ∧ rOk m e = true ∧ fitP n e = true ∧ fitP m d = true ∧ fitP d e = true ∧ fitP n m = true := by
  unfold fit4 at h; simp only [Bool.and_eq_true] at h; obtain ⟨⟨⟨⟨⟨a, b⟩, c⟩, d⟩, e⟩, f⟩ := h; exact ⟨a, b, c, d, e, f⟩
def prodN (a b : Int) : Int := if fitP a b = true then a * b else 0

set_option maxHeartbeats 1600000 in
theorem spec_prod (a b : Int) (w : World) (a0 : -1000000000000000000 ≤ a) (a1 : a ≤ 1000000000000000000) (b0 : -1000000000000000000 ≤ b) (b1 : b ≤ 1000000000000000000) :
    Calls Try.prog 207 #[.int .i64 a, .int .i64 b] w fun en w' => en = .returned (.tuple #[.int .i64 (prodN a b), .bool (fitP a b)]) ∧ w = w' := by
  by_cases hz : a = 0 ∨ b = 0
  · obtain ⟨f1, f2⟩ := fit_zero hz
    have HF : Hid (((0 : Int), true) = (prodN a b, fitP a b)) := Lib.hid (by unfold prodN; rw [if_pos f1, f1, f2])
    by_cases ha : a = 0
    · have hz1 : (a == 0) = true := by simpa using ha
      clear hz f1 f2 ha
      go_enter Try.func207, Try.ntmps207
      go_wp2
      go_ret2
      exact ⟨ret_ibs HF.out, rfl⟩
    · have hz1 : (a == 0) = false := by simpa using ha
      have hz2 : (b == 0) = true := by simpa using hz.resolve_left ha
      clear hz f1 f2 ha
      go_enter Try.func207, Try.ntmps207
      go_wp2
      go_ret2
      exact ⟨ret_ibs HF.out, rfl⟩
  have hz1 : (a == 0) = false := by simp; omega
  have hz2 : (b == 0) = false := by simp; omega
  by_cases hf : fitP a b = true
  case' pos =>
    obtain ⟨r0, r1⟩ := fitP_range hf
    have HF : Hid ((a * b, true) = (prodN a b, fitP a b)) := Lib.hid (by unfold prodN; rw [if_pos hf, hf])
  case' neg =>
    have hf : fitP a b = false := by simpa using hf
    have HF : Hid (((0 : Int), false) = (prodN a b, fitP a b)) := Lib.hid (by unfold prodN; rw [if_neg (by simp [hf]), hf])
  all_goals
    rcases Int.lt_or_lt_of_ne (show a ≠ 0 by omega) with ha | ha <;> rcases Int.lt_or_lt_of_ne (show b ≠ 0 by omega) with hb | hb
    · have hd := fit_div (a := a) (b := b) (A := (-a)) (B := (-b)) (by omega) (by omega) (by omega)
      have hq := tdiv_neg b hb (by omega)
      rw [hq.1] at hd
      obtain ⟨-, hq1, hq2⟩ := hq
      simp only [Int.neg_lt_neg_iff] at hd
      rw [hf] at hd
      simp only [Bool.not_true, Bool.not_false] at hd
      clear hz hf
      go_enter Try.func207, Try.ntmps207
      go_wp2
      go_ret2
      exact ⟨ret_ibs HF.out, rfl⟩
    · have hd := fit_div (a := a) (b := b) (A := (-a)) (B := b) (by omega) (by omega) (by omega)
      rw [hf] at hd
      simp only [Bool.not_true, Bool.not_false] at hd
      clear hz hf
      go_enter Try.func207, Try.ntmps207
      go_wp2
      go_ret2
      exact ⟨ret_ibs HF.out, rfl⟩
    · have hd := fit_div (a := a) (b := b) (A := a) (B := (-b)) (by omega) (by omega) (by omega)
      have hq := tdiv_neg b hb (by omega)
      rw [hq.1] at hd
      obtain ⟨-, hq1, hq2⟩ := hq
      rw [hf] at hd
      simp only [Bool.not_true, Bool.not_false] at hd
      clear hz hf
      go_enter Try.func207, Try.ntmps207
      go_wp2
      go_ret2
      exact ⟨ret_ibs HF.out, rfl⟩
    · have hd := fit_div (a := a) (b := b) (A := a) (B := b) (by omega) (by omega) (by omega)
      rw [hf] at hd
      simp only [Bool.not_true, Bool.not_false] at hd
      clear hz hf
      go_enter Try.func207, Try.ntmps207
      go_wp2
      go_ret2
      exact ⟨ret_ibs HF.out, rfl⟩
theorem spec_prod_yes (a b : Int) (w : World) (a0 : -1000000000000000000 ≤ a) (a1 : a ≤ 1000000000000000000) (b0 : -1000000000000000000 ≤ b) (b1 : b ≤ 1000000000000000000) (h : fitP a b = true) :
    Calls Try.prog 207 #[.int .i64 a, .int .i64 b] w fun en w' => en = .returned (.tuple #[.int .i64 (a * b), .bool true]) ∧ w = w' := by
  have hc := spec_prod a b w a0 a1 b0 b1
  rw [h, show prodN a b = a * b by unfold prodN; rw [if_pos h]] at hc
  exact hc
theorem spec_prod_no (a b : Int) (w : World) (a0 : -1000000000000000000 ≤ a) (a1 : a ≤ 1000000000000000000) (b0 : -1000000000000000000 ≤ b) (b1 : b ≤ 1000000000000000000) (h : fitP a b = false) :
    Calls Try.prog 207 #[.int .i64 a, .int .i64 b] w fun en w' => en = .returned (.tuple #[.int .i64 (prodN a b), .bool false]) ∧ w = w' := by
  have hc := spec_prod a b w a0 a1 b0 b1
  rw [h] at hc
  exact hc

set_option maxHeartbeats 1600000 in
theorem impl_fits (a b : Int) (w : World) (a0 : -1000000000000000000 ≤ a) (a1 : a ≤ 1000000000000000000) (b0 : -1000000000000000000 ≤ b) (b1 : b ≤ 1000000000000000000) :
    Calls Try.prog 210 #[.int .i64 a, .int .i64 b] w fun en w' => en = .returned (.bool (fitP a b)) ∧ w = w' := by
  by_cases ha : a = 0
  · obtain ⟨f1, f2⟩ := fit_zero (a := a) (b := b) (.inl ha)
    have HF : Hid (true = fitP a b) := Lib.hid f1.symm
    have hz1 : (a == 0) = true := by simpa using ha
    clear f1 f2 ha
    go_enter Try.func210, Try.ntmps210
    go_wp2
    go_ret
    exact ⟨ret_b HF.out, rfl⟩
  have hz1 : (a == 0) = false := by simp; omega
  rcases Int.lt_or_lt_of_ne ha with ha | ha <;> rcases Int.lt_or_le b 0 with hb | hb
  · have hd := fit_div2 (a := a) (b := b) (A := (-a)) (B := (-b)) (by omega) (by omega) (by omega)
    have hq := tdiv_neg a ha (by omega)
    rw [hq.1] at hd
    obtain ⟨-, hq1, hq2⟩ := hq
    simp only [Int.neg_le_neg_iff] at hd
    have HF := Lib.hid hd
    clear hd
    go_enter Try.func210, Try.ntmps210
    go_wp2
    go_ret
    exact ⟨ret_b HF.out, rfl⟩
  · have hd := fit_div2 (a := a) (b := b) (A := (-a)) (B := b) (by omega) (by omega) (by omega)
    have hq := tdiv_neg a ha (by omega)
    rw [hq.1] at hd
    obtain ⟨-, hq1, hq2⟩ := hq
    have HF := Lib.hid hd
    clear hd
    go_enter Try.func210, Try.ntmps210
    go_wp2
    go_ret
    exact ⟨ret_b HF.out, rfl⟩
  · have hd := fit_div2 (a := a) (b := b) (A := a) (B := (-b)) (by omega) (by omega) (by omega)
    have HF := Lib.hid hd
    clear hd
    go_enter Try.func210, Try.ntmps210
    go_wp2
    go_ret
    exact ⟨ret_b HF.out, rfl⟩
  · have hd := fit_div2 (a := a) (b := b) (A := a) (B := b) (by omega) (by omega) (by omega)
    have HF := Lib.hid hd
    clear hd
    go_enter Try.func210, Try.ntmps210
    go_wp2
    go_ret
    exact ⟨ret_b HF.out, rfl⟩
