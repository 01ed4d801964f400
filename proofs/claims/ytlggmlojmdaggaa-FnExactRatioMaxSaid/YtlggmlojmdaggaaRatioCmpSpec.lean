/-
  RatioCmp of the model: a comparison of continued fractions.
-/
import Derived.Test.YtlggmlojmdaggaaRatioFloor
import Derived.Test.YtlggmlojmdaggaaRatioCmp
namespace Go.Proofs.Ytlggmlojmdaggaa
open Go.RowKit

theorem round_lt {a b c d : Int} (hb : 0 < b) (hd : 0 < d) (h : a / b < c / d) : (a * d - c * b).sign = -1 := sign_neg (cmp_lt hb hd h)
theorem round_gt {a b c d : Int} (hb : 0 < b) (hd : 0 < d) (h : c / d < a / b) : (a * d - c * b).sign = 1 := by
  have := cmp_lt hd hb h; exact sign_pos (by omega)
theorem round_turn {a b c d : Int} (h : a / b = c / d) : (a * d - c * b).sign = -(b * (c % d) - d * (a % b)).sign := by
  rw [cmp_rest h, ← Int.sign_neg]
  congr 1
  rw [Int.mul_comm b, Int.mul_comm d]; omega
theorem round_left {a b c d : Int} (hd : 0 < d) (h : a / b = c / d) (ha : a % b = 0) (hc : c % d ≠ 0) (hb : 0 < b) : (a * d - c * b).sign = -1 := by
  rw [cmp_rest h, ha]
  have := Int.emod_nonneg c (by omega : d ≠ 0)
  have := Int.mul_pos (show 0 < c % d by omega) hb
  exact sign_neg (by omega)
theorem round_right {a b c d : Int} (hd : 0 < d) (h : a / b = c / d) (ha : a % b ≠ 0) (hc : c % d = 0) (hb : 0 < b) : (a * d - c * b).sign = 1 := by
  rw [cmp_rest h, hc]
  have := Int.emod_nonneg a (by omega : b ≠ 0)
  have := Int.mul_pos (show 0 < a % b by omega) hd
  exact sign_pos (by omega)
theorem round_same {a b c d : Int} (h : a / b = c / d) (ha : a % b = 0) (hc : c % d = 0) : (a * d - c * b).sign = 0 := by
  rw [cmp_rest h, ha, hc]; simp

theorem spec_floor_at (n d p : Int) (w : World) (hp : Hid (n / d = p)) (hd : 0 < d) (n0 : -2000000000000000000 ≤ n) (n1 : n ≤ 2000000000000000000) (d1 : d ≤ 2000000000000000000) :
    Calls Try.prog 31 #[.int .i64 n, .int .i64 d] w fun e w' => e = .returned (.int .i64 p) ∧ w = w' := by
  have h := hp.out
  subst h
  exact spec_floor n d w hd n0 n1 d1

set_option maxHeartbeats 1600000 in
theorem spec_rCmp (n d m e : Int) (w : World) (n0 : -9223372036854775808 ≤ n) (n1 : n ≤ 9223372036854775807) (d0 : -9223372036854775808 ≤ d) (d1 : d ≤ 9223372036854775807) (m0 : -9223372036854775808 ≤ m) (m1 : m ≤ 9223372036854775807) (e0 : -9223372036854775808 ≤ e) (e1 : e ≤ 9223372036854775807) :
    Calls Try.prog 19 #[.agg #[.int .i64 n, .int .i64 d], .agg #[.int .i64 m, .int .i64 e]] w fun en w' => en = .returned (.int .i64 (rCmp n d m e)) ∧ Below w.heap.size w w' := by
  by_cases hk : rOk n d = true
  case neg =>
    have hk : rOk n d = false := by simpa using hk
    have HE := Lib.hid (cmp_no (n := n) (d := d) (m := m) (e := e) (Or.inl hk))
    go_enter Try.func19, Try.ntmps19
    go_wp2_with fail
    refine (spec_rOk _ _ _ n0 n1 d0 d1).mono ?_
    rintro en w1 ⟨rfl, B1⟩
    obtain ⟨hc1, hf1⟩ := bcell B1
    have S1 := B1.size
    try simp at S1
    try (have _L1w : w.heap.size < w1.heap.size := by omega)
    have _M1w : w.heap.size ≤ w1.heap.size := by omega
    try (have _P1w_1 : w.heap.size + 1 < w1.heap.size := by omega)
    try (have _P1w_2 : w.heap.size + 1 + 1 < w1.heap.size := by omega)
    try (have _P1w_3 : w.heap.size + 1 + 1 + 1 < w1.heap.size := by omega)
    go_wp2
    go_ret
    exact ⟨ret_i HE.out.symm, by (repeat (first | exact Below.refl _ _ | (refine Below.setCell ?_ (by (first | exact Nat.le_refl _ | omega | (simp <;> omega) | simp)) _) | (refine Below.alloc ?_ (by (first | exact Nat.le_refl _ | omega | (simp <;> omega) | simp)) _) | (refine below_draws ?_ _) | exact B1 | (refine Below.trans ?_ (Below.mono B1 (by (first | exact Nat.le_refl _ | omega | (simp <;> omega) | simp))))))⟩
  by_cases hl : rOk m e = true
  case neg =>
    have hl : rOk m e = false := by simpa using hl
    have HE := Lib.hid (cmp_no (n := n) (d := d) (m := m) (e := e) (Or.inr hl))
    go_enter Try.func19, Try.ntmps19
    go_wp2_with fail
    refine (spec_rOk _ _ _ n0 n1 d0 d1).mono ?_
    rintro en w1 ⟨rfl, B1⟩
    obtain ⟨hc1, hf1⟩ := bcell B1
    have S1 := B1.size
    try simp at S1
    try (have _L1w : w.heap.size < w1.heap.size := by omega)
    have _M1w : w.heap.size ≤ w1.heap.size := by omega
    try (have _P1w_1 : w.heap.size + 1 < w1.heap.size := by omega)
    try (have _P1w_2 : w.heap.size + 1 + 1 < w1.heap.size := by omega)
    try (have _P1w_3 : w.heap.size + 1 + 1 + 1 < w1.heap.size := by omega)
    go_wp2_with fail
    refine (spec_rOk _ _ _ m0 m1 e0 e1).mono ?_
    rintro en w2 ⟨rfl, B2⟩
    obtain ⟨hc2, hf2⟩ := bcell B2
    have S2 := B2.size
    try simp at S2
    try (have _L2w : w.heap.size < w2.heap.size := by omega)
    have _M2w : w.heap.size ≤ w2.heap.size := by omega
    try (have _P2w_1 : w.heap.size + 1 < w2.heap.size := by omega)
    try (have _P2w_2 : w.heap.size + 1 + 1 < w2.heap.size := by omega)
    try (have _P2w_3 : w.heap.size + 1 + 1 + 1 < w2.heap.size := by omega)
    try (have _L2w1 : w1.heap.size < w2.heap.size := by omega)
    have _M2w1 : w1.heap.size ≤ w2.heap.size := by omega
    try (have _P2w1_1 : w1.heap.size + 1 < w2.heap.size := by omega)
    try (have _P2w1_2 : w1.heap.size + 1 + 1 < w2.heap.size := by omega)
    try (have _P2w1_3 : w1.heap.size + 1 + 1 + 1 < w2.heap.size := by omega)
    go_wp2
    go_ret
    exact ⟨ret_i HE.out.symm, by (repeat (first | exact Below.refl _ _ | (refine Below.setCell ?_ (by (first | exact Nat.le_refl _ | omega | (simp <;> omega) | simp)) _) | (refine Below.alloc ?_ (by (first | exact Nat.le_refl _ | omega | (simp <;> omega) | simp)) _) | (refine below_draws ?_ _) | exact B1 | (refine Below.trans ?_ (Below.mono B1 (by (first | exact Nat.le_refl _ | omega | (simp <;> omega) | simp)))) | exact B2 | (refine Below.trans ?_ (Below.mono B2 (by (first | exact Nat.le_refl _ | omega | (simp <;> omega) | simp))))))⟩
  have HC := Lib.hid (cmp_of hk hl)
  obtain ⟨a1, a2, a3, a4, _⟩ := rOk_iff.1 hk
  obtain ⟨b1, b2, b3, b4, _⟩ := rOk_iff.1 hl
  go_enter Try.func19, Try.ntmps19
  go_wp2_with fail
  refine (spec_rOk _ _ _ n0 n1 d0 d1).mono ?_
  rintro en w1 ⟨rfl, B1⟩
  obtain ⟨hc1, hf1⟩ := bcell B1
  have S1 := B1.size
  try simp at S1
  try (have _L1w : w.heap.size < w1.heap.size := by omega)
  have _M1w : w.heap.size ≤ w1.heap.size := by omega
  try (have _P1w_1 : w.heap.size + 1 < w1.heap.size := by omega)
  try (have _P1w_2 : w.heap.size + 1 + 1 < w1.heap.size := by omega)
  try (have _P1w_3 : w.heap.size + 1 + 1 + 1 < w1.heap.size := by omega)
  go_wp2_with fail
  refine (spec_rOk _ _ _ m0 m1 e0 e1).mono ?_
  rintro en w2 ⟨rfl, B2⟩
  obtain ⟨hc2, hf2⟩ := bcell B2
  have S2 := B2.size
  try simp at S2
  try (have _L2w : w.heap.size < w2.heap.size := by omega)
  have _M2w : w.heap.size ≤ w2.heap.size := by omega
  try (have _P2w_1 : w.heap.size + 1 < w2.heap.size := by omega)
  try (have _P2w_2 : w.heap.size + 1 + 1 < w2.heap.size := by omega)
  try (have _P2w_3 : w.heap.size + 1 + 1 + 1 < w2.heap.size := by omega)
  try (have _L2w1 : w1.heap.size < w2.heap.size := by omega)
  have _M2w1 : w1.heap.size ≤ w2.heap.size := by omega
  try (have _P2w1_1 : w1.heap.size + 1 < w2.heap.size := by omega)
  try (have _P2w1_2 : w1.heap.size + 1 + 1 < w2.heap.size := by omega)
  try (have _P2w1_3 : w1.heap.size + 1 + 1 + 1 < w2.heap.size := by omega)
  go_wp2
  go_loop [5, 6, 7, 8, 9] (fun A B C D S => ∃ a b c q s : Int, A = .int .i64 a ∧ B = .int .i64 b ∧ C = .int .i64 c ∧ D = .int .i64 q ∧ S = .int .i64 s ∧ 1 ≤ b ∧ b ≤ 1000000000000000 ∧ 1 ≤ q ∧ q ≤ 1000000000000000 ∧ -1000000000000000000 ≤ a ∧ a ≤ 1000000000000000000 ∧ -1000000000000000000 ≤ c ∧ c ≤ 1000000000000000000 ∧ -1 ≤ s ∧ s ≤ 1 ∧ Hid (rCmp n d m e = s * (a * q - c * b).sign)) (fun _ B _ _ _ => (intOf B).toNat)
  case atStart => exact ⟨n, d, m, e, 1, rfl, rfl, rfl, rfl, rfl, a1, a2, b1, b2, a3, a4, b3, b4, by omega, by omega, Lib.hid (by rw [HC.out, Int.one_mul])⟩
  case round =>
    obtain ⟨a, b, c, q, s, rfl, rfl, rfl, rfl, rfl, x1, x2, y1, y2, x3, x4, y3, y4, hs0, hs1, hh⟩ := hrel
    obtain ⟨p, hp⟩ : ∃ p, a / b = p := ⟨_, rfl⟩
    obtain ⟨r, hr⟩ : ∃ r, c / q = r := ⟨_, rfl⟩
    have HP := Lib.hid hp
    have HR := Lib.hid hr
    obtain ⟨u0, u1, u2⟩ := floor_mul a b (by omega)
    obtain ⟨v0, v1, v2⟩ := floor_mul c q (by omega)
    rw [hp] at u0 u1 u2
    rw [hr] at v0 v1 v2
    have ra := Int.emod_nonneg a (by omega : b ≠ 0)
    have ra' := Int.emod_lt_of_pos a (show 0 < b by omega)
    have rc := Int.emod_nonneg c (by omega : q ≠ 0)
    have rc' := Int.emod_lt_of_pos c (show 0 < q by omega)
    rcases Int.lt_trichotomy p r with h | h | h
    · have HT := Lib.hid (hh.out.trans (by rw [round_lt (by omega) (by omega) (by omega)]) : rCmp n d m e = s * -1)
      have hne : (p == r) = false := by rw [beq_eq_false_iff_ne]; omega
      clear hp hr u2 v2
      go_wp2_with fail
      (with_reducible refine (spec_floor_at _ _ _ _ HP (by omega) (by omega) (by omega) (by omega)).mono ?_)
      rintro en wz ⟨rfl, rfl⟩
      go_wp2_with fail
      (with_reducible refine (spec_floor_at _ _ _ _ HR (by omega) (by omega) (by omega) (by omega)).mono ?_)
      rintro en wz ⟨rfl, rfl⟩
      go_wp2
      go_ret
      exact ⟨ret_i (by rw [HT.out]; omega), by (repeat (first | exact Below.refl _ _ | (refine Below.setCell ?_ (by (first | exact Nat.le_refl _ | omega | (simp <;> omega) | simp)) _) | (refine Below.alloc ?_ (by (first | exact Nat.le_refl _ | omega | (simp <;> omega) | simp)) _) | (refine below_draws ?_ _) | exact B1 | (refine Below.trans ?_ (Below.mono B1 (by (first | exact Nat.le_refl _ | omega | (simp <;> omega) | simp)))) | exact B2 | (refine Below.trans ?_ (Below.mono B2 (by (first | exact Nat.le_refl _ | omega | (simp <;> omega) | simp))))))⟩
    · subst h
      have hq := hp.trans hr.symm
      obtain ⟨x, hx⟩ : ∃ x, a % b = x := ⟨_, rfl⟩
      obtain ⟨y, hy⟩ : ∃ y, c % q = y := ⟨_, rfl⟩
      rw [hx] at u2 ra ra'
      rw [hy] at v2 rc rc'
      by_cases hx0 : x = 0
      · have hxb : (x == 0) = true := by simpa using hx0
        by_cases hy0 : y = 0
        · have HT := Lib.hid (hh.out.trans (by rw [round_same hq (by omega) (by omega)]) : rCmp n d m e = s * 0)
          have hyb : (y == 0) = true := by simpa using hy0
          clear hp hr hq hx hy hx0 hy0
          go_wp2_with fail
          (with_reducible refine (spec_floor_at _ _ _ _ HP (by omega) (by omega) (by omega) (by omega)).mono ?_)
          rintro en wz ⟨rfl, rfl⟩
          go_wp2_with fail
          (with_reducible refine (spec_floor_at _ _ _ _ HR (by omega) (by omega) (by omega) (by omega)).mono ?_)
          rintro en wz ⟨rfl, rfl⟩
          go_wp2
          go_ret
          exact ⟨ret_i (by rw [HT.out]; omega), by (repeat (first | exact Below.refl _ _ | (refine Below.setCell ?_ (by (first | exact Nat.le_refl _ | omega | (simp <;> omega) | simp)) _) | (refine Below.alloc ?_ (by (first | exact Nat.le_refl _ | omega | (simp <;> omega) | simp)) _) | (refine below_draws ?_ _) | exact B1 | (refine Below.trans ?_ (Below.mono B1 (by (first | exact Nat.le_refl _ | omega | (simp <;> omega) | simp)))) | exact B2 | (refine Below.trans ?_ (Below.mono B2 (by (first | exact Nat.le_refl _ | omega | (simp <;> omega) | simp))))))⟩
        · have HT := Lib.hid (hh.out.trans (by rw [round_left (by omega) hq (by omega) (by omega) (by omega)]) : rCmp n d m e = s * -1)
          have hyb : (y == 0) = false := by simpa using hy0
          clear hp hr hq hx hy hx0 hy0
          go_wp2_with fail
          (with_reducible refine (spec_floor_at _ _ _ _ HP (by omega) (by omega) (by omega) (by omega)).mono ?_)
          rintro en wz ⟨rfl, rfl⟩
          go_wp2_with fail
          (with_reducible refine (spec_floor_at _ _ _ _ HR (by omega) (by omega) (by omega) (by omega)).mono ?_)
          rintro en wz ⟨rfl, rfl⟩
          go_wp2
          go_ret
          exact ⟨ret_i (by rw [HT.out]; omega), by (repeat (first | exact Below.refl _ _ | (refine Below.setCell ?_ (by (first | exact Nat.le_refl _ | omega | (simp <;> omega) | simp)) _) | (refine Below.alloc ?_ (by (first | exact Nat.le_refl _ | omega | (simp <;> omega) | simp)) _) | (refine below_draws ?_ _) | exact B1 | (refine Below.trans ?_ (Below.mono B1 (by (first | exact Nat.le_refl _ | omega | (simp <;> omega) | simp)))) | exact B2 | (refine Below.trans ?_ (Below.mono B2 (by (first | exact Nat.le_refl _ | omega | (simp <;> omega) | simp))))))⟩
      · have hxb : (x == 0) = false := by simpa using hx0
        by_cases hy0 : y = 0
        · have HT := Lib.hid (hh.out.trans (by rw [round_right (by omega) hq (by omega) (by omega) (by omega)]) : rCmp n d m e = s * 1)
          have hyb : (y == 0) = true := by simpa using hy0
          clear hp hr hq hx hy hx0 hy0
          go_wp2_with fail
          (with_reducible refine (spec_floor_at _ _ _ _ HP (by omega) (by omega) (by omega) (by omega)).mono ?_)
          rintro en wz ⟨rfl, rfl⟩
          go_wp2_with fail
          (with_reducible refine (spec_floor_at _ _ _ _ HR (by omega) (by omega) (by omega) (by omega)).mono ?_)
          rintro en wz ⟨rfl, rfl⟩
          go_wp2
          go_ret
          exact ⟨ret_i (by rw [HT.out]; omega), by (repeat (first | exact Below.refl _ _ | (refine Below.setCell ?_ (by (first | exact Nat.le_refl _ | omega | (simp <;> omega) | simp)) _) | (refine Below.alloc ?_ (by (first | exact Nat.le_refl _ | omega | (simp <;> omega) | simp)) _) | (refine below_draws ?_ _) | exact B1 | (refine Below.trans ?_ (Below.mono B1 (by (first | exact Nat.le_refl _ | omega | (simp <;> omega) | simp)))) | exact B2 | (refine Below.trans ?_ (Below.mono B2 (by (first | exact Nat.le_refl _ | omega | (simp <;> omega) | simp))))))⟩
        · have HT := Lib.hid (hh.out.trans (by rw [round_turn hq, hx, hy, Int.mul_neg, Int.neg_mul]) : rCmp n d m e = -s * (b * y - q * x).sign)
          have hyb : (y == 0) = false := by simpa using hy0
          clear hp hr hq hx hy
          go_wp2_with fail
          (with_reducible refine (spec_floor_at _ _ _ _ HP (by omega) (by omega) (by omega) (by omega)).mono ?_)
          rintro en wz ⟨rfl, rfl⟩
          go_wp2_with fail
          (with_reducible refine (spec_floor_at _ _ _ _ HR (by omega) (by omega) (by omega) (by omega)).mono ?_)
          rintro en wz ⟨rfl, rfl⟩
          go_wp2
          go_round
          case rel => exact ⟨b, x, q, y, -s, rfl, rfl, rfl, rfl, rfl, by omega, by omega, by omega, by omega, by omega, by omega, by omega, by omega, by omega, by omega, HT⟩
          case measure => simp [intOf]; omega
    · have HT := Lib.hid (hh.out.trans (by rw [round_gt (by omega) (by omega) (by omega)]) : rCmp n d m e = s * 1)
      have hne : (p == r) = false := by rw [beq_eq_false_iff_ne]; omega
      clear hp hr u2 v2
      go_wp2_with fail
      (with_reducible refine (spec_floor_at _ _ _ _ HP (by omega) (by omega) (by omega) (by omega)).mono ?_)
      rintro en wz ⟨rfl, rfl⟩
      go_wp2_with fail
      (with_reducible refine (spec_floor_at _ _ _ _ HR (by omega) (by omega) (by omega) (by omega)).mono ?_)
      rintro en wz ⟨rfl, rfl⟩
      go_wp2
      go_ret
      exact ⟨ret_i (by rw [HT.out]; omega), by (repeat (first | exact Below.refl _ _ | (refine Below.setCell ?_ (by (first | exact Nat.le_refl _ | omega | (simp <;> omega) | simp)) _) | (refine Below.alloc ?_ (by (first | exact Nat.le_refl _ | omega | (simp <;> omega) | simp)) _) | (refine below_draws ?_ _) | exact B1 | (refine Below.trans ?_ (Below.mono B1 (by (first | exact Nat.le_refl _ | omega | (simp <;> omega) | simp)))) | exact B2 | (refine Below.trans ?_ (Below.mono B2 (by (first | exact Nat.le_refl _ | omega | (simp <;> omega) | simp))))))⟩
end Go.Proofs.Ytlggmlojmdaggaa
