/-
  Fractions: the mathematics of chapter 3, on integers.
-/
import Derived.Test.YtnbbmpilpeakiaaGcd
namespace Go.Proofs.Ytnbbmpilpeakiaa

/-- A fraction is valid. -/
def rOk (n d : Int) : Bool := decide (1 ≤ d) && decide (d ≤ 1000000000000000) && decide (-1000000000000000000 ≤ n) && decide (n ≤ 1000000000000000000) && decide (gcdV n d = 1)
theorem rOk_iff {n d : Int} : rOk n d = true ↔ 1 ≤ d ∧ d ≤ 1000000000000000 ∧ -1000000000000000000 ≤ n ∧ n ≤ 1000000000000000000 ∧ gcdV n d = 1 := by
  unfold rOk; simp only [Bool.and_eq_true, decide_eq_true_eq]; exact ⟨fun ⟨⟨⟨⟨a, b⟩, c⟩, d⟩, e⟩ => ⟨a, b, c, d, e⟩, fun ⟨a, b, c, d, e⟩ => ⟨⟨⟨⟨a, b⟩, c⟩, d⟩, e⟩⟩
theorem rOk_gcd {n d : Int} (h : rOk n d = true) : Nat.gcd n.natAbs d.natAbs = 1 := by
  obtain ⟨a, b, c, e, g⟩ := rOk_iff.1 h
  rw [gcdV_of (by omega) (by omega)] at g; omega
theorem rOk_mk {n d : Int} (a : 1 ≤ d) (b : d ≤ 1000000000000000) (c : -1000000000000000000 ≤ n) (e : n ≤ 1000000000000000000) (g : Nat.gcd n.natAbs d.natAbs = 1) : rOk n d = true := by
  rw [rOk_iff]; refine ⟨a, b, c, e, ?_⟩; rw [gcdV_of (by omega) (by omega), g]; rfl
theorem rOk_zero : rOk 0 0 = false := by decide
/-- The value of a fraction as a pair: numerator and denominator of n / d in lowest terms, or 0, 0. -/
def rNum (n d : Int) : Int := if d < 0 then -(n.tdiv (gcdV n d)) else n.tdiv (gcdV n d)
def rDen (n d : Int) : Int := if d < 0 then -(d.tdiv (gcdV n d)) else d.tdiv (gcdV n d)
def rOfB (n d : Int) : Bool := !(decide (d = 0)) && !(decide (gcdV n d = 0)) && rOk (rNum n d) (rDen n d)
def rOfN (n d : Int) : Int := if rOfB n d = true then rNum n d else 0
def rOfD (n d : Int) : Int := if rOfB n d = true then rDen n d else 0
/-- How two fractions compare. -/
def rCmp (n d m e : Int) : Int := if rOk n d = true ∧ rOk m e = true then (n * e - m * d).sign else 0

theorem gcdV_range (n d : Int) (h0 : -9223372036854775808 ≤ n) (h1 : n ≤ 9223372036854775807) (k0 : -9223372036854775808 ≤ d) (k1 : d ≤ 9223372036854775807) : 0 ≤ gcdV n d ∧ gcdV n d ≤ 9223372036854775807 := by
  unfold gcdV
  split
  · omega
  · rename_i h
    by_cases hn : n = 0
    · subst hn; rw [Int.natAbs_zero, Nat.gcd_zero_left]; omega
    · have := Nat.gcd_le_left (m := n.natAbs) d.natAbs (by omega); omega
/-- A divisor's quotients: exact. -/
theorem gcdV_dvd {n d : Int} (h0 : -9223372036854775808 < n) (k0 : -9223372036854775808 < d) : gcdV n d ∣ n ∧ gcdV n d ∣ d := by
  rw [gcdV_of h0 k0]
  exact ⟨Int.dvd_natAbs.1 (Int.natCast_dvd_natCast.2 (Nat.gcd_dvd_left _ _)), Int.dvd_natAbs.1 (Int.natCast_dvd_natCast.2 (Nat.gcd_dvd_right _ _))⟩
theorem gcdV_zero {n d : Int} (h : gcdV n d = 0) : n = -9223372036854775808 ∨ d = -9223372036854775808 ∨ n = 0 ∧ d = 0 := by
  unfold gcdV at h
  split at h
  · omega
  · have h' : Nat.gcd n.natAbs d.natAbs = 0 := by omega
    rw [Nat.gcd_eq_zero_iff] at h'; omega
theorem tdiv_abs (n g : Int) (h0 : -9223372036854775808 < n) (h1 : n ≤ 9223372036854775807) : -9223372036854775808 < n.tdiv g ∧ n.tdiv g ≤ 9223372036854775807 := by
  have := Int.natAbs_tdiv_le_natAbs n g
  omega

/-- Go's quotient and rest, rounded down. -/
theorem floor_neg (n d : Int) (hd : 0 < d) (h : n.tmod d < 0) : n.tdiv d - 1 = n / d := by
  have h1 := Int.tmod_add_mul_tdiv n d
  have h2 : -d < n.tmod d := Int.lt_tmod_of_pos n hd
  have h3 : n / d = n.tdiv d - 1 := by
    apply (Int.ediv_eq_iff_of_pos hd).2
    rw [Int.mul_comm] at h1
    rw [Int.sub_mul, Int.one_mul]
    exact ⟨by omega, by omega⟩
  omega
theorem floor_nonneg (n d : Int) (hd : 0 < d) (h : ¬ n.tmod d < 0) : n.tdiv d = n / d := by
  have h1 := Int.tmod_add_mul_tdiv n d
  have h2 : n.tmod d < d := Int.tmod_lt_of_pos n hd
  symm
  apply (Int.ediv_eq_iff_of_pos hd).2
  rw [Int.mul_comm] at h1
  exact ⟨by omega, by omega⟩
theorem ediv_range (n d : Int) (hd : 0 < d) (N : Int) (hN : 0 ≤ N) (h0 : -N ≤ n) (h1 : n ≤ N) : -N - 1 ≤ n / d ∧ n / d ≤ N := by
  have a := Int.emod_add_mul_ediv n d
  have b := Int.emod_nonneg n (by omega : d ≠ 0)
  have c := Int.emod_lt_of_pos n hd
  constructor
  · rcases Int.lt_or_le n 0 with h | h
    · have : -N ≤ n / d := by
        apply (Int.le_ediv_iff_mul_le hd).2
        have := Int.mul_le_mul_of_nonneg_left (show 1 ≤ d by omega) hN
        rw [Int.neg_mul]; omega
      omega
    · have := Int.ediv_nonneg h (Int.le_of_lt hd); omega
  · rcases Int.lt_or_le n 0 with h | h
    · have := Int.ediv_neg_of_neg_of_pos h hd; omega
    · have := Int.ediv_le_self d h; omega
/-- The product of the floor and the denominator. -/
theorem floor_mul (n d : Int) (hd : 0 < d) : n - d < n / d * d ∧ n / d * d ≤ n ∧ n - n / d * d = n % d := by
  have a := Int.emod_add_mul_ediv n d
  have b := Int.emod_nonneg n (by omega : d ≠ 0)
  have c := Int.emod_lt_of_pos n hd
  rw [Int.mul_comm] at a
  omega
theorem sign_neg {x : Int} (h : x < 0) : x.sign = -1 := Int.sign_eq_neg_one_of_neg h
theorem sign_pos {x : Int} (h : 0 < x) : x.sign = 1 := Int.sign_eq_one_of_pos h
theorem cmp_lt {a b c d : Int} (hb : 0 < b) (hd : 0 < d) (h : a / b < c / d) : a * d - c * b < 0 := by
  have h1 : a < (a / b + 1) * b := Int.lt_ediv_add_one_mul_self a hb
  have h2 : c / d * d ≤ c := Int.ediv_mul_le c (by omega)
  have h3 := Int.mul_lt_mul_of_pos_right h1 hd
  have h4 := Int.mul_le_mul_of_nonneg_right h2 (Int.le_of_lt hb)
  have h5 : (a / b + 1) * b * d ≤ c / d * d * b := by
    rw [Int.mul_assoc, Int.mul_assoc, Int.mul_comm d b]
    exact Int.mul_le_mul_of_nonneg_right (by omega) (Int.mul_nonneg (Int.le_of_lt hb) (Int.le_of_lt hd))
  omega
theorem cmp_rest {a b c d : Int} (h : a / b = c / d) : a * d - c * b = (a % b) * d - (c % d) * b := by
  have h1 := Int.emod_add_mul_ediv a b
  have h2 := Int.emod_add_mul_ediv c d
  have e1 : a * d = (a % b) * d + b * (a / b) * d := by rw [← Int.add_mul, h1]
  have e2 : c * b = (c % d) * b + d * (c / d) * b := by rw [← Int.add_mul, h2]
  have e3 : b * (a / b) * d = d * (c / d) * b := by
    rw [h, Int.mul_right_comm b, Int.mul_comm b d, Int.mul_right_comm]
  omega
/-- In lowest terms equal values have equal parts. -/
theorem low_eq {n d m e : Int} (h : rOk n d = true) (k : rOk m e = true) (hx : n * e = m * d) : n = m ∧ d = e := by
  have g1 := rOk_gcd h
  have g2 := rOk_gcd k
  obtain ⟨a1, a2, a3, a4, _⟩ := rOk_iff.1 h
  obtain ⟨b1, b2, b3, b4, _⟩ := rOk_iff.1 k
  have hx' : n.natAbs * e.natAbs = m.natAbs * d.natAbs := by rw [← Int.natAbs_mul, ← Int.natAbs_mul, hx]
  have d1 : d.natAbs ∣ e.natAbs := by
    have : d.natAbs ∣ n.natAbs * e.natAbs := by rw [hx']; exact Nat.dvd_mul_left _ _
    exact Nat.Coprime.dvd_of_dvd_mul_left (Nat.coprime_comm.1 g1) this
  have d2 : e.natAbs ∣ d.natAbs := by
    have : e.natAbs ∣ m.natAbs * d.natAbs := by rw [← hx']; exact Nat.dvd_mul_left _ _
    exact Nat.Coprime.dvd_of_dvd_mul_left (Nat.coprime_comm.1 g2) this
  have hde : d = e := by have := Nat.dvd_antisymm d1 d2; omega
  subst hde
  exact ⟨Int.eq_of_mul_eq_mul_right (by omega) hx, rfl⟩
theorem low_ne {n d m e : Int} (h : rOk n d = true) (k : rOk m e = true) (hx : ¬ (n = m ∧ d = e)) : n * e - m * d ≠ 0 := fun h0 => hx (low_eq h k (by omega))
end Go.Proofs.Ytnbbmpilpeakiaa
