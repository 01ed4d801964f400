/-
  Fractions: the mathematics of chapter 3, on integers.
  RatioOk, floors and the like, in the model and in the program.
  Fractions: sums, differences, products and inverses, and what value a fraction has.
-/
import Derived.Test.YtaececpphdaciaaGBase
import Derived.RegionTactic
import Derived.BigRegion
namespace Go.Proofs.Ytaececpphdaciaa

/-- A fraction is valid. -/
def rOk (n d : Int) : Bool := decide (1 ≤ d) && decide (d ≤ 1000000000000000) && decide (-1000000000000000000 ≤ n) && decide (n ≤ 1000000000000000000) && decide (gcdV n d = 1)
theorem rOk_iff {n d : Int} : rOk n d = true ↔ 1 ≤ d ∧ d ≤ 1000000000000000 ∧ -1000000000000000000 ≤ n ∧ n ≤ 1000000000000000000 ∧ gcdV n d = 1 := by
  unfold rOk; simp only [Bool.and_eq_true, decide_eq_true_eq]; exact ⟨fun ⟨⟨⟨⟨a, b⟩, c⟩, d⟩, e⟩ => ⟨a, b, c, d, e⟩, fun ⟨a, b, c, d, e⟩ => ⟨⟨⟨⟨a, b⟩, c⟩, d⟩, e⟩⟩
theorem rOk_gcd {n d : Int} (h : rOk n d = true) : Nat.gcd n.natAbs d.natAbs = 1 := by
  obtain ⟨a, b, c, e, g⟩ := rOk_iff.1 h
  rw [gcdV_of (by omega) (by omega)] at g; omega
theorem rOk_mk {n d : Int} (a : 1 ≤ d) (b : d ≤ 1000000000000000) (c : -1000000000000000000 ≤ n) (e : n ≤ 1000000000000000000) (g : Nat.gcd n.natAbs d.natAbs = 1) : rOk n d = true := by
  rw [rOk_iff]; refine ⟨a, b, c, e, ?_⟩; rw [gcdV_of (by omega) (by omega), g]; rfl
theorem rOk_zero : rOk 0 0 = false := by decide
/-- The value of a fraction as a pair: numerator and denominator of n / d in lowest terms, or 0, 0. -/
def rNum (n d : Int) : Int := if d < 0 then -(n.tdiv (gcdV n d)) else n.tdiv (gcdV n d)
def rDen (n d : Int) : Int := if d < 0 then -(d.tdiv (gcdV n d)) else d.tdiv (gcdV n d)
def rOfB (n d : Int) : Bool := !(decide (d = 0)) && !(decide (gcdV n d = 0)) && rOk (rNum n d) (rDen n d)
def rOfN (n d : Int) : Int := if rOfB n d = true then rNum n d else 0
def rOfD (n d : Int) : Int := if rOfB n d = true then rDen n d else 0
/-- How two fractions compare. -/
def rCmp (n d m e : Int) : Int := if rOk n d = true ∧ rOk m e = true then (n * e - m * d).sign else 0

theorem gcdV_range (n d : Int) (h0 : -9223372036854775808 ≤ n) (h1 : n ≤ 9223372036854775807) (k0 : -9223372036854775808 ≤ d) (k1 : d ≤ 9223372036854775807) : 0 ≤ gcdV n d ∧ gcdV n d ≤ 9223372036854775807 := by
  unfold gcdV
  split
  · omega
  · rename_i h
    by_cases hn : n = 0
    · subst hn; rw [Int.natAbs_zero, Nat.gcd_zero_left]; omega
    · have := Nat.gcd_le_left (m := n.natAbs) d.natAbs (by omega); omega
/-- A divisor's quotients: exact. -/
theorem gcdV_dvd {n d : Int} (h0 : -9223372036854775808 < n) (k0 : -9223372036854775808 < d) : gcdV n d ∣ n ∧ gcdV n d ∣ d := by
  rw [gcdV_of h0 k0]
  exact ⟨Int.dvd_natAbs.1 (Int.natCast_dvd_natCast.2 (Nat.gcd_dvd_left _ _)), Int.dvd_natAbs.1 (Int.natCast_dvd_natCast.2 (Nat.gcd_dvd_right _ _))⟩
theorem gcdV_zero {n d : Int} (h : gcdV n d = 0) : n = -9223372036854775808 ∨ d = -9223372036854775808 ∨ n = 0 ∧ d = 0 := by
  unfold gcdV at h
  split at h
  · omega
  · have h' : Nat.gcd n.natAbs d.natAbs = 0 := by omega
    rw [Nat.gcd_eq_zero_iff] at h'; omega
theorem tdiv_abs (n g : Int) (h0 : -9223372036854775808 < n) (h1 : n ≤ 9223372036854775807) : -9223372036854775808 < n.tdiv g ∧ n.tdiv g ≤ 9223372036854775807 := by
  have := Int.natAbs_tdiv_le_natAbs n g
  omega

/-- Go's quotient and rest, rounded down. -/
theorem floor_neg (n d : Int) (hd : 0 < d) (h : n.tmod d < 0) : n.tdiv d - 1 = n / d := by
  have h1 := Int.tmod_add_mul_tdiv n d
  have h2 : -d < n.tmod d := Int.lt_tmod_of_pos n hd
  have h3 : n / d = n.tdiv d - 1 := by
    apply (Int.ediv_eq_iff_of_pos hd).2
    rw [Int.mul_comm] at h1
    rw [Int.sub_mul, Int.one_mul]
    exact ⟨by omega, by omega⟩
  omega
theorem floor_nonneg (n d : Int) (hd : 0 < d) (h : ¬ n.tmod d < 0) : n.tdiv d = n / d := by
  have h1 := Int.tmod_add_mul_tdiv n d
  have h2 : n.tmod d < d := Int.tmod_lt_of_pos n hd
  symm
  apply (Int.ediv_eq_iff_of_pos hd).2
  rw [Int.mul_comm] at h1
  exact ⟨by omega, by omega⟩
theorem ediv_range (n d : Int) (hd : 0 < d) (N : Int) (hN : 0 ≤ N) (h0 : -N ≤ n) (h1 : n ≤ N) : -N - 1 ≤ n / d ∧ n / d ≤ N := by
  have a := Int.emod_add_mul_ediv n d
  have b := Int.emod_nonneg n (by omega : d ≠ 0)
  have c := Int.emod_lt_of_pos n hd
  constructor
  · rcases Int.lt_or_le n 0 with h | h
    · have : -N ≤ n / d := by
        apply (Int.le_ediv_iff_mul_le hd).2
        have := Int.mul_le_mul_of_nonneg_left (show 1 ≤ d by omega) hN
        rw [Int.neg_mul]; omega
      omega
    · have := Int.ediv_nonneg h (Int.le_of_lt hd); omega
  · rcases Int.lt_or_le n 0 with h | h
    · have := Int.ediv_neg_of_neg_of_pos h hd; omega
    · have := Int.ediv_le_self d h; omega
/-- The product of the floor and the denominator. -/
theorem floor_mul (n d : Int) (hd : 0 < d) : n - d < n / d * d ∧ n / d * d ≤ n ∧ n - n / d * d = n % d := by
  have a := Int.emod_add_mul_ediv n d
  have b := Int.emod_nonneg n (by omega : d ≠ 0)
  have c := Int.emod_lt_of_pos n hd
  rw [Int.mul_comm] at a
  omega
theorem sign_neg {x : Int} (h : x < 0) : x.sign = -1 := Int.sign_eq_neg_one_of_neg h
theorem sign_pos {x : Int} (h : 0 < x) : x.sign = 1 := Int.sign_eq_one_of_pos h
theorem cmp_lt {a b c d : Int} (hb : 0 < b) (hd : 0 < d) (h : a / b < c / d) : a * d - c * b < 0 := by
  have h1 : a < (a / b + 1) * b := Int.lt_ediv_add_one_mul_self a hb
  have h2 : c / d * d ≤ c := Int.ediv_mul_le c (by omega)
  have h3 := Int.mul_lt_mul_of_pos_right h1 hd
  have h4 := Int.mul_le_mul_of_nonneg_right h2 (Int.le_of_lt hb)
  have h5 : (a / b + 1) * b * d ≤ c / d * d * b := by
    rw [Int.mul_assoc, Int.mul_assoc, Int.mul_comm d b]
    exact Int.mul_le_mul_of_nonneg_right (by omega) (Int.mul_nonneg (Int.le_of_lt hb) (Int.le_of_lt hd))
  omega
theorem cmp_rest {a b c d : Int} (h : a / b = c / d) : a * d - c * b = (a % b) * d - (c % d) * b := by
  have h1 := Int.emod_add_mul_ediv a b
  have h2 := Int.emod_add_mul_ediv c d
  have e1 : a * d = (a % b) * d + b * (a / b) * d := by rw [← Int.add_mul, h1]
  have e2 : c * b = (c % d) * b + d * (c / d) * b := by rw [← Int.add_mul, h2]
  have e3 : b * (a / b) * d = d * (c / d) * b := by
    rw [h, Int.mul_right_comm b, Int.mul_comm b d, Int.mul_right_comm]
  omega
/-- In lowest terms equal values have equal parts. -/
theorem low_eq {n d m e : Int} (h : rOk n d = true) (k : rOk m e = true) (hx : n * e = m * d) : n = m ∧ d = e := by
  have g1 := rOk_gcd h
  have g2 := rOk_gcd k
  obtain ⟨a1, a2, a3, a4, _⟩ := rOk_iff.1 h
  obtain ⟨b1, b2, b3, b4, _⟩ := rOk_iff.1 k
  have hx' : n.natAbs * e.natAbs = m.natAbs * d.natAbs := by rw [← Int.natAbs_mul, ← Int.natAbs_mul, hx]
  have d1 : d.natAbs ∣ e.natAbs := by
    have : d.natAbs ∣ n.natAbs * e.natAbs := by rw [hx']; exact Nat.dvd_mul_left _ _
    exact Nat.Coprime.dvd_of_dvd_mul_left (Nat.coprime_comm.1 g1) this
  have d2 : e.natAbs ∣ d.natAbs := by
    have : e.natAbs ∣ m.natAbs * d.natAbs := by rw [← hx']; exact Nat.dvd_mul_left _ _
    exact Nat.Coprime.dvd_of_dvd_mul_left (Nat.coprime_comm.1 g2) this
  have hde : d = e := by have := Nat.dvd_antisymm d1 d2; omega
  subst hde
  exact ⟨Int.eq_of_mul_eq_mul_right (by omega) hx, rfl⟩
theorem low_ne {n d m e : Int} (h : rOk n d = true) (k : rOk m e = true) (hx : ¬ (n = m ∧ d = e)) : n * e - m * d ≠ 0 := fun h0 => hx (low_eq h k (by omega))
end Go.Proofs.Ytaececpphdaciaa

namespace Go.Proofs.Ytaececpphdaciaa
open Go.RowKit

theorem spec_in_yes (n lo hi : Int) (w : World) (h0 : lo ≤ n) (h1 : n ≤ hi) :
    Calls Try.prog 79 #[.int .i64 n, .int .i64 lo, .int .i64 hi] w fun e w' => e = .returned (.bool true) ∧ w = w' := by
  go_enter Try.func79, Try.ntmps79
  go_wp2
  go_ret
  exact ⟨rfl, rfl⟩
theorem spec_in_no (n lo hi : Int) (w : World) (h : n < lo ∨ hi < n) :
    Calls Try.prog 79 #[.int .i64 n, .int .i64 lo, .int .i64 hi] w fun e w' => e = .returned (.bool false) ∧ w = w' := by
  by_cases h0 : lo ≤ n
  · have h1 : decide (n ≤ hi) = false := by simp; omega
    clear h
    go_enter Try.func79, Try.ntmps79
    go_wp2
    go_ret
    exact ⟨rfl, rfl⟩
  · clear h
    go_enter Try.func79, Try.ntmps79
    go_wp2
    go_ret
    exact ⟨rfl, rfl⟩

set_option maxHeartbeats 800000 in
theorem spec_rOk (n d : Int) (w : World) (n0 : -9223372036854775808 ≤ n) (n1 : n ≤ 9223372036854775807) (d0 : -9223372036854775808 ≤ d) (d1 : d ≤ 9223372036854775807) :
    Calls Try.prog 117 #[.agg #[.int .i64 n, .int .i64 d]] w fun e w' => e = .returned (.bool (rOk n d)) ∧ Below w.heap.size w w' := by
  by_cases hd : d < 1 ∨ 1000000000000000 < d
  · have hF : rOk n d = false := by rw [Bool.eq_false_iff, Ne, rOk_iff]; omega
    have HF := Lib.hid hF; clear hF
    go_enter Try.func117, Try.ntmps117
    go_wp2_with (go_at_call 79; refine (spec_in_no _ _ _ _ hd).mono ?_; rintro e w' ⟨rfl, rfl⟩)
    go_ret
    exact ⟨ret_b HF.out.symm, (Below.refl _ _).alloc (Nat.le_refl _) _⟩
  · have hd0 : 1 ≤ d := by omega
    have hd1 : d ≤ 1000000000000000 := by omega
    clear hd
    by_cases hn : n < -1000000000000000000 ∨ 1000000000000000000 < n
    · have hF : rOk n d = false := by rw [Bool.eq_false_iff, Ne, rOk_iff]; omega
      have HF := Lib.hid hF; clear hF
      go_enter Try.func117, Try.ntmps117
      go_wp2_with fail
      refine (spec_in_yes _ _ _ _ hd0 hd1).mono ?_
      rintro e w' ⟨rfl, rfl⟩
      go_wp2_with fail
      refine (spec_in_no _ _ _ _ hn).mono ?_
      rintro e w' ⟨rfl, rfl⟩
      go_wp2
      go_ret
      exact ⟨ret_b HF.out.symm, (Below.refl _ _).alloc (Nat.le_refl _) _⟩
    · have hn0 : -1000000000000000000 ≤ n := by omega
      have hn1 : n ≤ 1000000000000000000 := by omega
      clear hn
      have hE : rOk n d = (gcdV n d == 1) := by
        rw [Bool.eq_iff_iff, rOk_iff, beq_iff_eq]; exact ⟨fun h => h.2.2.2.2, fun h => ⟨hd0, hd1, hn0, hn1, h⟩⟩
      have HE := Lib.hid hE; clear hE
      go_enter Try.func117, Try.ntmps117
      go_wp2_with fail
      refine (spec_in_yes _ _ _ _ hd0 hd1).mono ?_
      rintro e w' ⟨rfl, rfl⟩
      go_wp2_with fail
      refine (spec_in_yes _ _ _ _ hn0 hn1).mono ?_
      rintro e w' ⟨rfl, rfl⟩
      go_wp2_with fail
      refine (spec_gcd _ _ _ n0 n1 d0 d1).mono ?_
      rintro e w1 ⟨rfl, B1⟩
      go_wp2
      go_ret
      exact ⟨ret_b HE.out.symm, ((Below.refl _ _).alloc (Nat.le_refl _) _).trans (B1.mono (by simp))⟩

set_option maxHeartbeats 800000 in
theorem impl_rOk (n d : Int) (w : World) (n0 : -9223372036854775808 ≤ n) (n1 : n ≤ 9223372036854775807) (d0 : -9223372036854775808 ≤ d) (d1 : d ≤ 9223372036854775807) :
    Calls Try.prog 75 #[.agg #[.int .i64 n, .int .i64 d]] w fun e w' => e = .returned (.bool (rOk n d)) ∧ Below w.heap.size w w' := by
  by_cases h : 1 ≤ d ∧ d ≤ 1000000000000000 ∧ -1000000000000000000 ≤ n ∧ n ≤ 1000000000000000000
  · obtain ⟨hd0, hd1, hn0, hn1⟩ := h
    have hE : rOk n d = (gcdV n d == 1) := by
      rw [Bool.eq_iff_iff, rOk_iff, beq_iff_eq]; exact ⟨fun h => h.2.2.2.2, fun h => ⟨hd0, hd1, hn0, hn1, h⟩⟩
    have HE := Lib.hid hE; clear hE
    go_enter Try.func75, Try.ntmps75
    go_wp2_with fail
    refine (impl_gcd _ _ _ n0 n1 d0 d1).mono ?_
    rintro e w1 ⟨rfl, B1⟩
    go_wp2
    go_ret
    exact ⟨ret_b HE.out.symm, ((Below.refl _ _).alloc (Nat.le_refl _) _).trans (B1.mono (by simp))⟩
  · have hF : rOk n d = false := by rw [Bool.eq_false_iff, Ne, rOk_iff]; intro k; exact h ⟨k.1, k.2.1, k.2.2.1, k.2.2.2.1⟩
    have HF := Lib.hid hF; clear hF
    by_cases c0 : 1 ≤ d
    · by_cases c1 : d ≤ 1000000000000000
      · by_cases c2 : -1000000000000000000 ≤ n
        · have c3 : ¬ n ≤ 1000000000000000000 := by omega
          have c3' : decide (n ≤ 1000000000000000000) = false := by simpa using c3
          clear h c3
          go_enter Try.func75, Try.ntmps75
          go_wp2
          go_ret
          exact ⟨ret_b HF.out.symm, (Below.refl _ _).alloc (Nat.le_refl _) _⟩
        · have c3' : decide (-1000000000000000000 ≤ n) = false := by simpa using c2
          clear h c2
          go_enter Try.func75, Try.ntmps75
          go_wp2
          go_ret
          exact ⟨ret_b HF.out.symm, (Below.refl _ _).alloc (Nat.le_refl _) _⟩
      · have c3' : decide (d ≤ 1000000000000000) = false := by simpa using c1
        clear h c1
        go_enter Try.func75, Try.ntmps75
        go_wp2
        go_ret
        exact ⟨ret_b HF.out.symm, (Below.refl _ _).alloc (Nat.le_refl _) _⟩
    · have c3' : decide (1 ≤ d) = false := by simpa using c0
      clear h
      go_enter Try.func75, Try.ntmps75
      go_wp2
      go_ret
      exact ⟨ret_b HF.out.symm, (Below.refl _ _).alloc (Nat.le_refl _) _⟩
end Go.Proofs.Ytaececpphdaciaa

namespace Go.Proofs.Ytaececpphdaciaa

theorem abs_of {x B : Int} (hB : 0 ≤ B) (h : x.natAbs ≤ B.toNat) : -B ≤ x ∧ x ≤ B := by omega
/-- Numerator and denominator of n / d in lowest terms. -/
theorem rNum_facts {n d : Int} (hd : d ≠ 0) (n0 : -9223372036854775808 < n) (d0 : -9223372036854775808 < d) :
    rNum n d * d = n * rDen n d ∧ 0 < rDen n d ∧ Nat.gcd (rNum n d).natAbs (rDen n d).natAbs = 1 := by
  have hg := gcdV_of n0 d0
  obtain ⟨h1, h2⟩ := gcdV_dvd n0 d0
  have hgp : 0 < Nat.gcd n.natAbs d.natAbs := Nat.gcd_pos_of_pos_right _ (by omega)
  obtain ⟨G, hG⟩ : ∃ G, G = gcdV n d := ⟨_, rfl⟩
  unfold rNum rDen
  rw [← hG] at h1 h2 hg ⊢
  obtain ⟨a, ha⟩ := h1
  obtain ⟨b, hb⟩ := h2
  have hgp' : 0 < G := by rw [hg]; omega
  have hg0 : G ≠ 0 := by omega
  have qa : n.tdiv G = a := by rw [ha]; exact Int.mul_tdiv_cancel_left a hg0
  have qb : d.tdiv G = b := by rw [hb]; exact Int.mul_tdiv_cancel_left b hg0
  have hGn : G.natAbs = Nat.gcd n.natAbs d.natAbs := by omega
  have hab : Nat.gcd a.natAbs b.natAbs = 1 := by
    have e1 : n.natAbs = G.natAbs * a.natAbs := by rw [ha, Int.natAbs_mul]
    have e2 : d.natAbs = G.natAbs * b.natAbs := by rw [hb, Int.natAbs_mul]
    have e3 : G.natAbs * 1 = G.natAbs * Nat.gcd a.natAbs b.natAbs := by
      rw [← Nat.gcd_mul_left, ← e1, ← e2, Nat.mul_one]; exact hGn
    exact (Nat.eq_of_mul_eq_mul_left (by omega) e3).symm
  have hx : a * d = n * b := by
    have e1 : a * d = a * (G * b) := by rw [← hb]
    have e2 : n * b = G * a * b := by rw [← ha]
    rw [e1, e2, ← Int.mul_assoc, Int.mul_comm a]
  have hbs : (0 < d → 0 < b) ∧ (d < 0 → b < 0) := by
    constructor
    · intro hp
      rcases Int.lt_trichotomy b 0 with h | h | h
      · have := Int.mul_neg_of_pos_of_neg hgp' h; rw [← hb] at this; omega
      · rw [h, Int.mul_zero] at hb; omega
      · exact h
    · intro hp
      rcases Int.lt_trichotomy b 0 with h | h | h
      · exact h
      · rw [h, Int.mul_zero] at hb; omega
      · have := Int.mul_pos hgp' h; rw [← hb] at this; omega
  rw [qa, qb]
  by_cases hd0 : d < 0
  · rw [if_pos hd0, if_pos hd0]
    refine ⟨by rw [Int.neg_mul, Int.mul_neg, hx], by have := hbs.2 hd0; omega, ?_⟩
    rw [Int.natAbs_neg, Int.natAbs_neg]; exact hab
  · rw [if_neg hd0, if_neg hd0]
    exact ⟨hx, hbs.1 (by omega), hab⟩
/-- Two pairs in lowest terms of one value are equal. -/
theorem low_same {n d m e : Int} (hd : 0 < d) (he : 0 < e) (g1 : Nat.gcd n.natAbs d.natAbs = 1) (g2 : Nat.gcd m.natAbs e.natAbs = 1) (hx : n * e = m * d) : n = m ∧ d = e := by
  have hx' : n.natAbs * e.natAbs = m.natAbs * d.natAbs := by rw [← Int.natAbs_mul, ← Int.natAbs_mul, hx]
  have d1 : d.natAbs ∣ e.natAbs := by
    have : d.natAbs ∣ n.natAbs * e.natAbs := by rw [hx']; exact Nat.dvd_mul_left _ _
    exact Nat.Coprime.dvd_of_dvd_mul_left (Nat.coprime_comm.1 g1) this
  have d2 : e.natAbs ∣ d.natAbs := by
    have : e.natAbs ∣ m.natAbs * d.natAbs := by rw [← hx']; exact Nat.dvd_mul_left _ _
    exact Nat.Coprime.dvd_of_dvd_mul_left (Nat.coprime_comm.1 g2) this
  have hde : d = e := by have := Nat.dvd_antisymm d1 d2; omega
  subst hde
  exact ⟨Int.eq_of_mul_eq_mul_right (by omega) hx, rfl⟩
/-- The valid fraction n / d has the value p / q. -/
def IsV (n d p q : Int) : Prop := rOk n d = true ∧ 0 < q ∧ n * q = p * d
theorem IsV.pos {n d p q : Int} (h : IsV n d p q) : 0 < d := by obtain ⟨a, _⟩ := rOk_iff.1 h.1; omega
theorem IsV.self {n d : Int} (h : rOk n d = true) : IsV n d n d := ⟨h, by obtain ⟨a, _⟩ := rOk_iff.1 h; omega, rfl⟩
theorem IsV.eq {n d m e p q r t : Int} (h : IsV n d p q) (k : IsV m e r t) (hx : p * t = r * q) : n = m ∧ d = e := by
  refine low_eq h.1 k.1 ?_
  have h1 := h.2.2
  have h2 := k.2.2
  have hq := h.2.1
  have ht := k.2.1
  -- n e q t = p d e t = r q d e = m q t d
  have e1 : n * e * (q * t) = m * d * (q * t) := by
    have a1 : n * e * (q * t) = (n * q) * (e * t) := by grind
    have a2 : m * d * (q * t) = (m * t) * (d * q) := by grind
    rw [a1, a2, h1, h2]
    have a3 : p * d * (e * t) = (p * t) * (d * e) := by grind
    have a4 : r * e * (d * q) = (r * q) * (d * e) := by grind
    rw [a3, a4, hx]
  exact Int.eq_of_mul_eq_mul_right (by have := Int.mul_pos hq ht; omega) e1
/-- In lowest terms the parts are least. -/
theorem IsV.le {n d p q : Int} (h : IsV n d p q) : n.natAbs ≤ p.natAbs ∧ d ≤ q := by
  obtain ⟨ho, hq, hx⟩ := h
  have g1 := rOk_gcd ho
  obtain ⟨a, _⟩ := rOk_iff.1 ho
  have hx' : n.natAbs * q.natAbs = p.natAbs * d.natAbs := by rw [← Int.natAbs_mul, ← Int.natAbs_mul, hx]
  have d1 : d.natAbs ∣ q.natAbs := by
    have : d.natAbs ∣ n.natAbs * q.natAbs := by rw [hx']; exact Nat.dvd_mul_left _ _
    exact Nat.Coprime.dvd_of_dvd_mul_left (Nat.coprime_comm.1 g1) this
  obtain ⟨c, hc⟩ := d1
  have hcp : 0 < c := by
    rcases Nat.eq_zero_or_pos c with h | h
    · rw [h] at hc; simp at hc; omega
    · exact h
  have hn : p.natAbs = n.natAbs * c := by
    rw [hc] at hx'
    have : n.natAbs * c * d.natAbs = p.natAbs * d.natAbs := by rw [← hx']; grind
    exact (Nat.eq_of_mul_eq_mul_right (by omega) this).symm
  refine ⟨by rw [hn]; exact Nat.le_mul_of_pos_right _ hcp, ?_⟩
  have := Nat.le_mul_of_pos_right d.natAbs hcp
  rw [← hc] at this
  omega
/-- What RatioOf answers to n / d, where the value's parts fit. -/
theorem rOf_is {n d : Int} (hd : d ≠ 0) (n0 : n.natAbs ≤ 1000000000000000000) (d0 : d.natAbs ≤ 1000000000000000) :
    IsV (rOfN n d) (rOfD n d) (if d < 0 then -n else n) (d.natAbs : Int) := by
  obtain ⟨f1, f2, f3⟩ := rNum_facts (n := n) (d := d) hd (by omega) (by omega)
  have hg : gcdV n d ≠ 0 := by
    rw [gcdV_of (a := n) (b := d) (by omega) (by omega)]
    have := Nat.gcd_pos_of_pos_right n.natAbs (show 0 < d.natAbs by omega)
    omega
  have hnn : (n.tdiv (gcdV n d)).natAbs ≤ n.natAbs := Int.natAbs_tdiv_le_natAbs n _
  have hdd : (d.tdiv (gcdV n d)).natAbs ≤ d.natAbs := Int.natAbs_tdiv_le_natAbs d _
  have hN : (rNum n d).natAbs ≤ n.natAbs := by
    unfold rNum; split
    · rw [Int.natAbs_neg]; exact hnn
    · exact hnn
  have hD : (rDen n d).natAbs ≤ d.natAbs := by
    unfold rDen; split
    · rw [Int.natAbs_neg]; exact hdd
    · exact hdd
  have hok : rOk (rNum n d) (rDen n d) = true := rOk_mk (by omega) (by omega) (by omega) (by omega) f3
  have hB : rOfB n d = true := by unfold rOfB; simp [hd, hg, hok]
  have e1 : rOfN n d = rNum n d := by unfold rOfN; rw [if_pos hB]
  have e2 : rOfD n d = rDen n d := by unfold rOfD; rw [if_pos hB]
  rw [e1, e2]
  refine ⟨hok, by omega, ?_⟩
  by_cases hd0 : d < 0
  · rw [if_pos hd0]
    have : (d.natAbs : Int) = -d := by omega
    rw [this, Int.mul_neg, f1, Int.neg_mul]
  · rw [if_neg hd0]
    have : (d.natAbs : Int) = d := by omega
    rw [this, f1]
theorem rOf_isP {n d : Int} (hd : 0 < d) (n0 : n.natAbs ≤ 1000000000000000000) (d0 : d ≤ 1000000000000000) : IsV (rOfN n d) (rOfD n d) n d := by
  have h := rOf_is (n := n) (d := d) (by omega) n0 (by omega)
  rw [if_neg (by omega)] at h
  have e : (d.natAbs : Int) = d := by omega
  rwa [e] at h

/-! ### sums, differences, products, inverses -/
def fitP (a b : Int) : Bool := decide ((a * b).natAbs ≤ 1000000000000000000)
def fit4 (n d m e : Int) : Bool := rOk n d && rOk m e && fitP n e && fitP m d && fitP d e && fitP n m
def rSum (n d m e : Int) : Int × Int := if fit4 n d m e = true then (rOfN (n * e + m * d) (d * e), rOfD (n * e + m * d) (d * e)) else (0, 0)
def rDiff (n d m e : Int) : Int × Int := if fit4 n d m e = true then (rOfN (n * e - m * d) (d * e), rOfD (n * e - m * d) (d * e)) else (0, 0)
def rTimes (n d m e : Int) : Int × Int := if fit4 n d m e = true then (rOfN (n * m) (d * e), rOfD (n * m) (d * e)) else (0, 0)
def rInv (n d : Int) : Int × Int := if rOk n d = true then (rOfN d n, rOfD d n) else (0, 0)
theorem abs_mul_le {a b A B : Int} (ha : a.natAbs ≤ A.natAbs) (hb : b.natAbs ≤ B.natAbs) : (a * b).natAbs ≤ (A * B).natAbs := by
  rw [Int.natAbs_mul, Int.natAbs_mul]; exact Nat.mul_le_mul ha hb
theorem IsV.leD {n d p q : Int} (h : IsV n d p q) : d.natAbs ≤ q.natAbs := by have := h.le.2; have := h.pos; omega
theorem fit4_of {n d m e p q r t : Int} (h : IsV n d p q) (k : IsV m e r t) (b1 : (p * t).natAbs ≤ 1000000000000000000) (b2 : (r * q).natAbs ≤ 1000000000000000000) (b3 : (q * t).natAbs ≤ 1000000000000000000) (b4 : (p * r).natAbs ≤ 1000000000000000000) : fit4 n d m e = true := by
  have c1 := abs_mul_le h.le.1 k.leD
  have c2 := abs_mul_le k.le.1 h.leD
  have c3 := abs_mul_le h.leD k.leD
  have c4 := abs_mul_le h.le.1 k.le.1
  unfold fit4 fitP
  simp only [h.1, k.1, Bool.and_eq_true, decide_eq_true_eq, Bool.true_and]
  exact ⟨⟨⟨by omega, by omega⟩, by omega⟩, by omega⟩
theorem IsV.cast {n d p q r t : Int} (h : IsV n d p q) (ht : 0 < t) (hx : p * t = r * q) : IsV n d r t := by
  refine ⟨h.1, ht, ?_⟩
  have h1 := h.2.2
  have hq := h.2.1
  have e : n * t * q = r * d * q := by
    have a1 : n * t * q = (n * q) * t := by grind
    have a2 : r * d * q = (r * q) * d := by grind
    rw [a1, a2, h1, ← hx]; grind
  exact Int.eq_of_mul_eq_mul_right (by omega) e
theorem rSum_is {n d m e p q r t : Int} (h : IsV n d p q) (k : IsV m e r t) (b1 : (p * t).natAbs ≤ 500000000000000000) (b2 : (r * q).natAbs ≤ 500000000000000000) (b3 : (q * t).natAbs ≤ 1000000000000000) (b4 : (p * r).natAbs ≤ 1000000000000000000) :
    IsV (rSum n d m e).1 (rSum n d m e).2 (p * t + r * q) (q * t) := by
  have hf := fit4_of h k (by omega) (by omega) (by omega) b4
  unfold rSum
  rw [if_pos hf]
  have c1 := abs_mul_le h.le.1 k.leD
  have c2 := abs_mul_le k.le.1 h.leD
  have c3 := abs_mul_le h.leD k.leD
  have hde := Int.mul_pos h.pos k.pos
  refine (rOf_isP (n := n * e + m * d) (d := d * e) hde (by omega) (by omega)).cast (Int.mul_pos h.2.1 k.2.1) ?_
  have h1 := h.2.2
  have h2 := k.2.2
  have a1 : (n * e + m * d) * (q * t) = (n * q) * (e * t) + (m * t) * (d * q) := by grind
  rw [a1, h1, h2]; grind
theorem rDiff_is {n d m e p q r t : Int} (h : IsV n d p q) (k : IsV m e r t) (b1 : (p * t).natAbs ≤ 500000000000000000) (b2 : (r * q).natAbs ≤ 500000000000000000) (b3 : (q * t).natAbs ≤ 1000000000000000) (b4 : (p * r).natAbs ≤ 1000000000000000000) :
    IsV (rDiff n d m e).1 (rDiff n d m e).2 (p * t - r * q) (q * t) := by
  have hf := fit4_of h k (by omega) (by omega) (by omega) b4
  unfold rDiff
  rw [if_pos hf]
  have c1 := abs_mul_le h.le.1 k.leD
  have c2 := abs_mul_le k.le.1 h.leD
  have c3 := abs_mul_le h.leD k.leD
  have hde := Int.mul_pos h.pos k.pos
  refine (rOf_isP (n := n * e - m * d) (d := d * e) hde (by omega) (by omega)).cast (Int.mul_pos h.2.1 k.2.1) ?_
  have h1 := h.2.2
  have h2 := k.2.2
  have a1 : (n * e - m * d) * (q * t) = (n * q) * (e * t) - (m * t) * (d * q) := by grind
  rw [a1, h1, h2]; grind
theorem rTimes_is {n d m e p q r t : Int} (h : IsV n d p q) (k : IsV m e r t) (b1 : (p * t).natAbs ≤ 1000000000000000000) (b2 : (r * q).natAbs ≤ 1000000000000000000) (b3 : (q * t).natAbs ≤ 1000000000000000) (b4 : (p * r).natAbs ≤ 1000000000000000000) :
    IsV (rTimes n d m e).1 (rTimes n d m e).2 (p * r) (q * t) := by
  have hf := fit4_of h k (by omega) (by omega) (by omega) b4
  unfold rTimes
  rw [if_pos hf]
  have c3 := abs_mul_le h.leD k.leD
  have c4 := abs_mul_le h.le.1 k.le.1
  have hde := Int.mul_pos h.pos k.pos
  refine (rOf_isP (n := n * m) (d := d * e) hde (by omega) (by omega)).cast (Int.mul_pos h.2.1 k.2.1) ?_
  have h1 := h.2.2
  have h2 := k.2.2
  have a1 : (n * m) * (q * t) = (n * q) * (m * t) := by grind
  rw [a1, h1, h2]; grind
theorem rInv_is {n d p q : Int} (h : IsV n d p q) (hp : p ≠ 0) (b : p.natAbs ≤ 1000000000000000) : IsV (rInv n d).1 (rInv n d).2 (if p < 0 then -q else q) (p.natAbs : Int) := by
  unfold rInv
  rw [if_pos h.1]
  have hl := h.le.1
  obtain ⟨a1, a2, _⟩ := rOk_iff.1 h.1
  have hx := h.2.2
  have hq := h.2.1
  have hn0 : n ≠ 0 := by
    intro e
    rw [e, Int.zero_mul] at hx
    rcases Int.mul_eq_zero.1 hx.symm with h | h <;> omega
  have hs : (n < 0 ↔ p < 0) := by
    constructor
    · intro hn
      rcases Int.lt_trichotomy p 0 with h | h | h
      · exact h
      · omega
      · have := Int.mul_pos h (show 0 < d by omega)
        have := Int.mul_neg_of_neg_of_pos hn hq
        omega
    · intro hp'
      rcases Int.lt_trichotomy n 0 with h | h | h
      · exact h
      · omega
      · have := Int.mul_pos h hq
        have := Int.mul_neg_of_neg_of_pos hp' (show 0 < d by omega)
        omega
  refine (rOf_is (n := d) (d := n) hn0 (by omega) (by omega)).cast (by omega) ?_
  by_cases hn : n < 0
  · have hp' := hs.1 hn
    rw [if_pos hn, if_pos hp']
    have e1 : (p.natAbs : Int) = -p := by omega
    have e2 : (n.natAbs : Int) = -n := by omega
    rw [e1, e2]; grind
  · have hp' : ¬ p < 0 := fun h => hn (hs.2 h)
    rw [if_neg hn, if_neg hp']
    have e1 : (p.natAbs : Int) = p := by omega
    have e2 : (n.natAbs : Int) = n := by omega
    rw [e1, e2]; grind
end Go.Proofs.Ytaececpphdaciaa
