/-
  The least potential lies where the current goes out: so potentials are never negative, and a resistance between two nodes is not 0.
-/
import Derived.Test.YtaececpphdaciaaPotMath
import Derived.Test.YtaececpphdaciaaGTree
namespace Go.Proofs.Ytaececpphdaciaa
open Go.RowKit

theorem sumN_nonpos {f : Nat → Int} : ∀ n, (∀ k, k < n → f k ≤ 0) → sumN f n ≤ 0
  | 0, _ => Int.le_refl _
  | n + 1, h => by
    have ih := sumN_nonpos n fun k hk => h k (by omega)
    have h1 := h n (by omega)
    show sumN f n + f n ≤ 0
    omega
theorem sumN_all {f : Nat → Int} : ∀ n, (∀ k, k < n → f k ≤ 0) → 0 ≤ sumN f n → ∀ k, k < n → f k = 0
  | 0, _, _, k, hk => by omega
  | n + 1, h, hs, k, hk => by
    have h0 := sumN_nonpos n fun k hk => h k (by omega)
    have h1 := h n (by omega)
    have h2 : 0 ≤ sumN f n + f n := hs
    by_cases hkn : k = n
    · subst hkn; omega
    · exact sumN_all n (fun k hk => h k (by omega)) (by omega) k (by omega)
theorem least_at (P : Nat → Int) : ∀ n, 0 < n → ∃ m, m < n ∧ ∀ k, k < n → P m ≤ P k
  | 0, h => by omega
  | 1, _ => ⟨0, by omega, fun k hk => by rw [show k = 0 by omega]; exact Int.le_refl _⟩
  | n + 2, _ => by
    obtain ⟨m, hm, h⟩ := least_at P (n + 1) (by omega)
    by_cases hl : P m ≤ P (n + 1)
    · exact ⟨m, by omega, fun k hk => by
        by_cases hk1 : k < n + 1
        · exact h k hk1
        · rw [show k = n + 1 by omega]; exact hl⟩
    · exact ⟨n + 1, by omega, fun k hk => by
        by_cases hk1 : k < n + 1
        · have := h k hk1; omega
        · rw [show k = n + 1 by omega]; exact Int.le_refl _⟩
theorem wBtw_nonneg {n : Int} {ws : List W3} (h : WiresV n ws) (a b : Nat) : 0 ≤ wBtw ws (a : Int) (b : Int) := by
  rw [wBtw_cJ h]
  have hm : ∀ t ∈ ws, wireV n t := fun t ht => h.mem ht
  clear h
  induction ws with
  | nil => simp
  | cons t r ih =>
    simp only [List.map_cons, List.sum_cons]
    have h1 := hm t (by simp)
    unfold wireV at h1
    have h2 := ih (fun u hu => hm u (by simp [hu]))
    have h3 : 0 ≤ cJ a b t := by unfold cJ; split <;> omega
    omega
/-- Where nothing flows off but at b, the least potential is that of b. -/
theorem min_out {N : Nat} {e s : Int} {ws : List W3} (hb : netB N e s ws = true) (P : Nat → Int) (b : Nat) (hbN : b < N) (hf : ∀ v, v < N → v ≠ b → 0 ≤ sumN (fun w => wBtw ws (v : Int) (w : Int) * (P v - P w)) N) : ∀ v, v < N → P b ≤ P v := by
  obtain ⟨m, hm, hle⟩ := least_at P N (by omega)
  by_cases hmb : P b = P m
  · intro v hv; have := hle v hv; omega
  exfalso
  obtain ⟨hN, hW, hC⟩ := netB_iff.1 hb
  have hz : ∀ v, v < N → P v = P m → ∀ x, x < N → wBtw ws (v : Int) (x : Int) ≠ 0 → P x = P m := fun v hv hvm x hx hw => by
    have hvb : v ≠ b := fun h => hmb (by rw [← h]; exact hvm)
    have h0 := sumN_all N (fun k hk => by
      have h1 := wBtw_nonneg hW v k
      have h2 := hle k hk
      exact Int.mul_nonpos_of_nonneg_of_nonpos h1 (by omega)) (hf v hv hvb) x hx
    rcases Int.mul_eq_zero.1 h0 with h | h
    · exact absurd h hw
    · omega
  have hcl := hC (b : Int) (by omega) (by omega) (fun x => P x.toNat = P m ↔ P 0 = P m) Iff.rfl (fun t ht => by
    have hv := hW.mem ht
    have hp := wBtw_mem hW ht
    unfold wireV at hv
    have c1 : ((t.1.toNat : Nat) : Int) = t.1 := by omega
    have c2 : ((t.2.1.toNat : Nat) : Int) = t.2.1 := by omega
    have k1 := fun h => hz t.1.toNat (by omega) h t.2.1.toNat (by omega) (by rw [c1, c2]; omega)
    have k2 := fun h => hz t.2.1.toNat (by omega) h t.1.toNat (by omega) (by rw [c1, c2, wBtw_comm]; omega)
    have k3 : P t.1.toNat = P m ↔ P t.2.1.toNat = P m := ⟨k1, k2⟩
    show (P t.1.toNat = P m ↔ P 0 = P m) ↔ (P t.2.1.toNat = P m ↔ P 0 = P m)
    rw [k3])
  have hcm := hC (m : Int) (by omega) (by omega) (fun x => P x.toNat = P m ↔ P 0 = P m) Iff.rfl (fun t ht => by
    have hv := hW.mem ht
    have hp := wBtw_mem hW ht
    unfold wireV at hv
    have c1 : ((t.1.toNat : Nat) : Int) = t.1 := by omega
    have c2 : ((t.2.1.toNat : Nat) : Int) = t.2.1 := by omega
    have k1 := fun h => hz t.1.toNat (by omega) h t.2.1.toNat (by omega) (by rw [c1, c2]; omega)
    have k2 := fun h => hz t.2.1.toNat (by omega) h t.1.toNat (by omega) (by rw [c1, c2, wBtw_comm]; omega)
    have k3 : P t.1.toNat = P m ↔ P t.2.1.toNat = P m := ⟨k1, k2⟩
    show (P t.1.toNat = P m ↔ P 0 = P m) ↔ (P t.2.1.toNat = P m ↔ P 0 = P m)
    rw [k3])
  simp only [Int.toNat_natCast] at hcl hcm
  exact hmb (hcl.2 (hcm.1 trivial))
theorem min_tree {N : Nat} {e s : Int} {ws : List W3} (hb : netB N e s ws = true) (h2 : 2 ≤ N) (b : Nat) (hbN : b < N) : 0 < minI (lapM N ws) N b := by
  obtain ⟨h1, h5, hw⟩ := netB_iff.1 hb
  have hN : N ≤ 5 := by unfold NumsV at h1; omega
  rw [min_same h5 h2 hN b hbN, ← minI_tree hb]
  exact tree_pos hb
/-- No potential is negative. -/
theorem pot_nonneg {N : Nat} {e s : Int} {ws : List W3} (hb : netB N e s ws = true) (a b v : Nat) (ha : a < N) (hbN : b < N) (hv : v < N) (hab : a ≠ b) : 0 ≤ potI (lapM N ws) N a b v := by
  obtain ⟨h1, hW, _⟩ := netB_iff.1 hb
  have hN : N ≤ 5 := by unfold NumsV at h1; omega
  have h2 : 2 ≤ N := by omega
  have hp := min_tree hb h2 b hbN
  have h := min_out hb (potI (lapM N ws) N a b) b hbN (fun u hu hub => by
    rw [kirchhoff hW h2 hN a b u ha hbN hu hab]
    split
    · omega
    · omega) v hv
  have e0 : potI (lapM N ws) N a b b = 0 := by unfold potI; rw [if_pos rfl]
  omega
/-- The resistance between different nodes is not 0. -/
theorem pot_pos {N : Nat} {e s : Int} {ws : List W3} (hb : netB N e s ws = true) (a b : Nat) (ha : a < N) (hbN : b < N) (hab : a ≠ b) : 0 < potI (lapM N ws) N a b a := by
  obtain ⟨h1, hW, _⟩ := netB_iff.1 hb
  have hN : N ≤ 5 := by unfold NumsV at h1; omega
  have h2 : 2 ≤ N := by omega
  have hp := min_tree hb h2 b hbN
  have hn := pot_nonneg hb a b a ha hbN ha hab
  by_cases h0 : potI (lapM N ws) N a b a = 0
  case neg => omega
  exfalso
  have h := min_out hb (fun v => -potI (lapM N ws) N a b v) a ha (fun u hu hua => by
    have hk := kirchhoff hW h2 hN a b u ha hbN hu hab
    rw [if_neg hua] at hk
    have e1 : sumN (fun w => wBtw ws (u : Int) (w : Int) * (-potI (lapM N ws) N a b u - -potI (lapM N ws) N a b w)) N = sumN (fun w => wBtw ws (u : Int) (w : Int) * (potI (lapM N ws) N a b u - potI (lapM N ws) N a b w) * (-1)) N := sumN_ext N fun k _ => by
      rw [Int.mul_assoc]
      congr 1
      omega
    rw [e1, sumN_mul, hk]
    split <;> omega)
  have hall : ∀ v, v < N → potI (lapM N ws) N a b v = 0 := fun v hv => by
    have h3 := h v hv
    have h4 := pot_nonneg hb a b v ha hbN hv hab
    have h5 : -potI (lapM N ws) N a b a ≤ -potI (lapM N ws) N a b v := h3
    omega
  have hk := kirchhoff hW h2 hN a b a ha hbN ha hab
  rw [if_pos rfl, sumN_zero N (fun k hk' => by rw [hall a ha, hall k hk']; omega)] at hk
  omega
end Go.Proofs.Ytaececpphdaciaa
