/-
  What is asked of a matrix and of a list of its rows or columns, in the model and in the program.
-/
import Derived.Test.YtidgggdgblfanaaMat
import Derived.Test.YtidgggdgblfanaaAllReached
namespace Go.Proofs.Ytidgggdgblfanaa
open Go.RowKit

def rowV (n : Nat) (r : List Int) : Prop := r.length = n ∧ ∀ k (h : k < r.length), -1000 ≤ r[k] ∧ r[k] ≤ 1000
/-- A matrix that is taken: at most five rows, each as long as there are rows, entries between -1000 and 1000. -/
def matV (m : MatI) : Prop := m.length ≤ 5 ∧ ∀ k (h : k < m.length), rowV m.length m[k]
noncomputable def matB (m : MatI) : Bool := @decide (matV m) (Classical.propDecidable _)
theorem matB_yes {m : MatI} (h : matV m) : matB m = true := by simp [matB, h]
theorem matB_no {m : MatI} (h : ¬ matV m) : matB m = false := by simp [matB, h]
theorem matB_iff {m : MatI} : matB m = true ↔ matV m := by simp [matB]
/-- The first row that is not taken, or none. -/
theorem first_row (m : MatI) : ∃ k0, k0 ≤ m.length ∧ (∀ k, (h : k < m.length) → k < k0 → rowV m.length m[k]) ∧ (∀ h : k0 < m.length, ¬ rowV m.length m[k0]) := by
  by_cases hx : ∃ k, ∃ h : k < m.length, ¬ rowV m.length m[k]
  · obtain ⟨k, hk⟩ := hx
    obtain ⟨k0, ⟨h0, h1⟩, hmin⟩ := least (fun k => ∃ h : k < m.length, ¬ rowV m.length m[k]) k hk
    exact ⟨k0, by omega, fun k h hk => Classical.byContradiction fun hn => hmin k hk ⟨h, hn⟩, fun _ => h1⟩
  · exact ⟨m.length, Nat.le_refl _, fun k h _ => Classical.byContradiction fun hn => hx ⟨k, h, hn⟩, fun h => absurd h (by omega)⟩
/-- The first entry that is not taken. -/
theorem first_entry (n : Nat) (r : List Int) (h : ¬ rowV n r) (hl : r.length = n) : ∃ k0, ∃ h : k0 < r.length, ¬ (-1000 ≤ r[k0] ∧ r[k0] ≤ 1000) ∧ ∀ k, (hk : k < k0) → -1000 ≤ r[k] ∧ r[k] ≤ 1000 := by
  have hx : ∃ k, ∃ h : k < r.length, ¬ (-1000 ≤ r[k] ∧ r[k] ≤ 1000) := Classical.byContradiction fun hn => h ⟨hl, fun k hk => Classical.byContradiction fun hh => hn ⟨k, hk, hh⟩⟩
  obtain ⟨k, hk⟩ := hx
  obtain ⟨k0, ⟨h0, h1⟩, hmin⟩ := least (fun k => ∃ h : k < r.length, ¬ (-1000 ≤ r[k] ∧ r[k] ≤ 1000)) k hk
  exact ⟨k0, h0, h1, fun k hk => Classical.byContradiction fun hn => hmin k hk ⟨by omega, hn⟩⟩

set_option maxHeartbeats 3200000 in
theorem spec_matrix (v : Value) (m : MatI) (w : World) (hr : ReadsII w v m) :
    Calls Try.prog 45 #[v] w fun en w' => en = .returned (.bool (matB m)) ∧ w = w' := by
  obtain ⟨p, cap, rfl, hl, hm, hr1⟩ := hr
  by_cases h5 : m.length ≤ 5
  case neg =>
    have HF : Hid (matB m = false) := Lib.hid (matB_no (fun h => h5 h.1))
    clear hr1
    go_enter Try.func45, Try.ntmps45
    go_wp2
    go_ret
    exact ⟨ret_b HF.out.symm, rfl⟩
  rcases hr1 with hx | ⟨g, o, rfl, hc⟩
  · subst hx
    have HF : Hid (matB [] = true) := Lib.hid (matB_yes ⟨by simp, fun k h => absurd h (by simp)⟩)
    simp only [List.length_nil]
    go_enter Try.func45, Try.ntmps45
    go_wp2
    refine wp_loop_rounds 1 ?_
    rw [rounds_succ]
    go_wp2
    go_ret
    exact ⟨ret_b HF.out.symm, rfl⟩
  obtain ⟨k0, hk0, hyes, hno⟩ := first_row m
  have HC := Lib.hid hc; clear hc
  have HY := Lib.hid hyes; clear hyes
  have HN := Lib.hid hno; clear hno
  go_enter Try.func45, Try.ntmps45
  go_wp2
  go_loopw [12] (fun i wr => ∃ (k : Nat), k ≤ k0 ∧ i = .int .i64 k ∧ wr = w) (fun i _ => m.length - (intOf i).toNat)
  case atStart => exact ⟨0, Nat.zero_le _, rfl, rfl⟩
  case round =>
    obtain ⟨k, hk, rfl, rfl⟩ := hrel
    by_cases hlt : k < m.length
    · obtain ⟨r, c0, hrd⟩ := HC.out k hlt
      by_cases hkk : k < k0
      · obtain ⟨hrl, hent⟩ := HY.out k hlt hkk
        obtain ⟨pr, cr, rfl, hlr, hcr, hrr⟩ := hrd
        rw [hrl] at c0
        rcases hrr with hx | ⟨gr, ro, rfl, hcell⟩
        · rw [hx] at hrl; simp at hrl; omega
        have HE := Lib.hid hent; clear hent
        have HL := Lib.hid hcell; clear hcell
        have HR := Lib.hid hrl
        rw [hrl] at hlr
        clear hrl
        go_wp2
        go_loopw [23] (fun i wi => ∃ (j : Nat), j ≤ m.length ∧ i = .int .i64 j ∧ wi = wr) (fun i _ => m.length - (intOf i).toNat)
        case atStart => exact ⟨0, Nat.zero_le _, rfl, rfl⟩
        case round =>
          obtain ⟨j, hj, rfl, rfl⟩ := hrel
          by_cases hjl : j < m.length
          · have hjr : j < m[k].length := by rw [HR.out]; exact hjl
            have d0 := HL.out j hjr
            obtain ⟨e1, e2⟩ := HE.out j hjr
            go_wp2_with fail
            refine (in_yes m[k][j] (-1000) 1000 _ e1 e2).mono ?_
            rintro en w1 ⟨rfl, rfl⟩
            go_wp2
            go_roundw
            case rel => exact ⟨j + 1, by omega, by go_num, by first | trivial | rfl⟩
            case measure => simp [intOf]; omega
          · obtain rfl : j = m.length := by omega
            go_wp2
            go_roundw
            case rel => exact ⟨k + 1, by omega, by go_num, by first | trivial | rfl⟩
            case measure => simp [intOf]; omega
      · obtain rfl : k = k0 := by omega
        have hbad := HN.out hlt
        have HF : Hid (matB m = false) := Lib.hid (matB_no (fun h => hbad (h.2 k hlt)))
        by_cases hrl : m[k].length = m.length
        · obtain ⟨j0, hj0, hbe, hok⟩ := first_entry _ _ hbad hrl
          obtain ⟨pr, cr, rfl, hlr, hcr, hrr⟩ := hrd
          rcases hrr with hx | ⟨gr, ro, rfl, hcell⟩
          · rw [hx] at hrl; simp at hrl; omega
          have HE := Lib.hid hok; clear hok
          have HL := Lib.hid hcell; clear hcell
          have HB := Lib.hid hbe; clear hbe
          rw [hrl] at c0
          rw [hrl] at hlr
          clear hbad
          go_wp2
          go_loopw [23] (fun i wi => ∃ (j : Nat), j ≤ j0 ∧ i = .int .i64 j ∧ wi = wr) (fun i _ => m.length - (intOf i).toNat)
          case atStart => exact ⟨0, Nat.zero_le _, rfl, rfl⟩
          case round =>
            obtain ⟨j, hj, rfl, rfl⟩ := hrel
            have hjr : j < m[k].length := by omega
            have d0 := HL.out j hjr
            by_cases hjl : j < j0
            · obtain ⟨e1, e2⟩ := HE.out j hjl
              go_wp2_with fail
              refine (in_yes m[k][j] (-1000) 1000 _ e1 e2).mono ?_
              rintro en w1 ⟨rfl, rfl⟩
              go_wp2
              go_roundw
              case rel => exact ⟨j + 1, by omega, by go_num, by first | trivial | rfl⟩
              case measure => simp [intOf]; omega
            · obtain rfl : j = j0 := by omega
              go_wp2_with fail
              refine (in_no m[k][j] (-1000) 1000 _ HB.out).mono ?_
              rintro en w1 ⟨rfl, rfl⟩
              go_wp2
              go_ret
              exact ⟨ret_b HF.out.symm, by first | trivial | rfl⟩
        · obtain ⟨pr, cr, rfl, hlr, hcr⟩ := hrd.shape
          have hne : ((m[k].length : Int) == (m.length : Int)) = false := by simp; omega
          clear hrd hbad
          go_wp2
          go_ret
          exact ⟨ret_b HF.out.symm, by first | trivial | rfl⟩
    · obtain rfl : k = m.length := by omega
      have HF : Hid (matB m = true) := Lib.hid (matB_yes ⟨h5, fun j hj => HY.out j hj (by omega)⟩)
      go_wp2
      go_ret
      exact ⟨ret_b HF.out.symm, by first | trivial | rfl⟩
end Go.Proofs.Ytidgggdgblfanaa
