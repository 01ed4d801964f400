/-
  How often a ring goes down, in the program.
-/
import Derived.Test.YtalonncjdohejaaRimMath
import Derived.Test.YtalonncjdohejaaWtMath
import Derived.BigQuiet
import Derived.WalkSmall
namespace Go.Proofs.Ytalonncjdohejaa
open Go.RowKit

def lastI (R : List Int) (i : Nat) : Int := R.getD (if i = 0 then R.length - 1 else i - 1) 0
theorem lastI_next {R : List Int} {i : Nat} (h : i < R.length) : lastI R (i + 1) = R[i] := by simp [lastI, h]
theorem lastI_at {R : List Int} {i j : Nat} (hj : j < R.length) (hij : j = if i = 0 then R.length - 1 else i - 1) : lastI R i = R[j] := by
  unfold lastI; rw [← hij]; simp [hj]
set_option maxRecDepth 8000 in
set_option maxHeartbeats 6400000 in
theorem impl_rounds (v : Value) (R : List Int) (w : World) (h0 : 0 < R.length) (hle : R.length ≤ 2097152) (hR : ReadsI w v R) :
    Calls Try.prog 88 #[v] w fun en w' => en = .returned (.int .i64 ((dnN R (R.length - 1) + wrN R : Nat) : Int)) ∧ Below w.heap.size w w' := by
  obtain ⟨g, o, c, rfl, hc1, hc2, hg, hcell⟩ := hR.pos h0
  have HE := Lib.hid (rD_end h0)
  obtain ⟨M, hM⟩ : ∃ M, R.length = M + 1 := ⟨R.length - 1, by omega⟩
  have hMl : M < R.length := by omega
  have e0 := hcell M hMl
  have hL0 : lastI R 0 = R[M] := by rw [lastI_at hMl (by rw [if_pos rfl]; omega)]
  have HC := Lib.hid hcell
  have HM := Lib.hid hM
  have HB : ∀ z, Hid (Below w.heap.size w (w.drewN z)) := fun z => Lib.hid (below_draws (Below.refl _ _) z)
  have HL0 := Lib.hid hL0
  rw [hM] at hc1 hle ⊢
  generalize R[M] = Y0 at *
  have hml : (0 : Int) ≤ (M : Int) := by omega
  clear hcell hR h0 hM hL0
  go_enter Try.func88, Try.ntmps88
  go_wp2
  go_quiet (fail)
  go_wp2
  have HBq := HB nq
  clear e0 HB
  go_loopw [3, 4, 15] (fun rv lv iv wr => ∃ i : Nat, i ≤ M + 1 ∧ iv = .int .i64 i ∧ rv = .int .i64 (rD R i : Nat) ∧ lv = .int .i64 (lastI R i) ∧ Hid (Below w.heap.size w wr)) (fun _ _ iv _ => M + 1 - (intOf iv).toNat)
  case atStart => exact ⟨0, Nat.zero_le _, rfl, rfl, by rw [HL0.out], HBq⟩
  case round =>
    obtain ⟨i, hi, rfl, rfl, rfl, hB⟩ := hrel
    by_cases hlt : i < M + 1
    · have hiR : i < R.length := by rw [HM.out]; exact hlt
      have c0 := HC.out i hiR
      rw [← hB.out.cell (p := ⟨g, o + i, none⟩) hg] at c0
      obtain ⟨j, hj⟩ : ∃ j, j = if i = 0 then R.length - 1 else i - 1 := ⟨_, rfl⟩
      have hjR : j < R.length := by have := HM.out; split at hj <;> omega
      have hds := rD_succ hiR hjR hj
      have hla := lastI_at hjR hj
      have HLN := Lib.hid (lastI_next hiR)
      have hrl := rD_le R i
      rw [← hla] at hds
      clear hj hjR hla
      generalize R[i] = X at *
      generalize lastI R i = Y at *
      generalize rD R i = DN at *
      by_cases hd : X < Y
      · rw [if_pos hd] at hds
        have HDS := Lib.hid hds
        clear hds
        go_wp2
        go_roundw
        case rel => exact ⟨i + 1, by omega, by go_num, by rw [HDS.out]; first | rfl | go_num, by rw [HLN.out], hB⟩
        case measure => simp [intOf]; omega
      · rw [if_neg hd] at hds
        have HDS := Lib.hid hds
        have hdb : decide (X < Y) = false := by simp; omega
        clear hds
        go_wp2
        go_roundw
        case rel => exact ⟨i + 1, by omega, by go_num, by rw [HDS.out]; first | rfl | go_num, by rw [HLN.out], hB⟩
        case measure => simp [intOf]; omega
    · obtain rfl : i = M + 1 := by omega
      have hend := HE.out
      rw [HM.out] at hend
      have HRT : Hid (Ending.returned (.int .i64 ((rD R (M + 1) : Nat) : Int)) = .returned (.int .i64 ((dnN R (M + 1 - 1) + wrN R : Nat) : Int))) := Lib.hid (by rw [hend])
      generalize rD R (M + 1) = DN at *
      generalize lastI R (M + 1) = LL at *
      clear hend
      go_wp2
      go_ret
      exact ⟨HRT.out, hB.out⟩
end Go.Proofs.Ytalonncjdohejaa
