/-
  The nodes that are not in a list: what is handed back is new memory.
-/
import Derived.Test.YtalonncjdohejaaNodes
namespace Go.Proofs.Ytalonncjdohejaa
open Go.RowKit

set_option maxHeartbeats 3200000 in
theorem impl_withoutO (N : Nat) (hN : N ≤ 5) (v : Value) (q : List Int) (w : World) (hr : ReadsI w v q) :
    Calls Try.prog 85 #[.int .i64 N, v] w fun en w' => ∃ v', en = .returned v' ∧ w'.ownsRow w.heap.size 3 1 v' (woL N q).length (cellsI (woL N q)) ∧ Below w.heap.size w w' := by
  obtain ⟨p, cap, rfl, _, _⟩ := hr.shape
  have HR := Lib.hid hr; clear hr
  go_enter Try.func85, Try.ntmps85
  go_wp2
  go_loopw [5, 8] (fun ov iv wr => ∃ (k : Nat), k ≤ N ∧ iv = .int .i64 k ∧ Hid (wr.ownsRow w.heap.size 3 1 ov (woL k q).length (cellsI (woL k q))) ∧ Hid (Below w.heap.size w wr)) (fun _ iv _ => N - (intOf iv).toNat)
  case atStart => exact ⟨0, Nat.zero_le _, rfl, Lib.hid (World.ownsRow_nil _ _ _ _), Lib.hid (by (repeat (first | exact Below.refl _ _ | (refine Below.setCell ?_ (by (first | exact Nat.le_refl _ | omega | (simp <;> omega) | simp)) _) | (refine Below.alloc ?_ (by (first | exact Nat.le_refl _ | omega | (simp <;> omega) | simp)) _) | (refine below_draws ?_ _))))⟩
  case round =>
    obtain ⟨k, hk, rfl, hown, hB⟩ := hrel
    by_cases hlt : k < N
    · have hcc := containsI_any _ q (k : Int) wr (HR.out.later hB.out)
      cases hd : decide ((k : Int) ∈ q)
      · rw [hd] at hcc
        have HS := Lib.hid (woL_out hd)
        have k1 : (woL k q).length + 1 ≤ 1099511627776 := by have := woL_le k q; omega
        have k2 := hB.out.size
        have k3 := hB.out
        have own1 := hown.out
        clear hd
        go_wp2_with fail
        refine hcc.mono ?_
        rintro en w1 ⟨rfl, rfl⟩
        clear hcc
        go_wp2_with (at_builtin; refine append_int2 own1 k1 k2 k3 (by rfl) (by rfl) (by rfl) (by rfl) (by rfl) ?_; intro v' w3 hown3 hsz3 hB3 hG3)
        go_wp2
        go_roundw
        case rel => exact ⟨k + 1, by omega, by go_num, Lib.hid (by rw [HS.out]; exact hown3), Lib.hid hB3⟩
        case measure => simp [intOf]; omega
      · rw [hd] at hcc
        have HS := Lib.hid (woL_in hd)
        clear hd
        go_wp2_with fail
        refine hcc.mono ?_
        rintro en w1 ⟨rfl, rfl⟩
        clear hcc
        go_wp2
        go_roundw
        case rel => exact ⟨k + 1, by omega, by go_num, Lib.hid (by rw [HS.out]; exact hown.out), hB⟩
        case measure => simp [intOf]; omega
    · obtain rfl : k = N := by omega
      go_wp2
      go_ret
      exact ⟨_, rfl, hown.out, hB.out⟩
end Go.Proofs.Ytalonncjdohejaa
