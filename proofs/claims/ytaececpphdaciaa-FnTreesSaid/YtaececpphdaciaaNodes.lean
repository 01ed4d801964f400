/-
  The nodes that are not in a list.
-/
import Derived.Test.YtaececpphdaciaaGLists
import Derived.Test.YtaececpphdaciaaGNet
import Derived.Deep.RegionHeld3
namespace Go.Proofs.Ytaececpphdaciaa
open Go.RowKit

def woL (N : Nat) (q : List Int) : List Int := (upTo N).filter fun x => !decide (x ∈ q)
theorem upTo_succ (k : Nat) : upTo (k + 1) = upTo k ++ [(k : Int)] := by simp [upTo, List.range_succ]
theorem woL_in {k : Nat} {q : List Int} (h : decide ((k : Int) ∈ q) = true) : woL (k + 1) q = woL k q := by
  unfold woL; rw [upTo_succ, List.filter_append]; simp at h; simp [h]
theorem woL_out {k : Nat} {q : List Int} (h : decide ((k : Int) ∈ q) = false) : woL (k + 1) q = woL k q ++ [(k : Int)] := by
  unfold woL; rw [upTo_succ, List.filter_append]; simp at h; simp [h]
theorem woL_le (k : Nat) (q : List Int) : (woL k q).length ≤ k := by
  unfold woL
  have := List.length_filter_le (fun x => !decide (x ∈ q)) (upTo k)
  rwa [upTo_length] at this
theorem woL_mem {N : Nat} {q : List Int} : ∀ x ∈ woL N q, 0 ≤ x ∧ x < (N : Int) := fun x hx => (upTo_mem N x).1 (List.mem_filter.1 hx).1
theorem filter_parts {α : Type} : ∀ (l : List α) (p : α → Bool), l.length = (l.filter p).length + (l.filter fun x => !p x).length
  | [], _ => rfl
  | x :: r, p => by
    have ih := filter_parts r p
    cases h : p x <;> simp [h] at * <;> omega
theorem woL_len {N : Nat} {q : List Int} (hn : q.Nodup) (hq : ∀ x ∈ q, 0 ≤ x ∧ x < (N : Int)) : (woL N q).length = N - q.length := by
  have h1 := filter_parts (upTo N) (fun x => decide (x ∈ q))
  have h2 : ((upTo N).filter (fun x => decide (x ∈ q))).length ≤ q.length := len_le _ _ ((upTo_nodup N).filter _) (fun x hx => by simpa using (List.mem_filter.1 hx).2)
  have h3 : q.length ≤ ((upTo N).filter (fun x => decide (x ∈ q))).length := len_le _ _ hn (fun x hx => List.mem_filter.2 ⟨(upTo_mem N x).2 (hq x hx), by simpa using hx⟩)
  rw [upTo_length] at h1
  unfold woL
  omega
theorem woL_same {N : Nat} {q r : List Int} (h : ∀ x, x ∈ q ↔ x ∈ r) : woL N q = woL N r := by
  unfold woL
  congr 1
  funext x
  rw [Bool.eq_iff_iff]
  simp [h x]

set_option maxHeartbeats 3200000 in
theorem impl_without (N : Nat) (hN : N ≤ 5) (v : Value) (q : List Int) (w : World) (hr : ReadsI w v q) :
    Calls Try.prog 65 #[.int .i64 N, v] w fun en w' => ∃ v', en = .returned v' ∧ ReadsI w' v' (woL N q) ∧ Below w.heap.size w w' := by
  obtain ⟨p, cap, rfl, _, _⟩ := hr.shape
  have HR := Lib.hid hr; clear hr
  go_enter Try.func65, Try.ntmps65
  go_wp2
  go_loopw [5, 8] (fun ov iv wr => ∃ (k : Nat), k ≤ N ∧ iv = .int .i64 k ∧ Hid (wr.ownsRow w.heap.size 3 1 ov (woL k q).length (cellsI (woL k q))) ∧ Hid (Below w.heap.size w wr)) (fun _ iv _ => N - (intOf iv).toNat)
  case atStart => exact ⟨0, Nat.zero_le _, rfl, Lib.hid (World.ownsRow_nil _ _ _ _), Lib.hid (by (repeat (first | exact Below.refl _ _ | (refine Below.setCell ?_ (by (first | exact Nat.le_refl _ | omega | (simp <;> omega) | simp)) _) | (refine Below.alloc ?_ (by (first | exact Nat.le_refl _ | omega | (simp <;> omega) | simp)) _) | (refine below_draws ?_ _))))⟩
  case round =>
    obtain ⟨k, hk, rfl, hown, hB⟩ := hrel
    by_cases hlt : k < N
    · have hcc := containsI_any _ q (k : Int) wr (HR.out.later hB.out)
      cases hd : decide ((k : Int) ∈ q)
      · rw [hd] at hcc
        have HS := Lib.hid (woL_out hd)
        have k1 : (woL k q).length + 1 ≤ 1099511627776 := by have := woL_le k q; omega
        have k2 := hB.out.size
        have k3 := hB.out
        have own1 := hown.out
        clear hd
        go_wp2_with fail
        refine hcc.mono ?_
        rintro en w1 ⟨rfl, rfl⟩
        clear hcc
        go_wp2_with (at_builtin; refine append_int2 own1 k1 k2 k3 (by rfl) (by rfl) (by rfl) (by rfl) (by rfl) ?_; intro v' w3 hown3 hsz3 hB3 hG3)
        go_wp2
        go_roundw
        case rel => exact ⟨k + 1, by omega, by go_num, Lib.hid (by rw [HS.out]; exact hown3), Lib.hid hB3⟩
        case measure => simp [intOf]; omega
      · rw [hd] at hcc
        have HS := Lib.hid (woL_in hd)
        clear hd
        go_wp2_with fail
        refine hcc.mono ?_
        rintro en w1 ⟨rfl, rfl⟩
        clear hcc
        go_wp2
        go_roundw
        case rel => exact ⟨k + 1, by omega, by go_num, Lib.hid (by rw [HS.out]; exact hown.out), hB⟩
        case measure => simp [intOf]; omega
    · obtain rfl : k = N := by omega
      go_wp2
      go_ret
      exact ⟨_, rfl, ReadsI.of_own hown.out, hB.out⟩
end Go.Proofs.Ytaececpphdaciaa
