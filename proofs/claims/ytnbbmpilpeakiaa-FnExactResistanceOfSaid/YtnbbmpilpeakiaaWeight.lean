/-
  WeightAt, in the model and in the program: the sum of the weights of the wires at a node.
-/
import Derived.Test.YtnbbmpilpeakiaaWire
namespace Go.Proofs.Ytnbbmpilpeakiaa
open Go.RowKit

/-- What WeightAt answers. -/
def wAt (ws : List W3) (v : Int) : Int := ws.foldl (fun s e => if (e.1 == v) = true ∨ (e.2.1 == v) = true then wrap64 (s + e.2.2) else s) 0
theorem wAt_snoc (ws : List W3) (k : Nat) (h : k < ws.length) (v : Int) : wAt (ws.take (k + 1)) v = if (ws[k].1 == v) = true ∨ (ws[k].2.1 == v) = true then wrap64 (wAt (ws.take k) v + ws[k].2.2) else wAt (ws.take k) v := by
  unfold wAt; rw [List.take_succ_eq_append_getElem h, List.foldl_append]; rfl
theorem wAt_yes (ws : List W3) (k : Nat) (h : k < ws.length) (v : Int) (hy : (ws[k].1 == v) = true ∨ (ws[k].2.1 == v) = true) : wAt (ws.take (k + 1)) v = wrap64 (wAt (ws.take k) v + ws[k].2.2) := by
  rw [wAt_snoc ws k h, if_pos hy]
theorem wAt_no (ws : List W3) (k : Nat) (h : k < ws.length) (v : Int) (h1 : (ws[k].1 == v) = false) (h2 : (ws[k].2.1 == v) = false) : wAt (ws.take (k + 1)) v = wAt (ws.take k) v := by
  rw [wAt_snoc ws k h, if_neg (by simp [h1, h2])]

set_option maxHeartbeats 800000 in
theorem spec_wAt (n e s x : Int) (v : Value) (ws : List W3) (w : World) (hr : ReadsW w v ws) :
    Calls Try.prog 121 #[.agg #[.int .i64 n, .int .i64 e, .int .i64 s, v], .int .i64 x] w fun en w' => en = .returned (.int .i64 (wAt ws x)) ∧ Below w.heap.size w w' := by
  obtain ⟨hm, hr1⟩ := hr
  rcases hr1 with ⟨hx, p, cap, rfl⟩ | ⟨g, o, cap, rfl, hc⟩
  · subst hx
    have HF := Lib.hid (show wAt [] x = 0 from rfl)
    go_enter Try.func121, Try.ntmps121
    go_wp2
    refine wp_loop_rounds 1 ?_
    rw [rounds_succ]
    go_wp2
    go_ret
    exact ⟨ret_i HF.out.symm, by (repeat (first | exact Below.refl _ _ | (refine Below.setCell ?_ (by (first | exact Nat.le_refl _ | omega | (simp <;> omega) | simp)) _) | (refine Below.alloc ?_ (by (first | exact Nat.le_refl _ | omega | (simp <;> omega) | simp)) _) | (refine below_draws ?_ _)))⟩
  · have HC := Lib.hid hc; clear hc
    go_enter Try.func121, Try.ntmps121
    go_wp2
    go_loopw [5, 11] (fun q i wr => ∃ (k : Nat), k ≤ ws.length ∧ i = .int .i64 k ∧ q = .int .i64 (wAt (ws.take k) x) ∧ Below w.heap.size w wr) (fun _ i _ => ws.length - (intOf i).toNat)
    case atStart => exact ⟨0, Nat.zero_le _, rfl, rfl, by (repeat (first | exact Below.refl _ _ | (refine Below.setCell ?_ (by (first | exact Nat.le_refl _ | omega | (simp <;> omega) | simp)) _) | (refine Below.alloc ?_ (by (first | exact Nat.le_refl _ | omega | (simp <;> omega) | simp)) _) | (refine below_draws ?_ _)))⟩
    case round =>
      obtain ⟨k, hk, rfl, rfl, hB⟩ := hrel
      by_cases hlt : k < ws.length
      · obtain ⟨c0, c1, c2⟩ := HC.out k hlt
        have hg := World.block_lt_of_cell? w _ c0
        have hS := hB.size
        rw [← hB.cell (p := ⟨g, o + k * 3, none⟩) hg] at c0
        rw [← hB.cell (p := ⟨g, o + k * 3 + 1, none⟩) hg] at c1
        rw [← hB.cell (p := ⟨g, o + k * 3 + 2, none⟩) hg] at c2
        by_cases h1 : (ws[k].1 == x) = true
        · have HS := Lib.hid (wAt_yes ws k hlt x (.inl h1))
          go_wp2
          go_roundw
          case rel => exact ⟨k + 1, by omega, by go_num, by rw [HS.out], by (repeat (first | exact Below.refl _ _ | (refine Below.setCell ?_ (by (first | exact Nat.le_refl _ | omega | (simp <;> omega) | simp)) _) | (refine Below.alloc ?_ (by (first | exact Nat.le_refl _ | omega | (simp <;> omega) | simp)) _) | (refine below_draws ?_ _) | exact hB | (refine Below.trans ?_ (Below.mono hB (by (first | exact Nat.le_refl _ | omega | (simp <;> omega) | simp))))))⟩
          case measure => simp [intOf]; omega
        · have h1 : (ws[k].1 == x) = false := by simpa using h1
          by_cases h2 : (ws[k].2.1 == x) = true
          · have HS := Lib.hid (wAt_yes ws k hlt x (.inr h2))
            go_wp2
            go_roundw
            case rel => exact ⟨k + 1, by omega, by go_num, by rw [HS.out], by (repeat (first | exact Below.refl _ _ | (refine Below.setCell ?_ (by (first | exact Nat.le_refl _ | omega | (simp <;> omega) | simp)) _) | (refine Below.alloc ?_ (by (first | exact Nat.le_refl _ | omega | (simp <;> omega) | simp)) _) | (refine below_draws ?_ _) | exact hB | (refine Below.trans ?_ (Below.mono hB (by (first | exact Nat.le_refl _ | omega | (simp <;> omega) | simp))))))⟩
            case measure => simp [intOf]; omega
          · have h2 : (ws[k].2.1 == x) = false := by simpa using h2
            have HS := Lib.hid (wAt_no ws k hlt x h1 h2)
            go_wp2
            go_roundw
            case rel => exact ⟨k + 1, by omega, by go_num, by rw [HS.out], by (repeat (first | exact Below.refl _ _ | (refine Below.setCell ?_ (by (first | exact Nat.le_refl _ | omega | (simp <;> omega) | simp)) _) | (refine Below.alloc ?_ (by (first | exact Nat.le_refl _ | omega | (simp <;> omega) | simp)) _) | (refine below_draws ?_ _) | exact hB | (refine Below.trans ?_ (Below.mono hB (by (first | exact Nat.le_refl _ | omega | (simp <;> omega) | simp))))))⟩
            case measure => simp [intOf]; omega
      · obtain rfl : k = ws.length := by omega
        go_wp2
        go_ret
        exact ⟨ret_i (by rw [List.take_length]), hB⟩

set_option maxHeartbeats 800000 in
theorem impl_wAt (n e s x : Int) (v : Value) (ws : List W3) (w : World) (hr : ReadsW w v ws) :
    Calls Try.prog 107 #[.agg #[.int .i64 n, .int .i64 e, .int .i64 s, v], .int .i64 x] w fun en w' => en = .returned (.int .i64 (wAt ws x)) ∧ Below w.heap.size w w' := by
  obtain ⟨hm, hr1⟩ := hr
  rcases hr1 with ⟨hx, p, cap, rfl⟩ | ⟨g, o, cap, rfl, hc⟩
  · subst hx
    have HF := Lib.hid (show wAt [] x = 0 from rfl)
    go_enter Try.func107, Try.ntmps107
    go_wp2
    refine wp_loop_rounds 1 ?_
    rw [rounds_succ]
    go_wp2
    go_ret
    exact ⟨ret_i HF.out.symm, by (repeat (first | exact Below.refl _ _ | (refine Below.setCell ?_ (by (first | exact Nat.le_refl _ | omega | (simp <;> omega) | simp)) _) | (refine Below.alloc ?_ (by (first | exact Nat.le_refl _ | omega | (simp <;> omega) | simp)) _) | (refine below_draws ?_ _)))⟩
  · have HC := Lib.hid hc; clear hc
    go_enter Try.func107, Try.ntmps107
    go_wp2
    go_loopw [5, 11] (fun q i wr => ∃ (k : Nat), k ≤ ws.length ∧ i = .int .i64 k ∧ q = .int .i64 (wAt (ws.take k) x) ∧ Below w.heap.size w wr) (fun _ i _ => ws.length - (intOf i).toNat)
    case atStart => exact ⟨0, Nat.zero_le _, rfl, rfl, by (repeat (first | exact Below.refl _ _ | (refine Below.setCell ?_ (by (first | exact Nat.le_refl _ | omega | (simp <;> omega) | simp)) _) | (refine Below.alloc ?_ (by (first | exact Nat.le_refl _ | omega | (simp <;> omega) | simp)) _) | (refine below_draws ?_ _)))⟩
    case round =>
      obtain ⟨k, hk, rfl, rfl, hB⟩ := hrel
      by_cases hlt : k < ws.length
      · obtain ⟨c0, c1, c2⟩ := HC.out k hlt
        have hg := World.block_lt_of_cell? w _ c0
        have hS := hB.size
        rw [← hB.cell (p := ⟨g, o + k * 3, none⟩) hg] at c0
        rw [← hB.cell (p := ⟨g, o + k * 3 + 1, none⟩) hg] at c1
        rw [← hB.cell (p := ⟨g, o + k * 3 + 2, none⟩) hg] at c2
        by_cases h1 : (ws[k].1 == x) = true
        · have HS := Lib.hid (wAt_yes ws k hlt x (.inl h1))
          go_wp2
          go_roundw
          case rel => exact ⟨k + 1, by omega, by go_num, by rw [HS.out], by (repeat (first | exact Below.refl _ _ | (refine Below.setCell ?_ (by (first | exact Nat.le_refl _ | omega | (simp <;> omega) | simp)) _) | (refine Below.alloc ?_ (by (first | exact Nat.le_refl _ | omega | (simp <;> omega) | simp)) _) | (refine below_draws ?_ _) | exact hB | (refine Below.trans ?_ (Below.mono hB (by (first | exact Nat.le_refl _ | omega | (simp <;> omega) | simp))))))⟩
          case measure => simp [intOf]; omega
        · have h1 : (ws[k].1 == x) = false := by simpa using h1
          by_cases h2 : (ws[k].2.1 == x) = true
          · have HS := Lib.hid (wAt_yes ws k hlt x (.inr h2))
            go_wp2
            go_roundw
            case rel => exact ⟨k + 1, by omega, by go_num, by rw [HS.out], by (repeat (first | exact Below.refl _ _ | (refine Below.setCell ?_ (by (first | exact Nat.le_refl _ | omega | (simp <;> omega) | simp)) _) | (refine Below.alloc ?_ (by (first | exact Nat.le_refl _ | omega | (simp <;> omega) | simp)) _) | (refine below_draws ?_ _) | exact hB | (refine Below.trans ?_ (Below.mono hB (by (first | exact Nat.le_refl _ | omega | (simp <;> omega) | simp))))))⟩
            case measure => simp [intOf]; omega
          · have h2 : (ws[k].2.1 == x) = false := by simpa using h2
            have HS := Lib.hid (wAt_no ws k hlt x h1 h2)
            go_wp2
            go_roundw
            case rel => exact ⟨k + 1, by omega, by go_num, by rw [HS.out], by (repeat (first | exact Below.refl _ _ | (refine Below.setCell ?_ (by (first | exact Nat.le_refl _ | omega | (simp <;> omega) | simp)) _) | (refine Below.alloc ?_ (by (first | exact Nat.le_refl _ | omega | (simp <;> omega) | simp)) _) | (refine below_draws ?_ _) | exact hB | (refine Below.trans ?_ (Below.mono hB (by (first | exact Nat.le_refl _ | omega | (simp <;> omega) | simp))))))⟩
            case measure => simp [intOf]; omega
      · obtain rfl : k = ws.length := by omega
        go_wp2
        go_ret
        exact ⟨ret_i (by rw [List.take_length]), hB⟩
end Go.Proofs.Ytnbbmpilpeakiaa
