/-
  WiresAt: the nodes joined with a node, in the model and in the program.
-/
import Derived.Test.YtpkddaapffamiaaMeshMath
import Derived.Test.YtpkddaapffamiaaGLap
import Derived.Test.YtpkddaapffamiaaHasNode
import Derived.Test.YtpkddaapffamiaaGRat
namespace Go.Proofs.Ytpkddaapffamiaa
open Go.RowKit

/-- The nodes joined with v, as the functions answer. -/
noncomputable def wnR (n e s v : Int) (ws : List W3) : List Int := if netB n e s ws = true ∧ 0 ≤ v ∧ v < n then nearK ws v n.toNat else []
theorem wnR_no {n e s v : Int} {ws : List W3} (h : ¬ (netB n e s ws = true ∧ 0 ≤ v ∧ v < n)) : wnR n e s v ws = [] := if_neg h
theorem wnR_yes {n e s v : Int} {ws : List W3} (hb : netB n e s ws = true) (h : 0 ≤ v ∧ v < n) : wnR n e s v ws = nearK ws v n.toNat := if_pos ⟨hb, h⟩
theorem wnR_len (n e s v : Int) (ws : List W3) : (wnR n e s v ws).length ≤ 5 := by
  by_cases h : netB n e s ws = true ∧ 0 ≤ v ∧ v < n
  · rw [wnR_yes h.1 h.2]
    have h5 := (netB_iff.1 h.1).1.2.1
    have := nearK_length ws v n.toNat
    omega
  · rw [wnR_no h]; simp

set_option maxHeartbeats 3200000 in
theorem spec_near (N : Nat) (hN : N ≤ 5) (e s x : Int) (v : Value) (ws : List W3) (w : World) (hr : ReadsW w v ws) :
    Calls Try.prog 91 #[.agg #[.int .i64 N, .int .i64 e, .int .i64 s, v], .int .i64 x] w fun en w' => ∃ v', en = .returned v' ∧ w'.ownsRow w.heap.size 3 1 v' (nearK ws x N).length (cellsI (nearK ws x N)) ∧ Below w.heap.size w w' := by
  have HB0 : Hid (Below w.heap.size w (w.alloc (.cells #[.int .i64 N, .int .i64 e, .int .i64 s, v] 25))) := Lib.hid (by (repeat (first | exact Below.refl _ _ | (refine Below.setCell ?_ (by (first | exact Nat.le_refl _ | omega | (simp <;> omega) | simp)) _) | (refine Below.alloc ?_ (by (first | exact Nat.le_refl _ | omega | (simp <;> omega) | simp)) _) | (refine below_draws ?_ _))))
  have HX := Lib.hid (boxN.new w N e s v 25)
  have HR := Lib.hid (hr.later HB0.out); clear hr
  go_enter Try.func91, Try.ntmps91
  go_wp2
  go_loopw [5, 6] (fun ov iv wr => ∃ (k : Nat), k ≤ N ∧ iv = .int .i64 k ∧ Hid (wr.ownsRow (w.heap.size + 1) 3 1 ov (nearK ws x k).length (cellsI (nearK ws x k))) ∧ Hid (Below (w.heap.size + 1) (w.alloc (.cells #[.int .i64 N, .int .i64 e, .int .i64 s, v] 25)) wr)) (fun _ iv _ => N - (intOf iv).toNat)
  case atStart => exact ⟨0, Nat.zero_le _, rfl, Lib.hid (by rw [nearK_zero]; have h := own_emptyI (w.alloc (.cells #[.int .i64 N, .int .i64 e, .int .i64 s, v] 25)) (w.heap.size + 1) (by simp); rw [World.size_alloc] at h; exact h), Lib.hid (by (repeat (first | exact Below.refl _ _ | (refine Below.setCell ?_ (by (first | exact Nat.le_refl _ | omega | (simp <;> omega) | simp)) _) | (refine Below.alloc ?_ (by (first | exact Nat.le_refl _ | omega | (simp <;> omega) | simp)) _) | (refine below_draws ?_ _))))⟩
  case round =>
    obtain ⟨k, hk, rfl, hown, hB⟩ := hrel
    obtain ⟨x0, x1, x2, x3⟩ := HX.out.below hB.out (Nat.lt_succ_self _)
    have hsz := hB.out.size
    simp at hsz
    by_cases hlt : k < N
    · have hcc := spec_wBtw N e s x k v ws wr (HR.out.later (Below.mono hB.out (by simp)))
      by_cases hd : 0 < wBtw ws x (k : Int)
      · have HS := Lib.hid (nearK_yes hd)
        have k1 : (nearK ws x k).length + 1 ≤ 1099511627776 := by have := nearK_length ws x k; omega
        have own1 := hown.out
        go_wp2_with fail
        refine hcc.mono ?_
        rintro en w1 ⟨rfl, B1⟩
        clear hcc x0 x1 x2 x3
        have own2 := owns_later own1 B1
        have hB1 : Below (w.heap.size + 1) (w.alloc (.cells #[.int .i64 N, .int .i64 e, .int .i64 s, v] 25)) w1 := hB.out.trans (B1.mono hsz)
        have hl1 : w.heap.size + 1 ≤ w1.heap.size := by have := B1.size; omega
        clear own1
        go_wp2_with (at_builtin; refine append_int2 own2 k1 hl1 hB1 (by rfl) (by rfl) (by rfl) (by rfl) (by rfl) ?_; intro v' w3 hown3 hsz3 hB3 hG3)
        go_wp2
        go_roundw
        case rel => exact ⟨k + 1, by omega, by go_num, Lib.hid (by rw [HS.out]; exact hown3), Lib.hid hB3⟩
        case measure => simp [intOf]; omega
      · have HS := Lib.hid (nearK_no hd)
        have own1 := hown.out
        go_wp2_with fail
        refine hcc.mono ?_
        rintro en w1 ⟨rfl, B1⟩
        clear hcc x0 x1 x2 x3
        have own2 := owns_later own1 B1
        have hB1 : Below (w.heap.size + 1) (w.alloc (.cells #[.int .i64 N, .int .i64 e, .int .i64 s, v] 25)) w1 := hB.out.trans (B1.mono hsz)
        go_wp2
        go_roundw
        case rel => exact ⟨k + 1, by omega, by go_num, Lib.hid (by rw [HS.out]; exact own2), Lib.hid hB1⟩
        case measure => simp [intOf]; omega
    · obtain rfl : k = N := by omega
      go_wp2
      go_ret
      exact ⟨_, rfl, owns_mono hown.out (by omega), HB0.out.trans (Below.mono hB.out (by omega))⟩
set_option maxHeartbeats 3200000 in
theorem impl_wiresAt (n e s x : Int) (v : Value) (ws : List W3) (w : World) (hr : ReadsW w v ws) :
    Calls Try.prog 93 #[.agg #[.int .i64 n, .int .i64 e, .int .i64 s, v], .int .i64 x] w fun en w' => ∃ v', en = .returned v' ∧ w'.ownsRow w.heap.size 3 1 v' (wnR n e s x ws).length (cellsI (wnR n e s x ws)) ∧ Below w.heap.size w w' := by
  have HB0 : Hid (Below w.heap.size w (w.alloc (.cells #[.int .i64 n, .int .i64 e, .int .i64 s, v] 25))) := Lib.hid (by (repeat (first | exact Below.refl _ _ | (refine Below.setCell ?_ (by (first | exact Nat.le_refl _ | omega | (simp <;> omega) | simp)) _) | (refine Below.alloc ?_ (by (first | exact Nat.le_refl _ | omega | (simp <;> omega) | simp)) _) | (refine below_draws ?_ _))))
  have HX := Lib.hid (boxN.new w n e s v 25)
  have hok := impl_netOk n e s v ws _ (hr.later HB0.out)
  have HR := Lib.hid (hr.later HB0.out); clear hr
  cases hb : netB n e s ws
  · rw [hb] at hok
    rw [wnR_no (by simp [hb])]
    have HOK := Lib.hid hok
    clear hb hok
    go_enter Try.func93, Try.ntmps93
    go_wp2_with fail
    refine HOK.out.mono ?_
    rintro en w1 ⟨rfl, B1⟩
    go_wp2
    go_ret
    exact ⟨_, rfl, World.ownsRow_nil _ _ _ _, HB0.out.trans (B1.mono HB0.out.size)⟩
  · have n1 := (netB_iff.1 hb).1.1
    have n5 := (netB_iff.1 hb).1.2.1
    rw [hb] at hok
    have HOK := Lib.hid hok
    have hS0 : w.heap.size < (w.alloc (.cells #[.int .i64 n, .int .i64 e, .int .i64 s, v] 25)).heap.size := by simp
    by_cases hx : 0 ≤ x ∧ x < n
    · have HW := Lib.hid (wnR_yes hb hx)
      have HIN := Lib.hid (fun W => hasNode_yes n e s x v W hx)
      obtain ⟨N, rfl⟩ : ∃ N : Nat, n = N := ⟨n.toNat, by omega⟩
      clear hb hok
      go_enter Try.func93, Try.ntmps93
      go_wp2_with fail
      refine HOK.out.mono ?_
      rintro en w1 ⟨rfl, B1⟩
      have HX1 := Lib.hid (HX.out.later B1)
      obtain ⟨x0, x1, x2, x3⟩ := HX1.out
      have S1 := B1.size
      go_wp2_with fail
      refine (HIN.out _).mono ?_
      rintro en w2 ⟨rfl, B2⟩
      clear x0 x1 x2 x3
      have HX2 := Lib.hid (HX1.out.later B2)
      obtain ⟨x0, x1, x2, x3⟩ := HX2.out
      have S2 := B2.size
      have HBA : Hid (Below (w.heap.size + 1) (w.alloc (.cells #[.int .i64 N, .int .i64 e, .int .i64 s, v] 25)) w2) := Lib.hid ((B1.mono (by simp)).trans (B2.mono (by simp at S1; omega)))
      go_wp2
      clear x0 x1 x2 x3
      go_loopw [5, 18] (fun ov iv wr => ∃ (k : Nat), k ≤ N ∧ iv = .int .i64 k ∧ Hid (wr.ownsRow (w.heap.size + 1) 3 1 ov (nearK ws x k).length (cellsI (nearK ws x k))) ∧ Hid (Below (w.heap.size + 1) (w.alloc (.cells #[.int .i64 N, .int .i64 e, .int .i64 s, v] 25)) wr)) (fun _ iv _ => N - (intOf iv).toNat)
      case atStart => exact ⟨0, Nat.zero_le _, rfl, Lib.hid (World.ownsRow_nil _ _ _ _), HBA⟩
      case round =>
        obtain ⟨k, hk, rfl, hown, hB⟩ := hrel
        obtain ⟨x0, x1, x2, x3⟩ := HX.out.below hB.out (Nat.lt_succ_self _)
        have hsz := hB.out.size
        simp at hsz
        by_cases hlt : k < N
        · have hcc := impl_wBtw N e s k x v ws wr (HR.out.later (Below.mono hB.out (by simp)))
          by_cases hd : 0 < wBtw ws x (k : Int)
          · have HS := Lib.hid (nearK_yes hd)
            have hd2 : 0 < wBtw ws (k : Int) x := by rw [wBtw_comm]; exact hd
            have k1 : (nearK ws x k).length + 1 ≤ 1099511627776 := by have := nearK_length ws x k; omega
            have own1 := hown.out
            clear hd
            go_wp2_with fail
            refine hcc.mono ?_
            rintro en w3 ⟨rfl, B3⟩
            clear hcc x0 x1 x2 x3
            have own2 := owns_later own1 B3
            have hB1 : Below (w.heap.size + 1) (w.alloc (.cells #[.int .i64 N, .int .i64 e, .int .i64 s, v] 25)) w3 := hB.out.trans (B3.mono hsz)
            have hl1 : w.heap.size + 1 ≤ w3.heap.size := by have := B3.size; omega
            clear own1
            go_wp2_with (at_builtin; refine append_int2 own2 k1 hl1 hB1 (by rfl) (by rfl) (by rfl) (by rfl) (by rfl) ?_; intro v' w4 hown3 hsz3 hB3 hG3)
            go_wp2
            go_roundw
            case rel => exact ⟨k + 1, by omega, by go_num, Lib.hid (by rw [HS.out]; exact hown3), Lib.hid hB3⟩
            case measure => simp [intOf]; omega
          · have HS := Lib.hid (nearK_no hd)
            have hd2 : ¬ 0 < wBtw ws (k : Int) x := by rw [wBtw_comm]; exact hd
            have own1 := hown.out
            clear hd
            go_wp2_with fail
            refine hcc.mono ?_
            rintro en w3 ⟨rfl, B3⟩
            clear hcc x0 x1 x2 x3
            have own2 := owns_later own1 B3
            have hB1 : Below (w.heap.size + 1) (w.alloc (.cells #[.int .i64 N, .int .i64 e, .int .i64 s, v] 25)) w3 := hB.out.trans (B3.mono hsz)
            go_wp2
            go_roundw
            case rel => exact ⟨k + 1, by omega, by go_num, Lib.hid (by rw [HS.out]; exact own2), Lib.hid hB1⟩
            case measure => simp [intOf]; omega
        · obtain rfl : k = N := by omega
          go_wp2
          go_ret
          exact ⟨_, rfl, by rw [HW.out]; exact owns_mono hown.out (by omega), HB0.out.trans (Below.mono hB.out (by omega))⟩
    · rw [wnR_no (fun h => hx h.2)]
      have HIN := Lib.hid (fun W => hasNode_no n e s x v W hx)
      clear hb hok
      go_enter Try.func93, Try.ntmps93
      go_wp2_with fail
      refine HOK.out.mono ?_
      rintro en w1 ⟨rfl, B1⟩
      obtain ⟨x0, x1, x2, x3⟩ := HX.out.later B1
      go_wp2_with fail
      refine (HIN.out _).mono ?_
      rintro en w2 ⟨rfl, B2⟩
      go_wp2
      go_ret
      exact ⟨_, rfl, World.ownsRow_nil _ _ _ _, (HB0.out.trans (B1.mono HB0.out.size)).trans (B2.mono (Nat.le_trans HB0.out.size B1.size))⟩
end Go.Proofs.Ytpkddaapffamiaa
