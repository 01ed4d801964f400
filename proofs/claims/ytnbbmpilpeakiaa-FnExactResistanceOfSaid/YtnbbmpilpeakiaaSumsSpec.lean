/-
  TreeSum, ForestSum and CrossSum in the model.
-/
import Derived.Test.YtnbbmpilpeakiaaWithout
namespace Go.Proofs.Ytnbbmpilpeakiaa
open Go.RowKit

theorem net_small {n e s : Int} {ws : List W3} (h : netB n e s ws = true) : ∃ N : Nat, n = N ∧ 1 ≤ N ∧ N ≤ 5 ∧ WiresV n ws := by
  obtain ⟨⟨n1, n5, -⟩, hw, -⟩ := netB_iff.1 h
  exact ⟨n.toNat, by omega, by omega, by omega, hw⟩
theorem net_nat {N : Nat} {e s : Int} {ws : List W3} (h : netB N e s ws = true) : 1 ≤ N ∧ N ≤ 5 ∧ WiresV N ws := by
  obtain ⟨⟨n1, n5, -⟩, hw, -⟩ := netB_iff.1 h
  exact ⟨by omega, by omega, hw⟩
set_option maxHeartbeats 6400000 in
theorem spec_l04Minor (N : Nat) (e s : Int) (v vr vc : Value) (ws : List W3) (qr qc : List Int) (w : World) (hb : netB N e s ws = true) (hr : ReadsW w v ws) (hR : ReadsI w vr qr) (hC : ReadsI w vc qc) (hl : (woL N qr).length = (woL N qc).length) :
    Calls Try.prog 96 #[.agg #[.int .i64 N, .int .i64 e, .int .i64 s, v], vr, vc] w fun en w' => en = .returned (.int .i64 (detD (lapM N ws) (woL N qr) (woL N qc))) ∧ Below w.heap.size w w' := by
  obtain ⟨_, h5, hw⟩ := net_nat hb
  obtain ⟨p, cap, rfl⟩ := hr.shape
  obtain ⟨pr, cr, rfl, _, _⟩ := hR.shape
  obtain ⟨pc, cc, rfl, _, _⟩ := hC.shape
  have HB : Below w.heap.size w ((w.alloc (.cells #[.int .i64 N, .int .i64 e, .int .i64 s, .slice p ws.length cap] 33)).drew) := by (repeat (first | exact Below.refl _ _ | (refine Below.setCell ?_ (by (first | exact Nat.le_refl _ | omega | (simp <;> omega) | simp)) _) | (refine Below.alloc ?_ (by (first | exact Nat.le_refl _ | omega | (simp <;> omega) | simp)) _) | (refine below_draws ?_ _)))
  have hS : boxN ((w.alloc (.cells #[.int .i64 N, .int .i64 e, .int .i64 s, .slice p ws.length cap] 33)).drew) w.heap.size N e s (.slice p ws.length cap) := boxN.new w N e s (.slice p ws.length cap) 33
  unfold boxN at hS
  have HR := Lib.hid hR; clear hR
  have HC := Lib.hid hC; clear hC
  have HW := Lib.hid hr; clear hr
  have HM := Lib.hid (lapM_ok hw h5); clear hw
  have HBB := Lib.hid hb; clear hb
  have HL := Lib.hid hl; clear hl
  go_enter Try.func96, Try.ntmps96
  go_wp2
  go_region_held3 (fun w' => w'.cell? ⟨w.heap.size, 0, none⟩ = some (.int .i64 N) ∧ w'.cell? ⟨w.heap.size, 1, none⟩ = some (.int .i64 e) ∧ w'.cell? ⟨w.heap.size, 2, none⟩ = some (.int .i64 s) ∧ w'.cell? ⟨w.heap.size, 3, none⟩ = some (.slice p ws.length cap))
    (first | exact hS)
    (first
      | (go_at_call 113; refine (spec_lap N e s _ ws _ (HW.out.later HB)).mono ?_; rintro en w2 ⟨vL, rfl, oL, B2⟩; have hL := oL.reads; rw [lapR_yes HBB.out, Int.toNat_natCast] at hL; replace hS := four_keep B2 hS; have C2 := HB.trans (B2.mono HB.size))
      | (go_at_call 114; with_reducible refine (spec_without N h5 (.slice pr qr.length cr) qr _ (HR.out.later C2)).mono ?_; rintro en w3 ⟨v1, rfl, r1, B3⟩; have hL3 := hL.later B3; replace hS := four_keep B3 hS; have C3 := C2.trans (B3.mono C2.size))
      | (go_at_call 114; with_reducible refine (spec_without N h5 (.slice pc qc.length cc) qc _ (HC.out.later C3)).mono ?_; rintro en w4 ⟨v2, rfl, r2, B4⟩; have hL4 := hL3.later B4; have r14 := r1.later B4; replace hS := four_keep B4 hS; have C4 := C3.trans (B4.mono C3.size))
      | (go_at_call 112; refine (spec_det _ (lapM N ws) HM.out (woL N qr) (woL N qc) _ _ _ hL4 r14 r2 HL.out.symm (Nat.le_trans (woL_le N qr) h5) (by rw [lapM_length]; exact woL_mem) (by rw [lapM_length]; exact woL_mem)).mono ?_; rintro en w5 ⟨rfl, B5⟩; replace hS := four_keep B5 hS; have C5 := C4.trans (B5.mono C4.size)))
  all_goals
    go_wp2
    go_ret
    exact ⟨rfl, C5⟩
end Go.Proofs.Ytnbbmpilpeakiaa
