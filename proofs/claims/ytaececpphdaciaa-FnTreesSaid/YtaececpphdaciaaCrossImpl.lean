/-
  CrossSum and ForestSum in the program.
-/
import Derived.Test.YtaececpphdaciaaGForest
namespace Go.Proofs.Ytaececpphdaciaa
open Go.RowKit

theorem ReadsI.allocd {w : World} {v : Value} {q : List Int} (h : ReadsI w v q) (o : Obj) : ReadsI (w.alloc o) v q := h.later ((Below.refl _ w).alloc (Nat.le_refl _) o)
theorem ReadsI.drewd {w : World} {v : Value} {q : List Int} (h : ReadsI w v q) : ReadsI w.drew v q := h.later (below_draws (Below.refl _ w) 1)
theorem ReadsI.undrew {w : World} {v : Value} {q : List Int} (h : ReadsI w v q) : ReadsI w.drew v q := h.drewd

set_option maxRecDepth 8000 in
set_option maxHeartbeats 12800000 in
theorem impl_cross_yes (N : Nat) (e s a b c d : Int) (v : Value) (ws : List W3) (w : World) (hb : netB N e s ws = true) (h1 : 0 ≤ a ∧ a < b ∧ b < (N : Int)) (h2 : 0 ≤ c ∧ c < d ∧ d < (N : Int)) (hr : ReadsW w v ws) :
    Calls Try.prog 70 #[.agg #[.int .i64 N, .int .i64 e, .int .i64 s, v], .int .i64 a, .int .i64 b, .int .i64 c, .int .i64 d] w fun en w' => en = .returned (.tuple #[.int .i64 (detD (lapM N ws) (woL N [a, b]) (woL N [c, d])), .bool true]) ∧ Below w.heap.size w w' := by
  have B0 := (Below.refl w.heap.size w).alloc (Nat.le_refl _) (.cells #[.int .i64 N, .int .i64 e, .int .i64 s, v] 25)
  have hbox := boxN.new w N e s v 25
  have hr0 := hr.later B0
  have hok := impl_netOk N e s v ws _ hr0
  rw [hb] at hok
  obtain ⟨p, cap, rfl⟩ := hr.shape
  obtain ⟨hN1, hN5, hw⟩ := net_nat hb
  have hmr := minR_net hw hN5 (q := [a, b]) (r := [c, d]) (by rw [woL_two (by omega) (by omega) (by omega), woL_two (by omega) (by omega) (by omega)])
  have HM := Lib.hid hmr; clear hmr
  have HB := Lib.hid hb; clear hb
  have HW := Lib.hid hr; clear hr hr0 hw
  have H1 := Lib.hid h1; clear h1
  have H2 := Lib.hid h2; clear h2
  go_enter Try.func70, Try.ntmps70
  go_wp2_with fail
  refine hok.mono ?_
  rintro en w1 ⟨rfl, B1⟩
  have S1 := B1.size
  simp at S1
  have hb1 := hbox.later B1
  have C1 : Below w.heap.size w w1 := by (repeat (first | exact Below.refl _ _ | (refine Below.setCell ?_ (by (first | exact Nat.le_refl _ | omega | (simp <;> omega) | simp)) _) | (refine Below.alloc ?_ (by (first | exact Nat.le_refl _ | omega | (simp <;> omega) | simp)) _) | (refine below_draws ?_ _) | exact B1 | (refine Below.trans ?_ (Below.mono B1 (by (first | exact Nat.le_refl _ | omega | (simp <;> omega) | simp))))))
  obtain ⟨x0, x1, x2, x3⟩ := id hb1
  clear hok hbox B0 B1
  go_wp2_with fail
  refine (pair_yes N e s a b _ _ H1.out).mono ?_
  rintro en w2 ⟨rfl, B2⟩
  have hb2 := hb1.later B2
  have C2 : Below w.heap.size w w2 := C1.trans (B2.mono C1.size)
  clear hb1 x0 x1 x2 x3 B2 C1
  obtain ⟨x0, x1, x2, x3⟩ := id hb2
  go_wp2_with fail
  refine (pair_yes N e s c d _ _ H2.out).mono ?_
  rintro en w3 ⟨rfl, B3⟩
  have hb3 := hb2.later B3
  have C3 : Below w.heap.size w w3 := C2.trans (B3.mono C2.size)
  clear hb2 x0 x1 x2 x3 B3 C2 S1
  have S3 := C3.size
  have hS : boxN w3.drew w.heap.size N e s (.slice p ws.length cap) := hb3
  unfold boxN at hS
  clear hb3
  have HW3 := Lib.hid (HW.out.later C3)
  go_wp2
  go_region_held3 (fun w' => w'.cell? ⟨w.heap.size, 0, none⟩ = some (.int .i64 N) ∧ w'.cell? ⟨w.heap.size, 1, none⟩ = some (.int .i64 e) ∧ w'.cell? ⟨w.heap.size, 2, none⟩ = some (.int .i64 s) ∧ w'.cell? ⟨w.heap.size, 3, none⟩ = some (.slice p ws.length cap))
    (first | exact hS | exact four_alloc _ hS | exact four_alloc _ (four_alloc _ hS))
    (first
      | (go_at_call 20; refine (impl_lap N e s _ ws _ (HW3.out.later (by (repeat (first | exact Below.refl _ _ | (refine Below.setCell ?_ (by (first | exact Nat.le_refl _ | omega | (simp <;> omega) | simp)) _) | (refine Below.alloc ?_ (by (first | exact Nat.le_refl _ | omega | (simp <;> omega) | simp)) _) | (refine below_draws ?_ _)))))).mono ?_; rintro en w4 ⟨vL, rfl, oL, B4⟩; have hL := oL.reads; rw [lapR_yes HB.out, Int.toNat_natCast] at hL; replace hS := four_keep B4 (by first | exact hS | exact four_alloc _ hS | exact four_alloc _ (four_alloc _ hS)); have S4 := B4.size; try simp at S4)
      | (go_at_call 65; with_reducible refine Calls.mono (impl_without N hN5 (.slice (some ⟨_, 0, none⟩) 2 2) [a, b] _ ?_) ?_; (focus ((repeat (first | (with_reducible refine readsI_new2' _ _ _ _ _ ?_; first | rfl | (simp; done)) | (with_reducible refine ReadsI.allocd ?_ _) | (with_reducible refine ReadsI.later ?_ B4) | (with_reducible refine ReadsI.drewd ?_))); done)); rintro en w5 ⟨v1, rfl, r1, B5⟩; replace hS := four_keep B5 (by first | exact hS | exact four_alloc _ hS | exact four_alloc _ (four_alloc _ hS)); have S5 := B5.size; try simp at S5)
      | (go_at_call 65; with_reducible refine Calls.mono (impl_without N hN5 (.slice (some ⟨_, 0, none⟩) 2 2) [c, d] _ ?_) ?_; (focus ((repeat (first | (with_reducible refine readsI_new2' _ _ _ _ _ ?_; first | rfl | (simp; done)) | (with_reducible refine ReadsI.allocd ?_ _) | (with_reducible refine ReadsI.later ?_ B5) | (with_reducible refine ReadsI.later ?_ B4) | (with_reducible refine ReadsI.drewd ?_))); done)); rintro en w6 ⟨v2, rfl, r2, B6⟩; replace hS := four_keep B6 (by first | exact hS | exact four_alloc _ hS | exact four_alloc _ (four_alloc _ hS)); have S6 := B6.size; try simp at S6)
      | (go_at_call 19; refine (impl_minor _ _ _ (lapM N ws) (woL N [a, b]) (woL N [c, d]) _ (hL.later (by (repeat (first | exact Below.refl _ _ | (refine Below.setCell ?_ (by (first | exact Nat.le_refl _ | omega | (simp <;> omega) | simp)) _) | (refine Below.alloc ?_ (by (first | exact Nat.le_refl _ | omega | (simp <;> omega) | simp)) _) | (refine below_draws ?_ _) | exact B5 | (refine Below.trans ?_ (Below.mono B5 (by (first | exact Nat.le_refl _ | omega | (simp <;> omega) | simp)))) | exact B6 | (refine Below.trans ?_ (Below.mono B6 (by (first | exact Nat.le_refl _ | omega | (simp <;> omega) | simp)))))))) (r1.later (by (repeat (first | exact Below.refl _ _ | (refine Below.setCell ?_ (by (first | exact Nat.le_refl _ | omega | (simp <;> omega) | simp)) _) | (refine Below.alloc ?_ (by (first | exact Nat.le_refl _ | omega | (simp <;> omega) | simp)) _) | (refine below_draws ?_ _) | exact B6 | (refine Below.trans ?_ (Below.mono B6 (by (first | exact Nat.le_refl _ | omega | (simp <;> omega) | simp)))))))) r2).mono ?_; rw [HM.out]; rintro en w7 ⟨rfl, B7⟩; replace hS := four_keep B7 hS))
  all_goals
    go_wp2
    go_ret2
    exact ⟨rfl, by (repeat (first | exact Below.refl _ _ | (refine Below.setCell ?_ (by (first | exact Nat.le_refl _ | omega | (simp <;> omega) | simp)) _) | (refine Below.alloc ?_ (by (first | exact Nat.le_refl _ | omega | (simp <;> omega) | simp)) _) | (refine below_draws ?_ _) | exact C3 | (refine Below.trans ?_ (Below.mono C3 (by (first | exact Nat.le_refl _ | omega | (simp <;> omega) | simp)))) | exact B4 | (refine Below.trans ?_ (Below.mono B4 (by (first | exact Nat.le_refl _ | omega | (simp <;> omega) | simp)))) | exact B5 | (refine Below.trans ?_ (Below.mono B5 (by (first | exact Nat.le_refl _ | omega | (simp <;> omega) | simp)))) | exact B6 | (refine Below.trans ?_ (Below.mono B6 (by (first | exact Nat.le_refl _ | omega | (simp <;> omega) | simp)))) | exact B7 | (refine Below.trans ?_ (Below.mono B7 (by (first | exact Nat.le_refl _ | omega | (simp <;> omega) | simp))))))⟩
end Go.Proofs.Ytaececpphdaciaa
