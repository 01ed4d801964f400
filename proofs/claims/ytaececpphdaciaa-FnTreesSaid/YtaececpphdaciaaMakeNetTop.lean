/-
  spec.MakeNet: some valid network of 2 to 5 nodes with weights from 1 to 6 and a scale from 1 to 3.
-/
import Derived.Test.YtaececpphdaciaaGMk
namespace Go.Proofs.Ytaececpphdaciaa
open Go.RowKit

set_option maxHeartbeats 3200000 in
theorem makeNet_any (v : Value) (n : Nat) (w : World) (hv : BytesAt w v n) (hn : n ≤ 1048576) :
    Calls Try.prog 13 #[v] w fun en w' => ∃ (N : Nat) (e s : Int) (p : Option Addr) (cap : Nat) (ws : List W3), en = .returned (.agg #[.int .i64 N, .int .i64 e, .int .i64 s, .slice p ws.length cap]) ∧ (2 ≤ N ∧ (N : Int) ≤ 5 ∧ 2 ≤ e ∧ e ≤ N ∧ 1 ≤ s ∧ s ≤ 3) ∧ GoodW N 6 ws ∧ ws.length ≤ 8 ∧ w'.ownsRow w.heap.size 29 3 (.slice p ws.length cap) ws.length (cellsW ws) ∧ Below w.heap.size w w' := by
  have hv1 := hv.later (show Below w.heap.size w (w.alloc (.cells #[.int .i64 0, .int .i64 0, .int .i64 0, .slice none 0 0] 25)) by (repeat (first | exact Below.refl _ _ | (refine Below.setCell ?_ (by (first | exact Nat.le_refl _ | omega | (simp <;> omega) | simp)) _) | (refine Below.alloc ?_ (by (first | exact Nat.le_refl _ | omega | (simp <;> omega) | simp)) _) | (refine below_draws ?_ _)))) (code_low hv)
  have hnew := l01New_any v n _ hv1 hn
  simp only [World.size_alloc] at hnew
  have hr1 := res_new w 25
  have A0 : Below w.heap.size w (w.alloc (.cells #[.int .i64 0, .int .i64 0, .int .i64 0, .slice none 0 0] 25)) := by (repeat (first | exact Below.refl _ _ | (refine Below.setCell ?_ (by (first | exact Nat.le_refl _ | omega | (simp <;> omega) | simp)) _) | (refine Below.alloc ?_ (by (first | exact Nat.le_refl _ | omega | (simp <;> omega) | simp)) _) | (refine below_draws ?_ _)))
  clear hv hv1
  go_enter Try.func13, Try.ntmps13
  go_wp2_with fail
  refine hnew.mono ?_
  rintro en w2 ⟨⟨b, rfl, hbe, hc⟩, B2, S2⟩
  subst hbe
  clear hnew
  have hr2 : ∃ z0 z1 z2 z3, w2.cell? ⟨w.heap.size, 0, none⟩ = some z0 ∧ w2.cell? ⟨w.heap.size, 1, none⟩ = some z1 ∧ w2.cell? ⟨w.heap.size, 2, none⟩ = some z2 ∧ w2.cell? ⟨w.heap.size, 3, none⟩ = some z3 ∧ w2.frozen? ⟨w.heap.size, 0, none⟩ = false ∧ w2.frozen? ⟨w.heap.size, 1, none⟩ = false ∧ w2.frozen? ⟨w.heap.size, 2, none⟩ = false ∧ w2.frozen? ⟨w.heap.size, 3, none⟩ = false := by
    obtain ⟨z0, z1, z2, z3, r0, r1, r2, r3, r4, r5, r6, r7⟩ := hr1
    have hlt : w.heap.size < w.heap.size + 1 := by omega
    exact ⟨z0, z1, z2, z3, (B2.cell (p := ⟨w.heap.size, 0, none⟩) hlt).trans r0, (B2.cell (p := ⟨w.heap.size, 1, none⟩) hlt).trans r1, (B2.cell (p := ⟨w.heap.size, 2, none⟩) hlt).trans r2, (B2.cell (p := ⟨w.heap.size, 3, none⟩) hlt).trans r3, (B2.frozen (p := ⟨w.heap.size, 0, none⟩) hlt).trans r4, (B2.frozen (p := ⟨w.heap.size, 1, none⟩) hlt).trans r5, (B2.frozen (p := ⟨w.heap.size, 2, none⟩) hlt).trans r6, (B2.frozen (p := ⟨w.heap.size, 3, none⟩) hlt).trans r7⟩
  have A2 := A0.trans (B2.mono (by omega))
  clear hr1 A0 B2
  go_wp2_with fail
  refine (l03Draw_any (w.heap.size + 1) (w.heap.size + 1) 5 (by omega) (by omega) _ hc).mono ?_
  rintro en w3 ⟨N, e, s, p, cap, ws, rfl, hb, hgood, hlen, ho, _, hG⟩
  have hr3 : ∃ z0 z1 z2 z3, w3.cell? ⟨w.heap.size, 0, none⟩ = some z0 ∧ w3.cell? ⟨w.heap.size, 1, none⟩ = some z1 ∧ w3.cell? ⟨w.heap.size, 2, none⟩ = some z2 ∧ w3.cell? ⟨w.heap.size, 3, none⟩ = some z3 ∧ w3.frozen? ⟨w.heap.size, 0, none⟩ = false ∧ w3.frozen? ⟨w.heap.size, 1, none⟩ = false ∧ w3.frozen? ⟨w.heap.size, 2, none⟩ = false ∧ w3.frozen? ⟨w.heap.size, 3, none⟩ = false := by
    obtain ⟨z0, z1, z2, z3, r0, r1, r2, r3, r4, r5, r6, r7⟩ := hr2
    have n2 : some w.heap.size ≠ some (w.heap.size + 1) := by simp
    have hX : w.heap.size < w2.heap.size := by omega
    exact ⟨z0, z1, z2, z3, hG.cell r0 n2, hG.cell r1 n2, hG.cell r2 n2, hG.cell r3 n2, (hG.frozen_far ⟨_, 0, none⟩ hX n2).trans r4, (hG.frozen_far ⟨_, 1, none⟩ hX n2).trans r5, (hG.frozen_far ⟨_, 2, none⟩ hX n2).trans r6, (hG.frozen_far ⟨_, 3, none⟩ hX n2).trans r7⟩
  have A3 := A2.trans (below_of_grown hG (show w.heap.size ≤ w.heap.size + 1 by omega) (by omega))
  have HG := Lib.hid hgood
  have HO := Lib.hid ho
  clear hr2 hG A2 hc hgood ho
  obtain ⟨z0, z1, z2, z3, r0, r1, r2, r3, r4, r5, r6, r7⟩ := hr3
  go_wp2
  have os : ∀ (Y : World) (j : Nat) (u : Value), Y.ownsRow w2.heap.size 29 3 (.slice p ws.length cap) ws.length (cellsW ws) → (Y.setCell ⟨w.heap.size, j, none⟩ u).ownsRow w2.heap.size 29 3 (.slice p ws.length cap) ws.length (cellsW ws) := fun Y j u ho => ownsRow_setCell_below ho (show w.heap.size < w2.heap.size by omega) _
  have bs : ∀ (Y : World) (j : Nat) (u : Value), Below w.heap.size w Y → Below w.heap.size w (Y.setCell ⟨w.heap.size, j, none⟩ u) := fun Y j u hB => hB.setCell (Nat.le_refl _) _
  exact bodyPost_ret (v := (.agg #[.int .i64 N, .int .i64 e, .int .i64 s, .slice p ws.length cap])) (by simp (maxDischargeDepth := 8) [results, Try.results13, go_sem, *]) rfl ⟨N, e, s, p, cap, ws, rfl, hb, HG.out, hlen, owns_mono (os _ _ _ (os _ _ _ (os _ _ _ (os _ _ _ HO.out)))) (by omega), bs _ _ _ (bs _ _ _ (bs _ _ _ (bs _ _ _ A3)))⟩
end Go.Proofs.Ytaececpphdaciaa
