/-
  The determinant in the program.
-/
import Derived.Test.YtnbbmpilpeakiaaDetImpl
import Derived.Laws.EntriesVeiled
namespace Go.Proofs.Ytnbbmpilpeakiaa
open Go.RowKit

set_option maxHeartbeats 400000 in
theorem impl_det (v : Value) (m : MatI) (hm : matV m) (rows cols : List Int) (vr vc : Value) (w : World) (hM : ReadsII w v m) (hR : ReadsI w vr rows) (hC : ReadsI w vc cols) (hl : cols.length = rows.length) (h5 : rows.length ≤ 5)
    (hrr : ∀ x ∈ rows, 0 ≤ x ∧ x < m.length) (hcc : ∀ x ∈ cols, 0 ≤ x ∧ x < m.length) :
    Calls Try.prog 106 #[v, vr, vc] w fun e w' => e = .returned (.int .i64 (detD m rows cols)) ∧ Below w.heap.size w w' := by
  obtain ⟨pm, cm, rfl, _, _⟩ := hM.shape
  obtain ⟨pr, cr, rfl, _, _⟩ := hR.shape
  obtain ⟨pc, cc, rfl, _, _⟩ := hC.shape
  have hd := fun (bm bf : Nat) (w' : World) (hb : Below w.heap.size w w') (hk : capt w' bm bf (.slice pm m.length cm)) => det_clo bm bf _ m hm rows cols _ _ w' (hM.later hb) hk (hR.later hb) (hC.later hb) hl h5 hrr hcc
  clear hM hR hC hrr hcc hl
  have HD := Lib.hid hd; clear hd
  go_enter Try.func106, Try.ntmps106
  go_wp2_with fail
  with_reducible refine (HD.out w.heap.size (w.heap.size + 1) _ (by (repeat (first | exact Below.refl _ _ | (refine Below.setCell ?_ (by (first | exact Nat.le_refl _ | omega | (simp <;> omega) | simp)) _) | (refine Below.alloc ?_ (by (first | exact Nat.le_refl _ | omega | (simp <;> omega) | simp)) _) | (refine below_draws ?_ _)))) ?_).mono ?_
  · refine ⟨?_, ?_⟩ <;> simp [go_sem]
  · rintro en w1 ⟨rfl, B1⟩
    go_wp2
    go_ret
    exact ⟨rfl, by (repeat (first | exact Below.refl _ _ | (refine Below.setCell ?_ (by (first | exact Nat.le_refl _ | omega | (simp <;> omega) | simp)) _) | (refine Below.alloc ?_ (by (first | exact Nat.le_refl _ | omega | (simp <;> omega) | simp)) _) | (refine below_draws ?_ _) | exact B1 | (refine Below.trans ?_ (Below.mono B1 (by (first | exact Nat.le_refl _ | omega | (simp <;> omega) | simp))))))⟩

end Go.Proofs.Ytnbbmpilpeakiaa
