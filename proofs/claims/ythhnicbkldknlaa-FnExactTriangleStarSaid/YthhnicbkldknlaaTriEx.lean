/-
  TriangleStar in the program.
-/
import Derived.Test.YthhnicbkldknlaaTriImpl
import Derived.Test.YthhnicbkldknlaaRescaled
import Derived.Test.YthhnicbkldknlaaPutWireImpl
import Derived.Handy
namespace Go.Proofs.Ythhnicbkldknlaa
open Go.RowKit Go.Maps

theorem k8_grown {B G m : Nat} {w wa wb : World} {a0 a1 a2 a3 a4 a5 a6 a7 : Addr} {v0 v1 v2 v3 v4 v5 v6 v7 : Value} (hg : wa.grownBy wb (some m)) (hm : G ≤ m) (hl : a0.block < G ∧ a1.block < G ∧ a2.block < G ∧ a3.block < G ∧ a4.block < G ∧ a5.block < G ∧ a6.block < G ∧ a7.block < G) (h : wa.cell? a0 = some v0 ∧ wa.cell? a1 = some v1 ∧ wa.cell? a2 = some v2 ∧ wa.cell? a3 = some v3 ∧ wa.cell? a4 = some v4 ∧ wa.cell? a5 = some v5 ∧ wa.cell? a6 = some v6 ∧ wa.cell? a7 = some v7 ∧ G ≤ wa.heap.size ∧ B ≤ G ∧ Below B w wa) : wb.cell? a0 = some v0 ∧ wb.cell? a1 = some v1 ∧ wb.cell? a2 = some v2 ∧ wb.cell? a3 = some v3 ∧ wb.cell? a4 = some v4 ∧ wb.cell? a5 = some v5 ∧ wb.cell? a6 = some v6 ∧ wb.cell? a7 = some v7 ∧ G ≤ wb.heap.size ∧ B ≤ G ∧ Below B w wb := by
  obtain ⟨h0, h1, h2, h3, h4, h5, h6, h7, h8, h9, h10⟩ := h
  obtain ⟨l0, l1, l2, l3, l4, l5, l6, l7⟩ := hl
  exact ⟨hg.cell h0 (by simp; omega), hg.cell h1 (by simp; omega), hg.cell h2 (by simp; omega), hg.cell h3 (by simp; omega), hg.cell h4 (by simp; omega), hg.cell h5 (by simp; omega), hg.cell h6 (by simp; omega), hg.cell h7 (by simp; omega), by have := hg.size; omega, h9, Below.grown h10 hg (by omega) (fun j hj => by cases hj; omega)⟩
theorem TriN.sFy {x y z s S F C1 C2 C3 : Int} (h : TriN x y z s S F C1 C2 C3) : S * F = C1 * y ∧ S * F = C2 * z ∧ S * F = C3 * x := by
  rw [← h.hF, ← h.h1, ← h.h2, ← h.h3]
  exact ⟨by ac_rfl, by ac_rfl, by ac_rfl⟩
theorem TriN.C_le {x y z s S F C1 C2 C3 : Int} (h : TriN x y z s S F C1 C2 C3) : (1 ≤ C1 ∧ C1 ≤ 4800000000) ∧ (1 ≤ C2 ∧ C2 ≤ 4800000000) ∧ (1 ≤ C3 ∧ C3 ≤ 4800000000) := by
  have bS := h.S_le
  have q7 := mul_le200 bS.1 bS.2 h.bx.1 h.bx.2
  have q8 := mul_le200 bS.1 bS.2 h.bY.1 h.bY.2
  have c1 := mul_le200 q7.1 q7.2 h.bz.1 h.bz.2
  have c2 := mul_le200 q7.1 q7.2 h.bY.1 h.bY.2
  have c3 := mul_le200 q8.1 q8.2 h.bz.1 h.bz.2
  rw [h.h1] at c1
  rw [h.h2] at c2
  rw [h.h3] at c3
  exact ⟨by omega, by omega, by omega⟩
theorem TriN.quo {x y z s S F C1 C2 C3 : Int} (h : TriN x y z s S F C1 C2 C3) : (wrap64 (x * y * z) = F ∧ IntKind.i64.wrap (x * y * z) = F) ∧ (wrap64 (S * F) = S * F ∧ IntKind.i64.wrap (S * F) = S * F) ∧ ((S * F).tdiv y = C1 ∧ (S * F).tdiv z = C2 ∧ (S * F).tdiv x = C3) ∧ (y ≠ 0 ∧ z ≠ 0 ∧ x ≠ 0) ∧ (wrap64 C1 = C1 ∧ IntKind.i64.wrap C1 = C1) ∧ (wrap64 C2 = C2 ∧ IntKind.i64.wrap C2 = C2) ∧ (wrap64 C3 = C3 ∧ IntKind.i64.wrap C3 = C3) := by
  have f := h.F_le
  have bS := h.S_le
  obtain ⟨c1, c2, c3⟩ := h.C_le
  obtain ⟨e1, e2, e3⟩ := h.sFy
  have hx := h.bx; have hy := h.bY; have hz := h.bz
  have p1 := Int.mul_le_mul bS.2 f.2 (by omega) (by omega : (0 : Int) ≤ 120000)
  have p2 := Int.mul_le_mul bS.1 f.1 (by omega) (by omega : (0 : Int) ≤ S)
  refine ⟨wrap_two h.hF (by omega), wrap_two rfl (by clear e1 e2 e3; omega), ⟨by rw [e1, Int.mul_tdiv_cancel _ (by omega)], by rw [e2, Int.mul_tdiv_cancel _ (by omega)], by rw [e3, Int.mul_tdiv_cancel _ (by omega)]⟩, ⟨by omega, by omega, by omega⟩, wrap_two rfl (by omega), wrap_two rfl (by omega), wrap_two rfl (by omega)⟩
theorem wf_C {c : Int} (h : 1 ≤ c ∧ c ≤ 4800000000) : (Lit.int .i64 c).wf = true := by simp [Lit.wf, IntKind.min, IntKind.max, IntKind.bits, IntKind.signed]; omega
set_option maxRecDepth 8000 in
set_option maxHeartbeats 12800000 in
theorem impl_exTri (N : Nat) (e s a b c : Int) (v : Value) (ws : List W3) (w : World) (hr : ReadsW w v ws) (hOk : TriOk N e s a b c ws) :
    Calls Try.prog 203 #[.agg #[.int .i64 a, .int .i64 b, .int .i64 c], .agg #[.int .i64 N, .int .i64 e, .int .i64 s, v]] w fun en w' => ∃ m f, en = .returned (.tuple #[.map (some m), .int .i64 (triF ws a b c)]) ∧ w.heap.size ≤ m ∧ owns2 w' m 60 f ∧ Lists f (triL N ws a b c) ∧ Below w.heap.size w w' := by
  obtain ⟨hb, a0, ab, bc, cN, hx, hy, hz⟩ := hOk
  have hV := netB_iff.1 hb
  have n5 := hV.1.2.1
  have hlen := wiresV_len hV.2.1 n5
  have hTN := triN_of hV.2.1 hx hy hz hV.1.2.2.2.2.1 hV.1.2.2.2.2.2
  have fF := hTN.F_le
  have hL := tri_lists hV.2.1 a b c (by omega) (by omega) (by omega)
  have HWI := Lib.hid (fun W h => impl_weightsIn N e s a b c v ws W h)
  have HMUL := Lib.hid (fun W h => multW_any N e s (triF ws a b c) v ws W h hV.2.1 n5 (by omega) (by omega) (by omega))
  have HL := Lib.hid hL; have HTN := Lib.hid hTN
  have HWa : Hid ((Lit.int .i64 a).wf = true) := Lib.hid (wf_of (by omega) (by omega))
  have HWb : Hid ((Lit.int .i64 b).wf = true) := Lib.hid (wf_of (by omega) (by omega))
  have HWc : Hid ((Lit.int .i64 c).wf = true) := Lib.hid (wf_of (by omega) (by omega))
  have HWN : Hid ((Lit.int .i64 (N : Int)).wf = true) := Lib.hid (wf_of (by omega) (by omega))
  have HP1 := Lib.hid (fun W => pairOf_any a b a b (.inl ⟨by omega, by omega, rfl, rfl⟩) W)
  have HP2 := Lib.hid (fun W => pairOf_any b c b c (.inl ⟨by omega, by omega, rfl, rfl⟩) W)
  have HP3 := Lib.hid (fun W => pairOf_any a c a c (.inl ⟨by omega, by omega, rfl, rfl⟩) W)
  have HP4 := Lib.hid (fun W => pairOf_any a N a N (.inl ⟨by omega, by omega, rfl, rfl⟩) W)
  have HP5 := Lib.hid (fun W => pairOf_any b N b N (.inl ⟨by omega, by omega, rfl, rfl⟩) W)
  have HP6 := Lib.hid (fun W => pairOf_any c N c N (.inl ⟨by omega, by omega, rfl, rfl⟩) W)
  have HWC1 := Lib.hid (wf_C hTN.C_le.1)
  have HWC2 := Lib.hid (wf_C hTN.C_le.2.1)
  have HWC3 := Lib.hid (wf_C hTN.C_le.2.2)
  have HLEN := Lib.hid hlen
  clear hL hTN hV hb hx hy hz fF hlen n5
  generalize triL (N : Int) ws a b c = LL at *
  generalize triS ws a b c = SS at *
  generalize triC1 ws a b c = C1 at *
  generalize triC2 ws a b c = C2 at *
  generalize triC3 ws a b c = C3 at *
  generalize mulW ws (triF ws a b c) = MW at *
  generalize triF ws a b c = FF at *
  generalize wBtw ws a b = X at *
  generalize wBtw ws b c = Y at *
  generalize wBtw ws a c = Z at *
  obtain ⟨W0, hW0⟩ : ∃ W0, W0 = (w.alloc (.cells #[.int .i64 a, .int .i64 b, .int .i64 c] 126)).alloc (.cells #[.int .i64 N, .int .i64 e, .int .i64 s, v] 25) := ⟨_, rfl⟩
  have HS0 : Hid (W0.heap.size = w.heap.size + 2) := Lib.hid (by rw [hW0]; simp)
  have HB0 : Hid (Below w.heap.size w W0) := Lib.hid (by rw [hW0]; (repeat (first | exact Below.refl _ _ | (refine Below.setCell ?_ (by (first | exact Nat.le_refl _ | omega | (simp <;> omega) | simp)) _) | (refine Below.alloc ?_ (by (first | exact Nat.le_refl _ | omega | (simp <;> omega) | simp)) _) | (refine below_draws ?_ _))))
  have HR0 := Lib.hid (hr.later HB0.out)
  have HBL : Hid (w.heap.size < W0.heap.size ∧ w.heap.size < W0.heap.size ∧ w.heap.size < W0.heap.size ∧ w.heap.size + 1 < W0.heap.size ∧ w.heap.size + 1 < W0.heap.size ∧ w.heap.size + 1 < W0.heap.size ∧ w.heap.size + 1 < W0.heap.size ∧ w.heap.size + 1 < W0.heap.size) := Lib.hid (by have := HS0.out; omega)
  have hS : W0.cell? ⟨w.heap.size, 0, none⟩ = some (.int .i64 a) ∧ W0.cell? ⟨w.heap.size, 1, none⟩ = some (.int .i64 b) ∧ W0.cell? ⟨w.heap.size, 2, none⟩ = some (.int .i64 c) ∧ W0.cell? ⟨w.heap.size + 1, 0, none⟩ = some (.int .i64 N) ∧ W0.cell? ⟨w.heap.size + 1, 1, none⟩ = some (.int .i64 e) ∧ W0.cell? ⟨w.heap.size + 1, 2, none⟩ = some (.int .i64 s) ∧ W0.cell? ⟨w.heap.size + 1, 3, none⟩ = some (v) ∧ W0.cell? ⟨w.heap.size + 1, 3, none⟩ = some (v) ∧ W0.heap.size ≤ W0.heap.size ∧ W0.heap.size ≤ W0.heap.size ∧ Below W0.heap.size W0 W0 := ⟨by rw [hW0]; simp [go_sem], by rw [hW0]; simp [go_sem], by rw [hW0]; simp [go_sem], by rw [hW0]; simp [go_sem], by rw [hW0]; simp [go_sem], by rw [hW0]; simp [go_sem], by rw [hW0]; simp [go_sem], by rw [hW0]; simp [go_sem], Nat.le_refl _, Nat.le_refl _, Below.refl _ _⟩
  clear hr
  have HS := Lib.hid hS
  obtain ⟨y0, y1, y2, x0, x1, x2, x3, -, -, -, -⟩ := hS
  go_enter Try.func203, Try.ntmps203
  go_wp2_with fail
  rw [← hW0]
  clear hW0
  refine (HWI.out _ HR0.out).mono ?_
  rintro en w1 ⟨rfl, B1⟩
  have hS := k8_drew (k8_keep B1 HS.out)
  clear y0 y1 y2 x0 x1 x2 x3
  go_wp2
  obtain ⟨⟨u1, q1⟩, ⟨u2, q2⟩, ⟨u3, q3⟩, ⟨u4, q4⟩, ⟨u5, q5⟩, -⟩ := HTN.out.wraps
  obtain ⟨⟨u6, q6⟩, -⟩ := HTN.out.quo
  refine wp_region_held_drew (S := fun w' => w'.cell? ⟨w.heap.size, 0, none⟩ = some (.int .i64 a) ∧ w'.cell? ⟨w.heap.size, 1, none⟩ = some (.int .i64 b) ∧ w'.cell? ⟨w.heap.size, 2, none⟩ = some (.int .i64 c) ∧ w'.cell? ⟨w.heap.size + 1, 0, none⟩ = some (.int .i64 N) ∧ w'.cell? ⟨w.heap.size + 1, 1, none⟩ = some (.int .i64 e) ∧ w'.cell? ⟨w.heap.size + 1, 2, none⟩ = some (.int .i64 s) ∧ w'.cell? ⟨w.heap.size + 1, 3, none⟩ = some (v) ∧ w'.cell? ⟨w.heap.size + 1, 3, none⟩ = some (v) ∧ W0.heap.size ≤ w'.heap.size ∧ W0.heap.size ≤ W0.heap.size ∧ Below W0.heap.size W0 w') (by kernel_rfl) hS (fun hHeld => ?_)
  refine take_on (i := 0) (d := some 20) (v := .int .i64 X) rfl rfl (by kernel_rfl) (by kernel_rfl) (by kernel_rfl) (fun _ _ _ h => h) (by rfl) (by (intro w hSw; (try dsimp only at hSw); go_simp)) (by assumption) ?_
  try simp only [Act.put, List.setIfInBounds_toArray, List.set_cons_zero, List.set_cons_succ]
  refine take_on (i := 1) (d := some 21) (v := .int .i64 Y) rfl rfl (by kernel_rfl) (by kernel_rfl) (by kernel_rfl) (fun _ _ _ h => h) (by rfl) (by (intro w hSw; (try dsimp only at hSw); go_simp)) (by assumption) ?_
  try simp only [Act.put, List.setIfInBounds_toArray, List.set_cons_zero, List.set_cons_succ]
  refine take_on (i := 2) (d := some 22) (v := .int .i64 (X * Y)) rfl rfl (by kernel_rfl) (by kernel_rfl) (by kernel_rfl) (fun _ _ _ h => h) (by rfl) (by (intro w hSw; (try dsimp only at hSw); go_simp)) (by assumption) ?_
  try simp only [Act.put, List.setIfInBounds_toArray, List.set_cons_zero, List.set_cons_succ]
  refine take_on (i := 3) (d := some 23) (v := .int .i64 Y) rfl rfl (by kernel_rfl) (by kernel_rfl) (by kernel_rfl) (fun _ _ _ h => h) (by rfl) (by (intro w hSw; (try dsimp only at hSw); go_simp)) (by assumption) ?_
  try simp only [Act.put, List.setIfInBounds_toArray, List.set_cons_zero, List.set_cons_succ]
  refine take_on (i := 4) (d := some 24) (v := .int .i64 Z) rfl rfl (by kernel_rfl) (by kernel_rfl) (by kernel_rfl) (fun _ _ _ h => h) (by rfl) (by (intro w hSw; (try dsimp only at hSw); go_simp)) (by assumption) ?_
  try simp only [Act.put, List.setIfInBounds_toArray, List.set_cons_zero, List.set_cons_succ]
  refine take_on (i := 5) (d := some 25) (v := .int .i64 (Y * Z)) rfl rfl (by kernel_rfl) (by kernel_rfl) (by kernel_rfl) (fun _ _ _ h => h) (by rfl) (by (intro w hSw; (try dsimp only at hSw); go_simp)) (by assumption) ?_
  try simp only [Act.put, List.setIfInBounds_toArray, List.set_cons_zero, List.set_cons_succ]
  refine take_on (i := 6) (d := some 26) (v := .int .i64 (X * Y + Y * Z)) rfl rfl (by kernel_rfl) (by kernel_rfl) (by kernel_rfl) (fun _ _ _ h => h) (by rfl) (by (intro w hSw; (try dsimp only at hSw); go_simp)) (by assumption) ?_
  try simp only [Act.put, List.setIfInBounds_toArray, List.set_cons_zero, List.set_cons_succ]
  refine take_on (i := 7) (d := some 27) (v := .int .i64 Z) rfl rfl (by kernel_rfl) (by kernel_rfl) (by kernel_rfl) (fun _ _ _ h => h) (by rfl) (by (intro w hSw; (try dsimp only at hSw); go_simp)) (by assumption) ?_
  try simp only [Act.put, List.setIfInBounds_toArray, List.set_cons_zero, List.set_cons_succ]
  refine take_on (i := 8) (d := some 28) (v := .int .i64 X) rfl rfl (by kernel_rfl) (by kernel_rfl) (by kernel_rfl) (fun _ _ _ h => h) (by rfl) (by (intro w hSw; (try dsimp only at hSw); go_simp)) (by assumption) ?_
  try simp only [Act.put, List.setIfInBounds_toArray, List.set_cons_zero, List.set_cons_succ]
  refine take_on (i := 9) (d := some 29) (v := .int .i64 (Z * X)) rfl rfl (by kernel_rfl) (by kernel_rfl) (by kernel_rfl) (fun _ _ _ h => h) (by rfl) (by (intro w hSw; (try dsimp only at hSw); go_simp)) (by assumption) ?_
  try simp only [Act.put, List.setIfInBounds_toArray, List.set_cons_zero, List.set_cons_succ]
  refine take_on (i := 10) (d := some 30) (v := .int .i64 SS) rfl rfl (by kernel_rfl) (by kernel_rfl) (by kernel_rfl) (fun _ _ _ h => h) (by rfl) (by (intro w hSw; (try dsimp only at hSw); go_simp)) (by assumption) ?_
  try simp only [Act.put, List.setIfInBounds_toArray, List.set_cons_zero, List.set_cons_succ]
  refine take_on (i := 11) (d := some 31) (v := .int .i64 X) rfl rfl (by kernel_rfl) (by kernel_rfl) (by kernel_rfl) (fun _ _ _ h => h) (by rfl) (by (intro w hSw; (try dsimp only at hSw); go_simp)) (by assumption) ?_
  try simp only [Act.put, List.setIfInBounds_toArray, List.set_cons_zero, List.set_cons_succ]
  refine take_on (i := 12) (d := some 32) (v := .int .i64 Y) rfl rfl (by kernel_rfl) (by kernel_rfl) (by kernel_rfl) (fun _ _ _ h => h) (by rfl) (by (intro w hSw; (try dsimp only at hSw); go_simp)) (by assumption) ?_
  try simp only [Act.put, List.setIfInBounds_toArray, List.set_cons_zero, List.set_cons_succ]
  refine take_on (i := 13) (d := some 33) (v := .int .i64 (X * Y)) rfl rfl (by kernel_rfl) (by kernel_rfl) (by kernel_rfl) (fun _ _ _ h => h) (by rfl) (by (intro w hSw; (try dsimp only at hSw); go_simp)) (by assumption) ?_
  try simp only [Act.put, List.setIfInBounds_toArray, List.set_cons_zero, List.set_cons_succ]
  refine take_on (i := 14) (d := some 34) (v := .int .i64 Z) rfl rfl (by kernel_rfl) (by kernel_rfl) (by kernel_rfl) (fun _ _ _ h => h) (by rfl) (by (intro w hSw; (try dsimp only at hSw); go_simp)) (by assumption) ?_
  try simp only [Act.put, List.setIfInBounds_toArray, List.set_cons_zero, List.set_cons_succ]
  refine take_on (i := 15) (d := some 35) (v := .int .i64 FF) rfl rfl (by kernel_rfl) (by kernel_rfl) (by kernel_rfl) (fun _ _ _ h => h) (by rfl) (by (intro w hSw; (try dsimp only at hSw); go_simp)) (by assumption) ?_
  try simp only [Act.put, List.setIfInBounds_toArray, List.set_cons_zero, List.set_cons_succ]
  refine take_on (i := 16) (d := some 36) (v := .pointer (some ⟨w.heap.size + 1, 0, none⟩)) rfl rfl (by kernel_rfl) (by kernel_rfl) (by kernel_rfl) (fun _ _ _ h => h) (by rfl) (by (intro w hSw; (try dsimp only at hSw); go_simp)) (by assumption) ?_
  try simp only [Act.put, List.setIfInBounds_toArray, List.set_cons_zero, List.set_cons_succ]
  refine take_on (i := 17) (d := some 37) (v := .int .i64 N) rfl rfl (by kernel_rfl) (by kernel_rfl) (by kernel_rfl) (fun _ _ _ h => h) (by rfl) (by (intro w hSw; (try dsimp only at hSw); go_simp)) (by assumption) ?_
  try simp only [Act.put, List.setIfInBounds_toArray, List.set_cons_zero, List.set_cons_succ]
  refine take_on (i := 18) (d := some 9) (v := .int .i64 SS) rfl rfl (by kernel_rfl) (by kernel_rfl) (by kernel_rfl) (fun _ _ _ h => h) (by rfl) (by (intro w hSw; (try dsimp only at hSw); go_simp)) (by assumption) ?_
  try simp only [Act.put, List.setIfInBounds_toArray, List.set_cons_zero, List.set_cons_succ]
  refine take_on (i := 19) (d := some 10) (v := .int .i64 FF) rfl rfl (by kernel_rfl) (by kernel_rfl) (by kernel_rfl) (fun _ _ _ h => h) (by rfl) (by (intro w hSw; (try dsimp only at hSw); go_simp)) (by assumption) ?_
  try simp only [Act.put, List.setIfInBounds_toArray, List.set_cons_zero, List.set_cons_succ]
  refine take_on (i := 20) (d := some 11) (v := .int .i64 N) rfl rfl (by kernel_rfl) (by kernel_rfl) (by kernel_rfl) (fun _ _ _ h => h) (by rfl) (by (intro w hSw; (try dsimp only at hSw); go_simp)) (by assumption) ?_
  try simp only [Act.put, List.setIfInBounds_toArray, List.set_cons_zero, List.set_cons_succ]
  refine wpAnyH_done (by kernel_rfl) ?_ _
  clear u1 u2 u3 u4 u5 u6 q1 q2 q3 q4 q5 q6
  have HS1 := Lib.hid hS
  obtain ⟨y0, y1, y2, x0, x1, x2, x3, -, -, -, -⟩ := hS
  go_wp2_with fail
  refine (HMUL.out _ (HR0.out.later HS1.out.2.2.2.2.2.2.2.2.2.2)).mono ?_
  rintro en w2 ⟨m, rfl, hm, o2, B2⟩
  have hm0 : W0.heap.size ≤ m := Nat.le_trans HS1.out.2.2.2.2.2.2.2.2.1 hm
  have HO := Lib.hid (o2.mono (show ws.length ≤ 40 by have := HLEN.out; omega))
  have hS := k8_keep B2 HS1.out
  clear o2 hm
  clear y0 y1 y2 x0 x1 x2 x3
  have HS1 := Lib.hid hS
  obtain ⟨y0, y1, y2, x0, x1, x2, x3, -, -, -, -⟩ := hS
  go_wp2_with fail
  refine (HP1.out _).mono ?_
  rintro en wp0 ⟨rfl, B3⟩
  have hS := k8_keep B3 HS1.out
  have HO2 := Lib.hid (HO.out.later B3)
  clear y0 y1 y2 x0 x1 x2 x3
  clear B3 HO HS1
  go_wp2_with (at_delete; refine wpList_delete_pairs _ rfl _ _ rfl m 40 _ rfl HO2.out rfl HWa.out HWb.out ?_; intro wd0 O4 G4; replace hS := k8_grown G4 hm0 HBL.out hS; have HO := Lib.hid O4; clear O4 G4 HO2; have HS1 := Lib.hid hS; obtain ⟨y0, y1, y2, x0, x1, x2, x3, -, -, -, -⟩ := hS)
  refine (HP2.out _).mono ?_
  rintro en wp1 ⟨rfl, B3⟩
  have hS := k8_keep B3 HS1.out
  have HO2 := Lib.hid (HO.out.later B3)
  clear y0 y1 y2 x0 x1 x2 x3
  clear B3 HO HS1
  go_wp2_with (at_delete; refine wpList_delete_pairs _ rfl _ _ rfl m 40 _ rfl HO2.out rfl HWb.out HWc.out ?_; intro wd1 O4 G4; replace hS := k8_grown G4 hm0 HBL.out hS; have HO := Lib.hid O4; clear O4 G4 HO2; have HS1 := Lib.hid hS; obtain ⟨y0, y1, y2, x0, x1, x2, x3, -, -, -, -⟩ := hS)
  refine (HP3.out _).mono ?_
  rintro en wp2 ⟨rfl, B3⟩
  have hS := k8_keep B3 HS1.out
  have HO2 := Lib.hid (HO.out.later B3)
  clear y0 y1 y2 x0 x1 x2 x3
  clear B3 HO HS1
  go_wp2_with (at_delete; refine wpList_delete_pairs _ rfl _ _ rfl m 40 _ rfl HO2.out rfl HWa.out HWc.out ?_; intro wd2 O4 G4; replace hS := k8_grown G4 hm0 HBL.out hS; have HO := Lib.hid O4; clear O4 G4 HO2)
  replace hS := k8_drew hS
  have HO7 := Lib.hid (HO.out.later (below_drew _))
  go_wp2
  obtain ⟨-, ⟨u1, q1⟩, ⟨u2, u3, u4⟩, ⟨u5, u6, u7⟩, ⟨u8, q8⟩, ⟨u9, q9⟩, ⟨u10, q10⟩⟩ := HTN.out.quo
  refine wp_region_F 10 (fun w' => w'.cell? ⟨w.heap.size, 0, none⟩ = some (.int .i64 a) ∧ w'.cell? ⟨w.heap.size, 1, none⟩ = some (.int .i64 b) ∧ w'.cell? ⟨w.heap.size, 2, none⟩ = some (.int .i64 c) ∧ w'.cell? ⟨w.heap.size + 1, 0, none⟩ = some (.int .i64 N) ∧ w'.cell? ⟨w.heap.size + 1, 1, none⟩ = some (.int .i64 e) ∧ w'.cell? ⟨w.heap.size + 1, 2, none⟩ = some (.int .i64 s) ∧ w'.cell? ⟨w.heap.size + 1, 3, none⟩ = some (v) ∧ w'.cell? ⟨w.heap.size + 1, 3, none⟩ = some (v) ∧ W0.heap.size ≤ w'.heap.size ∧ W0.heap.size ≤ W0.heap.size ∧ Below W0.heap.size W0 w') (by kernel_rfl) hS ?_
  clear hS
  intro hS
  refine takeF_on (i := 0) (d := some 59) (v := .map (some m)) rfl rfl (by kernel_rfl) (fun _ _ _ h => h) (by rfl) (by (intro w hSw; (try dsimp only at hSw); go_simp)) (by assumption) ?_
  try simp only [Act.put, List.setIfInBounds_toArray, List.set_cons_zero, List.set_cons_succ]
  refine takeF_on (i := 1) (d := some 60) (v := .pointer (some ⟨w.heap.size, 0, none⟩)) rfl rfl (by kernel_rfl) (fun _ _ _ h => h) (by rfl) (by (intro w hSw; (try dsimp only at hSw); go_simp)) (by assumption) ?_
  try simp only [Act.put, List.setIfInBounds_toArray, List.set_cons_zero, List.set_cons_succ]
  refine takeF_on (i := 2) (d := some 61) (v := .int .i64 a) rfl rfl (by kernel_rfl) (fun _ _ _ h => h) (by rfl) (by (intro w hSw; (try dsimp only at hSw); go_simp)) (by assumption) ?_
  try simp only [Act.put, List.setIfInBounds_toArray, List.set_cons_zero, List.set_cons_succ]
  refine takeF_on (i := 3) (d := some 62) (v := .int .i64 N) rfl rfl (by kernel_rfl) (fun _ _ _ h => h) (by rfl) (by (intro w hSw; (try dsimp only at hSw); go_simp)) (by assumption) ?_
  try simp only [Act.put, List.setIfInBounds_toArray, List.set_cons_zero, List.set_cons_succ]
  refine takeF_on (i := 5) (d := some 64) (v := .int .i64 SS) rfl rfl (by kernel_rfl) (fun _ _ _ h => h) (by rfl) (by (intro w hSw; (try dsimp only at hSw); go_simp)) (by assumption) ?_
  try simp only [Act.put, List.setIfInBounds_toArray, List.set_cons_zero, List.set_cons_succ]
  refine takeF_on (i := 6) (d := some 65) (v := .int .i64 FF) rfl rfl (by kernel_rfl) (fun _ _ _ h => h) (by rfl) (by (intro w hSw; (try dsimp only at hSw); go_simp)) (by assumption) ?_
  try simp only [Act.put, List.setIfInBounds_toArray, List.set_cons_zero, List.set_cons_succ]
  refine takeF_on (i := 7) (d := some 66) (v := .int .i64 (SS * FF)) rfl rfl (by kernel_rfl) (fun _ _ _ h => h) (by rfl) (by (intro w hSw; (try dsimp only at hSw); go_simp)) (by assumption) ?_
  try simp only [Act.put, List.setIfInBounds_toArray, List.set_cons_zero, List.set_cons_succ]
  refine takeF_on (i := 8) (d := some 67) (v := .int .i64 Y) rfl rfl (by kernel_rfl) (fun _ _ _ h => h) (by rfl) (by (intro w hSw; (try dsimp only at hSw); go_simp)) (by assumption) ?_
  try simp only [Act.put, List.setIfInBounds_toArray, List.set_cons_zero, List.set_cons_succ]
  refine takeF_on (i := 9) (d := some 68) (v := .int .i64 C1) rfl rfl (by kernel_rfl) (fun _ _ _ h => h) (by rfl) (by (intro w hSw; (try dsimp only at hSw); go_simp)) (by assumption) ?_
  try simp only [Act.put, List.setIfInBounds_toArray, List.set_cons_zero, List.set_cons_succ]
  refine wpAnyF_ready (rs := [4]) (by kernel_rfl) (by simp) ?_
  refine AllReadyF.cons rfl (fun K hK => ?_) AllReadyF.nil
  go_simp
  with_reducible refine Calls.mono (HP4.out _) ?_
  rintro en wq0 ⟨rfl, B5⟩
  replace hS := k8_keep B5 hS
  have HO8 := Lib.hid (HO7.out.later B5)
  clear B5
  go_wp2_with fail
  refine hK.out _ _ hS (fun hHeld => ?_)
  clear hK K hHeld
  try simp only [Act.put, List.setIfInBounds_toArray, List.set_cons_zero, List.set_cons_succ]
  obtain ⟨wr0, hru, O6, G6⟩ := run_put HO8.out (by unfold maxLen; omega) HWa.out HWN.out HWC1.out
  refine wpAnyF_ready (rs := [10]) (by kernel_rfl) (by simp) ?_
  refine AllReadyF.last rfl (by decide) (fun K hK => ?_) AllReadyF.nil
  go_simp
  refine hK.out _ _ ?_
  clear hK K
  try simp only [Act.put]
  refine wpAnyF_done (by kernel_rfl) ?_
  clear u1 u2 u3 u4 u5 u6 u7 u8 u9 u10 q1 q8 q9 q10 hru
  replace hS := k8_grown G6 hm0 HBL.out hS
  have HO := Lib.hid O6
  clear O6 G6 HO7 HO8
  replace hS := k8_drew hS
  have HO7 := Lib.hid (HO.out.later (below_drew _))
  go_wp2
  obtain ⟨-, ⟨u1, q1⟩, ⟨u2, u3, u4⟩, ⟨u5, u6, u7⟩, ⟨u8, q8⟩, ⟨u9, q9⟩, ⟨u10, q10⟩⟩ := HTN.out.quo
  refine wp_region_F 10 (fun w' => w'.cell? ⟨w.heap.size, 0, none⟩ = some (.int .i64 a) ∧ w'.cell? ⟨w.heap.size, 1, none⟩ = some (.int .i64 b) ∧ w'.cell? ⟨w.heap.size, 2, none⟩ = some (.int .i64 c) ∧ w'.cell? ⟨w.heap.size + 1, 0, none⟩ = some (.int .i64 N) ∧ w'.cell? ⟨w.heap.size + 1, 1, none⟩ = some (.int .i64 e) ∧ w'.cell? ⟨w.heap.size + 1, 2, none⟩ = some (.int .i64 s) ∧ w'.cell? ⟨w.heap.size + 1, 3, none⟩ = some (v) ∧ w'.cell? ⟨w.heap.size + 1, 3, none⟩ = some (v) ∧ W0.heap.size ≤ w'.heap.size ∧ W0.heap.size ≤ W0.heap.size ∧ Below W0.heap.size W0 w') (by kernel_rfl) hS ?_
  clear hS
  intro hS
  refine takeF_on (i := 0) (d := some 69) (v := .map (some m)) rfl rfl (by kernel_rfl) (fun _ _ _ h => h) (by rfl) (by (intro w hSw; (try dsimp only at hSw); go_simp)) (by assumption) ?_
  try simp only [Act.put, List.setIfInBounds_toArray, List.set_cons_zero, List.set_cons_succ]
  refine takeF_on (i := 1) (d := some 70) (v := .pointer (some ⟨w.heap.size, 1, none⟩)) rfl rfl (by kernel_rfl) (fun _ _ _ h => h) (by rfl) (by (intro w hSw; (try dsimp only at hSw); go_simp)) (by assumption) ?_
  try simp only [Act.put, List.setIfInBounds_toArray, List.set_cons_zero, List.set_cons_succ]
  refine takeF_on (i := 2) (d := some 71) (v := .int .i64 b) rfl rfl (by kernel_rfl) (fun _ _ _ h => h) (by rfl) (by (intro w hSw; (try dsimp only at hSw); go_simp)) (by assumption) ?_
  try simp only [Act.put, List.setIfInBounds_toArray, List.set_cons_zero, List.set_cons_succ]
  refine takeF_on (i := 3) (d := some 72) (v := .int .i64 N) rfl rfl (by kernel_rfl) (fun _ _ _ h => h) (by rfl) (by (intro w hSw; (try dsimp only at hSw); go_simp)) (by assumption) ?_
  try simp only [Act.put, List.setIfInBounds_toArray, List.set_cons_zero, List.set_cons_succ]
  refine takeF_on (i := 5) (d := some 74) (v := .int .i64 SS) rfl rfl (by kernel_rfl) (fun _ _ _ h => h) (by rfl) (by (intro w hSw; (try dsimp only at hSw); go_simp)) (by assumption) ?_
  try simp only [Act.put, List.setIfInBounds_toArray, List.set_cons_zero, List.set_cons_succ]
  refine takeF_on (i := 6) (d := some 75) (v := .int .i64 FF) rfl rfl (by kernel_rfl) (fun _ _ _ h => h) (by rfl) (by (intro w hSw; (try dsimp only at hSw); go_simp)) (by assumption) ?_
  try simp only [Act.put, List.setIfInBounds_toArray, List.set_cons_zero, List.set_cons_succ]
  refine takeF_on (i := 7) (d := some 76) (v := .int .i64 (SS * FF)) rfl rfl (by kernel_rfl) (fun _ _ _ h => h) (by rfl) (by (intro w hSw; (try dsimp only at hSw); go_simp)) (by assumption) ?_
  try simp only [Act.put, List.setIfInBounds_toArray, List.set_cons_zero, List.set_cons_succ]
  refine takeF_on (i := 8) (d := some 77) (v := .int .i64 Z) rfl rfl (by kernel_rfl) (fun _ _ _ h => h) (by rfl) (by (intro w hSw; (try dsimp only at hSw); go_simp)) (by assumption) ?_
  try simp only [Act.put, List.setIfInBounds_toArray, List.set_cons_zero, List.set_cons_succ]
  refine takeF_on (i := 9) (d := some 78) (v := .int .i64 C2) rfl rfl (by kernel_rfl) (fun _ _ _ h => h) (by rfl) (by (intro w hSw; (try dsimp only at hSw); go_simp)) (by assumption) ?_
  try simp only [Act.put, List.setIfInBounds_toArray, List.set_cons_zero, List.set_cons_succ]
  refine wpAnyF_ready (rs := [4]) (by kernel_rfl) (by simp) ?_
  refine AllReadyF.cons rfl (fun K hK => ?_) AllReadyF.nil
  go_simp
  with_reducible refine Calls.mono (HP5.out _) ?_
  rintro en wq1 ⟨rfl, B5⟩
  replace hS := k8_keep B5 hS
  have HO8 := Lib.hid (HO7.out.later B5)
  clear B5
  go_wp2_with fail
  refine hK.out _ _ hS (fun hHeld => ?_)
  clear hK K hHeld
  try simp only [Act.put, List.setIfInBounds_toArray, List.set_cons_zero, List.set_cons_succ]
  obtain ⟨wr1, hru, O6, G6⟩ := run_put HO8.out (by unfold maxLen; omega) HWb.out HWN.out HWC2.out
  refine wpAnyF_ready (rs := [10]) (by kernel_rfl) (by simp) ?_
  refine AllReadyF.last rfl (by decide) (fun K hK => ?_) AllReadyF.nil
  go_simp
  refine hK.out _ _ ?_
  clear hK K
  try simp only [Act.put]
  refine wpAnyF_done (by kernel_rfl) ?_
  clear u1 u2 u3 u4 u5 u6 u7 u8 u9 u10 q1 q8 q9 q10 hru
  replace hS := k8_grown G6 hm0 HBL.out hS
  have HO := Lib.hid O6
  clear O6 G6 HO7 HO8
  replace hS := k8_drew hS
  have HO7 := Lib.hid (HO.out.later (below_drew _))
  go_wp2
  obtain ⟨-, ⟨u1, q1⟩, ⟨u2, u3, u4⟩, ⟨u5, u6, u7⟩, ⟨u8, q8⟩, ⟨u9, q9⟩, ⟨u10, q10⟩⟩ := HTN.out.quo
  refine wp_region_F 10 (fun w' => w'.cell? ⟨w.heap.size, 0, none⟩ = some (.int .i64 a) ∧ w'.cell? ⟨w.heap.size, 1, none⟩ = some (.int .i64 b) ∧ w'.cell? ⟨w.heap.size, 2, none⟩ = some (.int .i64 c) ∧ w'.cell? ⟨w.heap.size + 1, 0, none⟩ = some (.int .i64 N) ∧ w'.cell? ⟨w.heap.size + 1, 1, none⟩ = some (.int .i64 e) ∧ w'.cell? ⟨w.heap.size + 1, 2, none⟩ = some (.int .i64 s) ∧ w'.cell? ⟨w.heap.size + 1, 3, none⟩ = some (v) ∧ w'.cell? ⟨w.heap.size + 1, 3, none⟩ = some (v) ∧ W0.heap.size ≤ w'.heap.size ∧ W0.heap.size ≤ W0.heap.size ∧ Below W0.heap.size W0 w') (by kernel_rfl) hS ?_
  clear hS
  intro hS
  refine takeF_on (i := 0) (d := some 79) (v := .map (some m)) rfl rfl (by kernel_rfl) (fun _ _ _ h => h) (by rfl) (by (intro w hSw; (try dsimp only at hSw); go_simp)) (by assumption) ?_
  try simp only [Act.put, List.setIfInBounds_toArray, List.set_cons_zero, List.set_cons_succ]
  refine takeF_on (i := 1) (d := some 80) (v := .pointer (some ⟨w.heap.size, 2, none⟩)) rfl rfl (by kernel_rfl) (fun _ _ _ h => h) (by rfl) (by (intro w hSw; (try dsimp only at hSw); go_simp)) (by assumption) ?_
  try simp only [Act.put, List.setIfInBounds_toArray, List.set_cons_zero, List.set_cons_succ]
  refine takeF_on (i := 2) (d := some 81) (v := .int .i64 c) rfl rfl (by kernel_rfl) (fun _ _ _ h => h) (by rfl) (by (intro w hSw; (try dsimp only at hSw); go_simp)) (by assumption) ?_
  try simp only [Act.put, List.setIfInBounds_toArray, List.set_cons_zero, List.set_cons_succ]
  refine takeF_on (i := 3) (d := some 82) (v := .int .i64 N) rfl rfl (by kernel_rfl) (fun _ _ _ h => h) (by rfl) (by (intro w hSw; (try dsimp only at hSw); go_simp)) (by assumption) ?_
  try simp only [Act.put, List.setIfInBounds_toArray, List.set_cons_zero, List.set_cons_succ]
  refine takeF_on (i := 5) (d := some 84) (v := .int .i64 SS) rfl rfl (by kernel_rfl) (fun _ _ _ h => h) (by rfl) (by (intro w hSw; (try dsimp only at hSw); go_simp)) (by assumption) ?_
  try simp only [Act.put, List.setIfInBounds_toArray, List.set_cons_zero, List.set_cons_succ]
  refine takeF_on (i := 6) (d := some 85) (v := .int .i64 FF) rfl rfl (by kernel_rfl) (fun _ _ _ h => h) (by rfl) (by (intro w hSw; (try dsimp only at hSw); go_simp)) (by assumption) ?_
  try simp only [Act.put, List.setIfInBounds_toArray, List.set_cons_zero, List.set_cons_succ]
  refine takeF_on (i := 7) (d := some 86) (v := .int .i64 (SS * FF)) rfl rfl (by kernel_rfl) (fun _ _ _ h => h) (by rfl) (by (intro w hSw; (try dsimp only at hSw); go_simp)) (by assumption) ?_
  try simp only [Act.put, List.setIfInBounds_toArray, List.set_cons_zero, List.set_cons_succ]
  refine takeF_on (i := 8) (d := some 87) (v := .int .i64 X) rfl rfl (by kernel_rfl) (fun _ _ _ h => h) (by rfl) (by (intro w hSw; (try dsimp only at hSw); go_simp)) (by assumption) ?_
  try simp only [Act.put, List.setIfInBounds_toArray, List.set_cons_zero, List.set_cons_succ]
  refine takeF_on (i := 9) (d := some 88) (v := .int .i64 C3) rfl rfl (by kernel_rfl) (fun _ _ _ h => h) (by rfl) (by (intro w hSw; (try dsimp only at hSw); go_simp)) (by assumption) ?_
  try simp only [Act.put, List.setIfInBounds_toArray, List.set_cons_zero, List.set_cons_succ]
  refine wpAnyF_ready (rs := [4]) (by kernel_rfl) (by simp) ?_
  refine AllReadyF.cons rfl (fun K hK => ?_) AllReadyF.nil
  go_simp
  with_reducible refine Calls.mono (HP6.out _) ?_
  rintro en wq2 ⟨rfl, B5⟩
  replace hS := k8_keep B5 hS
  have HO8 := Lib.hid (HO7.out.later B5)
  clear B5
  go_wp2_with fail
  refine hK.out _ _ hS (fun hHeld => ?_)
  clear hK K hHeld
  try simp only [Act.put, List.setIfInBounds_toArray, List.set_cons_zero, List.set_cons_succ]
  obtain ⟨wr2, hru, O6, G6⟩ := run_put HO8.out (by unfold maxLen; omega) HWc.out HWN.out HWC3.out
  refine wpAnyF_ready (rs := [10]) (by kernel_rfl) (by simp) ?_
  refine AllReadyF.last rfl (by decide) (fun K hK => ?_) AllReadyF.nil
  go_simp
  refine hK.out _ _ ?_
  clear hK K
  try simp only [Act.put]
  refine wpAnyF_done (by kernel_rfl) ?_
  clear u1 u2 u3 u4 u5 u6 u7 u8 u9 u10 q1 q8 q9 q10 hru
  replace hS := k8_grown G6 hm0 HBL.out hS
  have HO := Lib.hid O6
  clear O6 G6 HO7 HO8
  go_wp2
  exact bodyPost_ret (v := .tuple #[.map (some m), .int .i64 FF]) (by simp (maxDischargeDepth := 8) [results, Try.results203, go_sem, *]) rfl ⟨m, _, rfl, by have := HS0.out; omega, HO.out.mono (by omega), HL.out, HB0.out.trans (hS.2.2.2.2.2.2.2.2.2.2.mono HB0.out.size)⟩
set_option maxRecDepth 8000 in
set_option maxHeartbeats 6400000 in
theorem impl_replTri (N : Nat) (e s a b c : Int) (v : Value) (ws : List W3) (w : World) (hr : ReadsW w v ws) (hOk : TriOk N e s a b c ws) :
    Calls Try.prog 51 #[.agg #[.int .i64 N, .int .i64 e, .int .i64 s, v], .iface 126 (.agg #[.int .i64 a, .int .i64 b, .int .i64 c])] w (AnsN w (redR ((N : Int) + 1) e (s * triF ws a b c) (triL N ws a b c))) := by
  obtain ⟨hb, a0, ab, bc, cN, hx, hy, hz⟩ := id hOk
  have hV := netB_iff.1 hb
  have n5 := hV.1.2.1
  have hlen := wiresV_len hV.2.1 n5
  have hTN := triN_of hV.2.1 hx hy hz hV.1.2.2.2.2.1 hV.1.2.2.2.2.2
  have hsF := hTN.sF_le
  have hH := triL_held hV.2.1 a0 ab bc cN hx hy hz
  have hML := triL_len N ws a b c
  have hex := fun W h => impl_exTri N e s a b c v ws W h hOk
  have hre := fun m f W (h : owns2 W m 60 f) (hL : Lists f (triL N ws a b c)) => impl_rescaled N e s ((N : Int) + 1) (triF ws a b c) v m 60 f (triL N ws a b c) W (by omega) h hL (heldG_wf hH (by omega)) (heldG_B hH (by omega)) (by omega) hsF.1 (by omega) (heldG_dropZ hH)
  obtain ⟨n', e', s', out, bb, hR⟩ : ∃ n' e' s' out bb, redR ((N : Int) + 1) e (s * triF ws a b c) (triL N ws a b c) = (n', e', s', out, bb) := ⟨_, _, _, _, _, rfl⟩
  simp only [hR] at hre
  rw [hR]
  have HEX := Lib.hid hex; have HRE := Lib.hid hre
  have hn1 : wrap64 ((N : Int) + 1) = (N : Int) + 1 := by unfold wrap64; omega
  clear hex hre hR hH hML hTN hsF hlen hV hb hx hy hz hOk
  generalize triL (N : Int) ws a b c = LL at *
  generalize triF ws a b c = FF at *
  obtain ⟨W0, hW0⟩ : ∃ W0, W0 = (w.alloc (.cells #[.int .i64 N, .int .i64 e, .int .i64 s, v] 25)).alloc (.cells #[.int .i64 0, .int .i64 0, .int .i64 0, .slice none 0 0] 25) := ⟨_, rfl⟩
  have hs0 : W0.heap.size = w.heap.size + 2 := by rw [hW0]; simp
  have HX : Hid (boxN W0 w.heap.size N e s v) := Lib.hid (by rw [hW0]; exact (boxN.new w N e s v 25).later (by (repeat (first | exact Below.refl _ _ | (refine Below.setCell ?_ (by (first | exact Nat.le_refl _ | omega | (simp <;> omega) | simp)) _) | (refine Below.alloc ?_ (by (first | exact Nat.le_refl _ | omega | (simp <;> omega) | simp)) _) | (refine below_draws ?_ _)))))
  have HZ : Hid (box4 W0 (w.heap.size + 1) (.int .i64 0) (.int .i64 0) (.int .i64 0) (.slice none 0 0)) := Lib.hid (by rw [hW0]; have h := box4.new (w.alloc (.cells #[.int .i64 N, .int .i64 e, .int .i64 s, v] 25)) (.int .i64 0) (.int .i64 0) (.int .i64 0) (.slice none 0 0) 25; simpa using h)
  have HB0 : Hid (Below w.heap.size w W0) := Lib.hid (by rw [hW0]; (repeat (first | exact Below.refl _ _ | (refine Below.setCell ?_ (by (first | exact Nat.le_refl _ | omega | (simp <;> omega) | simp)) _) | (refine Below.alloc ?_ (by (first | exact Nat.le_refl _ | omega | (simp <;> omega) | simp)) _) | (refine below_draws ?_ _))))
  have HR0 := Lib.hid (hr.later HB0.out)
  obtain ⟨x0, x1, x2, x3⟩ := HX.out
  clear hr
  have hss := as_ts
  have htt := as_tt
  go_enter Try.func51, Try.ntmps51
  go_wp2_with fail
  rw [← hW0]
  clear hW0
  refine (HEX.out _ HR0.out).mono ?_
  rintro en w1 ⟨m, f, rfl, hb, o1, L1, B1⟩
  have HX1 := Lib.hid (HX.out.later B1)
  have S1 := B1.size
  have HRE2 := Lib.hid (HRE.out m f _ o1 L1)
  clear x0 x1 x2 x3 o1 L1
  obtain ⟨x0, x1, x2, x3⟩ := HX1.out
  go_wp2_with fail
  refine HRE2.out.mono ?_
  rintro en w2 ⟨p2, c2, rfl, o2, B2⟩
  obtain ⟨z0, z1, z2, z3, f0, f1, f2, f3, -⟩ := (HZ.out.later B1).later B2
  have S2 := B2.size
  have HO2 := Lib.hid o2
  clear x0 x1 x2 x3 o2
  go_wp2
  exact bodyPost_ret (v := .tuple #[.agg #[.int .i64 n', .int .i64 e', .int .i64 s', .slice p2 out.length c2], .bool bb]) (by simp (maxDischargeDepth := 8) [results, Try.results51, go_sem, *]) rfl ⟨p2, c2, rfl, by refine owns_mono (base := w1.heap.size) ?_ (by omega); have o2 := HO2.out; ((repeat (refine ownsRow_setCell_below ?_ ?_ _; rotate_left; focus (first | omega | (simp; done) | (simp; omega)))); with_reducible exact o2), by have h0 := HB0.out; (repeat (first | exact Below.refl _ _ | (refine Below.setCell ?_ (by (first | exact Nat.le_refl _ | omega | (simp <;> omega) | simp)) _) | (refine Below.alloc ?_ (by (first | exact Nat.le_refl _ | omega | (simp <;> omega) | simp)) _) | (refine below_draws ?_ _) | exact h0 | (refine Below.trans ?_ (Below.mono h0 (by (first | exact Nat.le_refl _ | omega | (simp <;> omega) | simp)))) | exact B1 | (refine Below.trans ?_ (Below.mono B1 (by (first | exact Nat.le_refl _ | omega | (simp <;> omega) | simp)))) | exact B2 | (refine Below.trans ?_ (Below.mono B2 (by (first | exact Nat.le_refl _ | omega | (simp <;> omega) | simp))))))⟩
end Go.Proofs.Ythhnicbkldknlaa
