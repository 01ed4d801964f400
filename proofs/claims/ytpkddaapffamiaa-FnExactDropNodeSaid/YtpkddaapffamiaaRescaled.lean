/-
  rescaledNet in the program: the wires of a map, divided by their greatest common divisor, as a network.
-/
import Derived.Test.YtpkddaapffamiaaDivided
import Derived.Test.YtpkddaapffamiaaWithWires
import Derived.Test.YtpkddaapffamiaaReduced
import Derived.Test.YtpkddaapffamiaaGKeep
import Derived.Test.YtpkddaapffamiaaBoxes
import Derived.Test.YtpkddaapffamiaaPutWireSpec
namespace Go.Proofs.Ytpkddaapffamiaa
open Go.RowKit Go.Maps

theorem redR_with' {n e s : Int} {ws : List W3} (h : dropZ ws = ws) : redR n e s ws = withR n e (s.tdiv (gAll s ws)) (ws.map (divW (gAll s ws))) := by
  unfold redR withR; rw [h]
set_option maxRecDepth 8000 in
set_option maxHeartbeats 12800000 in
theorem impl_rescaled (n e s m X : Int) (v : Value) (b C : Nat) (f : Int → Int → Option Int) (M : List W3) (w : World) (hC : C ≤ 1000000) (h : owns2 w b C f) (hM : Lists f M) (wM : ∀ t ∈ M, (Lit.int .i64 t.1).wf = true ∧ (Lit.int .i64 t.2.1).wf = true) (hB : WiresB M) (hlen : M.length ≤ 1048576) (s1 : 1 ≤ s * X) (s2 : s * X ≤ 1000000000000) (hz : dropZ M = M) :
    Calls Try.prog 122 #[.agg #[.int .i64 n, .int .i64 e, .int .i64 s, v], .int .i64 m, .map (some b), .int .i64 X] w (AnsN w (redR m e (s * X) M)) := by
  rw [redR_with' hz]
  have hDIV := fun v' W (h : ReadsW W v' M) => impl_divided m e (s * X) v' M W h hB s1 s2 hlen
  have hLen2 : (M.map (divW (gAll (s * X) M))).length = M.length := by simp
  obtain ⟨n', e', s', out, bb, hR⟩ : ∃ n' e' s' out bb, withR m e ((s * X).tdiv (gAll (s * X) M)) (M.map (divW (gAll (s * X) M))) = (n', e', s', out, bb) := ⟨_, _, _, _, _, rfl⟩
  rw [hR]
  have hmw : IntKind.i64.wrap (s * X) = s * X := IntWalk.i64_in _ (by omega)
  have hmw2 : wrap64 (s * X) = s * X := by unfold wrap64; omega
  have HRR := Lib.hid hR
  generalize gAll (s * X) M = GG at *
  generalize M.map (divW GG) = MD at *
  generalize (s * X).tdiv GG = SD at *
  have HDIV := Lib.hid hDIV; have HLN := Lib.hid hLen2; have HM := Lib.hid hM; have HMW := Lib.hid wM; have HCC := Lib.hid hC
  clear hDIV hLen2 hR hB hlen s1 s2 hz hM wM hC
  obtain ⟨W0, hW0⟩ : ∃ W0, W0 = (w.alloc (.cells #[.int .i64 n, .int .i64 e, .int .i64 s, v] 25)).alloc (.cells #[.int .i64 0, .int .i64 0, .int .i64 0, .slice none 0 0] 25) := ⟨_, rfl⟩
  have hs0 : W0.heap.size = w.heap.size + 2 := by rw [hW0]; simp
  have HX : Hid (boxN W0 w.heap.size n e s v) := Lib.hid (by rw [hW0]; exact (boxN.new w n e s v 25).later (by (repeat (first | exact Below.refl _ _ | (refine Below.setCell ?_ (by (first | exact Nat.le_refl _ | omega | (simp <;> omega) | simp)) _) | (refine Below.alloc ?_ (by (first | exact Nat.le_refl _ | omega | (simp <;> omega) | simp)) _) | (refine below_draws ?_ _)))))
  have HZ : Hid (box4 W0 (w.heap.size + 1) (.int .i64 0) (.int .i64 0) (.int .i64 0) (.slice none 0 0)) := Lib.hid (by rw [hW0]; have h := box4.new (w.alloc (.cells #[.int .i64 n, .int .i64 e, .int .i64 s, v] 25)) (.int .i64 0) (.int .i64 0) (.int .i64 0) (.slice none 0 0) 25; simpa using h)
  have HB0 : Hid (Below w.heap.size w W0) := Lib.hid (by rw [hW0]; (repeat (first | exact Below.refl _ _ | (refine Below.setCell ?_ (by (first | exact Nat.le_refl _ | omega | (simp <;> omega) | simp)) _) | (refine Below.alloc ?_ (by (first | exact Nat.le_refl _ | omega | (simp <;> omega) | simp)) _) | (refine below_draws ?_ _))))
  have HO0 := Lib.hid (h.later HB0.out)
  have hS : W0.cell? ⟨w.heap.size, 1, none⟩ = some (.int .i64 e) ∧ W0.cell? ⟨w.heap.size, 2, none⟩ = some (.int .i64 s) ∧ W0.cell? ⟨w.heap.size, 2, none⟩ = some (.int .i64 s) ∧ W0.cell? ⟨w.heap.size, 2, none⟩ = some (.int .i64 s) ∧ W0.cell? ⟨w.heap.size, 2, none⟩ = some (.int .i64 s) ∧ W0.cell? ⟨w.heap.size, 2, none⟩ = some (.int .i64 s) ∧ W0.heap.size ≤ W0.heap.size ∧ W0.heap.size ≤ W0.heap.size ∧ Below W0.heap.size W0 W0 := by
    obtain ⟨x0, x1, x2, x3⟩ := HX.out
    exact ⟨x1, x2, x2, x2, x2, x2, Nat.le_refl _, Nat.le_refl _, Below.refl _ _⟩
  replace hS := k6_drew hS
  clear h
  go_enter Try.func122, Try.ntmps122
  go_wp2
  change Code.wp _ _ _ _ (World.alloc _ _)
  rw [← hW0]
  clear hW0
  refine wp_region_F 14 (fun w' => w'.cell? ⟨w.heap.size, 1, none⟩ = some (.int .i64 e) ∧ w'.cell? ⟨w.heap.size, 2, none⟩ = some (.int .i64 s) ∧ w'.cell? ⟨w.heap.size, 2, none⟩ = some (.int .i64 s) ∧ w'.cell? ⟨w.heap.size, 2, none⟩ = some (.int .i64 s) ∧ w'.cell? ⟨w.heap.size, 2, none⟩ = some (.int .i64 s) ∧ w'.cell? ⟨w.heap.size, 2, none⟩ = some (.int .i64 s) ∧ W0.heap.size ≤ w'.heap.size ∧ W0.heap.size ≤ W0.heap.size ∧ Below W0.heap.size W0 w') (by kernel_rfl) hS ?_
  clear hS
  intro hS
  refine takeF_on (i := 0) (d := some 10) (v := .int .i64 m) rfl rfl (by kernel_rfl) (fun _ _ _ h => h) (by rfl) (by (intro w hSw; (try dsimp only at hSw); go_simp)) (by assumption) ?_
  try simp only [Act.put, List.setIfInBounds_toArray, List.set_cons_zero, List.set_cons_succ]
  refine takeF_on (i := 1) (d := some 11) (v := .pointer (some ⟨w.heap.size, 1, none⟩)) rfl rfl (by kernel_rfl) (fun _ _ _ h => h) (by rfl) (by (intro w hSw; (try dsimp only at hSw); go_simp)) (by assumption) ?_
  try simp only [Act.put, List.setIfInBounds_toArray, List.set_cons_zero, List.set_cons_succ]
  refine takeF_on (i := 2) (d := some 12) (v := .int .i64 e) rfl rfl (by kernel_rfl) (fun _ _ _ h => h) (by rfl) (by (intro w hSw; (try dsimp only at hSw); go_simp)) (by assumption) ?_
  try simp only [Act.put, List.setIfInBounds_toArray, List.set_cons_zero, List.set_cons_succ]
  refine takeF_on (i := 3) (d := some 13) (v := .pointer (some ⟨w.heap.size, 2, none⟩)) rfl rfl (by kernel_rfl) (fun _ _ _ h => h) (by rfl) (by (intro w hSw; (try dsimp only at hSw); go_simp)) (by assumption) ?_
  try simp only [Act.put, List.setIfInBounds_toArray, List.set_cons_zero, List.set_cons_succ]
  refine takeF_on (i := 4) (d := some 14) (v := .int .i64 s) rfl rfl (by kernel_rfl) (fun _ _ _ h => h) (by rfl) (by (intro w hSw; (try dsimp only at hSw); go_simp)) (by assumption) ?_
  try simp only [Act.put, List.setIfInBounds_toArray, List.set_cons_zero, List.set_cons_succ]
  refine takeF_on (i := 5) (d := some 15) (v := .int .i64 X) rfl rfl (by kernel_rfl) (fun _ _ _ h => h) (by rfl) (by (intro w hSw; (try dsimp only at hSw); go_simp)) (by assumption) ?_
  try simp only [Act.put, List.setIfInBounds_toArray, List.set_cons_zero, List.set_cons_succ]
  refine takeF_on (i := 6) (d := some 16) (v := .int .i64 (s * X)) rfl rfl (by kernel_rfl) (fun _ _ _ h => h) (by rfl) (by (intro w hSw; (try dsimp only at hSw); go_simp)) (by assumption) ?_
  try simp only [Act.put, List.setIfInBounds_toArray, List.set_cons_zero, List.set_cons_succ]
  refine takeF_on (i := 7) (d := some 17) (v := .map (some b)) rfl rfl (by kernel_rfl) (fun _ _ _ h => h) (by rfl) (by (intro w hSw; (try dsimp only at hSw); go_simp)) (by assumption) ?_
  try simp only [Act.put, List.setIfInBounds_toArray, List.set_cons_zero, List.set_cons_succ]
  refine wpAnyF_ready (rs := [8]) (by kernel_rfl) (by simp) ?_
  refine AllReadyF.cons rfl (fun K hK => ?_) AllReadyF.nil
  go_simp
  with_reducible refine Calls.mono (wiresOf_any b C _ _ HCC.out (HO0.out.later hS.2.2.2.2.2.2.2.2)) ?_
  rintro en w6 ⟨p6, c6, L6, rfl, o6, hL6, wL6, B6⟩
  have hLe := lists_unique hL6 HM.out wL6 HMW.out
  clear hL6 wL6
  subst L6
  replace hS := k6_keep B6 hS
  have S6 := hS.2.2.2.2.2.2.1
  go_wp2_with fail
  refine hK.out _ _ hS (fun hHeld => ?_)
  clear hK K hHeld
  try simp only [Act.put, List.setIfInBounds_toArray, List.set_cons_zero, List.set_cons_succ]
  refine takeF_on (i := 9) (d := some 19) (v := .agg #[.int .i64 m, .int .i64 e, .int .i64 (s * X), .slice p6 M.length c6]) rfl rfl (by kernel_rfl) (fun _ _ _ h => h) (by rfl) (by (intro w hSw; (try dsimp only at hSw); go_simp)) (by assumption) ?_
  try simp only [Act.put, List.setIfInBounds_toArray, List.set_cons_zero, List.set_cons_succ]
  refine wpAnyF_ready (rs := [10]) (by kernel_rfl) (by simp) ?_
  refine AllReadyF.cons rfl (fun K hK => ?_) AllReadyF.nil
  go_simp
  with_reducible refine Calls.mono (HDIV.out _ _ (ReadsW.of_own o6)) ?_
  rintro en w7 ⟨p7, c7, rfl, o7, B7⟩
  replace hS := k6_keep B7 hS
  rw [← HLN.out] at o7
  have hov := onlyValid_own m e SD _ p7 c7 MD _ o7
  rw [HRR.out, HLN.out] at hov
  have HOV := Lib.hid hov
  have S7 := B7.size
  clear hov o7 o6
  go_wp2_with fail
  refine hK.out _ _ hS (fun hHeld => ?_)
  clear hK K hHeld
  try simp only [Act.put, List.setIfInBounds_toArray, List.set_cons_zero, List.set_cons_succ]
  refine wpAnyF_ready (rs := [11]) (by kernel_rfl) (by simp) ?_
  refine AllReadyF.cons rfl (fun K hK => ?_) AllReadyF.nil
  go_simp
  with_reducible refine Calls.mono HOV.out ?_
  rintro en w8 ⟨p8, c8, rfl, o8, B8⟩
  replace hS := k6_keep B8 hS
  have HO8 := Lib.hid o8
  have S8 := B8.size
  clear o8
  go_wp2_with fail
  refine hK.out _ _ hS (fun hHeld => ?_)
  clear hK K hHeld
  try simp only [Act.put, List.setIfInBounds_toArray, List.set_cons_zero, List.set_cons_succ]
  refine takeF_on (i := 12) (d := some 22) (v := .agg #[.int .i64 n', .int .i64 e', .int .i64 s', .slice p8 out.length c8]) rfl rfl (by kernel_rfl) (fun _ _ _ h => h) (by rfl) (by (intro w hSw; (try dsimp only at hSw); go_simp)) (by assumption) ?_
  try simp only [Act.put, List.setIfInBounds_toArray, List.set_cons_zero, List.set_cons_succ]
  refine takeF_on (i := 13) (d := some 23) (v := .bool bb) rfl rfl (by kernel_rfl) (fun _ _ _ h => h) (by rfl) (by (intro w hSw; (try dsimp only at hSw); go_simp)) (by assumption) ?_
  try simp only [Act.put, List.setIfInBounds_toArray, List.set_cons_zero, List.set_cons_succ]
  obtain ⟨z0, z1, z2, z3, f0, f1, f2, f3, -⟩ := HZ.out.later hS.2.2.2.2.2.2.2.2
  refine wpAnyF_ready (rs := [14]) (by kernel_rfl) (by simp) ?_
  refine AllReadyF.last rfl (by decide) (fun K hK => ?_) AllReadyF.nil
  go_simp
  refine hK.out _ _ ?_
  clear hK K
  try simp only [Act.put, List.setIfInBounds_toArray, List.set_cons_zero, List.set_cons_succ]
  refine wpAnyF_ready (rs := [15]) (by kernel_rfl) (by simp) ?_
  refine AllReadyF.last rfl (by decide) (fun K hK => ?_) AllReadyF.nil
  go_simp
  refine hK.out _ _ ?_
  clear hK K
  try simp only [Act.put, List.setIfInBounds_toArray, List.set_cons_zero, List.set_cons_succ]
  refine wpAnyF_done (by kernel_rfl) ?_
  have hBW := hS.2.2.2.2.2.2.2.2
  clear hS
  go_wp2
  exact bodyPost_ret (v := .tuple #[.agg #[.int .i64 n', .int .i64 e', .int .i64 s', .slice p8 out.length c8], .bool bb]) (by simp (maxDischargeDepth := 8) [results, Try.results122, go_sem, *]) rfl ⟨p8, c8, rfl, by refine owns_mono (base := w6.heap.size) ?_ (by omega); have o8 := HO8.out; ((repeat (refine ownsRow_setCell_below ?_ ?_ _; rotate_left; focus (first | omega | (simp; done) | (simp; omega)))); with_reducible exact o8), by have h6 := HB0.out; have h7 := hBW; (repeat (first | exact Below.refl _ _ | (refine Below.setCell ?_ (by (first | exact Nat.le_refl _ | omega | (simp <;> omega) | simp)) _) | (refine Below.alloc ?_ (by (first | exact Nat.le_refl _ | omega | (simp <;> omega) | simp)) _) | (refine below_draws ?_ _) | exact h6 | (refine Below.trans ?_ (Below.mono h6 (by (first | exact Nat.le_refl _ | omega | (simp <;> omega) | simp)))) | exact h7 | (refine Below.trans ?_ (Below.mono h7 (by (first | exact Nat.le_refl _ | omega | (simp <;> omega) | simp))))))⟩
end Go.Proofs.Ytpkddaapffamiaa
