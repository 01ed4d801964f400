/-
  TriangleStar in the program: the function itself.
-/
import Derived.Test.YthhnicbkldknlaaTriEx
namespace Go.Proofs.Ythhnicbkldknlaa
open Go.RowKit Go.Maps
set_option maxRecDepth 8000 in
set_option maxHeartbeats 12800000 in
theorem impl_triangleStar (n e s a b c : Int) (v : Value) (ws : List W3) (w : World) (hr : ReadsW w v ws) :
    Calls Try.prog 24 #[.agg #[.int .i64 n, .int .i64 e, .int .i64 s, v], .int .i64 a, .int .i64 b, .int .i64 c] w (AnsN w (triR n e s a b c ws)) := by
  obtain ⟨W0, hW0⟩ : ∃ W0, W0 = (w.alloc (.cells #[.int .i64 n, .int .i64 e, .int .i64 s, v] 25)).alloc (.cells #[.int .i64 0, .int .i64 0, .int .i64 0, .slice none 0 0] 25) := ⟨_, rfl⟩
  have hs0 : W0.heap.size = w.heap.size + 2 := by rw [hW0]; simp
  have HS0 := Lib.hid hs0
  have HX : Hid (boxN W0 w.heap.size n e s v) := Lib.hid (by rw [hW0]; exact (boxN.new w n e s v 25).later (by (repeat (first | exact Below.refl _ _ | (refine Below.setCell ?_ (by (first | exact Nat.le_refl _ | omega | (simp <;> omega) | simp)) _) | (refine Below.alloc ?_ (by (first | exact Nat.le_refl _ | omega | (simp <;> omega) | simp)) _) | (refine below_draws ?_ _)))))
  have HZ : Hid (box4 W0 (w.heap.size + 1) (.int .i64 0) (.int .i64 0) (.int .i64 0) (.slice none 0 0)) := Lib.hid (by rw [hW0]; have h := box4.new (w.alloc (.cells #[.int .i64 n, .int .i64 e, .int .i64 s, v] 25)) (.int .i64 0) (.int .i64 0) (.int .i64 0) (.slice none 0 0) 25; simpa using h)
  have HB0 : Hid (Below w.heap.size w W0) := Lib.hid (by rw [hW0]; (repeat (first | exact Below.refl _ _ | (refine Below.setCell ?_ (by (first | exact Nat.le_refl _ | omega | (simp <;> omega) | simp)) _) | (refine Below.alloc ?_ (by (first | exact Nat.le_refl _ | omega | (simp <;> omega) | simp)) _) | (refine below_draws ?_ _))))
  have HR0 := Lib.hid (hr.later HB0.out)
  by_cases hOk : TriOk n e s a b c ws
  · obtain ⟨hV, -⟩ := id hOk
    obtain ⟨n1, n5, e1, -⟩ := (netB_iff.1 hV).1
    obtain ⟨N, rfl⟩ : ∃ N : Nat, n = N := ⟨n.toNat, by omega⟩
    rw [triR_yes hOk]
    have HST : Hid (∀ W, ReadsW W v ws → Calls Try.prog 60 #[.agg #[.int .i64 N, .int .i64 e, .int .i64 s, v], .int .i64 a, .int .i64 b, .int .i64 c] W fun en w' => en = .returned (.iface 126 (.agg #[.int .i64 a, .int .i64 b, .int .i64 c])) ∧ Below W.heap.size W w') := Lib.hid (fun W h => (impl_triangleAt N e s a b c v ws W h).mono fun en w' h' => ⟨h'.1 hOk, h'.2.2⟩)
    have hre := fun W (h : ReadsW W v ws) => impl_replTri N e s a b c v ws W h hOk
    obtain ⟨n', e', s', out, bb, hR⟩ : ∃ n' e' s' out bb, redR ((N : Int) + 1) e (s * triF ws a b c) (triL N ws a b c) = (n', e', s', out, bb) := ⟨_, _, _, _, _, rfl⟩
    simp only [hR] at hre
    rw [hR]
    have HRE := Lib.hid hre
    clear hre hR hV hOk n1 n5 e1
    have hS : W0.cell? ⟨w.heap.size, 0, none⟩ = some (.int .i64 N) ∧ W0.cell? ⟨w.heap.size, 1, none⟩ = some (.int .i64 e) ∧ W0.cell? ⟨w.heap.size, 2, none⟩ = some (.int .i64 s) ∧ W0.cell? ⟨w.heap.size, 3, none⟩ = some (v) ∧ W0.cell? ⟨w.heap.size, 3, none⟩ = some (v) ∧ W0.cell? ⟨w.heap.size, 3, none⟩ = some (v) ∧ W0.heap.size ≤ W0.heap.size ∧ W0.heap.size ≤ W0.heap.size ∧ Below W0.heap.size W0 W0 := by
      obtain ⟨x0, x1, x2, x3⟩ := HX.out
      exact ⟨x0, x1, x2, x3, x3, x3, Nat.le_refl _, Nat.le_refl _, Below.refl _ _⟩
    replace hS := k6_drew hS
    clear hr
    go_enter Try.func24, Try.ntmps24
    go_wp2
    change Code.wp _ _ _ _ (World.alloc _ _)
    rw [← hW0]
    clear hW0
    refine wp_region_F 9 (fun w' => w'.cell? ⟨w.heap.size, 0, none⟩ = some (.int .i64 N) ∧ w'.cell? ⟨w.heap.size, 1, none⟩ = some (.int .i64 e) ∧ w'.cell? ⟨w.heap.size, 2, none⟩ = some (.int .i64 s) ∧ w'.cell? ⟨w.heap.size, 3, none⟩ = some (v) ∧ w'.cell? ⟨w.heap.size, 3, none⟩ = some (v) ∧ w'.cell? ⟨w.heap.size, 3, none⟩ = some (v) ∧ W0.heap.size ≤ w'.heap.size ∧ W0.heap.size ≤ W0.heap.size ∧ Below W0.heap.size W0 w') (by kernel_rfl) hS ?_
    clear hS
    intro hS
    refine takeF_on (i := 0) (d := some 10) (v := .agg #[.int .i64 N, .int .i64 e, .int .i64 s, v]) rfl rfl (by kernel_rfl) (fun _ _ _ h => h) (by rfl) (by (intro w hSw; (try dsimp only at hSw); go_simp)) (by assumption) ?_
    try simp only [Act.put, List.setIfInBounds_toArray, List.set_cons_zero, List.set_cons_succ]
    refine takeF_on (i := 1) (d := some 11) (v := .agg #[.int .i64 N, .int .i64 e, .int .i64 s, v]) rfl rfl (by kernel_rfl) (fun _ _ _ h => h) (by rfl) (by (intro w hSw; (try dsimp only at hSw); go_simp)) (by assumption) ?_
    try simp only [Act.put, List.setIfInBounds_toArray, List.set_cons_zero, List.set_cons_succ]
    refine takeF_on (i := 2) (d := some 12) (v := .int .i64 a) rfl rfl (by kernel_rfl) (fun _ _ _ h => h) (by rfl) (by (intro w hSw; (try dsimp only at hSw); go_simp)) (by assumption) ?_
    try simp only [Act.put, List.setIfInBounds_toArray, List.set_cons_zero, List.set_cons_succ]
    refine takeF_on (i := 3) (d := some 13) (v := .int .i64 b) rfl rfl (by kernel_rfl) (fun _ _ _ h => h) (by rfl) (by (intro w hSw; (try dsimp only at hSw); go_simp)) (by assumption) ?_
    try simp only [Act.put, List.setIfInBounds_toArray, List.set_cons_zero, List.set_cons_succ]
    refine takeF_on (i := 4) (d := some 14) (v := .int .i64 c) rfl rfl (by kernel_rfl) (fun _ _ _ h => h) (by rfl) (by (intro w hSw; (try dsimp only at hSw); go_simp)) (by assumption) ?_
    try simp only [Act.put, List.setIfInBounds_toArray, List.set_cons_zero, List.set_cons_succ]
    refine wpAnyF_ready (rs := [5]) (by kernel_rfl) (by simp) ?_
    refine AllReadyF.cons rfl (fun K hK => ?_) AllReadyF.nil
    go_simp
    with_reducible refine Calls.mono (HST.out _ (HR0.out.later hS.2.2.2.2.2.2.2.2)) ?_
    rintro en w1 ⟨rfl, B1⟩
    replace hS := k6_keep B1 hS
    have S1 := hS.2.2.2.2.2.2.1
    go_wp2_with fail
    refine hK.out _ _ hS (fun hHeld => ?_)
    clear hK K hHeld
    try simp only [Act.put, List.setIfInBounds_toArray, List.set_cons_zero, List.set_cons_succ]
    refine wpAnyF_ready (rs := [6]) (by kernel_rfl) (by simp) ?_
    refine AllReadyF.cons rfl (fun K hK => ?_) AllReadyF.nil
    go_simp
    with_reducible refine Calls.mono (HRE.out _ (HR0.out.later hS.2.2.2.2.2.2.2.2)) ?_
    rintro en w2 ⟨p2, c2, rfl, o2, B2⟩
    replace hS := k6_keep B2 hS
    have HO2 := Lib.hid o2
    have S2 := B2.size
    clear o2
    go_wp2_with fail
    refine hK.out _ _ hS (fun hHeld => ?_)
    clear hK K hHeld
    try simp only [Act.put, List.setIfInBounds_toArray, List.set_cons_zero, List.set_cons_succ]
    refine takeF_on (i := 7) (d := some 17) (v := .agg #[.int .i64 n', .int .i64 e', .int .i64 s', .slice p2 out.length c2]) rfl rfl (by kernel_rfl) (fun _ _ _ h => h) (by rfl) (by (intro w hSw; (try dsimp only at hSw); go_simp)) (by assumption) ?_
    try simp only [Act.put, List.setIfInBounds_toArray, List.set_cons_zero, List.set_cons_succ]
    refine takeF_on (i := 8) (d := some 18) (v := .bool bb) rfl rfl (by kernel_rfl) (fun _ _ _ h => h) (by rfl) (by (intro w hSw; (try dsimp only at hSw); go_simp)) (by assumption) ?_
    try simp only [Act.put, List.setIfInBounds_toArray, List.set_cons_zero, List.set_cons_succ]
    obtain ⟨z0, z1, z2, z3, f0, f1, f2, f3, -⟩ := HZ.out.later hS.2.2.2.2.2.2.2.2
    refine wpAnyF_ready (rs := [9]) (by kernel_rfl) (by simp) ?_
    refine AllReadyF.last rfl (by decide) (fun K hK => ?_) AllReadyF.nil
    go_simp
    refine hK.out _ _ ?_
    clear hK K
    try simp only [Act.put]
    refine wpAnyF_ready (rs := [10]) (by kernel_rfl) (by simp) ?_
    refine AllReadyF.last rfl (by decide) (fun K hK => ?_) AllReadyF.nil
    go_simp
    refine hK.out _ _ ?_
    clear hK K
    try simp only [Act.put, List.setIfInBounds_toArray, List.set_cons_zero, List.set_cons_succ]
    refine wpAnyF_done (by kernel_rfl) ?_
    have hBW := hS.2.2.2.2.2.2.2.2
    clear hS
    go_wp2
    exact bodyPost_ret (v := .tuple #[.agg #[.int .i64 n', .int .i64 e', .int .i64 s', .slice p2 out.length c2], .bool bb]) (by simp (maxDischargeDepth := 8) [results, Try.results24, go_sem, *]) rfl ⟨p2, c2, rfl, by refine owns_mono (base := w1.heap.size) ?_ (by have := HS0.out; omega); have o2 := HO2.out; have h0 := HS0.out; ((repeat (refine ownsRow_setCell_below ?_ ?_ _; rotate_left; focus (first | omega | (simp; done) | (simp; omega)))); with_reducible exact o2), by have h6 := HB0.out; have h7 := hBW; (repeat (first | exact Below.refl _ _ | (refine Below.setCell ?_ (by (first | exact Nat.le_refl _ | omega | (simp <;> omega) | simp)) _) | (refine Below.alloc ?_ (by (first | exact Nat.le_refl _ | omega | (simp <;> omega) | simp)) _) | (refine below_draws ?_ _) | exact h6 | (refine Below.trans ?_ (Below.mono h6 (by (first | exact Nat.le_refl _ | omega | (simp <;> omega) | simp)))) | exact h7 | (refine Below.trans ?_ (Below.mono h7 (by (first | exact Nat.le_refl _ | omega | (simp <;> omega) | simp))))))⟩
  · rw [triR_no hOk]
    have HST : Hid (∀ W, ReadsW W v ws → Calls Try.prog 60 #[.agg #[.int .i64 n, .int .i64 e, .int .i64 s, v], .int .i64 a, .int .i64 b, .int .i64 c] W fun en w' => en = .returned .nilIface ∧ Below W.heap.size W w') := Lib.hid (fun W h => (impl_triangleAt n e s a b c v ws W h).mono fun en w' h' => ⟨h'.2.1 hOk, h'.2.2⟩)
    clear hOk
    have hS : W0.cell? ⟨w.heap.size, 0, none⟩ = some (.int .i64 n) ∧ W0.cell? ⟨w.heap.size, 1, none⟩ = some (.int .i64 e) ∧ W0.cell? ⟨w.heap.size, 2, none⟩ = some (.int .i64 s) ∧ W0.cell? ⟨w.heap.size, 3, none⟩ = some (v) ∧ W0.cell? ⟨w.heap.size, 3, none⟩ = some (v) ∧ W0.cell? ⟨w.heap.size, 3, none⟩ = some (v) ∧ W0.heap.size ≤ W0.heap.size ∧ W0.heap.size ≤ W0.heap.size ∧ Below W0.heap.size W0 W0 := by
      obtain ⟨x0, x1, x2, x3⟩ := HX.out
      exact ⟨x0, x1, x2, x3, x3, x3, Nat.le_refl _, Nat.le_refl _, Below.refl _ _⟩
    replace hS := k6_drew hS
    clear hr
    go_enter Try.func24, Try.ntmps24
    go_wp2
    change Code.wp _ _ _ _ (World.alloc _ _)
    rw [← hW0]
    clear hW0
    refine wp_region_F 9 (fun w' => w'.cell? ⟨w.heap.size, 0, none⟩ = some (.int .i64 n) ∧ w'.cell? ⟨w.heap.size, 1, none⟩ = some (.int .i64 e) ∧ w'.cell? ⟨w.heap.size, 2, none⟩ = some (.int .i64 s) ∧ w'.cell? ⟨w.heap.size, 3, none⟩ = some (v) ∧ w'.cell? ⟨w.heap.size, 3, none⟩ = some (v) ∧ w'.cell? ⟨w.heap.size, 3, none⟩ = some (v) ∧ W0.heap.size ≤ w'.heap.size ∧ W0.heap.size ≤ W0.heap.size ∧ Below W0.heap.size W0 w') (by kernel_rfl) hS ?_
    clear hS
    intro hS
    refine takeF_on (i := 0) (d := some 10) (v := .agg #[.int .i64 n, .int .i64 e, .int .i64 s, v]) rfl rfl (by kernel_rfl) (fun _ _ _ h => h) (by rfl) (by (intro w hSw; (try dsimp only at hSw); go_simp)) (by assumption) ?_
    try simp only [Act.put, List.setIfInBounds_toArray, List.set_cons_zero, List.set_cons_succ]
    refine takeF_on (i := 1) (d := some 11) (v := .agg #[.int .i64 n, .int .i64 e, .int .i64 s, v]) rfl rfl (by kernel_rfl) (fun _ _ _ h => h) (by rfl) (by (intro w hSw; (try dsimp only at hSw); go_simp)) (by assumption) ?_
    try simp only [Act.put, List.setIfInBounds_toArray, List.set_cons_zero, List.set_cons_succ]
    refine takeF_on (i := 2) (d := some 12) (v := .int .i64 a) rfl rfl (by kernel_rfl) (fun _ _ _ h => h) (by rfl) (by (intro w hSw; (try dsimp only at hSw); go_simp)) (by assumption) ?_
    try simp only [Act.put, List.setIfInBounds_toArray, List.set_cons_zero, List.set_cons_succ]
    refine takeF_on (i := 3) (d := some 13) (v := .int .i64 b) rfl rfl (by kernel_rfl) (fun _ _ _ h => h) (by rfl) (by (intro w hSw; (try dsimp only at hSw); go_simp)) (by assumption) ?_
    try simp only [Act.put, List.setIfInBounds_toArray, List.set_cons_zero, List.set_cons_succ]
    refine takeF_on (i := 4) (d := some 14) (v := .int .i64 c) rfl rfl (by kernel_rfl) (fun _ _ _ h => h) (by rfl) (by (intro w hSw; (try dsimp only at hSw); go_simp)) (by assumption) ?_
    try simp only [Act.put, List.setIfInBounds_toArray, List.set_cons_zero, List.set_cons_succ]
    refine wpAnyF_ready (rs := [5]) (by kernel_rfl) (by simp) ?_
    refine AllReadyF.cons rfl (fun K hK => ?_) AllReadyF.nil
    go_simp
    with_reducible refine Calls.mono (HST.out _ (HR0.out.later hS.2.2.2.2.2.2.2.2)) ?_
    rintro en w1 ⟨rfl, B1⟩
    replace hS := k6_keep B1 hS
    have S1 := hS.2.2.2.2.2.2.1
    go_wp2_with fail
    refine hK.out _ _ hS (fun hHeld => ?_)
    clear hK K hHeld
    try simp only [Act.put, List.setIfInBounds_toArray, List.set_cons_zero, List.set_cons_succ]
    refine wpAnyF_ready (rs := [6]) (by kernel_rfl) (by simp) ?_
    refine AllReadyF.cons rfl (fun K hK => ?_) AllReadyF.nil
    go_simp
    with_reducible refine Calls.mono (impl_replNil n e s v _) ?_
    rintro en w2 ⟨p2, c2, rfl, o2, B2⟩
    replace hS := k6_keep B2 hS
    have HO2 := Lib.hid o2
    have S2 := B2.size
    clear o2
    go_wp2_with fail
    refine hK.out _ _ hS (fun hHeld => ?_)
    clear hK K hHeld
    try simp only [Act.put, List.setIfInBounds_toArray, List.set_cons_zero, List.set_cons_succ]
    refine takeF_on (i := 7) (d := some 17) (v := .agg #[.int .i64 0, .int .i64 0, .int .i64 0, .slice p2 0 c2]) rfl rfl (by kernel_rfl) (fun _ _ _ h => h) (by rfl) (by (intro w hSw; (try dsimp only at hSw); go_simp)) (by assumption) ?_
    try simp only [Act.put, List.setIfInBounds_toArray, List.set_cons_zero, List.set_cons_succ]
    refine takeF_on (i := 8) (d := some 18) (v := .bool false) rfl rfl (by kernel_rfl) (fun _ _ _ h => h) (by rfl) (by (intro w hSw; (try dsimp only at hSw); go_simp)) (by assumption) ?_
    try simp only [Act.put, List.setIfInBounds_toArray, List.set_cons_zero, List.set_cons_succ]
    obtain ⟨z0, z1, z2, z3, f0, f1, f2, f3, -⟩ := HZ.out.later hS.2.2.2.2.2.2.2.2
    refine wpAnyF_ready (rs := [9]) (by kernel_rfl) (by simp) ?_
    refine AllReadyF.last rfl (by decide) (fun K hK => ?_) AllReadyF.nil
    go_simp
    refine hK.out _ _ ?_
    clear hK K
    try simp only [Act.put]
    refine wpAnyF_ready (rs := [10]) (by kernel_rfl) (by simp) ?_
    refine AllReadyF.last rfl (by decide) (fun K hK => ?_) AllReadyF.nil
    go_simp
    refine hK.out _ _ ?_
    clear hK K
    try simp only [Act.put, List.setIfInBounds_toArray, List.set_cons_zero, List.set_cons_succ]
    refine wpAnyF_done (by kernel_rfl) ?_
    have hBW := hS.2.2.2.2.2.2.2.2
    clear hS
    go_wp2
    exact bodyPost_ret (v := .tuple #[.agg #[.int .i64 0, .int .i64 0, .int .i64 0, .slice p2 0 c2], .bool false]) (by simp (maxDischargeDepth := 8) [results, Try.results24, go_sem, *]) rfl ⟨p2, c2, rfl, by refine owns_mono (base := w1.heap.size) ?_ (by have := HS0.out; omega); have o2 := HO2.out; have h0 := HS0.out; ((repeat (refine ownsRow_setCell_below ?_ ?_ _; rotate_left; focus (first | omega | (simp; done) | (simp; omega)))); with_reducible exact o2), by have h6 := HB0.out; have h7 := hBW; (repeat (first | exact Below.refl _ _ | (refine Below.setCell ?_ (by (first | exact Nat.le_refl _ | omega | (simp <;> omega) | simp)) _) | (refine Below.alloc ?_ (by (first | exact Nat.le_refl _ | omega | (simp <;> omega) | simp)) _) | (refine below_draws ?_ _) | exact h6 | (refine Below.trans ?_ (Below.mono h6 (by (first | exact Nat.le_refl _ | omega | (simp <;> omega) | simp)))) | exact h7 | (refine Below.trans ?_ (Below.mono h7 (by (first | exact Nat.le_refl _ | omega | (simp <;> omega) | simp))))))⟩
end Go.Proofs.Ythhnicbkldknlaa
