/-
  TriangleStar in the program: a triangle as one of the parts that are replaced.
-/
import Derived.Test.YthhnicbkldknlaaTriMath
import Derived.Test.YthhnicbkldknlaaStarImpl
import Derived.Test.YthhnicbkldknlaaAscPair
import Derived.BigQuiet
import Derived.Lib.MinMax
namespace Go.Proofs.Ythhnicbkldknlaa
open Go.RowKit Go.Maps

set_option maxRecDepth 8000 in
set_option maxHeartbeats 12800000 in
theorem impl_weightsIn (n e s a b c : Int) (v : Value) (ws : List W3) (w : World) (hr : ReadsW w v ws) :
    Calls Try.prog 99 #[.agg #[.int .i64 a, .int .i64 b, .int .i64 c], .agg #[.int .i64 n, .int .i64 e, .int .i64 s, v]] w fun en w' => en = .returned (.tuple #[.int .i64 (wBtw ws a b), .int .i64 (wBtw ws b c), .int .i64 (wBtw ws a c)]) ∧ Below w.heap.size w w' := by
  obtain ⟨W0, hW0⟩ : ∃ W0, W0 = (w.alloc (.cells #[.int .i64 a, .int .i64 b, .int .i64 c] 126)).alloc (.cells #[.int .i64 n, .int .i64 e, .int .i64 s, v] 25) := ⟨_, rfl⟩
  have HB0 : Hid (Below w.heap.size w W0) := Lib.hid (by rw [hW0]; (repeat (first | exact Below.refl _ _ | (refine Below.setCell ?_ (by (first | exact Nat.le_refl _ | omega | (simp <;> omega) | simp)) _) | (refine Below.alloc ?_ (by (first | exact Nat.le_refl _ | omega | (simp <;> omega) | simp)) _) | (refine below_draws ?_ _))))
  have HR0 := Lib.hid (hr.later HB0.out)
  have hS : W0.cell? ⟨w.heap.size, 0, none⟩ = some (.int .i64 a) ∧ W0.cell? ⟨w.heap.size, 1, none⟩ = some (.int .i64 b) ∧ W0.cell? ⟨w.heap.size, 2, none⟩ = some (.int .i64 c) ∧ W0.cell? ⟨w.heap.size + 1, 0, none⟩ = some (.int .i64 n) ∧ W0.cell? ⟨w.heap.size + 1, 1, none⟩ = some (.int .i64 e) ∧ W0.cell? ⟨w.heap.size + 1, 2, none⟩ = some (.int .i64 s) ∧ W0.cell? ⟨w.heap.size + 1, 3, none⟩ = some (v) ∧ W0.cell? ⟨w.heap.size + 1, 3, none⟩ = some (v) ∧ W0.heap.size ≤ W0.heap.size ∧ W0.heap.size ≤ W0.heap.size ∧ Below W0.heap.size W0 W0 := ⟨by rw [hW0]; simp [go_sem], by rw [hW0]; simp [go_sem], by rw [hW0]; simp [go_sem], by rw [hW0]; simp [go_sem], by rw [hW0]; simp [go_sem], by rw [hW0]; simp [go_sem], by rw [hW0]; simp [go_sem], by rw [hW0]; simp [go_sem], Nat.le_refl _, Nat.le_refl _, Below.refl _ _⟩
  replace hS := k8_drew hS
  have H1 := Lib.hid (fun W h => impl_wBtw n e s a b v ws W h)
  have H2 := Lib.hid (fun W h => impl_wBtw n e s b c v ws W h)
  have H3 := Lib.hid (fun W h => impl_wBtw n e s a c v ws W h)
  clear hr
  go_enter Try.func99, Try.ntmps99
  go_wp2
  change Code.wp _ _ _ _ (World.alloc _ _)
  rw [← hW0]
  clear hW0
  refine wp_region_held_drew (S := fun w' => w'.cell? ⟨w.heap.size, 0, none⟩ = some (.int .i64 a) ∧ w'.cell? ⟨w.heap.size, 1, none⟩ = some (.int .i64 b) ∧ w'.cell? ⟨w.heap.size, 2, none⟩ = some (.int .i64 c) ∧ w'.cell? ⟨w.heap.size + 1, 0, none⟩ = some (.int .i64 n) ∧ w'.cell? ⟨w.heap.size + 1, 1, none⟩ = some (.int .i64 e) ∧ w'.cell? ⟨w.heap.size + 1, 2, none⟩ = some (.int .i64 s) ∧ w'.cell? ⟨w.heap.size + 1, 3, none⟩ = some (v) ∧ w'.cell? ⟨w.heap.size + 1, 3, none⟩ = some (v) ∧ W0.heap.size ≤ w'.heap.size ∧ W0.heap.size ≤ W0.heap.size ∧ Below W0.heap.size W0 w') (by kernel_rfl) hS (fun hHeld => ?_)
  refine take_on (i := 0) (d := some 7) (v := .agg #[.int .i64 n, .int .i64 e, .int .i64 s, v]) rfl rfl (by kernel_rfl) (by kernel_rfl) (by kernel_rfl) (fun _ _ _ h => h) (by rfl) (by (intro w hSw; (try dsimp only at hSw); go_simp)) (by assumption) ?_
  try simp only [Act.put, List.setIfInBounds_toArray, List.set_cons_zero, List.set_cons_succ]
  refine take_on (i := 1) (d := some 8) (v := .pointer (some ⟨w.heap.size, 0, none⟩)) rfl rfl (by kernel_rfl) (by kernel_rfl) (by kernel_rfl) (fun _ _ _ h => h) (by rfl) (by (intro w hSw; (try dsimp only at hSw); go_simp)) (by assumption) ?_
  try simp only [Act.put, List.setIfInBounds_toArray, List.set_cons_zero, List.set_cons_succ]
  refine take_on (i := 2) (d := some 9) (v := .int .i64 a) rfl rfl (by kernel_rfl) (by kernel_rfl) (by kernel_rfl) (fun _ _ _ h => h) (by rfl) (by (intro w hSw; (try dsimp only at hSw); go_simp)) (by assumption) ?_
  try simp only [Act.put, List.setIfInBounds_toArray, List.set_cons_zero, List.set_cons_succ]
  refine take_on (i := 3) (d := some 10) (v := .pointer (some ⟨w.heap.size, 1, none⟩)) rfl rfl (by kernel_rfl) (by kernel_rfl) (by kernel_rfl) (fun _ _ _ h => h) (by rfl) (by (intro w hSw; (try dsimp only at hSw); go_simp)) (by assumption) ?_
  try simp only [Act.put, List.setIfInBounds_toArray, List.set_cons_zero, List.set_cons_succ]
  refine take_on (i := 4) (d := some 11) (v := .int .i64 b) rfl rfl (by kernel_rfl) (by kernel_rfl) (by kernel_rfl) (fun _ _ _ h => h) (by rfl) (by (intro w hSw; (try dsimp only at hSw); go_simp)) (by assumption) ?_
  try simp only [Act.put, List.setIfInBounds_toArray, List.set_cons_zero, List.set_cons_succ]
  refine take_on (i := 6) (d := some 13) (v := .agg #[.int .i64 n, .int .i64 e, .int .i64 s, v]) rfl rfl (by kernel_rfl) (by kernel_rfl) (by kernel_rfl) (fun _ _ _ h => h) (by rfl) (by (intro w hSw; (try dsimp only at hSw); go_simp)) (by assumption) ?_
  try simp only [Act.put, List.setIfInBounds_toArray, List.set_cons_zero, List.set_cons_succ]
  refine take_on (i := 7) (d := some 14) (v := .pointer (some ⟨w.heap.size, 1, none⟩)) rfl rfl (by kernel_rfl) (by kernel_rfl) (by kernel_rfl) (fun _ _ _ h => h) (by rfl) (by (intro w hSw; (try dsimp only at hSw); go_simp)) (by assumption) ?_
  try simp only [Act.put, List.setIfInBounds_toArray, List.set_cons_zero, List.set_cons_succ]
  refine take_on (i := 8) (d := some 15) (v := .int .i64 b) rfl rfl (by kernel_rfl) (by kernel_rfl) (by kernel_rfl) (fun _ _ _ h => h) (by rfl) (by (intro w hSw; (try dsimp only at hSw); go_simp)) (by assumption) ?_
  try simp only [Act.put, List.setIfInBounds_toArray, List.set_cons_zero, List.set_cons_succ]
  refine take_on (i := 9) (d := some 16) (v := .pointer (some ⟨w.heap.size, 2, none⟩)) rfl rfl (by kernel_rfl) (by kernel_rfl) (by kernel_rfl) (fun _ _ _ h => h) (by rfl) (by (intro w hSw; (try dsimp only at hSw); go_simp)) (by assumption) ?_
  try simp only [Act.put, List.setIfInBounds_toArray, List.set_cons_zero, List.set_cons_succ]
  refine take_on (i := 10) (d := some 17) (v := .int .i64 c) rfl rfl (by kernel_rfl) (by kernel_rfl) (by kernel_rfl) (fun _ _ _ h => h) (by rfl) (by (intro w hSw; (try dsimp only at hSw); go_simp)) (by assumption) ?_
  try simp only [Act.put, List.setIfInBounds_toArray, List.set_cons_zero, List.set_cons_succ]
  refine take_on (i := 12) (d := some 19) (v := .agg #[.int .i64 n, .int .i64 e, .int .i64 s, v]) rfl rfl (by kernel_rfl) (by kernel_rfl) (by kernel_rfl) (fun _ _ _ h => h) (by rfl) (by (intro w hSw; (try dsimp only at hSw); go_simp)) (by assumption) ?_
  try simp only [Act.put, List.setIfInBounds_toArray, List.set_cons_zero, List.set_cons_succ]
  refine take_on (i := 13) (d := some 20) (v := .pointer (some ⟨w.heap.size, 0, none⟩)) rfl rfl (by kernel_rfl) (by kernel_rfl) (by kernel_rfl) (fun _ _ _ h => h) (by rfl) (by (intro w hSw; (try dsimp only at hSw); go_simp)) (by assumption) ?_
  try simp only [Act.put, List.setIfInBounds_toArray, List.set_cons_zero, List.set_cons_succ]
  refine take_on (i := 14) (d := some 21) (v := .int .i64 a) rfl rfl (by kernel_rfl) (by kernel_rfl) (by kernel_rfl) (fun _ _ _ h => h) (by rfl) (by (intro w hSw; (try dsimp only at hSw); go_simp)) (by assumption) ?_
  try simp only [Act.put, List.setIfInBounds_toArray, List.set_cons_zero, List.set_cons_succ]
  refine take_on (i := 15) (d := some 22) (v := .pointer (some ⟨w.heap.size, 2, none⟩)) rfl rfl (by kernel_rfl) (by kernel_rfl) (by kernel_rfl) (fun _ _ _ h => h) (by rfl) (by (intro w hSw; (try dsimp only at hSw); go_simp)) (by assumption) ?_
  try simp only [Act.put, List.setIfInBounds_toArray, List.set_cons_zero, List.set_cons_succ]
  refine take_on (i := 16) (d := some 23) (v := .int .i64 c) rfl rfl (by kernel_rfl) (by kernel_rfl) (by kernel_rfl) (fun _ _ _ h => h) (by rfl) (by (intro w hSw; (try dsimp only at hSw); go_simp)) (by assumption) ?_
  try simp only [Act.put, List.setIfInBounds_toArray, List.set_cons_zero, List.set_cons_succ]
  refine wpAnyH_ready (rs := [5]) (by kernel_rfl) (by simp) ?_
  refine AllReadyH.cons rfl (fun K hK => ?_) AllReadyH.nil
  go_simp
  with_reducible refine Calls.mono (H1.out _ (HR0.out.later hS.2.2.2.2.2.2.2.2.2.2)) ?_
  rintro en w1 ⟨rfl, B1⟩
  replace hS := k8_keep B1 hS
  go_wp2_with fail
  refine hK.out _ _ hS (fun hHeld => ?_)
  clear hK K hHeld
  try simp only [Act.put, List.setIfInBounds_toArray, List.set_cons_zero, List.set_cons_succ]
  refine wpAnyH_ready (rs := [11]) (by kernel_rfl) (by simp) ?_
  refine AllReadyH.cons rfl (fun K hK => ?_) AllReadyH.nil
  go_simp
  with_reducible refine Calls.mono (H2.out _ (HR0.out.later hS.2.2.2.2.2.2.2.2.2.2)) ?_
  rintro en w2 ⟨rfl, B2⟩
  replace hS := k8_keep B2 hS
  go_wp2_with fail
  refine hK.out _ _ hS (fun hHeld => ?_)
  clear hK K hHeld
  try simp only [Act.put, List.setIfInBounds_toArray, List.set_cons_zero, List.set_cons_succ]
  refine wpAnyH_ready (rs := [17]) (by kernel_rfl) (by simp) ?_
  refine AllReadyH.cons rfl (fun K hK => ?_) AllReadyH.nil
  go_simp
  with_reducible refine Calls.mono (H3.out _ (HR0.out.later hS.2.2.2.2.2.2.2.2.2.2)) ?_
  rintro en w3 ⟨rfl, B3⟩
  replace hS := k8_keep B3 hS
  go_wp2_with fail
  refine hK.out _ _ hS (fun hHeld => ?_)
  clear hK K hHeld
  try simp only [Act.put, List.setIfInBounds_toArray, List.set_cons_zero, List.set_cons_succ]
  refine take_on (i := 18) (d := some 4) (v := .int .i64 (wBtw ws a b)) rfl rfl (by kernel_rfl) (by kernel_rfl) (by kernel_rfl) (fun _ _ _ h => h) (by rfl) (by (intro w hSw; (try dsimp only at hSw); go_simp)) (by assumption) ?_
  try simp only [Act.put, List.setIfInBounds_toArray, List.set_cons_zero, List.set_cons_succ]
  refine take_on (i := 19) (d := some 5) (v := .int .i64 (wBtw ws b c)) rfl rfl (by kernel_rfl) (by kernel_rfl) (by kernel_rfl) (fun _ _ _ h => h) (by rfl) (by (intro w hSw; (try dsimp only at hSw); go_simp)) (by assumption) ?_
  try simp only [Act.put, List.setIfInBounds_toArray, List.set_cons_zero, List.set_cons_succ]
  refine take_on (i := 20) (d := some 6) (v := .int .i64 (wBtw ws a c)) rfl rfl (by kernel_rfl) (by kernel_rfl) (by kernel_rfl) (fun _ _ _ h => h) (by rfl) (by (intro w hSw; (try dsimp only at hSw); go_simp)) (by assumption) ?_
  try simp only [Act.put, List.setIfInBounds_toArray, List.set_cons_zero, List.set_cons_succ]
  refine wpAnyH_done (by kernel_rfl) ?_ _
  go_wp2
  exact bodyPost_ret (v := .tuple #[.int .i64 (wBtw ws a b), .int .i64 (wBtw ws b c), .int .i64 (wBtw ws a c)]) (by simp (maxDischargeDepth := 8) [results, Try.results99, go_sem, *]) rfl ⟨rfl, HB0.out.trans (hS.2.2.2.2.2.2.2.2.2.2.mono HB0.out.size)⟩
theorem nilAns {n e s a b c : Int} {ws : List W3} {w w' : World} (h : ¬ TriOk n e s a b c ws) (hb : Below w.heap.size w w') : (TriOk n e s a b c ws → Ending.returned .nilIface = .returned (.iface 126 (.agg #[.int .i64 a, .int .i64 b, .int .i64 c]))) ∧ (¬ TriOk n e s a b c ws → Ending.returned .nilIface = .returned .nilIface) ∧ Below w.heap.size w w' := ⟨fun h' => absurd h' h, fun _ => rfl, hb⟩
set_option maxRecDepth 8000 in
set_option maxHeartbeats 12800000 in
theorem impl_triangleAt (n e s a b c : Int) (v : Value) (ws : List W3) (w : World) (hr : ReadsW w v ws) :
    Calls Try.prog 60 #[.agg #[.int .i64 n, .int .i64 e, .int .i64 s, v], .int .i64 a, .int .i64 b, .int .i64 c] w fun en w' => (TriOk n e s a b c ws → en = .returned (.iface 126 (.agg #[.int .i64 a, .int .i64 b, .int .i64 c]))) ∧ (¬ TriOk n e s a b c ws → en = .returned .nilIface) ∧ Below w.heap.size w w' := by
  obtain ⟨W0, hW0⟩ : ∃ W0, W0 = w.alloc (.cells #[.int .i64 n, .int .i64 e, .int .i64 s, v] 25) := ⟨_, rfl⟩
  have hs0 : W0.heap.size = w.heap.size + 1 := by rw [hW0]; simp
  have HX : Hid (boxN W0 w.heap.size n e s v) := Lib.hid (by rw [hW0]; exact boxN.new w n e s v 25)
  have HB0 : Hid (Below w.heap.size w W0) := Lib.hid (by rw [hW0]; (repeat (first | exact Below.refl _ _ | (refine Below.setCell ?_ (by (first | exact Nat.le_refl _ | omega | (simp <;> omega) | simp)) _) | (refine Below.alloc ?_ (by (first | exact Nat.le_refl _ | omega | (simp <;> omega) | simp)) _) | (refine below_draws ?_ _))))
  have HR0 := Lib.hid (hr.later HB0.out)
  have HOK := Lib.hid (impl_netOk n e s v ws W0 HR0.out)
  have HWI := Lib.hid (fun W h => impl_weightsIn n e s a b c v ws W h)
  by_cases hb : netB n e s ws = true
  case neg =>
    have hN : ¬ TriOk n e s a b c ws := fun h => hb h.1
    rw [show netB n e s ws = false by simpa using hb] at HOK
    have HN := Lib.hid hN
    clear hb hr hN
    go_enter Try.func60, Try.ntmps60
    go_wp2_with fail
    rw [← hW0]
    clear hW0
    refine HOK.out.mono ?_
    rintro en w1 ⟨rfl, B1⟩
    have S1 := B1.size
    obtain ⟨x0, x1, x2, x3⟩ := HX.out.later B1
    go_wp2
    go_ret
    exact nilAns HN.out (by have h0 := HB0.out; (repeat (first | exact Below.refl _ _ | (refine Below.setCell ?_ (by (first | exact Nat.le_refl _ | omega | (simp <;> omega) | simp)) _) | (refine Below.alloc ?_ (by (first | exact Nat.le_refl _ | omega | (simp <;> omega) | simp)) _) | (refine below_draws ?_ _) | exact h0 | (refine Below.trans ?_ (Below.mono h0 (by (first | exact Nat.le_refl _ | omega | (simp <;> omega) | simp)))) | exact B1 | (refine Below.trans ?_ (Below.mono B1 (by (first | exact Nat.le_refl _ | omega | (simp <;> omega) | simp)))))))
  rw [hb] at HOK
  by_cases h1 : 0 ≤ a ∧ a < b ∧ b < n
  case neg =>
    have HN := Lib.hid (show ¬ TriOk n e s a b c ws from fun h => h1 ⟨h.2.1, h.2.2.1, by have := h.2.2.2.1; have := h.2.2.2.2.1; omega⟩)
    have HP1 := Lib.hid (fun W => pair_no n e s a b v W h1)
    clear hb hr h1
    go_enter Try.func60, Try.ntmps60
    go_wp2_with fail
    rw [← hW0]
    clear hW0
    refine HOK.out.mono ?_
    rintro en w1 ⟨rfl, B1⟩
    have S1 := B1.size
    obtain ⟨x0, x1, x2, x3⟩ := HX.out.later B1
    go_wp2_with fail
    refine (HP1.out _).mono ?_
    rintro en w2 ⟨rfl, B2⟩
    have S2 := B2.size
    clear x0 x1 x2 x3
    obtain ⟨x0, x1, x2, x3⟩ := (HX.out.later B1).later B2
    go_wp2
    go_ret
    exact nilAns HN.out (by have h0 := HB0.out; (repeat (first | exact Below.refl _ _ | (refine Below.setCell ?_ (by (first | exact Nat.le_refl _ | omega | (simp <;> omega) | simp)) _) | (refine Below.alloc ?_ (by (first | exact Nat.le_refl _ | omega | (simp <;> omega) | simp)) _) | (refine below_draws ?_ _) | exact h0 | (refine Below.trans ?_ (Below.mono h0 (by (first | exact Nat.le_refl _ | omega | (simp <;> omega) | simp)))) | exact B1 | (refine Below.trans ?_ (Below.mono B1 (by (first | exact Nat.le_refl _ | omega | (simp <;> omega) | simp)))) | exact B2 | (refine Below.trans ?_ (Below.mono B2 (by (first | exact Nat.le_refl _ | omega | (simp <;> omega) | simp)))))))
  have HP1 := Lib.hid (fun W => pair_yes n e s a b v W h1)
  by_cases h2 : 0 ≤ b ∧ b < c ∧ c < n
  case neg =>
    have HN := Lib.hid (show ¬ TriOk n e s a b c ws from fun h => h2 ⟨by have := h.2.1; have := h.2.2.1; omega, h.2.2.2.1, h.2.2.2.2.1⟩)
    have HP2 := Lib.hid (fun W => pair_no n e s b c v W h2)
    clear hb hr h1 h2
    go_enter Try.func60, Try.ntmps60
    go_wp2_with fail
    rw [← hW0]
    clear hW0
    refine HOK.out.mono ?_
    rintro en w1 ⟨rfl, B1⟩
    have S1 := B1.size
    obtain ⟨x0, x1, x2, x3⟩ := HX.out.later B1
    go_wp2_with fail
    refine (HP1.out _).mono ?_
    rintro en w2 ⟨rfl, B2⟩
    have S2 := B2.size
    clear x0 x1 x2 x3
    obtain ⟨x0, x1, x2, x3⟩ := (HX.out.later B1).later B2
    go_wp2_with fail
    refine (HP2.out _).mono ?_
    rintro en w3 ⟨rfl, B3⟩
    have S3 := B3.size
    clear x0 x1 x2 x3
    obtain ⟨x0, x1, x2, x3⟩ := ((HX.out.later B1).later B2).later B3
    go_wp2
    go_ret
    exact nilAns HN.out (by have h0 := HB0.out; (repeat (first | exact Below.refl _ _ | (refine Below.setCell ?_ (by (first | exact Nat.le_refl _ | omega | (simp <;> omega) | simp)) _) | (refine Below.alloc ?_ (by (first | exact Nat.le_refl _ | omega | (simp <;> omega) | simp)) _) | (refine below_draws ?_ _) | exact h0 | (refine Below.trans ?_ (Below.mono h0 (by (first | exact Nat.le_refl _ | omega | (simp <;> omega) | simp)))) | exact B1 | (refine Below.trans ?_ (Below.mono B1 (by (first | exact Nat.le_refl _ | omega | (simp <;> omega) | simp)))) | exact B2 | (refine Below.trans ?_ (Below.mono B2 (by (first | exact Nat.le_refl _ | omega | (simp <;> omega) | simp)))) | exact B3 | (refine Below.trans ?_ (Below.mono B3 (by (first | exact Nat.le_refl _ | omega | (simp <;> omega) | simp)))))))
  have HP2 := Lib.hid (fun W => pair_yes n e s b c v W h2)
  have wx := (wBtw_le (netB_iff.1 hb).2.1 a b).1
  have wy := (wBtw_le (netB_iff.1 hb).2.1 b c).1
  have wz := (wBtw_le (netB_iff.1 hb).2.1 a c).1
  by_cases h3 : wBtw ws a b ≠ 0 ∧ wBtw ws b c ≠ 0 ∧ wBtw ws a c ≠ 0
  case neg =>
    have HN := Lib.hid (show ¬ TriOk n e s a b c ws from fun h => h3 ⟨h.2.2.2.2.2.1, h.2.2.2.2.2.2.1, h.2.2.2.2.2.2.2⟩)
    have hz : wBtw ws a b = 0 ∨ wBtw ws b c = 0 ∨ wBtw ws a c = 0 := by omega
    generalize wBtw ws a b = x at *
    generalize wBtw ws b c = y at *
    generalize wBtw ws a c = z at *
    have HZZ := Lib.hid (And.intro wx (And.intro wy (And.intro wz hz)))
    clear hb hr h1 h2 h3 wx wy wz hz
    go_enter Try.func60, Try.ntmps60
    go_wp2_with fail
    rw [← hW0]
    clear hW0
    refine HOK.out.mono ?_
    rintro en w1 ⟨rfl, B1⟩
    have S1 := B1.size
    obtain ⟨x0, x1, x2, x3⟩ := HX.out.later B1
    go_wp2_with fail
    refine (HP1.out _).mono ?_
    rintro en w2 ⟨rfl, B2⟩
    have S2 := B2.size
    clear x0 x1 x2 x3
    obtain ⟨x0, x1, x2, x3⟩ := (HX.out.later B1).later B2
    go_wp2_with fail
    refine (HP2.out _).mono ?_
    rintro en w3 ⟨rfl, B3⟩
    have S3 := B3.size
    clear x0 x1 x2 x3
    obtain ⟨x0, x1, x2, x3⟩ := ((HX.out.later B1).later B2).later B3
    have hne3 : w.heap.size ≠ w3.heap.size := by omega
    have y0 := fun ob => (World.cell?_alloc_old w3 ob ⟨w.heap.size, 0, none⟩ hne3).trans x0
    have y1 := fun ob => (World.cell?_alloc_old w3 ob ⟨w.heap.size, 1, none⟩ hne3).trans x1
    have y2 := fun ob => (World.cell?_alloc_old w3 ob ⟨w.heap.size, 2, none⟩ hne3).trans x2
    have y3 := fun ob => (World.cell?_alloc_old w3 ob ⟨w.heap.size, 3, none⟩ hne3).trans x3
    have HR3 := Lib.hid ((((HR0.out.later B1).later B2).later B3).later ((Below.refl _ w3).alloc (Nat.le_refl _) (.cells #[.int .i64 a, .int .i64 b, .int .i64 c] 126)))
    clear x0 x1 x2 x3
    go_wp2_with fail
    refine (HWI.out _ HR3.out).mono ?_
    rintro en w4 ⟨rfl, B4⟩
    have t0 : w4.cell? ⟨w3.heap.size, 0, none⟩ = some (.int .i64 a) := (B4.cell (p := ⟨w3.heap.size, 0, none⟩) (by simp)).trans (by simp [go_sem])
    have t1 : w4.cell? ⟨w3.heap.size, 1, none⟩ = some (.int .i64 b) := (B4.cell (p := ⟨w3.heap.size, 1, none⟩) (by simp)).trans (by simp [go_sem])
    have t2 : w4.cell? ⟨w3.heap.size, 2, none⟩ = some (.int .i64 c) := (B4.cell (p := ⟨w3.heap.size, 2, none⟩) (by simp)).trans (by simp [go_sem])
    clear y0 y1 y2 y3
    go_wp2
    all_goals
      first
      | (go_ret; exact nilAns HN.out (by have h0 := HB0.out; (repeat (first | exact Below.refl _ _ | (refine Below.setCell ?_ (by (first | exact Nat.le_refl _ | omega | (simp <;> omega) | simp)) _) | (refine Below.alloc ?_ (by (first | exact Nat.le_refl _ | omega | (simp <;> omega) | simp)) _) | (refine below_draws ?_ _) | exact h0 | (refine Below.trans ?_ (Below.mono h0 (by (first | exact Nat.le_refl _ | omega | (simp <;> omega) | simp)))) | exact B1 | (refine Below.trans ?_ (Below.mono B1 (by (first | exact Nat.le_refl _ | omega | (simp <;> omega) | simp)))) | exact B2 | (refine Below.trans ?_ (Below.mono B2 (by (first | exact Nat.le_refl _ | omega | (simp <;> omega) | simp)))) | exact B3 | (refine Below.trans ?_ (Below.mono B3 (by (first | exact Nat.le_refl _ | omega | (simp <;> omega) | simp)))) | exact B4 | (refine Below.trans ?_ (Below.mono B4 (by (first | exact Nat.le_refl _ | omega | (simp <;> omega) | simp))))))))
      | (exfalso; have hzz := HZZ.out; simp at *; omega)
  have hOk : TriOk n e s a b c ws := ⟨hb, h1.1, h1.2.1, h2.2.1, h2.2.2, h3.1, h3.2.1, h3.2.2⟩
  have HY := Lib.hid hOk
  have px' : (wBtw ws a b == 0) = false := by simpa using h3.1
  have py' : (wBtw ws b c == 0) = false := by simpa using h3.2.1
  have pz' : (wBtw ws a c == 0) = false := by simpa using h3.2.2
  generalize wBtw ws a b = x at *
  generalize wBtw ws b c = y at *
  generalize wBtw ws a c = z at *
  clear hb hr h1 h2 h3 hOk wx wy wz
  go_enter Try.func60, Try.ntmps60
  go_wp2_with fail
  rw [← hW0]
  clear hW0
  refine HOK.out.mono ?_
  rintro en w1 ⟨rfl, B1⟩
  have S1 := B1.size
  obtain ⟨x0, x1, x2, x3⟩ := HX.out.later B1
  go_wp2_with fail
  refine (HP1.out _).mono ?_
  rintro en w2 ⟨rfl, B2⟩
  have S2 := B2.size
  clear x0 x1 x2 x3
  obtain ⟨x0, x1, x2, x3⟩ := (HX.out.later B1).later B2
  go_wp2_with fail
  refine (HP2.out _).mono ?_
  rintro en w3 ⟨rfl, B3⟩
  have S3 := B3.size
  clear x0 x1 x2 x3
  obtain ⟨x0, x1, x2, x3⟩ := ((HX.out.later B1).later B2).later B3
  have hne3 : w.heap.size ≠ w3.heap.size := by omega
  have y0 := fun ob => (World.cell?_alloc_old w3 ob ⟨w.heap.size, 0, none⟩ hne3).trans x0
  have y1 := fun ob => (World.cell?_alloc_old w3 ob ⟨w.heap.size, 1, none⟩ hne3).trans x1
  have y2 := fun ob => (World.cell?_alloc_old w3 ob ⟨w.heap.size, 2, none⟩ hne3).trans x2
  have y3 := fun ob => (World.cell?_alloc_old w3 ob ⟨w.heap.size, 3, none⟩ hne3).trans x3
  have HR3 := Lib.hid ((((HR0.out.later B1).later B2).later B3).later ((Below.refl _ w3).alloc (Nat.le_refl _) (.cells #[.int .i64 a, .int .i64 b, .int .i64 c] 126)))
  clear x0 x1 x2 x3
  go_wp2_with fail
  refine (HWI.out _ HR3.out).mono ?_
  rintro en w4 ⟨rfl, B4⟩
  have t0 : w4.cell? ⟨w3.heap.size, 0, none⟩ = some (.int .i64 a) := (B4.cell (p := ⟨w3.heap.size, 0, none⟩) (by simp)).trans (by simp [go_sem])
  have t1 : w4.cell? ⟨w3.heap.size, 1, none⟩ = some (.int .i64 b) := (B4.cell (p := ⟨w3.heap.size, 1, none⟩) (by simp)).trans (by simp [go_sem])
  have t2 : w4.cell? ⟨w3.heap.size, 2, none⟩ = some (.int .i64 c) := (B4.cell (p := ⟨w3.heap.size, 2, none⟩) (by simp)).trans (by simp [go_sem])
  clear y0 y1 y2 y3
  go_wp2
  all_goals
    go_ret
    exact ⟨fun _ => rfl, fun h => absurd HY.out h, by have h0 := HB0.out; (repeat (first | exact Below.refl _ _ | (refine Below.setCell ?_ (by (first | exact Nat.le_refl _ | omega | (simp <;> omega) | simp)) _) | (refine Below.alloc ?_ (by (first | exact Nat.le_refl _ | omega | (simp <;> omega) | simp)) _) | (refine below_draws ?_ _) | exact h0 | (refine Below.trans ?_ (Below.mono h0 (by (first | exact Nat.le_refl _ | omega | (simp <;> omega) | simp)))) | exact B1 | (refine Below.trans ?_ (Below.mono B1 (by (first | exact Nat.le_refl _ | omega | (simp <;> omega) | simp)))) | exact B2 | (refine Below.trans ?_ (Below.mono B2 (by (first | exact Nat.le_refl _ | omega | (simp <;> omega) | simp)))) | exact B3 | (refine Below.trans ?_ (Below.mono B3 (by (first | exact Nat.le_refl _ | omega | (simp <;> omega) | simp)))) | exact B4 | (refine Below.trans ?_ (Below.mono B4 (by (first | exact Nat.le_refl _ | omega | (simp <;> omega) | simp))))))⟩
end Go.Proofs.Ythhnicbkldknlaa
