/-
  hasWire in the program.
  CutWire in the program.
-/
import Derived.Test.YtaececpphdaciaaGNet
import Derived.Below
import Derived.Test.YtaececpphdaciaaGFlt
import Derived.Test.YtaececpphdaciaaPutWireImpl
import Derived.Test.YtaececpphdaciaaGKeep
import Derived.Test.YtaececpphdaciaaBoxes
import Derived.StillTactics
namespace Go.Proofs.Ytaececpphdaciaa
open Go.RowKit

theorem hasWire_any (n e s i : Int) (v : Value) (ws : List W3) (w : World) (hr : ReadsW w v ws) :
    Calls Try.prog 54 #[.agg #[.int .i64 n, .int .i64 e, .int .i64 s, v], .int .i64 i] w fun en w' => en = .returned (.bool (decide (0 ≤ i ∧ i < ws.length))) ∧ Below w.heap.size w w' := by
  obtain ⟨p, cap, rfl⟩ := hr.shape
  clear hr
  by_cases h1 : 0 ≤ i
  · by_cases h2 : i < (ws.length : Int)
    · rw [decide_eq_true (⟨h1, h2⟩ : 0 ≤ i ∧ i < (ws.length : Int))]
      go_enter Try.func54, Try.ntmps54
      go_wp2
      go_ret
      exact ⟨rfl, by (repeat (first | exact Below.refl _ _ | (refine Below.setCell ?_ (by (first | exact Nat.le_refl _ | omega | (simp <;> omega) | simp)) _) | (refine Below.alloc ?_ (by (first | exact Nat.le_refl _ | omega | (simp <;> omega) | simp)) _) | (refine below_draws ?_ _)))⟩
    · rw [decide_eq_false (show ¬ (0 ≤ i ∧ i < (ws.length : Int)) from fun h => h2 h.2)]
      go_enter Try.func54, Try.ntmps54
      go_wp2
      go_ret
      exact ⟨rfl, by (repeat (first | exact Below.refl _ _ | (refine Below.setCell ?_ (by (first | exact Nat.le_refl _ | omega | (simp <;> omega) | simp)) _) | (refine Below.alloc ?_ (by (first | exact Nat.le_refl _ | omega | (simp <;> omega) | simp)) _) | (refine below_draws ?_ _)))⟩
  · rw [decide_eq_false (show ¬ (0 ≤ i ∧ i < (ws.length : Int)) from fun h => h1 h.1)]
    go_enter Try.func54, Try.ntmps54
    go_wp2
    go_ret
    exact ⟨rfl, by (repeat (first | exact Below.refl _ _ | (refine Below.setCell ?_ (by (first | exact Nat.le_refl _ | omega | (simp <;> omega) | simp)) _) | (refine Below.alloc ?_ (by (first | exact Nat.le_refl _ | omega | (simp <;> omega) | simp)) _) | (refine below_draws ?_ _)))⟩
end Go.Proofs.Ytaececpphdaciaa

namespace Go.Proofs.Ytaececpphdaciaa
open Go.RowKit

/-- By PutWire it is the fault of the weight 0. -/
theorem cut_put {n e s : Int} {j : Nat} {ws : List W3} (hj : j < ws.length) : putR n e s ws[j].1 ws[j].2.1 0 ws = faultR n e s (j : Int) 0 ws := by
  by_cases hb : netB n e s ws = true
  · have hgd : ws.getD ((j : Int)).toNat (0, 0, 0) = ws[j] := by rw [Int.toNat_natCast, List.getD_eq_getElem?_getD, List.getElem?_eq_getElem hj]; rfl
    have hw := (netB_iff.1 hb).2.1.1 j hj
    unfold wireV at hw
    have h := fault_put (n := n) (e := e) (s := s) (i := (j : Int)) (x := 0) (ws := ws) (by omega) (by omega) (by rw [hgd]; omega)
    rw [hgd] at h
    exact h
  · rw [putR_no (fun h => hb h.1), faultR_no (fun h => hb h.1)]
set_option maxRecDepth 8000 in
set_option maxHeartbeats 6400000 in
theorem impl_cut (n e s i : Int) (v : Value) (ws : List W3) (w : World) (hr : ReadsW w v ws) (hlen : ws.length ≤ 1048576) :
    Calls Try.prog 15 #[.agg #[.int .i64 n, .int .i64 e, .int .i64 s, v], .int .i64 i] w (AnsN w (faultR n e s i 0 ws)) := by
  have B0 : Below w.heap.size w ((w.alloc (.cells #[.int .i64 n, .int .i64 e, .int .i64 s, v] 25)).alloc (.cells #[.int .i64 0, .int .i64 0, .int .i64 0, .slice none 0 0] 25)) := by (repeat (first | exact Below.refl _ _ | (refine Below.setCell ?_ (by (first | exact Nat.le_refl _ | omega | (simp <;> omega) | simp)) _) | (refine Below.alloc ?_ (by (first | exact Nat.le_refl _ | omega | (simp <;> omega) | simp)) _) | (refine below_draws ?_ _)))
  have hok := hasWire_any n e s i v ws _ (hr.later B0)
  obtain ⟨p0, cap0, rfl⟩ := hr.shape
  by_cases hi : 0 ≤ i ∧ i < ws.length
  case neg =>
    rw [faultR_no (fun h => hi h.2.1)]
    rw [decide_eq_false hi] at hok
    clear hr B0 hi
    go_enter Try.func15, Try.ntmps15
    go_wp2_with fail
    refine hok.mono ?_
    rintro en w1 ⟨rfl, B1⟩
    obtain ⟨hc1, hf1⟩ := bcell B1
    have S1 := B1.size
    try simp at S1
    try (have _L1w : w.heap.size < w1.heap.size := by omega)
    have _M1w : w.heap.size ≤ w1.heap.size := by omega
    try (have _P1w_1 : w.heap.size + 1 < w1.heap.size := by omega)
    try (have _P1w_2 : w.heap.size + 1 + 1 < w1.heap.size := by omega)
    try (have _P1w_3 : w.heap.size + 1 + 1 + 1 < w1.heap.size := by omega)
    have _ : w1.cell? ⟨w.heap.size, 0, none⟩ = some (.int .i64 n) := by rw [hc1 (w.heap.size) 0 (by first | omega | (simp; done) | (simp; omega))]; first | assumption | (simp; done) | simp [go_sem, *]
    have _ : w1.frozen? ⟨w.heap.size, 0, none⟩ = false := by rw [hf1 (w.heap.size) 0 (by first | omega | (simp; done) | (simp; omega))]; first | assumption | (simp; done) | simp [go_sem, *]
    have _ : w1.cell? ⟨w.heap.size, 1, none⟩ = some (.int .i64 e) := by rw [hc1 (w.heap.size) 1 (by first | omega | (simp; done) | (simp; omega))]; first | assumption | (simp; done) | simp [go_sem, *]
    have _ : w1.frozen? ⟨w.heap.size, 1, none⟩ = false := by rw [hf1 (w.heap.size) 1 (by first | omega | (simp; done) | (simp; omega))]; first | assumption | (simp; done) | simp [go_sem, *]
    have _ : w1.cell? ⟨w.heap.size, 2, none⟩ = some (.int .i64 s) := by rw [hc1 (w.heap.size) 2 (by first | omega | (simp; done) | (simp; omega))]; first | assumption | (simp; done) | simp [go_sem, *]
    have _ : w1.frozen? ⟨w.heap.size, 2, none⟩ = false := by rw [hf1 (w.heap.size) 2 (by first | omega | (simp; done) | (simp; omega))]; first | assumption | (simp; done) | simp [go_sem, *]
    have _ : w1.cell? ⟨w.heap.size, 3, none⟩ = some (.slice p0 ws.length cap0) := by rw [hc1 (w.heap.size) 3 (by first | omega | (simp; done) | (simp; omega))]; first | assumption | (simp; done) | simp [go_sem, *]
    have _ : w1.frozen? ⟨w.heap.size, 3, none⟩ = false := by rw [hf1 (w.heap.size) 3 (by first | omega | (simp; done) | (simp; omega))]; first | assumption | (simp; done) | simp [go_sem, *]
    have _ : w1.cell? ⟨w.heap.size + 1, 0, none⟩ = some (.int .i64 0) := by rw [hc1 (w.heap.size + 1) 0 (by first | omega | (simp; done) | (simp; omega))]; first | assumption | (simp; done) | simp [go_sem, *]
    have _ : w1.frozen? ⟨w.heap.size + 1, 0, none⟩ = false := by rw [hf1 (w.heap.size + 1) 0 (by first | omega | (simp; done) | (simp; omega))]; first | assumption | (simp; done) | simp [go_sem, *]
    have _ : w1.cell? ⟨w.heap.size + 1, 1, none⟩ = some (.int .i64 0) := by rw [hc1 (w.heap.size + 1) 1 (by first | omega | (simp; done) | (simp; omega))]; first | assumption | (simp; done) | simp [go_sem, *]
    have _ : w1.frozen? ⟨w.heap.size + 1, 1, none⟩ = false := by rw [hf1 (w.heap.size + 1) 1 (by first | omega | (simp; done) | (simp; omega))]; first | assumption | (simp; done) | simp [go_sem, *]
    have _ : w1.cell? ⟨w.heap.size + 1, 2, none⟩ = some (.int .i64 0) := by rw [hc1 (w.heap.size + 1) 2 (by first | omega | (simp; done) | (simp; omega))]; first | assumption | (simp; done) | simp [go_sem, *]
    have _ : w1.frozen? ⟨w.heap.size + 1, 2, none⟩ = false := by rw [hf1 (w.heap.size + 1) 2 (by first | omega | (simp; done) | (simp; omega))]; first | assumption | (simp; done) | simp [go_sem, *]
    have _ : w1.cell? ⟨w.heap.size + 1, 3, none⟩ = some (.slice none 0 0) := by rw [hc1 (w.heap.size + 1) 3 (by first | omega | (simp; done) | (simp; omega))]; first | assumption | (simp; done) | simp [go_sem, *]
    have _ : w1.frozen? ⟨w.heap.size + 1, 3, none⟩ = false := by rw [hf1 (w.heap.size + 1) 3 (by first | omega | (simp; done) | (simp; omega))]; first | assumption | (simp; done) | simp [go_sem, *]
    clear hc1 hf1
    go_wp2
    exact bodyPost_ret (v := .tuple #[.agg #[.int .i64 0, .int .i64 0, .int .i64 0, .slice none 0 0], .bool false]) (by simp (maxDischargeDepth := 8) [results, Try.results15, go_sem, *]) rfl (ansN_no (by (repeat (first | exact Below.refl _ _ | (refine Below.setCell ?_ (by (first | exact Nat.le_refl _ | omega | (simp <;> omega) | simp)) _) | (refine Below.alloc ?_ (by (first | exact Nat.le_refl _ | omega | (simp <;> omega) | simp)) _) | (refine below_draws ?_ _) | exact B1 | (refine Below.trans ?_ (Below.mono B1 (by (first | exact Nat.le_refl _ | omega | (simp <;> omega) | simp))))))))
  rw [decide_eq_true hi] at hok
  obtain ⟨j, rfl⟩ : ∃ j : Nat, i = (j : Int) := ⟨i.toNat, by omega⟩
  have hj : j < ws.length := by omega
  obtain ⟨g, o, rfl, c0, c1, -⟩ := reads_at hr j hj
  have hg : g < w.heap.size := World.block_lt_of_cell? w _ c0
  have him := fun W (hB : Below w.heap.size w W) => impl_putWire n e s ws[j].1 ws[j].2.1 0 _ ws W (hr.later hB)
  rw [cut_put hj] at him
  obtain ⟨R, hR⟩ : ∃ R, faultR n e s (j : Int) 0 ws = R := ⟨_, rfl⟩
  rw [hR] at him ⊢
  have HIM := Lib.hid him
  have HZ0 : Hid (box4 ((w.alloc (.cells #[.int .i64 n, .int .i64 e, .int .i64 s, .slice (some ⟨g, o, none⟩) ws.length cap0] 25)).alloc (.cells #[.int .i64 0, .int .i64 0, .int .i64 0, .slice none 0 0] 25)) (w.heap.size + 1) (.int .i64 0) (.int .i64 0) (.int .i64 0) (.slice none 0 0)) := Lib.hid (by have h := box4.new (w.alloc (.cells #[.int .i64 n, .int .i64 e, .int .i64 s, .slice (some ⟨g, o, none⟩) ws.length cap0] 25)) (.int .i64 0) (.int .i64 0) (.int .i64 0) (.slice none 0 0) 25; simpa using h)
  have HX0 : Hid (boxN ((w.alloc (.cells #[.int .i64 n, .int .i64 e, .int .i64 s, .slice (some ⟨g, o, none⟩) ws.length cap0] 25)).alloc (.cells #[.int .i64 0, .int .i64 0, .int .i64 0, .slice none 0 0] 25)) w.heap.size n e s (.slice (some ⟨g, o, none⟩) ws.length cap0)) := Lib.hid ((boxN.new w n e s (.slice (some ⟨g, o, none⟩) ws.length cap0) 25).later (by (repeat (first | exact Below.refl _ _ | (refine Below.setCell ?_ (by (first | exact Nat.le_refl _ | omega | (simp <;> omega) | simp)) _) | (refine Below.alloc ?_ (by (first | exact Nat.le_refl _ | omega | (simp <;> omega) | simp)) _) | (refine below_draws ?_ _)))))
  have HB0 := Lib.hid B0
  have HC0 := Lib.hid c0; have HC1 := Lib.hid c1
  have hji : (j : Int) < (ws.length : Int) := by omega
  clear him hr hR hi B0 c0 c1
  go_enter Try.func15, Try.ntmps15
  go_wp2_with fail
  refine hok.mono ?_
  rintro en w1 ⟨rfl, B1⟩
  have HZ := Lib.hid (HZ0.out.later B1)
  obtain ⟨x0, x1, x2, x3⟩ := HX0.out.later B1
  have HB1 : Hid (Below w.heap.size w w1) := Lib.hid (HB0.out.trans (B1.mono HB0.out.size))
  have hs1 : w.heap.size + 2 ≤ w1.heap.size := by have := B1.size; simp at this; omega
  have HS1 := Lib.hid hs1
  have hS : w1.cell? ⟨w.heap.size, 0, none⟩ = some (.int .i64 n) ∧ w1.cell? ⟨w.heap.size, 1, none⟩ = some (.int .i64 e) ∧ w1.cell? ⟨w.heap.size, 2, none⟩ = some (.int .i64 s) ∧ w1.cell? ⟨w.heap.size, 3, none⟩ = some (.slice (some ⟨g, o, none⟩) ws.length cap0) ∧ w1.cell? ⟨g, o + j * 3, none⟩ = some (.int .i64 ws[j].1) ∧ w1.cell? ⟨g, o + j * 3 + 1, none⟩ = some (.int .i64 ws[j].2.1) ∧ w1.heap.size ≤ w1.heap.size ∧ w1.heap.size ≤ w1.heap.size ∧ Below w1.heap.size w1 w1 := ⟨x0, x1, x2, x3, ((HB1.out.cell (p := ⟨g, o + j * 3, none⟩) hg).trans HC0.out), ((HB1.out.cell (p := ⟨g, o + j * 3 + 1, none⟩) hg).trans HC1.out), Nat.le_refl _, Nat.le_refl _, Below.refl _ _⟩
  replace hS := k6_drew hS
  clear x0 x1 x2 x3 hok HZ0 HX0 HB0 HC0 HC1 B1 hs1
  go_wp2_with fail
  refine wp_region_F 16 (fun w' => w'.cell? ⟨w.heap.size, 0, none⟩ = some (.int .i64 n) ∧ w'.cell? ⟨w.heap.size, 1, none⟩ = some (.int .i64 e) ∧ w'.cell? ⟨w.heap.size, 2, none⟩ = some (.int .i64 s) ∧ w'.cell? ⟨w.heap.size, 3, none⟩ = some (.slice (some ⟨g, o, none⟩) ws.length cap0) ∧ w'.cell? ⟨g, o + j * 3, none⟩ = some (.int .i64 ws[j].1) ∧ w'.cell? ⟨g, o + j * 3 + 1, none⟩ = some (.int .i64 ws[j].2.1) ∧ w1.heap.size ≤ w'.heap.size ∧ w1.heap.size ≤ w1.heap.size ∧ Below w1.heap.size w1 w') (by kernel_rfl) hS ?_
  clear hS
  intro hS
  refine takeF_on (i := 0) (d := some 11) (v := .agg #[.int .i64 n, .int .i64 e, .int .i64 s, .slice (some ⟨g, o, none⟩) ws.length cap0]) rfl rfl (by kernel_rfl) (fun _ _ _ h => h) (by rfl) (by (intro w hSw; (try dsimp only at hSw); go_simp)) (by assumption) ?_
  try simp only [Act.put, List.setIfInBounds_toArray, List.set_cons_zero, List.set_cons_succ]
  refine takeF_on (i := 1) (d := some 12) (v := .pointer (some ⟨w.heap.size, 3, none⟩)) rfl rfl (by kernel_rfl) (fun _ _ _ h => h) (by rfl) (by (intro w hSw; (try dsimp only at hSw); go_simp)) (by assumption) ?_
  try simp only [Act.put, List.setIfInBounds_toArray, List.set_cons_zero, List.set_cons_succ]
  refine takeF_on (i := 2) (d := some 13) (v := .slice (some ⟨g, o, none⟩) ws.length cap0) rfl rfl (by kernel_rfl) (fun _ _ _ h => h) (by rfl) (by (intro w hSw; (try dsimp only at hSw); go_simp)) (by assumption) ?_
  try simp only [Act.put, List.setIfInBounds_toArray, List.set_cons_zero, List.set_cons_succ]
  refine takeF_on (i := 3) (d := some 14) (v := .int .i64 (j : Int)) rfl rfl (by kernel_rfl) (fun _ _ _ h => h) (by rfl) (by (intro w hSw; (try dsimp only at hSw); go_simp)) (by assumption) ?_
  try simp only [Act.put, List.setIfInBounds_toArray, List.set_cons_zero, List.set_cons_succ]
  refine takeF_on (i := 4) (d := some 15) (v := .pointer (some ⟨g, o + j * 3, none⟩)) rfl rfl (by kernel_rfl) (fun _ _ _ h => h) (by rfl) (by (intro w hSw; (try dsimp only at hSw); go_simp)) (by assumption) ?_
  try simp only [Act.put, List.setIfInBounds_toArray, List.set_cons_zero, List.set_cons_succ]
  refine takeF_on (i := 5) (d := some 16) (v := .pointer (some ⟨g, o + j * 3, none⟩)) rfl rfl (by kernel_rfl) (fun _ _ _ h => h) (by rfl) (by (intro w hSw; (try dsimp only at hSw); go_simp)) (by assumption) ?_
  try simp only [Act.put, List.setIfInBounds_toArray, List.set_cons_zero, List.set_cons_succ]
  refine takeF_on (i := 6) (d := some 17) (v := .int .i64 ws[j].1) rfl rfl (by kernel_rfl) (fun _ _ _ h => h) (by rfl) (by (intro w hSw; (try dsimp only at hSw); go_simp)) (by assumption) ?_
  try simp only [Act.put, List.setIfInBounds_toArray, List.set_cons_zero, List.set_cons_succ]
  refine takeF_on (i := 7) (d := some 18) (v := .pointer (some ⟨w.heap.size, 3, none⟩)) rfl rfl (by kernel_rfl) (fun _ _ _ h => h) (by rfl) (by (intro w hSw; (try dsimp only at hSw); go_simp)) (by assumption) ?_
  try simp only [Act.put, List.setIfInBounds_toArray, List.set_cons_zero, List.set_cons_succ]
  refine takeF_on (i := 8) (d := some 19) (v := .slice (some ⟨g, o, none⟩) ws.length cap0) rfl rfl (by kernel_rfl) (fun _ _ _ h => h) (by rfl) (by (intro w hSw; (try dsimp only at hSw); go_simp)) (by assumption) ?_
  try simp only [Act.put, List.setIfInBounds_toArray, List.set_cons_zero, List.set_cons_succ]
  refine takeF_on (i := 9) (d := some 20) (v := .int .i64 (j : Int)) rfl rfl (by kernel_rfl) (fun _ _ _ h => h) (by rfl) (by (intro w hSw; (try dsimp only at hSw); go_simp)) (by assumption) ?_
  try simp only [Act.put, List.setIfInBounds_toArray, List.set_cons_zero, List.set_cons_succ]
  refine takeF_on (i := 10) (d := some 21) (v := .pointer (some ⟨g, o + j * 3, none⟩)) rfl rfl (by kernel_rfl) (fun _ _ _ h => h) (by rfl) (by (intro w hSw; (try dsimp only at hSw); go_simp)) (by assumption) ?_
  try simp only [Act.put, List.setIfInBounds_toArray, List.set_cons_zero, List.set_cons_succ]
  refine takeF_on (i := 11) (d := some 22) (v := .pointer (some ⟨g, o + j * 3 + 1, none⟩)) rfl rfl (by kernel_rfl) (fun _ _ _ h => h) (by rfl) (by (intro w hSw; (try dsimp only at hSw); go_simp)) (by assumption) ?_
  try simp only [Act.put, List.setIfInBounds_toArray, List.set_cons_zero, List.set_cons_succ]
  refine takeF_on (i := 12) (d := some 23) (v := .int .i64 ws[j].2.1) rfl rfl (by kernel_rfl) (fun _ _ _ h => h) (by rfl) (by (intro w hSw; (try dsimp only at hSw); go_simp)) (by assumption) ?_
  try simp only [Act.put, List.setIfInBounds_toArray, List.set_cons_zero, List.set_cons_succ]
  refine wpAnyF_ready (rs := [13]) (by kernel_rfl) (by simp) ?_
  refine AllReadyF.cons rfl (fun K hK => ?_) AllReadyF.nil
  go_simp
  with_reducible refine Calls.mono (HIM.out _ (HB1.out.trans (hS.2.2.2.2.2.2.2.2.mono HB1.out.size))) ?_
  rintro en w5 ⟨p5, c5, rfl, o5, B5⟩
  have HO5 := Lib.hid (owns_mono o5 hS.2.2.2.2.2.2.1)
  replace hS := k6_keep B5 hS
  clear o5 B5
  go_wp2_with fail
  refine hK.out _ _ hS (fun hHeld => ?_)
  clear hK K hHeld
  try simp only [Act.put, List.setIfInBounds_toArray, List.set_cons_zero, List.set_cons_succ]
  refine takeF_on (i := 14) (d := some 25) (v := .agg #[.int .i64 R.1, .int .i64 R.2.1, .int .i64 R.2.2.1, .slice p5 R.2.2.2.1.length c5]) rfl rfl (by kernel_rfl) (fun _ _ _ h => h) (by rfl) (by (intro w hSw; (try dsimp only at hSw); go_simp)) (by assumption) ?_
  try simp only [Act.put, List.setIfInBounds_toArray, List.set_cons_zero, List.set_cons_succ]
  refine takeF_on (i := 15) (d := some 26) (v := .bool R.2.2.2.2) rfl rfl (by kernel_rfl) (fun _ _ _ h => h) (by rfl) (by (intro w hSw; (try dsimp only at hSw); go_simp)) (by assumption) ?_
  try simp only [Act.put, List.setIfInBounds_toArray, List.set_cons_zero, List.set_cons_succ]
  obtain ⟨z0, z1, z2, z3, f0, f1, f2, f3, -⟩ := HZ.out.later hS.2.2.2.2.2.2.2.2
  have hBW := Lib.hid hS.2.2.2.2.2.2.2.2
  refine wpAnyF_ready (rs := [16]) (by kernel_rfl) (by simp) ?_
  refine AllReadyF.last rfl (by decide) (fun K hK => ?_) AllReadyF.nil
  go_simp
  refine hK.out _ _ ?_
  clear hK K
  try simp only [Act.put]
  refine wpAnyF_ready (rs := [17]) (by kernel_rfl) (by simp) ?_
  refine AllReadyF.last rfl (by decide) (fun K hK => ?_) AllReadyF.nil
  go_simp
  refine hK.out _ _ ?_
  clear hK K
  try simp only [Act.put, List.setIfInBounds_toArray, List.set_cons_zero, List.set_cons_succ]
  refine wpAnyF_done (by kernel_rfl) ?_
  clear hS
  have hB := hBW.out
  go_wp2
  exact bodyPost_ret (v := .tuple #[.agg #[.int .i64 R.1, .int .i64 R.2.1, .int .i64 R.2.2.1, .slice p5 R.2.2.2.1.length c5], .bool R.2.2.2.2]) (by simp (maxDischargeDepth := 8) [results, Try.results15, go_sem, *]) rfl ⟨p5, c5, rfl, by refine owns_mono (base := w1.heap.size) ?_ (by have := HS1.out; omega); have o1 := HO5.out; have h3 := HS1.out; ((repeat (refine ownsRow_setCell_below ?_ ?_ _; rotate_left; focus (first | omega | (simp; done) | (simp; omega)))); with_reducible exact o1), by have h5 := HB1.out; have h3 := HS1.out; (repeat (first | exact Below.refl _ _ | (refine Below.setCell ?_ (by (first | exact Nat.le_refl _ | omega | (simp <;> omega) | simp)) _) | (refine Below.alloc ?_ (by (first | exact Nat.le_refl _ | omega | (simp <;> omega) | simp)) _) | (refine below_draws ?_ _) | exact h5 | (refine Below.trans ?_ (Below.mono h5 (by (first | exact Nat.le_refl _ | omega | (simp <;> omega) | simp)))) | exact hB | (refine Below.trans ?_ (Below.mono hB (by (first | exact Nat.le_refl _ | omega | (simp <;> omega) | simp))))))⟩
end Go.Proofs.Ytaececpphdaciaa
