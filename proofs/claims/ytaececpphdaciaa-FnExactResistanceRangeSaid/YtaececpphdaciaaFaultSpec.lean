/-
  ApplyFault in the model.
-/
import Derived.Test.YtaececpphdaciaaFaultMath
import Derived.Test.YtaececpphdaciaaCountImpl
import Derived.Test.YtaececpphdaciaaBoxes
import Derived.Test.YtaececpphdaciaaGKeep
import Derived.Deep.Upon
namespace Go.Proofs.Ytaececpphdaciaa
open Go.RowKit

theorem k6_grew {B G : Nat} {w wa wb : World} {row : Option Nat} {a0 a1 a2 a3 a4 a5 : Addr} {v0 v1 v2 v3 v4 v5 : Value} (hg : wa.grownBy wb row) 
    (h : wa.cell? a0 = some v0 ∧ wa.cell? a1 = some v1 ∧ wa.cell? a2 = some v2 ∧ wa.cell? a3 = some v3 ∧ wa.cell? a4 = some v4 ∧ wa.cell? a5 = some v5 ∧ G ≤ wa.heap.size ∧ B ≤ G ∧ Below B w wa)
    (hn : some a0.block ≠ row ∧ some a1.block ≠ row ∧ some a2.block ≠ row ∧ some a3.block ≠ row ∧ some a4.block ≠ row ∧ some a5.block ≠ row) (hr : ∀ k, row = some k → B ≤ k) :
    wb.cell? a0 = some v0 ∧ wb.cell? a1 = some v1 ∧ wb.cell? a2 = some v2 ∧ wb.cell? a3 = some v3 ∧ wb.cell? a4 = some v4 ∧ wb.cell? a5 = some v5 ∧ G ≤ wb.heap.size ∧ B ≤ G ∧ Below B w wb := by
  obtain ⟨c0, c1, c2, c3, c4, c5, h1, h2, h3⟩ := h
  obtain ⟨n0, n1, n2, n3, n4, n5⟩ := hn
  exact ⟨hg.cell c0 n0, hg.cell c1 n1, hg.cell c2 n2, hg.cell c3 n3, hg.cell c4 n4, hg.cell c5 n5, Nat.le_trans h1 hg.size, h2, h3.grown hg (by omega) hr⟩
/-- append(s, ws...): s is one's own and holds nothing. -/
theorem step_append_wires {ops : Array Oper} {o : Oper} {a : Act} {K : Act → World → Prop} {Q : Exit → Act → World → Prop} {E : Prop} (wr : World) (hgd : o.guard = none) (s x : Operand)
    (ho : o.op = .call { callee := .builtin .append, args := #[s, x], argTypes := #[23, 23] })
    (base : Nat) (v : Value) (hs : a.eval s = v) (hown : wr.ownsRow base 29 3 v 0 (cellsW []))
    {v2 : Value} (hx : a.eval x = v2) (ws : List W3) (hr : ReadsW wr v2 ws) (hn : ws.length ≤ 1048576) (hbase : base ≤ wr.heap.size)
    (h : ∀ v' w', w'.ownsRow base 29 3 v' ws.length (cellsW ws) → wr.heap.size ≤ w'.heap.size → wr.grownBy w' v.ownBlock → K (a.put o.dst v') w') :
    if Region.wanted o (yielded ops a.tmps) = true then Oper.wp Try.prog o a wr K Q else E := by
  have hw : Region.wanted o (yielded ops a.tmps) = true := by simp [Region.wanted, hgd]
  rw [if_pos hw]
  obtain ⟨i0, hi, hz0, hz1, hz2⟩ := info_parts Try.infoWireB
  obtain ⟨hm, hr1⟩ := hr
  rcases hr1 with ⟨rfl, p, cap, rfl⟩ | ⟨g, o2, cap, rfl, hc⟩
  · rcases p with _ | ad
    · obtain ⟨cap', p', rfl⟩ : ∃ cap p', v = .slice p' 0 cap := by
        rcases hown.2 with ⟨hv0, _⟩ | ⟨g, cap, _, rfl, _⟩
        · exact ⟨0, none, hv0⟩
        · exact ⟨cap, _, rfl⟩
      have hr := run_append_nothing (P := Try.prog) wr 23 23 o.type 29 i0 Try.underlying23 hi p' 0 cap' (Nat.zero_le _) (.slice none 0 cap) (Src.ofNil wr Try.underlying23 cap)
      unfold Oper.wp execOp
      simp only [ho, resolve, invoke, builtin, Sem.run_bind, Sem.run_pure, Result.andThen_ok, List.map_toArray, List.map_cons, List.map_nil, hs, hx, hr]
      exact h _ _ hown (Nat.le_refl _) (World.grownBy.refl _ _)
    · refine wp_append_own _ s x 23 ho base 29 i0 (.agg #[.int .i64 0, .int .i64 0, .int .i64 0]) 3 24 Try.underlying23 hi hz0 hz1 hz2 rfl (by decide) v 0 (cellsW []) hs hown ad 0 cap [] hx rfl (fun j u h => by simp at h) (fun u h => by simp at h) (by unfold maxLen; omega) (by omega) hbase ?_
      intro v' w' h1 h2 _
      exact h v' w' (by simpa using h1) h2.size h2
  · refine wp_append_own _ s x 23 ho base 29 i0 (.agg #[.int .i64 0, .int .i64 0, .int .i64 0]) 3 24 Try.underlying23 hi hz0 hz1 hz2 rfl (by decide) v 0 (cellsW []) hs hown ⟨g, o2, none⟩ ws.length cap (cellsW ws) hx (cellsW_length ws) (news_wires hc) (cellsW_one ws) (by unfold maxLen; omega) (by omega) hbase ?_
    intro v' w' h1 h2 _
    rw [Nat.zero_add] at h1
    exact h v' w' (by simpa [cellsW_nil] using h1) h2.size h2
set_option maxRecDepth 8000 in
set_option maxHeartbeats 6400000 in
theorem spec_copy (n e s : Int) (v : Value) (ws : List W3) (w : World) (hr : ReadsW w v ws) (hlen : ws.length ≤ 1048576) :
    Calls Try.prog 80 #[.agg #[.int .i64 n, .int .i64 e, .int .i64 s, v]] w fun en w' => ∃ p c, en = .returned (.agg #[.int .i64 n, .int .i64 e, .int .i64 s, .slice p ws.length c]) ∧ w'.ownsRow w.heap.size 29 3 (.slice p ws.length c) ws.length (cellsW ws) ∧ Below w.heap.size w w' := by
  obtain ⟨p0, cap0, rfl⟩ := hr.shape
  obtain ⟨W0, hW0⟩ : ∃ W0, W0 = (w.alloc (.cells #[.int .i64 n, .int .i64 e, .int .i64 s, .slice p0 ws.length cap0] 25)).alloc (.cells #[.int .i64 0, .int .i64 0, .int .i64 0, .slice none 0 0] 25) := ⟨_, rfl⟩
  have hs0 : W0.heap.size = w.heap.size + 2 := by rw [hW0]; simp
  have HS0 := Lib.hid hs0
  have HX : Hid (boxN W0 w.heap.size n e s (.slice p0 ws.length cap0)) := Lib.hid (by rw [hW0]; exact (boxN.new w n e s (.slice p0 ws.length cap0) 25).later (by (repeat (first | exact Below.refl _ _ | (refine Below.setCell ?_ (by (first | exact Nat.le_refl _ | omega | (simp <;> omega) | simp)) _) | (refine Below.alloc ?_ (by (first | exact Nat.le_refl _ | omega | (simp <;> omega) | simp)) _) | (refine below_draws ?_ _)))))
  have HZ : Hid (box4 W0 (w.heap.size + 1) (.int .i64 0) (.int .i64 0) (.int .i64 0) (.slice none 0 0)) := Lib.hid (by rw [hW0]; have h := box4.new (w.alloc (.cells #[.int .i64 n, .int .i64 e, .int .i64 s, .slice p0 ws.length cap0] 25)) (.int .i64 0) (.int .i64 0) (.int .i64 0) (.slice none 0 0) 25; simpa using h)
  have HB0 : Hid (Below w.heap.size w W0) := Lib.hid (by rw [hW0]; (repeat (first | exact Below.refl _ _ | (refine Below.setCell ?_ (by (first | exact Nat.le_refl _ | omega | (simp <;> omega) | simp)) _) | (refine Below.alloc ?_ (by (first | exact Nat.le_refl _ | omega | (simp <;> omega) | simp)) _) | (refine below_draws ?_ _))))
  have HRD : Hid (∀ W, Below W0.heap.size W0 W → ReadsW W (.slice p0 ws.length cap0) ws) := Lib.hid (fun W hB => hr.later (HB0.out.trans (hB.mono HB0.out.size)))
  have HOW : Hid ((W0.drew.alloc (.cells #[] 29)).ownsRow W0.heap.size 29 3 (.slice (some ⟨W0.heap.size, 0, none⟩) 0 0) 0 (cellsW [])) := Lib.hid (own_empty W0.drew W0.heap.size (Nat.le_refl _))
  have HNE : Hid ((some w.heap.size ≠ some W0.heap.size) ∧ (some w.heap.size ≠ some W0.heap.size) ∧ (some w.heap.size ≠ some W0.heap.size) ∧ (some w.heap.size ≠ some W0.heap.size) ∧ (some w.heap.size ≠ some W0.heap.size) ∧ (some w.heap.size ≠ some W0.heap.size)) := Lib.hid (by simp; omega)
  have HLO : Hid (∀ k, some W0.heap.size = some k → W0.heap.size ≤ k) := Lib.hid (fun k h => by cases h; exact Nat.le_refl _)
  have hS : W0.cell? ⟨w.heap.size, 0, none⟩ = some (.int .i64 n) ∧ W0.cell? ⟨w.heap.size, 1, none⟩ = some (.int .i64 e) ∧ W0.cell? ⟨w.heap.size, 2, none⟩ = some (.int .i64 s) ∧ W0.cell? ⟨w.heap.size, 3, none⟩ = some (.slice p0 ws.length cap0) ∧ W0.cell? ⟨w.heap.size, 3, none⟩ = some (.slice p0 ws.length cap0) ∧ W0.cell? ⟨w.heap.size, 3, none⟩ = some (.slice p0 ws.length cap0) ∧ W0.heap.size ≤ W0.heap.size ∧ W0.heap.size ≤ W0.heap.size ∧ Below W0.heap.size W0 W0 := by
    obtain ⟨x0, x1, x2, x3⟩ := HX.out
    exact ⟨x0, x1, x2, x3, x3, x3, Nat.le_refl _, Nat.le_refl _, Below.refl _ _⟩
  replace hS := k6_drew hS
  clear hr hs0
  go_enter Try.func80, Try.ntmps80
  go_wp2
  change Code.wp _ _ _ _ (World.alloc _ _)
  rw [← hW0]
  clear hW0
  refine wp_region_F 11 (fun w' => w'.cell? ⟨w.heap.size, 0, none⟩ = some (.int .i64 n) ∧ w'.cell? ⟨w.heap.size, 1, none⟩ = some (.int .i64 e) ∧ w'.cell? ⟨w.heap.size, 2, none⟩ = some (.int .i64 s) ∧ w'.cell? ⟨w.heap.size, 3, none⟩ = some (.slice p0 ws.length cap0) ∧ w'.cell? ⟨w.heap.size, 3, none⟩ = some (.slice p0 ws.length cap0) ∧ w'.cell? ⟨w.heap.size, 3, none⟩ = some (.slice p0 ws.length cap0) ∧ W0.heap.size ≤ w'.heap.size ∧ W0.heap.size ≤ W0.heap.size ∧ Below W0.heap.size W0 w') (by kernel_rfl) hS ?_
  clear hS
  intro hS
  refine takeF_on (i := 0) (d := some 3) (v := .pointer (some ⟨w.heap.size, 0, none⟩)) rfl rfl (by kernel_rfl) (fun _ _ _ h => h) (by rfl) (by (intro w hSw; (try dsimp only at hSw); go_simp)) (by assumption) ?_
  try simp only [Act.put, List.setIfInBounds_toArray, List.set_cons_zero, List.set_cons_succ]
  refine takeF_on (i := 1) (d := some 4) (v := .int .i64 n) rfl rfl (by kernel_rfl) (fun _ _ _ h => h) (by rfl) (by (intro w hSw; (try dsimp only at hSw); go_simp)) (by assumption) ?_
  try simp only [Act.put, List.setIfInBounds_toArray, List.set_cons_zero, List.set_cons_succ]
  refine takeF_on (i := 2) (d := some 5) (v := .pointer (some ⟨w.heap.size, 1, none⟩)) rfl rfl (by kernel_rfl) (fun _ _ _ h => h) (by rfl) (by (intro w hSw; (try dsimp only at hSw); go_simp)) (by assumption) ?_
  try simp only [Act.put, List.setIfInBounds_toArray, List.set_cons_zero, List.set_cons_succ]
  refine takeF_on (i := 3) (d := some 6) (v := .int .i64 e) rfl rfl (by kernel_rfl) (fun _ _ _ h => h) (by rfl) (by (intro w hSw; (try dsimp only at hSw); go_simp)) (by assumption) ?_
  try simp only [Act.put, List.setIfInBounds_toArray, List.set_cons_zero, List.set_cons_succ]
  refine takeF_on (i := 4) (d := some 7) (v := .pointer (some ⟨w.heap.size, 2, none⟩)) rfl rfl (by kernel_rfl) (fun _ _ _ h => h) (by rfl) (by (intro w hSw; (try dsimp only at hSw); go_simp)) (by assumption) ?_
  try simp only [Act.put, List.setIfInBounds_toArray, List.set_cons_zero, List.set_cons_succ]
  refine takeF_on (i := 5) (d := some 8) (v := .int .i64 s) rfl rfl (by kernel_rfl) (fun _ _ _ h => h) (by rfl) (by (intro w hSw; (try dsimp only at hSw); go_simp)) (by assumption) ?_
  try simp only [Act.put, List.setIfInBounds_toArray, List.set_cons_zero, List.set_cons_succ]
  refine takeF_on (i := 7) (d := some 10) (v := .pointer (some ⟨w.heap.size, 3, none⟩)) rfl rfl (by kernel_rfl) (fun _ _ _ h => h) (by rfl) (by (intro w hSw; (try dsimp only at hSw); go_simp)) (by assumption) ?_
  try simp only [Act.put, List.setIfInBounds_toArray, List.set_cons_zero, List.set_cons_succ]
  refine takeF_on (i := 8) (d := some 11) (v := .slice p0 ws.length cap0) rfl rfl (by kernel_rfl) (fun _ _ _ h => h) (by rfl) (by (intro w hSw; (try dsimp only at hSw); go_simp)) (by assumption) ?_
  try simp only [Act.put, List.setIfInBounds_toArray, List.set_cons_zero, List.set_cons_succ]
  refine wpAnyF_ready (rs := [6]) (by kernel_rfl) (by simp) ?_
  refine AllReadyF.cons rfl (fun K hK => ?_) AllReadyF.nil
  go_simp
  replace hS := k6_alloc (o := .cells #[] 29) hS
  refine hK.out _ _ hS (fun hHeld => ?_)
  clear hK K hHeld
  try simp only [Act.put, List.setIfInBounds_toArray, List.set_cons_zero, List.set_cons_succ]
  refine wpAnyF_ready (rs := [9]) (by kernel_rfl) (by simp) ?_
  refine AllReadyF.cons rfl (fun K hK => ?_) AllReadyF.nil
  refine step_append_wires _ (by rfl) _ _ (by rfl) W0.heap.size _ (by rfl) HOW.out (by rfl) ws (HRD.out _ hS.2.2.2.2.2.2.2.2) (by omega) (by simp) ?_
  intro v1 w1 o1 s1 G1
  obtain ⟨pv, cv, rfl⟩ := owns_shape o1
  replace hS := k6_grew G1 hS HNE.out HLO.out
  have HO1 := Lib.hid o1
  clear o1
  refine hK.out _ _ hS (fun hHeld => ?_)
  clear hK K hHeld
  try simp only [Act.put, List.setIfInBounds_toArray, List.set_cons_zero, List.set_cons_succ]
  refine takeF_on (i := 10) (d := some 13) (v := .agg #[.int .i64 n, .int .i64 e, .int .i64 s, .slice pv ws.length cv]) rfl rfl (by kernel_rfl) (fun _ _ _ h => h) (by rfl) (by (intro w hSw; (try dsimp only at hSw); go_simp)) (by assumption) ?_
  try simp only [Act.put, List.setIfInBounds_toArray, List.set_cons_zero, List.set_cons_succ]
  obtain ⟨z0, z1, z2, z3, f0, f1, f2, f3, -⟩ := HZ.out.later hS.2.2.2.2.2.2.2.2
  refine wpAnyF_ready (rs := [11]) (by kernel_rfl) (by simp) ?_
  refine AllReadyF.last rfl (by decide) (fun K hK => ?_) AllReadyF.nil
  go_simp
  refine hK.out _ _ ?_
  clear hK K
  try simp only [Act.put]
  refine wpAnyF_done (by kernel_rfl) ?_
  have hBW := hS.2.2.2.2.2.2.2.2
  clear hS
  go_wp2
  exact bodyPost_ret (v := .agg #[.int .i64 n, .int .i64 e, .int .i64 s, .slice pv ws.length cv]) (by simp (maxDischargeDepth := 8) [results, Try.results80, go_sem, *]) rfl ⟨pv, cv, rfl, by refine owns_mono (base := W0.heap.size) ?_ (by have := HS0.out; omega); have o1 := HO1.out; have h0 := HS0.out; ((repeat (refine ownsRow_setCell_below ?_ ?_ _; rotate_left; focus (first | omega | (simp; done) | (simp; omega)))); with_reducible exact o1), by have h6 := HB0.out; have h7 := hBW; have h8 := HS0.out; (repeat (first | exact Below.refl _ _ | (refine Below.setCell ?_ (by (first | exact Nat.le_refl _ | omega | (simp <;> omega) | simp)) _) | (refine Below.alloc ?_ (by (first | exact Nat.le_refl _ | omega | (simp <;> omega) | simp)) _) | (refine below_draws ?_ _) | exact h6 | (refine Below.trans ?_ (Below.mono h6 (by (first | exact Nat.le_refl _ | omega | (simp <;> omega) | simp)))) | exact h7 | (refine Below.trans ?_ (Below.mono h7 (by (first | exact Nat.le_refl _ | omega | (simp <;> omega) | simp))))))⟩
theorem cells_fltW : ∀ (ws : List W3) (k : Nat) (x : Int), k < ws.length → cellsW (fltW ws k x) = (cellsW ws).set (k * 3 + 2) (.int .i64 x)
  | [], k, x, h => by simp at h
  | e :: r, 0, x, _ => by simp [fltW, cellsW, cells3]
  | e :: r, k + 1, x, h => by
    have ih := cells_fltW r k x (by simpa using h)
    have e1 : fltW (e :: r) (k + 1) x = e :: fltW r k x := by simp [fltW]
    have e2 : ∀ (e : W3) (r : List W3), cellsW (e :: r) = .int .i64 e.1 :: .int .i64 e.2.1 :: .int .i64 e.2.2 :: cellsW r := fun e r => by simp [cellsW, cells3]
    rw [e1, e2, e2, ih, show (k + 1) * 3 + 2 = k * 3 + 2 + 1 + 1 + 1 by omega]
    simp
theorem fltW_length (ws : List W3) (k : Nat) (x : Int) : (fltW ws k x).length = ws.length := by simp [fltW]
end Go.Proofs.Ytaececpphdaciaa
