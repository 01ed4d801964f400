/-
  l06Reduced in the model: wires without weight left out, the rest divided, and whether that is a valid network.
-/
import Derived.Test.YtpkddaapffamiaaCanon
import Derived.Test.YtpkddaapffamiaaGIns
import Derived.Test.YtpkddaapffamiaaGLap
import Derived.Deep.DeepCutAuto
namespace Go.Proofs.Ytpkddaapffamiaa
open Go.RowKit

noncomputable def redR (n e s : Int) (ws : List W3) : Int × Int × Int × List W3 × Bool :=
  if netB n e (s.tdiv (gAll s (dropZ ws))) ((dropZ ws).map (divW (gAll s (dropZ ws)))) = true then (n, e, s.tdiv (gAll s (dropZ ws)), (dropZ ws).map (divW (gAll s (dropZ ws))), true) else (0, 0, 0, [], false)
theorem dropZ_len (ws : List W3) : (dropZ ws).length ≤ ws.length := List.length_filter_le _ _
theorem WiresB.drop {ws : List W3} (h : WiresB ws) : WiresB (dropZ ws) := fun k hk => by
  have hm : (dropZ ws)[k] ∈ ws := (List.mem_filter.1 (List.getElem_mem hk)).1
  obtain ⟨i, hi, e⟩ := List.getElem_of_mem hm
  rw [← e]; exact h i hi
set_option maxRecDepth 8000 in
set_option maxHeartbeats 6400000 in
theorem spec_reduced (n e s : Int) (v : Value) (ws : List W3) (w : World) (hr : ReadsW w v ws) (hw : WiresB ws) (s1 : 1 ≤ s) (s2 : s ≤ 1000000000000) (hlen : ws.length ≤ 1048576) :
    Calls Try.prog 120 #[.agg #[.int .i64 n, .int .i64 e, .int .i64 s, v]] w fun en w' => ∃ p c, en = .returned (.tuple #[.agg #[.int .i64 (redR n e s ws).1, .int .i64 (redR n e s ws).2.1, .int .i64 (redR n e s ws).2.2.1, .slice p (redR n e s ws).2.2.2.1.length c], .bool (redR n e s ws).2.2.2.2]) ∧ w'.ownsRow w.heap.size 80 3 (.slice p (redR n e s ws).2.2.2.1.length c) (redR n e s ws).2.2.2.1.length (cellsW (redR n e s ws).2.2.2.1) ∧ Below w.heap.size w w' := by
  obtain ⟨W1, hW1⟩ : ∃ W1, W1 = (w.alloc (.cells #[.int .i64 n, .int .i64 e, .int .i64 s, v] 25)).alloc (.cells #[.int .i64 0, .int .i64 0, .int .i64 0, .slice none 0 0] 25) := ⟨_, rfl⟩
  have hsW : W1.heap.size = w.heap.size + 1 + 1 := by rw [hW1]; simp
  have B0 : Below w.heap.size w W1 := by rw [hW1]; (repeat (first | exact Below.refl _ _ | (refine Below.setCell ?_ (by (first | exact Nat.le_refl _ | omega | (simp <;> omega) | simp)) _) | (refine Below.alloc ?_ (by (first | exact Nat.le_refl _ | omega | (simp <;> omega) | simp)) _) | (refine below_draws ?_ _)))
  have hbox : boxN W1 w.heap.size n e s v := by rw [hW1]; exact (boxN.new w n e s v 25).later ((Below.refl _ _).alloc (Nat.le_refl _) _)
  have hfz : W1.frozen? ⟨w.heap.size, 3, none⟩ = false := by rw [hW1]; simp [go_sem]
  have z0 : W1.cell? ⟨w.heap.size + 1, 0, none⟩ = some (.int .i64 0) := by rw [hW1]; simp [go_sem]
  have z1 : W1.cell? ⟨w.heap.size + 1, 1, none⟩ = some (.int .i64 0) := by rw [hW1]; simp [go_sem]
  have z2 : W1.cell? ⟨w.heap.size + 1, 2, none⟩ = some (.int .i64 0) := by rw [hW1]; simp [go_sem]
  have z3 : W1.cell? ⟨w.heap.size + 1, 3, none⟩ = some (.slice none 0 0) := by rw [hW1]; simp [go_sem]
  have zf : ∀ o, W1.frozen? ⟨w.heap.size + 1, o, none⟩ = false := by intro o; rw [hW1]; simp [go_sem]
  have hdrop := spec_drop v ws W1 (hr.later B0) (by omega)
  have hlz := dropZ_len ws
  have hwz := hw.drop
  have hy : netB n e (s.tdiv (gAll s (dropZ ws))) ((dropZ ws).map (divW (gAll s (dropZ ws)))) = true → redR n e s ws = (n, e, s.tdiv (gAll s (dropZ ws)), (dropZ ws).map (divW (gAll s (dropZ ws))), true) := fun h => by unfold redR; rw [if_pos h]
  have hno : netB n e (s.tdiv (gAll s (dropZ ws))) ((dropZ ws).map (divW (gAll s (dropZ ws)))) = false → redR n e s ws = (0, 0, 0, [], false) := fun h => by unfold redR; rw [h, if_neg (by simp)]
  generalize redR n e s ws = R at *
  generalize hz : dropZ ws = Z at *
  have hgr := (gAll_range hwz s1 s2 Z.length (Nat.le_refl _))
  rw [List.take_length] at hgr
  have hcan := fun (p : Option Addr) (c : Nat) (W : World) (h : ReadsW W (.slice p Z.length c) Z) => spec_l03Canon n e s _ Z W h hwz s1 s2 (by omega)
  generalize gAll s Z = G at *
  have hml : (Z.map (divW G)).length = Z.length := by simp
  have hnet := fun (p : Option Addr) (c : Nat) (W : World) (h : ReadsW W (.slice p Z.length c) (Z.map (divW G))) => spec_netOk n e (s.tdiv G) _ (Z.map (divW G)) W h
  generalize Z.map (divW G) = M at *
  generalize s.tdiv G = S at *
  have HC := Lib.hid hcan
  have HN := Lib.hid hnet
  have HZ := Lib.hid (And.intro z0 (And.intro z1 (And.intro z2 (And.intro z3 zf))))
  have HML := Lib.hid hml
  have HY := Lib.hid hy
  have HNO := Lib.hid hno
  have hl1 : w.heap.size + 1 < W1.heap.size := by omega
  have hl0 : w.heap.size < W1.heap.size := by omega
  obtain ⟨x0, x1, x2, x3⟩ := (id hbox)
  have HBX := Lib.hid hbox
  have HFZ := Lib.hid hfz
  have HSW := Lib.hid hsW
  clear hr hw hlz hwz hgr hcan hnet z0 z1 z2 z3 zf hml hz hy hno hbox hfz hsW
  go_enter Try.func120, Try.ntmps120
  go_wp2_with fail
  rw [← hW1]
  refine hdrop.mono ?_
  rintro en w1 ⟨p1, c1, rfl, o1, B1⟩
  clear hdrop hW1 x0 x1 x2 x3
  obtain ⟨x0, x1, x2, x3⟩ := HBX.out.below B1 hl0
  have xf := (B1.frozen (p := ⟨w.heap.size, 3, none⟩) hl0).trans HFZ.out
  have S1 := B1.size
  have hl01 : w.heap.size < w1.heap.size := by omega
  obtain ⟨X2, hX2⟩ : ∃ X2, X2 = w1.setCell ⟨w.heap.size, 3, none⟩ (.slice p1 Z.length c1) := ⟨_, rfl⟩
  have hs2 : X2.heap.size = w1.heap.size := by rw [hX2]; simp
  have oX : X2.ownsRow W1.heap.size 80 3 (.slice p1 Z.length c1) Z.length (cellsW Z) := by rw [hX2]; exact ownsRow_setCell_below o1 (show w.heap.size < W1.heap.size from hl0) _
  have bX : boxN X2 w.heap.size n e s (.slice p1 Z.length c1) := by
    rw [hX2]
    exact ⟨(World.cell?_setCell_other _ _ _ _ (by simp)).trans x0, (World.cell?_setCell_other _ _ _ _ (by simp)).trans x1, (World.cell?_setCell_other _ _ _ _ (by simp)).trans x2, World.cell?_setCell_same _ _ _ x3⟩
  have E2 : Below w.heap.size w X2 := by rw [hX2]; exact (B0.trans (B1.mono B0.size)).setCell (Nat.le_refl _) _
  have HZ2 : Hid (X2.cell? ⟨w.heap.size + 1, 0, none⟩ = some (.int .i64 0) ∧ X2.cell? ⟨w.heap.size + 1, 1, none⟩ = some (.int .i64 0) ∧ X2.cell? ⟨w.heap.size + 1, 2, none⟩ = some (.int .i64 0) ∧ X2.cell? ⟨w.heap.size + 1, 3, none⟩ = some (.slice none 0 0) ∧ ∀ o, X2.frozen? ⟨w.heap.size + 1, o, none⟩ = false) := Lib.hid (by
    obtain ⟨z0, z1, z2, z3, zf⟩ := HZ.out
    have c := fun j u (h : W1.cell? ⟨w.heap.size + 1, j, none⟩ = some u) => (World.cell?_setCell_far w1 ⟨w.heap.size, 3, none⟩ ⟨w.heap.size + 1, j, none⟩ (.slice p1 Z.length c1) (by simp)).trans ((B1.cell (p := ⟨w.heap.size + 1, j, none⟩) hl1).trans h)
    rw [hX2]
    exact ⟨c 0 _ z0, c 1 _ z1, c 2 _ z2, c 3 _ z3, fun o => by simp only [World.frozen?_setCell]; exact (B1.frozen (p := ⟨w.heap.size + 1, o, none⟩) hl1).trans (zf o)⟩)
  have HCC := Lib.hid (HC.out p1 c1 X2 (ReadsW.of_own oX))
  obtain ⟨y0, y1, y2, y3⟩ := bX
  have HE2 := Lib.hid E2
  have hl2 : w.heap.size + 1 < X2.heap.size := by omega
  have HS2 := Lib.hid hs2
  clear oX E2 o1 B1 hs2
  go_upto_region 2 with fail
  rw [← hX2]
  clear hX2 x0 x1 x2 x3 xf
  go_wp2_with fail
  refine HCC.out.mono ?_
  rintro en w2 ⟨p2, c2, rfl, o2, B2⟩
  clear y0 y1 y2 y3 HCC
  obtain ⟨X3, hX3⟩ : ∃ X3, X3 = w2.alloc (.cells #[.int .i64 n, .int .i64 e, .int .i64 S, .slice p2 Z.length c2] 25) := ⟨_, rfl⟩
  have hA : Below w2.heap.size w2 X3 := by rw [hX3]; exact (Below.refl _ _).alloc (Nat.le_refl _) _
  have hs3 := B2.size
  have E3 : Below X2.heap.size X2 X3 := B2.trans (hA.mono hs3)
  have bX3 : boxN X3 w2.heap.size n e S (.slice p2 Z.length c2) := by rw [hX3]; exact boxN.new w2 n e S _ 25
  have hsX3 : w2.heap.size < X3.heap.size := by rw [hX3]; simp
  have o3 := owns_later o2 hA
  have HNC := Lib.hid (HN.out p2 c2 X3 (ReadsW.of_own (by rw [HML.out]; exact o3)))
  have HO3 := Lib.hid o3
  obtain ⟨y0, y1, y2, y3⟩ := bX3
  have HB3 := Lib.hid (And.intro y0 (And.intro y1 (And.intro y2 y3)))
  have HE3 := Lib.hid E3
  clear o2 o3 hA E3 B2
  go_upto_region 3 with fail
  rw [← hX3]
  clear hX3
  go_wp2_with fail
  refine HNC.out.mono ?_
  rintro en w4 ⟨rfl, B4⟩
  clear y0 y1 y2 y3 HNC
  have E4 : Below X2.heap.size X2 w4 := HE3.out.trans (B4.mono HE3.out.size)
  have F4 : Below w.heap.size w w4 := HE2.out.trans (E4.mono HE2.out.size)
  obtain ⟨a0, a1, a2, a3, af⟩ := HZ2.out
  have r0 := (E4.cell (p := ⟨w.heap.size + 1, 0, none⟩) hl2).trans a0
  have r1 := (E4.cell (p := ⟨w.heap.size + 1, 1, none⟩) hl2).trans a1
  have r2 := (E4.cell (p := ⟨w.heap.size + 1, 2, none⟩) hl2).trans a2
  have r3 := (E4.cell (p := ⟨w.heap.size + 1, 3, none⟩) hl2).trans a3
  have rf := fun o => (E4.frozen (p := ⟨w.heap.size + 1, o, none⟩) hl2).trans (af o)
  obtain ⟨b0, b1, b2, b3⟩ := HB3.out
  have d0 := (B4.cell (p := ⟨w2.heap.size, 0, none⟩) hsX3).trans b0
  have d1 := (B4.cell (p := ⟨w2.heap.size, 1, none⟩) hsX3).trans b1
  have d2 := (B4.cell (p := ⟨w2.heap.size, 2, none⟩) hsX3).trans b2
  have d3 := (B4.cell (p := ⟨w2.heap.size, 3, none⟩) hsX3).trans b3
  have HO4 := Lib.hid (owns_later HO3.out B4)
  have HF4 := Lib.hid F4
  have hlw4 : w.heap.size + 1 < w4.heap.size := Nat.lt_of_lt_of_le hl2 E4.size
  have bs : ∀ (Y : World) (j : Nat) (u : Value), Below w.heap.size w Y → Below w.heap.size w (Y.setCell ⟨w.heap.size + 1, j, none⟩ u) := fun Y j u hB => hB.setCell (Nat.le_succ _) _
  have os : ∀ (Y : World) (j : Nat) (u : Value), Y.ownsRow X2.heap.size 80 3 (.slice p2 Z.length c2) Z.length (cellsW M) → (Y.setCell ⟨w.heap.size + 1, j, none⟩ u).ownsRow X2.heap.size 80 3 (.slice p2 Z.length c2) Z.length (cellsW M) := fun Y j u ho => ownsRow_setCell_below ho (show w.heap.size + 1 < X2.heap.size from hl2) _
  have hne : w2.heap.size ≠ w.heap.size + 1 := by have := HE3.out.size; omega
  clear a0 a1 a2 a3 af b0 b1 b2 b3 E4 F4 B4
  cases hb : netB n e S M
  · have hR := HNO.out hb
    subst hR
    clear d0 d1 d2 d3 hb
    go_wp2
    exact bodyPost_ret (v := (.tuple #[.agg #[.int .i64 0, .int .i64 0, .int .i64 0, .slice none 0 0], .bool false])) (by simp (maxDischargeDepth := 8) [results, Try.results120, go_sem, *]) rfl ⟨none, 0, rfl, World.ownsRow_nil _ _ _ _, bs _ _ _ (bs _ _ _ (bs _ _ _ (bs _ _ _ HF4.out)))⟩
  · have hR := HY.out hb
    subst hR
    have HL := Lib.hid HML.out
    clear hb
    go_wp2
    exact bodyPost_ret (v := (.tuple #[.agg #[.int .i64 n, .int .i64 e, .int .i64 S, .slice p2 Z.length c2], .bool true])) (by simp (maxDischargeDepth := 8) [results, Try.results120, go_sem, *]) rfl ⟨p2, c2, by rw [HL.out], by rw [HL.out]; exact owns_mono (os _ _ _ (os _ _ _ (os _ _ _ (os _ _ _ HO4.out)))) (by omega), bs _ _ _ (bs _ _ _ (bs _ _ _ (bs _ _ _ HF4.out)))⟩
end Go.Proofs.Ytpkddaapffamiaa
