/-
  The conductances of a star: what StarWeights answers.
  The conductance of one wire of a star, in the model and in the program.
  The conductance of one wire of a star, in the program.
  StarWeights in the model.
  StarWeights in the program.
  The law FnExactStarWeights, walked: for every matrix of fractions the reference model and the program give the same answer to StarWeights, the matrix is not changed, and the answer shares no memory with it or with another answer. No condition.
-/
import Derived.Test.YtpfnlnllaapjeaaStarMat
import Derived.Test.YtpfnlnllaapjeaaNodes
import Derived.Test.YtpfnlnllaapjeaaGResp
import Derived.Test.YtpfnlnllaapjeaaRatCalls
import Derived.Test.YtpfnlnllaapjeaaGPow
import Derived.Test.YtpfnlnllaapjeaaStarCross
import Derived.Test.YtpfnlnllaapjeaaGKeep
import Derived.Test.YtpfnlnllaapjeaaPowSpec
import Derived.Test.YtpfnlnllaapjeaaGKir
import Derived.BigQuiet
import Derived.Test.YtpfnlnllaapjeaaStarProd
import Derived.Test.YtpfnlnllaapjeaaStarMatSpec
import Derived.Test.YtpfnlnllaapjeaaGPots
import Derived.Test.YtpfnlnllaapjeaaStarZero
import Derived.Test.YtpfnlnllaapjeaaRows
import Derived.Test.YtpfnlnllaapjeaaGMarks
namespace Go.Proofs.Ytpfnlnllaapjeaa
open Go.RowKit

def invP (a : P2) : P2 := rInv a.1 a.2
def jN (i : Nat) : Nat := if i = 0 then 1 else 0
def kN (i : Nat) : Nat := if i = 0 ∨ i = 1 then 2 else 1
def diffP (a b : P2) : P2 := rDiff a.1 a.2 b.1 b.2
def wtP (m : MatP) (i : Nat) : P2 := diffP (elP m i i) (tmP (tmP (elP m i (jN i)) (elP m i (kN i))) (invP (elP m (jN i) (kN i))))
def swL (m : MatP) (k : Nat) : List P2 := (List.range k).map (wtP m)
theorem swL_length (m : MatP) (k : Nat) : (swL m k).length = k := by simp [swL]
theorem swL_succ (m : MatP) (k : Nat) : swL m (k + 1) = swL m k ++ [wtP m k] := by simp [swL, List.range_succ]
theorem swL_get (m : MatP) (n k : Nat) (h : k < (swL m n).length) : (swL m n)[k] = wtP m k := by simp [swL]
noncomputable def swR (m : MatP) : List P2 × Bool := if isStarB m = true ∧ allOkP (swL m m.length) = true then (swL m m.length, true) else ([], false)
theorem swR_no {m : MatP} (h : ¬ (isStarB m = true ∧ allOkP (swL m m.length) = true)) : swR m = ([], false) := by unfold swR; rw [if_neg h]
theorem swR_yes {m : MatP} (h : isStarB m = true) (h2 : allOkP (swL m m.length) = true) : swR m = (swL m m.length, true) := by unfold swR; rw [if_pos ⟨h, h2⟩]
theorem swR_bad {m : MatP} {k : Nat} (hk : k < m.length) (h : rOk (wtP m k).1 (wtP m k).2 = false) : swR m = ([], false) := swR_no (fun hh => by
  have := allOk_get hh.2 k (by rw [swL_length]; exact hk)
  rw [swL_get] at this
  rw [h] at this; cases this)
theorem sw_small (m : MatP) : (swR m).1.length ≤ 5 := by
  by_cases h : isStarB m = true ∧ allOkP (swL m m.length) = true
  · rw [swR_yes h.1 h.2]
    have := (isStar_iff.1 h.1).1.2.1
    show (swL m m.length).length ≤ 5
    rw [swL_length]; exact this
  · rw [swR_no h]; simp
theorem ret_sw {m : MatP} {L : List P2} {b : Bool} {v : Value} (h : swR m = (L, b)) : Ending.returned (.tuple #[v, .bool b]) = Ending.returned (.tuple #[v, .bool (swR m).2]) := by rw [h]
theorem jN_lt {i L : Nat} (h3 : 3 ≤ L) : jN i < L ∧ jN i ≤ 1 := by unfold jN; split <;> omega
theorem kN_lt {i L : Nat} (h3 : 3 ≤ L) : kN i < L ∧ kN i ≤ 2 := by unfold kN; split <;> omega
theorem diffP_in (n d m e : Int) : In (rDiff n d m e).1 ∧ In (rDiff n d m e).2 := by
  unfold rDiff
  split
  · exact rOf_in _ _
  · exact ⟨⟨by decide, by decide⟩, ⟨by decide, by decide⟩⟩
theorem invP_in (n d : Int) : In (rInv n d).1 ∧ In (rInv n d).2 := by
  unfold rInv
  split
  · exact rOf_in _ _
  · exact ⟨⟨by decide, by decide⟩, ⟨by decide, by decide⟩⟩
theorem wtP_in (m : MatP) (i : Nat) : In (wtP m i).1 ∧ In (wtP m i).2 := diffP_in _ _ _ _
theorem swL_wf (m : MatP) (n : Nat) : WfP (swL m n) := fun k hk => by rw [swL_get]; exact wtP_in m k
theorem wo_two {N i : Nat} (h3 : 3 ≤ N) (h5 : N ≤ 5) (hi : i < N) : ∃ r, woL N [(i : Int)] = (jN i : Int) :: (kN i : Int) :: r := by
  have hN : N = 3 ∨ N = 4 ∨ N = 5 := by omega
  have hI : i = 0 ∨ i = 1 ∨ i = 2 ∨ i = 3 ∨ i = 4 := by omega
  rcases hN with rfl | rfl | rfl <;> rcases hI with rfl | rfl | rfl | rfl | rfl <;> first | omega | exact ⟨_, rfl⟩
end Go.Proofs.Ytpfnlnllaapjeaa

namespace Go.Proofs.Ytpfnlnllaapjeaa
open Go.RowKit Go.Maps

theorem s_inv {n d x y : Int} (h : rInv n d = (x, y)) (hn : In n ∧ In d) (w : World) : Calls Try.prog 145 #[.agg #[.int .i64 n, .int .i64 d]] w fun en w' => en = .returned (.agg #[.int .i64 x, .int .i64 y]) ∧ Below w.heap.size w w' := by
  have hc := spec_rInv n d w hn.1.1 hn.1.2 hn.2.1 hn.2.2
  rw [h] at hc; exact hc
set_option maxRecDepth 8000 in
set_option maxHeartbeats 12800000 in
theorem spec_weight (v : Value) (m : MatP) (i : Nat) (w : World) (hr : ReadsPP w v m) (hwf : ∀ k (h : k < m.length), WfL m[k]) (h3 : 3 ≤ m.length) (h5 : m.length ≤ 5) (hL : ∀ i, i < m.length → (rowP m i).length = m.length) (hi : i < m.length) :
    Calls Try.prog 95 #[v, .int .i64 i] w fun en w' => en = .returned (.agg #[.int .i64 (wtP m i).1, .int .i64 (wtP m i).2]) ∧ Below w.heap.size w w' := by
  obtain ⟨g, o, c, rfl, hg, hrows⟩ := rows_at hr (by omega) hL
  obtain ⟨j, hj⟩ : ∃ j, j = jN i := ⟨_, rfl⟩
  obtain ⟨k, hk⟩ : ∃ k, k = kN i := ⟨_, rfl⟩
  have hjl : j < m.length ∧ j ≤ 1 := by rw [hj]; exact jN_lt h3
  have hkl : k < m.length ∧ k ≤ 2 := by rw [hk]; exact kN_lt h3
  obtain ⟨hjl, hj1⟩ := hjl
  obtain ⟨hkl, hk2⟩ := hkl
  obtain ⟨gi, oi, ci, a0, hgi, -, hei⟩ := hrows i hi
  obtain ⟨gj, oj, cj, b0, hgj, -, hej⟩ := hrows j hjl
  obtain ⟨x0, x1⟩ := hei j hjl
  obtain ⟨y0, y1⟩ := hei k hkl
  obtain ⟨d0, d1⟩ := hei i hi
  obtain ⟨e0, e1⟩ := hej k hkl
  have iX := el_in hwf hi (show j < (rowP m i).length by rw [hL i hi]; exact hjl)
  have iY := el_in hwf hi (show k < (rowP m i).length by rw [hL i hi]; exact hkl)
  have iD := el_in hwf hi (show i < (rowP m i).length by rw [hL i hi]; exact hi)
  have iE := el_in hwf hjl (show k < (rowP m j).length by rw [hL j hjl]; exact hkl)
  have hdef : wtP m i = diffP (elP m i i) (tmP (tmP (elP m i j) (elP m i k)) (invP (elP m j k))) := by rw [hj, hk]; rfl
  rw [hdef]
  clear hdef hrows hei hej hwf hL
  have HR := Lib.hid hr
  clear hr
  generalize elP m i j = X at *
  generalize elP m i k = Y at *
  generalize elP m i i = D at *
  generalize elP m j k = E at *
  obtain ⟨X1, X2⟩ := X
  obtain ⟨Y1, Y2⟩ := Y
  obtain ⟨D1, D2⟩ := D
  obtain ⟨E1, E2⟩ := E
  obtain ⟨P1, P2', hP⟩ : ∃ P1 P2', tmP (X1, X2) (Y1, Y2) = (P1, P2') := ⟨_, _, rfl⟩
  obtain ⟨V1, V2, hV⟩ : ∃ V1 V2, invP (E1, E2) = (V1, V2) := ⟨_, _, rfl⟩
  obtain ⟨T1, T2, hT⟩ : ∃ T1 T2, tmP (P1, P2') (V1, V2) = (T1, T2) := ⟨_, _, rfl⟩
  obtain ⟨R1, R2, hR⟩ : ∃ R1 R2, diffP (D1, D2) (T1, T2) = (R1, R2) := ⟨_, _, rfl⟩
  rw [hP, hV, hT, hR]
  simp only at x0 x1 y0 y1 d0 d1 e0 e1 iX iY iD iE
  have iP := times_in (n := X1) (d := X2) (m := Y1) (e := Y2) hP
  have iV : In V1 ∧ In V2 := by have h := invP_in E1 E2; rw [show rInv E1 E2 = (V1, V2) from hV] at h; exact h
  have iT := times_in (n := P1) (d := P2') (m := V1) (e := V2) hT
  have CP := Lib.hid (fun W => s_tm (n := X1) (d := X2) (m := Y1) (e := Y2) hP iX iY W)
  have CV := Lib.hid (fun W => s_inv (n := E1) (d := E2) hV iE W)
  have CT := Lib.hid (fun W => s_tm (n := P1) (d := P2') (m := V1) (e := V2) hT iP iV W)
  have CD := Lib.hid (fun W => s_diff (n := D1) (d := D2) (m := T1) (e := T2) hR iD iT W)
  clear hP hV hT hR iX iY iD iE iP iV iT
  obtain ⟨W0, hW0⟩ : ∃ W0, W0 = w.alloc (.cells #[.int .i64 0, .int .i64 0] 33) := ⟨_, rfl⟩
  have hs0 : W0.heap.size = w.heap.size + 1 := by rw [hW0]; simp
  have HZ : Hid (W0.cell? ⟨w.heap.size, 0, none⟩ = some (.int .i64 0) ∧ W0.cell? ⟨w.heap.size, 1, none⟩ = some (.int .i64 0) ∧ W0.frozen? ⟨w.heap.size, 0, none⟩ = false ∧ W0.frozen? ⟨w.heap.size, 1, none⟩ = false) := Lib.hid (by rw [hW0]; exact ⟨by simp [go_sem], by simp [go_sem], by simp [go_sem], by simp [go_sem]⟩)
  have HB0 : Hid (Below w.heap.size w W0) := Lib.hid (by rw [hW0]; exact (Below.refl _ _).alloc (Nat.le_refl _) _)
  have HC : Hid (∀ W, Below w.heap.size w W → (W.cell? ⟨g, o + i, none⟩ = some (.slice (some ⟨gi, oi, none⟩) m.length ci) ∧ W.cell? ⟨g, o + j, none⟩ = some (.slice (some ⟨gj, oj, none⟩) m.length cj) ∧ W.cell? ⟨gi, oi + j * 2, none⟩ = some (.int .i64 X1) ∧ W.cell? ⟨gi, oi + j * 2 + 1, none⟩ = some (.int .i64 X2) ∧ W.cell? ⟨gi, oi + k * 2, none⟩ = some (.int .i64 Y1) ∧ W.cell? ⟨gi, oi + k * 2 + 1, none⟩ = some (.int .i64 Y2)) ∧ W.cell? ⟨gi, oi + i * 2, none⟩ = some (.int .i64 D1) ∧ W.cell? ⟨gi, oi + i * 2 + 1, none⟩ = some (.int .i64 D2) ∧ W.cell? ⟨gj, oj + k * 2, none⟩ = some (.int .i64 E1) ∧ W.cell? ⟨gj, oj + k * 2 + 1, none⟩ = some (.int .i64 E2)) := Lib.hid (fun W hB => ⟨⟨(hB.cell (p := ⟨g, _, none⟩) hg).trans a0, (hB.cell (p := ⟨g, _, none⟩) hg).trans b0, (hB.cell (p := ⟨gi, _, none⟩) hgi).trans x0, (hB.cell (p := ⟨gi, _, none⟩) hgi).trans x1, (hB.cell (p := ⟨gi, _, none⟩) hgi).trans y0, (hB.cell (p := ⟨gi, _, none⟩) hgi).trans y1⟩, (hB.cell (p := ⟨gi, _, none⟩) hgi).trans d0, (hB.cell (p := ⟨gi, _, none⟩) hgi).trans d1, (hB.cell (p := ⟨gj, _, none⟩) hgj).trans e0, (hB.cell (p := ⟨gj, _, none⟩) hgj).trans e1⟩)
  clear a0 b0 x0 x1 y0 y1 d0 d1 e0 e1
  have HJ : Hid ((i = 0 ∧ j = 1 ∧ k = 2) ∨ (i = 1 ∧ j = 0 ∧ k = 2) ∨ (2 ≤ i ∧ j = 0 ∧ k = 1)) := Lib.hid (by
    unfold jN at hj; unfold kN at hk
    split at hj <;> split at hk <;> omega)
  clear hj hk
  go_enter Try.func95, Try.ntmps95
  go_upto_if 9 with fail
  (try change Code.wp _ _ _ _ (World.alloc _ _))
  rw [← hW0]
  clear hW0
  go_cut [5] (fun s5 wc => s5 = .int .i64 (j : Int) ∧ wc = W0)
  case first =>
    rcases HJ.out with ⟨e1, e2, e3⟩ | ⟨e1, e2, e3⟩ | ⟨e1, e2, e3⟩
    · subst e1; subst e2
      go_wp2
      go_meet
      exact ⟨rfl, rfl⟩
    · subst e1; subst e2
      go_wp2
      go_meet
      exact ⟨rfl, rfl⟩
    · have hne : ¬ ((i : Int) = 0) := by omega
      have hne' : ((i : Int) == 0) = false := by simp; omega
      subst e2
      go_wp2
      go_meet
      exact ⟨rfl, rfl⟩
  case rest =>
    obtain ⟨rfl, hwc⟩ := hcut
    rw [hwc]
    clear hwc
    go_upto_if 14 with fail
    go_cut [6] (fun s6 wc => s6 = .int .i64 (k : Int) ∧ wc = W0)
    case first =>
      rcases HJ.out with ⟨e1, e2, e3⟩ | ⟨e1, e2, e3⟩ | ⟨e1, e2, e3⟩
      · subst e1; subst e2; subst e3
        go_wp2
        go_meet
        exact ⟨by first | rfl | go_num, rfl⟩
      · subst e1; subst e2; subst e3
        go_wp2
        go_meet
        exact ⟨by first | rfl | go_num, rfl⟩
      · have hne : ¬ ((0 : Int) + 1 = (i : Int)) := by omega
        have hne2 : ¬ ((1 : Int) = (i : Int)) := by omega
        have hne' : ((1 : Int) == (i : Int)) = false := by simp; omega
        subst e2; subst e3
        go_wp2
        go_meet
        exact ⟨by first | rfl | go_num, rfl⟩
    case rest =>
      obtain ⟨rfl, hwc⟩ := hcut
      rw [hwc]
      clear hwc
      have hgl : g < W0.heap.size := by omega
      have hgil : gi < W0.heap.size := by omega
      have hgjl : gj < W0.heap.size := by omega
      have HZ1 : Hid (∀ W, Below W0.heap.size W0 W → W.cell? ⟨w.heap.size, 0, none⟩ = some (.int .i64 0) ∧ W.cell? ⟨w.heap.size, 1, none⟩ = some (.int .i64 0) ∧ W.frozen? ⟨w.heap.size, 0, none⟩ = false ∧ W.frozen? ⟨w.heap.size, 1, none⟩ = false) := Lib.hid (fun W hB => by
        obtain ⟨z0, z1, f0, f1⟩ := HZ.out
        have hl : w.heap.size < W0.heap.size := by omega
        exact ⟨(hB.cell (p := ⟨w.heap.size, _, none⟩) hl).trans z0, (hB.cell (p := ⟨w.heap.size, _, none⟩) hl).trans z1, (hB.frozen (p := ⟨w.heap.size, _, none⟩) hl).trans f0, (hB.frozen (p := ⟨w.heap.size, _, none⟩) hl).trans f1⟩)
      obtain ⟨CELLS1, CELLS2⟩ := HC.out W0 HB0.out
      obtain ⟨q0, q1, q2, q3, q4, q5⟩ := CELLS1
      have HL6 : Hid (g < W0.heap.size ∧ g < W0.heap.size ∧ gi < W0.heap.size ∧ gi < W0.heap.size ∧ gi < W0.heap.size ∧ gi < W0.heap.size) := Lib.hid ⟨hgl, hgl, hgil, hgil, hgil, hgil⟩
      have hS0 : W0.cell? ⟨g, o + i, none⟩ = some (.slice (some ⟨gi, oi, none⟩) m.length ci) ∧ W0.cell? ⟨g, o + i, none⟩ = some (.slice (some ⟨gi, oi, none⟩) m.length ci) ∧ W0.cell? ⟨gi, oi + j * 2, none⟩ = some (.int .i64 X1) ∧ W0.cell? ⟨gi, oi + j * 2 + 1, none⟩ = some (.int .i64 X2) ∧ W0.cell? ⟨gi, oi + k * 2, none⟩ = some (.int .i64 Y1) ∧ W0.cell? ⟨gi, oi + k * 2 + 1, none⟩ = some (.int .i64 Y2) ∧ W0.heap.size ≤ W0.heap.size ∧ W0.heap.size ≤ W0.heap.size ∧ Below W0.heap.size W0 W0 := ⟨q0, q0, q2, q3, q4, q5, Nat.le_refl _, Nat.le_refl _, Below.refl _ _⟩
      clear q0 q1 q2 q3 q4 q5 CELLS2 hgl hgil hgjl hs0 hg hgi hgj hj1 hk2
      go_upto_region 7 with fail
      go_cut [7] (fun sp wx => ∃ B : Nat, sp = .pointer (some ⟨B, 0, none⟩) ∧ (wx.cell? ⟨B, 0, none⟩ = some (.int .i64 P1) ∧ wx.cell? ⟨B, 1, none⟩ = some (.int .i64 P2') ∧ wx.frozen? ⟨B, 0, none⟩ = false ∧ wx.frozen? ⟨B, 1, none⟩ = false ∧ B < wx.heap.size ∧ W0.heap.size ≤ B) ∧ (wx.cell? ⟨g, o + i, none⟩ = some (.slice (some ⟨gi, oi, none⟩) m.length ci) ∧ wx.cell? ⟨g, o + i, none⟩ = some (.slice (some ⟨gi, oi, none⟩) m.length ci) ∧ wx.cell? ⟨gi, oi + j * 2, none⟩ = some (.int .i64 X1) ∧ wx.cell? ⟨gi, oi + j * 2 + 1, none⟩ = some (.int .i64 X2) ∧ wx.cell? ⟨gi, oi + k * 2, none⟩ = some (.int .i64 Y1) ∧ wx.cell? ⟨gi, oi + k * 2 + 1, none⟩ = some (.int .i64 Y2) ∧ W0.heap.size ≤ wx.heap.size ∧ W0.heap.size ≤ W0.heap.size ∧ Below W0.heap.size W0 wx))
      case first =>
        have hS := k6_drew hS0
        clear hS0
        go_region_held3 (fun w' => w'.cell? ⟨g, o + i, none⟩ = some (.slice (some ⟨gi, oi, none⟩) m.length ci) ∧ w'.cell? ⟨g, o + i, none⟩ = some (.slice (some ⟨gi, oi, none⟩) m.length ci) ∧ w'.cell? ⟨gi, oi + j * 2, none⟩ = some (.int .i64 X1) ∧ w'.cell? ⟨gi, oi + j * 2 + 1, none⟩ = some (.int .i64 X2) ∧ w'.cell? ⟨gi, oi + k * 2, none⟩ = some (.int .i64 Y1) ∧ w'.cell? ⟨gi, oi + k * 2 + 1, none⟩ = some (.int .i64 Y2) ∧ W0.heap.size ≤ w'.heap.size ∧ W0.heap.size ≤ W0.heap.size ∧ Below W0.heap.size W0 w')
          (first | (with_reducible exact hS) | (with_reducible exact k6_alloc hS) | (with_reducible exact k6_allocd hS) | exact k6_set hN.2.2.2.2.2 HL6.out (k6_set hN.2.2.2.2.2 HL6.out hS) | exact k6_set hS.2.2.2.2.2.2.1 HL6.out (k6_set hS.2.2.2.2.2.2.1 HL6.out (k6_alloc hS)))
          (first | (go_at_call 143; with_reducible refine Calls.mono (CP.out _) ?_; rintro en w1 ⟨rfl, B1⟩; (first | (have hN := kept_new B1 hS.2.2.2.2.2.2.1) | (have hN := kept_newd B1 hS.2.2.2.2.2.2.1; (try simp only [World.size_alloc] at hN)) | skip); (first | (with_reducible replace hS := k6_keep B1 hS) | (with_reducible replace hS := k6_keep B1 (k6_alloc hS)) | (with_reducible replace hS := k6_keep B1 (k6_allocd hS)))))
        all_goals
          go_wp2_with fail
          go_meet
          first
          | exact ⟨_, rfl, kept_laid hS.2.2.2.2.2.2.1, k6_alloc hS⟩
          | exact ⟨_, rfl, kept_put hN, k6_set hN.2.2.2.2.2 HL6.out (k6_set hN.2.2.2.2.2 HL6.out hS)⟩
      case rest =>
        obtain ⟨B, rfl, hK, hS1⟩ := hcut
        rename World => wx
        have HBx : Hid (Below W0.heap.size W0 wx) := Lib.hid hS1.2.2.2.2.2.2.2.2
        have HWx : Hid (Below w.heap.size w wx) := Lib.hid (HB0.out.trans (HBx.out.mono HB0.out.size))
        obtain ⟨⟨q0, q1, -, -, -, -⟩, q2, q3, q4, q5⟩ := HC.out wx HWx.out
        have hS : wx.cell? ⟨g, o + i, none⟩ = some (.slice (some ⟨gi, oi, none⟩) m.length ci) ∧ wx.cell? ⟨g, o + j, none⟩ = some (.slice (some ⟨gj, oj, none⟩) m.length cj) ∧ wx.cell? ⟨gi, oi + i * 2, none⟩ = some (.int .i64 D1) ∧ wx.cell? ⟨gi, oi + i * 2 + 1, none⟩ = some (.int .i64 D2) ∧ wx.cell? ⟨gj, oj + k * 2, none⟩ = some (.int .i64 E1) ∧ wx.cell? ⟨gj, oj + k * 2 + 1, none⟩ = some (.int .i64 E2) ∧ wx.cell? ⟨B, 0, none⟩ = some (.int .i64 P1) ∧ wx.cell? ⟨B, 1, none⟩ = some (.int .i64 P2') ∧ wx.heap.size ≤ wx.heap.size ∧ wx.heap.size ≤ wx.heap.size ∧ Below wx.heap.size wx wx := ⟨q0, q1, q2, q3, q4, q5, hK.1, hK.2.1, Nat.le_refl _, Nat.le_refl _, Below.refl _ _⟩
        replace hS := k8_drew hS
        clear hS0 hS1 hK q0 q1 q2 q3 q4 q5
        go_upto_region 8 with fail
        refine wp_region_F 18 (fun w' => w'.cell? ⟨g, o + i, none⟩ = some (.slice (some ⟨gi, oi, none⟩) m.length ci) ∧ w'.cell? ⟨g, o + j, none⟩ = some (.slice (some ⟨gj, oj, none⟩) m.length cj) ∧ w'.cell? ⟨gi, oi + i * 2, none⟩ = some (.int .i64 D1) ∧ w'.cell? ⟨gi, oi + i * 2 + 1, none⟩ = some (.int .i64 D2) ∧ w'.cell? ⟨gj, oj + k * 2, none⟩ = some (.int .i64 E1) ∧ w'.cell? ⟨gj, oj + k * 2 + 1, none⟩ = some (.int .i64 E2) ∧ w'.cell? ⟨B, 0, none⟩ = some (.int .i64 P1) ∧ w'.cell? ⟨B, 1, none⟩ = some (.int .i64 P2') ∧ wx.heap.size ≤ w'.heap.size ∧ wx.heap.size ≤ wx.heap.size ∧ Below wx.heap.size wx w') (by kernel_rfl) hS ?_
        clear hS
        intro hS
        refine takeF_on (i := 0) (d := some 32) (v := .slice (some ⟨g, o, none⟩) m.length c) rfl rfl (by kernel_rfl) (fun _ _ _ h => h) (by rfl) (by (intro w hSw; (try dsimp only at hSw); go_simp)) (by assumption) ?_
        try simp only [Act.put, List.setIfInBounds_toArray, List.set_cons_zero, List.set_cons_succ]
        refine takeF_on (i := 1) (d := some 33) (v := .int .i64 i) rfl rfl (by kernel_rfl) (fun _ _ _ h => h) (by rfl) (by (intro w hSw; (try dsimp only at hSw); go_simp)) (by assumption) ?_
        try simp only [Act.put, List.setIfInBounds_toArray, List.set_cons_zero, List.set_cons_succ]
        refine takeF_on (i := 2) (d := some 34) (v := .pointer (some ⟨g, o + i, none⟩)) rfl rfl (by kernel_rfl) (fun _ _ _ h => h) (by rfl) (by (intro w hSw; (try dsimp only at hSw); go_simp)) (by assumption) ?_
        try simp only [Act.put, List.setIfInBounds_toArray, List.set_cons_zero, List.set_cons_succ]
        refine takeF_on (i := 3) (d := some 35) (v := .slice (some ⟨gi, oi, none⟩) m.length ci) rfl rfl (by kernel_rfl) (fun _ _ _ h => h) (by rfl) (by (intro w hSw; (try dsimp only at hSw); go_simp)) (by assumption) ?_
        try simp only [Act.put, List.setIfInBounds_toArray, List.set_cons_zero, List.set_cons_succ]
        refine takeF_on (i := 4) (d := some 36) (v := .int .i64 i) rfl rfl (by kernel_rfl) (fun _ _ _ h => h) (by rfl) (by (intro w hSw; (try dsimp only at hSw); go_simp)) (by assumption) ?_
        try simp only [Act.put, List.setIfInBounds_toArray, List.set_cons_zero, List.set_cons_succ]
        refine takeF_on (i := 5) (d := some 37) (v := .pointer (some ⟨gi, oi + i * 2, none⟩)) rfl rfl (by kernel_rfl) (fun _ _ _ h => h) (by rfl) (by (intro w hSw; (try dsimp only at hSw); go_simp)) (by assumption) ?_
        try simp only [Act.put, List.setIfInBounds_toArray, List.set_cons_zero, List.set_cons_succ]
        refine takeF_on (i := 6) (d := some 38) (v := .agg #[.int .i64 D1, .int .i64 D2]) rfl rfl (by kernel_rfl) (fun _ _ _ h => h) (by rfl) (by (intro w hSw; (try dsimp only at hSw); go_simp)) (by assumption) ?_
        try simp only [Act.put, List.setIfInBounds_toArray, List.set_cons_zero, List.set_cons_succ]
        refine takeF_on (i := 7) (d := some 39) (v := .agg #[.int .i64 P1, .int .i64 P2']) rfl rfl (by kernel_rfl) (fun _ _ _ h => h) (by rfl) (by (intro w hSw; (try dsimp only at hSw); go_simp)) (by assumption) ?_
        try simp only [Act.put, List.setIfInBounds_toArray, List.set_cons_zero, List.set_cons_succ]
        refine takeF_on (i := 8) (d := some 40) (v := .slice (some ⟨g, o, none⟩) m.length c) rfl rfl (by kernel_rfl) (fun _ _ _ h => h) (by rfl) (by (intro w hSw; (try dsimp only at hSw); go_simp)) (by assumption) ?_
        try simp only [Act.put, List.setIfInBounds_toArray, List.set_cons_zero, List.set_cons_succ]
        refine takeF_on (i := 9) (d := some 41) (v := .int .i64 j) rfl rfl (by kernel_rfl) (fun _ _ _ h => h) (by rfl) (by (intro w hSw; (try dsimp only at hSw); go_simp)) (by assumption) ?_
        try simp only [Act.put, List.setIfInBounds_toArray, List.set_cons_zero, List.set_cons_succ]
        refine takeF_on (i := 10) (d := some 42) (v := .pointer (some ⟨g, o + j, none⟩)) rfl rfl (by kernel_rfl) (fun _ _ _ h => h) (by rfl) (by (intro w hSw; (try dsimp only at hSw); go_simp)) (by assumption) ?_
        try simp only [Act.put, List.setIfInBounds_toArray, List.set_cons_zero, List.set_cons_succ]
        refine takeF_on (i := 11) (d := some 43) (v := .slice (some ⟨gj, oj, none⟩) m.length cj) rfl rfl (by kernel_rfl) (fun _ _ _ h => h) (by rfl) (by (intro w hSw; (try dsimp only at hSw); go_simp)) (by assumption) ?_
        try simp only [Act.put, List.setIfInBounds_toArray, List.set_cons_zero, List.set_cons_succ]
        refine takeF_on (i := 12) (d := some 44) (v := .int .i64 k) rfl rfl (by kernel_rfl) (fun _ _ _ h => h) (by rfl) (by (intro w hSw; (try dsimp only at hSw); go_simp)) (by assumption) ?_
        try simp only [Act.put, List.setIfInBounds_toArray, List.set_cons_zero, List.set_cons_succ]
        refine takeF_on (i := 13) (d := some 45) (v := .pointer (some ⟨gj, oj + k * 2, none⟩)) rfl rfl (by kernel_rfl) (fun _ _ _ h => h) (by rfl) (by (intro w hSw; (try dsimp only at hSw); go_simp)) (by assumption) ?_
        try simp only [Act.put, List.setIfInBounds_toArray, List.set_cons_zero, List.set_cons_succ]
        refine takeF_on (i := 14) (d := some 46) (v := .agg #[.int .i64 E1, .int .i64 E2]) rfl rfl (by kernel_rfl) (fun _ _ _ h => h) (by rfl) (by (intro w hSw; (try dsimp only at hSw); go_simp)) (by assumption) ?_
        try simp only [Act.put, List.setIfInBounds_toArray, List.set_cons_zero, List.set_cons_succ]
        refine wpAnyF_ready (rs := [15]) (by kernel_rfl) (by simp) ?_
        refine AllReadyF.cons rfl (fun K hK => ?_) AllReadyF.nil
        go_simp
        with_reducible refine Calls.mono (CV.out _) ?_
        rintro en wb1 ⟨rfl, Bb1⟩
        replace hS := k8_keep Bb1 hS
        clear Bb1
        go_wp2_with fail
        refine hK.out _ _ hS (fun hHeld => ?_)
        clear hK K hHeld
        try simp only [Act.put, List.setIfInBounds_toArray, List.set_cons_zero, List.set_cons_succ]
        refine wpAnyF_ready (rs := [16]) (by kernel_rfl) (by simp) ?_
        refine AllReadyF.cons rfl (fun K hK => ?_) AllReadyF.nil
        go_simp
        with_reducible refine Calls.mono (CT.out _) ?_
        rintro en wb2 ⟨rfl, Bb2⟩
        replace hS := k8_keep Bb2 hS
        clear Bb2
        go_wp2_with fail
        refine hK.out _ _ hS (fun hHeld => ?_)
        clear hK K hHeld
        try simp only [Act.put, List.setIfInBounds_toArray, List.set_cons_zero, List.set_cons_succ]
        refine wpAnyF_ready (rs := [17]) (by kernel_rfl) (by simp) ?_
        refine AllReadyF.cons rfl (fun K hK => ?_) AllReadyF.nil
        go_simp
        with_reducible refine Calls.mono (CD.out _) ?_
        rintro en wb3 ⟨rfl, Bb3⟩
        replace hS := k8_keep Bb3 hS
        clear Bb3
        go_wp2_with fail
        refine hK.out _ _ hS (fun hHeld => ?_)
        clear hK K hHeld
        try simp only [Act.put, List.setIfInBounds_toArray, List.set_cons_zero, List.set_cons_succ]
        obtain ⟨z0, z1, f0, f1⟩ := HZ1.out _ (HBx.out.trans (hS.2.2.2.2.2.2.2.2.2.2.mono HBx.out.size))
        refine wpAnyF_ready (rs := [18]) (by kernel_rfl) (by simp) ?_
        refine AllReadyF.last rfl (by decide) (fun K hK => ?_) AllReadyF.nil
        go_simp
        refine hK.out _ _ ?_
        clear hK K
        try simp only [Act.put]
        refine wpAnyF_done (by kernel_rfl) ?_
        have hBW := HWx.out.trans (hS.2.2.2.2.2.2.2.2.2.2.mono HWx.out.size)
        clear hS
        go_wp2
        exact bodyPost_ret (v := (.agg #[.int .i64 R1, .int .i64 R2])) (by simp (maxDischargeDepth := 8) [results, Try.results95, go_sem, *]) rfl ⟨rfl, (hBW.setCell (p := ⟨w.heap.size, 0, none⟩) (Nat.le_refl _) _).setCell (p := ⟨w.heap.size, 1, none⟩) (Nat.le_refl _) _⟩
end Go.Proofs.Ytpfnlnllaapjeaa

namespace Go.Proofs.Ytpfnlnllaapjeaa
open Go.RowKit Go.Maps

theorem reads_two {w : World} {v : Value} {x y : Int} {q : List Int} (h : ReadsI w v (x :: y :: q)) : ∃ g o ln c, v = .slice (some ⟨g, o, none⟩) ln c ∧ 2 ≤ ln ∧ g < w.heap.size ∧ w.cell? ⟨g, o, none⟩ = some (.int .i64 x) ∧ w.cell? ⟨g, o + 1, none⟩ = some (.int .i64 y) := by
  obtain ⟨g, o, c, rfl, _, _, hg, hc⟩ := h.pos (by simp)
  exact ⟨g, o, _, c, rfl, by simp, hg, by have h := hc 0 (by simp); simp only [List.getElem_cons_zero, Nat.add_zero] at h; exact h, by have h := hc 1 (by simp); simp only [List.getElem_cons_zero, List.getElem_cons_succ] at h; exact h⟩
set_option maxRecDepth 8000 in
set_option maxHeartbeats 12800000 in
theorem impl_weight (v : Value) (m : MatP) (i : Nat) (w : World) (hr : ReadsPP w v m) (hwf : ∀ k (h : k < m.length), WfL m[k]) (h3 : 3 ≤ m.length) (h5 : m.length ≤ 5) (hL : ∀ i, i < m.length → (rowP m i).length = m.length) (hi : i < m.length) :
    Calls Try.prog 99 #[v, .int .i64 i] w fun en w' => en = .returned (.agg #[.int .i64 (wtP m i).1, .int .i64 (wtP m i).2]) ∧ Below w.heap.size w w' := by
  obtain ⟨g, o, c, rfl, hg, hrows⟩ := rows_at hr (by omega) hL
  obtain ⟨j, hj⟩ : ∃ j, j = jN i := ⟨_, rfl⟩
  obtain ⟨k, hk⟩ : ∃ k, k = kN i := ⟨_, rfl⟩
  have hjl : j < m.length ∧ j ≤ 1 := by rw [hj]; exact jN_lt h3
  have hkl : k < m.length ∧ k ≤ 2 := by rw [hk]; exact kN_lt h3
  obtain ⟨hjl, hj1⟩ := hjl
  obtain ⟨hkl, hk2⟩ := hkl
  obtain ⟨gi, oi, ci, a0, hgi, -, hei⟩ := hrows i hi
  obtain ⟨gj, oj, cj, b0, hgj, -, hej⟩ := hrows j hjl
  obtain ⟨x0, x1⟩ := hei j hjl
  obtain ⟨y0, y1⟩ := hei k hkl
  obtain ⟨d0, d1⟩ := hei i hi
  obtain ⟨e0, e1⟩ := hej k hkl
  have iX := el_in hwf hi (show j < (rowP m i).length by rw [hL i hi]; exact hjl)
  have iY := el_in hwf hi (show k < (rowP m i).length by rw [hL i hi]; exact hkl)
  have iD := el_in hwf hi (show i < (rowP m i).length by rw [hL i hi]; exact hi)
  have iE := el_in hwf hjl (show k < (rowP m j).length by rw [hL j hjl]; exact hkl)
  have hdef : wtP m i = diffP (elP m i i) (tmP (tmP (elP m i j) (elP m i k)) (invP (elP m j k))) := by rw [hj, hk]; rfl
  rw [hdef]
  clear hdef hrows hei hej hwf hL
  have HR := Lib.hid hr
  clear hr
  generalize elP m i j = X at *
  generalize elP m i k = Y at *
  generalize elP m i i = D at *
  generalize elP m j k = E at *
  obtain ⟨X1, X2⟩ := X
  obtain ⟨Y1, Y2⟩ := Y
  obtain ⟨D1, D2⟩ := D
  obtain ⟨E1, E2⟩ := E
  obtain ⟨P1, P2', hP⟩ : ∃ P1 P2', tmP (X1, X2) (Y1, Y2) = (P1, P2') := ⟨_, _, rfl⟩
  obtain ⟨V1, V2, hV⟩ : ∃ V1 V2, invP (E1, E2) = (V1, V2) := ⟨_, _, rfl⟩
  obtain ⟨T1, T2, hT⟩ : ∃ T1 T2, tmP (P1, P2') (V1, V2) = (T1, T2) := ⟨_, _, rfl⟩
  obtain ⟨R1, R2, hR⟩ : ∃ R1 R2, diffP (D1, D2) (T1, T2) = (R1, R2) := ⟨_, _, rfl⟩
  rw [hP, hV, hT, hR]
  simp only at x0 x1 y0 y1 d0 d1 e0 e1 iX iY iD iE
  have iP := times_in (n := X1) (d := X2) (m := Y1) (e := Y2) hP
  have iV : In V1 ∧ In V2 := by have h := invP_in E1 E2; rw [show rInv E1 E2 = (V1, V2) from hV] at h; exact h
  have iT := times_in (n := P1) (d := P2') (m := V1) (e := V2) hT
  have CP := Lib.hid (fun W => c_times (n := X1) (d := X2) (m := Y1) (e := Y2) hP iX iY W)
  have CV := Lib.hid (fun W => c_inv (n := E1) (d := E2) hV iE W)
  have CT := Lib.hid (fun W => c_times (n := P1) (d := P2') (m := V1) (e := V2) hT iP iV W)
  have CD := Lib.hid (fun W => c_diff (n := D1) (d := D2) (m := T1) (e := T2) hR iD iT W)
  clear hP hV hT hR iX iY iD iE iP iV iT
  obtain ⟨W0, hW0⟩ : ∃ W0, W0 = w.alloc (.cells #[.int .i64 0, .int .i64 0] 33) := ⟨_, rfl⟩
  have hs0 : W0.heap.size = w.heap.size + 1 := by rw [hW0]; simp
  have HZ : Hid (W0.cell? ⟨w.heap.size, 0, none⟩ = some (.int .i64 0) ∧ W0.cell? ⟨w.heap.size, 1, none⟩ = some (.int .i64 0) ∧ W0.frozen? ⟨w.heap.size, 0, none⟩ = false ∧ W0.frozen? ⟨w.heap.size, 1, none⟩ = false) := Lib.hid (by rw [hW0]; exact ⟨by simp [go_sem], by simp [go_sem], by simp [go_sem], by simp [go_sem]⟩)
  have HB0 : Hid (Below w.heap.size w W0) := Lib.hid (by rw [hW0]; exact (Below.refl _ _).alloc (Nat.le_refl _) _)
  have HC : Hid (∀ W, Below w.heap.size w W → (W.cell? ⟨g, o + i, none⟩ = some (.slice (some ⟨gi, oi, none⟩) m.length ci) ∧ W.cell? ⟨g, o + j, none⟩ = some (.slice (some ⟨gj, oj, none⟩) m.length cj) ∧ W.cell? ⟨gi, oi + j * 2, none⟩ = some (.int .i64 X1) ∧ W.cell? ⟨gi, oi + j * 2 + 1, none⟩ = some (.int .i64 X2) ∧ W.cell? ⟨gi, oi + k * 2, none⟩ = some (.int .i64 Y1) ∧ W.cell? ⟨gi, oi + k * 2 + 1, none⟩ = some (.int .i64 Y2)) ∧ W.cell? ⟨gi, oi + i * 2, none⟩ = some (.int .i64 D1) ∧ W.cell? ⟨gi, oi + i * 2 + 1, none⟩ = some (.int .i64 D2) ∧ W.cell? ⟨gj, oj + k * 2, none⟩ = some (.int .i64 E1) ∧ W.cell? ⟨gj, oj + k * 2 + 1, none⟩ = some (.int .i64 E2)) := Lib.hid (fun W hB => ⟨⟨(hB.cell (p := ⟨g, _, none⟩) hg).trans a0, (hB.cell (p := ⟨g, _, none⟩) hg).trans b0, (hB.cell (p := ⟨gi, _, none⟩) hgi).trans x0, (hB.cell (p := ⟨gi, _, none⟩) hgi).trans x1, (hB.cell (p := ⟨gi, _, none⟩) hgi).trans y0, (hB.cell (p := ⟨gi, _, none⟩) hgi).trans y1⟩, (hB.cell (p := ⟨gi, _, none⟩) hgi).trans d0, (hB.cell (p := ⟨gi, _, none⟩) hgi).trans d1, (hB.cell (p := ⟨gj, _, none⟩) hgj).trans e0, (hB.cell (p := ⟨gj, _, none⟩) hgj).trans e1⟩)
  clear a0 b0 x0 x1 y0 y1 d0 d1 e0 e1
  obtain ⟨q, hq⟩ := wo_two h3 h5 hi
  rw [← hj, ← hk] at hq
  have cwo := fun v W h => impl_without m.length h5 v [(i : Int)] W h
  rw [hq] at cwo
  have CWO := Lib.hid cwo
  clear hj hk hq cwo
  go_enter Try.func99, Try.ntmps99
  go_wp2_with fail
  (try change Code.wp _ _ _ _ (World.alloc _ _))
  with_reducible refine Calls.mono (CWO.out _ _ (readsI_new1' _ _ _ _ (by simp))) ?_
  rintro en Wn ⟨v1, rfl, r1, B1⟩
  obtain ⟨g1, o1, ln, c1, rfl, hln, hg1, u0, u1⟩ := reads_two r1
  have hBn : Below W0.heap.size W0 Wn := by rw [hW0]; simp only [World.size_alloc] at B1 ⊢; exact (((Below.refl _ _).alloc (by simp) _).trans (B1.mono (by simp)))
  have HQ : ∀ z, Hid (Below W0.heap.size W0 (Wn.drewN z)) := fun z => Lib.hid (below_draws hBn z)
  clear r1 B1 hBn hW0
  go_wp2
  go_quiet (fail)
  go_wp2
  have HHB1 := HQ nq
  generalize Wn.drewN nq = W1 at *
  have hB1z := HHB1.out.size
  have hgl : g < W1.heap.size := by omega
  have hgil : gi < W1.heap.size := by omega
  have hgjl : gj < W1.heap.size := by omega
  have HZ1 : Hid (∀ W, Below W1.heap.size W1 W → W.cell? ⟨w.heap.size, 0, none⟩ = some (.int .i64 0) ∧ W.cell? ⟨w.heap.size, 1, none⟩ = some (.int .i64 0) ∧ W.frozen? ⟨w.heap.size, 0, none⟩ = false ∧ W.frozen? ⟨w.heap.size, 1, none⟩ = false) := Lib.hid (fun W hB' => by
    obtain ⟨z0, z1, f0, f1⟩ := HZ.out
    have hB := HHB1.out.trans (hB'.mono hB1z)
    have hl : w.heap.size < W0.heap.size := by omega
    exact ⟨(hB.cell (p := ⟨w.heap.size, _, none⟩) hl).trans z0, (hB.cell (p := ⟨w.heap.size, _, none⟩) hl).trans z1, (hB.frozen (p := ⟨w.heap.size, _, none⟩) hl).trans f0, (hB.frozen (p := ⟨w.heap.size, _, none⟩) hl).trans f1⟩)
  obtain ⟨CELLS1, CELLS2⟩ := HC.out W1 (HB0.out.trans (HHB1.out.mono HB0.out.size))
  obtain ⟨q0, q1, q2, q3, q4, q5⟩ := CELLS1
  have HL6 : Hid (g < W1.heap.size ∧ g < W1.heap.size ∧ gi < W1.heap.size ∧ gi < W1.heap.size ∧ gi < W1.heap.size ∧ gi < W1.heap.size) := Lib.hid ⟨hgl, hgl, hgil, hgil, hgil, hgil⟩
  have hS0 : W1.cell? ⟨g, o + i, none⟩ = some (.slice (some ⟨gi, oi, none⟩) m.length ci) ∧ W1.cell? ⟨g, o + i, none⟩ = some (.slice (some ⟨gi, oi, none⟩) m.length ci) ∧ W1.cell? ⟨gi, oi + j * 2, none⟩ = some (.int .i64 X1) ∧ W1.cell? ⟨gi, oi + j * 2 + 1, none⟩ = some (.int .i64 X2) ∧ W1.cell? ⟨gi, oi + k * 2, none⟩ = some (.int .i64 Y1) ∧ W1.cell? ⟨gi, oi + k * 2 + 1, none⟩ = some (.int .i64 Y2) ∧ W1.heap.size ≤ W1.heap.size ∧ W1.heap.size ≤ W1.heap.size ∧ Below W1.heap.size W1 W1 := ⟨q0, q0, q2, q3, q4, q5, Nat.le_refl _, Nat.le_refl _, Below.refl _ _⟩
  clear q0 q1 q2 q3 q4 q5 CELLS2 hgl hgil hgjl hs0 hg hgi hgj hj1 hk2 hB1z
  go_upto_region 3 with fail
  go_cut [8] (fun sp wx => ∃ B : Nat, sp = .pointer (some ⟨B, 0, none⟩) ∧ (wx.cell? ⟨B, 0, none⟩ = some (.int .i64 P1) ∧ wx.cell? ⟨B, 1, none⟩ = some (.int .i64 P2') ∧ wx.frozen? ⟨B, 0, none⟩ = false ∧ wx.frozen? ⟨B, 1, none⟩ = false ∧ B < wx.heap.size ∧ W1.heap.size ≤ B) ∧ (wx.cell? ⟨g, o + i, none⟩ = some (.slice (some ⟨gi, oi, none⟩) m.length ci) ∧ wx.cell? ⟨g, o + i, none⟩ = some (.slice (some ⟨gi, oi, none⟩) m.length ci) ∧ wx.cell? ⟨gi, oi + j * 2, none⟩ = some (.int .i64 X1) ∧ wx.cell? ⟨gi, oi + j * 2 + 1, none⟩ = some (.int .i64 X2) ∧ wx.cell? ⟨gi, oi + k * 2, none⟩ = some (.int .i64 Y1) ∧ wx.cell? ⟨gi, oi + k * 2 + 1, none⟩ = some (.int .i64 Y2) ∧ W1.heap.size ≤ wx.heap.size ∧ W1.heap.size ≤ W1.heap.size ∧ Below W1.heap.size W1 wx))
  case first =>
    have hS := k6_drew hS0
    clear hS0
    go_region_held3 (fun w' => w'.cell? ⟨g, o + i, none⟩ = some (.slice (some ⟨gi, oi, none⟩) m.length ci) ∧ w'.cell? ⟨g, o + i, none⟩ = some (.slice (some ⟨gi, oi, none⟩) m.length ci) ∧ w'.cell? ⟨gi, oi + j * 2, none⟩ = some (.int .i64 X1) ∧ w'.cell? ⟨gi, oi + j * 2 + 1, none⟩ = some (.int .i64 X2) ∧ w'.cell? ⟨gi, oi + k * 2, none⟩ = some (.int .i64 Y1) ∧ w'.cell? ⟨gi, oi + k * 2 + 1, none⟩ = some (.int .i64 Y2) ∧ W1.heap.size ≤ w'.heap.size ∧ W1.heap.size ≤ W1.heap.size ∧ Below W1.heap.size W1 w')
      (first | (with_reducible exact hS) | (with_reducible exact k6_alloc hS) | (with_reducible exact k6_allocd hS) | exact k6_set hN.2.2.2.2.2 HL6.out (k6_set hN.2.2.2.2.2 HL6.out hS) | exact k6_set hS.2.2.2.2.2.2.1 HL6.out (k6_set hS.2.2.2.2.2.2.1 HL6.out (k6_alloc hS)))
      (first | (go_at_call 152; with_reducible refine Calls.mono (CP.out _) ?_; rintro en w1 ⟨rfl, B1⟩; (first | (have hN := kept_new B1 hS.2.2.2.2.2.2.1) | (have hN := kept_newd B1 hS.2.2.2.2.2.2.1; (try simp only [World.size_alloc] at hN)) | skip); (first | (with_reducible replace hS := k6_keep B1 hS) | (with_reducible replace hS := k6_keep B1 (k6_alloc hS)) | (with_reducible replace hS := k6_keep B1 (k6_allocd hS)))))
    all_goals
      go_wp2_with fail
      go_meet
      first
      | exact ⟨_, rfl, kept_laid hS.2.2.2.2.2.2.1, k6_alloc hS⟩
      | exact ⟨_, rfl, kept_put hN, k6_set hN.2.2.2.2.2 HL6.out (k6_set hN.2.2.2.2.2 HL6.out hS)⟩
  case rest =>
    obtain ⟨B, rfl, hK, hS1⟩ := hcut
    rename World => wx
    have HBx : Hid (Below W1.heap.size W1 wx) := Lib.hid hS1.2.2.2.2.2.2.2.2
    have HWx : Hid (Below w.heap.size w wx) := Lib.hid ((HB0.out.trans (HHB1.out.mono HB0.out.size)).trans (HBx.out.mono (HB0.out.trans (HHB1.out.mono HB0.out.size)).size))
    obtain ⟨⟨q0, q1, -, -, -, -⟩, q2, q3, q4, q5⟩ := HC.out wx HWx.out
    have hS : wx.cell? ⟨g, o + i, none⟩ = some (.slice (some ⟨gi, oi, none⟩) m.length ci) ∧ wx.cell? ⟨g, o + j, none⟩ = some (.slice (some ⟨gj, oj, none⟩) m.length cj) ∧ wx.cell? ⟨gi, oi + i * 2, none⟩ = some (.int .i64 D1) ∧ wx.cell? ⟨gi, oi + i * 2 + 1, none⟩ = some (.int .i64 D2) ∧ wx.cell? ⟨gj, oj + k * 2, none⟩ = some (.int .i64 E1) ∧ wx.cell? ⟨gj, oj + k * 2 + 1, none⟩ = some (.int .i64 E2) ∧ wx.cell? ⟨B, 0, none⟩ = some (.int .i64 P1) ∧ wx.cell? ⟨B, 1, none⟩ = some (.int .i64 P2') ∧ wx.heap.size ≤ wx.heap.size ∧ wx.heap.size ≤ wx.heap.size ∧ Below wx.heap.size wx wx := ⟨q0, q1, q2, q3, q4, q5, hK.1, hK.2.1, Nat.le_refl _, Nat.le_refl _, Below.refl _ _⟩
    replace hS := k8_drew hS
    clear hS0 hS1 hK q0 q1 q2 q3 q4 q5
    go_upto_region 4 with fail
    refine wp_region_F 18 (fun w' => w'.cell? ⟨g, o + i, none⟩ = some (.slice (some ⟨gi, oi, none⟩) m.length ci) ∧ w'.cell? ⟨g, o + j, none⟩ = some (.slice (some ⟨gj, oj, none⟩) m.length cj) ∧ w'.cell? ⟨gi, oi + i * 2, none⟩ = some (.int .i64 D1) ∧ w'.cell? ⟨gi, oi + i * 2 + 1, none⟩ = some (.int .i64 D2) ∧ w'.cell? ⟨gj, oj + k * 2, none⟩ = some (.int .i64 E1) ∧ w'.cell? ⟨gj, oj + k * 2 + 1, none⟩ = some (.int .i64 E2) ∧ w'.cell? ⟨B, 0, none⟩ = some (.int .i64 P1) ∧ w'.cell? ⟨B, 1, none⟩ = some (.int .i64 P2') ∧ wx.heap.size ≤ w'.heap.size ∧ wx.heap.size ≤ wx.heap.size ∧ Below wx.heap.size wx w') (by kernel_rfl) hS ?_
    clear hS
    intro hS
    refine takeF_on (i := 0) (d := some 35) (v := .slice (some ⟨g, o, none⟩) m.length c) rfl rfl (by kernel_rfl) (fun _ _ _ h => h) (by rfl) (by (intro w hSw; (try dsimp only at hSw); go_simp)) (by assumption) ?_
    try simp only [Act.put, List.setIfInBounds_toArray, List.set_cons_zero, List.set_cons_succ]
    refine takeF_on (i := 1) (d := some 36) (v := .int .i64 i) rfl rfl (by kernel_rfl) (fun _ _ _ h => h) (by rfl) (by (intro w hSw; (try dsimp only at hSw); go_simp)) (by assumption) ?_
    try simp only [Act.put, List.setIfInBounds_toArray, List.set_cons_zero, List.set_cons_succ]
    refine takeF_on (i := 2) (d := some 37) (v := .pointer (some ⟨g, o + i, none⟩)) rfl rfl (by kernel_rfl) (fun _ _ _ h => h) (by rfl) (by (intro w hSw; (try dsimp only at hSw); go_simp)) (by assumption) ?_
    try simp only [Act.put, List.setIfInBounds_toArray, List.set_cons_zero, List.set_cons_succ]
    refine takeF_on (i := 3) (d := some 38) (v := .slice (some ⟨gi, oi, none⟩) m.length ci) rfl rfl (by kernel_rfl) (fun _ _ _ h => h) (by rfl) (by (intro w hSw; (try dsimp only at hSw); go_simp)) (by assumption) ?_
    try simp only [Act.put, List.setIfInBounds_toArray, List.set_cons_zero, List.set_cons_succ]
    refine takeF_on (i := 4) (d := some 39) (v := .int .i64 i) rfl rfl (by kernel_rfl) (fun _ _ _ h => h) (by rfl) (by (intro w hSw; (try dsimp only at hSw); go_simp)) (by assumption) ?_
    try simp only [Act.put, List.setIfInBounds_toArray, List.set_cons_zero, List.set_cons_succ]
    refine takeF_on (i := 5) (d := some 40) (v := .pointer (some ⟨gi, oi + i * 2, none⟩)) rfl rfl (by kernel_rfl) (fun _ _ _ h => h) (by rfl) (by (intro w hSw; (try dsimp only at hSw); go_simp)) (by assumption) ?_
    try simp only [Act.put, List.setIfInBounds_toArray, List.set_cons_zero, List.set_cons_succ]
    refine takeF_on (i := 6) (d := some 41) (v := .agg #[.int .i64 D1, .int .i64 D2]) rfl rfl (by kernel_rfl) (fun _ _ _ h => h) (by rfl) (by (intro w hSw; (try dsimp only at hSw); go_simp)) (by assumption) ?_
    try simp only [Act.put, List.setIfInBounds_toArray, List.set_cons_zero, List.set_cons_succ]
    refine takeF_on (i := 7) (d := some 42) (v := .agg #[.int .i64 P1, .int .i64 P2']) rfl rfl (by kernel_rfl) (fun _ _ _ h => h) (by rfl) (by (intro w hSw; (try dsimp only at hSw); go_simp)) (by assumption) ?_
    try simp only [Act.put, List.setIfInBounds_toArray, List.set_cons_zero, List.set_cons_succ]
    refine takeF_on (i := 8) (d := some 43) (v := .slice (some ⟨g, o, none⟩) m.length c) rfl rfl (by kernel_rfl) (fun _ _ _ h => h) (by rfl) (by (intro w hSw; (try dsimp only at hSw); go_simp)) (by assumption) ?_
    try simp only [Act.put, List.setIfInBounds_toArray, List.set_cons_zero, List.set_cons_succ]
    refine takeF_on (i := 9) (d := some 44) (v := .int .i64 j) rfl rfl (by kernel_rfl) (fun _ _ _ h => h) (by rfl) (by (intro w hSw; (try dsimp only at hSw); go_simp)) (by assumption) ?_
    try simp only [Act.put, List.setIfInBounds_toArray, List.set_cons_zero, List.set_cons_succ]
    refine takeF_on (i := 10) (d := some 45) (v := .pointer (some ⟨g, o + j, none⟩)) rfl rfl (by kernel_rfl) (fun _ _ _ h => h) (by rfl) (by (intro w hSw; (try dsimp only at hSw); go_simp)) (by assumption) ?_
    try simp only [Act.put, List.setIfInBounds_toArray, List.set_cons_zero, List.set_cons_succ]
    refine takeF_on (i := 11) (d := some 46) (v := .slice (some ⟨gj, oj, none⟩) m.length cj) rfl rfl (by kernel_rfl) (fun _ _ _ h => h) (by rfl) (by (intro w hSw; (try dsimp only at hSw); go_simp)) (by assumption) ?_
    try simp only [Act.put, List.setIfInBounds_toArray, List.set_cons_zero, List.set_cons_succ]
    refine takeF_on (i := 12) (d := some 47) (v := .int .i64 k) rfl rfl (by kernel_rfl) (fun _ _ _ h => h) (by rfl) (by (intro w hSw; (try dsimp only at hSw); go_simp)) (by assumption) ?_
    try simp only [Act.put, List.setIfInBounds_toArray, List.set_cons_zero, List.set_cons_succ]
    refine takeF_on (i := 13) (d := some 48) (v := .pointer (some ⟨gj, oj + k * 2, none⟩)) rfl rfl (by kernel_rfl) (fun _ _ _ h => h) (by rfl) (by (intro w hSw; (try dsimp only at hSw); go_simp)) (by assumption) ?_
    try simp only [Act.put, List.setIfInBounds_toArray, List.set_cons_zero, List.set_cons_succ]
    refine takeF_on (i := 14) (d := some 49) (v := .agg #[.int .i64 E1, .int .i64 E2]) rfl rfl (by kernel_rfl) (fun _ _ _ h => h) (by rfl) (by (intro w hSw; (try dsimp only at hSw); go_simp)) (by assumption) ?_
    try simp only [Act.put, List.setIfInBounds_toArray, List.set_cons_zero, List.set_cons_succ]
    refine wpAnyF_ready (rs := [15]) (by kernel_rfl) (by simp) ?_
    refine AllReadyF.cons rfl (fun K hK => ?_) AllReadyF.nil
    go_simp
    with_reducible refine Calls.mono (CV.out _) ?_
    rintro en wb1 ⟨rfl, Bb1⟩
    replace hS := k8_keep Bb1 hS
    clear Bb1
    go_wp2_with fail
    refine hK.out _ _ hS (fun hHeld => ?_)
    clear hK K hHeld
    try simp only [Act.put, List.setIfInBounds_toArray, List.set_cons_zero, List.set_cons_succ]
    refine wpAnyF_ready (rs := [16]) (by kernel_rfl) (by simp) ?_
    refine AllReadyF.cons rfl (fun K hK => ?_) AllReadyF.nil
    go_simp
    with_reducible refine Calls.mono (CT.out _) ?_
    rintro en wb2 ⟨rfl, Bb2⟩
    replace hS := k8_keep Bb2 hS
    clear Bb2
    go_wp2_with fail
    refine hK.out _ _ hS (fun hHeld => ?_)
    clear hK K hHeld
    try simp only [Act.put, List.setIfInBounds_toArray, List.set_cons_zero, List.set_cons_succ]
    refine wpAnyF_ready (rs := [17]) (by kernel_rfl) (by simp) ?_
    refine AllReadyF.cons rfl (fun K hK => ?_) AllReadyF.nil
    go_simp
    with_reducible refine Calls.mono (CD.out _) ?_
    rintro en wb3 ⟨rfl, Bb3⟩
    replace hS := k8_keep Bb3 hS
    clear Bb3
    go_wp2_with fail
    refine hK.out _ _ hS (fun hHeld => ?_)
    clear hK K hHeld
    try simp only [Act.put, List.setIfInBounds_toArray, List.set_cons_zero, List.set_cons_succ]
    obtain ⟨z0, z1, f0, f1⟩ := HZ1.out _ (HBx.out.trans (hS.2.2.2.2.2.2.2.2.2.2.mono HBx.out.size))
    refine wpAnyF_ready (rs := [18]) (by kernel_rfl) (by simp) ?_
    refine AllReadyF.last rfl (by decide) (fun K hK => ?_) AllReadyF.nil
    go_simp
    refine hK.out _ _ ?_
    clear hK K
    try simp only [Act.put]
    refine wpAnyF_done (by kernel_rfl) ?_
    have hBW := HWx.out.trans (hS.2.2.2.2.2.2.2.2.2.2.mono HWx.out.size)
    clear hS
    go_wp2
    exact bodyPost_ret (v := (.agg #[.int .i64 R1, .int .i64 R2])) (by simp (maxDischargeDepth := 8) [results, Try.results99, go_sem, *]) rfl ⟨rfl, (hBW.setCell (p := ⟨w.heap.size, 0, none⟩) (Nat.le_refl _) _).setCell (p := ⟨w.heap.size, 1, none⟩) (Nat.le_refl _) _⟩
end Go.Proofs.Ytpfnlnllaapjeaa

namespace Go.Proofs.Ytpfnlnllaapjeaa
open Go.RowKit

theorem append_ratio2 {ops : Array Oper} {rest : List Oper} {o : Oper} {a : Act} {Q : Exit → Act → World → Prop} {wr w0 : World} {s x : Operand} {base : Nat} {v : Value} {q : List P2} {u1 u2 : Int} {b1 : Nat} (hown : wr.ownsRow base 33 2 v q.length (cellsP q)) (hn : q.length + 1 ≤ 1099511627776) (hbase : base ≤ wr.heap.size) (hB : Below base w0 wr)
    (hgd : o.guard = none) (ho : o.op = .call { callee := .builtin .append, args := #[s, x], argTypes := #[51, 51] }) (hs : a.eval s = v) (hx : a.eval x = .slice (some ⟨b1, 0, none⟩) 1 1) (hb1 : b1 = wr.heap.size)
    (h : ∀ v' w', w'.ownsRow base 33 2 v' (q ++ [(u1, u2)]).length (cellsP (q ++ [(u1, u2)])) → wr.heap.size ≤ w'.heap.size → Below base w0 w' → wpList Try.prog ops Q rest (a.put o.dst v') w') :
    wpList Try.prog ops Q (o :: rest) a (wr.alloc (.cells #[.int .i64 u1, .int .i64 u2] 33)) := by
  subst hb1
  obtain ⟨i0, hi, hz0, hz1, hz2⟩ := info_parts Try.infoRatio
  refine wpList_append_own _ hgd s x 51 ho base 33 i0 (.agg #[.int .i64 0, .int .i64 0]) 2 16 Try.underlying51 hi hz0 hz1 hz2 rfl (by decide) v q.length (cellsP q) hs (hown.alloc _) ⟨wr.heap.size, 0, none⟩ 1 1 [.int .i64 u1, .int .i64 u2] hx rfl (two_new _ _ _ _) (by simp [Value.oneCell']) (by unfold maxLen; omega) (by omega) (by simp; omega) ?_
  intro v' w' h1 h2 _
  have h3 := h2.size
  simp at h3
  exact h v' w' (by rw [cellsP_snoc, List.length_append]; exact h1) (by omega) ((hB.alloc hbase _).grown h2 (by simp; omega) (fun k hk => (hown.lt k hk).1))
set_option maxRecDepth 8000 in
set_option maxHeartbeats 6400000 in
theorem spec_sw (v : Value) (m : MatP) (w : World) (hr : ReadsPP w v m) (hwf : ∀ k (h : k < m.length), WfL m[k]) :
    Calls Try.prog 31 #[v] w fun en w' => ∃ v', en = .returned (.tuple #[v', .bool (swR m).2]) ∧ w'.ownsRow w.heap.size 33 2 v' (swR m).1.length (cellsP (swR m).1) ∧ Below w.heap.size w w' := by
  obtain ⟨p, cap, rfl, hm0, hm1⟩ := hr.shape
  have hst := spec_isStar _ m w hr hwf
  cases hb : isStarB m
  · rw [hb] at hst
    rw [swR_no (m := m) (fun h => by rw [hb] at h; cases h.1)]
    clear hb hr hwf
    go_enter Try.func31, Try.ntmps31
    go_wp2_with fail
    refine hst.mono ?_
    rintro en w1 ⟨rfl, B1⟩
    go_wp2
    go_ret2
    exact ⟨_, rfl, World.ownsRow_nil _ _ _ _, B1⟩
  rw [hb] at hst
  have hS := isStar_iff.1 hb
  have h3 := hS.2.1
  have h5 := hS.1.2.1
  have hL := hS.1.2.2.1
  have HWT := Lib.hid (fun k (hk : k < m.length) W (h : ReadsPP W (.slice p m.length cap) m) => spec_weight (.slice p m.length cap) m k W h hwf h3 h5 hL hk)
  have HB := Lib.hid hb
  have HR := Lib.hid hr
  clear hS hL hb hr hwf
  go_enter Try.func31, Try.ntmps31
  go_wp2_with fail
  refine hst.mono ?_
  rintro en w1 ⟨rfl, B1⟩
  have S1 := B1.size
  have HB1 := Lib.hid B1
  clear B1 hst
  go_wp2
  go_loopw [4, 13] (fun ov iv wr => ∃ k : Nat, k ≤ m.length ∧ iv = .int .i64 k ∧ Hid (∀ i, i < k → rOk (wtP m i).1 (wtP m i).2 = true) ∧ Hid (wr.ownsRow w.heap.size 33 2 ov (swL m k).length (cellsP (swL m k))) ∧ Hid (Below w.heap.size w wr)) (fun _ iv _ => m.length - (intOf iv).toNat)
  case atStart => exact ⟨0, Nat.zero_le _, rfl, Lib.hid (fun i hi => absurd hi (by omega)), Lib.hid (owns_mono (own_emptyP _ _ (Nat.le_refl _)) S1), Lib.hid (by have h := HB1.out; (repeat (first | exact Below.refl _ _ | (refine Below.setCell ?_ (by (first | exact Nat.le_refl _ | omega | (simp <;> omega) | simp)) _) | (refine Below.alloc ?_ (by (first | exact Nat.le_refl _ | omega | (simp <;> omega) | simp)) _) | (refine below_draws ?_ _) | exact h | (refine Below.trans ?_ (Below.mono h (by (first | exact Nat.le_refl _ | omega | (simp <;> omega) | simp)))))))⟩
  case round =>
    obtain ⟨k, hk, rfl, hO, hown, hB⟩ := hrel
    have hsz := hB.out.size
    by_cases hlt : k < m.length
    · have hc := HWT.out k hlt wr (HR.out.later hB.out)
      have hin := wtP_in m k
      have HSN := Lib.hid (swL_succ m k)
      have k1 : (swL m k).length + 1 ≤ 1099511627776 := by rw [swL_length]; omega
      obtain ⟨R1, R2, hR⟩ : ∃ R1 R2, wtP m k = (R1, R2) := ⟨_, _, rfl⟩
      rw [hR] at hc hin
      simp only at hc hin
      have HWP := Lib.hid hR
      cases hok : rOk R1 R2
      · have hcok := fun W => spec_rOk R1 R2 W hin.1.1 hin.1.2 hin.2.1 hin.2.2
        rw [hok] at hcok
        have HCK := Lib.hid hcok
        have HN := Lib.hid (swR_bad hlt (by rw [HWP.out]; exact hok))
        clear hok hcok hin hR
        go_wp2_with fail
        refine hc.mono ?_
        rintro en w2 ⟨rfl, B2⟩
        have S2 := B2.size
        go_wp2_with fail
        refine (HCK.out _).mono ?_
        rintro en w3 ⟨rfl, B3⟩
        have HF := Lib.hid (hB.out.trans (show Below w.heap.size wr w3 by (repeat (first | exact Below.refl _ _ | (refine Below.setCell ?_ (by (first | exact Nat.le_refl _ | omega | (simp <;> omega) | simp)) _) | (refine Below.alloc ?_ (by (first | exact Nat.le_refl _ | omega | (simp <;> omega) | simp)) _) | (refine below_draws ?_ _) | exact B2 | (refine Below.trans ?_ (Below.mono B2 (by (first | exact Nat.le_refl _ | omega | (simp <;> omega) | simp)))) | exact B3 | (refine Below.trans ?_ (Below.mono B3 (by (first | exact Nat.le_refl _ | omega | (simp <;> omega) | simp))))))))
        clear B2 B3
        go_wp2
        go_ret2
        exact ⟨_, ret_sw HN.out, by rw [HN.out]; exact World.ownsRow_nil _ _ _ _, HF.out⟩
      · have hcok := fun W => spec_rOk R1 R2 W hin.1.1 hin.1.2 hin.2.1 hin.2.2
        rw [hok] at hcok
        have HCK := Lib.hid hcok
        have HO2 : Hid (∀ i, i < k + 1 → rOk (wtP m i).1 (wtP m i).2 = true) := Lib.hid (fun i hi => by
          by_cases e : i = k
          · subst e; rw [HWP.out]; exact hok
          · exact hO.out i (by omega))
        clear hok hcok hin hR
        go_wp2_with fail
        refine hc.mono ?_
        rintro en w2 ⟨rfl, B2⟩
        have S2 := B2.size
        go_wp2_with fail
        refine (HCK.out _).mono ?_
        rintro en w3 ⟨rfl, B3⟩
        obtain ⟨hc3, hf3⟩ := bcell B3
        have S3 := B3.size
        try simp at S3
        try (have _L3w2 : w2.heap.size < w3.heap.size := by omega)
        have _M3w2 : w2.heap.size ≤ w3.heap.size := by omega
        try (have _P3w2_1 : w2.heap.size + 1 < w3.heap.size := by omega)
        try (have _P3w2_2 : w2.heap.size + 1 + 1 < w3.heap.size := by omega)
        try (have _P3w2_3 : w2.heap.size + 1 + 1 + 1 < w3.heap.size := by omega)
        have _ : w3.cell? ⟨w2.heap.size, 0, none⟩ = some (.int .i64 R1) := by rw [hc3 (w2.heap.size) 0 (by first | omega | (simp; done) | (simp; omega))]; first | assumption | (simp; done) | simp [go_sem, *]
        have _ : w3.frozen? ⟨w2.heap.size, 0, none⟩ = false := by rw [hf3 (w2.heap.size) 0 (by first | omega | (simp; done) | (simp; omega))]; first | assumption | (simp; done) | simp [go_sem, *]
        have _ : w3.cell? ⟨w2.heap.size, 1, none⟩ = some (.int .i64 R2) := by rw [hc3 (w2.heap.size) 1 (by first | omega | (simp; done) | (simp; omega))]; first | assumption | (simp; done) | simp [go_sem, *]
        have _ : w3.frozen? ⟨w2.heap.size, 1, none⟩ = false := by rw [hf3 (w2.heap.size) 1 (by first | omega | (simp; done) | (simp; omega))]; first | assumption | (simp; done) | simp [go_sem, *]
        clear hc3 hf3
        have hF : Below wr.heap.size wr w3 := by (repeat (first | exact Below.refl _ _ | (refine Below.setCell ?_ (by (first | exact Nat.le_refl _ | omega | (simp <;> omega) | simp)) _) | (refine Below.alloc ?_ (by (first | exact Nat.le_refl _ | omega | (simp <;> omega) | simp)) _) | (refine below_draws ?_ _) | exact B2 | (refine Below.trans ?_ (Below.mono B2 (by (first | exact Nat.le_refl _ | omega | (simp <;> omega) | simp)))) | exact B3 | (refine Below.trans ?_ (Below.mono B3 (by (first | exact Nat.le_refl _ | omega | (simp <;> omega) | simp))))))
        have k2 := hF.size
        have hFw := hB.out.trans (hF.mono hsz)
        have own3 := owns_later hown.out hF
        have k3 : w.heap.size ≤ w3.heap.size := by omega
        clear B2 B3 hc hF
        go_wp2_with (at_builtin; refine append_ratio2 own3 k1 k3 hFw (by rfl) (by rfl) (by rfl) (by rfl) (by rfl) ?_; intro v' w4 hown4 hsz4 hB4)
        go_wp2
        go_roundw
        case rel => exact ⟨k + 1, by omega, by go_num, HO2, Lib.hid (by rw [HSN.out, HWP.out]; exact hown4), Lib.hid hB4⟩
        case measure => simp [intOf]; omega
    · obtain rfl : k = m.length := by omega
      have HY := Lib.hid (swR_yes HB.out (List.all_eq_true.2 (fun x hx => by
        obtain ⟨i, hi, e⟩ := List.getElem_of_mem hx
        have hi2 := hi
        rw [swL_length] at hi2
        rw [swL_get] at e
        rw [← e]
        exact hO.out i hi2)))
      go_wp2
      go_ret2
      exact ⟨_, ret_sw HY.out, by rw [HY.out]; exact hown.out, hB.out⟩
end Go.Proofs.Ytpfnlnllaapjeaa

namespace Go.Proofs.Ytpfnlnllaapjeaa
open Go.RowKit

theorem swL_take (m : MatP) (n k : Nat) (h : k ≤ n) : (swL m n).take k = swL m k := by
  unfold swL; rw [← List.map_take, List.take_range, Nat.min_eq_left h]
set_option maxRecDepth 8000 in
set_option maxHeartbeats 6400000 in
theorem impl_sw (v : Value) (m : MatP) (w : World) (hr : ReadsPP w v m) (hwf : ∀ k (h : k < m.length), WfL m[k]) :
    Calls Try.prog 33 #[v] w fun en w' => ∃ v', en = .returned (.tuple #[v', .bool (swR m).2]) ∧ w'.ownsRow w.heap.size 33 2 v' (swR m).1.length (cellsP (swR m).1) ∧ Below w.heap.size w w' := by
  obtain ⟨p, cap, rfl, hm0, hm1⟩ := hr.shape
  have hst := impl_isStar _ m w hr hwf
  cases hb : isStarB m
  · rw [hb] at hst
    rw [swR_no (m := m) (fun h => by rw [hb] at h; cases h.1)]
    clear hb hr hwf
    go_enter Try.func33, Try.ntmps33
    go_wp2_with fail
    refine hst.mono ?_
    rintro en w1 ⟨rfl, B1⟩
    go_wp2
    go_ret2
    exact ⟨_, rfl, World.ownsRow_nil _ _ _ _, B1⟩
  rw [hb] at hst
  have hS := isStar_iff.1 hb
  have h3 := hS.2.1
  have h5 := hS.1.2.1
  have hL := hS.1.2.2.1
  have HWT := Lib.hid (fun k (hk : k < m.length) W (h : ReadsPP W (.slice p m.length cap) m) => impl_weight (.slice p m.length cap) m k W h hwf h3 h5 hL hk)
  have HB := Lib.hid hb
  have HR := Lib.hid hr
  clear hS hL hb hr hwf
  go_enter Try.func33, Try.ntmps33
  go_wp2_with fail
  refine hst.mono ?_
  rintro en w1 ⟨rfl, B1⟩
  have S1 := B1.size
  obtain ⟨i0, hi, hz0, hz1, hz2⟩ := info_parts Try.infoRatio
  obtain ⟨w2, hmk, own2, grow2⟩ := run_makeSlice_full w1 w.heap.size 51 33 i0 (.agg #[.int .i64 0, .int .i64 0]) 2 Try.underlying51 hi hz0 hz1 .i64 .i64 m.length (by omega) (by rw [hz2]; omega) (by unfold maxLen; omega) S1
  have HB2 : Hid (Below w.heap.size w w2) := Lib.hid (B1.grown grow2 S1 (fun k hk => by cases hk))
  have HO2 := Lib.hid own2
  clear grow2 hi hz0 hz1 hz2 B1 hst own2 i0
  go_wp2
  go_loopw [14] (fun iv wr => ∃ (k : Nat) (ys : List Value), k ≤ m.length ∧ iv = .int .i64 k ∧ Hid (wr.ownsRow w.heap.size 33 2 (.slice (some ⟨w1.heap.size, 0, none⟩) m.length m.length) m.length ys) ∧ Hid (ys.take (k * 2) = cellsP (swL m k)) ∧ Hid (Below w.heap.size w wr)) (fun iv _ => m.length - (intOf iv).toNat)
  case atStart => exact ⟨0, _, Nat.zero_le _, rfl, HO2, Lib.hid (by simp [swL, cellsP]), HB2⟩
  case round =>
    obtain ⟨k, ys, hk, rfl, hown, hT, hB⟩ := hrel
    have hsz := hB.out.size
    by_cases hlt : k < m.length
    · have hyl : ys.length = m.length * 2 := by have := hown.out.1; omega
      have hc := HWT.out k hlt wr (HR.out.later hB.out)
      have HNX := Lib.hid (set2_take ys (swL m m.length) k (by rw [swL_length]; exact hlt) (by rw [swL_length]; exact hyl) (by rw [swL_take m _ k (by omega)]; exact hT.out))
      rw [swL_get, swL_take m _ (k + 1) (by omega)] at HNX
      obtain ⟨R1, R2, hR⟩ : ∃ R1 R2, wtP m k = (R1, R2) := ⟨_, _, rfl⟩
      rw [hR] at hc HNX
      simp only at hc HNX
      clear hR
      go_wp2_with fail
      refine hc.mono ?_
      rintro en w3 ⟨rfl, B3⟩
      have own3 := owns_later hown.out B3
      have d0 := own3.cellAt (k * 2) (by omega)
      have d1 := own3.cellAt (k * 2 + 1) (by omega)
      rw [List.getElem?_eq_getElem (by omega)] at d0 d1
      have f0 := own3.frozenAt (k * 2)
      have f1 := own3.frozenAt (k * 2 + 1)
      have HO3 := Lib.hid own3
      have HF := Lib.hid (hB.out.trans (B3.mono hsz))
      clear own3 B3 hc
      go_wp2
      go_roundw
      case rel =>
        have s1 := (HO3.out.stored (k * 2) (.int .i64 R1)).1
        have s2 := (s1.stored (k * 2 + 1) (.int .i64 R2)).1
        exact ⟨k + 1, _, by omega, by go_num, Lib.hid s2, HNX, Lib.hid ((HF.out.setCell (by simp; omega) _).setCell (by simp; omega) _)⟩
      case measure => simp [intOf]; omega
    · obtain rfl : k = m.length := by omega
      have e := hT.out
      have hyl : ys.length = m.length * 2 := by have := hown.out.1; omega
      rw [List.take_of_length_le (by omega)] at e
      have hfin : wr.ownsRow w.heap.size 33 2 (.slice (some ⟨w1.heap.size, 0, none⟩) m.length m.length) (swL m m.length).length (cellsP (swL m m.length)) := by rw [swL_length, ← e]; exact hown.out
      have HFI := Lib.hid hfin
      have hrd : ReadsP wr (.slice (some ⟨w1.heap.size, 0, none⟩) m.length m.length) (swL m m.length) := ReadsP.of_own hfin
      have hc := impl_allOk _ (swL m m.length) wr hrd (swL_wf _ _)
      cases ha : allOkP (swL m m.length)
      · rw [ha] at hc
        have HN := Lib.hid (swR_no (m := m) (fun h => by rw [ha] at h; cases h.2))
        clear ha hrd hfin e
        go_wp2_with fail
        refine hc.mono ?_
        rintro en w4 ⟨rfl, B4⟩
        have HF := Lib.hid (hB.out.trans (B4.mono hsz))
        clear B4
        go_wp2
        go_ret2
        exact ⟨_, ret_sw HN.out, by rw [HN.out]; exact World.ownsRow_nil _ _ _ _, HF.out⟩
      · rw [ha] at hc
        have HY := Lib.hid (swR_yes HB.out ha)
        clear ha hrd hfin e
        go_wp2_with fail
        refine hc.mono ?_
        rintro en w4 ⟨rfl, B4⟩
        have HF := Lib.hid (hB.out.trans (B4.mono hsz))
        have HO4 := Lib.hid (owns_later HFI.out B4)
        clear B4
        go_wp2
        go_ret2
        exact ⟨_, ret_sw HY.out, by rw [HY.out]; exact HO4.out, HF.out⟩
end Go.Proofs.Ytpfnlnllaapjeaa

namespace Go.Proofs.Ytpfnlnllaapjeaa
open Go.ChangeShapes Go.WideShapes Go.ChangeAt Go.RowKit

namespace StarWeightsLaw
theorem held_at (q : Int) (v : Value) (n k : Nat) (w : World) (hq : q = k) (hk : 1 ≤ k) (hkn : k + n * 2 ≤ 8000000) (h : ReadsP w v (mkp k n)) :
    Calls Try.prog 38 #[v, .int .i64 q] w fun e w' => e = .returned (.int .i64 ((k + n * 2 : Nat) : Int)) ∧ w = w' := by
  subst hq; exact heldRatioS_any v n k w hk hkn h
theorem mark_at (q : Int) (v : Value) (n k : Nat) (xs : List Value) (base : Nat) (w : World) (hq : q = k) (hk : 1 ≤ k) (hkn : k + n * 2 ≤ 8000000) (h : w.ownsRow base 33 2 v n xs) :
    Calls Try.prog 37 #[v, .int .i64 q] w fun e w' => e = .returned (.int .i64 ((k + n * 2 : Nat) : Int)) ∧ w'.ownsRow base 33 2 v n (cellsP (mkp k n)) ∧ w.grownBy w' v.ownBlock := by
  subst hq; exact markRatioS_any v n k xs base w hk hkn h
theorem marks_at (q : Int) (v : Value) (rs : List Value) (ns : List Nat) (k base : Nat) (w : World) (hq : q = k) (hO : WrR w base 51 33 2 v rs ns) (hk : 1 ≤ k) (hT : k + preN ns ns.length * 2 ≤ 8000000) (h1000 : ns.length ≤ 1048576) (hi : Nat) (hHi : ∀ (k : Nat) (r : Value) (b : Nat), rs[k]? = some r → r.ownBlock = some b → b < hi) :
    Calls Try.prog 36 #[v, .int .i64 q] w fun e w' => e = .returned (.int .i64 ((k + preN ns ns.length * 2 : Nat) : Int)) ∧ Far hi w w' ∧ Below base w w' := by
  subst hq; exact markRatioSS_wr v rs ns k base w hO hk hT h1000 hi hHi
theorem own_held {w : World} {base : Nat} {v : Value} {k n : Nat} (h : w.ownsRow base 33 2 v n (cellsP (mkp k n))) : ReadsP w v (mkp k n) := ReadsP.of_own (e := 33) (base := base) (by rw [mkp_length]; exact h)
set_option maxRecDepth 8000 in
set_option maxHeartbeats 12800000 in
theorem walk (va : Value) (a : MatP) (w : World) (hA : ReadsPP w va a) (hwf : ∀ k (h : k < a.length), WfL a[k]) :
    Calls Try.prog 7 #[va] w fun en w' => en = .returned (.bool true) ∧ Below w.heap.size w w' := by
  obtain ⟨pa, ca, rfl, _, _⟩ := hA.shape
  have HA := Lib.hid hA; clear hA
  have hL5 := sw_small a
  obtain ⟨L, hL⟩ : ∃ L, L = (swR a).1 := ⟨_, rfl⟩
  obtain ⟨bo, hbo⟩ : ∃ bo, bo = (swR a).2 := ⟨_, rfl⟩
  have cs := fun w v h => spec_sw v a w h hwf
  have ci := fun w v h => impl_sw v a w h hwf
  rw [← hL] at hL5
  rw [← hL, ← hbo] at cs ci
  have CS := Lib.hid cs; have CI := Lib.hid ci
  clear cs ci hL hbo hwf
  go_enter Try.func7, Try.ntmps7
  go_wp2_with fail
  refine (szRatioSS_tot _ a 1048576 w (by omega) (by omega) HA.out).mono ?_
  rintro en w1 ⟨⟨x, rfl, hx⟩, rfl⟩
  by_cases hneg : x < 0
  · go_wp2
    go_ret
    exact ⟨rfl, by (repeat (first | exact Below.refl _ _ | (refine Below.setCell ?_ (by (first | exact Nat.le_refl _ | omega | (simp <;> omega) | simp)) _) | (refine Below.alloc ?_ (by (first | exact Nat.le_refl _ | omega | (simp <;> omega) | simp)) _) | (refine below_draws ?_ _)))⟩
  have hma : a.length ≤ 1048576 ∧ preN (lens a) a.length ≤ 1048576 ∧ ∀ k (h : k < a.length), a[k].length ≤ 1048576 := by
    rcases hx with hx | hx
    · exact absurd hx hneg
    · exact hx
  have HMA := Lib.hid hma
  clear hma hx
  go_wp2_with fail
  refine (toRatioSS_any _ a _ HMA.out.1 HMA.out.2.2 HA.out).mono ?_
  rintro en w3 ⟨v3, rfl, r3, C3⟩
  have S3 := C3.size
  go_wp2_with fail
  refine (CS.out _ _ r3).mono ?_
  rintro en w5 ⟨v5, rfl, o5, B5⟩
  have S5 := B5.size
  have C5 := C3.trans (B5.mono C3.size)
  have R5 := Lib.hid (ReadsP.of_own o5)
  clear r3 C3 B5 o5
  go_wp2_with fail
  refine (toRatioSS_wr _ a _ HMA.out.1 HMA.out.2.2 (HA.out.later C5)).mono ?_
  rintro en w6 ⟨v6, rfl, r6, ⟨rs, o6⟩, B6⟩
  have S6 := B6.size
  have HI6 := Lib.hid o6.lt
  go_wp2_with fail
  refine (CI.out _ _ r6).mono ?_
  rintro en w8 ⟨v8, rfl, o8, B8⟩
  have S8 := B8.size
  have D8 : Below w5.heap.size w5 w8 := B6.trans (B8.mono S6)
  have C8 : Below w.heap.size w w8 := C5.trans (D8.mono C5.size)
  have q8 := Lib.hid (r6.later B8)
  have O6 := Lib.hid (o6.later B8)
  have O8 := Lib.hid o8
  clear r6 B8 B6 o6 o8
  go_wp2_with fail
  refine (eqRatioS_same _ _ L _ (ReadsP.of_own O8.out) (R5.out.later D8)).mono ?_
  rintro en w9 ⟨rfl, B9⟩
  have S9 := B9.size
  have D9 : Below w5.heap.size w5 w9 := D8.trans (B9.mono (by omega))
  have C9 : Below w.heap.size w w9 := C8.trans (B9.mono (by omega))
  have O69 := Lib.hid (O6.out.later B9)
  have O89 := Lib.hid (owns_later O8.out B9)
  have q9 := Lib.hid (q8.out.later B9)
  clear B9
  cases bo
  all_goals
    go_wp2_with fail
    refine (toRatioSS_any _ a _ HMA.out.1 HMA.out.2.2 (HA.out.later C9)).mono ?_
    rintro en wa ⟨va, rfl, ra, Ba⟩
    have Sa := Ba.size
    go_wp2_with fail
    refine (eqRatioSS_same _ _ a _ (q9.out.later Ba) ra).mono ?_
    rintro en wb ⟨rfl, Bb⟩
    have Sb := Bb.size
    have Eb : Below w9.heap.size w9 wb := Ba.trans (Bb.mono Sa)
    have Db : Below w5.heap.size w5 wb := D9.trans (Eb.mono (by omega))
    have Cb : Below w.heap.size w wb := C9.trans (Eb.mono (by omega))
    have O6b := Lib.hid (O69.out.later Eb)
    have O8b := Lib.hid (owns_later O89.out Eb)
    clear Ba Bb ra Eb
    have hT := HMA.out.2.1
    have hml := HMA.out.1
    go_wp2_with fail
    refine (marks_at 1 _ rs (lens a) 1 w5.heap.size _ rfl O6b.out (by omega) (by rw [lens_length]; omega) (by rw [lens_length]; omega) w6.heap.size HI6.out).mono ?_
    rintro en wc ⟨rfl, Fc, Bc⟩
    have Sc := Bc.size
    have Dc : Below w5.heap.size w5 wc := Db.trans Bc
    have Cc : Below w.heap.size w wc := Cb.trans (Bc.mono (by omega))
    have O8c := Lib.hid (Fc _ _ _ _ _ _ (Nat.le_refl _) O8b.out)
    clear Fc Bc hT hml
    go_wp2_with fail
    refine (eqRatioS_same _ _ L _ (ReadsP.of_own O8c.out) (R5.out.later Dc)).mono ?_
    rintro en wd ⟨rfl, Bd⟩
    have Sd := Bd.size
    have O8d := Lib.hid (owns_later O8c.out Bd)
    have Dd : Below w5.heap.size w5 wd := Dc.trans (Bd.mono (by omega))
    have Cd : Below w.heap.size w wd := Cc.trans (Bd.mono (by omega))
    clear Bd
    go_wp2_with fail
    refine (mark_at 1 _ L.length 1 _ _ _ rfl (by omega) (by omega) O8d.out).mono ?_
    rintro en we ⟨rfl, oe, Ge⟩
    have Be : Below w6.heap.size wd we := (Below.refl _ _).grown Ge (by omega) (fun k hk => (O8d.out.lt k hk).1)
    have Se := Be.size
    have Oe := Lib.hid oe
    have De : Below w5.heap.size w5 we := Dd.trans (Be.mono (by omega))
    have Ce : Below w.heap.size w we := Cd.trans (Be.mono (by omega))
    clear Be oe Ge
    go_wp2_with fail
    refine (held_at 1 _ L.length 1 _ rfl (by omega) (by omega) (own_held Oe.out)).mono ?_
    rintro en wf ⟨rfl, rfl⟩
    go_wp2_with fail
    refine (toRatioSS_any _ a _ HMA.out.1 HMA.out.2.2 (HA.out.later Ce)).mono ?_
    rintro en wg ⟨vg, rfl, rg, Bg⟩
    have Sg := Bg.size
    go_wp2_with fail
    refine (CI.out _ _ rg).mono ?_
    rintro en wh ⟨vh, rfl, oh, Bh⟩
    have Sh := Bh.size
    have Eh : Below we.heap.size we wh := Bg.trans (Bh.mono Sg)
    have Rh := Lib.hid (ReadsP.of_own oh)
    clear Bg Bh oh rg
    go_wp2_with fail
    refine (eqRatioS_same _ _ L _ Rh.out (R5.out.later (De.trans (Eh.mono (by omega))))).mono ?_
    rintro en wi ⟨rfl, Bi⟩
    have Ei : Below we.heap.size we wi := Eh.trans (Bi.mono (by omega))
    clear Bi
    go_wp2_with fail
    refine (held_at 1 _ L.length 1 _ rfl (by omega) (by omega) (own_held (owns_later Oe.out Ei))).mono ?_
    rintro en wj ⟨rfl, rfl⟩
    go_wp2
    go_ret
    exact ⟨rfl, Ce.trans (Ei.mono (by omega))⟩

end StarWeightsLaw
end Go.Proofs.Ytpfnlnllaapjeaa
