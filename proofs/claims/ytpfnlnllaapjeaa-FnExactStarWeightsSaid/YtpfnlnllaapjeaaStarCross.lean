/-
  Star matrices in the model: l08Cross.
-/
import Derived.Test.YtpfnlnllaapjeaaStarRows
import Derived.Test.YtpfnlnllaapjeaaStarMat
import Derived.Test.YtpfnlnllaapjeaaRatArith
import Derived.Test.YtpfnlnllaapjeaaGKeep
import Derived.Test.YtpfnlnllaapjeaaKept
namespace Go.Proofs.Ytpfnlnllaapjeaa
open Go.RowKit Go.Maps

theorem s_tm {n d m e x y : Int} (h : rTimes n d m e = (x, y)) (hn : In n ∧ In d) (hm : In m ∧ In e) (w : World) : Calls Try.prog 143 #[.agg #[.int .i64 n, .int .i64 d], .agg #[.int .i64 m, .int .i64 e]] w fun en w' => en = .returned (.agg #[.int .i64 x, .int .i64 y]) ∧ Below w.heap.size w w' := by
  have hc := spec_rTimes n d m e w hn.1.1 hn.1.2 hn.2.1 hn.2.2 hm.1.1 hm.1.2 hm.2.1 hm.2.2
  rw [h] at hc; exact hc
noncomputable def crossPB (m : MatP) (i j k l : Nat) : Bool := @decide (CrossP m i j k l) (Classical.propDecidable _)
theorem cross_no {m : MatP} {i j k l : Nat} (h : ¬ CrossP m i j k l) : crossPB m i j k l = false := by unfold crossPB; rw [@decide_eq_false _ (Classical.propDecidable _) h]
theorem cross_yes {m : MatP} {i j k l : Nat} (h : CrossP m i j k l) : crossPB m i j k l = true := by unfold crossPB; rw [@decide_eq_true _ (Classical.propDecidable _) h]
theorem cross_iff {m : MatP} {i j k l : Nat} : crossPB m i j k l = true ↔ CrossP m i j k l := by unfold crossPB; rw [@decide_eq_true_eq _ (Classical.propDecidable _)]
set_option maxRecDepth 8000 in
set_option maxHeartbeats 12800000 in
theorem spec_cross (v : Value) (m : MatP) (i j k l : Nat) (w : World) (hr : ReadsPP w v m) (hwf : ∀ k (h : k < m.length), WfL m[k]) (h5 : m.length ≤ 5) (hL : ∀ i, i < m.length → (rowP m i).length = m.length) (hi : i < m.length) (hj : j < m.length) (hk : k < m.length) (hl : l < m.length) :
    Calls Try.prog 142 #[v, .int .i64 i, .int .i64 j, .int .i64 k, .int .i64 l] w fun en w' => en = .returned (.bool (crossPB m i j k l)) ∧ Below w.heap.size w w' := by
  obtain ⟨g, o, c, rfl, hg, hrows⟩ := rows_at hr (by omega) hL
  obtain ⟨gi, oi, ci, a0, hgi, -, hei⟩ := hrows i hi
  obtain ⟨gk, ok, ck, b0, hgk, -, hek⟩ := hrows k hk
  obtain ⟨x0, x1⟩ := hei j hj
  obtain ⟨z0, z1⟩ := hei l hl
  obtain ⟨y0, y1⟩ := hek l hl
  obtain ⟨u0, u1⟩ := hek j hj
  have iX := el_in hwf hi (show j < (rowP m i).length by rw [hL i hi]; exact hj)
  have iZ := el_in hwf hi (show l < (rowP m i).length by rw [hL i hi]; exact hl)
  have iY := el_in hwf hk (show l < (rowP m k).length by rw [hL k hk]; exact hl)
  have iU := el_in hwf hk (show j < (rowP m k).length by rw [hL k hk]; exact hj)
  have hcr : crossPB m i j k l = true ↔ crossB (tmP (elP m i j) (elP m k l)) (tmP (elP m i l) (elP m k j)) := cross_iff
  obtain ⟨bb, hbb⟩ : ∃ bb, crossPB m i j k l = bb := ⟨_, rfl⟩
  rw [hbb] at hcr ⊢
  clear hbb hrows hei hek hwf hL hr
  generalize elP m i j = X at *
  generalize elP m i l = Z at *
  generalize elP m k l = Y at *
  generalize elP m k j = U at *
  obtain ⟨X1, X2⟩ := X
  obtain ⟨Z1, Z2⟩ := Z
  obtain ⟨U1, U2⟩ := U
  obtain ⟨Y1, Y2⟩ := Y
  obtain ⟨P1, P2', hP⟩ : ∃ P1 P2', tmP (X1, X2) (Y1, Y2) = (P1, P2') := ⟨_, _, rfl⟩
  obtain ⟨R1, R2, hR⟩ : ∃ R1 R2, tmP (Z1, Z2) (U1, U2) = (R1, R2) := ⟨_, _, rfl⟩
  simp only [hP, hR] at hcr
  simp only at x0 x1 y0 y1 z0 z1 u0 u1 iX iY iZ iU
  have CP := Lib.hid (fun W => s_tm (n := X1) (d := X2) (m := Y1) (e := Y2) hP iX iY W)
  have CR := Lib.hid (fun W => s_tm (n := Z1) (d := Z2) (m := U1) (e := U2) hR iZ iU W)
  have iP := times_in (n := X1) (d := X2) (m := Y1) (e := Y2) hP
  have COK := Lib.hid (fun W => spec_rOk P1 P2' W iP.1.1 iP.1.2 iP.2.1 iP.2.2)
  have HCRS := Lib.hid hcr
  have HCELL : Hid ((w.cell? ⟨g, o + i, none⟩ = some (.slice (some ⟨gi, oi, none⟩) m.length ci) ∧ w.cell? ⟨g, o + k, none⟩ = some (.slice (some ⟨gk, ok, none⟩) m.length ck)) ∧ w.cell? ⟨gi, oi + l * 2, none⟩ = some (.int .i64 Z1) ∧ w.cell? ⟨gi, oi + l * 2 + 1, none⟩ = some (.int .i64 Z2) ∧ w.cell? ⟨gk, ok + j * 2, none⟩ = some (.int .i64 U1) ∧ w.cell? ⟨gk, ok + j * 2 + 1, none⟩ = some (.int .i64 U2)) := Lib.hid ⟨⟨a0, b0⟩, z0, z1, u0, u1⟩
  have HL6 : Hid (g < w.heap.size ∧ g < w.heap.size ∧ gi < w.heap.size ∧ gi < w.heap.size ∧ gk < w.heap.size ∧ gk < w.heap.size) := Lib.hid ⟨hg, hg, hgi, hgi, hgk, hgk⟩
  have hS0 : w.cell? ⟨g, o + i, none⟩ = some (.slice (some ⟨gi, oi, none⟩) m.length ci) ∧ w.cell? ⟨g, o + k, none⟩ = some (.slice (some ⟨gk, ok, none⟩) m.length ck) ∧ w.cell? ⟨gi, oi + j * 2, none⟩ = some (.int .i64 X1) ∧ w.cell? ⟨gi, oi + j * 2 + 1, none⟩ = some (.int .i64 X2) ∧ w.cell? ⟨gk, ok + l * 2, none⟩ = some (.int .i64 Y1) ∧ w.cell? ⟨gk, ok + l * 2 + 1, none⟩ = some (.int .i64 Y2) ∧ w.heap.size ≤ w.heap.size ∧ w.heap.size ≤ w.heap.size ∧ Below w.heap.size w w := ⟨a0, b0, x0, x1, y0, y1, Nat.le_refl _, Nat.le_refl _, Below.refl _ _⟩
  clear hcr iX iY iZ iU iP hP hR a0 b0 x0 x1 y0 y1 z0 z1 u0 u1 hg hgi hgk
  go_enter Try.func142, Try.ntmps142
  go_upto_region 1 with fail
  go_cut [11] (fun s11 wx => ∃ B : Nat, s11 = .pointer (some ⟨B, 0, none⟩) ∧ (wx.cell? ⟨B, 0, none⟩ = some (.int .i64 P1) ∧ wx.cell? ⟨B, 1, none⟩ = some (.int .i64 P2') ∧ wx.frozen? ⟨B, 0, none⟩ = false ∧ wx.frozen? ⟨B, 1, none⟩ = false ∧ B < wx.heap.size ∧ w.heap.size ≤ B) ∧ (wx.cell? ⟨g, o + i, none⟩ = some (.slice (some ⟨gi, oi, none⟩) m.length ci) ∧ wx.cell? ⟨g, o + k, none⟩ = some (.slice (some ⟨gk, ok, none⟩) m.length ck) ∧ wx.cell? ⟨gi, oi + j * 2, none⟩ = some (.int .i64 X1) ∧ wx.cell? ⟨gi, oi + j * 2 + 1, none⟩ = some (.int .i64 X2) ∧ wx.cell? ⟨gk, ok + l * 2, none⟩ = some (.int .i64 Y1) ∧ wx.cell? ⟨gk, ok + l * 2 + 1, none⟩ = some (.int .i64 Y2) ∧ w.heap.size ≤ wx.heap.size ∧ w.heap.size ≤ w.heap.size ∧ Below w.heap.size w wx))
  case first =>
    have hS := k6_drew hS0
    clear hS0
    go_region_held3 (fun w' => w'.cell? ⟨g, o + i, none⟩ = some (.slice (some ⟨gi, oi, none⟩) m.length ci) ∧ w'.cell? ⟨g, o + k, none⟩ = some (.slice (some ⟨gk, ok, none⟩) m.length ck) ∧ w'.cell? ⟨gi, oi + j * 2, none⟩ = some (.int .i64 X1) ∧ w'.cell? ⟨gi, oi + j * 2 + 1, none⟩ = some (.int .i64 X2) ∧ w'.cell? ⟨gk, ok + l * 2, none⟩ = some (.int .i64 Y1) ∧ w'.cell? ⟨gk, ok + l * 2 + 1, none⟩ = some (.int .i64 Y2) ∧ w.heap.size ≤ w'.heap.size ∧ w.heap.size ≤ w.heap.size ∧ Below w.heap.size w w')
      (first | (with_reducible exact hS) | (with_reducible exact k6_alloc hS) | (with_reducible exact k6_allocd hS) | exact k6_set hN.2.2.2.2.2 HL6.out (k6_set hN.2.2.2.2.2 HL6.out hS) | exact k6_set hS.2.2.2.2.2.2.1 HL6.out (k6_set hS.2.2.2.2.2.2.1 HL6.out (k6_alloc hS)))
      (first | (go_at_call 143; with_reducible refine Calls.mono (CP.out _) ?_; rintro en w1 ⟨rfl, B1⟩; (first | (have hN := kept_new B1 hS.2.2.2.2.2.2.1) | (have hN := kept_newd B1 hS.2.2.2.2.2.2.1; (try simp only [World.size_alloc] at hN)) | skip); (first | (with_reducible replace hS := k6_keep B1 hS) | (with_reducible replace hS := k6_keep B1 (k6_alloc hS)) | (with_reducible replace hS := k6_keep B1 (k6_allocd hS)))))
    all_goals
      go_wp2_with fail
      go_meet
      first
      | exact ⟨_, rfl, kept_laid hS.2.2.2.2.2.2.1, k6_alloc hS⟩
      | exact ⟨_, rfl, kept_put hN, k6_set hN.2.2.2.2.2 HL6.out (k6_set hN.2.2.2.2.2 HL6.out hS)⟩
  case rest =>
    obtain ⟨B, rfl, hK, hS1⟩ := hcut
    rename World => wx
    have HBx := Lib.hid hS1.2.2.2.2.2.2.2.2
    have hS0 : wx.cell? ⟨g, o + i, none⟩ = some (.slice (some ⟨gi, oi, none⟩) m.length ci) ∧ wx.cell? ⟨g, o + k, none⟩ = some (.slice (some ⟨gk, ok, none⟩) m.length ck) ∧ wx.cell? ⟨gi, oi + l * 2, none⟩ = some (.int .i64 Z1) ∧ wx.cell? ⟨gi, oi + l * 2 + 1, none⟩ = some (.int .i64 Z2) ∧ wx.cell? ⟨gk, ok + j * 2, none⟩ = some (.int .i64 U1) ∧ wx.cell? ⟨gk, ok + j * 2 + 1, none⟩ = some (.int .i64 U2) ∧ wx.cell? ⟨B, 0, none⟩ = some (.int .i64 P1) ∧ wx.cell? ⟨B, 1, none⟩ = some (.int .i64 P2') ∧ wx.heap.size ≤ wx.heap.size ∧ wx.heap.size ≤ wx.heap.size ∧ Below wx.heap.size wx wx := by
      obtain ⟨⟨q0, q1⟩, q2, q3, q4, q5⟩ := HCELL.out
      obtain ⟨l0, -, l2, -, l4, -⟩ := HL6.out
      have hB := HBx.out
      exact ⟨(hB.cell (p := ⟨g, _, none⟩) l0).trans q0, (hB.cell (p := ⟨g, _, none⟩) l0).trans q1, (hB.cell (p := ⟨gi, _, none⟩) l2).trans q2, (hB.cell (p := ⟨gi, _, none⟩) l2).trans q3, (hB.cell (p := ⟨gk, _, none⟩) l4).trans q4, (hB.cell (p := ⟨gk, _, none⟩) l4).trans q5, hK.1, hK.2.1, Nat.le_refl _, Nat.le_refl _, Below.refl _ _⟩
    have HL8 : Hid (g < wx.heap.size ∧ g < wx.heap.size ∧ gi < wx.heap.size ∧ gi < wx.heap.size ∧ gk < wx.heap.size ∧ gk < wx.heap.size ∧ B < wx.heap.size ∧ B < wx.heap.size) := Lib.hid (by
      obtain ⟨l0, -, l2, -, l4, -⟩ := HL6.out
      have hz := HBx.out.size
      have hb := hK.2.2.2.2.1
      exact ⟨by omega, by omega, by omega, by omega, by omega, by omega, by omega, by omega⟩)
    clear hS1 hK
    go_upto_region 2 with fail
    go_cut [12] (fun s12 wy => ∃ C : Nat, s12 = .pointer (some ⟨C, 0, none⟩) ∧ (wy.cell? ⟨C, 0, none⟩ = some (.int .i64 R1) ∧ wy.cell? ⟨C, 1, none⟩ = some (.int .i64 R2) ∧ wy.frozen? ⟨C, 0, none⟩ = false ∧ wy.frozen? ⟨C, 1, none⟩ = false ∧ C < wy.heap.size ∧ wx.heap.size ≤ C) ∧ (wy.cell? ⟨g, o + i, none⟩ = some (.slice (some ⟨gi, oi, none⟩) m.length ci) ∧ wy.cell? ⟨g, o + k, none⟩ = some (.slice (some ⟨gk, ok, none⟩) m.length ck) ∧ wy.cell? ⟨gi, oi + l * 2, none⟩ = some (.int .i64 Z1) ∧ wy.cell? ⟨gi, oi + l * 2 + 1, none⟩ = some (.int .i64 Z2) ∧ wy.cell? ⟨gk, ok + j * 2, none⟩ = some (.int .i64 U1) ∧ wy.cell? ⟨gk, ok + j * 2 + 1, none⟩ = some (.int .i64 U2) ∧ wy.cell? ⟨B, 0, none⟩ = some (.int .i64 P1) ∧ wy.cell? ⟨B, 1, none⟩ = some (.int .i64 P2') ∧ wx.heap.size ≤ wy.heap.size ∧ wx.heap.size ≤ wx.heap.size ∧ Below wx.heap.size wx wy))
    case first =>
      have hS := k8_drew hS0
      clear hS0
      go_region_held3 (fun w' => w'.cell? ⟨g, o + i, none⟩ = some (.slice (some ⟨gi, oi, none⟩) m.length ci) ∧ w'.cell? ⟨g, o + k, none⟩ = some (.slice (some ⟨gk, ok, none⟩) m.length ck) ∧ w'.cell? ⟨gi, oi + l * 2, none⟩ = some (.int .i64 Z1) ∧ w'.cell? ⟨gi, oi + l * 2 + 1, none⟩ = some (.int .i64 Z2) ∧ w'.cell? ⟨gk, ok + j * 2, none⟩ = some (.int .i64 U1) ∧ w'.cell? ⟨gk, ok + j * 2 + 1, none⟩ = some (.int .i64 U2) ∧ w'.cell? ⟨B, 0, none⟩ = some (.int .i64 P1) ∧ w'.cell? ⟨B, 1, none⟩ = some (.int .i64 P2') ∧ wx.heap.size ≤ w'.heap.size ∧ wx.heap.size ≤ wx.heap.size ∧ Below wx.heap.size wx w')
        (first | (with_reducible exact hS) | (with_reducible exact k8_alloc hS) | (with_reducible exact k8_allocd hS) | exact k8_set hN.2.2.2.2.2 HL8.out (k8_set hN.2.2.2.2.2 HL8.out hS) | exact k8_set hS.2.2.2.2.2.2.2.2.1 HL8.out (k8_set hS.2.2.2.2.2.2.2.2.1 HL8.out (k8_alloc hS)))
        (first | (go_at_call 143; with_reducible refine Calls.mono (CR.out _) ?_; rintro en w1 ⟨rfl, B1⟩; (first | (have hN := kept_new B1 hS.2.2.2.2.2.2.2.2.1) | (have hN := kept_newd B1 hS.2.2.2.2.2.2.2.2.1; (try simp only [World.size_alloc] at hN)) | skip); (first | (with_reducible replace hS := k8_keep B1 hS) | (with_reducible replace hS := k8_keep B1 (k8_alloc hS)) | (with_reducible replace hS := k8_keep B1 (k8_allocd hS)))))
      all_goals
        go_wp2_with fail
        go_meet
        first
        | exact ⟨_, rfl, kept_laid hS.2.2.2.2.2.2.2.2.1, k8_alloc hS⟩
        | exact ⟨_, rfl, kept_put hN, k8_set hN.2.2.2.2.2 HL8.out (k8_set hN.2.2.2.2.2 HL8.out hS)⟩
    case rest =>
      obtain ⟨C, rfl, hK, hS1⟩ := hcut
      rename World => wy
      have HF := Lib.hid (HBx.out.trans (hS1.2.2.2.2.2.2.2.2.2.2.mono HBx.out.size))
      obtain ⟨r0, r1, -, -, hCz, -⟩ := hK
      obtain ⟨-, -, -, -, -, -, p0, p1, -⟩ := hS1
      clear hS0
      by_cases hxy : ((P1, P2') : P2) = (R1, R2)
      · simp only [Prod.mk.injEq] at hxy
        obtain ⟨hxa, hxb⟩ := hxy
        subst hxa
        subst hxb
        have HRET : Hid (bb = rOk P1 P2') := Lib.hid (by
          rw [Bool.eq_iff_iff, HCRS.out]
          unfold crossB
          simp)
        go_wp2_with fail
        refine (COK.out _).mono ?_
        rintro en wz ⟨rfl, Bz⟩
        have HFz := Lib.hid (HF.out.trans (Bz.mono HF.out.size))
        clear Bz p0 p1 r0 r1
        go_wp2
        go_ret
        exact ⟨ret_of HRET.out, HFz.out⟩
      · have HRET : Hid (bb = false) := Lib.hid (by
          cases bb
          · rfl
          · exact absurd (HCRS.out.1 rfl).1 hxy)
        have hp := p2_parts hxy
        simp only at hp
        clear hxy
        rcases hp with f1 | ⟨f1, f2⟩
        · go_wp2
          go_ret
          exact ⟨ret_of HRET.out, HF.out⟩
        · subst f1
          go_wp2
          go_ret
          exact ⟨ret_of HRET.out, HF.out⟩
end Go.Proofs.Ytpfnlnllaapjeaa
