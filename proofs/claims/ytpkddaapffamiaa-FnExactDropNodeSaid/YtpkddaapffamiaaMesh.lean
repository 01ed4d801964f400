/-
  l07Mesh in the model: a node replaced by wires between its neighbours.
-/
import Derived.Test.YtpkddaapffamiaaNear
import Derived.Test.YtpkddaapffamiaaGIns
import Derived.Test.YtpkddaapffamiaaReduced
import Derived.Test.YtpkddaapffamiaaGKeep
import Derived.Test.YtpkddaapffamiaaBoxes
import Derived.Test.YtpkddaapffamiaaPutWireSpec
import Derived.StillTailTactics
namespace Go.Proofs.Ytpkddaapffamiaa
open Go.RowKit

theorem idx_call (v b : Nat) (hv : v ≤ 5) (w : World) :
    Calls Try.prog 114 #[.int .i64 v, .int .i64 b] w fun en w' => en = .returned (.int .i64 (idx v b : Nat)) ∧ w = w' := by
  by_cases h : b < v
  · have HF : Hid (((v : Int) - 1) = ((idx v b : Nat) : Int)) := Lib.hid (by unfold idx; rw [if_pos h]; omega)
    have h' : (b : Int) < v := by omega
    clear h
    go_enter Try.func114, Try.ntmps114
    go_wp2
    go_ret
    exact ⟨ret_i HF.out, rfl⟩
  · have HF : Hid ((v : Int) = ((idx v b : Nat) : Int)) := Lib.hid (by unfold idx; rw [if_neg h])
    have h' : (v : Int) ≤ b := by omega
    clear h
    go_enter Try.func114, Try.ntmps114
    go_wp2
    go_ret
    exact ⟨ret_i HF.out, rfl⟩
theorem meshO_drop {ws : List W3} {v : Nat} {acc : List W3} {l : List Int} {i : Nat} (h : i < l.length) : meshO ws v acc (l.drop i) = meshO ws v (meshI ws v l[i] acc (l.drop (i + 1))) (l.drop (i + 1)) := by
  rw [List.drop_eq_getElem_cons h]; rfl
theorem meshI_take {ws : List W3} {v : Nat} {a : Int} {acc : List W3} {r : List Int} {j : Nat} (h : j < r.length) : meshI ws v a acc (r.take (j + 1)) = put3 (meshI ws v a acc (r.take j)) ((idx a.toNat v : Nat) : Int) ((idx r[j].toNat v : Nat) : Int) (wBtw ws (v : Int) a * wBtw ws (v : Int) r[j]) true := by
  rw [List.take_succ_eq_append_getElem h, meshI_snoc]
set_option maxRecDepth 8000 in
set_option maxHeartbeats 12800000 in
theorem spec_mesh (N : Nat) (e s : Int) (x : Nat) (v : Value) (ws : List W3) (w : World) (hr : ReadsW w v ws) (hV : NetV N e s ws) (hx : x < N) (h1 : 1 ≤ wAt ws (x : Int)) :
    Calls Try.prog 92 #[.agg #[.int .i64 N, .int .i64 e, .int .i64 s, v], .int .i64 x] w (AnsN w (redR ((N : Int) - 1) e (s * wAt ws (x : Int)) (meshR N ws x))) := by
  have n5 := hV.1.2.1
  have e1 := hV.1.2.2.1
  have e2 := hV.1.2.2.2.1
  have s1 := hV.1.2.2.2.2.1
  have s2 := hV.1.2.2.2.2.2
  have hlen := wiresV_len hV.2.1 n5
  have hwa := wAt_le hV.2.1 n5 (x : Int) (by omega) (by omega)
  have HW := Lib.hid hV.2.1
  obtain ⟨p0, cap0, rfl⟩ := hr.shape
  have HC := Lib.hid (reads_at hr)
  obtain ⟨hsr, hsl⟩ := meshR_srt (v := x) hV.2.1 (by omega) hx hlen
  have hsm : 1 ≤ s * wAt ws (x : Int) ∧ s * wAt ws (x : Int) ≤ 800000 := by
    have a1 := Int.mul_le_mul s2 hwa.2 hwa.1 (by omega : (0 : Int) ≤ 1000)
    have a2 := Int.mul_le_mul s1 h1 (by omega) (by omega : (0 : Int) ≤ s)
    omega
  have HRED := Lib.hid (fun v' W (h : ReadsW W v' (meshR N ws x)) => spec_reduced ((N : Int) - 1) e (s * wAt ws (x : Int)) v' (meshR N ws x) W h (hsr.bound (by omega)) hsm.1 (by omega) (by omega))
  have hmesh : meshO ws x (meshA ws x (wAt ws (x : Int)) ws.length) (nearK ws (x : Int) N) = meshR N ws x := rfl
  have hnear := fun W h => spec_near N (by omega) e s x (.slice p0 ws.length cap0) ws W h
  have hwat := fun W h => spec_wAt N e s x (.slice p0 ws.length cap0) ws W h
  have hlast := nearK_length ws (x : Int) N
  have hsorted := nearK_sorted ws (x : Int) N
  have hnm := fun b hb => nearK_mem (ws := ws) (v := (x : Int)) (k := N) (u := b) hb
  generalize meshR N ws x = MR at *
  generalize nearK ws (x : Int) N = L at *
  have HM0 := Lib.hid hmesh
  have HSRT := Lib.hid hsorted
  have HNE := Lib.hid hnear; have HWA := Lib.hid hwat; have HNM := Lib.hid hnm
  obtain ⟨n', e', s', out, bb, hR⟩ : ∃ n' e' s' out bb, redR ((N : Int) - 1) e (s * wAt ws (x : Int)) MR = (n', e', s', out, bb) := ⟨_, _, _, _, _, rfl⟩
  simp only [hR] at HRED
  rw [hR]
  generalize wAt ws (x : Int) = SM at *
  have HSM := Lib.hid hsm
  have hmw : IntKind.i64.wrap (s * SM) = s * SM := IntWalk.i64_in _ (by omega)
  have hmw2 : wrap64 (s * SM) = s * SM := by unfold wrap64; omega
  have HR := Lib.hid hr
  clear hr hV hsorted hnear hwat hnm hmesh hR hsr hsl
  obtain ⟨W0, hW0⟩ : ∃ W0, W0 = (w.alloc (.cells #[.int .i64 N, .int .i64 e, .int .i64 s, .slice p0 ws.length cap0] 25)).alloc (.cells #[.int .i64 0, .int .i64 0, .int .i64 0, .slice none 0 0] 25) := ⟨_, rfl⟩
  have hs0 : W0.heap.size = w.heap.size + 2 := by rw [hW0]; simp
  have HX : Hid (boxN W0 w.heap.size N e s (.slice p0 ws.length cap0)) := Lib.hid (by rw [hW0]; exact (boxN.new w N e s (.slice p0 ws.length cap0) 25).later (by (repeat (first | exact Below.refl _ _ | (refine Below.setCell ?_ (by (first | exact Nat.le_refl _ | omega | (simp <;> omega) | simp)) _) | (refine Below.alloc ?_ (by (first | exact Nat.le_refl _ | omega | (simp <;> omega) | simp)) _) | (refine below_draws ?_ _)))))
  have HZ : Hid (box4 W0 (w.heap.size + 1) (.int .i64 0) (.int .i64 0) (.int .i64 0) (.slice none 0 0)) := Lib.hid (by rw [hW0]; have h := box4.new (w.alloc (.cells #[.int .i64 N, .int .i64 e, .int .i64 s, .slice p0 ws.length cap0] 25)) (.int .i64 0) (.int .i64 0) (.int .i64 0) (.slice none 0 0) 25; simpa using h)
  have HB0 : Hid (Below w.heap.size w W0) := Lib.hid (by rw [hW0]; (repeat (first | exact Below.refl _ _ | (refine Below.setCell ?_ (by (first | exact Nat.le_refl _ | omega | (simp <;> omega) | simp)) _) | (refine Below.alloc ?_ (by (first | exact Nat.le_refl _ | omega | (simp <;> omega) | simp)) _) | (refine below_draws ?_ _))))
  obtain ⟨x0, x1, x2, x3⟩ := HX.out
  have HL := Lib.hid hlast; have HLEN := Lib.hid hlen
  clear hlast
  go_enter Try.func92, Try.ntmps92
  go_wp2_with fail
  rw [← hW0]
  clear hW0
  refine (HNE.out W0 (HR.out.later HB0.out)).mono ?_
  rintro en w1 ⟨v1, rfl, o1, B1⟩
  obtain ⟨x0, x1, x2, x3⟩ := HX.out.later B1
  have S1 := B1.size
  go_wp2_with fail
  refine (HWA.out w1 ((HR.out.later HB0.out).later B1)).mono ?_
  rintro en w2 ⟨rfl, B2⟩
  have S2 := B2.size
  have M2 : Hid (Below W0.heap.size W0 w2) := Lib.hid (B1.trans (B2.mono S1))
  have S2' : W0.heap.size ≤ w2.heap.size := M2.out.size
  have RL : Hid (ReadsI w2 v1 L) := Lib.hid (ReadsI.of_own (owns_later o1 B2))
  clear o1 B1 B2 x0 x1 x2 x3
  have HX2 := Lib.hid (HX.out.later M2.out)
  obtain ⟨x0, x1, x2, x3⟩ := HX2.out
  have hnw : w.heap.size ≠ w2.heap.size := by omega
  have q3 : (w2.alloc (.cells #[.int .i64 ((N : Int) - 1), .int .i64 e, .int .i64 (s * SM), .slice none 0 0] 25)).cell? ⟨w.heap.size, 3, none⟩ = some (.slice p0 ws.length cap0) := (World.cell?_alloc_old w2 _ ⟨w.heap.size, 3, none⟩ hnw).trans x3
  go_wp2
  go_loopw [34] (fun i wi => ∃ (k : Nat) (q : Option Addr) (c : Nat) (os : List W3), k ≤ ws.length ∧ i = .int .i64 k ∧ os.length ≤ k ∧ Hid (os = meshA ws x SM k) ∧ Hid (box4 wi w2.heap.size (.int .i64 ((N : Int) - 1)) (.int .i64 e) (.int .i64 (s * SM)) (.slice q os.length c)) ∧ Hid (wi.ownsRow (w2.heap.size + 1) 80 3 (.slice q os.length c) os.length (cellsW os)) ∧ w2.heap.size < wi.heap.size ∧ Hid (Below w2.heap.size w2 wi)) (fun i _ => ws.length - (intOf i).toNat)
  case atStart => exact ⟨0, none, 0, [], Nat.zero_le _, rfl, Nat.le_refl _, Lib.hid (meshA_zero _ _ _).symm, Lib.hid (box4.new _ _ _ _ _ _), Lib.hid (World.ownsRow_nil _ _ _ _), by simp, Lib.hid (by (repeat (first | exact Below.refl _ _ | (refine Below.setCell ?_ (by (first | exact Nat.le_refl _ | omega | (simp <;> omega) | simp)) _) | (refine Below.alloc ?_ (by (first | exact Nat.le_refl _ | omega | (simp <;> omega) | simp)) _) | (refine below_draws ?_ _))))⟩
  case round =>
    clear x0 x1 x2 x3 q3
    obtain ⟨k, q, c, os, hk, rfl, hol, hos, hx4, hown, hsz, hB⟩ := hrel
    obtain ⟨x0, x1, x2, x3⟩ := HX2.out.later hB.out
    by_cases hlt : k < ws.length
    · obtain ⟨g0, o, rfl, c0, c1, c2⟩ := HC.out k hlt
      have hg : g0 < w.heap.size := World.block_lt_of_cell? w _ c0
      have hBw : Hid (Below w.heap.size w wr) := Lib.hid (by have h0 := HB0.out; have h2 := M2.out; have hB := hB.out; exact h0.trans ((h2.mono h0.size).trans (hB.mono (by omega))))
      rw [← hBw.out.cell (p := ⟨g0, o + k * 3, none⟩) hg] at c0
      rw [← hBw.out.cell (p := ⟨g0, o + k * 3 + 1, none⟩) hg] at c1
      rw [← hBw.out.cell (p := ⟨g0, o + k * 3 + 2, none⟩) hg] at c2
      have hne : g0 ≠ wr.heap.size := by omega
      have hne2 : w2.heap.size ≠ wr.heap.size := by omega
      obtain ⟨v0, v1', v2, v3, v4⟩ := HW.out.1 k hlt
      by_cases hA : ws[k].1 = (x : Int)
      · have hAx : (ws[k].1 == (x : Int)) = true := by simpa using hA
        have HSN := Lib.hid (meshA_no (x := SM) hlt (fun h => h.1 hA))
        clear hA
        go_wp2
        all_goals
          refine ⟨⟨k + 1, q, c, os, by omega, by go_num, by omega, Lib.hid (by rw [HSN.out]; exact hos.out), Lib.hid (hx4.out.later (by (repeat (first | exact Below.refl _ _ | (refine Below.setCell ?_ (by (first | exact Nat.le_refl _ | omega | (simp <;> omega) | simp)) _) | (refine Below.alloc ?_ (by (first | exact Nat.le_refl _ | omega | (simp <;> omega) | simp)) _) | (refine below_draws ?_ _))))), Lib.hid (owns_later hown.out (by (repeat (first | exact Below.refl _ _ | (refine Below.setCell ?_ (by (first | exact Nat.le_refl _ | omega | (simp <;> omega) | simp)) _) | (refine Below.alloc ?_ (by (first | exact Nat.le_refl _ | omega | (simp <;> omega) | simp)) _) | (refine below_draws ?_ _))))), by simp; omega, Lib.hid (by have hB := hB.out; (repeat (first | exact Below.refl _ _ | (refine Below.setCell ?_ (by (first | exact Nat.le_refl _ | omega | (simp <;> omega) | simp)) _) | (refine Below.alloc ?_ (by (first | exact Nat.le_refl _ | omega | (simp <;> omega) | simp)) _) | (refine below_draws ?_ _) | exact hB | (refine Below.trans ?_ (Below.mono hB (by (first | exact Nat.le_refl _ | omega | (simp <;> omega) | simp)))))))⟩, ?_⟩
          simp [intOf]; omega
      have hAx : (ws[k].1 == (x : Int)) = false := by simpa using hA
      by_cases hE : ws[k].2.1 = (x : Int)
      · have hEx : (ws[k].2.1 == (x : Int)) = true := by simpa using hE
        have HSN := Lib.hid (meshA_no (x := SM) hlt (fun h => h.2 hE))
        clear hA hE
        go_wp2
        all_goals
          refine ⟨⟨k + 1, q, c, os, by omega, by go_num, by omega, Lib.hid (by rw [HSN.out]; exact hos.out), Lib.hid (hx4.out.later (by (repeat (first | exact Below.refl _ _ | (refine Below.setCell ?_ (by (first | exact Nat.le_refl _ | omega | (simp <;> omega) | simp)) _) | (refine Below.alloc ?_ (by (first | exact Nat.le_refl _ | omega | (simp <;> omega) | simp)) _) | (refine below_draws ?_ _))))), Lib.hid (owns_later hown.out (by (repeat (first | exact Below.refl _ _ | (refine Below.setCell ?_ (by (first | exact Nat.le_refl _ | omega | (simp <;> omega) | simp)) _) | (refine Below.alloc ?_ (by (first | exact Nat.le_refl _ | omega | (simp <;> omega) | simp)) _) | (refine below_draws ?_ _))))), by simp; omega, Lib.hid (by have hB := hB.out; (repeat (first | exact Below.refl _ _ | (refine Below.setCell ?_ (by (first | exact Nat.le_refl _ | omega | (simp <;> omega) | simp)) _) | (refine Below.alloc ?_ (by (first | exact Nat.le_refl _ | omega | (simp <;> omega) | simp)) _) | (refine below_draws ?_ _) | exact hB | (refine Below.trans ?_ (Below.mono hB (by (first | exact Nat.le_refl _ | omega | (simp <;> omega) | simp)))))))⟩, ?_⟩
          simp [intOf]; omega
      have hEx : (ws[k].2.1 == (x : Int)) = false := by simpa using hE
      have HSN := Lib.hid (meshA_yes (x := SM) hlt ⟨hA, hE⟩)
      have Xa := (hx4.out.alloc (.cells #[.int .i64 ws[k].1, .int .i64 ws[k].2.1, .int .i64 ws[k].2.2] 80)).drew
      have HXA := Lib.hid Xa
      obtain ⟨b0, b1, b2, b3, -⟩ := Xa
      have hlti := idx_lt (a := ws[k].1.toNat) (b := ws[k].2.1.toNat) (v := x) (by omega) (by omega) (by omega)
      have HE : Hid (Ends ((idx ws[k].1.toNat x : Nat) : Int) ((idx ws[k].2.1.toNat x : Nat) : Int) ((idx ws[k].1.toNat x : Nat) : Int) ((idx ws[k].2.1.toNat x : Nat) : Int)) := Lib.hid (.inl ⟨by omega, by omega, rfl, rfl⟩)
      have HCA := Lib.hid (fun W => idx_call ws[k].1.toNat x (by omega) W)
      have HCE := Lib.hid (fun W => idx_call ws[k].2.1.toNat x (by omega) W)
      rw [show ((ws[k].1.toNat : Nat) : Int) = ws[k].1 by omega] at HCA
      rw [show ((ws[k].2.1.toNat : Nat) : Int) = ws[k].2.1 by omega] at HCE
      generalize idx ws[k].1.toNat x = IA at *
      generalize idx ws[k].2.1.toNat x = IE at *
      have hm0 : 0 ≤ ws[k].2.2 * SM := Int.mul_nonneg (by omega) (by omega)
      have hm1 : ws[k].2.2 * SM ≤ 160000 := by
        have h := Int.mul_le_mul v4 hwa.2 hwa.1 (by omega : (0 : Int) ≤ 200)
        omega
      have hmk : IntKind.i64.wrap (ws[k].2.2 * SM) = ws[k].2.2 * SM := IntWalk.i64_in _ (by omega)
      have hmk2 : wrap64 (ws[k].2.2 * SM) = ws[k].2.2 * SM := by unfold wrap64; omega
      have hpl := put3_len os IA IE (ws[k].2.2 * SM) true
      obtain ⟨wq, hwq⟩ : ∃ wq, wq = (wr.alloc (.cells #[.int .i64 ws[k].1, .int .i64 ws[k].2.1, .int .i64 ws[k].2.2] 80)).drew := ⟨_, rfl⟩
      have q0 : wq.cell? ⟨wr.heap.size, 0, none⟩ = some (.int .i64 ws[k].1) := by rw [hwq]; simp [go_sem]
      have q1' : wq.cell? ⟨wr.heap.size, 1, none⟩ = some (.int .i64 ws[k].2.1) := by rw [hwq]; simp [go_sem]
      have q2 : wq.cell? ⟨wr.heap.size, 2, none⟩ = some (.int .i64 ws[k].2.2) := by rw [hwq]; simp [go_sem]
      rw [← hwq] at b0 b1 b2 b3 HXA
      have hBq : Below wr.heap.size wr wq := by rw [hwq]; (repeat (first | exact Below.refl _ _ | (refine Below.setCell ?_ (by (first | exact Nat.le_refl _ | omega | (simp <;> omega) | simp)) _) | (refine Below.alloc ?_ (by (first | exact Nat.le_refl _ | omega | (simp <;> omega) | simp)) _) | (refine below_draws ?_ _)))
      have hsq : wq.heap.size = wr.heap.size + 1 := by rw [hwq]; simp
      clear hx4 hlti hm0 hm1 x0 x1 x2 x3
      go_wp2
      refine wp_region_still_tail 14 (by kernel_rfl) (by kernel_rfl) ?_
      simp only [List.take_succ_cons, List.take_zero, List.drop_succ_cons, List.drop_zero]
      change wpStill _ _ (World.drew _) (fun a' => wpList _ _ _ _ a' (World.drew _)) _ _
      rw [← hwq]
      clear hwq c0 c1 c2
      repeat still_step
      still_call ((HCA.out _).mono (fun e w' h => ⟨h.1, h.2.symm⟩))
      repeat still_step
      still_call ((HCE.out _).mono (fun e w' h => ⟨h.1, h.2.symm⟩))
      repeat still_step
      refine wpStill_nil ?_
      go_wp2_with fail
      refine (spec_put3 _ _ IA IE _ true HE.out _ os _ (ReadsW.of_own (owns_later hown.out hBq)) (by omega)).mono ?_
      rintro en w3 ⟨p2, c2, rfl, o2, B2⟩
      have Xb := box4.later HXA.out B2
      have HXB := Lib.hid Xb
      obtain ⟨d0, d1, d2, d3, e0, e1', e2', e3, -⟩ := Xb
      have S3 := B2.size
      have o3 : w3.ownsRow (wr.heap.size + 1) 80 3 (.slice p2 (put3 os IA IE (ws[k].2.2 * SM) true).length c2) (put3 os IA IE (ws[k].2.2 * SM) true).length (cellsW (put3 os IA IE (ws[k].2.2 * SM) true)) := by rw [← hsq]; exact o2
      clear b0 b1 b2 b3
      go_wp2
      go_roundw
      case rel => exact ⟨k + 1, p2, c2, put3 os IA IE (ws[k].2.2 * SM) true, by omega, by go_num, by omega, Lib.hid (by rw [HSN.out, ← hos.out]), Lib.hid HXB.out.set3, Lib.hid (by refine owns_mono (base := wr.heap.size + 1) ?_ (by omega); ((repeat (refine ownsRow_setCell_below ?_ ?_ _; rotate_left; focus (first | omega | (simp; done) | (simp; omega)))); with_reducible exact o3)), by simp; omega, Lib.hid (by have hB := hB.out; (repeat (first | exact Below.refl _ _ | (refine Below.setCell ?_ (by (first | exact Nat.le_refl _ | omega | (simp <;> omega) | simp)) _) | (refine Below.alloc ?_ (by (first | exact Nat.le_refl _ | omega | (simp <;> omega) | simp)) _) | (refine below_draws ?_ _) | exact hB | (refine Below.trans ?_ (Below.mono hB (by (first | exact Nat.le_refl _ | omega | (simp <;> omega) | simp)))) | exact hBq | (refine Below.trans ?_ (Below.mono hBq (by (first | exact Nat.le_refl _ | omega | (simp <;> omega) | simp)))) | exact B2 | (refine Below.trans ?_ (Below.mono B2 (by (first | exact Nat.le_refl _ | omega | (simp <;> omega) | simp)))))))⟩
      case measure => simp [intOf]; omega
    · obtain rfl : k = ws.length := by omega
      obtain ⟨pl, cl, rfl, hcl1, hcl2⟩ := RL.out.shape
      have HRL := RL
      have HO : Hid (meshO ws x os (L.drop 0) = MR) := Lib.hid (by rw [List.drop_zero, hos.out]; exact HM0.out)
      rename World => wp
      clear hos
      go_wp2
      go_loopw [67] (fun i wi => ∃ (k : Nat) (q : Option Addr) (c : Nat) (os : List W3), k ≤ L.length ∧ i = .int .i64 k ∧ os.length ≤ 25 + 5 * k ∧ Hid (meshO ws x os (L.drop k) = MR) ∧ Hid (box4 wi w2.heap.size (.int .i64 ((N : Int) - 1)) (.int .i64 e) (.int .i64 (s * SM)) (.slice q os.length c)) ∧ Hid (wi.ownsRow (w2.heap.size + 1) 80 3 (.slice q os.length c) os.length (cellsW os)) ∧ w2.heap.size < wi.heap.size ∧ Hid (Below w2.heap.size w2 wi)) (fun i _ => L.length - (intOf i).toNat)
      case atStart => exact ⟨0, q, c, os, Nat.zero_le _, rfl, by omega, HO, hx4, hown, hsz, hB⟩
      case round =>
        clear x0 x1 x2 x3 HO hx4 hown hsz hB hol q c os
        obtain ⟨k, q, c, os, hk, rfl, hol, hos, hx4, hown, hsz, hB⟩ := hrel
        obtain ⟨x0, x1, x2, x3⟩ := HX2.out.later hB.out
        have RLr := RL.out.later hB.out
        by_cases hlt : k < L.length
        · obtain ⟨gl, ol, cl', hpe, hc1, hc2, hgl, hcell⟩ := RLr.pos (by omega)
          simp only [Value.slice.injEq, true_and] at hpe
          obtain ⟨rfl, rfl⟩ := hpe
          have ca := hcell k hlt
          have hna := HNM.out L[k] (List.getElem_mem hlt)
          have HMO := Lib.hid (meshO_drop (ws := ws) (v := x) (acc := os) hlt)
          have hLN := HL.out
          by_cases hlast : k + 1 = L.length
          · have HO' : Hid (meshO ws x os (L.drop (k + 1)) = MR) := Lib.hid (by
              have h1 := hos.out
              rw [HMO.out, List.drop_eq_nil_of_le (by omega)] at h1
              rw [List.drop_eq_nil_of_le (by omega)]
              exact h1)
            have hk64 : (k : Int) + 1 = L.length := by omega
            clear hcell RLr HMO
            by_cases hcl : cl = k + 1
            all_goals
              go_wp2
              refine wp_loop_rounds 1 ?_
              rw [rounds_succ]
              go_wp2
              refine ⟨⟨k + 1, q, c, os, by omega, by go_num, by omega, HO', hx4, hown, hsz, hB⟩, ?_⟩
              simp [intOf]; omega
          · have hcl : ¬ cl = k + 1 := by omega
            have HRD : Hid (ReadsI wr (.slice (some ⟨gl, ol + (k + 1), none⟩) (L.length - (k + 1)) (cl - (k + 1))) (L.drop (k + 1))) := Lib.hid (RLr.drop (k + 1) (by omega))
            have HRD2 : Hid (ReadsI w2 (.slice (some ⟨gl, ol + (k + 1), none⟩) (L.length - (k + 1)) (cl - (k + 1))) (L.drop (k + 1))) := Lib.hid (RL.out.drop (k + 1) (by omega))
            have HSRD := Lib.hid (fun (j : Nat) (hj : j < (L.drop (k + 1)).length) => (show L[k] < (L.drop (k + 1))[j] by
              rw [List.getElem_drop]
              exact List.pairwise_iff_getElem.1 HSRT.out k (k + 1 + j) hlt (by rw [List.length_drop] at hj; omega) (by omega)))
            have HDM := Lib.hid (fun (j : Nat) (hj : j < (L.drop (k + 1)).length) => HNM.out _ (List.mem_of_mem_drop (List.getElem_mem hj)))
            have hdl : (L.drop (k + 1)).length = L.length - (k + 1) := List.length_drop
            have hk5 : L.length ≤ 5 := by omega
            clear hcell RLr HRD
            have hDD := hos.out
            rw [HMO.out] at hDD
            generalize hDe : L.drop (k + 1) = D at *
            have HDE := Lib.hid hDe; clear hDe
            obtain ⟨A, hAe⟩ : ∃ A, A = L[k] := ⟨_, rfl⟩
            rw [← hAe] at ca hna hDD HSRD
            have HDD := Lib.hid hDD; clear hDD HMO
            obtain ⟨hna0, hna1, hna2⟩ := hna
            have hAx : A ≠ (x : Int) := fun e => by rw [e, wBtw_self] at hna2; omega
            have HCA := Lib.hid (fun W => idx_call A.toNat x (by omega) W)
            rw [show ((A.toNat : Nat) : Int) = A by omega] at HCA
            have HAE := Lib.hid hAe; clear hAe
            obtain ⟨wo, hwo⟩ : ∃ wo, wo = wr := ⟨_, rfl⟩
            subst hwo
            go_wp2
            go_loopw [77] (fun jv wi => ∃ (j : Nat) (q : Option Addr) (c : Nat) (os' : List W3), j ≤ D.length ∧ jv = .int .i64 j ∧ os'.length ≤ os.length + j ∧ Hid (os' = meshI ws x A os (D.take j)) ∧ Hid (box4 wi w2.heap.size (.int .i64 ((N : Int) - 1)) (.int .i64 e) (.int .i64 (s * SM)) (.slice q os'.length c)) ∧ Hid (wi.ownsRow (w2.heap.size + 1) 80 3 (.slice q os'.length c) os'.length (cellsW os')) ∧ w2.heap.size < wi.heap.size ∧ Hid (Below w2.heap.size w2 wi)) (fun jv _ => D.length - (intOf jv).toNat)
            case atStart => exact ⟨0, q, c, os, Nat.zero_le _, rfl, Nat.le_refl _, Lib.hid rfl, hx4, hown, hsz, hB⟩
            case round =>
              clear x0 x1 x2 x3 hx4 hown hsz hB ca
              obtain ⟨j, q', c', os', hj, rfl, hol', hos', hx4, hown, hsz, hB⟩ := hrel
              obtain ⟨x0, x1, x2, x3⟩ := HX2.out.later hB.out
              by_cases hjl : j < D.length
              · have cb := (HRD2.out.later hB.out).at j hjl
                obtain ⟨hb0, hb1, hb2⟩ := HDM.out j hjl
                have hab := HSRD.out j hjl
                have HSN := Lib.hid (meshI_take (ws := ws) (v := x) (a := A) (acc := os) hjl)
                generalize D[j] = Bv at *
                have hBx : Bv ≠ (x : Int) := fun e => by rw [e, wBtw_self] at hb2; omega
                have HCE := Lib.hid (fun W => idx_call Bv.toNat x (by omega) W)
                rw [show ((Bv.toNat : Nat) : Int) = Bv by omega] at HCE
                have hlti := idx_lt (a := A.toNat) (b := Bv.toNat) (v := x) (by omega) (by omega) (by omega)
                have wa := wBtw_le HW.out (x : Int) A
                have wb := wBtw_le HW.out (x : Int) Bv
                have hm0 : 0 ≤ wBtw ws (x : Int) A * wBtw ws (x : Int) Bv := Int.mul_nonneg wa.1 wb.1
                have hm1 : wBtw ws (x : Int) A * wBtw ws (x : Int) Bv ≤ 40000 := by
                  have h := Int.mul_le_mul wa.2 wb.2 wb.1 (by omega : (0 : Int) ≤ 200)
                  omega
                have HWB1 := Lib.hid (fun W h => spec_wBtw N e s x A (.slice p0 ws.length cap0) ws W h)
                have HWB2 := Lib.hid (fun W h => spec_wBtw N e s x Bv (.slice p0 ws.length cap0) ws W h)
                have HRw := Lib.hid ((HR.out.later HB0.out).later (M2.out.trans (hB.out.mono S2')))
                generalize wBtw ws (x : Int) A = WA1 at *
                generalize wBtw ws (x : Int) Bv = WB1 at *
                have hmk : IntKind.i64.wrap (WA1 * WB1) = WA1 * WB1 := IntWalk.i64_in _ (by omega)
                have hmk2 : wrap64 (WA1 * WB1) = WA1 * WB1 := by unfold wrap64; omega
                have HE : Hid (Ends ((idx A.toNat x : Nat) : Int) ((idx Bv.toNat x : Nat) : Int) ((idx A.toNat x : Nat) : Int) ((idx Bv.toNat x : Nat) : Int)) := Lib.hid (.inl ⟨by omega, by omega, rfl, rfl⟩)
                generalize idx A.toNat x = IA at *
                generalize idx Bv.toNat x = IB at *
                have hpl := put3_len os' IA IB (WA1 * WB1) true
                obtain ⟨z0, -, -, z3, -⟩ := id hx4.out
                have hS0 : wr.cell? ⟨w2.heap.size, 3, none⟩ = some (.slice q' os'.length c') ∧ wr.cell? ⟨w2.heap.size, 0, none⟩ = some (.int .i64 ((N : Int) - 1)) ∧ wr.cell? ⟨w.heap.size, 0, none⟩ = some (.int .i64 N) ∧ wr.cell? ⟨w.heap.size, 1, none⟩ = some (.int .i64 e) ∧ wr.cell? ⟨w.heap.size, 2, none⟩ = some (.int .i64 s) ∧ wr.cell? ⟨w.heap.size, 3, none⟩ = some (.slice p0 ws.length cap0) ∧ wr.heap.size ≤ wr.heap.size ∧ wr.heap.size ≤ wr.heap.size ∧ Below wr.heap.size wr wr := ⟨z3, z0, x0, x1, x2, x3, Nat.le_refl _, Nat.le_refl _, Below.refl _ _⟩
                replace hS0 := k6_drew hS0
                clear z0 z3 x0 x1 x2 x3 hm0 hm1 hlti wa wb
                go_wp2
                refine wp_region_F 17 (fun w' => w'.cell? ⟨w2.heap.size, 3, none⟩ = some (.slice q' os'.length c') ∧ w'.cell? ⟨w2.heap.size, 0, none⟩ = some (.int .i64 ((N : Int) - 1)) ∧ w'.cell? ⟨w.heap.size, 0, none⟩ = some (.int .i64 N) ∧ w'.cell? ⟨w.heap.size, 1, none⟩ = some (.int .i64 e) ∧ w'.cell? ⟨w.heap.size, 2, none⟩ = some (.int .i64 s) ∧ w'.cell? ⟨w.heap.size, 3, none⟩ = some (.slice p0 ws.length cap0) ∧ wr.heap.size ≤ w'.heap.size ∧ wr.heap.size ≤ wr.heap.size ∧ Below wr.heap.size wr w') (by kernel_rfl) hS0 ?_
                clear hS0
                intro hS
                refine takeF_on (i := 0) (d := some 81) (v := .pointer (some ⟨w2.heap.size, 3, none⟩)) rfl rfl (by kernel_rfl) (fun _ _ _ h => h) (by rfl) (by (intro w hSw; (try dsimp only at hSw); go_simp)) (by assumption) ?_
                try simp only [Act.put, List.setIfInBounds_toArray, List.set_cons_zero, List.set_cons_succ]
                refine takeF_on (i := 1) (d := some 82) (v := .slice q' os'.length c') rfl rfl (by kernel_rfl) (fun _ _ _ h => h) (by rfl) (by (intro w hSw; (try dsimp only at hSw); go_simp)) (by assumption) ?_
                try simp only [Act.put, List.setIfInBounds_toArray, List.set_cons_zero, List.set_cons_succ]
                refine takeF_on (i := 2) (d := some 83) (v := .int .i64 A) rfl rfl (by kernel_rfl) (fun _ _ _ h => h) (by rfl) (by (intro w hSw; (try dsimp only at hSw); go_simp)) (by assumption) ?_
                try simp only [Act.put, List.setIfInBounds_toArray, List.set_cons_zero, List.set_cons_succ]
                refine takeF_on (i := 3) (d := some 84) (v := .int .i64 x) rfl rfl (by kernel_rfl) (fun _ _ _ h => h) (by rfl) (by (intro w hSw; (try dsimp only at hSw); go_simp)) (by assumption) ?_
                try simp only [Act.put, List.setIfInBounds_toArray, List.set_cons_zero, List.set_cons_succ]
                refine takeF_on (i := 5) (d := some 86) (v := .int .i64 Bv) rfl rfl (by kernel_rfl) (fun _ _ _ h => h) (by rfl) (by (intro w hSw; (try dsimp only at hSw); go_simp)) (by assumption) ?_
                try simp only [Act.put, List.setIfInBounds_toArray, List.set_cons_zero, List.set_cons_succ]
                refine takeF_on (i := 6) (d := some 87) (v := .int .i64 x) rfl rfl (by kernel_rfl) (fun _ _ _ h => h) (by rfl) (by (intro w hSw; (try dsimp only at hSw); go_simp)) (by assumption) ?_
                try simp only [Act.put, List.setIfInBounds_toArray, List.set_cons_zero, List.set_cons_succ]
                refine takeF_on (i := 8) (d := some 89) (v := .agg #[.int .i64 N, .int .i64 e, .int .i64 s, .slice p0 ws.length cap0]) rfl rfl (by kernel_rfl) (fun _ _ _ h => h) (by rfl) (by (intro w hSw; (try dsimp only at hSw); go_simp)) (by assumption) ?_
                try simp only [Act.put, List.setIfInBounds_toArray, List.set_cons_zero, List.set_cons_succ]
                refine takeF_on (i := 9) (d := some 90) (v := .int .i64 x) rfl rfl (by kernel_rfl) (fun _ _ _ h => h) (by rfl) (by (intro w hSw; (try dsimp only at hSw); go_simp)) (by assumption) ?_
                try simp only [Act.put, List.setIfInBounds_toArray, List.set_cons_zero, List.set_cons_succ]
                refine takeF_on (i := 10) (d := some 91) (v := .int .i64 A) rfl rfl (by kernel_rfl) (fun _ _ _ h => h) (by rfl) (by (intro w hSw; (try dsimp only at hSw); go_simp)) (by assumption) ?_
                try simp only [Act.put, List.setIfInBounds_toArray, List.set_cons_zero, List.set_cons_succ]
                refine takeF_on (i := 12) (d := some 93) (v := .agg #[.int .i64 N, .int .i64 e, .int .i64 s, .slice p0 ws.length cap0]) rfl rfl (by kernel_rfl) (fun _ _ _ h => h) (by rfl) (by (intro w hSw; (try dsimp only at hSw); go_simp)) (by assumption) ?_
                try simp only [Act.put, List.setIfInBounds_toArray, List.set_cons_zero, List.set_cons_succ]
                refine takeF_on (i := 13) (d := some 94) (v := .int .i64 x) rfl rfl (by kernel_rfl) (fun _ _ _ h => h) (by rfl) (by (intro w hSw; (try dsimp only at hSw); go_simp)) (by assumption) ?_
                try simp only [Act.put, List.setIfInBounds_toArray, List.set_cons_zero, List.set_cons_succ]
                refine takeF_on (i := 14) (d := some 95) (v := .int .i64 Bv) rfl rfl (by kernel_rfl) (fun _ _ _ h => h) (by rfl) (by (intro w hSw; (try dsimp only at hSw); go_simp)) (by assumption) ?_
                try simp only [Act.put, List.setIfInBounds_toArray, List.set_cons_zero, List.set_cons_succ]
                refine wpAnyF_ready (rs := [4]) (by kernel_rfl) (by simp) ?_
                refine AllReadyF.cons rfl (fun K hK => ?_) AllReadyF.nil
                go_simp
                with_reducible refine Calls.mono (HCA.out _) ?_
                rintro en wb ⟨rfl, rfl⟩
                go_wp2_with fail
                refine hK.out _ _ hS (fun hHeld => ?_)
                clear hK K hHeld
                try simp only [Act.put, List.setIfInBounds_toArray, List.set_cons_zero, List.set_cons_succ]
                refine wpAnyF_ready (rs := [7]) (by kernel_rfl) (by simp) ?_
                refine AllReadyF.cons rfl (fun K hK => ?_) AllReadyF.nil
                go_simp
                with_reducible refine Calls.mono (HCE.out _) ?_
                rintro en wb ⟨rfl, rfl⟩
                go_wp2_with fail
                refine hK.out _ _ hS (fun hHeld => ?_)
                clear hK K hHeld
                try simp only [Act.put, List.setIfInBounds_toArray, List.set_cons_zero, List.set_cons_succ]
                refine wpAnyF_ready (rs := [11]) (by kernel_rfl) (by simp) ?_
                refine AllReadyF.cons rfl (fun K hK => ?_) AllReadyF.nil
                go_simp
                with_reducible refine Calls.mono (HWB1.out _ (HRw.out.later (by have h := hS.2.2.2.2.2.2.2.2; exact h))) ?_
                rintro en wb ⟨rfl, Bb⟩
                replace hS := k6_keep Bb hS
                clear Bb
                go_wp2_with fail
                refine hK.out _ _ hS (fun hHeld => ?_)
                clear hK K hHeld
                try simp only [Act.put, List.setIfInBounds_toArray, List.set_cons_zero, List.set_cons_succ]
                refine wpAnyF_ready (rs := [15]) (by kernel_rfl) (by simp) ?_
                refine AllReadyF.cons rfl (fun K hK => ?_) AllReadyF.nil
                go_simp
                with_reducible refine Calls.mono (HWB2.out _ (HRw.out.later (by have h := hS.2.2.2.2.2.2.2.2; exact h))) ?_
                rintro en wc ⟨rfl, Bc⟩
                replace hS := k6_keep Bc hS
                clear Bc
                go_wp2_with fail
                refine hK.out _ _ hS (fun hHeld => ?_)
                clear hK K hHeld
                try simp only [Act.put, List.setIfInBounds_toArray, List.set_cons_zero, List.set_cons_succ]
                refine takeF_on (i := 16) (d := some 97) (v := .int .i64 (WA1 * WB1)) rfl rfl (by kernel_rfl) (fun _ _ _ h => h) (by rfl) (by (intro w hSw; (try dsimp only at hSw); go_simp)) (by assumption) ?_
                try simp only [Act.put, List.setIfInBounds_toArray, List.set_cons_zero, List.set_cons_succ]
                refine wpAnyF_ready (rs := [17]) (by kernel_rfl) (by simp) ?_
                refine AllReadyF.last rfl (by decide) (fun K hK => ?_) AllReadyF.nil
                go_simp
                have hBc := hS.2.2.2.2.2.2.2.2
                have hsc := hS.2.2.2.2.2.2.1
                have hBcr : Below wr.heap.size wr wc := hBc
                with_reducible refine Calls.mono (spec_put3 _ _ IA IB _ true HE.out _ os' _ (ReadsW.of_own (owns_later hown.out hBcr)) (by omega)) ?_
                rintro en wd ⟨pd, cd, rfl, od, Bd⟩
                have Xd := (hx4.out.later hBcr).later Bd
                have HXd := Lib.hid Xd
                have Sd := Bd.size
                obtain ⟨d0, d1, d2, d3, e0, e1', e2', e3, -⟩ := Xd
                clear hS hBc
                go_wp2_with fail
                refine hK.out _ _ ?_
                clear hK K
                try simp only [Act.put, List.setIfInBounds_toArray, List.set_cons_zero, List.set_cons_succ]
                refine wpAnyF_ready (rs := [18]) (by kernel_rfl) (by simp) ?_
                refine AllReadyF.last rfl (by decide) (fun K hK => ?_) AllReadyF.nil
                go_simp
                refine hK.out _ _ ?_
                clear hK K
                try simp only [Act.put, List.setIfInBounds_toArray, List.set_cons_zero, List.set_cons_succ]
                refine wpAnyF_ready (rs := [19]) (by kernel_rfl) (by simp) ?_
                refine AllReadyF.last rfl (by decide) (fun K hK => ?_) AllReadyF.nil
                go_simp
                refine hK.out _ _ ?_
                clear hK K
                try simp only [Act.put, List.setIfInBounds_toArray, List.set_cons_zero, List.set_cons_succ]
                refine wpAnyF_done (by kernel_rfl) ?_
                go_wp2
                go_roundw
                case rel => exact ⟨j + 1, pd, cd, put3 os' IA IB (WA1 * WB1) true, by omega, by go_num, by omega, Lib.hid (by rw [HSN.out, ← hos'.out]), Lib.hid HXd.out.set3, Lib.hid (by refine owns_mono (base := wc.heap.size) ?_ (by omega); ((repeat (refine ownsRow_setCell_below ?_ ?_ _; rotate_left; focus (first | omega | (simp; done) | (simp; omega)))); with_reducible exact od)), by simp; omega, Lib.hid (by have hB := hB.out; (repeat (first | exact Below.refl _ _ | (refine Below.setCell ?_ (by (first | exact Nat.le_refl _ | omega | (simp <;> omega) | simp)) _) | (refine Below.alloc ?_ (by (first | exact Nat.le_refl _ | omega | (simp <;> omega) | simp)) _) | (refine below_draws ?_ _) | exact hB | (refine Below.trans ?_ (Below.mono hB (by (first | exact Nat.le_refl _ | omega | (simp <;> omega) | simp)))) | exact hBcr | (refine Below.trans ?_ (Below.mono hBcr (by (first | exact Nat.le_refl _ | omega | (simp <;> omega) | simp)))) | exact Bd | (refine Below.trans ?_ (Below.mono Bd (by (first | exact Nat.le_refl _ | omega | (simp <;> omega) | simp)))))))⟩
                case measure => simp [intOf]; omega
              · obtain rfl : j = D.length := by omega
                have HOO : Hid (meshO ws x os' D = MR) := Lib.hid (by
                  rw [hos'.out, List.take_length]
                  exact HDD.out)
                clear hos'
                go_wp2
                go_roundw
                case rel => exact ⟨k + 1, q', c', os', by omega, by go_num, by omega, Lib.hid (by rw [HDE.out]; exact HOO.out), hx4, hown, hsz, hB⟩
                case measure => simp [intOf]; omega
        · obtain rfl : k = L.length := by omega
          have HOE : Hid (os = MR) := Lib.hid (by have h := hos.out; rw [List.drop_eq_nil_of_le (Nat.le_refl _)] at h; exact h)
          obtain rfl := HOE.out
          obtain ⟨b0, b1, b2, b3, -⟩ := id hx4.out
          have HZ2 := Lib.hid ((HZ.out.later (show Below W0.heap.size W0 wr from M2.out.trans (hB.out.mono S2'))))
          have hBw : Hid (Below w.heap.size w wr) := Lib.hid (by have h0 := HB0.out; have h2 := M2.out; have hB := hB.out; exact h0.trans ((h2.mono h0.size).trans (hB.mono (by omega))))
          have hszw := hBw.out.size
          clear hos HOE hx4
          go_wp2_with fail
          refine (HRED.out _ _ (ReadsW.of_own hown.out)).mono ?_
          rintro en w9 ⟨p9, c9, rfl, o9, B9⟩
          obtain ⟨z0, z1, z2, z3, f0, f1, f2, f3, -⟩ := HZ2.out.later B9
          have HO9 := Lib.hid o9
          have S9 := B9.size
          clear b0 b1 b2 b3 o9 x0 x1 x2 x3
          go_wp2
          exact bodyPost_ret (v := .tuple #[.agg #[.int .i64 n', .int .i64 e', .int .i64 s', .slice p9 out.length c9], .bool bb]) (by simp (maxDischargeDepth := 8) [results, Try.results92, go_sem, *]) rfl ⟨p9, c9, rfl, by refine owns_mono (base := wr.heap.size) ?_ (by omega); have o9 := HO9.out; ((repeat (refine ownsRow_setCell_below ?_ ?_ _; rotate_left; focus (first | omega | (simp; done) | (simp; omega)))); with_reducible exact o9), by have hBw := hBw.out; (repeat (first | exact Below.refl _ _ | (refine Below.setCell ?_ (by (first | exact Nat.le_refl _ | omega | (simp <;> omega) | simp)) _) | (refine Below.alloc ?_ (by (first | exact Nat.le_refl _ | omega | (simp <;> omega) | simp)) _) | (refine below_draws ?_ _) | exact hBw | (refine Below.trans ?_ (Below.mono hBw (by (first | exact Nat.le_refl _ | omega | (simp <;> omega) | simp)))) | exact B9 | (refine Below.trans ?_ (Below.mono B9 (by (first | exact Nat.le_refl _ | omega | (simp <;> omega) | simp))))))⟩

end Go.Proofs.Ytpkddaapffamiaa
