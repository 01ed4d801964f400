/-
  withoutNode in the program.
-/
import Derived.Test.YtfpalnmblmjgjaaDropFacts
namespace Go.Proofs.Ytfpalnmblmjgjaa
open Go.RowKit Go.Maps

set_option maxRecDepth 8000 in
set_option maxHeartbeats 12800000 in
theorem impl_withoutNode (N : Nat) (e s : Int) (X : Nat) (v : Value) (ws : List W3) (w : World) (hr : ReadsW w v ws) (hOk : DropOk N e s X ws) :
    Calls Try.prog 86 #[.agg #[.int .i64 N, .int .i64 e, .int .i64 s, v], .int .i64 X] w (AnsN w (redR ((N : Int) - 1) e (s * wAt ws (X : Int)) (meshR N ws X))) := by
  obtain ⟨hb, hx1, hx2, hl1, hl2⟩ := hOk
  rw [Int.toNat_natCast] at hl1 hl2
  have hV := netB_iff.1 hb
  have n5 := hV.1.2.1
  have e1 := hV.1.2.2.1
  have e2 := hV.1.2.2.2.1
  have s1 := hV.1.2.2.2.2.1
  have s2 := hV.1.2.2.2.2.2
  have hlen := wiresV_len hV.2.1 n5
  have hwa := wAt_le hV.2.1 n5 (X : Int) (by omega) (by omega)
  have hwp := wAt_pos hV.2.1 (by omega) X (by omega) hl1
  have HW := Lib.hid hV.2.1
  obtain ⟨p0, cap0, rfl⟩ := hr.shape
  have HC := Lib.hid (reads_at hr)
  obtain ⟨hsr, hsl⟩ := meshR_srt (v := X) hV.2.1 (by omega) (by omega) hlen
  have hsm : 1 ≤ s * wAt ws (X : Int) ∧ s * wAt ws (X : Int) ≤ 800000 := by
    have a1 := Int.mul_le_mul s2 hwa.2 hwa.1 (by omega : (0 : Int) ≤ 1000)
    have a2 := Int.mul_le_mul s1 hwp (by omega) (by omega : (0 : Int) ≤ s)
    omega
  rw [redR_with (mesh_drop hV.2.1 (by omega) X (by omega) hl2 hwp)]
  have hDIV := fun v' W (h : ReadsW W v' (meshR N ws X)) => impl_divided ((N : Int) - 1) e (s * wAt ws (X : Int)) v' (meshR N ws X) W h (hsr.bound (by omega)) hsm.1 (by omega) (by omega)
  have hLen2 : ((meshR N ws X).map (divW (gAll (s * wAt ws (X : Int)) (meshR N ws X)))).length = (meshR N ws X).length := by simp
  obtain ⟨hML, hMW⟩ := moved_lists hV.2.1 (by omega) X (by omega) hl2
  have hHM := fun t ht => held_mem hV.2.1 (by omega) X (by omega) hl2 (e := t) ht
  have hHO := held_off (ws := ws) (v := (X : Int)) (x := wAt ws (X : Int)) (l := nearK ws (X : Int) N) near_ne
  have hHL := held_len (ws := ws) (v := (X : Int)) (x := wAt ws (X : Int)) (l := nearK ws (X : Int) N)
  have hEND : (nearK ws (X : Int) N).length = 1 → Lists (fAll (stayW ws (X : Int) (wAt ws (X : Int)))) (heldW ws (X : Int) (wAt ws (X : Int)) (nearK ws (X : Int) N)) := fun h => by
    generalize nearK ws (X : Int) N = l at *
    match l, h with
    | [y], _ => exact lists_put2 (stay_sorted _ _ (pairW hV.2.1))
  have hEND2 := fun (y z : Int) (h : nearK ws (X : Int) N = [y, z]) => held_lists hV.2.1 (by omega) X h
  have hwnE : wnR N e s X ws = nearK ws (X : Int) N := by rw [wnR_yes hb ⟨by omega, hx2⟩, Int.toNat_natCast]
  have hWN := fun W h => impl_wiresAt N e s X (.slice p0 ws.length cap0) ws W h
  have hWA := fun W h => impl_wAt N e s X (.slice p0 ws.length cap0) ws W h
  rw [hwnE] at hWN
  have hnm := fun b hb => nearK_mem (ws := ws) (v := (X : Int)) (k := N) (u := b) hb
  have hsorted := nearK_sorted ws (X : Int) N
  generalize heldW ws (X : Int) (wAt ws (X : Int)) (nearK ws (X : Int) N) = HE at *
  generalize nearK ws (X : Int) N = L at *
  generalize meshR N ws X = MR at *
  obtain ⟨n', e', s', out, bb, hR⟩ : ∃ n' e' s' out bb, withR ((N : Int) - 1) e ((s * wAt ws (X : Int)).tdiv (gAll (s * wAt ws (X : Int)) MR)) (MR.map (divW (gAll (s * wAt ws (X : Int)) MR))) = (n', e', s', out, bb) := ⟨_, _, _, _, _, rfl⟩
  rw [hR]
  generalize wAt ws (X : Int) = SM at *
  generalize gAll (s * SM) MR = GG at *
  have HRR := Lib.hid hR
  generalize MR.map (divW GG) = MD at *
  generalize (s * SM).tdiv GG = SD at *
  have HDIV := Lib.hid hDIV; have HLN := Lib.hid hLen2; have HML := Lib.hid hML; have HMW := Lib.hid hMW; have HHM := Lib.hid hHM; have HHO := Lib.hid hHO
  have HEN := Lib.hid hEND; have HEN2 := Lib.hid hEND2; have HWN := Lib.hid hWN; have HWA := Lib.hid hWA; have HNM := Lib.hid hnm; have HSRT := Lib.hid hsorted
  have HSM := Lib.hid hsm
  have hmw : IntKind.i64.wrap (s * SM) = s * SM := IntWalk.i64_in _ (by omega)
  have hmw2 : wrap64 (s * SM) = s * SM := by unfold wrap64; omega
  have HR := Lib.hid hr
  have HHL := Lib.hid hHL
  have HLL := Lib.hid (And.intro hl1 hl2)
  clear hr hV hb hwnE hDIV hLen2 hML hMW hHM hHO hHL hEND hEND2 hWN hWA hnm hsorted hR hsr hsl
  have hmm := @run_makeMap Try.prog
  obtain ⟨W0, hW0⟩ : ∃ W0, W0 = ((w.alloc (.cells #[.int .i64 N, .int .i64 e, .int .i64 s, .slice p0 ws.length cap0] 28)).alloc (.cells #[.int .i64 X] 3)).alloc (.cells #[.int .i64 0, .int .i64 0, .int .i64 0, .slice none 0 0] 28) := ⟨_, rfl⟩
  have hs0 : W0.heap.size = w.heap.size + 3 := by rw [hW0]; simp
  have HX : Hid (boxN W0 w.heap.size N e s (.slice p0 ws.length cap0)) := Lib.hid (by rw [hW0]; exact (boxN.new w N e s (.slice p0 ws.length cap0) 28).later (by (repeat (first | exact Below.refl _ _ | (refine Below.setCell ?_ (by (first | exact Nat.le_refl _ | omega | (simp <;> omega) | simp)) _) | (refine Below.alloc ?_ (by (first | exact Nat.le_refl _ | omega | (simp <;> omega) | simp)) _) | (refine below_draws ?_ _)))))
  have HV : Hid (W0.cell? ⟨w.heap.size + 1, 0, none⟩ = some (.int .i64 X)) := Lib.hid (by rw [hW0]; simp [go_sem])
  have HZ : Hid (box4 W0 (w.heap.size + 2) (.int .i64 0) (.int .i64 0) (.int .i64 0) (.slice none 0 0)) := Lib.hid (by rw [hW0]; have h := box4.new ((w.alloc (.cells #[.int .i64 N, .int .i64 e, .int .i64 s, .slice p0 ws.length cap0] 28)).alloc (.cells #[.int .i64 X] 3)) (.int .i64 0) (.int .i64 0) (.int .i64 0) (.slice none 0 0) 28; simpa using h)
  have HB0 : Hid (Below w.heap.size w W0) := Lib.hid (by rw [hW0]; (repeat (first | exact Below.refl _ _ | (refine Below.setCell ?_ (by (first | exact Nat.le_refl _ | omega | (simp <;> omega) | simp)) _) | (refine Below.alloc ?_ (by (first | exact Nat.le_refl _ | omega | (simp <;> omega) | simp)) _) | (refine below_draws ?_ _))))
  have hS : ( W0.cell? ⟨w.heap.size, 0, none⟩ = some (.int .i64 N) ∧ W0.cell? ⟨w.heap.size, 1, none⟩ = some (.int .i64 e) ∧ W0.cell? ⟨w.heap.size, 2, none⟩ = some (.int .i64 s) ∧ W0.cell? ⟨w.heap.size, 3, none⟩ = some (.slice p0 ws.length cap0) ∧ W0.cell? ⟨w.heap.size + 1, 0, none⟩ = some (.int .i64 X) ∧ W0.cell? ⟨w.heap.size + 2, 0, none⟩ = some (.int .i64 0) ∧ W0.heap.size ≤ W0.heap.size ∧ W0.heap.size ≤ W0.heap.size ∧ Below W0.heap.size W0 W0) := by
    obtain ⟨x0, x1, x2, x3⟩ := HX.out
    obtain ⟨z0, -⟩ := HZ.out
    exact ⟨x0, x1, x2, x3, HV.out, z0, Nat.le_refl _, Nat.le_refl _, Below.refl _ _⟩
  replace hS := k6_drew hS
  go_enter Try.func86, Try.ntmps86
  go_wp2
  change Code.wp _ _ _ _ (World.alloc _ _)
  rw [← hW0]
  clear hW0
  go_region_held3 (fun w' => w'.cell? ⟨w.heap.size, 0, none⟩ = some (.int .i64 N) ∧ w'.cell? ⟨w.heap.size, 1, none⟩ = some (.int .i64 e) ∧ w'.cell? ⟨w.heap.size, 2, none⟩ = some (.int .i64 s) ∧ w'.cell? ⟨w.heap.size, 3, none⟩ = some (.slice p0 ws.length cap0) ∧ w'.cell? ⟨w.heap.size + 1, 0, none⟩ = some (.int .i64 X) ∧ w'.cell? ⟨w.heap.size + 2, 0, none⟩ = some (.int .i64 0) ∧ W0.heap.size ≤ w'.heap.size ∧ W0.heap.size ≤ W0.heap.size ∧ Below W0.heap.size W0 w')
    (first | exact hS)
    (first | (go_at_call 39; refine (HWN.out _ ((HR.out.later HB0.out).later hS.2.2.2.2.2.2.2.2)).mono ?_; rintro en w1 ⟨v1, rfl, o1, B1⟩; replace hS := k6_keep B1 hS) | (go_at_call 116; refine (HWA.out _ ((HR.out.later HB0.out).later hS.2.2.2.2.2.2.2.2)).mono ?_; rintro en w2 ⟨rfl, B2⟩; replace hS := k6_keep B2 hS))
  have hBW := hS.2.2.2.2.2.2.2.2
  have hs2 := hS.2.2.2.2.2.2.1
  have HRL := Lib.hid (ReadsI.of_own (owns_later o1 B2))
  have HX2 := Lib.hid (HX.out.later hBW)
  have HV2 : Hid (w2.cell? ⟨w.heap.size + 1, 0, none⟩ = some (.int .i64 X)) := Lib.hid hS.2.2.2.2.1
  have HZ2 := Lib.hid (HZ.out.later hBW)
  have HB2 : Hid (Below w.heap.size w w2) := Lib.hid (HB0.out.trans (hBW.mono HB0.out.size))
  obtain ⟨pl, cl, rfl, hcl1, hcl2⟩ := HRL.out.shape
  have HRW := Lib.hid ((HR.out.later HB0.out).later hBW)
  obtain ⟨x0, x1, x2, x3⟩ := HX2.out
  have v0 := HV2.out
  have hnw : w.heap.size ≠ w2.heap.size := by omega
  have O0 := Lib.hid (owns2_made w2)
  have q3 : (w2.alloc (.map #[] 0)).cell? ⟨w.heap.size, 3, none⟩ = some (.slice p0 ws.length cap0) := (World.cell?_alloc_old w2 _ ⟨w.heap.size, 3, none⟩ hnw).trans x3
  clear hS o1 B1 B2 hBW
  go_wp2
  go_loopw [26] (fun i wi => ∃ (k : Nat), k ≤ ws.length ∧ i = .int .i64 k ∧ Hid (owns2 wi w2.heap.size k (fAll (stayW (ws.take k) X SM))) ∧ w2.heap.size < wi.heap.size ∧ Hid (Below w2.heap.size w2 wi)) (fun i _ => ws.length - (intOf i).toNat)
  case atStart => exact ⟨0, Nat.zero_le _, rfl, O0, by simp, Lib.hid (by (repeat (first | exact Below.refl _ _ | (refine Below.setCell ?_ (by (first | exact Nat.le_refl _ | omega | (simp <;> omega) | simp)) _) | (refine Below.alloc ?_ (by (first | exact Nat.le_refl _ | omega | (simp <;> omega) | simp)) _) | (refine below_draws ?_ _))))⟩
  case round =>
    clear x0 x1 x2 x3 v0 q3
    obtain ⟨k, hk, rfl, hown, hsz, hB⟩ := hrel
    obtain ⟨x0, x1, x2, x3⟩ := HX2.out.later hB.out
    have v0 : wr.cell? ⟨w.heap.size + 1, 0, none⟩ = some (.int .i64 X) := (hB.out.cell (p := ⟨w.heap.size + 1, 0, none⟩) (show w.heap.size + 1 < w2.heap.size by omega)).trans HV2.out
    by_cases hlt : k < ws.length
    · obtain ⟨g0, o, rfl, c0, c1, c2⟩ := HC.out k hlt
      have hg : g0 < w.heap.size := World.block_lt_of_cell? w _ c0
      have hBw : Hid (Below w.heap.size w wr) := Lib.hid (HB2.out.trans (hB.out.mono (by omega)))
      rw [← hBw.out.cell (p := ⟨g0, o + k * 3, none⟩) hg] at c0
      rw [← hBw.out.cell (p := ⟨g0, o + k * 3 + 1, none⟩) hg] at c1
      rw [← hBw.out.cell (p := ⟨g0, o + k * 3 + 2, none⟩) hg] at c2
      have hne : g0 ≠ wr.heap.size := by omega
      have hne1 : w.heap.size + 1 ≠ wr.heap.size := by omega
      have va : ∀ ob, (wr.alloc ob).cell? ⟨w.heap.size + 1, 0, none⟩ = some (.int .i64 X) := fun ob => (World.cell?_alloc_old wr ob ⟨w.heap.size + 1, 0, none⟩ hne1).trans v0
      obtain ⟨q0, q1, q2, q3, q4⟩ := HW.out.1 k hlt
      by_cases hA : ws[k].1 = (X : Int)
      · have HSN := Lib.hid (stay_no (x := SM) hlt (fun h => h.1 hA))
        go_wp2
        all_goals
          refine ⟨⟨k + 1, by omega, by go_num, Lib.hid (by rw [HSN.out]; exact (hown.out.later (by (repeat (first | exact Below.refl _ _ | (refine Below.setCell ?_ (by (first | exact Nat.le_refl _ | omega | (simp <;> omega) | simp)) _) | (refine Below.alloc ?_ (by (first | exact Nat.le_refl _ | omega | (simp <;> omega) | simp)) _) | (refine below_draws ?_ _))))).mono (by omega)), by simp; omega, Lib.hid (by have hB := hB.out; (repeat (first | exact Below.refl _ _ | (refine Below.setCell ?_ (by (first | exact Nat.le_refl _ | omega | (simp <;> omega) | simp)) _) | (refine Below.alloc ?_ (by (first | exact Nat.le_refl _ | omega | (simp <;> omega) | simp)) _) | (refine below_draws ?_ _) | exact hB | (refine Below.trans ?_ (Below.mono hB (by (first | exact Nat.le_refl _ | omega | (simp <;> omega) | simp)))))))⟩, ?_⟩
          simp [intOf]; omega
      by_cases hE : ws[k].2.1 = (X : Int)
      · have HSN := Lib.hid (stay_no (x := SM) hlt (fun h => h.2 hE))
        go_wp2
        all_goals
          refine ⟨⟨k + 1, by omega, by go_num, Lib.hid (by rw [HSN.out]; exact (hown.out.later (by (repeat (first | exact Below.refl _ _ | (refine Below.setCell ?_ (by (first | exact Nat.le_refl _ | omega | (simp <;> omega) | simp)) _) | (refine Below.alloc ?_ (by (first | exact Nat.le_refl _ | omega | (simp <;> omega) | simp)) _) | (refine below_draws ?_ _))))).mono (by omega)), by simp; omega, Lib.hid (by have hB := hB.out; (repeat (first | exact Below.refl _ _ | (refine Below.setCell ?_ (by (first | exact Nat.le_refl _ | omega | (simp <;> omega) | simp)) _) | (refine Below.alloc ?_ (by (first | exact Nat.le_refl _ | omega | (simp <;> omega) | simp)) _) | (refine below_draws ?_ _) | exact hB | (refine Below.trans ?_ (Below.mono hB (by (first | exact Nat.le_refl _ | omega | (simp <;> omega) | simp)))))))⟩, ?_⟩
          simp [intOf]; omega
      have HSN := Lib.hid (stay_yes (x := SM) hlt ⟨hA, hE⟩)
      have HP := Lib.hid (fun W => pairOf_any ws[k].1 ws[k].2.1 ws[k].1 ws[k].2.1 (Or.inl ⟨q1, by omega, rfl, rfl⟩) W)
      have hm0 : 0 ≤ ws[k].2.2 * SM := Int.mul_nonneg (by omega) (by omega)
      have hm1 : ws[k].2.2 * SM ≤ 160000 := by
        have h := Int.mul_le_mul q4 hwa.2 hwa.1 (by omega : (0 : Int) ≤ 200)
        omega
      have hmk : IntKind.i64.wrap (ws[k].2.2 * SM) = ws[k].2.2 * SM := IntWalk.i64_in _ (by omega)
      have hmk2 : wrap64 (ws[k].2.2 * SM) = ws[k].2.2 * SM := by unfold wrap64; omega
      have HXW : Hid ((Lit.int .i64 ws[k].1).wf = true) := Lib.hid (wf_of (by omega) (by omega))
      have HYW : Hid ((Lit.int .i64 ws[k].2.1).wf = true) := Lib.hid (wf_of (by omega) (by omega))
      have HZW : Hid ((Lit.int .i64 (ws[k].2.2 * SM)).wf = true) := Lib.hid (wf_of (by omega) (by omega))
      have hS2 : (wr.alloc (.cells #[.int .i64 ws[k].1, .int .i64 ws[k].2.1, .int .i64 ws[k].2.2] 75)).drew.cell? ⟨wr.heap.size, 0, none⟩ = some (.int .i64 ws[k].1) ∧ (wr.alloc (.cells #[.int .i64 ws[k].1, .int .i64 ws[k].2.1, .int .i64 ws[k].2.2] 75)).drew.cell? ⟨wr.heap.size, 1, none⟩ = some (.int .i64 ws[k].2.1) ∧ (wr.alloc (.cells #[.int .i64 ws[k].1, .int .i64 ws[k].2.1, .int .i64 ws[k].2.2] 75)).drew.cell? ⟨wr.heap.size, 2, none⟩ = some (.int .i64 ws[k].2.2) ∧ wr.heap.size < (wr.alloc (.cells #[.int .i64 ws[k].1, .int .i64 ws[k].2.1, .int .i64 ws[k].2.2] 75)).drew.heap.size := ⟨by simp [go_sem], by simp [go_sem], by simp [go_sem], by simp⟩
      have O1 := Lib.hid (hown.out.later (show Below wr.heap.size wr (wr.alloc (.cells #[.int .i64 ws[k].1, .int .i64 ws[k].2.1, .int .i64 ws[k].2.2] 75)).drew by (repeat (first | exact Below.refl _ _ | (refine Below.setCell ?_ (by (first | exact Nat.le_refl _ | omega | (simp <;> omega) | simp)) _) | (refine Below.alloc ?_ (by (first | exact Nat.le_refl _ | omega | (simp <;> omega) | simp)) _) | (refine below_draws ?_ _)))))
      have hBq : Below wr.heap.size wr (wr.alloc (.cells #[.int .i64 ws[k].1, .int .i64 ws[k].2.1, .int .i64 ws[k].2.2] 75)).drew := by (repeat (first | exact Below.refl _ _ | (refine Below.setCell ?_ (by (first | exact Nat.le_refl _ | omega | (simp <;> omega) | simp)) _) | (refine Below.alloc ?_ (by (first | exact Nat.le_refl _ | omega | (simp <;> omega) | simp)) _) | (refine below_draws ?_ _)))
      have hsq : (wr.alloc (.cells #[.int .i64 ws[k].1, .int .i64 ws[k].2.1, .int .i64 ws[k].2.2] 75)).drew.heap.size = wr.heap.size + 1 := by simp
      go_wp2
      refine wp_region_F 10 (fun w' => w'.cell? ⟨wr.heap.size, 0, none⟩ = some (.int .i64 ws[k].1) ∧ w'.cell? ⟨wr.heap.size, 1, none⟩ = some (.int .i64 ws[k].2.1) ∧ w'.cell? ⟨wr.heap.size, 2, none⟩ = some (.int .i64 ws[k].2.2) ∧ wr.heap.size < w'.heap.size) (by kernel_rfl) hS2 ?_
      obtain ⟨wq, hwq⟩ : ∃ wq, wq = (wr.alloc (.cells #[.int .i64 ws[k].1, .int .i64 ws[k].2.1, .int .i64 ws[k].2.2] 75)).drew := ⟨_, rfl⟩
      rw [← hwq] at hS2 O1 hBq hsq ⊢
      clear hwq
      intro hS
      clear hS2 c0 c1 c2 hm0 hm1 x0 x1 x2 x3 v0 va
      refine takeF_on (i := 0) (d := some 40) (v := .map (some w2.heap.size)) rfl rfl (by kernel_rfl) (fun _ _ _ h => h) (by rfl) (by (intro w hSw; (try dsimp only at hSw); go_simp)) (by assumption) ?_
      try simp only [Act.put, List.setIfInBounds_toArray, List.set_cons_zero, List.set_cons_succ]
      refine takeF_on (i := 1) (d := some 41) (v := .pointer (some ⟨wr.heap.size, 0, none⟩)) rfl rfl (by kernel_rfl) (fun _ _ _ h => h) (by rfl) (by (intro w hSw; (try dsimp only at hSw); go_simp)) (by assumption) ?_
      try simp only [Act.put, List.setIfInBounds_toArray, List.set_cons_zero, List.set_cons_succ]
      refine takeF_on (i := 2) (d := some 42) (v := .int .i64 ws[k].1) rfl rfl (by kernel_rfl) (fun _ _ _ h => h) (by rfl) (by (intro w hSw; (try dsimp only at hSw); go_simp)) (by assumption) ?_
      try simp only [Act.put, List.setIfInBounds_toArray, List.set_cons_zero, List.set_cons_succ]
      refine takeF_on (i := 3) (d := some 43) (v := .pointer (some ⟨wr.heap.size, 1, none⟩)) rfl rfl (by kernel_rfl) (fun _ _ _ h => h) (by rfl) (by (intro w hSw; (try dsimp only at hSw); go_simp)) (by assumption) ?_
      try simp only [Act.put, List.setIfInBounds_toArray, List.set_cons_zero, List.set_cons_succ]
      refine takeF_on (i := 4) (d := some 44) (v := .int .i64 ws[k].2.1) rfl rfl (by kernel_rfl) (fun _ _ _ h => h) (by rfl) (by (intro w hSw; (try dsimp only at hSw); go_simp)) (by assumption) ?_
      try simp only [Act.put, List.setIfInBounds_toArray, List.set_cons_zero, List.set_cons_succ]
      refine takeF_on (i := 6) (d := some 46) (v := .pointer (some ⟨wr.heap.size, 2, none⟩)) rfl rfl (by kernel_rfl) (fun _ _ _ h => h) (by rfl) (by (intro w hSw; (try dsimp only at hSw); go_simp)) (by assumption) ?_
      try simp only [Act.put, List.setIfInBounds_toArray, List.set_cons_zero, List.set_cons_succ]
      refine takeF_on (i := 7) (d := some 47) (v := .int .i64 ws[k].2.2) rfl rfl (by kernel_rfl) (fun _ _ _ h => h) (by rfl) (by (intro w hSw; (try dsimp only at hSw); go_simp)) (by assumption) ?_
      try simp only [Act.put, List.setIfInBounds_toArray, List.set_cons_zero, List.set_cons_succ]
      refine takeF_on (i := 8) (d := some 48) (v := .int .i64 SM) rfl rfl (by kernel_rfl) (fun _ _ _ h => h) (by rfl) (by (intro w hSw; (try dsimp only at hSw); go_simp)) (by assumption) ?_
      try simp only [Act.put, List.setIfInBounds_toArray, List.set_cons_zero, List.set_cons_succ]
      refine takeF_on (i := 9) (d := some 49) (v := .int .i64 (ws[k].2.2 * SM)) rfl rfl (by kernel_rfl) (fun _ _ _ h => h) (by rfl) (by (intro w hSw; (try dsimp only at hSw); go_simp)) (by assumption) ?_
      try simp only [Act.put, List.setIfInBounds_toArray, List.set_cons_zero, List.set_cons_succ]
      refine wpAnyF_ready (rs := [5]) (by kernel_rfl) (by simp) ?_
      refine AllReadyF.cons rfl (fun K hK => ?_) AllReadyF.nil
      go_simp
      with_reducible refine Calls.mono (HP.out _) ?_
      rintro en w3 ⟨rfl, B1⟩
      replace hS := three_below B1 (by first | exact hS | (rw [hsq]; exact hS))
      obtain ⟨wz, hrz, hoz, hgz⟩ := run_put (O1.out.later B1) (by unfold maxLen; omega) HXW.out HYW.out HZW.out
      go_wp2_with fail
      refine hK.out _ _ hS (fun hHeld => ?_)
      clear hK K hHeld
      try simp only [Act.put, List.setIfInBounds_toArray, List.set_cons_zero, List.set_cons_succ]
      refine wpAnyF_ready (rs := [10]) (by kernel_rfl) (by simp) ?_
      refine AllReadyF.last rfl (by decide) (fun K hK => ?_) AllReadyF.nil
      go_simp
      refine hK.out _ _ ?_
      clear hK K
      try simp only [Act.put, List.setIfInBounds_toArray, List.set_cons_zero, List.set_cons_succ]
      refine wpAnyF_done (by kernel_rfl) ?_
      clear hS
      go_wp2
      go_roundw
      case rel => exact ⟨k + 1, by omega, by go_num, Lib.hid (by rw [HSN.out, fAll_last]; exact hoz), by have := hgz.size; have := B1.size; omega, Lib.hid (by have hB := hB.out; exact Below.grown (by (repeat (first | exact Below.refl _ _ | (refine Below.setCell ?_ (by (first | exact Nat.le_refl _ | omega | (simp <;> omega) | simp)) _) | (refine Below.alloc ?_ (by (first | exact Nat.le_refl _ | omega | (simp <;> omega) | simp)) _) | (refine below_draws ?_ _) | exact hB | (refine Below.trans ?_ (Below.mono hB (by (first | exact Nat.le_refl _ | omega | (simp <;> omega) | simp)))) | exact hBq | (refine Below.trans ?_ (Below.mono hBq (by (first | exact Nat.le_refl _ | omega | (simp <;> omega) | simp)))) | exact B1 | (refine Below.trans ?_ (Below.mono B1 (by (first | exact Nat.le_refl _ | omega | (simp <;> omega) | simp))))))) hgz (by have := B1.size; omega) (fun j hj => by cases hj; omega))⟩
      case measure => simp [intOf]; omega
    · obtain rfl : k = ws.length := by omega
      have HF1 : Hid (owns2 wr w2.heap.size 27 (fAll (stayW ws X SM))) := Lib.hid (by have h := hown.out; rw [List.take_length] at h; exact h.mono (by omega))
      have HNP := Lib.hid (fun (u y : Int) (hu : u ∈ L) (hy : y ∈ L) => (show (0 ≤ wBtw ws (X : Int) u * wBtw ws (X : Int) y ∧ wBtw ws (X : Int) u * wBtw ws (X : Int) y ≤ 40000) by
        have a1 := wBtw_le HW.out (X : Int) u
        have a2 := wBtw_le HW.out (X : Int) y
        exact ⟨Int.mul_nonneg a1.1 a2.1, by have h1 := Int.mul_le_mul a1.2 a2.2 a2.1 (by omega : (0 : Int) ≤ 200); omega⟩))
      clear hown
      go_wp2
      go_loopw [53] (fun iv wi => ∃ (i : Nat), i ≤ L.length ∧ iv = .int .i64 i ∧ Hid ((i < 2 → owns2 wi w2.heap.size 27 (fAll (stayW ws X SM))) ∧ (i = 2 → ∀ y z, L = [y, z] → owns2 wi w2.heap.size 28 (add2 (fAll (stayW ws X SM)) y z (wBtw ws (X : Int) y * wBtw ws (X : Int) z)))) ∧ w2.heap.size < wi.heap.size ∧ Hid (Below w2.heap.size w2 wi)) (fun iv _ => L.length - (intOf iv).toNat)
      case atStart => exact ⟨0, Nat.zero_le _, rfl, Lib.hid ⟨fun _ => HF1.out, fun h => by omega⟩, hsz, hB⟩
      case round =>
        clear x0 x1 x2 x3 v0 hsz hB HF1
        obtain ⟨i, hi, rfl, hOW, hsz, hB⟩ := hrel
        obtain ⟨x0, x1, x2, x3⟩ := HX2.out.later hB.out
        have v0 : wr.cell? ⟨w.heap.size + 1, 0, none⟩ = some (.int .i64 X) := (hB.out.cell (p := ⟨w.heap.size + 1, 0, none⟩) (show w.heap.size + 1 < w2.heap.size by omega)).trans HV2.out
        have hLl := HLL.out
        have RLr := HRL.out.later hB.out
        by_cases hlt : i < L.length
        · obtain ⟨gl, ol, cl', hpe, hc1, hc2, hgl, hcell⟩ := RLr.pos (by omega)
          simp only [Value.slice.injEq, true_and] at hpe
          obtain ⟨rfl, rfl⟩ := hpe
          have ca := hcell i hlt
          have HRL2 := Lib.hid (HRL.out.take i (by omega))
          have hicl : i ≤ cl := by omega
          have htl : (L.take i).length = i := by rw [List.length_take]; omega
          clear hcell RLr
          obtain ⟨wo, hwo⟩ : ∃ wo, wo = wr := ⟨_, rfl⟩
          subst hwo
          go_wp2
          go_loopw [62] (fun jv wi => ∃ (j : Nat), j ≤ i ∧ jv = .int .i64 j ∧ Hid ((j = 0 → owns2 wi w2.heap.size 27 (fAll (stayW ws X SM))) ∧ (1 ≤ j → ∀ y z, L = [y, z] → owns2 wi w2.heap.size 28 (add2 (fAll (stayW ws X SM)) y z (wBtw ws (X : Int) y * wBtw ws (X : Int) z)))) ∧ w2.heap.size < wi.heap.size ∧ Hid (Below w2.heap.size w2 wi)) (fun jv _ => i - (intOf jv).toNat)
          case atStart => exact ⟨0, Nat.zero_le _, rfl, Lib.hid ⟨fun _ => hOW.out.1 (by omega), fun h => by omega⟩, hsz, hB⟩
          case round =>
            clear x0 x1 x2 x3 v0 hsz hB ca
            obtain ⟨j, hj, rfl, hOJ, hsz, hB⟩ := hrel
            obtain ⟨x0, x1, x2, x3⟩ := HX2.out.later hB.out
            have v0 : wr.cell? ⟨w.heap.size + 1, 0, none⟩ = some (.int .i64 X) := (hB.out.cell (p := ⟨w.heap.size + 1, 0, none⟩) (show w.heap.size + 1 < w2.heap.size by omega)).trans HV2.out
            by_cases hjl : j < i
            · have hj0 : j = 0 := by omega
              have hi1 : i = 1 := by omega
              have cb := (HRL2.out.later hB.out).at j (by omega)
              rw [List.getElem_take] at cb
              obtain ⟨ym, y1, y2⟩ := HNM.out (L[j]'(by omega)) (List.getElem_mem _)
              obtain ⟨zm, z1, z2⟩ := HNM.out (L[i]'(by omega)) (List.getElem_mem _)
              have hyz := List.pairwise_iff_getElem.1 HSRT.out j i (by omega) hlt hjl
              have hpr := HNP.out (L[i]'(by omega)) (L[j]'(by omega)) (List.getElem_mem _) (List.getElem_mem _)
              have HLE : Hid (L = [L[j]'(by omega), L[i]'(by omega)]) := Lib.hid (by
                subst hj0; subst hi1
                match L, hlt, hLl with
                | [y, z], _, _ => rfl)
              have hown := hOJ.out.1 hj0
              clear HRL2
              generalize L[i]'(by omega) = B at *
              generalize L[j]'(by omega) = A at *
              have HE : Hid (Ends B A A B) := Lib.hid (.inr (.inr ⟨by omega, by omega, rfl, rfl⟩))
              have hwA : (Lit.int .i64 A).wf = true := wf_of (by omega) (by omega)
              have hwB : (Lit.int .i64 B).wf = true := wf_of (by omega) (by omega)
              have HWAw := Lib.hid hwA; have HWBw := Lib.hid hwB
              have HB1 := Lib.hid (fun W h => impl_wBtw N e s B X (.slice p0 ws.length cap0) ws W h)
              have HB2' := Lib.hid (fun W h => impl_wBtw N e s A X (.slice p0 ws.length cap0) ws W h)
              have HRw := Lib.hid (HRW.out.later hB.out)
              have HPE : Hid (wBtw ws B (X : Int) * wBtw ws A (X : Int) = wBtw ws (X : Int) A * wBtw ws (X : Int) B) := Lib.hid (by rw [wBtw_comm ws B, wBtw_comm ws A, Int.mul_comm])
              rw [wBtw_comm ws (X : Int) B, wBtw_comm ws (X : Int) A] at hpr
              generalize wBtw ws B (X : Int) = WB1 at *
              generalize wBtw ws A (X : Int) = WA1 at *
              have hmk : IntKind.i64.wrap (WB1 * WA1) = WB1 * WA1 := IntWalk.i64_in _ (by omega)
              have hmk2 : wrap64 (WB1 * WA1) = WB1 * WA1 := by unfold wrap64; omega
              have HOW2 := Lib.hid hown
              have HSK : Hid (∀ W, Below wr.heap.size wr W → W.cell? ⟨w.heap.size, 0, none⟩ = some (.int .i64 N) ∧ W.cell? ⟨w.heap.size, 1, none⟩ = some (.int .i64 e) ∧ W.cell? ⟨w.heap.size, 2, none⟩ = some (.int .i64 s) ∧ W.cell? ⟨w.heap.size, 3, none⟩ = some (.slice p0 ws.length cap0) ∧ W.cell? ⟨w.heap.size + 1, 0, none⟩ = some (.int .i64 X) ∧ (Instr.lookup 66 (.map (some w2.heap.size)) (.agg #[.int .i64 A, .int .i64 B]) false).run Try.prog W = .ok (.int .i64 ((fAll (stayW ws X SM) A B).getD 0)) W) := Lib.hid (fun W hb => by
                obtain ⟨st, w9, hl, -⟩ := run_add (HOW2.out.later hb) (by unfold maxLen; omega) HWAw.out HWBw.out
                exact ⟨(hb.cell (World.block_lt_of_cell? wr _ x0)).trans x0, (hb.cell (World.block_lt_of_cell? wr _ x1)).trans x1, (hb.cell (World.block_lt_of_cell? wr _ x2)).trans x2, (hb.cell (World.block_lt_of_cell? wr _ x3)).trans x3, (hb.cell (World.block_lt_of_cell? wr _ v0)).trans v0, hl⟩)
              have HD0 : Below wr.heap.size wr wr.drew := below_drew wr
              have hS0 := HSK.out wr.drew HD0
              have HBD := Lib.hid HD0
              clear x0 x1 x2 x3 v0 hown hwA hwB hOJ HNM HSRT HD0 hj0 hi1
              go_wp2
              refine wp_region_F 17 (fun W => W.cell? ⟨w.heap.size, 0, none⟩ = some (.int .i64 N) ∧ W.cell? ⟨w.heap.size, 1, none⟩ = some (.int .i64 e) ∧ W.cell? ⟨w.heap.size, 2, none⟩ = some (.int .i64 s) ∧ W.cell? ⟨w.heap.size, 3, none⟩ = some (.slice p0 ws.length cap0) ∧ W.cell? ⟨w.heap.size + 1, 0, none⟩ = some (.int .i64 X) ∧ (Instr.lookup 66 (.map (some w2.heap.size)) (.agg #[.int .i64 A, .int .i64 B]) false).run Try.prog W = .ok (.int .i64 ((fAll (stayW ws X SM) A B).getD 0)) W) (by kernel_rfl) hS0 ?_
              clear hS0
              intro hS
              refine takeF_on (i := 0) (d := some 66) (v := .map (some w2.heap.size)) rfl rfl (by kernel_rfl) (fun _ _ _ h => h) (by rfl) (by (intro w hSw; (try dsimp only at hSw); go_simp)) (by assumption) ?_
              try simp only [Act.put, List.setIfInBounds_toArray, List.set_cons_zero, List.set_cons_succ]
              refine takeF_on (i := 1) (d := some 67) (v := .int .i64 B) rfl rfl (by kernel_rfl) (fun _ _ _ h => h) (by rfl) (by (intro w hSw; (try dsimp only at hSw); go_simp)) (by assumption) ?_
              try simp only [Act.put, List.setIfInBounds_toArray, List.set_cons_zero, List.set_cons_succ]
              refine takeF_on (i := 2) (d := some 68) (v := .int .i64 A) rfl rfl (by kernel_rfl) (fun _ _ _ h => h) (by rfl) (by (intro w hSw; (try dsimp only at hSw); go_simp)) (by assumption) ?_
              try simp only [Act.put, List.setIfInBounds_toArray, List.set_cons_zero, List.set_cons_succ]
              refine takeF_on (i := 5) (d := some 71) (v := .agg #[.int .i64 N, .int .i64 e, .int .i64 s, .slice p0 ws.length cap0]) rfl rfl (by kernel_rfl) (fun _ _ _ h => h) (by rfl) (by (intro w hSw; (try dsimp only at hSw); go_simp)) (by assumption) ?_
              try simp only [Act.put, List.setIfInBounds_toArray, List.set_cons_zero, List.set_cons_succ]
              refine takeF_on (i := 6) (d := some 72) (v := .int .i64 B) rfl rfl (by kernel_rfl) (fun _ _ _ h => h) (by rfl) (by (intro w hSw; (try dsimp only at hSw); go_simp)) (by assumption) ?_
              try simp only [Act.put, List.setIfInBounds_toArray, List.set_cons_zero, List.set_cons_succ]
              refine takeF_on (i := 7) (d := some 73) (v := .int .i64 X) rfl rfl (by kernel_rfl) (fun _ _ _ h => h) (by rfl) (by (intro w hSw; (try dsimp only at hSw); go_simp)) (by assumption) ?_
              try simp only [Act.put, List.setIfInBounds_toArray, List.set_cons_zero, List.set_cons_succ]
              refine takeF_on (i := 9) (d := some 75) (v := .agg #[.int .i64 N, .int .i64 e, .int .i64 s, .slice p0 ws.length cap0]) rfl rfl (by kernel_rfl) (fun _ _ _ h => h) (by rfl) (by (intro w hSw; (try dsimp only at hSw); go_simp)) (by assumption) ?_
              try simp only [Act.put, List.setIfInBounds_toArray, List.set_cons_zero, List.set_cons_succ]
              refine takeF_on (i := 10) (d := some 76) (v := .int .i64 A) rfl rfl (by kernel_rfl) (fun _ _ _ h => h) (by rfl) (by (intro w hSw; (try dsimp only at hSw); go_simp)) (by assumption) ?_
              try simp only [Act.put, List.setIfInBounds_toArray, List.set_cons_zero, List.set_cons_succ]
              refine takeF_on (i := 11) (d := some 77) (v := .int .i64 X) rfl rfl (by kernel_rfl) (fun _ _ _ h => h) (by rfl) (by (intro w hSw; (try dsimp only at hSw); go_simp)) (by assumption) ?_
              try simp only [Act.put, List.setIfInBounds_toArray, List.set_cons_zero, List.set_cons_succ]
              refine wpAnyF_ready (rs := [3]) (by kernel_rfl) (by simp) ?_
              refine AllReadyF.cons rfl (fun K hK => ?_) AllReadyF.nil
              go_simp
              with_reducible refine Calls.mono (pairOf_any _ _ A B HE.out _) ?_
              rintro en wb ⟨rfl, Bb⟩
              have HBb := Lib.hid (HBD.out.trans (Bb.mono HBD.out.size))
              replace hS := HSK.out _ HBb.out
              go_wp2_with fail
              refine hK.out _ _ hS (fun hHeld => ?_)
              clear hK K hHeld
              try simp only [Act.put, List.setIfInBounds_toArray, List.set_cons_zero, List.set_cons_succ]
              refine takeF_on (i := 4) (d := some 70) (v := .int .i64 ((fAll (stayW ws X SM) A B).getD 0)) rfl rfl (by kernel_rfl) (fun _ _ _ h => h) (by rfl) (by (intro w hSw; (try dsimp only at hSw); go_simp)) (by assumption) ?_
              try simp only [Act.put, List.setIfInBounds_toArray, List.set_cons_zero, List.set_cons_succ]
              refine wpAnyF_ready (rs := [8]) (by kernel_rfl) (by simp) ?_
              refine AllReadyF.cons rfl (fun K hK => ?_) AllReadyF.nil
              go_simp
              with_reducible refine Calls.mono (HB1.out _ (HRw.out.later HBb.out)) ?_
              rintro en wc ⟨rfl, Bc⟩
              have HBc := Lib.hid (HBb.out.trans (Bc.mono HBb.out.size))
              replace hS := HSK.out _ HBc.out
              go_wp2_with fail
              refine hK.out _ _ hS (fun hHeld => ?_)
              clear hK K hHeld
              try simp only [Act.put, List.setIfInBounds_toArray, List.set_cons_zero, List.set_cons_succ]
              refine wpAnyF_ready (rs := [12]) (by kernel_rfl) (by simp) ?_
              refine AllReadyF.cons rfl (fun K hK => ?_) AllReadyF.nil
              go_simp
              with_reducible refine Calls.mono (HB2'.out _ (HRw.out.later HBc.out)) ?_
              rintro en wd ⟨rfl, Bd⟩
              have HBd := Lib.hid (HBc.out.trans (Bd.mono HBc.out.size))
              replace hS := HSK.out _ HBd.out
              go_wp2_with fail
              refine hK.out _ _ hS (fun hHeld => ?_)
              clear hK K hHeld
              try simp only [Act.put, List.setIfInBounds_toArray, List.set_cons_zero, List.set_cons_succ]
              refine takeF_on (i := 13) (d := some 79) (v := .int .i64 (WB1 * WA1)) rfl rfl (by kernel_rfl) (fun _ _ _ h => h) (by rfl) (by (intro w hSw; (try dsimp only at hSw); go_simp)) (by assumption) ?_
              try simp only [Act.put, List.setIfInBounds_toArray, List.set_cons_zero, List.set_cons_succ]
              refine takeF_on (i := 14) (d := some 80) (v := .int .i64 (IntKind.i64.wrap ((fAll (stayW ws X SM) A B).getD 0 + WB1 * WA1))) rfl rfl (by kernel_rfl) (fun _ _ _ h => h) (by rfl) (by (intro w hSw; (try dsimp only at hSw); go_simp)) (by assumption) ?_
              try simp only [Act.put, List.setIfInBounds_toArray, List.set_cons_zero, List.set_cons_succ]
              obtain ⟨st, w3, hl2, hme, hl3, hg3, hst⟩ := run_add (HOW2.out.later HBd.out) (by unfold maxLen; omega) HWAw.out HWBw.out
              obtain ⟨w4, hes, hown4, hg4⟩ := hst (IntKind.i64.wrap ((fAll (stayW ws X SM) A B).getD 0 + WB1 * WA1)) (wf_wrap _)
              have hSm := hS
              replace hS := (show w3.cell? ⟨w.heap.size, 0, none⟩ = some (.int .i64 N) ∧ w3.cell? ⟨w.heap.size, 1, none⟩ = some (.int .i64 e) ∧ w3.cell? ⟨w.heap.size, 2, none⟩ = some (.int .i64 s) ∧ w3.cell? ⟨w.heap.size, 3, none⟩ = some (.slice p0 ws.length cap0) ∧ w3.cell? ⟨w.heap.size + 1, 0, none⟩ = some (.int .i64 X) ∧ (Instr.lookup 66 (.map (some w2.heap.size)) (.agg #[.int .i64 A, .int .i64 B]) false).run Try.prog w3 = .ok (.int .i64 ((fAll (stayW ws X SM) A B).getD 0)) w3 from ⟨hg3.cell hSm.1 (by simp; omega), hg3.cell hSm.2.1 (by simp; omega), hg3.cell hSm.2.2.1 (by simp; omega), hg3.cell hSm.2.2.2.1 (by simp; omega), hg3.cell hSm.2.2.2.2.1 (by simp; omega), hl3⟩)
              refine wpAnyF_ready (rs := [15]) (by kernel_rfl) (by simp) ?_
              refine AllReadyF.cons rfl (fun K hK => ?_) AllReadyF.nil
              go_simp
              refine hK.out _ _ hS (fun hHeld => ?_)
              clear hK K hHeld
              try simp only [Act.put, List.setIfInBounds_toArray, List.set_cons_zero, List.set_cons_succ]
              refine takeF_on (i := 16) (d := some 82) (v := .int .i64 st) rfl rfl (by kernel_rfl) (fun _ _ _ h => h) (by rfl) (by (intro w hSw; (try dsimp only at hSw); go_simp)) (by assumption) ?_
              try simp only [Act.put, List.setIfInBounds_toArray, List.set_cons_zero, List.set_cons_succ]
              refine wpAnyF_ready (rs := [17]) (by kernel_rfl) (by simp) ?_
              refine AllReadyF.last rfl (by decide) (fun K hK => ?_) AllReadyF.nil
              go_simp
              refine hK.out _ _ ?_
              clear hK K
              try simp only [Act.put, List.setIfInBounds_toArray, List.set_cons_zero, List.set_cons_succ]
              refine wpAnyF_done (by kernel_rfl) ?_
              clear hS
              go_wp2
              go_roundw
              case rel => exact ⟨j + 1, by omega, by go_num, Lib.hid ⟨fun h => by omega, fun _ y z hyz' => by
                rw [HLE.out] at hyz'
                simp only [List.cons.injEq, and_true] at hyz'
                obtain ⟨rfl, rfl⟩ := hyz'
                rw [← HPE.out]
                unfold add2
                rw [← wrap_eq]
                exact hown4⟩, by have := hg4.size; have := Bd.size; have := Bc.size; have := Bb.size; simp at *; omega, Lib.hid (Below.grown (hB.out.trans (HBd.out.mono (by omega))) hg4 (by have := HBd.out.size; omega) (fun j hj => by cases hj; omega))⟩
              case measure => simp [intOf]; omega
            · obtain rfl : j = i := by omega
              go_wp2
              go_roundw
              case rel => exact ⟨j + 1, by omega, by go_num, Lib.hid ⟨fun h => hOJ.out.1 (by omega), fun h y z hyz => hOJ.out.2 (by omega) y z hyz⟩, hsz, hB⟩
              case measure => simp [intOf]; omega
        · obtain rfl : i = L.length := by omega
          obtain ⟨f, hof, hlf⟩ : ∃ f, owns2 wr w2.heap.size 28 f ∧ Lists f HE := by
            by_cases h1 : L.length = 1
            · exact ⟨_, (hOW.out.1 (by omega)).mono (by omega), HEN.out h1⟩
            · obtain ⟨y, z, hyz⟩ : ∃ y z, L = [y, z] := by
                have h2 : L.length = 2 := by omega
                match L, h2 with
                | [y, z], _ => exact ⟨y, z, rfl⟩
              exact ⟨_, hOW.out.2 (by omega) y z hyz, HEN2.out y z hyz⟩
          have HOF := Lib.hid hof
          have HLF := Lib.hid hlf
          have HZR := Lib.hid (HZ2.out.later hB.out)
          have HXR := Lib.hid (HX2.out.later hB.out)
          have hszw : w.heap.size + 3 ≤ wr.heap.size := by have := hB.out.size; omega
          have hrd := renum_drop X w2.heap.size 28 f HE (w.heap.size + 1) wr (by omega) HOF.out HLF.out (fun t ht => by
            have h := HHM.out t ht
            exact ⟨wf_of (by omega) (by omega), wf_of (by omega) (by omega)⟩) v0 (fun t ht => by have h := HHM.out t ht; omega) (by omega) HHO.out
          have HRD := Lib.hid hrd
          clear hof hlf hOW hrd x0 x1 x2 x3 v0
          go_wp2_with fail
          refine HRD.out.mono ?_
          rintro en w5 ⟨b5, rfl, hb5, O5, B5⟩
          go_wp2_with fail
          refine (wiresOf_any b5 28 _ _ (by omega) O5).mono ?_
          rintro en w6 ⟨p6, c6, L6, rfl, o6, hL6, wL6, B6⟩
          have hLe := lists_unique hL6 HML.out wL6 HMW.out
          clear hL6 wL6 O5
          subst hLe
          have HXS := Lib.hid ((HXR.out.later B5).later B6)
          have HZS := Lib.hid ((HZR.out.later B5).later B6)
          obtain ⟨x0, x1, x2, x3⟩ := HXS.out
          have S5 := B5.size
          have S6 := B6.size
          have HB6 : Hid (Below w.heap.size w w6) := Lib.hid (HB2.out.trans ((hB.out.mono (by omega)).trans ((B5.mono (by omega)).trans (B6.mono (by omega)))))
          clear B5 B6
          go_wp2_with fail
          refine (HDIV.out _ _ (ReadsW.of_own o6)).mono ?_
          rintro en w7 ⟨p7, c7, rfl, o7, B7⟩
          have S7 := B7.size
          clear x0 x1 x2 x3 o6
          rw [← HLN.out] at o7
          have hov := onlyValid_own ((N : Int) - 1) e SD _ p7 c7 MD _ o7
          rw [HRR.out, HLN.out] at hov
          have HOV := Lib.hid hov
          clear hov o7
          go_wp2_with fail
          refine HOV.out.mono ?_
          rintro en w8 ⟨p8, c8, rfl, o8, B8⟩
          have S8 := B8.size
          obtain ⟨z0, z1, z2, z3, f0, f1, f2, f3, -⟩ := (HZS.out.later B7).later B8
          have HO8 := Lib.hid o8
          clear o8
          go_wp2
          exact bodyPost_ret (v := .tuple #[.agg #[.int .i64 n', .int .i64 e', .int .i64 s', .slice p8 out.length c8], .bool bb]) (by simp (maxDischargeDepth := 8) [results, Try.results86, go_sem, *]) rfl ⟨p8, c8, rfl, by refine owns_mono (base := w6.heap.size) ?_ (by omega); have o8 := HO8.out; ((repeat (refine ownsRow_setCell_below ?_ ?_ _; rotate_left; focus (first | omega | (simp; done) | (simp; omega)))); with_reducible exact o8), by have h6 := HB6.out; (repeat (first | exact Below.refl _ _ | (refine Below.setCell ?_ (by (first | exact Nat.le_refl _ | omega | (simp <;> omega) | simp)) _) | (refine Below.alloc ?_ (by (first | exact Nat.le_refl _ | omega | (simp <;> omega) | simp)) _) | (refine below_draws ?_ _) | exact h6 | (refine Below.trans ?_ (Below.mono h6 (by (first | exact Nat.le_refl _ | omega | (simp <;> omega) | simp)))) | exact B7 | (refine Below.trans ?_ (Below.mono B7 (by (first | exact Nat.le_refl _ | omega | (simp <;> omega) | simp)))) | exact B8 | (refine Below.trans ?_ (Below.mono B8 (by (first | exact Nat.le_refl _ | omega | (simp <;> omega) | simp))))))⟩
set_option maxRecDepth 4000 in
set_option maxHeartbeats 6400000 in
theorem impl_dropNode (n e s x : Int) (v : Value) (ws : List W3) (w : World) (hr : ReadsW w v ws) :
    Calls Try.prog 46 #[.agg #[.int .i64 n, .int .i64 e, .int .i64 s, v], .int .i64 x] w (AnsN w (dropR n e s x ws)) := by
  obtain ⟨W0, hW0⟩ : ∃ W0, W0 = (w.alloc (.cells #[.int .i64 n, .int .i64 e, .int .i64 s, v] 28)).alloc (.cells #[.int .i64 0, .int .i64 0, .int .i64 0, .slice none 0 0] 28) := ⟨_, rfl⟩
  have hs0 : W0.heap.size = w.heap.size + 2 := by rw [hW0]; simp
  have HX : Hid (boxN W0 w.heap.size n e s v) := Lib.hid (by rw [hW0]; exact (boxN.new w n e s v 28).later (by (repeat (first | exact Below.refl _ _ | (refine Below.setCell ?_ (by (first | exact Nat.le_refl _ | omega | (simp <;> omega) | simp)) _) | (refine Below.alloc ?_ (by (first | exact Nat.le_refl _ | omega | (simp <;> omega) | simp)) _) | (refine below_draws ?_ _)))))
  have HZ : Hid (box4 W0 (w.heap.size + 1) (.int .i64 0) (.int .i64 0) (.int .i64 0) (.slice none 0 0)) := Lib.hid (by rw [hW0]; have h := box4.new (w.alloc (.cells #[.int .i64 n, .int .i64 e, .int .i64 s, v] 28)) (.int .i64 0) (.int .i64 0) (.int .i64 0) (.slice none 0 0) 28; simpa using h)
  have HB0 : Hid (Below w.heap.size w W0) := Lib.hid (by rw [hW0]; (repeat (first | exact Below.refl _ _ | (refine Below.setCell ?_ (by (first | exact Nat.le_refl _ | omega | (simp <;> omega) | simp)) _) | (refine Below.alloc ?_ (by (first | exact Nat.le_refl _ | omega | (simp <;> omega) | simp)) _) | (refine below_draws ?_ _))))
  have HR0 := Lib.hid (hr.later HB0.out)
  have HWN := Lib.hid (impl_wiresAt n e s x v ws W0 HR0.out)
  obtain ⟨x0, x1, x2, x3⟩ := HX.out
  have hwl := wnR_len n e s x ws
  have hiff : DropOk n e s x ws ↔ e ≤ x ∧ 1 ≤ (wnR n e s x ws).length ∧ (wnR n e s x ws).length ≤ 2 := by
    by_cases hb : netB n e s ws = true
    · have e1 := (netB_iff.1 hb).1.2.2.1
      by_cases hx : 0 ≤ x ∧ x < n
      · rw [wnR_yes hb hx]
        exact ⟨fun h => ⟨h.2.1, h.2.2.2.1, h.2.2.2.2⟩, fun h => ⟨hb, h.1, hx.2, h.2.1, h.2.2⟩⟩
      · rw [wnR_no (fun h => hx h.2)]
        exact ⟨fun h => absurd ⟨by have := h.2.1; omega, h.2.2.1⟩ hx, fun h => by simp at h⟩
    · rw [wnR_no (fun h => hb h.1)]
      exact ⟨fun h => absurd h.1 hb, fun h => by simp at h⟩
  by_cases hOk : DropOk n e s x ws
  · have h3 := hiff.1 hOk
    obtain ⟨N, rfl⟩ : ∃ N : Nat, n = N := ⟨n.toNat, by have := (netB_iff.1 hOk.1).1.1; omega⟩
    obtain ⟨X, rfl⟩ : ∃ X : Nat, x = X := ⟨x.toNat, by have := (netB_iff.1 hOk.1).1.2.2.1; have := hOk.2.1; omega⟩
    have HIM := Lib.hid (fun W h => impl_withoutNode N e s X v ws W h hOk)
    rw [dropR_yes hOk]
    simp only [Int.toNat_natCast]
    obtain ⟨n', e', s', out, bb, hR⟩ : ∃ n' e' s' out bb, redR ((N : Int) - 1) e (s * wAt ws (X : Int)) (meshR N ws X) = (n', e', s', out, bb) := ⟨_, _, _, _, _, rfl⟩
    simp only [hR] at HIM
    rw [hR]
    generalize wnR N e s X ws = Q at *
    have h31 : ¬ (X : Int) < e := by omega
    have h32 : ¬ (Q.length : Int) < 1 := by omega
    have h33 : ¬ (2 : Int) < Q.length := by omega
    clear hiff hOk hR hr
    go_enter Try.func46, Try.ntmps46
    go_wp2_with fail
    rw [← hW0]
    clear hW0
    refine HWN.out.mono ?_
    rintro en w1 ⟨v1, rfl, o1, B1⟩
    obtain ⟨p1, c1, rfl, _, _⟩ := (ReadsI.of_own o1).shape
    obtain ⟨x0, x1, x2, x3⟩ := HX.out.later B1
    have S1 := B1.size
    clear o1
    go_wp2_with fail
    refine (HIM.out _ (HR0.out.later B1)).mono ?_
    rintro en w2 ⟨p2, c2, rfl, o2, B2⟩
    have S2 := B2.size
    obtain ⟨z0, z1, z2, z3, f0, f1, f2, f3, -⟩ := (HZ.out.later B1).later B2
    have HO2 := Lib.hid o2
    clear x0 x1 x2 x3 o2
    go_wp2
    exact bodyPost_ret (v := .tuple #[.agg #[.int .i64 n', .int .i64 e', .int .i64 s', .slice p2 out.length c2], .bool bb]) (by simp (maxDischargeDepth := 8) [results, Try.results46, go_sem, *]) rfl ⟨p2, c2, rfl, by refine owns_mono (base := w1.heap.size) ?_ (by omega); have o2 := HO2.out; ((repeat (refine ownsRow_setCell_below ?_ ?_ _; rotate_left; focus (first | omega | (simp; done) | (simp; omega)))); with_reducible exact o2), by have h0 := HB0.out; (repeat (first | exact Below.refl _ _ | (refine Below.setCell ?_ (by (first | exact Nat.le_refl _ | omega | (simp <;> omega) | simp)) _) | (refine Below.alloc ?_ (by (first | exact Nat.le_refl _ | omega | (simp <;> omega) | simp)) _) | (refine below_draws ?_ _) | exact h0 | (refine Below.trans ?_ (Below.mono h0 (by (first | exact Nat.le_refl _ | omega | (simp <;> omega) | simp)))) | exact B1 | (refine Below.trans ?_ (Below.mono B1 (by (first | exact Nat.le_refl _ | omega | (simp <;> omega) | simp)))) | exact B2 | (refine Below.trans ?_ (Below.mono B2 (by (first | exact Nat.le_refl _ | omega | (simp <;> omega) | simp))))))⟩
  · rw [dropR_no hOk]
    have h3 : ¬ (e ≤ x ∧ 1 ≤ (wnR n e s x ws).length ∧ (wnR n e s x ws).length ≤ 2) := fun h => hOk (hiff.2 h)
    generalize wnR n e s x ws = Q at *
    clear hiff hOk hr
    by_cases h4 : x < e
    · clear h3
      go_enter Try.func46, Try.ntmps46
      go_wp2_with fail
      rw [← hW0]
      clear hW0
      refine HWN.out.mono ?_
      rintro en w1 ⟨v1, rfl, o1, B1⟩
      obtain ⟨p1, c1, rfl, _, _⟩ := (ReadsI.of_own o1).shape
      obtain ⟨x0, x1, x2, x3⟩ := HX.out.later B1
      obtain ⟨z0, z1, z2, z3, f0, f1, f2, f3, -⟩ := HZ.out.later B1
      have S1 := B1.size
      clear o1
      go_wp2
      exact bodyPost_ret (v := .tuple #[.agg #[.int .i64 0, .int .i64 0, .int .i64 0, .slice none 0 0], .bool false]) (by simp (maxDischargeDepth := 8) [results, Try.results46, go_sem, *]) rfl (ansN_no (by have h0 := HB0.out; (repeat (first | exact Below.refl _ _ | (refine Below.setCell ?_ (by (first | exact Nat.le_refl _ | omega | (simp <;> omega) | simp)) _) | (refine Below.alloc ?_ (by (first | exact Nat.le_refl _ | omega | (simp <;> omega) | simp)) _) | (refine below_draws ?_ _) | exact h0 | (refine Below.trans ?_ (Below.mono h0 (by (first | exact Nat.le_refl _ | omega | (simp <;> omega) | simp)))) | exact B1 | (refine Below.trans ?_ (Below.mono B1 (by (first | exact Nat.le_refl _ | omega | (simp <;> omega) | simp))))))))
    by_cases h5 : (Q.length : Int) < 1
    · clear h3
      go_enter Try.func46, Try.ntmps46
      go_wp2_with fail
      rw [← hW0]
      clear hW0
      refine HWN.out.mono ?_
      rintro en w1 ⟨v1, rfl, o1, B1⟩
      obtain ⟨p1, c1, rfl, _, _⟩ := (ReadsI.of_own o1).shape
      obtain ⟨x0, x1, x2, x3⟩ := HX.out.later B1
      obtain ⟨z0, z1, z2, z3, f0, f1, f2, f3, -⟩ := HZ.out.later B1
      have S1 := B1.size
      clear o1
      go_wp2
      exact bodyPost_ret (v := .tuple #[.agg #[.int .i64 0, .int .i64 0, .int .i64 0, .slice none 0 0], .bool false]) (by simp (maxDischargeDepth := 8) [results, Try.results46, go_sem, *]) rfl (ansN_no (by have h0 := HB0.out; (repeat (first | exact Below.refl _ _ | (refine Below.setCell ?_ (by (first | exact Nat.le_refl _ | omega | (simp <;> omega) | simp)) _) | (refine Below.alloc ?_ (by (first | exact Nat.le_refl _ | omega | (simp <;> omega) | simp)) _) | (refine below_draws ?_ _) | exact h0 | (refine Below.trans ?_ (Below.mono h0 (by (first | exact Nat.le_refl _ | omega | (simp <;> omega) | simp)))) | exact B1 | (refine Below.trans ?_ (Below.mono B1 (by (first | exact Nat.le_refl _ | omega | (simp <;> omega) | simp))))))))
    have h6 : (2 : Int) < Q.length := by omega
    clear h3
    go_enter Try.func46, Try.ntmps46
    go_wp2_with fail
    rw [← hW0]
    clear hW0
    refine HWN.out.mono ?_
    rintro en w1 ⟨v1, rfl, o1, B1⟩
    obtain ⟨p1, c1, rfl, _, _⟩ := (ReadsI.of_own o1).shape
    obtain ⟨x0, x1, x2, x3⟩ := HX.out.later B1
    obtain ⟨z0, z1, z2, z3, f0, f1, f2, f3, -⟩ := HZ.out.later B1
    have S1 := B1.size
    clear o1
    go_wp2
    exact bodyPost_ret (v := .tuple #[.agg #[.int .i64 0, .int .i64 0, .int .i64 0, .slice none 0 0], .bool false]) (by simp (maxDischargeDepth := 8) [results, Try.results46, go_sem, *]) rfl (ansN_no (by have h0 := HB0.out; (repeat (first | exact Below.refl _ _ | (refine Below.setCell ?_ (by (first | exact Nat.le_refl _ | omega | (simp <;> omega) | simp)) _) | (refine Below.alloc ?_ (by (first | exact Nat.le_refl _ | omega | (simp <;> omega) | simp)) _) | (refine below_draws ?_ _) | exact h0 | (refine Below.trans ?_ (Below.mono h0 (by (first | exact Nat.le_refl _ | omega | (simp <;> omega) | simp)))) | exact B1 | (refine Below.trans ?_ (Below.mono B1 (by (first | exact Nat.le_refl _ | omega | (simp <;> omega) | simp))))))))
end Go.Proofs.Ytfpalnmblmjgjaa
