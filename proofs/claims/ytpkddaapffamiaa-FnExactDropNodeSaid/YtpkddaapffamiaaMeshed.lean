/-
  meshedWeights and rescaledNet in the program.
-/
import Derived.Test.YtpkddaapffamiaaStarMath
import Derived.Test.YtpkddaapffamiaaGStarS
import Derived.Test.YtpkddaapffamiaaDropFacts
import Derived.Test.YtpkddaapffamiaaPutWireImpl
namespace Go.Proofs.Ytpkddaapffamiaa
open Go.RowKit Go.Maps

theorem fRow_zero (g : Int → Int → Int) (v : Int) (f : Int → Int → Option Int) (l : List Int) : fRow g v f l 0 = f := rfl
theorem ends_pair {a v : Int} (h : a ≠ v) : Ends a v (min a v) (max a v) := by
  rw [Int.min_def, Int.max_def]
  rcases Int.lt_or_gt_of_ne h with h1 | h1
  · left; exact ⟨h1, by omega, by split <;> omega, by split <;> omega⟩
  · right; right; exact ⟨by omega, by omega, by split <;> omega, by split <;> omega⟩
set_option maxRecDepth 8000 in
set_option maxHeartbeats 12800000 in
theorem impl_meshed (N : Nat) (e s : Int) (X : Nat) (v : Value) (ws : List W3) (w : World) (hr : ReadsW w v ws) (hb : netB N e s ws = true) (hx : X < N) (hwp : 1 ≤ wAt ws (X : Int)) :
    Calls Try.prog 121 #[.agg #[.int .i64 N, .int .i64 e, .int .i64 s, v], .int .i64 X] w fun en w' => ∃ b f, en = .returned (.tuple #[.map (some b), .int .i64 (wAt ws (X : Int))]) ∧ w.heap.size ≤ b ∧ owns2 w' b 60 f ∧ Lists f (meshR N ws X) ∧ Below w.heap.size w w' := by
  have hV := netB_iff.1 hb
  have n5 := hV.1.2.1
  have hlen := wiresV_len hV.2.1 n5
  have hwa := wAt_le hV.2.1 n5 (X : Int) (by omega) (by omega)
  have HW := Lib.hid hV.2.1
  obtain ⟨p0, cap0, rfl⟩ := hr.shape
  have hmul := fun W h => multW_any N e s (wAt ws (X : Int)) (.slice p0 ws.length cap0) ws W h hV.2.1 n5 hwa.1 (by omega) (by omega)
  obtain ⟨HH, hHL, hHG, hML, -, -⟩ := star_lists hV.2.1 (by omega) X hx hwp
  have hwnE : wnR N e s X ws = nearK ws (X : Int) N := by rw [wnR_yes hb ⟨by omega, by omega⟩, Int.toNat_natCast]
  have hWN := fun W h => impl_wiresAt N e s X (.slice p0 ws.length cap0) ws W h
  have hWA := fun W h => impl_wAt N e s X (.slice p0 ws.length cap0) ws W h
  rw [hwnE] at hWN
  have hnm := fun b hb => nearK_mem (ws := ws) (v := (X : Int)) (k := N) (u := b) hb
  have hne := near_ne' (ws := ws) (N := N) (v := (X : Int))
  have hnl := nearK_length ws (X : Int) N
  have hsorted := nearK_sorted ws (X : Int) N
  have hpr := prodW_le (v := (X : Int)) hV.2.1
  have hFS := fun i (h : i < (nearK ws (X : Int) N).length) => fRow_succ (g := prodW ws (X : Int)) (v := (X : Int)) (f := fAll (mulW ws (wAt ws (X : Int)))) h
  generalize meshR N ws X = MR at *
  generalize nearK ws (X : Int) N = L at *
  generalize wAt ws (X : Int) = SM at *
  have HMUL := Lib.hid hmul; have HHL := Lib.hid hHL; have HHG := Lib.hid hHG; have HML := Lib.hid hML
  have HWN := Lib.hid hWN; have HWA := Lib.hid hWA; have HNM := Lib.hid hnm; have HNE := Lib.hid hne; have HNL := Lib.hid hnl; have HSRT := Lib.hid hsorted; have HPR := Lib.hid hpr; have HFS := Lib.hid hFS
  have HR := Lib.hid hr
  have HLEN := Lib.hid hlen
  clear hr hV hb hwnE hmul hHL hHG hML hWN hWA hnm hne hsorted hpr hFS hnl hlen
  obtain ⟨W0, hW0⟩ : ∃ W0, W0 = (w.alloc (.cells #[.int .i64 N, .int .i64 e, .int .i64 s, .slice p0 ws.length cap0] 25)).alloc (.cells #[.int .i64 X] 3) := ⟨_, rfl⟩
  have hs0 : W0.heap.size = w.heap.size + 2 := by rw [hW0]; simp
  have HX : Hid (boxN W0 w.heap.size N e s (.slice p0 ws.length cap0)) := Lib.hid (by rw [hW0]; exact (boxN.new w N e s (.slice p0 ws.length cap0) 25).later (by (repeat (first | exact Below.refl _ _ | (refine Below.setCell ?_ (by (first | exact Nat.le_refl _ | omega | (simp <;> omega) | simp)) _) | (refine Below.alloc ?_ (by (first | exact Nat.le_refl _ | omega | (simp <;> omega) | simp)) _) | (refine below_draws ?_ _)))))
  have HV : Hid (W0.cell? ⟨w.heap.size + 1, 0, none⟩ = some (.int .i64 X)) := Lib.hid (by rw [hW0]; simp [go_sem])
  have HB0 : Hid (Below w.heap.size w W0) := Lib.hid (by rw [hW0]; (repeat (first | exact Below.refl _ _ | (refine Below.setCell ?_ (by (first | exact Nat.le_refl _ | omega | (simp <;> omega) | simp)) _) | (refine Below.alloc ?_ (by (first | exact Nat.le_refl _ | omega | (simp <;> omega) | simp)) _) | (refine below_draws ?_ _))))
  have hS : W0.cell? ⟨w.heap.size, 0, none⟩ = some (.int .i64 N) ∧ W0.cell? ⟨w.heap.size, 1, none⟩ = some (.int .i64 e) ∧ W0.cell? ⟨w.heap.size, 2, none⟩ = some (.int .i64 s) ∧ W0.cell? ⟨w.heap.size, 3, none⟩ = some (.slice p0 ws.length cap0) ∧ W0.cell? ⟨w.heap.size + 1, 0, none⟩ = some (.int .i64 X) ∧ W0.cell? ⟨w.heap.size + 1, 0, none⟩ = some (.int .i64 X) ∧ W0.heap.size ≤ W0.heap.size ∧ W0.heap.size ≤ W0.heap.size ∧ Below W0.heap.size W0 W0 := by
    obtain ⟨x0, x1, x2, x3⟩ := HX.out
    exact ⟨x0, x1, x2, x3, HV.out, HV.out, Nat.le_refl _, Nat.le_refl _, Below.refl _ _⟩
  replace hS := k6_drew hS
  go_enter Try.func121, Try.ntmps121
  go_wp2
  change Code.wp _ _ _ _ (World.alloc _ _)
  rw [← hW0]
  clear hW0
  go_region_held3 (fun w' => w'.cell? ⟨w.heap.size, 0, none⟩ = some (.int .i64 N) ∧ w'.cell? ⟨w.heap.size, 1, none⟩ = some (.int .i64 e) ∧ w'.cell? ⟨w.heap.size, 2, none⟩ = some (.int .i64 s) ∧ w'.cell? ⟨w.heap.size, 3, none⟩ = some (.slice p0 ws.length cap0) ∧ w'.cell? ⟨w.heap.size + 1, 0, none⟩ = some (.int .i64 X) ∧ w'.cell? ⟨w.heap.size + 1, 0, none⟩ = some (.int .i64 X) ∧ W0.heap.size ≤ w'.heap.size ∧ W0.heap.size ≤ W0.heap.size ∧ Below W0.heap.size W0 w')
    (first | exact hS)
    (first | (go_at_call 93; refine (HWN.out _ ((HR.out.later HB0.out).later hS.2.2.2.2.2.2.2.2)).mono ?_; rintro en w1 ⟨v1, rfl, o1, B1⟩; replace hS := k6_keep B1 hS) | (go_at_call 111; refine (HWA.out _ ((HR.out.later HB0.out).later hS.2.2.2.2.2.2.2.2)).mono ?_; rintro en w2 ⟨rfl, B2⟩; replace hS := k6_keep B2 hS))
  have hBW := hS.2.2.2.2.2.2.2.2
  have hs2 := hS.2.2.2.2.2.2.1
  have HRL := Lib.hid (ReadsI.of_own (owns_later o1 B2))
  have HX2 := Lib.hid (HX.out.later hBW)
  have HV2 : Hid (w2.cell? ⟨w.heap.size + 1, 0, none⟩ = some (.int .i64 X)) := Lib.hid hS.2.2.2.2.1
  have HB2 : Hid (Below w.heap.size w w2) := Lib.hid (HB0.out.trans (hBW.mono HB0.out.size))
  obtain ⟨pl, cl, rfl, hcl1, hcl2⟩ := HRL.out.shape
  have HRW := Lib.hid ((HR.out.later HB0.out).later hBW)
  obtain ⟨x0, x1, x2, x3⟩ := HX2.out
  have v0 := HV2.out
  clear hS o1 B1 B2 hBW
  go_wp2_with fail
  refine (HMUL.out _ HRW.out).mono ?_
  rintro en w3 ⟨bm, rfl, hbm, O3, B3⟩
  have HO3 := Lib.hid (fRow_zero (prodW ws (X : Int)) (X : Int) (fAll (mulW ws SM)) L ▸ (O3.mono (show ws.length ≤ 40 by have := HLEN.out; omega)))
  have hs3 := B3.size
  have hbm3 : bm < w3.heap.size := O3.lt
  have HB3 := Lib.hid (HB2.out.trans (B3.mono HB2.out.size))
  have HB32 := Lib.hid B3
  clear O3 B3 x0 x1 x2 x3 v0
  go_wp2
  go_loopw [24] (fun iv wi => ∃ (i : Nat), i ≤ L.length ∧ iv = .int .i64 i ∧ Hid (owns2 wi bm (40 + i * 4) (fRow (prodW ws (X : Int)) (X : Int) (fAll (mulW ws SM)) L i)) ∧ bm < wi.heap.size ∧ Hid (Below w2.heap.size w2 wi)) (fun iv _ => L.length - (intOf iv).toNat)
  case atStart => exact ⟨0, Nat.zero_le _, rfl, HO3, hbm3, HB32⟩
  case round =>
    clear HO3
    obtain ⟨i, hi, rfl, hOW, hsz, hB⟩ := hrel
    have hszw := hB.out.size
    obtain ⟨x0, x1, x2, x3⟩ := HX2.out.later hB.out
    have v0 : wr.cell? ⟨w.heap.size + 1, 0, none⟩ = some (.int .i64 X) := (hB.out.cell (p := ⟨w.heap.size + 1, 0, none⟩) (show w.heap.size + 1 < w2.heap.size by omega)).trans HV2.out
    have RLr := HRL.out.later hB.out
    by_cases hlt : i < L.length
    · obtain ⟨gl, ol, cl', hpe, hc1, hc2, hgl, hcell⟩ := RLr.pos (by omega)
      simp only [Value.slice.injEq, true_and] at hpe
      obtain ⟨rfl, rfl⟩ := hpe
      have ca := hcell i hlt
      have HRL2 := Lib.hid (HRL.out.take i (by omega))
      have hicl : i ≤ cl := by omega
      have htl : (L.take i).length = i := by rw [List.length_take]; omega
      have HFI := Lib.hid (HFS.out i hlt)
      have hnl := HNL.out
      obtain ⟨bm1, bm2, bm3⟩ := HNM.out (L[i]'hlt) (List.getElem_mem _)
      have hbx := HNE.out (L[i]'hlt) (List.getElem_mem _)
      obtain ⟨bI, hbI⟩ : ∃ b : Int, L[i]'hlt = b := ⟨_, rfl⟩
      have HBI := Lib.hid hbI
      rw [hbI] at bm1 bm2 bm3 hbx ca
      clear hcell RLr hbI
      have HPD := Lib.hid (fun W => pairOf_any bI (X : Int) (min bI (X : Int)) (max bI (X : Int)) (ends_pair hbx) W)
      have HWL : Hid ((Lit.int .i64 (min bI (X : Int))).wf = true) := Lib.hid (wf_of (by omega) (by omega))
      have HWH : Hid ((Lit.int .i64 (max bI (X : Int))).wf = true) := Lib.hid (wf_of (by omega) (by omega))
      obtain ⟨lo, hlo⟩ : ∃ lo, min bI (X : Int) = lo := ⟨_, rfl⟩
      obtain ⟨hi', hhi⟩ : ∃ hi', max bI (X : Int) = hi' := ⟨_, rfl⟩
      rw [hlo, hhi] at HPD
      rw [hlo] at HWL
      rw [hhi] at HWH
      have HLH := Lib.hid (And.intro hlo hhi)
      clear hlo hhi
      obtain ⟨wo, hwo⟩ : ∃ wo, wo = wr := ⟨_, rfl⟩
      subst hwo
      have HOW := Lib.hid hOW.out
      have HBo := Lib.hid hB.out
      go_wp2_with fail
      refine (HPD.out _).mono ?_
      rintro en wa ⟨rfl, Ba⟩
      have HO2 := Lib.hid (HOW.out.later Ba)
      have Sa := Ba.size
      have HBa := Lib.hid (HBo.out.trans (Ba.mono hszw))
      clear Ba x0 x1 x2 x3 v0 ca hB hOW
      go_wp2_with (at_delete; refine wpList_delete_pairs _ rfl _ _ rfl bm (40 + i * 4) _ rfl HO2.out rfl HWL.out HWH.out ?_; intro wd O6 G6)
      have HO6 := Lib.hid O6
      have S6 := G6.size
      have HBd := Lib.hid (Below.grown HBa.out G6 (by have := HBa.out.size; omega) (fun j hj => by cases hj; omega))
      clear O6 G6
      go_wp2
      go_loopw [37] (fun jv wi => ∃ (j : Nat), j ≤ i ∧ jv = .int .i64 j ∧ Hid (owns2 wi bm (40 + i * 4 + j) (fIn (prodW ws (X : Int)) bI (del2 (fRow (prodW ws (X : Int)) (X : Int) (fAll (mulW ws SM)) L i) lo hi') (L.take j))) ∧ bm < wi.heap.size ∧ Hid (Below w2.heap.size w2 wi)) (fun jv _ => i - (intOf jv).toNat)
      case atStart => exact ⟨0, Nat.zero_le _, rfl, Lib.hid (by rw [List.take_zero]; exact HO6.out), by omega, HBd⟩
      case round =>
        obtain ⟨j, hj, rfl, hOJ, hsz, hB⟩ := hrel
        obtain ⟨x0, x1, x2, x3⟩ := HX2.out.later hB.out
        have hszr := hB.out.size
        have v0 : wr.cell? ⟨w.heap.size + 1, 0, none⟩ = some (.int .i64 X) := (hB.out.cell (p := ⟨w.heap.size + 1, 0, none⟩) (show w.heap.size + 1 < w2.heap.size by omega)).trans HV2.out
        by_cases hjl : j < i
        · have cb := (HRL2.out.later hB.out).at j (by omega)
          rw [List.getElem_take] at cb
          have hjL : j < L.length := by omega
          obtain ⟨y0, y1, y2⟩ := HNM.out (L[j]'hjL) (List.getElem_mem _)
          have hyz := List.pairwise_iff_getElem.1 HSRT.out j i hjL hlt hjl
          have hpr := HPR.out (L[j]'hjL) (List.getElem_mem _) (L[i]'hlt) (List.getElem_mem _)
          have HFT := Lib.hid (fIn_take (g := prodW ws (X : Int)) (a := bI) (f := del2 (fRow (prodW ws (X : Int)) (X : Int) (fAll (mulW ws SM)) L i) lo hi') hjL)
          rw [HBI.out] at hyz hpr
          obtain ⟨A, hA⟩ : ∃ A : Int, L[j]'hjL = A := ⟨_, rfl⟩
          rw [hA] at y0 y1 y2 hyz hpr cb HFT
          clear hA
          have HO7 := Lib.hid hOJ.out
          obtain ⟨F0, hF0⟩ : ∃ F0, fIn (prodW ws (X : Int)) bI (del2 (fRow (prodW ws (X : Int)) (X : Int) (fAll (mulW ws SM)) L i) lo hi') (L.take j) = F0 := ⟨_, rfl⟩
          rw [hF0] at HO7 HFT
          clear hF0 hOJ
          have HE : Hid (Ends bI A A bI) := Lib.hid (.inr (.inr ⟨by omega, by omega, rfl, rfl⟩))
          have HWAw : Hid ((Lit.int .i64 A).wf = true) := Lib.hid (wf_of (by omega) (by omega))
          have HWBw : Hid ((Lit.int .i64 bI).wf = true) := Lib.hid (wf_of (by omega) (by omega))
          have HB1 := Lib.hid (fun W h => impl_wBtw N e s bI X (.slice p0 ws.length cap0) ws W h)
          have HB2' := Lib.hid (fun W h => impl_wBtw N e s A X (.slice p0 ws.length cap0) ws W h)
          have HRw := Lib.hid (HRW.out.later hB.out)
          have HPE : Hid (wBtw ws bI (X : Int) * wBtw ws A (X : Int) = prodW ws (X : Int) A bI) := Lib.hid (by unfold prodW; rw [wBtw_comm ws bI, wBtw_comm ws A, Int.mul_comm])
          rw [← HPE.out] at hpr
          generalize wBtw ws bI (X : Int) = WB1 at *
          generalize wBtw ws A (X : Int) = WA1 at *
          have hmk : IntKind.i64.wrap (WB1 * WA1) = WB1 * WA1 := IntWalk.i64_in _ (by omega)
          have hmk2 : wrap64 (WB1 * WA1) = WB1 * WA1 := by unfold wrap64; omega
          have HOW2 := HO7
          have HSK : Hid (∀ W, Below wr.heap.size wr W → W.cell? ⟨w.heap.size, 0, none⟩ = some (.int .i64 N) ∧ W.cell? ⟨w.heap.size, 1, none⟩ = some (.int .i64 e) ∧ W.cell? ⟨w.heap.size, 2, none⟩ = some (.int .i64 s) ∧ W.cell? ⟨w.heap.size, 3, none⟩ = some (.slice p0 ws.length cap0) ∧ W.cell? ⟨w.heap.size + 1, 0, none⟩ = some (.int .i64 X) ∧ (Instr.lookup 126 (.map (some bm)) (.agg #[.int .i64 A, .int .i64 bI]) false).run Try.prog W = .ok (.int .i64 ((F0 A bI).getD 0)) W) := Lib.hid (fun W hb => by
            obtain ⟨st, w9, hl, -⟩ := run_add (HOW2.out.later hb) (by unfold maxLen; omega) HWAw.out HWBw.out
            exact ⟨(hb.cell (World.block_lt_of_cell? wr _ x0)).trans x0, (hb.cell (World.block_lt_of_cell? wr _ x1)).trans x1, (hb.cell (World.block_lt_of_cell? wr _ x2)).trans x2, (hb.cell (World.block_lt_of_cell? wr _ x3)).trans x3, (hb.cell (World.block_lt_of_cell? wr _ v0)).trans v0, hl⟩)
          have HD0 : Below wr.heap.size wr wr.drew := below_drew wr
          have hS0 := HSK.out wr.drew HD0
          have HBD := Lib.hid HD0
          clear x0 x1 x2 x3 v0 HD0 HO7
          go_wp2
          refine wp_region_F 17 (fun W => W.cell? ⟨w.heap.size, 0, none⟩ = some (.int .i64 N) ∧ W.cell? ⟨w.heap.size, 1, none⟩ = some (.int .i64 e) ∧ W.cell? ⟨w.heap.size, 2, none⟩ = some (.int .i64 s) ∧ W.cell? ⟨w.heap.size, 3, none⟩ = some (.slice p0 ws.length cap0) ∧ W.cell? ⟨w.heap.size + 1, 0, none⟩ = some (.int .i64 X) ∧ (Instr.lookup 126 (.map (some bm)) (.agg #[.int .i64 A, .int .i64 bI]) false).run Try.prog W = .ok (.int .i64 ((F0 A bI).getD 0)) W) (by kernel_rfl) hS0 ?_
          clear hS0
          intro hS
          refine takeF_on (i := 0) (d := some 41) (v := .map (some bm)) rfl rfl (by kernel_rfl) (fun _ _ _ h => h) (by rfl) (by (intro w hSw; (try dsimp only at hSw); go_simp)) (by assumption) ?_
          try simp only [Act.put, List.setIfInBounds_toArray, List.set_cons_zero, List.set_cons_succ]
          refine takeF_on (i := 1) (d := some 42) (v := .int .i64 bI) rfl rfl (by kernel_rfl) (fun _ _ _ h => h) (by rfl) (by (intro w hSw; (try dsimp only at hSw); go_simp)) (by assumption) ?_
          try simp only [Act.put, List.setIfInBounds_toArray, List.set_cons_zero, List.set_cons_succ]
          refine takeF_on (i := 2) (d := some 43) (v := .int .i64 A) rfl rfl (by kernel_rfl) (fun _ _ _ h => h) (by rfl) (by (intro w hSw; (try dsimp only at hSw); go_simp)) (by assumption) ?_
          try simp only [Act.put, List.setIfInBounds_toArray, List.set_cons_zero, List.set_cons_succ]
          refine takeF_on (i := 5) (d := some 46) (v := .agg #[.int .i64 N, .int .i64 e, .int .i64 s, .slice p0 ws.length cap0]) rfl rfl (by kernel_rfl) (fun _ _ _ h => h) (by rfl) (by (intro w hSw; (try dsimp only at hSw); go_simp)) (by assumption) ?_
          try simp only [Act.put, List.setIfInBounds_toArray, List.set_cons_zero, List.set_cons_succ]
          refine takeF_on (i := 6) (d := some 47) (v := .int .i64 bI) rfl rfl (by kernel_rfl) (fun _ _ _ h => h) (by rfl) (by (intro w hSw; (try dsimp only at hSw); go_simp)) (by assumption) ?_
          try simp only [Act.put, List.setIfInBounds_toArray, List.set_cons_zero, List.set_cons_succ]
          refine takeF_on (i := 7) (d := some 48) (v := .int .i64 X) rfl rfl (by kernel_rfl) (fun _ _ _ h => h) (by rfl) (by (intro w hSw; (try dsimp only at hSw); go_simp)) (by assumption) ?_
          try simp only [Act.put, List.setIfInBounds_toArray, List.set_cons_zero, List.set_cons_succ]
          refine takeF_on (i := 9) (d := some 50) (v := .agg #[.int .i64 N, .int .i64 e, .int .i64 s, .slice p0 ws.length cap0]) rfl rfl (by kernel_rfl) (fun _ _ _ h => h) (by rfl) (by (intro w hSw; (try dsimp only at hSw); go_simp)) (by assumption) ?_
          try simp only [Act.put, List.setIfInBounds_toArray, List.set_cons_zero, List.set_cons_succ]
          refine takeF_on (i := 10) (d := some 51) (v := .int .i64 A) rfl rfl (by kernel_rfl) (fun _ _ _ h => h) (by rfl) (by (intro w hSw; (try dsimp only at hSw); go_simp)) (by assumption) ?_
          try simp only [Act.put, List.setIfInBounds_toArray, List.set_cons_zero, List.set_cons_succ]
          refine takeF_on (i := 11) (d := some 52) (v := .int .i64 X) rfl rfl (by kernel_rfl) (fun _ _ _ h => h) (by rfl) (by (intro w hSw; (try dsimp only at hSw); go_simp)) (by assumption) ?_
          try simp only [Act.put, List.setIfInBounds_toArray, List.set_cons_zero, List.set_cons_succ]
          refine wpAnyF_ready (rs := [3]) (by kernel_rfl) (by simp) ?_
          refine AllReadyF.cons rfl (fun K hK => ?_) AllReadyF.nil
          go_simp
          with_reducible refine Calls.mono (pairOf_any _ _ A bI HE.out _) ?_
          rintro en wb ⟨rfl, Bb⟩
          have HBb := Lib.hid (HBD.out.trans (Bb.mono HBD.out.size))
          replace hS := HSK.out _ HBb.out
          go_wp2_with fail
          refine hK.out _ _ hS (fun hHeld => ?_)
          clear hK K hHeld
          try simp only [Act.put, List.setIfInBounds_toArray, List.set_cons_zero, List.set_cons_succ]
          refine takeF_on (i := 4) (d := some 45) (v := .int .i64 ((F0 A bI).getD 0)) rfl rfl (by kernel_rfl) (fun _ _ _ h => h) (by rfl) (by (intro w hSw; (try dsimp only at hSw); go_simp)) (by assumption) ?_
          try simp only [Act.put, List.setIfInBounds_toArray, List.set_cons_zero, List.set_cons_succ]
          refine wpAnyF_ready (rs := [8]) (by kernel_rfl) (by simp) ?_
          refine AllReadyF.cons rfl (fun K hK => ?_) AllReadyF.nil
          go_simp
          with_reducible refine Calls.mono (HB1.out _ (HRw.out.later HBb.out)) ?_
          rintro en wc ⟨rfl, Bc⟩
          have HBc := Lib.hid (HBb.out.trans (Bc.mono HBb.out.size))
          replace hS := HSK.out _ HBc.out
          go_wp2_with fail
          refine hK.out _ _ hS (fun hHeld => ?_)
          clear hK K hHeld
          try simp only [Act.put, List.setIfInBounds_toArray, List.set_cons_zero, List.set_cons_succ]
          refine wpAnyF_ready (rs := [12]) (by kernel_rfl) (by simp) ?_
          refine AllReadyF.cons rfl (fun K hK => ?_) AllReadyF.nil
          go_simp
          with_reducible refine Calls.mono (HB2'.out _ (HRw.out.later HBc.out)) ?_
          rintro en wd ⟨rfl, Bd⟩
          have HBd := Lib.hid (HBc.out.trans (Bd.mono HBc.out.size))
          replace hS := HSK.out _ HBd.out
          go_wp2_with fail
          refine hK.out _ _ hS (fun hHeld => ?_)
          clear hK K hHeld
          try simp only [Act.put, List.setIfInBounds_toArray, List.set_cons_zero, List.set_cons_succ]
          refine takeF_on (i := 13) (d := some 54) (v := .int .i64 (WB1 * WA1)) rfl rfl (by kernel_rfl) (fun _ _ _ h => h) (by rfl) (by (intro w hSw; (try dsimp only at hSw); go_simp)) (by assumption) ?_
          try simp only [Act.put, List.setIfInBounds_toArray, List.set_cons_zero, List.set_cons_succ]
          refine takeF_on (i := 14) (d := some 55) (v := .int .i64 (IntKind.i64.wrap ((F0 A bI).getD 0 + WB1 * WA1))) rfl rfl (by kernel_rfl) (fun _ _ _ h => h) (by rfl) (by (intro w hSw; (try dsimp only at hSw); go_simp)) (by assumption) ?_
          try simp only [Act.put, List.setIfInBounds_toArray, List.set_cons_zero, List.set_cons_succ]
          obtain ⟨st, w3, hl2, hme, hl3, hg3, hst⟩ := run_add (HOW2.out.later HBd.out) (by unfold maxLen; omega) HWAw.out HWBw.out
          obtain ⟨w4, hes, hown4, hg4⟩ := hst (IntKind.i64.wrap ((F0 A bI).getD 0 + WB1 * WA1)) (wf_wrap _)
          refine wpAnyF_ready (rs := [15]) (by kernel_rfl) (by simp) ?_
          refine AllReadyF.cons rfl (fun K hK => ?_) AllReadyF.nil
          go_simp
          have hSm := hS
          replace hS := (show w3.cell? ⟨w.heap.size, 0, none⟩ = some (.int .i64 N) ∧ w3.cell? ⟨w.heap.size, 1, none⟩ = some (.int .i64 e) ∧ w3.cell? ⟨w.heap.size, 2, none⟩ = some (.int .i64 s) ∧ w3.cell? ⟨w.heap.size, 3, none⟩ = some (.slice p0 ws.length cap0) ∧ w3.cell? ⟨w.heap.size + 1, 0, none⟩ = some (.int .i64 X) ∧ (Instr.lookup 126 (.map (some bm)) (.agg #[.int .i64 A, .int .i64 bI]) false).run Try.prog w3 = .ok (.int .i64 ((F0 A bI).getD 0)) w3 from ⟨hg3.cell hSm.1 (by simp; omega), hg3.cell hSm.2.1 (by simp; omega), hg3.cell hSm.2.2.1 (by simp; omega), hg3.cell hSm.2.2.2.1 (by simp; omega), hg3.cell hSm.2.2.2.2.1 (by simp; omega), hl3⟩)
          refine hK.out _ _ hS (fun hHeld => ?_)
          clear hK K hHeld
          try simp only [Act.put, List.setIfInBounds_toArray, List.set_cons_zero, List.set_cons_succ]
          refine takeF_on (i := 16) (d := some 57) (v := .int .i64 st) rfl rfl (by kernel_rfl) (fun _ _ _ h => h) (by rfl) (by (intro w hSw; (try dsimp only at hSw); go_simp)) (by assumption) ?_
          try simp only [Act.put, List.setIfInBounds_toArray, List.set_cons_zero, List.set_cons_succ]
          refine wpAnyF_ready (rs := [17]) (by kernel_rfl) (by simp) ?_
          refine AllReadyF.last rfl (by decide) (fun K hK => ?_) AllReadyF.nil
          go_simp
          refine hK.out _ _ ?_
          clear hK K
          try simp only [Act.put]
          refine wpAnyF_done (by kernel_rfl) ?_
          clear hS
          go_wp2
          go_roundw
          case rel => exact ⟨j + 1, by omega, by go_num, Lib.hid (by
            rw [HFT.out]
            unfold add2
            rw [← wrap_eq, ← HPE.out]
            exact hown4), by have := hg4.size; have := Bd.size; have := Bc.size; have := Bb.size; simp at *; omega, Lib.hid (Below.grown (hB.out.trans (HBd.out.mono (by omega))) hg4 (by have := HBd.out.size; omega) (fun j hj => by cases hj; omega))⟩
          case measure => simp [intOf]; omega
        · obtain rfl : j = i := by omega
          go_wp2
          go_roundw
          case rel => exact ⟨j + 1, by omega, by go_num, Lib.hid (by
            rw [HFI.out, HBI.out]
            unfold delV
            rw [HLH.out.1, HLH.out.2]
            exact hOJ.out.mono (by omega)), hsz, hB⟩
          case measure => simp [intOf]; omega
    · obtain rfl : i = L.length := by omega
      have hnl := HNL.out
      have hrd := renum_drop X bm (40 + L.length * 4) _ HH (w.heap.size + 1) wr (by omega) hOW.out HHL.out (fun t ht => by
        have h := HHG.out.mem t ht
        exact ⟨wf_of (by omega) (by omega), wf_of (by omega) (by omega)⟩) v0 (fun t ht => by have h := HHG.out.mem t ht; omega) (by omega) (off_of HHG.out)
      have HRD := Lib.hid hrd
      clear hOW hrd x0 x1 x2 x3 v0
      go_wp2_with fail
      refine HRD.out.mono ?_
      rintro en w5 ⟨b5, rfl, hb5, O5, B5⟩
      go_wp2
      exact bodyPost_ret (v := .tuple #[.map (some b5), .int .i64 SM]) (by simp (maxDischargeDepth := 8) [results, Try.results121, go_sem, *]) rfl ⟨b5, _, rfl, by omega, O5.mono (by omega), HML.out, HB2.out.trans ((hB.out.trans (B5.mono hszw)).mono HB2.out.size)⟩
end Go.Proofs.Ytpkddaapffamiaa
