/-
  Star matrices in the program: two rows, two columns.
-/
import Derived.Test.YtpfnlnllaapjeaaStarRows
import Derived.Test.YtpfnlnllaapjeaaStarMat
import Derived.Test.YtpfnlnllaapjeaaGResp
import Derived.Test.YtpfnlnllaapjeaaGKeep
import Derived.BigQuiet
namespace Go.Proofs.Ytpfnlnllaapjeaa
open Go.RowKit Go.Maps

theorem readsI_two (w : World) (x y : Int) (t : TypeId) : ReadsI (w.alloc (.cells #[.int .i64 x, .int .i64 y] t)) (.slice (some ⟨w.heap.size, 0, none⟩) 2 2) [x, y] :=
  ⟨_, 2, rfl, Nat.le_refl _, by omega, .inr ⟨_, _, rfl, fun k hk => by
    rcases k with _ | _ | k
    · simp [go_sem]
    · simp [go_sem]
    · simp at hk; omega⟩⟩
set_option maxRecDepth 8000 in
set_option maxHeartbeats 12800000 in
theorem impl_prodAgree (v : Value) (m : MatP) (w : World) (hr : ReadsPP w v m) (hwf : ∀ k (h : k < m.length), WfL m[k]) (h1 : 1 ≤ m.length) (h5 : m.length ≤ 5) (hL : ∀ i, i < m.length → (rowP m i).length = m.length) :
    Calls Try.prog 150 #[v] w fun en w' => en = .returned (.bool (prodB m)) ∧ Below w.heap.size w w' := by
  obtain ⟨g, o, c, rfl, hg, hrows⟩ := rows_at hr (by omega) hL
  have HRW := Lib.hid hrows
  have HCW := Lib.hid (fun v q W h => impl_without m.length h5 v q W h)
  have HRA := Lib.hid (fun i j (hi : i < m.length) (hj : j < m.length) vr vo vq W h1 h2 h3 => impl_rowsAgree vr vo vq (rowP m i) (rowP m j) (woL m.length [(i : Int), (j : Int)]) W h1 h2 h3 (by rw [rowP_at hi]; exact hwf i hi) (by rw [rowP_at hj]; exact hwf j hj) (fun x hx => by
    have := woL_mem x hx
    rw [hL i hi, hL j hj]
    omega))
  clear hr hwf hrows hL
  go_enter Try.func150, Try.ntmps150
  go_wp2
  go_loopw [7] (fun iv wi => ∃ i : Nat, i ≤ m.length ∧ iv = .int .i64 i ∧ Hid (∀ a, a < i → ∀ k, k < a → rowsB (rowP m a) (rowP m k) (woL m.length [(a : Int), (k : Int)]) = true) ∧ Hid (Below w.heap.size w wi)) (fun iv _ => m.length - (intOf iv).toNat)
  case atStart => exact ⟨0, Nat.zero_le _, rfl, Lib.hid (fun a h => absurd h (by omega)), Lib.hid (Below.refl _ _)⟩
  case round =>
    obtain ⟨i, hi, rfl, hA, hB⟩ := hrel
    by_cases hil : i < m.length
    · obtain ⟨gi, oi, ci, a0, -, hri, -⟩ := HRW.out i hil
      have HA0 := Lib.hid a0
      have HRI := Lib.hid hri
      clear a0 hri
      obtain ⟨wu, hwu⟩ : ∃ wu, wu = wr := ⟨_, rfl⟩
      subst hwu
      go_wp2
      go_loopw [11] (fun jv wi => ∃ j : Nat, j ≤ i ∧ jv = .int .i64 j ∧ Hid (∀ k, k < j → rowsB (rowP m i) (rowP m k) (woL m.length [(i : Int), (k : Int)]) = true) ∧ Hid (Below w.heap.size w wi)) (fun jv _ => i - (intOf jv).toNat)
      case atStart => exact ⟨0, Nat.zero_le _, rfl, Lib.hid (fun a h => absurd h (by omega)), hB⟩
      case round =>
        clear hB
        obtain ⟨j, hj, rfl, hE, hB⟩ := hrel
        by_cases hjl : j < i
        · have hjm : j < m.length := by omega
          obtain ⟨gj, oj, cj, b0, -, hrj, -⟩ := HRW.out j hjm
          have HRJ := Lib.hid hrj
          have a0 := HA0.out
          rw [← hB.out.cell (p := ⟨g, o + i, none⟩) hg] at a0
          rw [← hB.out.cell (p := ⟨g, o + j, none⟩) hg] at b0
          have hS : wr.cell? ⟨g, o + i, none⟩ = some (.slice (some ⟨gi, oi, none⟩) m.length ci) ∧ wr.cell? ⟨g, o + j, none⟩ = some (.slice (some ⟨gj, oj, none⟩) m.length cj) ∧ wr.cell? ⟨g, o + j, none⟩ = some (.slice (some ⟨gj, oj, none⟩) m.length cj) ∧ wr.cell? ⟨g, o + j, none⟩ = some (.slice (some ⟨gj, oj, none⟩) m.length cj) ∧ wr.cell? ⟨g, o + j, none⟩ = some (.slice (some ⟨gj, oj, none⟩) m.length cj) ∧ wr.cell? ⟨g, o + j, none⟩ = some (.slice (some ⟨gj, oj, none⟩) m.length cj) ∧ wr.heap.size ≤ wr.heap.size ∧ wr.heap.size ≤ wr.heap.size ∧ Below wr.heap.size wr wr := ⟨a0, b0, b0, b0, b0, b0, Nat.le_refl _, Nat.le_refl _, Below.refl _ _⟩
          replace hS := k6_drew hS
          have hcr := fun W vq h1 h2 h3 => HRA.out i j hil hjm (.slice (some ⟨gi, oi, none⟩) m.length ci) (.slice (some ⟨gj, oj, none⟩) m.length cj) vq W h1 h2 h3
          obtain ⟨bb, hbb⟩ : ∃ bb, rowsB (rowP m i) (rowP m j) (woL m.length [(i : Int), (j : Int)]) = bb := ⟨_, rfl⟩
          simp only [hbb] at hcr
          have HCR := Lib.hid hcr
          clear hcr hrj a0 b0
          cases bb
          · have HN : Hid (Ending.returned (.bool false) = .returned (.bool (prodB m))) := Lib.hid (ret_of (prod_no (fun h => by have h2 := h i hil j hjl; rw [hbb] at h2; cases h2)))
            clear hbb
            go_wp2
            refine wp_region_held_drew (S := fun w' => w'.cell? ⟨g, o + i, none⟩ = some (.slice (some ⟨gi, oi, none⟩) m.length ci) ∧ w'.cell? ⟨g, o + j, none⟩ = some (.slice (some ⟨gj, oj, none⟩) m.length cj) ∧ w'.cell? ⟨g, o + j, none⟩ = some (.slice (some ⟨gj, oj, none⟩) m.length cj) ∧ w'.cell? ⟨g, o + j, none⟩ = some (.slice (some ⟨gj, oj, none⟩) m.length cj) ∧ w'.cell? ⟨g, o + j, none⟩ = some (.slice (some ⟨gj, oj, none⟩) m.length cj) ∧ w'.cell? ⟨g, o + j, none⟩ = some (.slice (some ⟨gj, oj, none⟩) m.length cj) ∧ wr.heap.size ≤ w'.heap.size ∧ wr.heap.size ≤ wr.heap.size ∧ Below wr.heap.size wr w') (by kernel_rfl) hS (fun hHeld => ?_)
            refine take_on (i := 0) (d := some 14) (v := .slice (some ⟨g, o, none⟩) m.length c) rfl rfl (by kernel_rfl) (by kernel_rfl) (by kernel_rfl) (fun _ _ _ h => h) (by rfl) (by (intro w hSw; (try dsimp only at hSw); go_simp)) (by assumption) ?_
            try simp only [Act.put, List.setIfInBounds_toArray, List.set_cons_zero, List.set_cons_succ]
            refine take_on (i := 1) (d := some 15) (v := .int .i64 i) rfl rfl (by kernel_rfl) (by kernel_rfl) (by kernel_rfl) (fun _ _ _ h => h) (by rfl) (by (intro w hSw; (try dsimp only at hSw); go_simp)) (by assumption) ?_
            try simp only [Act.put, List.setIfInBounds_toArray, List.set_cons_zero, List.set_cons_succ]
            refine take_on (i := 2) (d := some 16) (v := .pointer (some ⟨g, o + i, none⟩)) rfl rfl (by kernel_rfl) (by kernel_rfl) (by kernel_rfl) (fun _ _ _ h => h) (by rfl) (by (intro w hSw; (try dsimp only at hSw); go_simp)) (by assumption) ?_
            try simp only [Act.put, List.setIfInBounds_toArray, List.set_cons_zero, List.set_cons_succ]
            refine take_on (i := 3) (d := some 17) (v := .slice (some ⟨gi, oi, none⟩) m.length ci) rfl rfl (by kernel_rfl) (by kernel_rfl) (by kernel_rfl) (fun _ _ _ h => h) (by rfl) (by (intro w hSw; (try dsimp only at hSw); go_simp)) (by assumption) ?_
            try simp only [Act.put, List.setIfInBounds_toArray, List.set_cons_zero, List.set_cons_succ]
            refine take_on (i := 4) (d := some 18) (v := .slice (some ⟨g, o, none⟩) m.length c) rfl rfl (by kernel_rfl) (by kernel_rfl) (by kernel_rfl) (fun _ _ _ h => h) (by rfl) (by (intro w hSw; (try dsimp only at hSw); go_simp)) (by assumption) ?_
            try simp only [Act.put, List.setIfInBounds_toArray, List.set_cons_zero, List.set_cons_succ]
            refine take_on (i := 5) (d := some 19) (v := .int .i64 j) rfl rfl (by kernel_rfl) (by kernel_rfl) (by kernel_rfl) (fun _ _ _ h => h) (by rfl) (by (intro w hSw; (try dsimp only at hSw); go_simp)) (by assumption) ?_
            try simp only [Act.put, List.setIfInBounds_toArray, List.set_cons_zero, List.set_cons_succ]
            refine take_on (i := 6) (d := some 20) (v := .pointer (some ⟨g, o + j, none⟩)) rfl rfl (by kernel_rfl) (by kernel_rfl) (by kernel_rfl) (fun _ _ _ h => h) (by rfl) (by (intro w hSw; (try dsimp only at hSw); go_simp)) (by assumption) ?_
            try simp only [Act.put, List.setIfInBounds_toArray, List.set_cons_zero, List.set_cons_succ]
            refine take_on (i := 7) (d := some 21) (v := .slice (some ⟨gj, oj, none⟩) m.length cj) rfl rfl (by kernel_rfl) (by kernel_rfl) (by kernel_rfl) (fun _ _ _ h => h) (by rfl) (by (intro w hSw; (try dsimp only at hSw); go_simp)) (by assumption) ?_
            try simp only [Act.put, List.setIfInBounds_toArray, List.set_cons_zero, List.set_cons_succ]
            refine take_on (i := 8) (d := some 22) (v := .slice (some ⟨g, o, none⟩) m.length c) rfl rfl (by kernel_rfl) (by kernel_rfl) (by kernel_rfl) (fun _ _ _ h => h) (by rfl) (by (intro w hSw; (try dsimp only at hSw); go_simp)) (by assumption) ?_
            try simp only [Act.put, List.setIfInBounds_toArray, List.set_cons_zero, List.set_cons_succ]
            refine take_on (i := 9) (d := some 23) (v := .int .i64 m.length) rfl rfl (by kernel_rfl) (by kernel_rfl) (by kernel_rfl) (fun _ _ _ h => h) (by rfl) (by (intro w hSw; (try dsimp only at hSw); go_simp)) (by assumption) ?_
            try simp only [Act.put, List.setIfInBounds_toArray, List.set_cons_zero, List.set_cons_succ]
            refine take_on (i := 10) (d := some 24) (v := .int .i64 i) rfl rfl (by kernel_rfl) (by kernel_rfl) (by kernel_rfl) (fun _ _ _ h => h) (by rfl) (by (intro w hSw; (try dsimp only at hSw); go_simp)) (by assumption) ?_
            try simp only [Act.put, List.setIfInBounds_toArray, List.set_cons_zero, List.set_cons_succ]
            refine take_on (i := 11) (d := some 25) (v := .int .i64 j) rfl rfl (by kernel_rfl) (by kernel_rfl) (by kernel_rfl) (fun _ _ _ h => h) (by rfl) (by (intro w hSw; (try dsimp only at hSw); go_simp)) (by assumption) ?_
            try simp only [Act.put, List.setIfInBounds_toArray, List.set_cons_zero, List.set_cons_succ]
            refine wpAnyH_ready (rs := [12]) (by kernel_rfl) (by simp) ?_
            refine AllReadyH.cons rfl (fun K hK => ?_) AllReadyH.nil
            go_simp
            replace hS := k6_alloc (o := .cells #[.int .i64 i, .int .i64 j] 3) hS
            refine hK.out _ _ hS (fun hHeld => ?_)
            clear hK K hHeld
            try simp only [Act.put, List.setIfInBounds_toArray, List.set_cons_zero, List.set_cons_succ]
            refine wpAnyH_ready (rs := [13]) (by kernel_rfl) (by simp) ?_
            refine AllReadyH.cons rfl (fun K hK => ?_) AllReadyH.nil
            go_simp
            with_reducible refine Calls.mono (HCW.out _ _ _ (ReadsI.later (readsI_two wr _ _ _) (Below.refl _ _).drew)) ?_
            rintro en w2 ⟨vq, rfl, rq, B2⟩
            have HRQ := Lib.hid rq
            replace hS := k6_keep B2 hS
            clear rq B2
            go_wp2_with fail
            refine hK.out _ _ hS (fun hHeld => ?_)
            clear hK K hHeld
            try simp only [Act.put, List.setIfInBounds_toArray, List.set_cons_zero, List.set_cons_succ]
            refine wpAnyH_ready (rs := [14]) (by kernel_rfl) (by simp) ?_
            refine AllReadyH.cons rfl (fun K hK => ?_) AllReadyH.nil
            go_simp
            with_reducible refine Calls.mono (HCR.out _ vq (HRI.out.later (hB.out.trans (hS.2.2.2.2.2.2.2.2.mono hB.out.size))) (HRJ.out.later (hB.out.trans (hS.2.2.2.2.2.2.2.2.mono hB.out.size))) HRQ.out) ?_
            rintro en w3 ⟨rfl, B3⟩
            replace hS := k6_keep B3 hS
            clear B3
            go_wp2_with fail
            refine hK.out _ _ hS (fun hHeld => ?_)
            clear hK K hHeld
            try simp only [Act.put, List.setIfInBounds_toArray, List.set_cons_zero, List.set_cons_succ]
            refine take_on (i := 15) (d := some 29) (v := .bool true) rfl rfl (by kernel_rfl) (by kernel_rfl) (by kernel_rfl) (fun _ _ _ h => h) (by rfl) (by (intro w hSw; (try dsimp only at hSw); go_simp)) (by assumption) ?_
            try simp only [Act.put, List.setIfInBounds_toArray, List.set_cons_zero, List.set_cons_succ]
            refine wpAnyH_done (by kernel_rfl) ?_ _
            have HF := Lib.hid (hB.out.trans (hS.2.2.2.2.2.2.2.2.mono hB.out.size))
            clear hS
            go_wp2
            go_ret
            exact ⟨HN.out, HF.out⟩
          · have HY : Hid (∀ k, k < j + 1 → rowsB (rowP m i) (rowP m k) (woL m.length [(i : Int), (k : Int)]) = true) := Lib.hid (fun k hk => by
              by_cases e : k = j
              · subst e; exact hbb
              · exact hE.out k (by omega))
            clear hbb
            go_wp2
            refine wp_region_held_drew (S := fun w' => w'.cell? ⟨g, o + i, none⟩ = some (.slice (some ⟨gi, oi, none⟩) m.length ci) ∧ w'.cell? ⟨g, o + j, none⟩ = some (.slice (some ⟨gj, oj, none⟩) m.length cj) ∧ w'.cell? ⟨g, o + j, none⟩ = some (.slice (some ⟨gj, oj, none⟩) m.length cj) ∧ w'.cell? ⟨g, o + j, none⟩ = some (.slice (some ⟨gj, oj, none⟩) m.length cj) ∧ w'.cell? ⟨g, o + j, none⟩ = some (.slice (some ⟨gj, oj, none⟩) m.length cj) ∧ w'.cell? ⟨g, o + j, none⟩ = some (.slice (some ⟨gj, oj, none⟩) m.length cj) ∧ wr.heap.size ≤ w'.heap.size ∧ wr.heap.size ≤ wr.heap.size ∧ Below wr.heap.size wr w') (by kernel_rfl) hS (fun hHeld => ?_)
            refine take_on (i := 0) (d := some 14) (v := .slice (some ⟨g, o, none⟩) m.length c) rfl rfl (by kernel_rfl) (by kernel_rfl) (by kernel_rfl) (fun _ _ _ h => h) (by rfl) (by (intro w hSw; (try dsimp only at hSw); go_simp)) (by assumption) ?_
            try simp only [Act.put, List.setIfInBounds_toArray, List.set_cons_zero, List.set_cons_succ]
            refine take_on (i := 1) (d := some 15) (v := .int .i64 i) rfl rfl (by kernel_rfl) (by kernel_rfl) (by kernel_rfl) (fun _ _ _ h => h) (by rfl) (by (intro w hSw; (try dsimp only at hSw); go_simp)) (by assumption) ?_
            try simp only [Act.put, List.setIfInBounds_toArray, List.set_cons_zero, List.set_cons_succ]
            refine take_on (i := 2) (d := some 16) (v := .pointer (some ⟨g, o + i, none⟩)) rfl rfl (by kernel_rfl) (by kernel_rfl) (by kernel_rfl) (fun _ _ _ h => h) (by rfl) (by (intro w hSw; (try dsimp only at hSw); go_simp)) (by assumption) ?_
            try simp only [Act.put, List.setIfInBounds_toArray, List.set_cons_zero, List.set_cons_succ]
            refine take_on (i := 3) (d := some 17) (v := .slice (some ⟨gi, oi, none⟩) m.length ci) rfl rfl (by kernel_rfl) (by kernel_rfl) (by kernel_rfl) (fun _ _ _ h => h) (by rfl) (by (intro w hSw; (try dsimp only at hSw); go_simp)) (by assumption) ?_
            try simp only [Act.put, List.setIfInBounds_toArray, List.set_cons_zero, List.set_cons_succ]
            refine take_on (i := 4) (d := some 18) (v := .slice (some ⟨g, o, none⟩) m.length c) rfl rfl (by kernel_rfl) (by kernel_rfl) (by kernel_rfl) (fun _ _ _ h => h) (by rfl) (by (intro w hSw; (try dsimp only at hSw); go_simp)) (by assumption) ?_
            try simp only [Act.put, List.setIfInBounds_toArray, List.set_cons_zero, List.set_cons_succ]
            refine take_on (i := 5) (d := some 19) (v := .int .i64 j) rfl rfl (by kernel_rfl) (by kernel_rfl) (by kernel_rfl) (fun _ _ _ h => h) (by rfl) (by (intro w hSw; (try dsimp only at hSw); go_simp)) (by assumption) ?_
            try simp only [Act.put, List.setIfInBounds_toArray, List.set_cons_zero, List.set_cons_succ]
            refine take_on (i := 6) (d := some 20) (v := .pointer (some ⟨g, o + j, none⟩)) rfl rfl (by kernel_rfl) (by kernel_rfl) (by kernel_rfl) (fun _ _ _ h => h) (by rfl) (by (intro w hSw; (try dsimp only at hSw); go_simp)) (by assumption) ?_
            try simp only [Act.put, List.setIfInBounds_toArray, List.set_cons_zero, List.set_cons_succ]
            refine take_on (i := 7) (d := some 21) (v := .slice (some ⟨gj, oj, none⟩) m.length cj) rfl rfl (by kernel_rfl) (by kernel_rfl) (by kernel_rfl) (fun _ _ _ h => h) (by rfl) (by (intro w hSw; (try dsimp only at hSw); go_simp)) (by assumption) ?_
            try simp only [Act.put, List.setIfInBounds_toArray, List.set_cons_zero, List.set_cons_succ]
            refine take_on (i := 8) (d := some 22) (v := .slice (some ⟨g, o, none⟩) m.length c) rfl rfl (by kernel_rfl) (by kernel_rfl) (by kernel_rfl) (fun _ _ _ h => h) (by rfl) (by (intro w hSw; (try dsimp only at hSw); go_simp)) (by assumption) ?_
            try simp only [Act.put, List.setIfInBounds_toArray, List.set_cons_zero, List.set_cons_succ]
            refine take_on (i := 9) (d := some 23) (v := .int .i64 m.length) rfl rfl (by kernel_rfl) (by kernel_rfl) (by kernel_rfl) (fun _ _ _ h => h) (by rfl) (by (intro w hSw; (try dsimp only at hSw); go_simp)) (by assumption) ?_
            try simp only [Act.put, List.setIfInBounds_toArray, List.set_cons_zero, List.set_cons_succ]
            refine take_on (i := 10) (d := some 24) (v := .int .i64 i) rfl rfl (by kernel_rfl) (by kernel_rfl) (by kernel_rfl) (fun _ _ _ h => h) (by rfl) (by (intro w hSw; (try dsimp only at hSw); go_simp)) (by assumption) ?_
            try simp only [Act.put, List.setIfInBounds_toArray, List.set_cons_zero, List.set_cons_succ]
            refine take_on (i := 11) (d := some 25) (v := .int .i64 j) rfl rfl (by kernel_rfl) (by kernel_rfl) (by kernel_rfl) (fun _ _ _ h => h) (by rfl) (by (intro w hSw; (try dsimp only at hSw); go_simp)) (by assumption) ?_
            try simp only [Act.put, List.setIfInBounds_toArray, List.set_cons_zero, List.set_cons_succ]
            refine wpAnyH_ready (rs := [12]) (by kernel_rfl) (by simp) ?_
            refine AllReadyH.cons rfl (fun K hK => ?_) AllReadyH.nil
            go_simp
            replace hS := k6_alloc (o := .cells #[.int .i64 i, .int .i64 j] 3) hS
            refine hK.out _ _ hS (fun hHeld => ?_)
            clear hK K hHeld
            try simp only [Act.put, List.setIfInBounds_toArray, List.set_cons_zero, List.set_cons_succ]
            refine wpAnyH_ready (rs := [13]) (by kernel_rfl) (by simp) ?_
            refine AllReadyH.cons rfl (fun K hK => ?_) AllReadyH.nil
            go_simp
            with_reducible refine Calls.mono (HCW.out _ _ _ (ReadsI.later (readsI_two wr _ _ _) (Below.refl _ _).drew)) ?_
            rintro en w2 ⟨vq, rfl, rq, B2⟩
            have HRQ := Lib.hid rq
            replace hS := k6_keep B2 hS
            clear rq B2
            go_wp2_with fail
            refine hK.out _ _ hS (fun hHeld => ?_)
            clear hK K hHeld
            try simp only [Act.put, List.setIfInBounds_toArray, List.set_cons_zero, List.set_cons_succ]
            refine wpAnyH_ready (rs := [14]) (by kernel_rfl) (by simp) ?_
            refine AllReadyH.cons rfl (fun K hK => ?_) AllReadyH.nil
            go_simp
            with_reducible refine Calls.mono (HCR.out _ vq (HRI.out.later (hB.out.trans (hS.2.2.2.2.2.2.2.2.mono hB.out.size))) (HRJ.out.later (hB.out.trans (hS.2.2.2.2.2.2.2.2.mono hB.out.size))) HRQ.out) ?_
            rintro en w3 ⟨rfl, B3⟩
            replace hS := k6_keep B3 hS
            clear B3
            go_wp2_with fail
            refine hK.out _ _ hS (fun hHeld => ?_)
            clear hK K hHeld
            try simp only [Act.put, List.setIfInBounds_toArray, List.set_cons_zero, List.set_cons_succ]
            refine take_on (i := 15) (d := some 29) (v := .bool false) rfl rfl (by kernel_rfl) (by kernel_rfl) (by kernel_rfl) (fun _ _ _ h => h) (by rfl) (by (intro w hSw; (try dsimp only at hSw); go_simp)) (by assumption) ?_
            try simp only [Act.put, List.setIfInBounds_toArray, List.set_cons_zero, List.set_cons_succ]
            refine wpAnyH_done (by kernel_rfl) ?_ _
            have HF := Lib.hid (hB.out.trans (hS.2.2.2.2.2.2.2.2.mono hB.out.size))
            clear hS
            go_wp2
            go_roundw
            case rel => exact ⟨j + 1, by omega, by go_num, HY, HF⟩
            case measure => simp [intOf]; omega
        · obtain rfl : j = i := by omega
          have HT : Hid (∀ a, a < j + 1 → ∀ k, k < a → rowsB (rowP m a) (rowP m k) (woL m.length [(a : Int), (k : Int)]) = true) := Lib.hid (fun a ha k hk => by
            by_cases e : a = j
            · subst e; exact hE.out k hk
            · exact hA.out a (by omega) k hk)
          go_wp2
          go_roundw
          case rel => exact ⟨j + 1, by omega, by go_num, HT, hB⟩
          case measure => simp [intOf]; omega
    · obtain rfl : i = m.length := by omega
      have HY : Hid (Ending.returned (.bool true) = .returned (.bool (prodB m))) := Lib.hid (ret_of (prod_yes (fun a ha k hk => hA.out a ha k hk)))
      go_wp2
      go_ret
      exact ⟨HY.out, hB.out⟩
end Go.Proofs.Ytpfnlnllaapjeaa
