/-
  rowsAgree in the program: whether the products of two rows agree.
-/
import Derived.Test.YtpfnlnllaapjeaaStarMat
import Derived.Test.YtpfnlnllaapjeaaRatCalls
import Derived.Test.YtpfnlnllaapjeaaGKeep
import Derived.Test.YtpfnlnllaapjeaaKept
import Derived.Test.YtpfnlnllaapjeaaGResp
import Derived.Laws.StructEq
import Derived.Deep.RegionHeld3
import Derived.Deep.DeepCutAuto
namespace Go.Proofs.Ytpfnlnllaapjeaa
open Go.RowKit

theorem col_at {r : List P2} {c : Nat} (h : c < r.length) : colP r (c : Int) = r[c] := by unfold colP; simp [h]
theorem agree_at {r o : List P2} {c d : Nat} (c1 : c < r.length) (c2 : c < o.length) (d1 : d < r.length) (d2 : d < o.length) : AgreeP r o (c : Int) (d : Int) ↔ rOk (tmP r[c] o[d]).1 (tmP r[c] o[d]).2 = true ∧ tmP r[c] o[d] = tmP r[d] o[c] := by
  unfold AgreeP
  rw [col_at c1, col_at c2, col_at d1, col_at d2]
theorem ret_of {a b : Bool} (h : b = a) : Ending.returned (.bool a) = .returned (.bool b) := by rw [h]
theorem nat_of2 {x : Int} {n m : Nat} (h : 0 ≤ x ∧ x < n ∧ x < m) : ∃ c : Nat, x = c ∧ c < n ∧ c < m := ⟨x.toNat, by omega, by omega, by omega⟩
set_option maxRecDepth 8000 in
set_option maxHeartbeats 12800000 in
theorem impl_rowsAgree (vr vo vq : Value) (r o : List P2) (q : List Int) (w : World) (hr : ReadsP w vr r) (ho : ReadsP w vo o) (hq : ReadsI w vq q) (wfr : WfP r) (wfo : WfP o) (hin : ∀ x ∈ q, 0 ≤ x ∧ x < r.length ∧ x < o.length) :
    Calls Try.prog 190 #[vr, vo, vq] w fun en w' => en = .returned (.bool (rowsB r o q)) ∧ Below w.heap.size w w' := by
  obtain ⟨pr, cr, rfl⟩ := hr.shape
  obtain ⟨po, co, rfl⟩ := ho.shape
  obtain ⟨pq, cq, rfl, hq1, hq2⟩ := hq.shape
  have HR := Lib.hid hr; have HO := Lib.hid ho; have HQ := Lib.hid hq
  have HWR := Lib.hid wfr; have HWO := Lib.hid wfo; have HIN := Lib.hid hin
  clear hr ho hq wfr wfo hin
  go_enter Try.func190, Try.ntmps190
  go_wp2
  go_loopw [14] (fun iv wi => ∃ i : Nat, i ≤ q.length ∧ iv = .int .i64 i ∧ Hid (∀ a (ha : a < q.length), a < i → ∀ b (hb : b < a), AgreeP r o q[a] (q[b]'(by omega))) ∧ Hid (Below w.heap.size w wi)) (fun iv _ => q.length - (intOf iv).toNat)
  case atStart => exact ⟨0, Nat.zero_le _, rfl, Lib.hid (fun a _ h => absurd h (by omega)), Lib.hid (Below.refl _ _)⟩
  case round =>
    obtain ⟨i, hi, rfl, hA, hB⟩ := hrel
    by_cases hlt : i < q.length
    · obtain ⟨gq, oq, cap', hv, -, -, hgq, hcell⟩ := HQ.out.pos (by omega)
      simp only [Value.slice.injEq, true_and] at hv
      obtain ⟨rfl, rfl⟩ := hv
      have ci := hcell i hlt
      rw [← hB.out.cell (p := ⟨gq, oq + i, none⟩) hgq] at ci
      obtain ⟨c, hc, hcr, hco⟩ := nat_of2 (HIN.out q[i] (List.getElem_mem hlt))
      rw [hc] at ci
      have hicl : i ≤ cq := by omega
      have HCI := Lib.hid hc
      clear hcell hc
      obtain ⟨wu, hwu⟩ : ∃ wu, wu = wr := ⟨_, rfl⟩
      subst hwu
      go_wp2
      go_loopw [23] (fun jv wi => ∃ j : Nat, j ≤ i ∧ jv = .int .i64 j ∧ Hid (∀ b (hb : b < i), b < j → AgreeP r o q[i] (q[b]'(by omega))) ∧ Hid (Below w.heap.size w wi)) (fun jv _ => i - (intOf jv).toNat)
      case atStart => exact ⟨0, Nat.zero_le _, rfl, Lib.hid (fun b _ h => absurd h (by omega)), hB⟩
      case round =>
        clear hB ci
        obtain ⟨j, hj, rfl, hE, hB⟩ := hrel
        by_cases hjl : j < i
        · have cj := HQ.out.at j (by omega)
          rw [← hB.out.cell (p := ⟨gq, oq + j, none⟩) hgq] at cj
          obtain ⟨d, hd, hdr, hdo⟩ := nat_of2 (HIN.out (q[j]'(by omega)) (List.getElem_mem _))
          rw [hd] at cj
          have HDJ := Lib.hid hd
          obtain ⟨gr, or, cr', hv, hgr, hcr'⟩ := HR.out.pos (by omega)
          simp only [Value.slice.injEq, true_and] at hv
          obtain ⟨rfl, rfl⟩ := hv
          obtain ⟨go, oo, co', hv, hgo, hco'⟩ := HO.out.pos (by omega)
          simp only [Value.slice.injEq, true_and] at hv
          obtain ⟨rfl, rfl⟩ := hv
          obtain ⟨x0, x1⟩ := hcr' c hcr
          obtain ⟨z0, z1⟩ := hcr' d hdr
          obtain ⟨u0, u1⟩ := hco' c hco
          obtain ⟨y0, y1⟩ := hco' d hdo
          rw [← hB.out.cell (p := ⟨gr, _, none⟩) hgr] at x0 x1 z0 z1
          rw [← hB.out.cell (p := ⟨go, _, none⟩) hgo] at y0 y1 u0 u1
          have hsz := hB.out.size
          have hgr' : gr < wr.heap.size := by omega
          have hgo' : go < wr.heap.size := by omega
          have iX := HWR.out c hcr
          have iZ := HWR.out d hdr
          have iU := HWO.out c hco
          have iY := HWO.out d hdo
          have hag := agree_at hcr hco hdr hdo
          generalize r[c] = X at *
          generalize r[d] = Z at *
          generalize o[c] = U at *
          generalize o[d] = Y at *
          obtain ⟨X1, X2⟩ := X
          obtain ⟨Z1, Z2⟩ := Z
          obtain ⟨U1, U2⟩ := U
          obtain ⟨Y1, Y2⟩ := Y
          obtain ⟨P1, P2', hP⟩ : ∃ P1 P2', tmP (X1, X2) (Y1, Y2) = (P1, P2') := ⟨_, _, rfl⟩
          obtain ⟨R1, R2, hR⟩ : ∃ R1 R2, tmP (Z1, Z2) (U1, U2) = (R1, R2) := ⟨_, _, rfl⟩
          simp only [hP, hR] at hag
          simp only at x0 x1 y0 y1 z0 z1 u0 u1 iX iY iZ iU
          have CP := Lib.hid (fun W => c_times (n := X1) (d := X2) (m := Y1) (e := Y2) hP iX iY W)
          have CR := Lib.hid (fun W => c_times (n := Z1) (d := Z2) (m := U1) (e := U2) hR iZ iU W)
          have iP := times_in (n := X1) (d := X2) (m := Y1) (e := Y2) hP
          have cok := fun W => impl_rOk P1 P2' W iP.1.1 iP.1.2 iP.2.1 iP.2.2
          have hb : ∃ b : Bool, (b = true ∧ ¬ (rOk P1 P2' = true ∧ (P1, P2') = (R1, R2))) ∨ (b = false ∧ (rOk P1 P2' = true ∧ (P1, P2') = (R1, R2))) := by
            by_cases h : rOk P1 P2' = true ∧ (P1, P2') = (R1, R2)
            · exact ⟨false, .inr ⟨rfl, h⟩⟩
            · exact ⟨true, .inl ⟨rfl, h⟩⟩
          obtain ⟨b, hb⟩ := hb
          have HAG := Lib.hid hag; have HBB := Lib.hid hb
          have HL8 : Hid (gr < wr.heap.size ∧ gr < wr.heap.size ∧ go < wr.heap.size ∧ go < wr.heap.size ∧ gr < wr.heap.size ∧ gr < wr.heap.size ∧ go < wr.heap.size ∧ go < wr.heap.size) := Lib.hid ⟨hgr', hgr', hgo', hgo', hgr', hgr', hgo', hgo'⟩
          have hS0 : wr.cell? ⟨gr, or + c * 2, none⟩ = some (.int .i64 X1) ∧ wr.cell? ⟨gr, or + c * 2 + 1, none⟩ = some (.int .i64 X2) ∧ wr.cell? ⟨go, oo + d * 2, none⟩ = some (.int .i64 Y1) ∧ wr.cell? ⟨go, oo + d * 2 + 1, none⟩ = some (.int .i64 Y2) ∧ wr.cell? ⟨gr, or + d * 2, none⟩ = some (.int .i64 Z1) ∧ wr.cell? ⟨gr, or + d * 2 + 1, none⟩ = some (.int .i64 Z2) ∧ wr.cell? ⟨go, oo + c * 2, none⟩ = some (.int .i64 U1) ∧ wr.cell? ⟨go, oo + c * 2 + 1, none⟩ = some (.int .i64 U2) ∧ wr.heap.size ≤ wr.heap.size ∧ wr.heap.size ≤ wr.heap.size ∧ Below wr.heap.size wr wr := ⟨x0, x1, y0, y1, z0, z1, u0, u1, Nat.le_refl _, Nat.le_refl _, Below.refl _ _⟩
          clear hag hb iX iY iZ iU iP hP hR hd hgr hgo hcr' hco'
          go_upto_region 7 with fail
          go_cut [11] (fun s11 wx => ∃ B : Nat, s11 = .pointer (some ⟨B, 0, none⟩) ∧ (wx.cell? ⟨B, 0, none⟩ = some (.int .i64 P1) ∧ wx.cell? ⟨B, 1, none⟩ = some (.int .i64 P2') ∧ wx.frozen? ⟨B, 0, none⟩ = false ∧ wx.frozen? ⟨B, 1, none⟩ = false ∧ B < wx.heap.size ∧ wr.heap.size ≤ B) ∧ (wx.cell? ⟨gr, or + c * 2, none⟩ = some (.int .i64 X1) ∧ wx.cell? ⟨gr, or + c * 2 + 1, none⟩ = some (.int .i64 X2) ∧ wx.cell? ⟨go, oo + d * 2, none⟩ = some (.int .i64 Y1) ∧ wx.cell? ⟨go, oo + d * 2 + 1, none⟩ = some (.int .i64 Y2) ∧ wx.cell? ⟨gr, or + d * 2, none⟩ = some (.int .i64 Z1) ∧ wx.cell? ⟨gr, or + d * 2 + 1, none⟩ = some (.int .i64 Z2) ∧ wx.cell? ⟨go, oo + c * 2, none⟩ = some (.int .i64 U1) ∧ wx.cell? ⟨go, oo + c * 2 + 1, none⟩ = some (.int .i64 U2) ∧ wr.heap.size ≤ wx.heap.size ∧ wr.heap.size ≤ wr.heap.size ∧ Below wr.heap.size wr wx))
          case first =>
            have hS := k8_drew hS0
            clear hS0
            go_region_held3 (fun w' => w'.cell? ⟨gr, or + c * 2, none⟩ = some (.int .i64 X1) ∧ w'.cell? ⟨gr, or + c * 2 + 1, none⟩ = some (.int .i64 X2) ∧ w'.cell? ⟨go, oo + d * 2, none⟩ = some (.int .i64 Y1) ∧ w'.cell? ⟨go, oo + d * 2 + 1, none⟩ = some (.int .i64 Y2) ∧ w'.cell? ⟨gr, or + d * 2, none⟩ = some (.int .i64 Z1) ∧ w'.cell? ⟨gr, or + d * 2 + 1, none⟩ = some (.int .i64 Z2) ∧ w'.cell? ⟨go, oo + c * 2, none⟩ = some (.int .i64 U1) ∧ w'.cell? ⟨go, oo + c * 2 + 1, none⟩ = some (.int .i64 U2) ∧ wr.heap.size ≤ w'.heap.size ∧ wr.heap.size ≤ wr.heap.size ∧ Below wr.heap.size wr w')
              (first | (with_reducible exact hS) | (with_reducible exact k8_alloc hS) | (with_reducible exact k8_allocd hS) | exact k8_set hN.2.2.2.2.2 HL8.out (k8_set hN.2.2.2.2.2 HL8.out hS) | exact k8_set hS.2.2.2.2.2.2.2.2.1 HL8.out (k8_set hS.2.2.2.2.2.2.2.2.1 HL8.out (k8_alloc hS)))
              (first | (go_at_call 152; with_reducible refine Calls.mono (CP.out _) ?_; rintro en w1 ⟨rfl, B1⟩; (first | (have hN := kept_new B1 hS.2.2.2.2.2.2.2.2.1) | (have hN := kept_newd B1 hS.2.2.2.2.2.2.2.2.1; (try simp only [World.size_alloc] at hN)) | skip); (first | (with_reducible replace hS := k8_keep B1 hS) | (with_reducible replace hS := k8_keep B1 (k8_alloc hS)) | (with_reducible replace hS := k8_keep B1 (k8_allocd hS)))))
            all_goals
              go_wp2_with fail
              go_meet
              first
              | exact ⟨_, rfl, kept_laid hS.2.2.2.2.2.2.2.2.1, k8_alloc hS⟩
              | exact ⟨_, rfl, kept_put hN, k8_set hN.2.2.2.2.2 HL8.out (k8_set hN.2.2.2.2.2 HL8.out hS)⟩
          case rest =>
            obtain ⟨B, rfl, hK, hS0⟩ := hcut
            rename World => wx
            have HBx := Lib.hid hS0.2.2.2.2.2.2.2.2.2.2
            have hS2 : wx.cell? ⟨B, 0, none⟩ = some (.int .i64 P1) ∧ wx.cell? ⟨B, 1, none⟩ = some (.int .i64 P2') ∧ wx.cell? ⟨gr, or + d * 2, none⟩ = some (.int .i64 Z1) ∧ wx.cell? ⟨gr, or + d * 2 + 1, none⟩ = some (.int .i64 Z2) ∧ wx.cell? ⟨go, oo + c * 2, none⟩ = some (.int .i64 U1) ∧ wx.cell? ⟨go, oo + c * 2 + 1, none⟩ = some (.int .i64 U2) ∧ wx.heap.size ≤ wx.heap.size ∧ wx.heap.size ≤ wx.heap.size ∧ Below wx.heap.size wx wx := by
              obtain ⟨k0, k1, k2, k3, k4, k5, k6, k7, k8, k9, k10⟩ := hS0
              exact ⟨hK.1, hK.2.1, k4, k5, k6, k7, Nat.le_refl _, Nat.le_refl _, Below.refl _ _⟩
            clear hS0 hK
            obtain ⟨x0, x1, z0, z1, u0, u1, -⟩ := id hS2
            go_upto_region 8 with fail
            go_cut [51] (fun s51 wy => s51 = .bool b ∧ Below wx.heap.size wx wy)
            case first =>
              have hS := k6_drew hS2
              clear hS2 x0 x1 z0 z1 u0 u1
              cases hk : rOk P1 P2'
              · rw [hk] at cok
                have COK := Lib.hid cok
                have hbt : b = true := by
                  rcases HBB.out with ⟨h, _⟩ | ⟨_, h⟩
                  · exact h
                  · exact absurd h.1 (by rw [hk]; simp)
                subst hbt
                clear hk cok
                refine wp_region_held_drew (S := fun w' => w'.cell? ⟨B, 0, none⟩ = some (.int .i64 P1) ∧ w'.cell? ⟨B, 1, none⟩ = some (.int .i64 P2') ∧ w'.cell? ⟨gr, or + d * 2, none⟩ = some (.int .i64 Z1) ∧ w'.cell? ⟨gr, or + d * 2 + 1, none⟩ = some (.int .i64 Z2) ∧ w'.cell? ⟨go, oo + c * 2, none⟩ = some (.int .i64 U1) ∧ w'.cell? ⟨go, oo + c * 2 + 1, none⟩ = some (.int .i64 U2) ∧ wx.heap.size ≤ w'.heap.size ∧ wx.heap.size ≤ wx.heap.size ∧ Below wx.heap.size wx w') (by kernel_rfl) hS (fun hHeld => ?_)
                refine take_on (i := 0) (d := some 36) (v := .agg #[.int .i64 P1, .int .i64 P2']) rfl rfl (by kernel_rfl) (by kernel_rfl) (by kernel_rfl) (fun _ _ _ h => h) (by rfl) (by (intro w hSw; (try dsimp only at hSw); go_simp)) (by assumption) ?_
                try simp only [Act.put, List.setIfInBounds_toArray, List.set_cons_zero, List.set_cons_succ]
                refine wpAnyH_ready (rs := [1]) (by kernel_rfl) (by simp) ?_
                refine AllReadyH.cons rfl (fun K hK => ?_) AllReadyH.nil
                go_simp
                with_reducible refine Calls.mono (COK.out _) ?_
                rintro en wa ⟨rfl, Ba⟩
                replace hS := k6_keep Ba hS
                go_wp2_with fail
                refine hK.out _ _ hS (fun hHeld => ?_)
                clear hK K hHeld
                try simp only [Act.put, List.setIfInBounds_toArray, List.set_cons_zero, List.set_cons_succ]
                refine take_on (i := 2) (d := some 38) (v := .bool true) rfl rfl (by kernel_rfl) (by kernel_rfl) (by kernel_rfl) (fun _ _ _ h => h) (by rfl) (by (intro w hSw; (try dsimp only at hSw); go_simp)) (by assumption) ?_
                try simp only [Act.put, List.setIfInBounds_toArray, List.set_cons_zero, List.set_cons_succ]
                refine take_on (i := 3) (d := some 39) (v := .bool true) rfl rfl (by kernel_rfl) (by kernel_rfl) (by kernel_rfl) (fun _ _ _ h => h) (by rfl) (by (intro w hSw; (try dsimp only at hSw); go_simp)) (by assumption) ?_
                try simp only [Act.put, List.setIfInBounds_toArray, List.set_cons_zero, List.set_cons_succ]
                refine take_off (i := 4) (d := some 40) rfl rfl (by kernel_rfl) (by kernel_rfl) (by kernel_rfl) (fun _ _ _ h => h) (by rfl) (by assumption) ?_
                try simp only [Act.put, List.setIfInBounds_toArray, List.set_cons_zero, List.set_cons_succ]
                refine take_off (i := 5) (d := some 41) rfl rfl (by kernel_rfl) (by kernel_rfl) (by kernel_rfl) (fun _ _ _ h => h) (by rfl) (by assumption) ?_
                try simp only [Act.put, List.setIfInBounds_toArray, List.set_cons_zero, List.set_cons_succ]
                refine take_off (i := 6) (d := some 42) rfl rfl (by kernel_rfl) (by kernel_rfl) (by kernel_rfl) (fun _ _ _ h => h) (by rfl) (by assumption) ?_
                try simp only [Act.put, List.setIfInBounds_toArray, List.set_cons_zero, List.set_cons_succ]
                refine take_off (i := 7) (d := some 43) rfl rfl (by kernel_rfl) (by kernel_rfl) (by kernel_rfl) (fun _ _ _ h => h) (by rfl) (by assumption) ?_
                try simp only [Act.put, List.setIfInBounds_toArray, List.set_cons_zero, List.set_cons_succ]
                refine take_off (i := 8) (d := some 44) rfl rfl (by kernel_rfl) (by kernel_rfl) (by kernel_rfl) (fun _ _ _ h => h) (by rfl) (by assumption) ?_
                try simp only [Act.put, List.setIfInBounds_toArray, List.set_cons_zero, List.set_cons_succ]
                refine take_off (i := 9) (d := some 45) rfl rfl (by kernel_rfl) (by kernel_rfl) (by kernel_rfl) (fun _ _ _ h => h) (by rfl) (by assumption) ?_
                try simp only [Act.put, List.setIfInBounds_toArray, List.set_cons_zero, List.set_cons_succ]
                refine take_off (i := 10) (d := some 46) rfl rfl (by kernel_rfl) (by kernel_rfl) (by kernel_rfl) (fun _ _ _ h => h) (by rfl) (by assumption) ?_
                try simp only [Act.put, List.setIfInBounds_toArray, List.set_cons_zero, List.set_cons_succ]
                refine take_off (i := 11) (d := some 47) rfl rfl (by kernel_rfl) (by kernel_rfl) (by kernel_rfl) (fun _ _ _ h => h) (by rfl) (by assumption) ?_
                try simp only [Act.put, List.setIfInBounds_toArray, List.set_cons_zero, List.set_cons_succ]
                refine take_off (i := 12) (d := some 48) rfl rfl (by kernel_rfl) (by kernel_rfl) (by kernel_rfl) (fun _ _ _ h => h) (by rfl) (by assumption) ?_
                try simp only [Act.put, List.setIfInBounds_toArray, List.set_cons_zero, List.set_cons_succ]
                refine take_off (i := 13) (d := some 49) rfl rfl (by kernel_rfl) (by kernel_rfl) (by kernel_rfl) (fun _ _ _ h => h) (by rfl) (by assumption) ?_
                try simp only [Act.put, List.setIfInBounds_toArray, List.set_cons_zero, List.set_cons_succ]
                refine take_off (i := 14) (d := some 50) rfl rfl (by kernel_rfl) (by kernel_rfl) (by kernel_rfl) (fun _ _ _ h => h) (by rfl) (by assumption) ?_
                try simp only [Act.put, List.setIfInBounds_toArray, List.set_cons_zero, List.set_cons_succ]
                refine take_on (i := 15) (d := some 51) (v := .bool true) rfl rfl (by kernel_rfl) (by kernel_rfl) (by kernel_rfl) (fun _ _ _ h => h) (by rfl) (by (intro w hSw; (try dsimp only at hSw); go_simp)) (by assumption) ?_
                try simp only [Act.put, List.setIfInBounds_toArray, List.set_cons_zero, List.set_cons_succ]
                refine wpAnyH_done (by kernel_rfl) ?_ _
                go_wp2_with fail
                go_meet
                exact ⟨rfl, hS.2.2.2.2.2.2.2.2⟩
              · rw [hk] at cok
                have COK := Lib.hid cok
                by_cases hxy : ((P1, P2') : P2) = (R1, R2)
                · have hbt : b = false := by
                    rcases HBB.out with ⟨_, h⟩ | ⟨h, _⟩
                    · exact absurd ⟨hk, hxy⟩ h
                    · exact h
                  subst hbt
                  simp only [Prod.mk.injEq] at hxy
                  obtain ⟨hxa, hxb⟩ := hxy
                  subst hxa
                  subst hxb
                  clear hk cok
                  refine wp_region_held_drew (S := fun w' => w'.cell? ⟨B, 0, none⟩ = some (.int .i64 P1) ∧ w'.cell? ⟨B, 1, none⟩ = some (.int .i64 P2') ∧ w'.cell? ⟨gr, or + d * 2, none⟩ = some (.int .i64 Z1) ∧ w'.cell? ⟨gr, or + d * 2 + 1, none⟩ = some (.int .i64 Z2) ∧ w'.cell? ⟨go, oo + c * 2, none⟩ = some (.int .i64 U1) ∧ w'.cell? ⟨go, oo + c * 2 + 1, none⟩ = some (.int .i64 U2) ∧ wx.heap.size ≤ w'.heap.size ∧ wx.heap.size ≤ wx.heap.size ∧ Below wx.heap.size wx w') (by kernel_rfl) hS (fun hHeld => ?_)
                  refine take_on (i := 0) (d := some 36) (v := .agg #[.int .i64 P1, .int .i64 P2']) rfl rfl (by kernel_rfl) (by kernel_rfl) (by kernel_rfl) (fun _ _ _ h => h) (by rfl) (by (intro w hSw; (try dsimp only at hSw); go_simp)) (by assumption) ?_
                  try simp only [Act.put, List.setIfInBounds_toArray, List.set_cons_zero, List.set_cons_succ]
                  refine wpAnyH_ready (rs := [1]) (by kernel_rfl) (by simp) ?_
                  refine AllReadyH.cons rfl (fun K hK => ?_) AllReadyH.nil
                  go_simp
                  with_reducible refine Calls.mono (COK.out _) ?_
                  rintro en wa ⟨rfl, Ba⟩
                  replace hS := k6_keep Ba hS
                  go_wp2_with fail
                  refine hK.out _ _ hS (fun hHeld => ?_)
                  clear hK K hHeld
                  try simp only [Act.put, List.setIfInBounds_toArray, List.set_cons_zero, List.set_cons_succ]
                  refine take_on (i := 2) (d := some 38) (v := .bool false) rfl rfl (by kernel_rfl) (by kernel_rfl) (by kernel_rfl) (fun _ _ _ h => h) (by rfl) (by (intro w hSw; (try dsimp only at hSw); go_simp)) (by assumption) ?_
                  try simp only [Act.put, List.setIfInBounds_toArray, List.set_cons_zero, List.set_cons_succ]
                  refine take_on (i := 3) (d := some 39) (v := .bool false) rfl rfl (by kernel_rfl) (by kernel_rfl) (by kernel_rfl) (fun _ _ _ h => h) (by rfl) (by (intro w hSw; (try dsimp only at hSw); go_simp)) (by assumption) ?_
                  try simp only [Act.put, List.setIfInBounds_toArray, List.set_cons_zero, List.set_cons_succ]
                  refine take_on (i := 4) (d := some 40) (v := .agg #[.int .i64 P1, .int .i64 P2']) rfl rfl (by kernel_rfl) (by kernel_rfl) (by kernel_rfl) (fun _ _ _ h => h) (by rfl) (by (intro w hSw; (try dsimp only at hSw); go_simp)) (by assumption) ?_
                  try simp only [Act.put, List.setIfInBounds_toArray, List.set_cons_zero, List.set_cons_succ]
                  refine take_on (i := 5) (d := some 41) (v := .slice (some ⟨gr, or, none⟩) r.length cr) rfl rfl (by kernel_rfl) (by kernel_rfl) (by kernel_rfl) (fun _ _ _ h => h) (by rfl) (by (intro w hSw; (try dsimp only at hSw); go_simp)) (by assumption) ?_
                  try simp only [Act.put, List.setIfInBounds_toArray, List.set_cons_zero, List.set_cons_succ]
                  refine take_on (i := 6) (d := some 42) (v := .int .i64 d) rfl rfl (by kernel_rfl) (by kernel_rfl) (by kernel_rfl) (fun _ _ _ h => h) (by rfl) (by (intro w hSw; (try dsimp only at hSw); go_simp)) (by assumption) ?_
                  try simp only [Act.put, List.setIfInBounds_toArray, List.set_cons_zero, List.set_cons_succ]
                  refine take_on (i := 7) (d := some 43) (v := .pointer (some ⟨gr, or + d * 2, none⟩)) rfl rfl (by kernel_rfl) (by kernel_rfl) (by kernel_rfl) (fun _ _ _ h => h) (by rfl) (by (intro w hSw; (try dsimp only at hSw); go_simp)) (by assumption) ?_
                  try simp only [Act.put, List.setIfInBounds_toArray, List.set_cons_zero, List.set_cons_succ]
                  refine take_on (i := 8) (d := some 44) (v := .agg #[.int .i64 Z1, .int .i64 Z2]) rfl rfl (by kernel_rfl) (by kernel_rfl) (by kernel_rfl) (fun _ _ _ h => h) (by rfl) (by (intro w hSw; (try dsimp only at hSw); go_simp)) (by assumption) ?_
                  try simp only [Act.put, List.setIfInBounds_toArray, List.set_cons_zero, List.set_cons_succ]
                  refine take_on (i := 9) (d := some 45) (v := .slice (some ⟨go, oo, none⟩) o.length co) rfl rfl (by kernel_rfl) (by kernel_rfl) (by kernel_rfl) (fun _ _ _ h => h) (by rfl) (by (intro w hSw; (try dsimp only at hSw); go_simp)) (by assumption) ?_
                  try simp only [Act.put, List.setIfInBounds_toArray, List.set_cons_zero, List.set_cons_succ]
                  refine take_on (i := 10) (d := some 46) (v := .int .i64 c) rfl rfl (by kernel_rfl) (by kernel_rfl) (by kernel_rfl) (fun _ _ _ h => h) (by rfl) (by (intro w hSw; (try dsimp only at hSw); go_simp)) (by assumption) ?_
                  try simp only [Act.put, List.setIfInBounds_toArray, List.set_cons_zero, List.set_cons_succ]
                  refine take_on (i := 11) (d := some 47) (v := .pointer (some ⟨go, oo + c * 2, none⟩)) rfl rfl (by kernel_rfl) (by kernel_rfl) (by kernel_rfl) (fun _ _ _ h => h) (by rfl) (by (intro w hSw; (try dsimp only at hSw); go_simp)) (by assumption) ?_
                  try simp only [Act.put, List.setIfInBounds_toArray, List.set_cons_zero, List.set_cons_succ]
                  refine take_on (i := 12) (d := some 48) (v := .agg #[.int .i64 U1, .int .i64 U2]) rfl rfl (by kernel_rfl) (by kernel_rfl) (by kernel_rfl) (fun _ _ _ h => h) (by rfl) (by (intro w hSw; (try dsimp only at hSw); go_simp)) (by assumption) ?_
                  try simp only [Act.put, List.setIfInBounds_toArray, List.set_cons_zero, List.set_cons_succ]
                  refine wpAnyH_ready (rs := [13]) (by kernel_rfl) (by simp) ?_
                  refine AllReadyH.cons rfl (fun K hK => ?_) AllReadyH.nil
                  go_simp
                  with_reducible refine Calls.mono (CR.out _) ?_
                  rintro en wb ⟨rfl, Bb⟩
                  replace hS := k6_keep Bb hS
                  go_wp2_with fail
                  refine hK.out _ _ hS (fun hHeld => ?_)
                  clear hK K hHeld
                  try simp only [Act.put, List.setIfInBounds_toArray, List.set_cons_zero, List.set_cons_succ]
                  refine take_on (i := 14) (d := some 50) (v := .bool false) rfl rfl (by kernel_rfl) (by kernel_rfl) (by kernel_rfl) (fun _ _ _ h => h) (by rfl) (by (intro w hSw; (try dsimp only at hSw); go_simp)) (by assumption) ?_
                  try simp only [Act.put, List.setIfInBounds_toArray, List.set_cons_zero, List.set_cons_succ]
                  refine take_on (i := 15) (d := some 51) (v := .bool false) rfl rfl (by kernel_rfl) (by kernel_rfl) (by kernel_rfl) (fun _ _ _ h => h) (by rfl) (by (intro w hSw; (try dsimp only at hSw); go_simp)) (by assumption) ?_
                  try simp only [Act.put, List.setIfInBounds_toArray, List.set_cons_zero, List.set_cons_succ]
                  refine wpAnyH_done (by kernel_rfl) ?_ _
                  go_wp2_with fail
                  go_meet
                  exact ⟨rfl, hS.2.2.2.2.2.2.2.2⟩
                · have hbt : b = true := by
                    rcases HBB.out with ⟨h, _⟩ | ⟨_, h⟩
                    · exact h
                    · exact absurd h.2 hxy
                  subst hbt
                  have hp := p2_parts hxy
                  simp only at hp
                  rcases hp with f1 | ⟨f1, f2⟩
                  · clear hk cok hxy
                    refine wp_region_held_drew (S := fun w' => w'.cell? ⟨B, 0, none⟩ = some (.int .i64 P1) ∧ w'.cell? ⟨B, 1, none⟩ = some (.int .i64 P2') ∧ w'.cell? ⟨gr, or + d * 2, none⟩ = some (.int .i64 Z1) ∧ w'.cell? ⟨gr, or + d * 2 + 1, none⟩ = some (.int .i64 Z2) ∧ w'.cell? ⟨go, oo + c * 2, none⟩ = some (.int .i64 U1) ∧ w'.cell? ⟨go, oo + c * 2 + 1, none⟩ = some (.int .i64 U2) ∧ wx.heap.size ≤ w'.heap.size ∧ wx.heap.size ≤ wx.heap.size ∧ Below wx.heap.size wx w') (by kernel_rfl) hS (fun hHeld => ?_)
                    refine take_on (i := 0) (d := some 36) (v := .agg #[.int .i64 P1, .int .i64 P2']) rfl rfl (by kernel_rfl) (by kernel_rfl) (by kernel_rfl) (fun _ _ _ h => h) (by rfl) (by (intro w hSw; (try dsimp only at hSw); go_simp)) (by assumption) ?_
                    try simp only [Act.put, List.setIfInBounds_toArray, List.set_cons_zero, List.set_cons_succ]
                    refine wpAnyH_ready (rs := [1]) (by kernel_rfl) (by simp) ?_
                    refine AllReadyH.cons rfl (fun K hK => ?_) AllReadyH.nil
                    go_simp
                    with_reducible refine Calls.mono (COK.out _) ?_
                    rintro en wa ⟨rfl, Ba⟩
                    replace hS := k6_keep Ba hS
                    go_wp2_with fail
                    refine hK.out _ _ hS (fun hHeld => ?_)
                    clear hK K hHeld
                    try simp only [Act.put, List.setIfInBounds_toArray, List.set_cons_zero, List.set_cons_succ]
                    refine take_on (i := 2) (d := some 38) (v := .bool false) rfl rfl (by kernel_rfl) (by kernel_rfl) (by kernel_rfl) (fun _ _ _ h => h) (by rfl) (by (intro w hSw; (try dsimp only at hSw); go_simp)) (by assumption) ?_
                    try simp only [Act.put, List.setIfInBounds_toArray, List.set_cons_zero, List.set_cons_succ]
                    refine take_on (i := 3) (d := some 39) (v := .bool false) rfl rfl (by kernel_rfl) (by kernel_rfl) (by kernel_rfl) (fun _ _ _ h => h) (by rfl) (by (intro w hSw; (try dsimp only at hSw); go_simp)) (by assumption) ?_
                    try simp only [Act.put, List.setIfInBounds_toArray, List.set_cons_zero, List.set_cons_succ]
                    refine take_on (i := 4) (d := some 40) (v := .agg #[.int .i64 P1, .int .i64 P2']) rfl rfl (by kernel_rfl) (by kernel_rfl) (by kernel_rfl) (fun _ _ _ h => h) (by rfl) (by (intro w hSw; (try dsimp only at hSw); go_simp)) (by assumption) ?_
                    try simp only [Act.put, List.setIfInBounds_toArray, List.set_cons_zero, List.set_cons_succ]
                    refine take_on (i := 5) (d := some 41) (v := .slice (some ⟨gr, or, none⟩) r.length cr) rfl rfl (by kernel_rfl) (by kernel_rfl) (by kernel_rfl) (fun _ _ _ h => h) (by rfl) (by (intro w hSw; (try dsimp only at hSw); go_simp)) (by assumption) ?_
                    try simp only [Act.put, List.setIfInBounds_toArray, List.set_cons_zero, List.set_cons_succ]
                    refine take_on (i := 6) (d := some 42) (v := .int .i64 d) rfl rfl (by kernel_rfl) (by kernel_rfl) (by kernel_rfl) (fun _ _ _ h => h) (by rfl) (by (intro w hSw; (try dsimp only at hSw); go_simp)) (by assumption) ?_
                    try simp only [Act.put, List.setIfInBounds_toArray, List.set_cons_zero, List.set_cons_succ]
                    refine take_on (i := 7) (d := some 43) (v := .pointer (some ⟨gr, or + d * 2, none⟩)) rfl rfl (by kernel_rfl) (by kernel_rfl) (by kernel_rfl) (fun _ _ _ h => h) (by rfl) (by (intro w hSw; (try dsimp only at hSw); go_simp)) (by assumption) ?_
                    try simp only [Act.put, List.setIfInBounds_toArray, List.set_cons_zero, List.set_cons_succ]
                    refine take_on (i := 8) (d := some 44) (v := .agg #[.int .i64 Z1, .int .i64 Z2]) rfl rfl (by kernel_rfl) (by kernel_rfl) (by kernel_rfl) (fun _ _ _ h => h) (by rfl) (by (intro w hSw; (try dsimp only at hSw); go_simp)) (by assumption) ?_
                    try simp only [Act.put, List.setIfInBounds_toArray, List.set_cons_zero, List.set_cons_succ]
                    refine take_on (i := 9) (d := some 45) (v := .slice (some ⟨go, oo, none⟩) o.length co) rfl rfl (by kernel_rfl) (by kernel_rfl) (by kernel_rfl) (fun _ _ _ h => h) (by rfl) (by (intro w hSw; (try dsimp only at hSw); go_simp)) (by assumption) ?_
                    try simp only [Act.put, List.setIfInBounds_toArray, List.set_cons_zero, List.set_cons_succ]
                    refine take_on (i := 10) (d := some 46) (v := .int .i64 c) rfl rfl (by kernel_rfl) (by kernel_rfl) (by kernel_rfl) (fun _ _ _ h => h) (by rfl) (by (intro w hSw; (try dsimp only at hSw); go_simp)) (by assumption) ?_
                    try simp only [Act.put, List.setIfInBounds_toArray, List.set_cons_zero, List.set_cons_succ]
                    refine take_on (i := 11) (d := some 47) (v := .pointer (some ⟨go, oo + c * 2, none⟩)) rfl rfl (by kernel_rfl) (by kernel_rfl) (by kernel_rfl) (fun _ _ _ h => h) (by rfl) (by (intro w hSw; (try dsimp only at hSw); go_simp)) (by assumption) ?_
                    try simp only [Act.put, List.setIfInBounds_toArray, List.set_cons_zero, List.set_cons_succ]
                    refine take_on (i := 12) (d := some 48) (v := .agg #[.int .i64 U1, .int .i64 U2]) rfl rfl (by kernel_rfl) (by kernel_rfl) (by kernel_rfl) (fun _ _ _ h => h) (by rfl) (by (intro w hSw; (try dsimp only at hSw); go_simp)) (by assumption) ?_
                    try simp only [Act.put, List.setIfInBounds_toArray, List.set_cons_zero, List.set_cons_succ]
                    refine wpAnyH_ready (rs := [13]) (by kernel_rfl) (by simp) ?_
                    refine AllReadyH.cons rfl (fun K hK => ?_) AllReadyH.nil
                    go_simp
                    with_reducible refine Calls.mono (CR.out _) ?_
                    rintro en wb ⟨rfl, Bb⟩
                    replace hS := k6_keep Bb hS
                    go_wp2_with fail
                    refine hK.out _ _ hS (fun hHeld => ?_)
                    clear hK K hHeld
                    try simp only [Act.put, List.setIfInBounds_toArray, List.set_cons_zero, List.set_cons_succ]
                    refine take_on (i := 14) (d := some 50) (v := .bool true) rfl rfl (by kernel_rfl) (by kernel_rfl) (by kernel_rfl) (fun _ _ _ h => h) (by rfl) (by (intro w hSw; (try dsimp only at hSw); go_simp)) (by assumption) ?_
                    try simp only [Act.put, List.setIfInBounds_toArray, List.set_cons_zero, List.set_cons_succ]
                    refine take_on (i := 15) (d := some 51) (v := .bool true) rfl rfl (by kernel_rfl) (by kernel_rfl) (by kernel_rfl) (fun _ _ _ h => h) (by rfl) (by (intro w hSw; (try dsimp only at hSw); go_simp)) (by assumption) ?_
                    try simp only [Act.put, List.setIfInBounds_toArray, List.set_cons_zero, List.set_cons_succ]
                    refine wpAnyH_done (by kernel_rfl) ?_ _
                    go_wp2_with fail
                    go_meet
                    exact ⟨rfl, hS.2.2.2.2.2.2.2.2⟩
                  · subst f1
                    clear hk cok hxy
                    refine wp_region_held_drew (S := fun w' => w'.cell? ⟨B, 0, none⟩ = some (.int .i64 P1) ∧ w'.cell? ⟨B, 1, none⟩ = some (.int .i64 P2') ∧ w'.cell? ⟨gr, or + d * 2, none⟩ = some (.int .i64 Z1) ∧ w'.cell? ⟨gr, or + d * 2 + 1, none⟩ = some (.int .i64 Z2) ∧ w'.cell? ⟨go, oo + c * 2, none⟩ = some (.int .i64 U1) ∧ w'.cell? ⟨go, oo + c * 2 + 1, none⟩ = some (.int .i64 U2) ∧ wx.heap.size ≤ w'.heap.size ∧ wx.heap.size ≤ wx.heap.size ∧ Below wx.heap.size wx w') (by kernel_rfl) hS (fun hHeld => ?_)
                    refine take_on (i := 0) (d := some 36) (v := .agg #[.int .i64 P1, .int .i64 P2']) rfl rfl (by kernel_rfl) (by kernel_rfl) (by kernel_rfl) (fun _ _ _ h => h) (by rfl) (by (intro w hSw; (try dsimp only at hSw); go_simp)) (by assumption) ?_
                    try simp only [Act.put, List.setIfInBounds_toArray, List.set_cons_zero, List.set_cons_succ]
                    refine wpAnyH_ready (rs := [1]) (by kernel_rfl) (by simp) ?_
                    refine AllReadyH.cons rfl (fun K hK => ?_) AllReadyH.nil
                    go_simp
                    with_reducible refine Calls.mono (COK.out _) ?_
                    rintro en wa ⟨rfl, Ba⟩
                    replace hS := k6_keep Ba hS
                    go_wp2_with fail
                    refine hK.out _ _ hS (fun hHeld => ?_)
                    clear hK K hHeld
                    try simp only [Act.put, List.setIfInBounds_toArray, List.set_cons_zero, List.set_cons_succ]
                    refine take_on (i := 2) (d := some 38) (v := .bool false) rfl rfl (by kernel_rfl) (by kernel_rfl) (by kernel_rfl) (fun _ _ _ h => h) (by rfl) (by (intro w hSw; (try dsimp only at hSw); go_simp)) (by assumption) ?_
                    try simp only [Act.put, List.setIfInBounds_toArray, List.set_cons_zero, List.set_cons_succ]
                    refine take_on (i := 3) (d := some 39) (v := .bool false) rfl rfl (by kernel_rfl) (by kernel_rfl) (by kernel_rfl) (fun _ _ _ h => h) (by rfl) (by (intro w hSw; (try dsimp only at hSw); go_simp)) (by assumption) ?_
                    try simp only [Act.put, List.setIfInBounds_toArray, List.set_cons_zero, List.set_cons_succ]
                    refine take_on (i := 4) (d := some 40) (v := .agg #[.int .i64 P1, .int .i64 P2']) rfl rfl (by kernel_rfl) (by kernel_rfl) (by kernel_rfl) (fun _ _ _ h => h) (by rfl) (by (intro w hSw; (try dsimp only at hSw); go_simp)) (by assumption) ?_
                    try simp only [Act.put, List.setIfInBounds_toArray, List.set_cons_zero, List.set_cons_succ]
                    refine take_on (i := 5) (d := some 41) (v := .slice (some ⟨gr, or, none⟩) r.length cr) rfl rfl (by kernel_rfl) (by kernel_rfl) (by kernel_rfl) (fun _ _ _ h => h) (by rfl) (by (intro w hSw; (try dsimp only at hSw); go_simp)) (by assumption) ?_
                    try simp only [Act.put, List.setIfInBounds_toArray, List.set_cons_zero, List.set_cons_succ]
                    refine take_on (i := 6) (d := some 42) (v := .int .i64 d) rfl rfl (by kernel_rfl) (by kernel_rfl) (by kernel_rfl) (fun _ _ _ h => h) (by rfl) (by (intro w hSw; (try dsimp only at hSw); go_simp)) (by assumption) ?_
                    try simp only [Act.put, List.setIfInBounds_toArray, List.set_cons_zero, List.set_cons_succ]
                    refine take_on (i := 7) (d := some 43) (v := .pointer (some ⟨gr, or + d * 2, none⟩)) rfl rfl (by kernel_rfl) (by kernel_rfl) (by kernel_rfl) (fun _ _ _ h => h) (by rfl) (by (intro w hSw; (try dsimp only at hSw); go_simp)) (by assumption) ?_
                    try simp only [Act.put, List.setIfInBounds_toArray, List.set_cons_zero, List.set_cons_succ]
                    refine take_on (i := 8) (d := some 44) (v := .agg #[.int .i64 Z1, .int .i64 Z2]) rfl rfl (by kernel_rfl) (by kernel_rfl) (by kernel_rfl) (fun _ _ _ h => h) (by rfl) (by (intro w hSw; (try dsimp only at hSw); go_simp)) (by assumption) ?_
                    try simp only [Act.put, List.setIfInBounds_toArray, List.set_cons_zero, List.set_cons_succ]
                    refine take_on (i := 9) (d := some 45) (v := .slice (some ⟨go, oo, none⟩) o.length co) rfl rfl (by kernel_rfl) (by kernel_rfl) (by kernel_rfl) (fun _ _ _ h => h) (by rfl) (by (intro w hSw; (try dsimp only at hSw); go_simp)) (by assumption) ?_
                    try simp only [Act.put, List.setIfInBounds_toArray, List.set_cons_zero, List.set_cons_succ]
                    refine take_on (i := 10) (d := some 46) (v := .int .i64 c) rfl rfl (by kernel_rfl) (by kernel_rfl) (by kernel_rfl) (fun _ _ _ h => h) (by rfl) (by (intro w hSw; (try dsimp only at hSw); go_simp)) (by assumption) ?_
                    try simp only [Act.put, List.setIfInBounds_toArray, List.set_cons_zero, List.set_cons_succ]
                    refine take_on (i := 11) (d := some 47) (v := .pointer (some ⟨go, oo + c * 2, none⟩)) rfl rfl (by kernel_rfl) (by kernel_rfl) (by kernel_rfl) (fun _ _ _ h => h) (by rfl) (by (intro w hSw; (try dsimp only at hSw); go_simp)) (by assumption) ?_
                    try simp only [Act.put, List.setIfInBounds_toArray, List.set_cons_zero, List.set_cons_succ]
                    refine take_on (i := 12) (d := some 48) (v := .agg #[.int .i64 U1, .int .i64 U2]) rfl rfl (by kernel_rfl) (by kernel_rfl) (by kernel_rfl) (fun _ _ _ h => h) (by rfl) (by (intro w hSw; (try dsimp only at hSw); go_simp)) (by assumption) ?_
                    try simp only [Act.put, List.setIfInBounds_toArray, List.set_cons_zero, List.set_cons_succ]
                    refine wpAnyH_ready (rs := [13]) (by kernel_rfl) (by simp) ?_
                    refine AllReadyH.cons rfl (fun K hK => ?_) AllReadyH.nil
                    go_simp
                    with_reducible refine Calls.mono (CR.out _) ?_
                    rintro en wb ⟨rfl, Bb⟩
                    replace hS := k6_keep Bb hS
                    go_wp2_with fail
                    refine hK.out _ _ hS (fun hHeld => ?_)
                    clear hK K hHeld
                    try simp only [Act.put, List.setIfInBounds_toArray, List.set_cons_zero, List.set_cons_succ]
                    refine take_on (i := 14) (d := some 50) (v := .bool true) rfl rfl (by kernel_rfl) (by kernel_rfl) (by kernel_rfl) (fun _ _ _ h => h) (by rfl) (by (intro w hSw; (try dsimp only at hSw); go_simp)) (by assumption) ?_
                    try simp only [Act.put, List.setIfInBounds_toArray, List.set_cons_zero, List.set_cons_succ]
                    refine take_on (i := 15) (d := some 51) (v := .bool true) rfl rfl (by kernel_rfl) (by kernel_rfl) (by kernel_rfl) (fun _ _ _ h => h) (by rfl) (by (intro w hSw; (try dsimp only at hSw); go_simp)) (by assumption) ?_
                    try simp only [Act.put, List.setIfInBounds_toArray, List.set_cons_zero, List.set_cons_succ]
                    refine wpAnyH_done (by kernel_rfl) ?_ _
                    go_wp2_with fail
                    go_meet
                    exact ⟨rfl, hS.2.2.2.2.2.2.2.2⟩
            case rest =>
              obtain ⟨rfl, hBy⟩ := hcut
              have HBz := Lib.hid (hB.out.trans ((HBx.out.trans (hBy.mono HBx.out.size)).mono hB.out.size))
              clear hBy hS2 x0 x1 z0 z1 u0 u1 cok
              cases b
              · have HT : Hid (∀ b (hb : b < i), b < j + 1 → AgreeP r o q[i] (q[b]'(by omega))) := Lib.hid (fun b hb h => by
                  by_cases e : b = j
                  · subst e
                    rw [HCI.out, HDJ.out]
                    rcases HBB.out with ⟨h, _⟩ | ⟨_, h⟩
                    · cases h
                    · exact HAG.out.2 h
                  · exact hE.out b hb (by omega))
                go_wp2
                go_roundw
                case rel => exact ⟨j + 1, by omega, by go_num, HT, HBz⟩
                case measure => simp [intOf]; omega
              · have HN : Hid (Ending.returned (.bool false) = .returned (.bool (rowsB r o q))) := Lib.hid (ret_of (rows_no (fun h => by
                  have h1 := h i hlt j hjl
                  rw [HCI.out, HDJ.out] at h1
                  rcases HBB.out with ⟨_, h2⟩ | ⟨h2, _⟩
                  · exact h2 (HAG.out.1 h1)
                  · cases h2)))
                go_wp2
                go_ret
                exact ⟨HN.out, HBz.out⟩
        · obtain rfl : j = i := by omega
          have HT : Hid (∀ a (ha : a < q.length), a < j + 1 → ∀ b (hb : b < a), AgreeP r o q[a] (q[b]'(by omega))) := Lib.hid (fun a ha h b hb => by
            by_cases e : a = j
            · subst e; exact hE.out b hb hb
            · exact hA.out a ha (by omega) b hb)
          go_wp2
          go_roundw
          case rel => exact ⟨j + 1, by omega, by go_num, HT, hB⟩
          case measure => simp [intOf]; omega
    · obtain rfl : i = q.length := by omega
      have HY : Hid (Ending.returned (.bool true) = .returned (.bool (rowsB r o q))) := Lib.hid (ret_of (rows_yes (fun a ha b hb => hA.out a ha ha b hb)))
      go_wp2
      go_ret
      exact ⟨HY.out, hB.out⟩

end Go.Proofs.Ytpfnlnllaapjeaa
