/-
  l04Det in the model: the determinant of some rows and columns.
  slices.Concat of two slices of numbers.
-/
import Derived.Test.YtaececpphdaciaaGMat
import Derived.Deep.RegionHeld3
import Derived.Deep.RegionLaw
import Derived.Lib.AppendZeros
import Derived.Deep.AppendLies
namespace Go.Proofs.Ytaececpphdaciaa
open Go.RowKit

theorem ReadsII.at {w : World} {v : Value} {m : MatI} (h : ReadsII w v m) (k : Nat) (hk : k < m.length) : ∃ g o cap, v = .slice (some ⟨g, o, none⟩) m.length cap ∧ m.length ≤ cap ∧ cap ≤ 9223372036854775807 ∧ ∃ r, w.cell? ⟨g, o + k, none⟩ = some r ∧ ReadsI w r m[k] := by
  obtain ⟨g, o, cap, h1, h2, h3, _, h4⟩ := h.pos (by omega)
  exact ⟨g, o, cap, h1, h2, h3, h4 k hk⟩
theorem at2_get {m : MatI} {r c : Nat} (hr : r < m.length) (hc : c < m[r].length) : at2 m r c = m[r][c] := by
  unfold at2
  simp [hr, hc]
theorem nat_of {x : Int} (h : 0 ≤ x) : ∃ k : Nat, x = k := ⟨x.toNat, by omega⟩

set_option maxRecDepth 8000 in
set_option maxHeartbeats 12800000 in
theorem spec_det (v : Value) (m : MatI) (hm : matV m) : ∀ (rows cols : List Int) (vr vc : Value) (w : World), ReadsII w v m → ReadsI w vr rows → ReadsI w vc cols → cols.length = rows.length → rows.length ≤ 5 →
    (∀ x ∈ rows, 0 ≤ x ∧ x < m.length) → (∀ x ∈ cols, 0 ≤ x ∧ x < m.length) →
    Calls Try.prog 126 #[v, vr, vc] w fun e w' => e = .returned (.int .i64 (detD m rows cols)) ∧ Below w.heap.size w w' := by
  intro rows
  induction rows with
  | nil =>
    intro cols vr vc w hM hR hC _ _ _ _
    obtain ⟨p, cap, rfl, _, _⟩ := hR.shape
    clear hR hC hM
    simp only [List.length_nil]
    go_enter Try.func126, Try.ntmps126
    go_wp2
    go_ret
    exact ⟨rfl, by (repeat (first | exact Below.refl _ _ | (refine Below.setCell ?_ (by (first | exact Nat.le_refl _ | omega | (simp <;> omega) | simp)) _) | (refine Below.alloc ?_ (by (first | exact Nat.le_refl _ | omega | (simp <;> omega) | simp)) _) | (refine below_draws ?_ _)))⟩
  | cons r rs ih =>
    intro cols vr vc w hM hR hC hl h5 hrr hcc
    obtain ⟨hr0, hr1⟩ := hrr r (by simp)
    obtain ⟨kr, rfl⟩ := nat_of hr0
    have hkr : kr < m.length := by omega
    obtain ⟨gm, om, capm, rfl, hm1, hm2, rv, cm, hRow⟩ := hM.at kr hkr
    obtain ⟨gr, og, capr, rfl, hr2, hr3, hgr, hcr⟩ := hR.pos (by simp)
    obtain ⟨gc, oc, capc, rfl, hc2, hc3, hgc, hcell⟩ := hC.pos (by rw [hl]; simp)
    have cr0 := hcr 0 (by simp)
    simp only [List.getElem_cons_zero, Nat.add_zero] at cr0
    have hrl := (hm.2 kr hkr).1
    obtain ⟨gw, ow, capw, rfl, hw2, hw3, hgw, hwc⟩ := hRow.pos (by rw [hrl]; omega)
    rw [hrl] at cm
    have HWC := Lib.hid hwc; clear hwc
    have HCC := Lib.hid hcell; clear hcell
    have HRL := Lib.hid hrl
    rw [hrl] at hw2
    clear hrl hcr hRow
    have HM := Lib.hid hM; clear hM
    have HR := Lib.hid hR; clear hR
    have HC := Lib.hid hC; clear hC
    have HRR := Lib.hid hrr; clear hrr
    have HCI := Lib.hid hcc; clear hcc
    have HV := Lib.hid hm
    have hgm := World.block_lt_of_cell? w _ cm
    simp only [List.length_cons] at hl h5 hr2 ⊢
    have IH := Lib.hid ih; clear ih
    go_enter Try.func126, Try.ntmps126
    go_wp2
    go_loopw [7, 8, 18] (fun sv gv i wr => ∃ (k : Nat), k ≤ cols.length ∧ i = .int .i64 k ∧ sv = .int .i64 (detP m (detD m rs) kr cols k) ∧ gv = .int .i64 (sgn k) ∧ Hid (Below w.heap.size w wr)) (fun _ _ i _ => cols.length - (intOf i).toNat)
    case atStart => exact ⟨0, Nat.zero_le _, rfl, rfl, rfl, Lib.hid (by (repeat (first | exact Below.refl _ _ | (refine Below.setCell ?_ (by (first | exact Nat.le_refl _ | omega | (simp <;> omega) | simp)) _) | (refine Below.alloc ?_ (by (first | exact Nat.le_refl _ | omega | (simp <;> omega) | simp)) _) | (refine below_draws ?_ _))))⟩
    case round =>
      obtain ⟨k, hk, rfl, rfl, rfl, hB⟩ := hrel
      by_cases hlt : k < cols.length
      · obtain ⟨s, x, D, P, sx, T, P', es, ex, eD, eP, eP', q1, q2, q3, bs, bx, bsx, bD, bT, bP, bP', hz⟩ := det_step HV.out rs kr cols (by omega) hl k hlt
        rw [es, eP]
        have c0 := HCC.out k hlt
        obtain ⟨hc0, hc1⟩ := HCI.out cols[k] (List.getElem_mem hlt)
        obtain ⟨kc, hkc⟩ := nat_of hc0
        rw [hkc] at c0 hc1 ex
        have hkc' : kc < m[kr].length := by rw [HRL.out]; omega
        rw [at2_get hkr hkc'] at ex
        have c1 := HWC.out kc hkc'
        rw [ex] at c1
        have hBo := hB.out
        rw [← hBo.cell (p := ⟨gc, oc + k, none⟩) hgc] at c0
        rw [← hBo.cell (p := ⟨gw, ow + kc, none⟩) hgw] at c1
        have cm' := cm
        have cr' := cr0
        rw [← hBo.cell (p := ⟨gm, om + kr, none⟩) hgm] at cm'
        rw [← hBo.cell (p := ⟨gr, og, none⟩) hgr] at cr'
        clear hBo
        have hng := sgn_next k
        rw [es] at hng
        have HNG := Lib.hid hng; clear hng
        have EP' := Lib.hid eP'; clear eP'
        have EQ := Lib.hid eD; clear eD
        clear es eP hkc hc0 hkc' ex
        by_cases h0 : x = 0
        · subst h0
          have HPP := Lib.hid (hz rfl)
          clear hz q1 q2 q3
          go_wp2
          go_roundw
          case rel => exact ⟨k + 1, by omega, by go_num, by rw [EP'.out, HPP.out], by rw [← HNG.out], hB⟩
          case measure => simp [intOf]; omega
        · have hx0 : (x == 0) = false := by simpa using h0
          have hS0 := hB.out.size
          have n1 : (0 : Int) ≤ (k : Int) := by omega
          have n2 : (k : Int) ≤ (capc : Int) := by omega
          have n3 : (0 : Int) ≤ (k : Int) + 1 := by omega
          have n4 : (k : Int) + 1 ≤ (rs.length : Int) + 1 := by omega
          have n5 : (k : Int) + 1 ≤ (capc : Int) := by omega
          have n6 : (rs.length : Int) + 1 ≤ (capc : Int) := by omega
          have n7 : IntKind.i64.wrap ((k : Int) + 1) = (k : Int) + 1 := IntWalk.i64_in _ (by omega)
          clear hz h0
          go_wp2
          go_region_held3 (fun _ => True) (trivial)
            (first
              | ((refine step_append_ints _ (by rfl) _ _ (by rfl) wr.heap.size _ [] (by rfl) (own_emptyI _ _ (by first | exact Nat.le_refl _ | (simp; done))) (by rfl) ⟨_, rfl⟩ (cols.take k) (ReadsI.take (HC.out.later (by have hB := hB.out; (repeat (first | exact Below.refl _ _ | (refine Below.setCell ?_ (by (first | exact Nat.le_refl _ | omega | (simp <;> omega) | simp)) _) | (refine Below.alloc ?_ (by (first | exact Nat.le_refl _ | omega | (simp <;> omega) | simp)) _) | (refine below_draws ?_ _) | exact hB | (refine Below.trans ?_ (Below.mono hB (by (first | exact Nat.le_refl _ | omega | (simp <;> omega) | simp)))))))) k (by omega)) (by simp; omega) (by simp) ?_); intro v1 w1 o1 S1 G1; have hB1 : Below wr.heap.size wr w1 := Below.grown (by (repeat (first | exact Below.refl _ _ | (refine Below.setCell ?_ (by (first | exact Nat.le_refl _ | omega | (simp <;> omega) | simp)) _) | (refine Below.alloc ?_ (by (first | exact Nat.le_refl _ | omega | (simp <;> omega) | simp)) _) | (refine below_draws ?_ _)))) G1 (by simp) (fun k hk => by simp [Value.ownBlock] at hk; omega); simp at S1)
              | ((refine step_append_ints _ (by rfl) _ _ (by rfl) wr.heap.size v1 ([] ++ cols.take k) (by rfl) o1 (by rfl) ⟨if capc = k + 1 then ⟨gc, oc, none⟩ else ⟨gc, oc + (k + 1), none⟩, by split <;> rfl⟩ (cols.drop (k + 1)) (by have h := ReadsI.dropI (HC.out.later (show Below w.heap.size w w1 by have hB := hB.out; (repeat (first | exact Below.refl _ _ | (refine Below.setCell ?_ (by (first | exact Nat.le_refl _ | omega | (simp <;> omega) | simp)) _) | (refine Below.alloc ?_ (by (first | exact Nat.le_refl _ | omega | (simp <;> omega) | simp)) _) | (refine below_draws ?_ _) | exact hB | (refine Below.trans ?_ (Below.mono hB (by (first | exact Nat.le_refl _ | omega | (simp <;> omega) | simp)))) | exact hB1 | (refine Below.trans ?_ (Below.mono hB1 (by (first | exact Nat.le_refl _ | omega | (simp <;> omega) | simp)))))))) (k + 1) (by omega); first | exact h | (rw [hl] at h; simpa using h)) (by simp; omega) (by omega) ?_); intro v2 w2 o2 S2 G2))
          have hB2 : Below wr.heap.size wr w2 := hB1.grown G2 (by omega) (fun k hk => (o1.lt k hk).1)
          have hB3 : Below w.heap.size w w2 := by have hB := hB.out; (repeat (first | exact Below.refl _ _ | (refine Below.setCell ?_ (by (first | exact Nat.le_refl _ | omega | (simp <;> omega) | simp)) _) | (refine Below.alloc ?_ (by (first | exact Nat.le_refl _ | omega | (simp <;> omega) | simp)) _) | (refine below_draws ?_ _) | exact hB | (refine Below.trans ?_ (Below.mono hB (by (first | exact Nat.le_refl _ | omega | (simp <;> omega) | simp)))) | exact hB2 | (refine Below.trans ?_ (Below.mono hB2 (by (first | exact Nat.le_refl _ | omega | (simp <;> omega) | simp))))))
          have rv2 := ReadsI.of_own o2
          rw [List.nil_append, ← erase_take_drop] at rv2
          have hle : (cols.eraseIdx k).length = rs.length := by rw [List.length_eraseIdx, if_pos hlt]; omega
          have hcall := IH.out (cols.eraseIdx k) _ v2 w2 (HM.out.later hB3) (ReadsI.dropI (HR.out.later hB3) 1 (by simp)) rv2 hle (by omega) (fun x hx => HRR.out x (by simp [hx])) (fun x hx => HCI.out x (List.mem_of_mem_eraseIdx hx))
          rw [EQ.out] at hcall
          clear o1 o2 G1 G2 hB1 rv2 c0 c1 cm' cr'
          have p1 : (1 : Int) ≤ (rs.length : Int) + 1 := by omega
          have p2 : (1 : Int) ≤ (capr : Int) := by omega
          have p3 : (rs.length : Int) + 1 ≤ (capr : Int) := by omega
          have W1 : IntKind.i64.wrap (s * x) = sx := by rw [q1]; exact IntWalk.i64_in _ (by omega)
          have W2 : IntKind.i64.wrap (sx * D) = T := by rw [q2]; exact IntWalk.i64_in _ (by omega)
          have W3 : IntKind.i64.wrap (P + T) = P' := by rw [q3]; exact IntWalk.i64_in _ (by omega)
          simp only [List.length_cons, Nat.add_sub_cancel] at hcall
          generalize (if capc = k + 1 then some (⟨gc, oc, none⟩ : Addr) else some ⟨gc, oc + (k + 1), none⟩) = pz
          have W4 : IntKind.i64.wrap (-s) = -s := IntWalk.i64_in _ (by omega)
          have HS := Lib.hid bs
          clear q1 q2 q3 bs bx bsx bD bT n1 n2 n3 n4 n5 n6 n7 hle
          by_cases hk1 : capr = 1
          · subst hk1
            have e0 : rs.length = 0 := by omega
            rw [if_pos rfl, e0, Nat.sub_self] at hcall
            clear e0
            go_wp2_with fail
            with_reducible refine hcall.mono ?_
            rintro en w3 ⟨rfl, B3⟩
            clear hcall
            go_wp2
            go_roundw
            case rel => exact ⟨k + 1, by omega, by go_num, by rw [EP'.out], by rw [← HNG.out], Lib.hid (by (repeat (first | exact Below.refl _ _ | (refine Below.setCell ?_ (by (first | exact Nat.le_refl _ | omega | (simp <;> omega) | simp)) _) | (refine Below.alloc ?_ (by (first | exact Nat.le_refl _ | omega | (simp <;> omega) | simp)) _) | (refine below_draws ?_ _) | exact hB3 | (refine Below.trans ?_ (Below.mono hB3 (by (first | exact Nat.le_refl _ | omega | (simp <;> omega) | simp)))) | exact B3 | (refine Below.trans ?_ (Below.mono B3 (by (first | exact Nat.le_refl _ | omega | (simp <;> omega) | simp)))))))⟩
            case measure => simp [intOf]; omega
          · rw [if_neg hk1] at hcall
            go_wp2_with fail
            with_reducible refine hcall.mono ?_
            rintro en w3 ⟨rfl, B3⟩
            clear hcall
            go_wp2
            go_roundw
            case rel => exact ⟨k + 1, by omega, by go_num, by rw [EP'.out], by rw [← HNG.out], Lib.hid (by (repeat (first | exact Below.refl _ _ | (refine Below.setCell ?_ (by (first | exact Nat.le_refl _ | omega | (simp <;> omega) | simp)) _) | (refine Below.alloc ?_ (by (first | exact Nat.le_refl _ | omega | (simp <;> omega) | simp)) _) | (refine below_draws ?_ _) | exact hB3 | (refine Below.trans ?_ (Below.mono hB3 (by (first | exact Nat.le_refl _ | omega | (simp <;> omega) | simp)))) | exact B3 | (refine Below.trans ?_ (Below.mono B3 (by (first | exact Nat.le_refl _ | omega | (simp <;> omega) | simp)))))))⟩
            case measure => simp [intOf]; omega
      · obtain rfl : k = cols.length := by omega
        go_wp2
        go_ret
        exact ⟨rfl, hB.out⟩
end Go.Proofs.Ytaececpphdaciaa

namespace Go.Proofs.Ytaececpphdaciaa
open Go.RowKit

theorem fillI (n : Nat) : (Builtin.zeroCells (Value.int .i64 0).cells n).size = n := by
  rw [size_zeroCells]
  show n * 1 = n
  omega
set_option maxRecDepth 8000 in
theorem grow_nil (n : Nat) (hn : n ≤ 1048576) (w : World) :
    Calls Try.prog 123 #[.slice none 0 0, .int .i64 n] w fun e w' => ∃ v', e = .returned v' ∧ w'.ownsRow w.heap.size 3 1 v' ([] : List Int).length (cellsI []) ∧ Below w.heap.size w w' := by
  by_cases h0 : n = 0
  · subst h0
    go_enter Try.func123, Try.ntmps123
    go_wp2
    go_ret
    exact ⟨_, rfl, World.ownsRow_nil _ _ _ _, by (repeat (first | exact Below.refl _ _ | (refine Below.setCell ?_ (by (first | exact Nat.le_refl _ | omega | (simp <;> omega) | simp)) _) | (refine Below.alloc ?_ (by (first | exact Nat.le_refl _ | omega | (simp <;> omega) | simp)) _) | (refine below_draws ?_ _)))⟩
  · obtain ⟨i0, hi, hz0, hz1, hz2⟩ := info_parts Try.infoInt
    have hr := Lib.run_append_nil_zeros (P := Try.prog) w 38 3 38 3 i0 (.int .i64 0) .i64 .i64 Try.underlying38 Try.underlying3 hi hz0 n (by omega) (by omega) (by omega) (by rw [hz2]; omega)
    have hge := grownCap_ge w n 0 3
    have hcm : grownCap w n 0 3 ≤ maxLen := grownCap_le_maxLen w n 0 _ (by unfold maxLen; omega)
    have hcm' : grownCap w n 0 3 ≤ 9223372036854775807 := by unfold maxLen at hcm; omega
    have hown : (w.drew.alloc (.cells (Builtin.zeroCells (Value.int .i64 0).cells n ++ Builtin.zeroCells (Value.int .i64 0).cells (grownCap w n 0 3 - n)) 3)).ownsRow w.heap.size 3 1 (.slice (some ⟨w.heap.size, 0, none⟩) 0 (grownCap w n 0 3)) ([] : List Int).length (cellsI []) := by
      refine ⟨rfl, .inr ⟨w.heap.size, _, _, rfl, Nat.le_refl _, heap_alloc_new w.drew _, Nat.zero_le _, hcm, ?_, rfl⟩⟩
      rw [Array.size_append, fillI, fillI]; omega
    have HO := Lib.hid hown; clear hown
    have HB : Hid (Below w.heap.size w (w.drew.alloc (.cells (Builtin.zeroCells (Value.int .i64 0).cells n ++ Builtin.zeroCells (Value.int .i64 0).cells (grownCap w n 0 3 - n)) 3))) := Lib.hid (by (repeat (first | exact Below.refl _ _ | (refine Below.setCell ?_ (by (first | exact Nat.le_refl _ | omega | (simp <;> omega) | simp)) _) | (refine Below.alloc ?_ (by (first | exact Nat.le_refl _ | omega | (simp <;> omega) | simp)) _) | (refine below_draws ?_ _))))
    have c1 : (0 : Int) ≤ (grownCap w n 0 3 : Int) := by omega
    generalize grownCap w n 0 3 = cap at *
    generalize w.drew.alloc (.cells (Builtin.zeroCells (Value.int .i64 0).cells n ++ Builtin.zeroCells (Value.int .i64 0).cells (cap - n)) 3) = w1 at *
    have hn0 : (0 : Int) < (n : Int) := by omega
    clear hcm hi hz0 hz1 hz2
    go_enter Try.func123, Try.ntmps123
    go_wp2_with (at_builtin; refine Lib.wpList_append_run _ rfl _ _ _ _ rfl _ _ rfl rfl _ _ hr ?_)
    go_wp2
    go_ret
    exact ⟨_, rfl, HO.out, HB.out⟩

theorem grow_nil' (q : Int) (n : Nat) (hq : q = n) (hn : n ≤ 1048576) (w : World) :
    Calls Try.prog 123 #[.slice none 0 0, .int .i64 q] w fun e w' => ∃ v', e = .returned v' ∧ w'.ownsRow w.heap.size 3 1 v' ([] : List Int).length (cellsI []) ∧ Below w.heap.size w w' := by
  subst hq; exact grow_nil n hn w
set_option maxRecDepth 8000 in
set_option maxHeartbeats 6400000 in
theorem concat_two (b : Nat) (p1 p2 : Option Addr) (n1 c1 n2 c2 : Nat) (q1 q2 : List Int) (w : World) (h1 : w.cell? ⟨b, 0, none⟩ = some (.slice p1 n1 c1)) (h2 : w.cell? ⟨b, 1, none⟩ = some (.slice p2 n2 c2))
    (k1 : ReadsI w (.slice p1 n1 c1) q1) (k2 : ReadsI w (.slice p2 n2 c2) q2) (hp1 : ∃ a, p1 = some a) (hp2 : ∃ a, p2 = some a) (hl1 : q1.length ≤ 5) (hl2 : q2.length ≤ 5) :
    Calls Try.prog 105 #[.slice (some ⟨b, 0, none⟩) 2 2] w fun e w' => ∃ v', e = .returned v' ∧ ReadsI w' v' (q1 ++ q2) ∧ Below w.heap.size w w' := by
  have e1 := k1.len
  have e2 := k2.len
  subst e1; subst e2
  have hb := World.block_lt_of_cell? w _ h1
  have H1 := Lib.hid k1; clear k1
  have H2 := Lib.hid k2; clear k2
  go_enter Try.func105, Try.ntmps105
  go_wp2
  refine wp_loop_rounds 3 ?_
  rw [rounds_succ]
  go_wp2
  rw [rounds_succ]
  go_wp2
  rw [rounds_succ]
  go_wp2_with fail
  refine (grow_nil' _ (q1.length + q2.length) (by simp) (by omega) w).mono ?_
  rintro en w1 ⟨v1, rfl, o1, B1⟩
  have hb1 := B1.size
  have d1 : w1.cell? ⟨b, 0, none⟩ = some (.slice p1 q1.length c1) := by rw [B1.cell (p := ⟨b, 0, none⟩) hb]; exact h1
  have d2 : w1.cell? ⟨b, 1, none⟩ = some (.slice p2 q2.length c2) := by rw [B1.cell (p := ⟨b, 1, none⟩) hb]; exact h2
  clear h1 h2
  go_wp2
  refine wp_loop_rounds 3 ?_
  rw [rounds_succ]
  go_wp2_with (at_builtin; refine append_ints _ rfl _ _ rfl w.heap.size v1 [] rfl o1 rfl hp1 q1 (H1.out.later B1) (by simp; omega) hb1 ?_; intro v2 w2 o2 S2 G2)
  have B2 : Below w.heap.size w w2 := B1.grown G2 (by omega) (fun k hk => (o1.lt k hk).1)
  have d3 : w2.cell? ⟨b, 1, none⟩ = some (.slice p2 q2.length c2) := by rw [G2.cell_far ⟨b, 1, none⟩ (by simp; omega) (fun e => by have := (o1.lt b e.symm).1; omega)]; exact d2
  clear d1 d2
  go_wp2
  rw [rounds_succ]
  go_wp2_with (at_builtin; refine append_ints _ rfl _ _ rfl w.heap.size v2 ([] ++ q1) rfl o2 rfl hp2 q2 (H2.out.later B2) (by simp; omega) (by omega) ?_; intro v3 w3 o3 S3 G3)
  have B3 : Below w.heap.size w w3 := B2.grown G3 (by omega) (fun k hk => (o2.lt k hk).1)
  go_wp2
  rw [rounds_succ]
  go_wp2
  go_ret
  have o4 := ReadsI.of_own o3
  rw [List.nil_append] at o4
  exact ⟨_, rfl, o4, B3⟩
end Go.Proofs.Ytaececpphdaciaa
