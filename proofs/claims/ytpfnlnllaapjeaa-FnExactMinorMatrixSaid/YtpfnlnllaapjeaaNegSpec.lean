/-
  l09Negative and l09Det, in the model.
-/
import Derived.Test.YtpfnlnllaapjeaaNegMath
import Derived.Test.YtpfnlnllaapjeaaGLap
import Derived.Test.YtpfnlnllaapjeaaGDet
import Derived.Test.YtpfnlnllaapjeaaNodes
namespace Go.Proofs.Ytpfnlnllaapjeaa
open Go.RowKit

set_option maxRecDepth 8000 in
set_option maxHeartbeats 12800000 in
theorem spec_neg (v vp vq : Value) (m : MatI) (p q : List Int) (w : World) (hv : matV m) (h0 : 0 < m.length) (hp5 : p.length ≤ 5) (hq5 : q.length ≤ 5) (hpr : ∀ x ∈ p, 0 ≤ x ∧ x < (m.length : Int)) (hqr : ∀ x ∈ q, 0 ≤ x ∧ x < (m.length : Int)) (hM : ReadsII w v m) (hP : ReadsI w vp p) (hQ : ReadsI w vq q) :
    Calls Try.prog 113 #[v, vp, vq] w fun en w' => ∃ v', en = .returned v' ∧ OwnsM w' w.heap.size v' (negM m p q) ∧ Below w.heap.size w w' := by
  obtain ⟨pp, cp, rfl, _, _⟩ := hP.shape
  obtain ⟨pq, cq, rfl, _, _⟩ := hQ.shape
  obtain ⟨g, o, c, rfl, hg, hrows⟩ := rows_atI hM h0 (fun i hi => rowI_len hv hi)
  have HRW := Lib.hid hrows
  have HP := Lib.hid hP
  have HQ := Lib.hid hQ
  have HPR := Lib.hid hpr
  have HQR := Lib.hid hqr
  have HV := Lib.hid hv
  clear hrows hM hP hQ hpr hqr hv
  go_enter Try.func113, Try.ntmps113
  go_wp2
  go_loopw [7, 16] (fun ov iv wr => ∃ s : Nat, s ≤ p.length ∧ iv = .int .i64 s ∧ Hid (OwnsM wr w.heap.size ov (negTop m p q s)) ∧ Hid (Below w.heap.size w wr)) (fun _ iv _ => p.length - (intOf iv).toNat)
  case atStart => exact ⟨0, Nat.zero_le _, rfl, Lib.hid (mat_empty _ _ (Nat.le_refl _)), Lib.hid (by (repeat (first | exact Below.refl _ _ | (refine Below.setCell ?_ (by (first | exact Nat.le_refl _ | omega | (simp <;> omega) | simp)) _) | (refine Below.alloc ?_ (by (first | exact Nat.le_refl _ | omega | (simp <;> omega) | simp)) _) | (refine below_draws ?_ _))))⟩
  case round =>
    obtain ⟨s, hs, rfl, hO, hB⟩ := hrel
    have hszo := hB.out.size
    by_cases hlt : s < p.length
    · obtain ⟨gp, op, cp', hv, _, _, hgp, hcell⟩ := HP.out.pos (by omega)
      simp only [Value.slice.injEq, true_and] at hv
      obtain ⟨rfl, rfl⟩ := hv
      have c0 := hcell s hlt
      rw [← hB.out.cell (p := ⟨gp, op + s, none⟩) hgp] at c0
      obtain ⟨a, ha⟩ : ∃ a : Nat, p[s] = a := ⟨p[s].toNat, by have := HPR.out _ (List.getElem_mem hlt); omega⟩
      have hal : a < m.length := by have := HPR.out _ (List.getElem_mem hlt); omega
      have HTS := Lib.hid (negTop_snoc (m := m) q hlt)
      rw [ha] at c0 HTS
      obtain ⟨ga, oa, ca, a0, hga, -, hel⟩ := HRW.out a hal
      have HA0 := Lib.hid a0
      have HEL := Lib.hid hel
      clear hcell ha a0 hel
      obtain ⟨wo, hwo⟩ : ∃ wo, wo = wr := ⟨_, rfl⟩
      subst hwo
      go_wp2
      go_loopw [10, 23] (fun rv bv wi => ∃ t : Nat, t ≤ q.length ∧ bv = .int .i64 t ∧ Hid (wi.ownsRow wo.heap.size 3 1 rv (negRow m q a t).length (cellsI (negRow m q a t))) ∧ Hid (Below wo.heap.size wo wi)) (fun _ bv _ => q.length - (intOf bv).toNat)
      case atStart => exact ⟨0, Nat.zero_le _, rfl, Lib.hid (own_emptyI _ _ (Nat.le_refl _)), Lib.hid (by (repeat (first | exact Below.refl _ _ | (refine Below.setCell ?_ (by (first | exact Nat.le_refl _ | omega | (simp <;> omega) | simp)) _) | (refine Below.alloc ?_ (by (first | exact Nat.le_refl _ | omega | (simp <;> omega) | simp)) _) | (refine below_draws ?_ _))))⟩
      case round =>
        clear c0
        obtain ⟨t, ht, rfl, hown, hBi⟩ := hrel
        have hBw : Below w.heap.size w wr := hB.out.trans (hBi.out.mono hszo)
        have hsz := hBi.out.size
        have hll := negRow_length m q a ht
        by_cases htl : t < q.length
        · obtain ⟨gq, oq, cq', hv, _, _, hgq, hcell⟩ := HQ.out.pos (by omega)
          simp only [Value.slice.injEq, true_and] at hv
          obtain ⟨rfl, rfl⟩ := hv
          have d0 := hcell t htl
          rw [← hBw.cell (p := ⟨gq, oq + t, none⟩) hgq] at d0
          obtain ⟨b, hb⟩ : ∃ b : Nat, q[t] = b := ⟨q[t].toNat, by have := HQR.out _ (List.getElem_mem htl); omega⟩
          have hbl : b < m.length := by have := HQR.out _ (List.getElem_mem htl); omega
          have hsn := negRow_snoc (m := m) (a : Int) htl
          rw [hb] at d0 hsn
          rw [at2_el] at hsn
          have x0 := HEL.out b hbl
          have a0 := HA0.out
          rw [← hBw.cell (p := ⟨ga, oa + b, none⟩) hga] at x0
          rw [← hBw.cell (p := ⟨g, o + a, none⟩) hg] at a0
          have hin := elI_in HV.out hal hbl
          generalize elI m a b = X at *
          have HSN := Lib.hid hsn
          have hng : IntKind.i64.wrap (-X) = -X := IntWalk.i64_in _ (by omega)
          have k1 : (negRow m q a t).length + 1 ≤ 1099511627776 := by omega
          have k3 := hBi.out
          have own2 := hown.out
          clear hcell hb hsn
          go_wp2_with (at_builtin; refine append_int2 own2 k1 hsz k3 (by rfl) (by rfl) (by rfl) (by rfl) (by rfl) ?_; intro v' w3 hown3 hsz3 hB3 hG3)
          go_wp2
          go_roundw
          case rel => exact ⟨t + 1, by omega, by go_num, Lib.hid (by rw [HSN.out]; exact hown3), Lib.hid hB3⟩
          case measure => simp [intOf]; omega
        · obtain rfl : t = q.length := by omega
          obtain ⟨rs, hrs0⟩ := hO.out
          have hrs := hrs0.later hBi.out
          have hown1 : wr.ownsRow w.heap.size 31 1 u7 rs.length rs := by rw [hrs.2.1]; exact hrs.1
          have k1 : rs.length + 1 ≤ 1099511627776 := by have := hrs.2.1; rw [negTop_length m p q hs] at this; omega
          have k2 : w.heap.size ≤ wr.heap.size := by omega
          have hfar : ∀ (j : Nat) (x : Value), rs[j]? = some x → x.ownBlock = none ∨ x.ownBlock ≠ u10.ownBlock := fun j x hx => by
            obtain ⟨hj, hoj⟩ := hrs0.2.2.1 j x hx
            cases hxo : x.ownBlock with
            | none => exact .inl rfl
            | some gx =>
              right
              have h1 := (hoj.lt gx hxo).2
              intro e
              have h2 := (hown.out.lt gx e.symm).1
              omega
          have HRS := Lib.hid hrs
          have HFR := Lib.hid hfar
          have HO1 := Lib.hid (owns_mono hown.out (show w.heap.size ≤ wo.heap.size by omega))
          have HBW := Lib.hid hBw
          clear hrs0 hrs hfar hBw
          obtain ⟨pr, cr, hu5⟩ := owns_shape hown.out
          rw [hll] at hu5
          subst hu5
          go_wp2_with (at_builtin; refine append_row2 hown1 k1 k2 (by rfl) (by rfl) (by rfl) (by rfl) (by rfl) (by rfl) ?_; intro v' w3 hv3 hs3 hG3)
          have HOR := Lib.hid (OwnsR.snoc HRS.out HO1.out HFR.out hG3 (by rw [show (negTop m p q s ++ [negRow m q a q.length]).length = (rs ++ [Value.slice pr q.length cr]).length by simp [HRS.out.2.1]]; exact hv3))
          have HB3 := Lib.hid (HBW.out.grown hG3 k2 (fun k hk => (hown1.lt k hk).1))
          go_wp2
          go_roundw
          case rel => exact ⟨s + 1, by omega, by go_num, Lib.hid ⟨_, by rw [HTS.out]; exact HOR.out⟩, HB3⟩
          case measure => simp [intOf]; omega
    · obtain rfl : s = p.length := by omega
      have HTA := Lib.hid (negTop_all m p q)
      go_wp2
      go_ret
      exact ⟨_, rfl, by rw [← HTA.out]; exact hO.out, hB.out⟩
set_option maxRecDepth 8000 in
set_option maxHeartbeats 6400000 in
theorem spec_detAll (v : Value) (A : MatI) (w : World) (hA : matV A) (hr : ReadsII w v A) :
    Calls Try.prog 112 #[v] w fun en w' => en = .returned (.int .i64 (detD A (upTo A.length) (upTo A.length))) ∧ Below w.heap.size w w' := by
  obtain ⟨p, cap, rfl, _, _⟩ := hr.shape
  have h5 := hA.1
  have HR := Lib.hid hr
  have HD := Lib.hid (fun va vb W (h1 : ReadsII W (.slice p A.length cap) A) (h2 : ReadsI W va (upTo A.length)) (h3 : ReadsI W vb (upTo A.length)) => spec_det (.slice p A.length cap) A hA (upTo A.length) (upTo A.length) va vb W h1 h2 h3 rfl (by rw [upTo_length]; exact h5) (fun x hx => (upTo_mem _ x).1 hx) (fun x hx => (upTo_mem _ x).1 hx))
  clear hr hA
  go_enter Try.func112, Try.ntmps112
  go_wp2
  go_loopw [3, 8] (fun ov iv wr => ∃ k : Nat, k ≤ A.length ∧ iv = .int .i64 k ∧ Hid (wr.ownsRow w.heap.size 3 1 ov (upTo k).length (cellsI (upTo k))) ∧ Hid (Below w.heap.size w wr)) (fun _ iv _ => A.length - (intOf iv).toNat)
  case atStart => exact ⟨0, Nat.zero_le _, rfl, Lib.hid (own_emptyI _ _ (Nat.le_refl _)), Lib.hid (by (repeat (first | exact Below.refl _ _ | (refine Below.setCell ?_ (by (first | exact Nat.le_refl _ | omega | (simp <;> omega) | simp)) _) | (refine Below.alloc ?_ (by (first | exact Nat.le_refl _ | omega | (simp <;> omega) | simp)) _) | (refine below_draws ?_ _))))⟩
  case round =>
    obtain ⟨k, hk, rfl, hown, hB⟩ := hrel
    have hsz := hB.out.size
    by_cases hlt : k < A.length
    · have HSN := Lib.hid (upTo_succ k)
      have k1 : (upTo k).length + 1 ≤ 1099511627776 := by rw [upTo_length]; omega
      have k3 := hB.out
      have own1 := hown.out
      go_wp2_with (at_builtin; refine append_int2 own1 k1 hsz k3 (by rfl) (by rfl) (by rfl) (by rfl) (by rfl) ?_; intro v' w3 hown3 hsz3 hB3 hG3)
      go_wp2
      go_roundw
      case rel => exact ⟨k + 1, by omega, by go_num, Lib.hid (by rw [HSN.out]; exact hown3), Lib.hid hB3⟩
      case measure => simp [intOf]; omega
    · obtain rfl : k = A.length := by omega
      have hrd := ReadsI.of_own hown.out
      have hd := HD.out _ _ wr (HR.out.later hB.out) hrd hrd
      obtain ⟨DD, hDD⟩ : ∃ DD, DD = detD A (upTo A.length) (upTo A.length) := ⟨_, rfl⟩
      rw [← hDD] at hd
      have HRT : Hid (Ending.returned (.int .i64 DD) = .returned (.int .i64 (detD A (upTo A.length) (upTo A.length)))) := Lib.hid (by rw [hDD])
      have HDD := Lib.hid hd
      clear hd hrd hDD
      go_wp2_with fail
      with_reducible refine HDD.out.mono ?_
      rintro en w4 ⟨rfl, B4⟩
      have HF := Lib.hid (hB.out.trans (B4.mono hsz))
      clear B4
      go_wp2
      go_ret
      exact ⟨HRT.out, HF.out⟩
end Go.Proofs.Ytpfnlnllaapjeaa
