/-
  Minors of the negative elements of a matrix, as MinorMatrix takes them.
  l09Negative and l09Det, in the model.
  IsWeightMatrix, in the model and in the program.
  MinorMatrix, in the model and in the program.
  What PlanarReason and IsPlanarMatrix answer.
  PlanarReason and IsPlanarMatrix in the model.
  PlanarReason in the program.
-/
import Derived.Test.YtalonncjdohejaaWtMath
import Derived.Test.YtalonncjdohejaaRimMath
import Derived.Test.YtalonncjdohejaaGMat
import Derived.Test.YtalonncjdohejaaGLap
import Derived.Test.YtalonncjdohejaaGDet
import Derived.Test.YtalonncjdohejaaNodes
import Derived.Test.YtalonncjdohejaaGMinor
import Derived.Test.YtalonncjdohejaaGLists
import Derived.Test.YtalonncjdohejaaCircSpec
import Derived.Test.YtalonncjdohejaaCircImpl
import Derived.Test.YtalonncjdohejaaPairsTop
import Derived.Test.YtalonncjdohejaaGKeep
import Derived.BigQuiet
import Derived.Test.YtalonncjdohejaaPairIter
import Derived.Test.YtalonncjdohejaaCircMake
namespace Go.Proofs.Ytalonncjdohejaa
open Go.RowKit

def negRow (m : MatI) (q : List Int) (a : Int) (t : Nat) : List Int := (q.take t).map fun b => -at2 m a b
def negTop (m : MatI) (p q : List Int) (s : Nat) : MatI := (p.take s).map fun a => q.map fun b => -at2 m a b
def negM (m : MatI) (p q : List Int) : MatI := p.map fun a => q.map fun b => -at2 m a b
theorem negRow_snoc {m : MatI} {q : List Int} (a : Int) {t : Nat} (h : t < q.length) : negRow m q a (t + 1) = negRow m q a t ++ [-at2 m a q[t]] := by
  unfold negRow; rw [List.take_succ_eq_append_getElem h, List.map_append]; rfl
theorem negRow_length (m : MatI) (q : List Int) (a : Int) {t : Nat} (h : t ≤ q.length) : (negRow m q a t).length = t := by simp [negRow]; omega
theorem negRow_all (m : MatI) (q : List Int) (a : Int) : negRow m q a q.length = q.map fun b => -at2 m a b := by unfold negRow; rw [List.take_length]
theorem negTop_snoc {m : MatI} {p : List Int} (q : List Int) {s : Nat} (h : s < p.length) : negTop m p q (s + 1) = negTop m p q s ++ [negRow m q p[s] q.length] := by
  rw [negRow_all]; unfold negTop; rw [List.take_succ_eq_append_getElem h, List.map_append]; rfl
theorem negTop_length (m : MatI) (p q : List Int) {s : Nat} (h : s ≤ p.length) : (negTop m p q s).length = s := by simp [negTop]; omega
theorem negTop_all (m : MatI) (p q : List Int) : negTop m p q p.length = negM m p q := by unfold negTop negM; rw [List.take_length]
theorem negM_length (m : MatI) (p q : List Int) : (negM m p q).length = p.length := by simp [negM]
theorem at2_el {m : MatI} {a b : Nat} : at2 m (a : Int) (b : Int) = elI m a b := by unfold at2 elI rowI; simp
theorem negM_matV {m : MatI} (hv : matV m) {p q : List Int} (h5 : p.length ≤ 5) (hl : p.length = q.length) : matV (negM m p q) := by
  refine ⟨by rw [negM_length]; exact h5, fun k hk => ?_⟩
  rw [negM_length]
  simp only [negM, List.getElem_map]
  refine ⟨by simp [hl], fun j hj => ?_⟩
  simp only [List.getElem_map]
  have hkp : k < p.length := by rw [negM_length] at hk; exact hk
  have hjq : j < q.length := by simpa using hj
  have := at2_le hv p[k] q[j]
  omega
/-- What MinorMatrix answers where it answers. -/
def negD (m : MatI) (p q : List Int) : Int := if p.length % 2 = 1 then -detD m p q else detD m p q
theorem neg_det {m : MatI} {p q : List Int} (hl : p.length = q.length) (h0 : p.length ≠ 0) (h2 : p.length ≤ 2) : detD (negM m p q) (upTo p.length) (upTo p.length) = negD m p q := by
  match p, q, hl, h0, h2 with
  | [a], [c], _, _, _ =>
    show detD [[-at2 m a c]] [0] [0] = -detD m [a] [c]
    simp [detD, detP, sgn, at2]
  | [a, b], [c, d], _, _, _ =>
    have e1 : negM m [a, b] [c, d] = [[-at2 m a c, -at2 m a d], [-at2 m b c, -at2 m b d]] := rfl
    have e2 : upTo [a, b].length = [0, 1] := show upTo 2 = [0, 1] by decide
    have e3 : negD m [a, b] [c, d] = detD m [a, b] [c, d] := by simp [negD]
    rw [e1, e2, e3]
    have f : ∀ (M : MatI) (r s x y : Int), detD M [r, s] [x, y] = at2 M r x * at2 M s y - at2 M r y * at2 M s x := fun M r s x y => by
      simp [detD, detP, sgn]
      rw [Int.sub_eq_add_neg, Int.neg_mul]
    rw [f, f]
    have g1 : at2 [[-at2 m a c, -at2 m a d], [-at2 m b c, -at2 m b d]] 0 0 = -at2 m a c := rfl
    have g2 : at2 [[-at2 m a c, -at2 m a d], [-at2 m b c, -at2 m b d]] 0 1 = -at2 m a d := rfl
    have g3 : at2 [[-at2 m a c, -at2 m a d], [-at2 m b c, -at2 m b d]] 1 0 = -at2 m b c := rfl
    have g4 : at2 [[-at2 m a c, -at2 m a d], [-at2 m b c, -at2 m b d]] 1 1 = -at2 m b d := rfl
    rw [g1, g2, g3, g4]
    simp only [Int.neg_mul_neg]
noncomputable def mmR (m : MatI) (p q : List Int) : Int × Bool := if isWB m = true ∧ circB m.length p q = true then (negD m p q, true) else (0, false)
theorem mmR_no {m : MatI} {p q : List Int} (h : ¬ (isWB m = true ∧ circB m.length p q = true)) : mmR m p q = (0, false) := by unfold mmR; rw [if_neg h]
theorem mmR_yes {m : MatI} {p q : List Int} (h1 : isWB m = true) (h2 : circB m.length p q = true) : mmR m p q = (negD m p q, true) := by unfold mmR; rw [if_pos ⟨h1, h2⟩]
theorem circ_parts {N : Nat} {p q : List Int} (h : circB (N : Int) p q = true) : p.length = q.length ∧ p.length ≠ 0 ∧ p.length ≤ 2 ∧ (∀ x ∈ p, 0 ≤ x ∧ x < (N : Int)) ∧ (∀ x ∈ q, 0 ≤ x ∧ x < (N : Int)) := by
  obtain ⟨h1, h5, hl, h0, hv, -⟩ := circB_iff.1 h
  rw [Int.toNat_natCast] at hv
  have h3 := lin_len hv
  rw [rim_length] at h3
  refine ⟨hl, h0, by omega, fun x hx => hv.1 x (by unfold rimL; simp [hx]), fun x hx => hv.1 x (by unfold rimL; simp [hx])⟩
end Go.Proofs.Ytalonncjdohejaa

namespace Go.Proofs.Ytalonncjdohejaa
open Go.RowKit

set_option maxRecDepth 8000 in
set_option maxHeartbeats 12800000 in
theorem spec_neg (v vp vq : Value) (m : MatI) (p q : List Int) (w : World) (hv : matV m) (h0 : 0 < m.length) (hp5 : p.length ≤ 5) (hq5 : q.length ≤ 5) (hpr : ∀ x ∈ p, 0 ≤ x ∧ x < (m.length : Int)) (hqr : ∀ x ∈ q, 0 ≤ x ∧ x < (m.length : Int)) (hM : ReadsII w v m) (hP : ReadsI w vp p) (hQ : ReadsI w vq q) :
    Calls Try.prog 44 #[v, vp, vq] w fun en w' => ∃ v', en = .returned v' ∧ OwnsM w' w.heap.size v' (negM m p q) ∧ Below w.heap.size w w' := by
  obtain ⟨pp, cp, rfl, _, _⟩ := hP.shape
  obtain ⟨pq, cq, rfl, _, _⟩ := hQ.shape
  obtain ⟨g, o, c, rfl, hg, hrows⟩ := rows_atI hM h0 (fun i hi => rowI_len hv hi)
  have HRW := Lib.hid hrows
  have HP := Lib.hid hP
  have HQ := Lib.hid hQ
  have HPR := Lib.hid hpr
  have HQR := Lib.hid hqr
  have HV := Lib.hid hv
  clear hrows hM hP hQ hpr hqr hv
  go_enter Try.func44, Try.ntmps44
  go_wp2
  go_loopw [7, 16] (fun ov iv wr => ∃ s : Nat, s ≤ p.length ∧ iv = .int .i64 s ∧ Hid (OwnsM wr w.heap.size ov (negTop m p q s)) ∧ Hid (Below w.heap.size w wr)) (fun _ iv _ => p.length - (intOf iv).toNat)
  case atStart => exact ⟨0, Nat.zero_le _, rfl, Lib.hid (mat_empty _ _ (Nat.le_refl _)), Lib.hid (by (repeat (first | exact Below.refl _ _ | (refine Below.setCell ?_ (by (first | exact Nat.le_refl _ | omega | (simp <;> omega) | simp)) _) | (refine Below.alloc ?_ (by (first | exact Nat.le_refl _ | omega | (simp <;> omega) | simp)) _) | (refine below_draws ?_ _))))⟩
  case round =>
    obtain ⟨s, hs, rfl, hO, hB⟩ := hrel
    have hszo := hB.out.size
    by_cases hlt : s < p.length
    · obtain ⟨gp, op, cp', hv, _, _, hgp, hcell⟩ := HP.out.pos (by omega)
      simp only [Value.slice.injEq, true_and] at hv
      obtain ⟨rfl, rfl⟩ := hv
      have c0 := hcell s hlt
      rw [← hB.out.cell (p := ⟨gp, op + s, none⟩) hgp] at c0
      obtain ⟨a, ha⟩ : ∃ a : Nat, p[s] = a := ⟨p[s].toNat, by have := HPR.out _ (List.getElem_mem hlt); omega⟩
      have hal : a < m.length := by have := HPR.out _ (List.getElem_mem hlt); omega
      have HTS := Lib.hid (negTop_snoc (m := m) q hlt)
      rw [ha] at c0 HTS
      obtain ⟨ga, oa, ca, a0, hga, -, hel⟩ := HRW.out a hal
      have HA0 := Lib.hid a0
      have HEL := Lib.hid hel
      clear hcell ha a0 hel
      obtain ⟨wo, hwo⟩ : ∃ wo, wo = wr := ⟨_, rfl⟩
      subst hwo
      go_wp2
      go_loopw [10, 23] (fun rv bv wi => ∃ t : Nat, t ≤ q.length ∧ bv = .int .i64 t ∧ Hid (wi.ownsRow wo.heap.size 3 1 rv (negRow m q a t).length (cellsI (negRow m q a t))) ∧ Hid (Below wo.heap.size wo wi)) (fun _ bv _ => q.length - (intOf bv).toNat)
      case atStart => exact ⟨0, Nat.zero_le _, rfl, Lib.hid (own_emptyI _ _ (Nat.le_refl _)), Lib.hid (by (repeat (first | exact Below.refl _ _ | (refine Below.setCell ?_ (by (first | exact Nat.le_refl _ | omega | (simp <;> omega) | simp)) _) | (refine Below.alloc ?_ (by (first | exact Nat.le_refl _ | omega | (simp <;> omega) | simp)) _) | (refine below_draws ?_ _))))⟩
      case round =>
        clear c0
        obtain ⟨t, ht, rfl, hown, hBi⟩ := hrel
        have hBw : Below w.heap.size w wr := hB.out.trans (hBi.out.mono hszo)
        have hsz := hBi.out.size
        have hll := negRow_length m q a ht
        by_cases htl : t < q.length
        · obtain ⟨gq, oq, cq', hv, _, _, hgq, hcell⟩ := HQ.out.pos (by omega)
          simp only [Value.slice.injEq, true_and] at hv
          obtain ⟨rfl, rfl⟩ := hv
          have d0 := hcell t htl
          rw [← hBw.cell (p := ⟨gq, oq + t, none⟩) hgq] at d0
          obtain ⟨b, hb⟩ : ∃ b : Nat, q[t] = b := ⟨q[t].toNat, by have := HQR.out _ (List.getElem_mem htl); omega⟩
          have hbl : b < m.length := by have := HQR.out _ (List.getElem_mem htl); omega
          have hsn := negRow_snoc (m := m) (a : Int) htl
          rw [hb] at d0 hsn
          rw [at2_el] at hsn
          have x0 := HEL.out b hbl
          have a0 := HA0.out
          rw [← hBw.cell (p := ⟨ga, oa + b, none⟩) hga] at x0
          rw [← hBw.cell (p := ⟨g, o + a, none⟩) hg] at a0
          have hin := elI_in HV.out hal hbl
          generalize elI m a b = X at *
          have HSN := Lib.hid hsn
          have hng : IntKind.i64.wrap (-X) = -X := IntWalk.i64_in _ (by omega)
          have k1 : (negRow m q a t).length + 1 ≤ 1099511627776 := by omega
          have k3 := hBi.out
          have own2 := hown.out
          clear hcell hb hsn
          go_wp2_with (at_builtin; refine append_int2 own2 k1 hsz k3 (by rfl) (by rfl) (by rfl) (by rfl) (by rfl) ?_; intro v' w3 hown3 hsz3 hB3 hG3)
          go_wp2
          go_roundw
          case rel => exact ⟨t + 1, by omega, by go_num, Lib.hid (by rw [HSN.out]; exact hown3), Lib.hid hB3⟩
          case measure => simp [intOf]; omega
        · obtain rfl : t = q.length := by omega
          obtain ⟨rs, hrs0⟩ := hO.out
          have hrs := hrs0.later hBi.out
          have hown1 : wr.ownsRow w.heap.size 49 1 u7 rs.length rs := by rw [hrs.2.1]; exact hrs.1
          have k1 : rs.length + 1 ≤ 1099511627776 := by have := hrs.2.1; rw [negTop_length m p q hs] at this; omega
          have k2 : w.heap.size ≤ wr.heap.size := by omega
          have hfar : ∀ (j : Nat) (x : Value), rs[j]? = some x → x.ownBlock = none ∨ x.ownBlock ≠ u10.ownBlock := fun j x hx => by
            obtain ⟨hj, hoj⟩ := hrs0.2.2.1 j x hx
            cases hxo : x.ownBlock with
            | none => exact .inl rfl
            | some gx =>
              right
              have h1 := (hoj.lt gx hxo).2
              intro e
              have h2 := (hown.out.lt gx e.symm).1
              omega
          have HRS := Lib.hid hrs
          have HFR := Lib.hid hfar
          have HO1 := Lib.hid (owns_mono hown.out (show w.heap.size ≤ wo.heap.size by omega))
          have HBW := Lib.hid hBw
          clear hrs0 hrs hfar hBw
          obtain ⟨pr, cr, hu5⟩ := owns_shape hown.out
          rw [hll] at hu5
          subst hu5
          go_wp2_with (at_builtin; refine append_row2 hown1 k1 k2 (by rfl) (by rfl) (by rfl) (by rfl) (by rfl) (by rfl) ?_; intro v' w3 hv3 hs3 hG3)
          have HOR := Lib.hid (OwnsR.snoc HRS.out HO1.out HFR.out hG3 (by rw [show (negTop m p q s ++ [negRow m q a q.length]).length = (rs ++ [Value.slice pr q.length cr]).length by simp [HRS.out.2.1]]; exact hv3))
          have HB3 := Lib.hid (HBW.out.grown hG3 k2 (fun k hk => (hown1.lt k hk).1))
          go_wp2
          go_roundw
          case rel => exact ⟨s + 1, by omega, by go_num, Lib.hid ⟨_, by rw [HTS.out]; exact HOR.out⟩, HB3⟩
          case measure => simp [intOf]; omega
    · obtain rfl : s = p.length := by omega
      have HTA := Lib.hid (negTop_all m p q)
      go_wp2
      go_ret
      exact ⟨_, rfl, by rw [← HTA.out]; exact hO.out, hB.out⟩
set_option maxRecDepth 8000 in
set_option maxHeartbeats 6400000 in
theorem spec_detAll (v : Value) (A : MatI) (w : World) (hA : matV A) (hr : ReadsII w v A) :
    Calls Try.prog 43 #[v] w fun en w' => en = .returned (.int .i64 (detD A (upTo A.length) (upTo A.length))) ∧ Below w.heap.size w w' := by
  obtain ⟨p, cap, rfl, _, _⟩ := hr.shape
  have h5 := hA.1
  have HR := Lib.hid hr
  have HD := Lib.hid (fun va vb W (h1 : ReadsII W (.slice p A.length cap) A) (h2 : ReadsI W va (upTo A.length)) (h3 : ReadsI W vb (upTo A.length)) => spec_det (.slice p A.length cap) A hA (upTo A.length) (upTo A.length) va vb W h1 h2 h3 rfl (by rw [upTo_length]; exact h5) (fun x hx => (upTo_mem _ x).1 hx) (fun x hx => (upTo_mem _ x).1 hx))
  clear hr hA
  go_enter Try.func43, Try.ntmps43
  go_wp2
  go_loopw [3, 8] (fun ov iv wr => ∃ k : Nat, k ≤ A.length ∧ iv = .int .i64 k ∧ Hid (wr.ownsRow w.heap.size 3 1 ov (upTo k).length (cellsI (upTo k))) ∧ Hid (Below w.heap.size w wr)) (fun _ iv _ => A.length - (intOf iv).toNat)
  case atStart => exact ⟨0, Nat.zero_le _, rfl, Lib.hid (own_emptyI _ _ (Nat.le_refl _)), Lib.hid (by (repeat (first | exact Below.refl _ _ | (refine Below.setCell ?_ (by (first | exact Nat.le_refl _ | omega | (simp <;> omega) | simp)) _) | (refine Below.alloc ?_ (by (first | exact Nat.le_refl _ | omega | (simp <;> omega) | simp)) _) | (refine below_draws ?_ _))))⟩
  case round =>
    obtain ⟨k, hk, rfl, hown, hB⟩ := hrel
    have hsz := hB.out.size
    by_cases hlt : k < A.length
    · have HSN := Lib.hid (upTo_succ k)
      have k1 : (upTo k).length + 1 ≤ 1099511627776 := by rw [upTo_length]; omega
      have k3 := hB.out
      have own1 := hown.out
      go_wp2_with (at_builtin; refine append_int2 own1 k1 hsz k3 (by rfl) (by rfl) (by rfl) (by rfl) (by rfl) ?_; intro v' w3 hown3 hsz3 hB3 hG3)
      go_wp2
      go_roundw
      case rel => exact ⟨k + 1, by omega, by go_num, Lib.hid (by rw [HSN.out]; exact hown3), Lib.hid hB3⟩
      case measure => simp [intOf]; omega
    · obtain rfl : k = A.length := by omega
      have hrd := ReadsI.of_own hown.out
      have hd := HD.out _ _ wr (HR.out.later hB.out) hrd hrd
      obtain ⟨DD, hDD⟩ : ∃ DD, DD = detD A (upTo A.length) (upTo A.length) := ⟨_, rfl⟩
      rw [← hDD] at hd
      have HRT : Hid (Ending.returned (.int .i64 DD) = .returned (.int .i64 (detD A (upTo A.length) (upTo A.length)))) := Lib.hid (by rw [hDD])
      have HDD := Lib.hid hd
      clear hd hrd hDD
      go_wp2_with fail
      with_reducible refine HDD.out.mono ?_
      rintro en w4 ⟨rfl, B4⟩
      have HF := Lib.hid (hB.out.trans (B4.mono hsz))
      clear B4
      go_wp2
      go_ret
      exact ⟨HRT.out, HF.out⟩
end Go.Proofs.Ytalonncjdohejaa

namespace Go.Proofs.Ytalonncjdohejaa
open Go.RowKit

set_option maxRecDepth 8000 in
set_option maxHeartbeats 6400000 in
theorem spec_isW (v : Value) (m : MatI) (w : World) (hr : ReadsII w v m) :
    Calls Try.prog 42 #[v] w fun en w' => en = .returned (.bool (isWB m)) ∧ Below w.heap.size w w' := by
  obtain ⟨p, cap, rfl, hm0, hm1⟩ := hr.shape
  have hmat := spec_matrix _ m w hr
  by_cases hn : (1 : Int) ≤ (m.length : Int) ∧ (m.length : Int) ≤ 5
  case neg =>
    have HN := Lib.hid (ret_w (isW_no (m := m) (fun h => hn (by have h1 := h.1; have h2 := h.2.1.1; omega))))
    clear hr hmat
    go_enter Try.func42, Try.ntmps42
    go_wp2_with fail
    refine (in_no (m.length : Int) 1 5 _ hn).mono ?_
    rintro en w1 ⟨rfl, rfl⟩
    go_wp2
    go_ret
    exact ⟨HN.out, Below.refl _ _⟩
  obtain ⟨n1, n5⟩ := hn
  have h0 : ¬ m.length = 0 := by omega
  cases hb : matB m
  · have HN := Lib.hid (ret_w (isW_no (m := m) (fun h => by rw [matB_yes h.2.1] at hb; cases hb)))
    rw [hb] at hmat
    clear hr hb
    go_enter Try.func42, Try.ntmps42
    go_wp2_with fail
    refine (in_yes (m.length : Int) 1 5 _ n1 n5).mono ?_
    rintro en w0 ⟨rfl, rfl⟩
    go_wp2_with fail
    with_reducible refine hmat.mono ?_
    rintro en w1 ⟨rfl, rfl⟩
    clear hmat
    go_wp2
    go_ret
    exact ⟨HN.out, Below.refl _ _⟩
  rw [hb] at hmat
  have hv := matB_iff.1 hb
  have h5 := hv.1
  obtain ⟨g, o, c, hvv, hg, hrows⟩ := rows_atI hr (by omega) (fun i hi => rowI_len hv hi)
  simp only [Value.slice.injEq] at hvv
  obtain ⟨rfl, -, rfl⟩ := hvv
  have HV := Lib.hid hv
  have HRW := Lib.hid hrows
  clear hrows hr hb hv
  go_enter Try.func42, Try.ntmps42
  go_wp2_with fail
  refine (in_yes (m.length : Int) 1 5 _ n1 n5).mono ?_
  rintro en w0 ⟨rfl, rfl⟩
  go_wp2_with fail
  with_reducible refine hmat.mono ?_
  rintro en w1 ⟨rfl, rfl⟩
  clear hmat
  go_wp2
  go_loopw [19] (fun iv wr => ∃ i : Nat, i ≤ m.length ∧ iv = .int .i64 i ∧ Hid (∀ a, a < i → (∀ j, j < m.length → QW m a j) ∧ sumI (rowI m a) m.length = 0) ∧ wr = w) (fun iv _ => m.length - (intOf iv).toNat)
  case atStart => exact ⟨0, Nat.zero_le _, rfl, Lib.hid (fun a ha => absurd ha (by omega)), rfl⟩
  case round =>
    obtain ⟨i, hi, rfl, hQ, rfl⟩ := hrel
    by_cases hil : i < m.length
    · obtain ⟨gi, oi, ci, a0, hgi, -, hel⟩ := HRW.out i hil
      have HEL := Lib.hid hel
      have HSI := Lib.hid (fun j (hj : j ≤ m.length) => sumI_in HV.out hil j hj)
      clear hel
      go_wp2
      go_loopw [5, 26] (fun sv jv wi => ∃ j : Nat, j ≤ m.length ∧ jv = .int .i64 j ∧ sv = .int .i64 (sumI (rowI m i) j) ∧ Hid (∀ b, b < j → QW m i b) ∧ wi = wr) (fun _ jv _ => m.length - (intOf jv).toNat)
      case atStart => exact ⟨0, Nat.zero_le _, rfl, by rw [sumI_zero], Lib.hid (fun a ha => absurd ha (by omega)), rfl⟩
      case round =>
        obtain ⟨j, hj, rfl, rfl, hq, rfl⟩ := hrel
        rename World => wi
        by_cases hjl : j < m.length
        · obtain ⟨gj, oj, cj, b0, hgj, -, hej⟩ := HRW.out j hjl
          have x0 := HEL.out j hjl
          have y0 := hej i hil
          have HNO : Hid (¬ QW m i j → Ending.returned (.bool false) = .returned (.bool (isWB m))) := Lib.hid (fun hx => ret_w (isW_no (fun h => hx ((h.2.2 i hil).1 j hjl))))
          have HYE : Hid (QW m i j → ∀ b, b < j + 1 → QW m i b) := Lib.hid (fun hx b hb => by
            by_cases h : b = j
            · subst h; exact hx
            · exact hq.out b (by omega))
          unfold QW at HNO
          have hXb := elI_in HV.out hil hjl
          obtain ⟨s1, s2⟩ := HSI.out j (by omega)
          obtain ⟨S, hS⟩ : ∃ S, S = sumI (rowI m i) j := ⟨_, rfl⟩
          have hSn := sumI_next HV.out hil hjl
          rw [← hS] at hSn s1 s2 ⊢
          have HYQ : Hid (elI m i j = elI m j i ∧ (i ≠ j → elI m i j ≤ 0) → QW m i j) := Lib.hid (fun h => h)
          generalize hX : elI m i j = X at *
          generalize hY : elI m j i = Y at *
          clear hej hX hY hS
          by_cases hxy : X = Y
          case neg =>
            have HN := Lib.hid (HNO.out (fun h => hxy h.1))
            clear hSn
            go_wp2
            go_ret
            exact ⟨HN.out, Below.refl _ _⟩
          subst hxy
          by_cases hij : i = j
          · have HY := Lib.hid (HYE.out (HYQ.out ⟨rfl, fun h => absurd hij h⟩))
            have HSN := Lib.hid hSn
            have hw : IntKind.i64.wrap (S + X) = S + X := IntWalk.i64_in _ (by omega)
            have hw2 : wrap64 (S + X) = S + X := by unfold wrap64; omega
            subst hij
            clear hSn
            go_wp2
            go_roundw
            case rel => exact ⟨i + 1, by omega, by go_num, by rw [HSN.out], HY, by first | trivial | rfl⟩
            case measure => simp [intOf]; omega
          · have hij' : ¬ ((i : Int) = (j : Int)) := by omega
            by_cases hpos : 0 < X
            · have HN := Lib.hid (HNO.out (fun h => by have := h.2 hij; omega))
              clear hSn
              go_wp2
              go_ret
              exact ⟨HN.out, Below.refl _ _⟩
            · have HY := Lib.hid (HYE.out (HYQ.out ⟨rfl, fun _ => by omega⟩))
              have HSN := Lib.hid hSn
              have hw : IntKind.i64.wrap (S + X) = S + X := IntWalk.i64_in _ (by omega)
              have hw2 : wrap64 (S + X) = S + X := by unfold wrap64; omega
              have hpos' : decide (0 < X) = false := by simp; omega
              clear hSn
              go_wp2
              go_roundw
              case rel => exact ⟨j + 1, by omega, by go_num, by rw [HSN.out], HY, by first | trivial | rfl⟩
              case measure => simp [intOf]; omega
        · obtain rfl : j = m.length := by omega
          by_cases hz : sumI (rowI m i) m.length = 0
          · have HT : Hid (∀ a, a < i + 1 → (∀ j, j < m.length → QW m a j) ∧ sumI (rowI m a) m.length = 0) := Lib.hid (fun a ha => by
              by_cases h : a = i
              · subst h; exact ⟨hq.out, hz⟩
              · exact hQ.out a (by omega))
            rw [hz]
            clear hz
            go_wp2
            go_roundw
            case rel => exact ⟨i + 1, by omega, by go_num, HT, by first | trivial | rfl⟩
            case measure => simp [intOf]; omega
          · have HN := Lib.hid (ret_w (isW_no (m := m) (fun h => hz (h.2.2 i hil).2)))
            generalize sumI (rowI m i) m.length = S at *
            go_wp2
            go_ret
            exact ⟨HN.out, Below.refl _ _⟩
    · obtain rfl : i = m.length := by omega
      have HY := Lib.hid (ret_w (isW_yes (m := m) ⟨by omega, HV.out, hQ.out⟩))
      go_wp2
      go_ret
      exact ⟨HY.out, Below.refl _ _⟩
set_option maxRecDepth 8000 in
set_option maxHeartbeats 6400000 in
theorem impl_isW (v : Value) (m : MatI) (w : World) (hr : ReadsII w v m) :
    Calls Try.prog 46 #[v] w fun en w' => en = .returned (.bool (isWB m)) ∧ Below w.heap.size w w' := by
  obtain ⟨p, cap, rfl, hm0, hm1⟩ := hr.shape
  have hmat := impl_matrix _ m w hr
  by_cases h0 : m.length = 0
  · have HN := Lib.hid (ret_w (isW_no (m := m) (fun h => by have h1 := h.1; rw [h0] at h1; cases h1)))
    rw [h0]
    clear hr hmat
    go_enter Try.func46, Try.ntmps46
    go_wp2
    go_ret
    exact ⟨HN.out, Below.refl _ _⟩
  have h0' : ((m.length : Int) == 0) = false := by rw [beq_eq_false_iff_ne]; omega
  have h0'' : ¬ ((m.length : Int) = 0) := by omega
  cases hb : matB m
  · have HN := Lib.hid (ret_w (isW_no (m := m) (fun h => by rw [matB_yes h.2.1] at hb; cases hb)))
    rw [hb] at hmat
    clear hr hb
    go_enter Try.func46, Try.ntmps46
    go_wp2_with fail
    with_reducible refine hmat.mono ?_
    rintro en w1 ⟨rfl, rfl⟩
    clear hmat
    go_wp2
    go_ret
    exact ⟨HN.out, Below.refl _ _⟩
  rw [hb] at hmat
  have hv := matB_iff.1 hb
  have h5 := hv.1
  obtain ⟨g, o, c, hvv, hg, hrows⟩ := rows_atI hr (by omega) (fun i hi => rowI_len hv hi)
  simp only [Value.slice.injEq] at hvv
  obtain ⟨rfl, -, rfl⟩ := hvv
  have HV := Lib.hid hv
  have HRW := Lib.hid hrows
  clear hrows hr hb hv
  go_enter Try.func46, Try.ntmps46
  go_wp2_with fail
  with_reducible refine hmat.mono ?_
  rintro en w1 ⟨rfl, rfl⟩
  clear hmat
  go_wp2
  go_loopw [18] (fun iv wr => ∃ i : Nat, i ≤ m.length ∧ iv = .int .i64 i ∧ Hid (∀ a, a < i → (∀ j, j < m.length → QW m a j) ∧ sumI (rowI m a) m.length = 0) ∧ wr = w) (fun iv _ => m.length - (intOf iv).toNat)
  case atStart => exact ⟨0, Nat.zero_le _, rfl, Lib.hid (fun a ha => absurd ha (by omega)), rfl⟩
  case round =>
    obtain ⟨i, hi, rfl, hQ, rfl⟩ := hrel
    by_cases hil : i < m.length
    · obtain ⟨gi, oi, ci, a0, hgi, -, hel⟩ := HRW.out i hil
      have HEL := Lib.hid hel
      have HSI := Lib.hid (fun j (hj : j ≤ m.length) => sumI_in HV.out hil j hj)
      clear hel
      go_wp2
      go_loopw [5, 25] (fun sv jv wi => ∃ j : Nat, j ≤ m.length ∧ jv = .int .i64 j ∧ sv = .int .i64 (sumI (rowI m i) j) ∧ Hid (∀ b, b < j → QW m i b) ∧ wi = wr) (fun _ jv _ => m.length - (intOf jv).toNat)
      case atStart => exact ⟨0, Nat.zero_le _, rfl, by rw [sumI_zero], Lib.hid (fun a ha => absurd ha (by omega)), rfl⟩
      case round =>
        obtain ⟨j, hj, rfl, rfl, hq, rfl⟩ := hrel
        rename World => wi
        by_cases hjl : j < m.length
        · obtain ⟨gj, oj, cj, b0, hgj, -, hej⟩ := HRW.out j hjl
          have x0 := HEL.out j hjl
          have y0 := hej i hil
          have HNO : Hid (¬ QW m i j → Ending.returned (.bool false) = .returned (.bool (isWB m))) := Lib.hid (fun hx => ret_w (isW_no (fun h => hx ((h.2.2 i hil).1 j hjl))))
          have HYE : Hid (QW m i j → ∀ b, b < j + 1 → QW m i b) := Lib.hid (fun hx b hb => by
            by_cases h : b = j
            · subst h; exact hx
            · exact hq.out b (by omega))
          unfold QW at HNO
          have hXb := elI_in HV.out hil hjl
          obtain ⟨s1, s2⟩ := HSI.out j (by omega)
          obtain ⟨S, hS⟩ : ∃ S, S = sumI (rowI m i) j := ⟨_, rfl⟩
          have hSn := sumI_next HV.out hil hjl
          rw [← hS] at hSn s1 s2 ⊢
          have HYQ : Hid (elI m i j = elI m j i ∧ (i ≠ j → elI m i j ≤ 0) → QW m i j) := Lib.hid (fun h => h)
          generalize hX : elI m i j = X at *
          generalize hY : elI m j i = Y at *
          clear hej hX hY hS
          by_cases hxy : X = Y
          case neg =>
            have HN := Lib.hid (HNO.out (fun h => hxy h.1))
            clear hSn
            go_wp2
            go_ret
            exact ⟨HN.out, Below.refl _ _⟩
          subst hxy
          by_cases hij : i = j
          · have HY := Lib.hid (HYE.out (HYQ.out ⟨rfl, fun h => absurd hij h⟩))
            have HSN := Lib.hid hSn
            have hw : IntKind.i64.wrap (S + X) = S + X := IntWalk.i64_in _ (by omega)
            have hw2 : wrap64 (S + X) = S + X := by unfold wrap64; omega
            subst hij
            clear hSn
            go_wp2
            go_roundw
            case rel => exact ⟨i + 1, by omega, by go_num, by rw [HSN.out], HY, by first | trivial | rfl⟩
            case measure => simp [intOf]; omega
          · have hij' : ¬ ((i : Int) = (j : Int)) := by omega
            by_cases hpos : 0 < X
            · have HN := Lib.hid (HNO.out (fun h => by have := h.2 hij; omega))
              clear hSn
              go_wp2
              go_ret
              exact ⟨HN.out, Below.refl _ _⟩
            · have HY := Lib.hid (HYE.out (HYQ.out ⟨rfl, fun _ => by omega⟩))
              have HSN := Lib.hid hSn
              have hw : IntKind.i64.wrap (S + X) = S + X := IntWalk.i64_in _ (by omega)
              have hw2 : wrap64 (S + X) = S + X := by unfold wrap64; omega
              have hpos' : decide (0 < X) = false := by simp; omega
              clear hSn
              go_wp2
              go_roundw
              case rel => exact ⟨j + 1, by omega, by go_num, by rw [HSN.out], HY, by first | trivial | rfl⟩
              case measure => simp [intOf]; omega
        · obtain rfl : j = m.length := by omega
          by_cases hz : sumI (rowI m i) m.length = 0
          · have HT : Hid (∀ a, a < i + 1 → (∀ j, j < m.length → QW m a j) ∧ sumI (rowI m a) m.length = 0) := Lib.hid (fun a ha => by
              by_cases h : a = i
              · subst h; exact ⟨hq.out, hz⟩
              · exact hQ.out a (by omega))
            rw [hz]
            clear hz
            go_wp2
            go_roundw
            case rel => exact ⟨i + 1, by omega, by go_num, HT, by first | trivial | rfl⟩
            case measure => simp [intOf]; omega
          · have HN := Lib.hid (ret_w (isW_no (m := m) (fun h => hz (h.2.2 i hil).2)))
            generalize sumI (rowI m i) m.length = S at *
            go_wp2
            go_ret
            exact ⟨HN.out, Below.refl _ _⟩
    · obtain rfl : i = m.length := by omega
      have HY := Lib.hid (ret_w (isW_yes (m := m) ⟨by omega, HV.out, hQ.out⟩))
      go_wp2
      go_ret
      exact ⟨HY.out, Below.refl _ _⟩
end Go.Proofs.Ytalonncjdohejaa

namespace Go.Proofs.Ytalonncjdohejaa
open Go.RowKit

theorem ret_mm {m : MatI} {p q : List Int} {x : Int} {b : Bool} (h : mmR m p q = (x, b)) : Ending.returned (.tuple #[.int .i64 x, .bool b]) = .returned (.tuple #[.int .i64 (mmR m p q).1, .bool (mmR m p q).2]) := by rw [h]
set_option maxRecDepth 8000 in
set_option maxHeartbeats 6400000 in
theorem impl_negMinor (v vr vc : Value) (m : MatI) (p q : List Int) (w : World) (hv : matV m) (hl : p.length = q.length) (h5 : p.length ≤ 4) (hpr : ∀ x ∈ p, 0 ≤ x ∧ x < (m.length : Int)) (hqr : ∀ x ∈ q, 0 ≤ x ∧ x < (m.length : Int)) (hM : ReadsII w v m) (hR : ReadsI w vr p) (hC : ReadsI w vc q) :
    Calls Try.prog 47 #[v, vr, vc] w fun e w' => e = .returned (.int .i64 (negD m p q)) ∧ Below w.heap.size w w' := by
  have hdet := impl_det v m hv p q vr vc w hM hR hC hl.symm (by omega) hpr hqr
  have hbd := detD_le5 hv p q (by omega) hl
  obtain ⟨pm, cm, rfl, _, _⟩ := hM.shape
  obtain ⟨pr, cr, rfl, _, _⟩ := hR.shape
  obtain ⟨pc, cc, rfl, _, _⟩ := hC.shape
  obtain ⟨DD, hDD⟩ : ∃ DD, DD = detD m p q := ⟨_, rfl⟩
  rw [← hDD] at hdet hbd
  have HD := Lib.hid hdet
  have hmod : ((p.length : Int)).tmod 2 = ((p.length % 2 : Nat) : Int) := by rw [show (2 : Int) = ((2 : Nat) : Int) from rfl, ← Int.ofNat_tmod]
  have hr2 : p.length % 2 = 0 ∨ p.length % 2 = 1 := by omega
  rcases hr2 with e | e
  · have HRT : Hid (Ending.returned (.int .i64 DD) = .returned (.int .i64 (negD m p q))) := Lib.hid (by unfold negD; rw [if_neg (by omega), hDD])
    rw [e] at hmod
    clear hdet hDD hM hR hC hpr hqr hl e
    generalize p.length = L at *
    go_enter Try.func47, Try.ntmps47
    go_wp2_with fail
    with_reducible refine HD.out.mono ?_
    rintro en w1 ⟨rfl, B1⟩
    go_wp2
    go_ret
    exact ⟨HRT.out, B1⟩
  · have HRT : Hid (Ending.returned (.int .i64 (-DD)) = .returned (.int .i64 (negD m p q))) := Lib.hid (by unfold negD; rw [if_pos e, hDD])
    have hng : IntKind.i64.wrap (-DD) = -DD := IntWalk.i64_in _ (by omega)
    have hng2 : wrap64 (-DD) = -DD := by unfold wrap64; omega
    rw [e] at hmod
    clear hdet hDD hM hR hC hpr hqr hl e
    generalize p.length = L at *
    go_enter Try.func47, Try.ntmps47
    go_wp2_with fail
    with_reducible refine HD.out.mono ?_
    rintro en w1 ⟨rfl, B1⟩
    go_wp2
    go_ret
    exact ⟨HRT.out, B1⟩
end Go.Proofs.Ytalonncjdohejaa

namespace Go.Proofs.Ytalonncjdohejaa
open Go.RowKit

def badB (m : MatI) (pr : MatI) : Bool := decide (negD m (pr.getD 0 []) (pr.getD 1 []) < 0)
noncomputable def reasonR (m : MatI) : MatI := if isWB m = true then ((pairsR m.length).find? (badB m)).getD [] else []
theorem reason_no {m : MatI} (h : isWB m = false) : reasonR m = [] := by unfold reasonR; rw [if_neg (by rw [h]; simp)]
theorem reason_none {m : MatI} (hw : isWB m = true) (h : ∀ k (hk : k < (pairsR m.length).length), badB m (pairsR m.length)[k] = false) : reasonR m = [] := by
  unfold reasonR
  rw [if_pos hw, List.find?_eq_none.2 (fun x hx => by
    obtain ⟨k, hk, rfl⟩ := List.getElem_of_mem hx
    rw [h k hk]; simp)]
  rfl
theorem find_at {α : Type} (f : α → Bool) : ∀ (l : List α) (k : Nat) (hk : k < l.length), f l[k] = true → (∀ j (hj : j < k), f (l[j]'(by omega)) = false) → l.find? f = some l[k]
  | x :: r, 0, _, h, _ => by simp only [List.getElem_cons_zero] at h ⊢; simp [h]
  | x :: r, k + 1, hk, h, hn => by
    have h0 := hn 0 (by omega)
    simp only [List.getElem_cons_zero] at h0
    rw [List.find?_cons, h0]
    simp only [List.getElem_cons_succ] at h ⊢
    exact find_at f r k (by simpa using hk) h (fun j hj => by have := hn (j + 1) (by omega); simpa using this)
theorem reason_at {m : MatI} (hw : isWB m = true) {k : Nat} (hk : k < (pairsR m.length).length) (h : badB m (pairsR m.length)[k] = true) (hn : ∀ j (hj : j < k), badB m ((pairsR m.length)[j]'(by omega)) = false) : reasonR m = (pairsR m.length)[k] := by
  unfold reasonR
  rw [if_pos hw, find_at _ _ k hk h hn]
  rfl
theorem pairs_mem {k : Nat} {pr : MatI} (h : pr ∈ pairsR (k : Int)) : ∃ p q, pr = [p, q] ∧ circB (k : Int) p q = true := by
  unfold pairsR at h
  split at h
  · rw [Int.toNat_natCast] at h
    obtain ⟨s, _, h2⟩ := List.mem_flatMap.1 h
    obtain ⟨p, _, h4⟩ := List.mem_flatMap.1 h2
    obtain ⟨q, h5, rfl⟩ := List.mem_map.1 h4
    exact ⟨p, q, rfl, (List.mem_filter.1 h5).2⟩
  · simp at h
theorem pairs_le (k : Nat) : (pairsR (k : Int)).length ≤ 31250 := by
  unfold pairsR
  split
  · rename_i h
    rw [Int.toNat_natCast]
    have := pairsK_le (k := k) (by omega) (k / 2) (by omega)
    omega
  · simp
noncomputable def planR (m : MatI) : Bool := isWB m && decide (reasonR m = [])
theorem reason_len {m : MatI} : (reasonR m).length = 0 ∨ (reasonR m).length = 2 := by
  unfold reasonR
  split
  · cases hf : (pairsR m.length).find? (badB m) with
    | none => left; rfl
    | some pr =>
      right
      obtain ⟨p, q, e, _⟩ := pairs_mem (List.mem_of_find?_eq_some hf)
      rw [e]; rfl
  · left; rfl
end Go.Proofs.Ytalonncjdohejaa

namespace Go.Proofs.Ytalonncjdohejaa
open Go.RowKit

/-- A pair of lists as the walk reads it. -/
theorem pair_read {w : World} {base : Nat} {v : Value} {p q : List Int} (h : OwnsM w base v [p, q]) : ∃ g c a1 c1 a2 c2, v = .slice (some ⟨g, 0, none⟩) 2 c ∧ g < w.heap.size ∧ w.cell? ⟨g, 0, none⟩ = some (.slice a1 p.length c1) ∧ w.cell? ⟨g, 1, none⟩ = some (.slice a2 q.length c2) ∧ ReadsI w (.slice a1 p.length c1) p ∧ ReadsI w (.slice a2 q.length c2) q := by
  obtain ⟨rs, h⟩ := h
  obtain ⟨r0, e0, o0⟩ := h.row 0 (by simp)
  obtain ⟨r1, e1, o1⟩ := h.row 1 (by simp)
  simp only [List.getElem_cons_zero, List.getElem_cons_succ] at o0 o1
  obtain ⟨a1, c1, rfl⟩ := owns_shape o0
  obtain ⟨a2, c2, rfl⟩ := owns_shape o1
  obtain ⟨g, c, hg, -, hl⟩ := h.1.form (by simp)
  subst hg
  have k0 := h.1.cellAt 0 (by simp)
  have k1 := h.1.cellAt 1 (by simp)
  rw [e0] at k0
  rw [e1] at k1
  have k0' : w.cell? ⟨g, 0, none⟩ = some (.slice a1 p.length c1) := by simpa using k0
  exact ⟨g, c, a1, c1, a2, c2, rfl, World.block_lt_of_cell? w _ k0', k0', by simpa using k1, ReadsI.of_own o0, ReadsI.of_own o1⟩
set_option maxRecDepth 8000 in
set_option maxHeartbeats 12800000 in
theorem spec_reason (v : Value) (m : MatI) (w : World) (hM : ReadsII w v m) :
    Calls Try.prog 14 #[v] w fun en w' => ∃ v', en = .returned v' ∧ OwnsM w' w.heap.size v' (reasonR m) ∧ Below w.heap.size w w' := by
  obtain ⟨pm, cm, rfl, _, _⟩ := hM.shape
  have hw := spec_isW _ m w hM
  have HM := Lib.hid hM
  clear hM
  cases hwb : isWB m
  · have HN := Lib.hid (reason_no hwb)
    rw [hwb] at hw
    clear hwb
    go_enter Try.func14, Try.ntmps14
    go_wp2_with fail
    with_reducible refine hw.mono ?_
    rintro en w1 ⟨rfl, B1⟩
    go_wp2
    go_ret
    exact ⟨_, rfl, by rw [HN.out]; exact OwnsM.nil _ _, B1⟩
  rw [hwb] at hw
  have hW := isW_iff.1 hwb
  obtain ⟨PS, hPS⟩ : ∃ PS, PS = pairsR (m.length : Int) := ⟨_, rfl⟩
  have hpa := fun W => spec_pairs (m.length : Int) W
  have hple := pairs_le m.length
  rw [← hPS] at hpa hple
  have HPA := Lib.hid hpa
  have HRN : Hid ((∀ k (hk : k < PS.length), badB m PS[k] = false) → reasonR m = []) := Lib.hid (by subst hPS; exact reason_none hwb)
  have HRA : Hid (∀ k (hk : k < PS.length), badB m PS[k] = true → (∀ j (hj : j < k), badB m (PS[j]'(by omega)) = false) → reasonR m = PS[k]) := Lib.hid (by subst hPS; exact fun k hk => reason_at (k := k) hwb hk)
  have HPM : Hid (∀ pr ∈ PS, ∃ p q, pr = [p, q] ∧ circB (m.length : Int) p q = true) := Lib.hid (by subst hPS; exact fun pr hpr => pairs_mem (k := m.length) (pr := pr) hpr)
  have HW := Lib.hid hW
  clear hwb hW hpa hPS
  go_enter Try.func14, Try.ntmps14
  go_wp2_with fail
  with_reducible refine hw.mono ?_
  rintro en w1 ⟨rfl, B1⟩
  have S1 := B1.size
  go_wp2_with fail
  with_reducible refine (HPA.out _).mono ?_
  rintro en w2 ⟨v2, rfl, o2, B2⟩
  have S2 := B2.size
  obtain ⟨vs, hv1, hv2, hv3⟩ := o2
  rw [hv2] at hv1
  obtain ⟨p2, c2, hp2⟩ := owns_shape hv1
  subst hp2
  have HB2 := Lib.hid (B1.trans (B2.mono S1))
  have HV1 := Lib.hid hv1; have HV2 := Lib.hid hv2; have HV3 := Lib.hid hv3
  clear B1 B2 hv1 hv2 hv3 hw
  go_wp2
  go_loopw [12] (fun iv wr => ∃ i : Nat, i ≤ PS.length ∧ iv = .int .i64 i ∧ Hid (∀ j (hj : j < PS.length), j < i → badB m PS[j] = false) ∧ Hid (Below w2.heap.size w2 wr)) (fun iv _ => PS.length - (intOf iv).toNat)
  case atStart => exact ⟨0, Nat.zero_le _, rfl, Lib.hid (fun j _ h => absurd h (by omega)), Lib.hid (Below.refl _ _)⟩
  case round =>
    obtain ⟨i, hi, rfl, hNo, hB2⟩ := hrel
    have hB := Lib.hid (HB2.out.trans (hB2.out.mono HB2.out.size))
    by_cases hlt : i < PS.length
    · have hvl : i < vs.length := by have := HV2.out; omega
      have er : vs[i]? = some (vs[i]) := List.getElem?_eq_getElem hvl
      obtain ⟨_, hom⟩ := HV3.out i _ er
      obtain ⟨p, q, hpq, hcb⟩ := HPM.out PS[i] (List.getElem_mem hlt)
      obtain ⟨hl, h0, h2, hpr, hqr⟩ := circ_parts hcb
      have hbad : badB m PS[i] = decide (negD m p q < 0) := by rw [hpq]; rfl
      obtain ⟨g2, c2', hg2, -, -⟩ := HV1.out.form (by omega)
      simp only [Value.slice.injEq] at hg2
      obtain ⟨rfl, -, rfl⟩ := hg2
      have c0 := HV1.out.cellAt i (by omega)
      rw [er] at c0
      have c0' : w2.cell? ⟨g2, i, none⟩ = some vs[i] := by simpa using c0
      have hg2l := World.block_lt_of_cell? _ _ c0'
      rw [← hB2.out.cell (p := ⟨g2, i, none⟩) hg2l] at c0'
      have hom2 := hom.later hB2.out
      have HOM : Hid (OwnsM wr w1.heap.size vs[i] PS[i]) := Lib.hid hom2
      rw [hpq] at hom2
      obtain ⟨gp, cp, a1, c1, a2, c2x, hve, hgp, x0, x1, hrp, hrq⟩ := pair_read hom2
      rw [hve] at c0' HOM
      have HNEG := Lib.hid (fun W (h : Below wr.heap.size wr W) => spec_neg _ _ _ m p q W HW.out.2.1 HW.out.1 (by omega) (by omega) hpr hqr (HM.out.later (hB.out.trans (h.mono hB.out.size))) (hrp.later h) (hrq.later h))
      have hnv := negM_matV HW.out.2.1 (p := p) (q := q) (by omega) hl
      have hnd := neg_det (m := m) hl h0 h2
      have hdet := fun v W (h : ReadsII W v (negM m p q)) => spec_detAll v (negM m p q) W hnv h
      simp only [negM_length, hnd] at hdet
      have HDET := Lib.hid hdet
      have HAT := Lib.hid (HRA.out i hlt)
      have HPE := Lib.hid hpq
      generalize negD m p q = ND at *
      generalize negM m p q = NM at *
      have hS : wr.cell? ⟨gp, 0, none⟩ = some (.slice a1 p.length c1) ∧ wr.cell? ⟨gp, 1, none⟩ = some (.slice a2 q.length c2x) ∧ wr.cell? ⟨gp, 1, none⟩ = some (.slice a2 q.length c2x) ∧ wr.cell? ⟨gp, 1, none⟩ = some (.slice a2 q.length c2x) ∧ wr.cell? ⟨gp, 1, none⟩ = some (.slice a2 q.length c2x) ∧ wr.cell? ⟨gp, 1, none⟩ = some (.slice a2 q.length c2x) ∧ wr.heap.size ≤ wr.heap.size ∧ wr.heap.size ≤ wr.heap.size ∧ Below wr.heap.size wr wr := ⟨x0, x1, x1, x1, x1, x1, Nat.le_refl _, Nat.le_refl _, Below.refl _ _⟩
      replace hS := k6_drew hS
      clear er hom hcb hl h0 h2 hpr hqr c0 hom2 hve x0 x1 hrp hrq hnv hnd hdet hpq
      by_cases hneg : ND < 0
      · rw [decide_eq_true hneg] at hbad
        have HRES : Hid (reasonR m = PS[i]) := Lib.hid (HAT.out hbad (fun j hj => hNo.out j (by omega) hj))
        clear hbad
        go_wp2
        refine wp_region_held_drew (S := fun w' => w'.cell? ⟨gp, 0, none⟩ = some (.slice a1 p.length c1) ∧ w'.cell? ⟨gp, 1, none⟩ = some (.slice a2 q.length c2x) ∧ w'.cell? ⟨gp, 1, none⟩ = some (.slice a2 q.length c2x) ∧ w'.cell? ⟨gp, 1, none⟩ = some (.slice a2 q.length c2x) ∧ w'.cell? ⟨gp, 1, none⟩ = some (.slice a2 q.length c2x) ∧ w'.cell? ⟨gp, 1, none⟩ = some (.slice a2 q.length c2x) ∧ wr.heap.size ≤ w'.heap.size ∧ wr.heap.size ≤ wr.heap.size ∧ Below wr.heap.size wr w') (by kernel_rfl) hS (fun hHeld => ?_)
        refine take_on (i := 0) (d := some 16) (v := .slice pm m.length cm) rfl rfl (by kernel_rfl) (by kernel_rfl) (by kernel_rfl) (fun _ _ _ h => h) (by rfl) (by (intro w hSw; (try dsimp only at hSw); go_simp)) (by assumption) ?_
        try simp only [Act.put, List.setIfInBounds_toArray, List.set_cons_zero, List.set_cons_succ]
        refine take_on (i := 1) (d := some 17) (v := .slice (some ⟨gp, 0, none⟩) 2 cp) rfl rfl (by kernel_rfl) (by kernel_rfl) (by kernel_rfl) (fun _ _ _ h => h) (by rfl) (by (intro w hSw; (try dsimp only at hSw); go_simp)) (by assumption) ?_
        try simp only [Act.put, List.setIfInBounds_toArray, List.set_cons_zero, List.set_cons_succ]
        refine take_on (i := 2) (d := some 18) (v := .pointer (some ⟨gp, 0, none⟩)) rfl rfl (by kernel_rfl) (by kernel_rfl) (by kernel_rfl) (fun _ _ _ h => h) (by rfl) (by (intro w hSw; (try dsimp only at hSw); go_simp)) (by assumption) ?_
        try simp only [Act.put, List.setIfInBounds_toArray, List.set_cons_zero, List.set_cons_succ]
        refine take_on (i := 3) (d := some 19) (v := .slice a1 p.length c1) rfl rfl (by kernel_rfl) (by kernel_rfl) (by kernel_rfl) (fun _ _ _ h => h) (by rfl) (by (intro w hSw; (try dsimp only at hSw); go_simp)) (by assumption) ?_
        try simp only [Act.put, List.setIfInBounds_toArray, List.set_cons_zero, List.set_cons_succ]
        refine take_on (i := 4) (d := some 20) (v := .slice (some ⟨gp, 0, none⟩) 2 cp) rfl rfl (by kernel_rfl) (by kernel_rfl) (by kernel_rfl) (fun _ _ _ h => h) (by rfl) (by (intro w hSw; (try dsimp only at hSw); go_simp)) (by assumption) ?_
        try simp only [Act.put, List.setIfInBounds_toArray, List.set_cons_zero, List.set_cons_succ]
        refine take_on (i := 5) (d := some 21) (v := .pointer (some ⟨gp, 1, none⟩)) rfl rfl (by kernel_rfl) (by kernel_rfl) (by kernel_rfl) (fun _ _ _ h => h) (by rfl) (by (intro w hSw; (try dsimp only at hSw); go_simp)) (by assumption) ?_
        try simp only [Act.put, List.setIfInBounds_toArray, List.set_cons_zero, List.set_cons_succ]
        refine take_on (i := 6) (d := some 22) (v := .slice a2 q.length c2x) rfl rfl (by kernel_rfl) (by kernel_rfl) (by kernel_rfl) (fun _ _ _ h => h) (by rfl) (by (intro w hSw; (try dsimp only at hSw); go_simp)) (by assumption) ?_
        try simp only [Act.put, List.setIfInBounds_toArray, List.set_cons_zero, List.set_cons_succ]
        refine wpAnyH_ready (rs := [7]) (by kernel_rfl) (by simp) ?_
        refine AllReadyH.cons rfl (fun K hK => ?_) AllReadyH.nil
        go_simp
        with_reducible refine Calls.mono (HNEG.out _ hS.2.2.2.2.2.2.2.2) ?_
        rintro en w3 ⟨v3, rfl, o3, B3⟩
        have HR3 := Lib.hid o3.reads
        replace hS := k6_keep B3 hS
        clear o3 B3
        go_wp2_with fail
        refine hK.out _ _ hS (fun hHeld => ?_)
        clear hK K hHeld
        try simp only [Act.put, List.setIfInBounds_toArray, List.set_cons_zero, List.set_cons_succ]
        refine wpAnyH_ready (rs := [8]) (by kernel_rfl) (by simp) ?_
        refine AllReadyH.cons rfl (fun K hK => ?_) AllReadyH.nil
        go_simp
        with_reducible refine Calls.mono (HDET.out _ _ HR3.out) ?_
        rintro en w4 ⟨rfl, B4⟩
        replace hS := k6_keep B4 hS
        clear B4
        go_wp2_with fail
        refine hK.out _ _ hS (fun hHeld => ?_)
        clear hK K hHeld
        try simp only [Act.put, List.setIfInBounds_toArray, List.set_cons_zero, List.set_cons_succ]
        refine take_on (i := 9) (d := some 25) (v := .bool true) rfl rfl (by kernel_rfl) (by kernel_rfl) (by kernel_rfl) (fun _ _ _ h => h) (by rfl) (by (intro w hSw; (try dsimp only at hSw); go_simp)) (by assumption) ?_
        try simp only [Act.put, List.setIfInBounds_toArray, List.set_cons_zero, List.set_cons_succ]
        refine wpAnyH_done (by kernel_rfl) ?_ _
        have HF := Lib.hid (hB.out.trans (hS.2.2.2.2.2.2.2.2.mono hB.out.size))
        have HF2 := Lib.hid hS.2.2.2.2.2.2.2.2
        clear hS
        go_wp2
        go_ret
        exact ⟨_, rfl, by rw [HRES.out]; exact (HOM.out.mono (by omega)).later (by have h := HF2.out; exact h), HF.out⟩
      · rw [decide_eq_false hneg] at hbad
        have HNX : Hid (∀ j (hj : j < PS.length), j < i + 1 → badB m PS[j] = false) := Lib.hid (fun j hj h => by
          by_cases e : j = i
          · subst e; exact hbad
          · exact hNo.out j hj (by omega))
        have hneg' : decide (ND < 0) = false := by simp; omega
        clear hbad
        go_wp2
        refine wp_region_held_drew (S := fun w' => w'.cell? ⟨gp, 0, none⟩ = some (.slice a1 p.length c1) ∧ w'.cell? ⟨gp, 1, none⟩ = some (.slice a2 q.length c2x) ∧ w'.cell? ⟨gp, 1, none⟩ = some (.slice a2 q.length c2x) ∧ w'.cell? ⟨gp, 1, none⟩ = some (.slice a2 q.length c2x) ∧ w'.cell? ⟨gp, 1, none⟩ = some (.slice a2 q.length c2x) ∧ w'.cell? ⟨gp, 1, none⟩ = some (.slice a2 q.length c2x) ∧ wr.heap.size ≤ w'.heap.size ∧ wr.heap.size ≤ wr.heap.size ∧ Below wr.heap.size wr w') (by kernel_rfl) hS (fun hHeld => ?_)
        refine take_on (i := 0) (d := some 16) (v := .slice pm m.length cm) rfl rfl (by kernel_rfl) (by kernel_rfl) (by kernel_rfl) (fun _ _ _ h => h) (by rfl) (by (intro w hSw; (try dsimp only at hSw); go_simp)) (by assumption) ?_
        try simp only [Act.put, List.setIfInBounds_toArray, List.set_cons_zero, List.set_cons_succ]
        refine take_on (i := 1) (d := some 17) (v := .slice (some ⟨gp, 0, none⟩) 2 cp) rfl rfl (by kernel_rfl) (by kernel_rfl) (by kernel_rfl) (fun _ _ _ h => h) (by rfl) (by (intro w hSw; (try dsimp only at hSw); go_simp)) (by assumption) ?_
        try simp only [Act.put, List.setIfInBounds_toArray, List.set_cons_zero, List.set_cons_succ]
        refine take_on (i := 2) (d := some 18) (v := .pointer (some ⟨gp, 0, none⟩)) rfl rfl (by kernel_rfl) (by kernel_rfl) (by kernel_rfl) (fun _ _ _ h => h) (by rfl) (by (intro w hSw; (try dsimp only at hSw); go_simp)) (by assumption) ?_
        try simp only [Act.put, List.setIfInBounds_toArray, List.set_cons_zero, List.set_cons_succ]
        refine take_on (i := 3) (d := some 19) (v := .slice a1 p.length c1) rfl rfl (by kernel_rfl) (by kernel_rfl) (by kernel_rfl) (fun _ _ _ h => h) (by rfl) (by (intro w hSw; (try dsimp only at hSw); go_simp)) (by assumption) ?_
        try simp only [Act.put, List.setIfInBounds_toArray, List.set_cons_zero, List.set_cons_succ]
        refine take_on (i := 4) (d := some 20) (v := .slice (some ⟨gp, 0, none⟩) 2 cp) rfl rfl (by kernel_rfl) (by kernel_rfl) (by kernel_rfl) (fun _ _ _ h => h) (by rfl) (by (intro w hSw; (try dsimp only at hSw); go_simp)) (by assumption) ?_
        try simp only [Act.put, List.setIfInBounds_toArray, List.set_cons_zero, List.set_cons_succ]
        refine take_on (i := 5) (d := some 21) (v := .pointer (some ⟨gp, 1, none⟩)) rfl rfl (by kernel_rfl) (by kernel_rfl) (by kernel_rfl) (fun _ _ _ h => h) (by rfl) (by (intro w hSw; (try dsimp only at hSw); go_simp)) (by assumption) ?_
        try simp only [Act.put, List.setIfInBounds_toArray, List.set_cons_zero, List.set_cons_succ]
        refine take_on (i := 6) (d := some 22) (v := .slice a2 q.length c2x) rfl rfl (by kernel_rfl) (by kernel_rfl) (by kernel_rfl) (fun _ _ _ h => h) (by rfl) (by (intro w hSw; (try dsimp only at hSw); go_simp)) (by assumption) ?_
        try simp only [Act.put, List.setIfInBounds_toArray, List.set_cons_zero, List.set_cons_succ]
        refine wpAnyH_ready (rs := [7]) (by kernel_rfl) (by simp) ?_
        refine AllReadyH.cons rfl (fun K hK => ?_) AllReadyH.nil
        go_simp
        with_reducible refine Calls.mono (HNEG.out _ hS.2.2.2.2.2.2.2.2) ?_
        rintro en w3 ⟨v3, rfl, o3, B3⟩
        have HR3 := Lib.hid o3.reads
        replace hS := k6_keep B3 hS
        clear o3 B3
        go_wp2_with fail
        refine hK.out _ _ hS (fun hHeld => ?_)
        clear hK K hHeld
        try simp only [Act.put, List.setIfInBounds_toArray, List.set_cons_zero, List.set_cons_succ]
        refine wpAnyH_ready (rs := [8]) (by kernel_rfl) (by simp) ?_
        refine AllReadyH.cons rfl (fun K hK => ?_) AllReadyH.nil
        go_simp
        with_reducible refine Calls.mono (HDET.out _ _ HR3.out) ?_
        rintro en w4 ⟨rfl, B4⟩
        replace hS := k6_keep B4 hS
        clear B4
        go_wp2_with fail
        refine hK.out _ _ hS (fun hHeld => ?_)
        clear hK K hHeld
        try simp only [Act.put, List.setIfInBounds_toArray, List.set_cons_zero, List.set_cons_succ]
        refine take_on (i := 9) (d := some 25) (v := .bool false) rfl rfl (by kernel_rfl) (by kernel_rfl) (by kernel_rfl) (fun _ _ _ h => h) (by rfl) (by (intro w hSw; (try dsimp only at hSw); go_simp)) (by assumption) ?_
        try simp only [Act.put, List.setIfInBounds_toArray, List.set_cons_zero, List.set_cons_succ]
        refine wpAnyH_done (by kernel_rfl) ?_ _
        have HF := Lib.hid (hB.out.trans (hS.2.2.2.2.2.2.2.2.mono hB.out.size))
        have HF2b := Lib.hid (hB2.out.trans (hS.2.2.2.2.2.2.2.2.mono hB2.out.size))
        clear hS
        go_wp2
        go_roundw
        case rel => exact ⟨i + 1, by omega, by go_num, HNX, HF2b⟩
        case measure => simp [intOf]; omega
    · obtain rfl : i = PS.length := by omega
      have HRES : Hid (reasonR m = []) := Lib.hid (HRN.out (fun j hj => hNo.out j hj hj))
      go_wp2
      go_ret
      exact ⟨_, rfl, by rw [HRES.out]; exact OwnsM.nil _ _, hB.out⟩
end Go.Proofs.Ytalonncjdohejaa

namespace Go.Proofs.Ytalonncjdohejaa
open Go.RowKit Go.Shelf

attribute [local go_sem] Oper.semAt_some
theorem Lev.imp {W : World} {U D : Nat → Prop} {WL : World} {l : Nat} {r : Loop} {st : LoopState} {pend : Option Code} {Jq Jq' : (Nat → Prop) → World → Prop} {U1 : Nat → Prop} {A : World} (h : Lev W U D WL l r st pend Jq U1 A) (hq : ∀ V W', Jq V W' → Jq' V W') : Lev W U D WL l r st pend Jq' U1 A := by
  obtain ⟨V, h1, h2⟩ := h
  exact ⟨V, hq V A h1, h2⟩
theorem OwnsR.lower {w : World} {base base' : Nat} {v : Value} {rs : List Value} {M : MatI} (h : OwnsR w base v rs M) (hb : base' ≤ base) : OwnsR w base' v rs M := by
  obtain ⟨h1, h2, h3, h4⟩ := h
  refine ⟨owns_mono h1 hb, h2, fun k r hk => ?_, h4⟩
  obtain ⟨a, b⟩ := h3 k r hk
  exact ⟨a, owns_mono b hb⟩
/-- No pair so far is a reason; the result's box holds nothing. -/
def NoBad (m : MatI) (PS : List MatI) (c : Nat) (n : Nat) (V : Nat → Prop) (W : World) : Prop :=
  V c ∧ W.cell? ⟨c, 0, none⟩ = some (.slice none 0 0) ∧ W.frozen? ⟨c, 0, none⟩ = false ∧ ∀ j (h : j < PS.length), j < n → badB m PS[j] = false
/-- The first reason is in the result's box. -/
def YesBad (m : MatI) (PS : List MatI) (base c : Nat) (V : Nat → Prop) (W : World) : Prop :=
  V c ∧ ∃ (x : Value) (rs : List Value) (i : Nat) (h : i < PS.length), W.cell? ⟨c, 0, none⟩ = some x ∧ OwnsR W base x rs PS[i] ∧ (∀ b, x.ownBlock = some b → V b) ∧ (∀ (k : Nat) (r : Value) (b : Nat), rs[k]? = some r → r.ownBlock = some b → V b) ∧ badB m PS[i] = true ∧ ∀ j (hj : j < i), badB m (PS[j]'(by omega)) = false
theorem NoBad.stay {m : MatI} {PS : List MatI} {c n : Nat} : StayJ (NoBad m PS c n) := fun _ _ _ h _ hS =>
  ⟨h.1, (hS.cell (p := ⟨c, 0, none⟩) h.1).trans h.2.1, (World.frozen?_of_block (a := ⟨c, 0, none⟩) (hS.same _ h.1)).trans h.2.2.1, h.2.2.2⟩
theorem YesBad.stay {m : MatI} {PS : List MatI} {base c : Nat} : StayJ (YesBad m PS base c) := fun V A B h _ hS => by
  obtain ⟨h1, x, rs, i, hi, h2, h3, h4, h5, h6⟩ := h
  exact ⟨h1, x, rs, i, hi, (hS.cell (p := ⟨c, 0, none⟩) h1).trans h2, h3.same (fun b hb => hS.same b (h4 b hb)) (fun k r b hr hb => hS.same b (h5 k r b hr hb)), h4, h5, h6⟩
set_option maxRecDepth 100000 in
set_option maxHeartbeats 8000000 in
theorem impl_reason (v : Value) (m : MatI) (w : World) (hM : ReadsII w v m) :
    Calls Try.prog 16 #[v] w fun en w' => ∃ v', en = .returned v' ∧ OwnsM w' w.heap.size v' (reasonR m) ∧ Below w.heap.size w w' ∧ (reasonR m = [] → v' = .slice none 0 0) := by
  obtain ⟨pm, cm, rfl, _, _⟩ := hM.shape
  have hBa : Below w.heap.size w ((w.alloc (.cells #[.slice pm m.length cm] 27)).alloc (.cells #[.slice none 0 0] 27)) := ((Below.refl _ _).alloc (Nat.le_refl _) _).alloc (by simp) _
  have hw := impl_isW _ m _ (hM.later hBa)
  cases hwb : isWB m
  · have HN := Lib.hid (reason_no hwb)
    rw [hwb] at hw
    have HB := Lib.hid hBa
    clear hwb hBa
    go_enter Try.func16, Try.ntmps16
    go_wp2_with fail
    with_reducible refine hw.mono ?_
    rintro en w1 ⟨rfl, B1⟩
    have k1 : w1.frozen? ⟨w.heap.size + 1, 0, none⟩ = false := by rw [B1.frozen (p := ⟨w.heap.size + 1, 0, none⟩) (by show w.heap.size + 1 < _; simp)]; simp
    have k2 : w1.cell? ⟨w.heap.size + 1, 0, none⟩ = some (.slice none 0 0) := by rw [B1.cell (p := ⟨w.heap.size + 1, 0, none⟩) (by show w.heap.size + 1 < _; simp)]; simp
    have HB1 := Lib.hid (HB.out.trans (B1.mono HB.out.size))
    clear B1 hw
    go_wp2
    exact bodyPost_ret (v := .slice none 0 0) (by simp (maxDischargeDepth := 8) [results, Try.results16, go_sem, *]) rfl ⟨_, rfl, by rw [HN.out]; exact OwnsM.nil _ _, HB1.out.setCell (by simp) _, fun _ => rfl⟩
  rw [hwb] at hw
  have hW := isW_iff.1 hwb
  obtain ⟨PS, hPS⟩ : ∃ PS, PS = pairsR (m.length : Int) := ⟨_, rfl⟩
  have hlen : 1 ≤ m.length ∧ m.length ≤ 5 := ⟨hW.1, hW.2.1.1⟩
  have hPK : PS = pairsK m.length (m.length / 2) := by rw [hPS]; unfold pairsR; rw [if_pos (by omega), Int.toNat_natCast]
  have HRN : Hid ((∀ k (hk : k < PS.length), badB m PS[k] = false) → reasonR m = []) := Lib.hid (by subst hPS; exact reason_none hwb)
  have HRA : Hid (∀ k (hk : k < PS.length), badB m PS[k] = true → (∀ j (hj : j < k), badB m (PS[j]'(by omega)) = false) → reasonR m = PS[k]) := Lib.hid (by subst hPS; exact fun k hk => reason_at (k := k) hwb hk)
  have HPM : Hid (∀ pr ∈ PS, ∃ p q, pr = [p, q] ∧ circB (m.length : Int) p q = true) := Lib.hid (by subst hPS; exact fun pr hpr => pairs_mem (k := m.length) (pr := pr) hpr)
  have HIT : Hid (∀ (B : Nat) (W : World), W.cell? ⟨B, 0, none⟩ = some (.int .i64 (m.length : Int)) → IterC Try.prog 64 #[.pointer (some ⟨B, 0, none⟩)] PS.length (PvM W.heap.size PS) (fun b => b = B) W) := Lib.hid (by rw [hPK]; exact fun B W h => pairs_iter m.length hlen.1 hlen.2 B W h)
  have HW := Lib.hid hW
  have HM := Lib.hid hM
  clear hwb hW hPS hPK hM
  refine (callsIn_wide (n := 3)).1 ?_
  refine callsIn_of_wp_marks Try.func16 rfl trivial ?_ rfl
  simp only [Try.ntmps16, List.size_toArray, List.length_cons, List.length_nil, Nat.reduceAdd, Nat.reduceSub, Array.replicate_succ, Array.replicate_zero, List.push_toArray, List.append_toArray, List.nil_append, List.cons_append]
  have HF : Hid (∀ w1, Below ((w.alloc (.cells #[.slice pm m.length cm] 27)).alloc (.cells #[.slice none 0 0] 27)).heap.size ((w.alloc (.cells #[.slice pm m.length cm] 27)).alloc (.cells #[.slice none 0 0] 27)) w1 → w1.frozen? ⟨w.heap.size + 1, 0, none⟩ = false ∧ w1.cell? ⟨w.heap.size + 1, 0, none⟩ = some (.slice none 0 0) ∧ w1.cell? ⟨w.heap.size, 0, none⟩ = some (.slice pm m.length cm) ∧ w.heap.size + 2 ≤ w1.heap.size ∧ Below w.heap.size w w1) := Lib.hid (fun w1 B1 => by
    refine ⟨?_, ?_, ?_, ?_, hBa.trans (B1.mono hBa.size)⟩
    · rw [B1.frozen (p := ⟨w.heap.size + 1, 0, none⟩) (by show w.heap.size + 1 < _; simp)]; simp
    · rw [B1.cell (p := ⟨w.heap.size + 1, 0, none⟩) (by show w.heap.size + 1 < _; simp)]; simp
    · rw [B1.cell (p := ⟨w.heap.size, 0, none⟩) (by show w.heap.size < _; simp; omega)]; simp
    · have := B1.size; simp at this; omega)
  clear hBa
  gi_wp2_with (first | (refine ⟨trivial, ?_⟩; gi_at_call 46; with_reducible refine (callsIn_wide.2 hw).mono ?_; rintro e w1 ⟨rfl, B1⟩; obtain ⟨kf, kr, km, S1, B1'⟩ := HF.out w1 B1; have HB1 := Lib.hid B1'; clear B1 B1' hw HF) | (refine ⟨trivial, ?_⟩; gi_at_call 40; refine (callsIn_wide.2 (circ_make _ _)).mono ?_; rintro e w2 ⟨rfl, rfl⟩))
  obtain ⟨N, hN⟩ : ∃ N, w1.heap.size = N := ⟨_, rfl⟩
  have hsz2 : (w1.alloc (.cells #[.int .i64 (m.length : Int)] 3)).heap.size = N + 1 := by simp [hN]
  have hB2 : Below N w1 (w1.alloc (.cells #[.int .i64 (m.length : Int)] 3)) := (Below.refl _ _).alloc (by omega) _
  have b1 : (w1.alloc (.cells #[.int .i64 (m.length : Int)] 3)).cell? ⟨N, 0, none⟩ = some (.int .i64 (m.length : Int)) := by rw [← hN]; simp
  obtain ⟨W2, hW2⟩ : ∃ W2, w1.alloc (.cells #[.int .i64 (m.length : Int)] 3) = W2 := ⟨_, rfl⟩
  rw [hW2] at hsz2 hB2 b1 ⊢
  rw [hN]
  clear hW2
  refine rf_outer rfl (enters_of Try.func64 (by kernel_rfl) rfl) ?_
  intro fn r WL hr hWL
  rw [hsz2]
  have hszL : WL.heap.size = N + 3 := by rw [hWL]; simp [hsz2]
  have hBL2 : Below (N + 1) W2 WL := by rw [hWL]; exact ((Below.refl _ _).alloc (by omega) _).alloc (by simp; omega) _
  have hBL : Below N w1 WL := hB2.trans (hBL2.mono (by omega))
  have hlr : WL.heap[N + 2]? = some (.loop r) := by
    rw [hWL]; have h := World.alloc_heap_new (W2.alloc (.deferred (some []))) (.loop r); rw [World.size_alloc, hsz2] at h; exact h
  have hDf : WL.heap[N + 1]? = some (.deferred (some [])) := by
    rw [hWL, ← hsz2]; exact (Below.heap_alloc _ _ _ (by simp)).trans (World.alloc_heap_new W2 _)
  have hrr : r = { r with state := .ready, pending := none } := by rw [hr]
  have c1 := (hBL2.cell (p := ⟨N, 0, none⟩) (by show N < _; omega)).trans b1
  have hS1 : w.heap.size + 2 ≤ N := by omega
  have hBw : Below w.heap.size w WL := HB1.out.trans (hBL.mono (by omega))
  obtain ⟨D1, hD1⟩ : ∃ D1 : Nat → Prop, D1 = fun b => b = w.heap.size ∨ b = N + 1 ∨ b = N + 2 := ⟨_, rfl⟩
  have hD1N : ∀ b, D1 b → b < N + 3 ∧ b ≠ N ∧ b ≠ w.heap.size + 1 := fun b hd => by
    rw [hD1] at hd
    rcases hd with rfl | rfl | rfl <;> omega
  have hst0 : StepU (fun _ => False) (fun b => b = w.heap.size + 1) w WL := ⟨hBw.os, hBw.tape, hBw.output, hBw.size, fun b hb _ => hBw.block b hb, fun b hb => .inr (by omega), fun b hb => by omega⟩
  have hstart : Lev w (fun _ => False) D1 WL (N + 2) r .ready none (NoBad m PS (w.heap.size + 1) 0) (fun b => b < N + 3 ∧ b ≠ N) WL :=
    Lev.start (V := fun b => b = w.heap.size + 1) ⟨rfl, (hBL.cell (p := ⟨w.heap.size + 1, 0, none⟩) (by show w.heap.size + 1 < N; omega)).trans kr, (hBL.frozen (p := ⟨w.heap.size + 1, 0, none⟩) (by show w.heap.size + 1 < N; omega)).trans kf, fun _ _ h => absurd h (by omega)⟩ hst0
      (fun b hb hd => (hD1N b hd).2.2 hb) (fun b hb => by omega) (fun b hb => by
        rcases hb with hb | hb
        · have := hD1N b hb; omega
        · omega) hlr (by rw [hD1]; simp) hrr
  have HWLm := Lib.hid ((hBL.cell (p := ⟨w.heap.size, 0, none⟩) (by show w.heap.size < N; omega)).trans km)
  have HDF := Lib.hid hDf
  have hmix : Try.prog.follows .mixedOrders = true := by kernel_rfl
  have hround : ∀ i V1 x X Wr, i < PS.length → Lev w (fun _ => False) D1 WL (N + 2) r .ready none (NoBad m PS (w.heap.size + 1) i) V1 Wr → Bnd V1 Wr → PvM WL.heap.size PS i x X Wr → Bnd X Wr → (∀ b, X b → ¬ V1 b) → ∀ m', YieldAt Fence.wide m' Try.prog (N + 2) #[x] Wr fun e W' =>
      ∃ V', StepU (fun b => V1 b ∨ X b) V' Wr W' ∧ ((e = .returned (.bool true) ∧ Lev w (fun _ => False) D1 WL (N + 2) r .ready none (NoBad m PS (w.heap.size + 1) (i + 1)) V' W') ∨ (e = .returned (.bool false) ∧ Lev w (fun _ => False) D1 WL (N + 2) r .done (some .ret) (YesBad m PS w.heap.size (w.heap.size + 1)) V' W')) := by
    intro i V1 x X Wr hi hj hV1 hpv hX hXV m'
    have hl0 := hj.rec
    have hmem := hj.memL
    have hWrs : N + 3 ≤ Wr.heap.size := by
      rw [Array.getElem?_eq_some_iff] at hl0; obtain ⟨h, _⟩ := hl0; omega
    refine rf_yield hl0 (by rw [hr]; rfl) ?_
    obtain ⟨R, hR⟩ : ∃ R : Ending → World → Prop, R = (fun e W' => ∃ V', StepU (fun b => V1 b ∨ X b) V' Wr W' ∧ ((e = .returned (.bool true) ∧ Lev w (fun _ => False) D1 WL (N + 2) r .ready none (NoBad m PS (w.heap.size + 1) (i + 1)) V' W') ∨ (e = .returned (.bool false) ∧ Lev w (fun _ => False) D1 WL (N + 2) r .done (some .ret) (YesBad m PS w.heap.size (w.heap.size + 1)) V' W'))) := ⟨_, rfl⟩
    rw [← hR]
    have hjp := hj.put NoBad.stay (by omega) .busy none
    have hsp := StepU.put (.loop { r with state := .busy, pending := none }) hV1 hmem.1
    have hbr := run_beginRound (P := Try.prog) hl0 rfl
    have hszp : (Wr.putObj (N + 2) (.loop { r with state := .busy, pending := none })).heap.size = Wr.heap.size := by simp [World.putObj]
    dsimp only at hbr
    obtain ⟨rs, hown, ⟨ad, nx, cx, rfl⟩, hXi⟩ := hpv
    have hgd : PS.getD i [] = PS[i] := by rw [List.getD_eq_getElem?_getD, List.getElem?_eq_getElem hi]; rfl
    rw [hgd] at hown
    have hown2 := hown.same (w' := Wr.putObj (N + 2) (.loop { r with state := .busy, pending := none })) (fun b hb => hsp.same b (hX b ((hXi b).2 (.inl hb))) (hXV b ((hXi b).2 (.inl hb)))) (fun k y b hy hb => hsp.same b (hX b ((hXi b).2 (.inr ⟨k, y, hy, hb⟩))) (hXV b ((hXi b).2 (.inr ⟨k, y, hy, hb⟩))))
    have hXN : ∀ b, X b → N + 3 ≤ b := fun b hb => by
      rcases (hXi b).1 hb with h | ⟨k, y, hy, h⟩
      · have := (hown.1.lt b h).1; omega
      · obtain ⟨_, ho⟩ := hown.2.2.1 k y hy
        have := (ho.lt b h).1; omega
    obtain ⟨p, q, hpq, hcb⟩ := HPM.out PS[i] (List.getElem_mem hi)
    obtain ⟨hl, h0, h2, hpr, hqr⟩ := circ_parts hcb
    have hbad : badB m PS[i] = decide (negD m p q < 0) := by rw [hpq]; rfl
    obtain ⟨Wb, hWb⟩ : ∃ Wb, Wr.putObj (N + 2) (.loop { r with state := .busy, pending := none }) = Wb := ⟨_, rfl⟩
    rw [hWb] at hjp hsp hbr hszp hown2
    have hown3 : OwnsM Wb WL.heap.size (.slice (some ad) nx cx) [p, q] := by rw [← hpq]; exact ⟨_, hown2⟩
    obtain ⟨gp, cp, a1, k1, a2, k2, hve, hgp, x0, x1, hrp, hrq⟩ := pair_read hown3
    have hBdr : Below Wb.heap.size Wb Wb.drew := (Below.refl _ _).drew
    have hBM : Below w.heap.size w Wb := by
      obtain ⟨V, _, _, hst, _⟩ := hjp
      exact ⟨hst.os, hst.tape, hst.output, hst.size, fun b hb => hst.same b hb (fun h => h)⟩
    have hbm : Wb.cell? ⟨w.heap.size, 0, none⟩ = some (.slice pm m.length cm) := (hjp.cell (p := ⟨w.heap.size, 0, none⟩) (by rw [hD1]; simp) (by show w.heap.size ≠ _; omega)).trans HWLm.out
    have HNEG := Lib.hid ((impl_negMinor _ _ _ m p q Wb.drew HW.out.2.1 hl (by omega) hpr hqr ((HM.out.later hBM).later hBdr) (hrp.later hBdr) (hrq.later hBdr)).mono (fun en w' h => (⟨h.1, hBdr.trans h.2⟩ : en = .returned (.int .i64 (negD m p q)) ∧ Below Wb.heap.size Wb w')))
    have hV1b : Bnd V1 Wb := hsp.bnd
    obtain ⟨NC, hNC⟩ : ∃ NC, Wb.heap.size = NC := ⟨_, rfl⟩
    obtain ⟨c, hc⟩ : ∃ c, w.heap.size + 1 = c := ⟨_, rfl⟩
    have HEndF : Hid (¬ negD m p q < 0 → ∀ w2, Below NC Wb w2 → R (.returned (.bool true)) (w2.putObj (N + 2) (.loop { r with state := .ready, pending := none })) ∧ w2.heap[N + 2]? = some (.loop { r with state := .busy, pending := none })) := Lib.hid (fun hneg w2 B2 => by
      rw [← hNC] at B2
      have hlv := hjp.stay NoBad.stay (StayU.of_below B2 hV1b)
      have hlv2 : Lev w (fun _ => False) D1 WL (N + 2) r .busy none (NoBad m PS (w.heap.size + 1) (i + 1)) V1 w2 := hlv.imp (fun V W' h => ⟨h.1, h.2.1, h.2.2.1, fun j hj hji => by
        by_cases e : j = i
        · subst e; rw [hbad, decide_eq_false hneg]
        · exact h.2.2.2 j hj (by omega)⟩)
      have hput := hlv2.put NoBad.stay (by omega) .ready none
      refine ⟨?_, hlv.rec⟩
      rw [hR]
      have hst1 := hsp.trans (StepU.of_below B2 hV1b)
      exact ⟨V1, (hst1.trans (StepU.put (.loop { r with state := .ready, pending := none }) hst1.bnd hmem.1)).mono (fun b hb => .inl hb), .inl ⟨rfl, hput⟩⟩)
    have HEndT : Hid (negD m p q < 0 → ∀ w2, Below NC Wb w2 → R (.returned (.bool false)) ((w2.setCell ⟨w.heap.size + 1, 0, none⟩ (.slice (some ad) nx cx)).putObj (N + 2) (.loop { r with state := .done, pending := some .ret })) ∧ (w2.setCell ⟨w.heap.size + 1, 0, none⟩ (.slice (some ad) nx cx)).heap[N + 2]? = some (.loop { r with state := .busy, pending := none })) := Lib.hid (fun hneg w2 B2 => by
      rw [← hNC] at B2
      have hlv := hjp.stay NoBad.stay (StayU.of_below B2 hV1b)
      have hst1 := hsp.trans (StepU.of_below B2 hV1b)
      have hs2 := B2.size
      have hg := grownBy_setCell' w2 (w.heap.size + 1) (.slice (some ad) nx cx)
      have hown4 := hown2.same (w' := w2) (fun b hb => B2.block b (by have := hX b ((hXi b).2 (.inl hb)); omega)) (fun k y b hy hb => B2.block b (by have := hX b ((hXi b).2 (.inr ⟨k, y, hy, hb⟩)); omega))
      obtain ⟨V, hjq, hV, hst, hDU, hDs, hrec, hDl⟩ := hlv
      have hV1c : V1 (w.heap.size + 1) := (hV _ hjq.1).1
      have hne : ∀ b, b < w2.heap.size → b ≠ w.heap.size + 1 → (w2.setCell ⟨w.heap.size + 1, 0, none⟩ (.slice (some ad) nx cx)).heap[b]? = w2.heap[b]? := fun b hl hb => hg.block b hl (fun e => hb (by cases e; rfl))
      have hcell : (w2.setCell ⟨w.heap.size + 1, 0, none⟩ (.slice (some ad) nx cx)).cell? ⟨w.heap.size + 1, 0, none⟩ = some (.slice (some ad) nx cx) := World.cell?_setCell_same' _ _ _ (by rw [hjq.2.1]; rfl)
      have hX2 : ∀ b, X b → N + 3 ≤ b ∧ b < Wr.heap.size := fun b hb => ⟨hXN b hb, hX b hb⟩
      have hsg := hg.size
      have hlv2 : Lev w (fun _ => False) D1 WL (N + 2) r .busy none (YesBad m PS w.heap.size (w.heap.size + 1)) (fun b => V1 b ∨ X b) (w2.setCell ⟨w.heap.size + 1, 0, none⟩ (.slice (some ad) nx cx)) := by
        refine ⟨fun b => V b ∨ X b, ⟨.inl hjq.1, _, rs, i, hi, hcell, (hown4.same (fun b hb => hne b (by have := hX2 b ((hXi b).2 (.inl hb)); omega) (by have := hX2 b ((hXi b).2 (.inl hb)); omega)) (fun k y b hy hb => hne b (by have := hX2 b ((hXi b).2 (.inr ⟨k, y, hy, hb⟩)); omega) (by have := hX2 b ((hXi b).2 (.inr ⟨k, y, hy, hb⟩)); omega))).lower (by omega), fun b hb => .inr ((hXi b).2 (.inl hb)), fun k y b hy hb => .inr ((hXi b).2 (.inr ⟨k, y, hy, hb⟩)), by rw [hbad, decide_eq_true hneg], fun j hj => hjq.2.2.2 j (by omega) hj⟩, fun b hb => ?_, ⟨hg.os.trans hst.os, hg.tape.trans hst.tape, hg.output.trans hst.output, by have := hst.size; omega, fun b hb hu => ?_, fun b hb => ?_, fun b hb => ?_⟩, fun b hb => .inl (hDU b hb), fun b hd hn => (hne b (by have := hD1N b hd; omega) (hD1N b hd).2.2).trans (hDs b hd hn), (hne _ (by omega) (by omega)).trans hrec, hDl⟩
        · rcases hb with hb | hb
          · exact ⟨.inl (hV b hb).1, (hV b hb).2⟩
          · exact ⟨.inr hb, fun hd => by have := hD1N b hd; have := hX2 b hb; omega⟩
        · rw [hne b (by have := hst.size; omega) (by omega)]; exact hst.same b hb hu
        · rcases hb with hb | hb
          · exact hst.back b hb
          · have := hX2 b hb; exact .inr (by omega)
        · rcases hb with hb | hb
          · have := hst.bnd b hb; omega
          · have := hX2 b hb; omega
      have hput := hlv2.put YesBad.stay (by omega) .done (some .ret)
      refine ⟨?_, hlv2.rec⟩
      rw [hR]
      have hstp : StepU (fun b => V1 b ∨ X b) (fun b => V1 b ∨ X b) Wr (w2.setCell ⟨w.heap.size + 1, 0, none⟩ (.slice (some ad) nx cx)) := ⟨hg.os.trans hst1.os, hg.tape.trans hst1.tape, hg.output.trans hst1.output, by have := hst1.size; omega, fun b hb hu => by
        rw [hne b (by omega) (fun e => hu (.inl (by rw [e]; exact hV1c)))]; exact hst1.same b hb (fun h => hu (.inl h)), fun b hb => .inl hb, fun b hb => by
        rcases hb with hb | hb
        · have := hst1.bnd b hb; omega
        · have := hX2 b hb; omega⟩
      exact ⟨_, hstp.trans (StepU.put (.loop { r with state := .done, pending := some .ret }) hstp.bnd (.inl hmem.1)), .inr ⟨rfl, hput⟩⟩)
    have HCF : Hid (∀ w2, Below NC Wb w2 → w2.cell? ⟨w.heap.size + 1, 0, none⟩ = some (.slice none 0 0) ∧ w2.frozen? ⟨w.heap.size + 1, 0, none⟩ = false) := Lib.hid (fun w2 B2 => by
      rw [← hNC] at B2
      obtain ⟨V, hjq, _⟩ := hjp.stay NoBad.stay (StayU.of_below B2 hV1b)
      exact ⟨hjq.2.1, hjq.2.2.1⟩)
    have HBR := Lib.hid hbr
    rw [hNC] at HNEG
    clear c hc
    simp only [Value.slice.injEq, Option.some.injEq] at hve
    obtain ⟨rfl, rfl, rfl⟩ := hve
    generalize negD m p q = ND at *
    rw [hr]
    dsimp only
    clear hr hbr hjp hsp hR hX hXV hV1 hown hown2 hown3 hXi hXN hj hl0 hmem hi hgd hpq hcb hl h0 h2 hpr hqr hbad hrp hrq hBdr hBM hV1b hszp hWb hstart hst0 hWL HWLm HDF HPM HIT HRN HRA HW HM hBw hBL hBL2 hlr hDf hrr hD1N hB2 b1 c1 kf kr km HB1 hWrs
    by_cases hneg : ND < 0
    · have HET := Lib.hid (HEndT.out hneg)
      clear HEndF HEndT
      gi_wp2
      refine ⟨_, HBR.out, ?_⟩
      gi_wp2_with fail
      clear HBR
      have hF : ∀ f, (Fence.wide.inRound (N + 2)).fn f := fun _ => trivial
      refine wpIn_region_any hmix ?_
      change wpAnyIn _ _ _ _ _ _ _ _ _ (World.drew _)
      refine takes_to hF (a' := ?_) (i := 1) (v := ?_) (by kernel_rfl) rfl (by kernel_rfl) (by kernel_rfl) (by kernel_rfl) (fun _ _ _ h => h) (Or.inl ⟨by rfl, ?hy301⟩) ?ha301 ?rest301
      case hy301 => ((intro w; go_simp) <;> (with_reducible rfl))
      case ha301 => (go_simp; rfl)
      refine takes_to hF (a' := ?_) (i := 2) (v := ?_) (by kernel_rfl) rfl (by kernel_rfl) (by kernel_rfl) (by kernel_rfl) (fun _ _ _ h => h) (Or.inl ⟨by rfl, ?hy302⟩) ?ha302 ?rest302
      case hy302 => ((intro w; go_simp) <;> (with_reducible rfl))
      case ha302 => (go_simp; rfl)
      refine takes_to hF (a' := ?_) (i := 4) (v := ?_) (by kernel_rfl) rfl (by kernel_rfl) (by kernel_rfl) (by kernel_rfl) (fun _ _ _ h => h) (Or.inl ⟨by rfl, ?hy303⟩) ?ha303 ?rest303
      case hy303 => ((intro w; go_simp) <;> (with_reducible rfl))
      case ha303 => (go_simp; rfl)
      refine takes_to hF (a' := ?_) (i := 5) (v := ?_) (by kernel_rfl) rfl (by kernel_rfl) (by kernel_rfl) (by kernel_rfl) (fun _ _ _ h => h) (Or.inl ⟨by rfl, ?hy304⟩) ?ha304 ?rest304
      case hy304 => ((intro w; go_simp) <;> (with_reducible rfl))
      case ha304 => (go_simp; rfl)
      refine wpAnyIn_ready (rs := [0, 3, 6]) (by kernel_rfl) (by simp) ?_
      refine AllReadyIn.cons rfl (fun K hK => ?_) ?_
      · go_simp
        refine hK _ _ ?_
        clear hK K
        refine wpAnyIn_ready (rs := [3, 6]) (by kernel_rfl) (by simp) ?_
        refine AllReadyIn.cons rfl (fun K hK => ?_) ?_
        · go_simp
          refine hK _ _ ?_
          clear hK K
          refine wpAnyIn_ready (rs := [6]) (by kernel_rfl) (by simp) ?_
          refine AllReadyIn.cons rfl (fun K hK => ?_) AllReadyIn.nil
          go_simp
          refine hK _ _ ?_
          clear hK K
          refine wpAnyIn_ready (rs := [7]) (by kernel_rfl) (by simp) ?_
          refine AllReadyIn.cons rfl (fun K hK => ?_) AllReadyIn.nil
          go_simp
          refine ⟨(fun h => by cases h), ?_⟩
          gi_at_call 47
          with_reducible refine (CallsIn.inRound _ (callsIn_wide.2 HNEG.out)).mono ?_
          rintro e w2 ⟨rfl, B2⟩
          refine hK _ _ ?_
          clear hK K
          refine takes_to hF (a' := ?_) (i := 8) (v := ?_) (by kernel_rfl) rfl (by kernel_rfl) (by kernel_rfl) (by kernel_rfl) (fun _ _ _ h => h) (Or.inl ⟨by rfl, ?hy305⟩) ?ha305 ?rest305
          case hy305 => ((intro w; go_simp) <;> (with_reducible rfl))
          case ha305 => (go_simp; rfl)
          refine wpAnyIn_done (by kernel_rfl) ?_ _
          have hfn := Lib.hid (HET.out w2 B2)
          obtain ⟨hcc, hff⟩ := HCF.out w2 B2
          clear B2
          gi_wp2
          refine ⟨_, _, run_endRound (some .ret) hfn.out.2, ?_⟩
          exact hfn.out.1
        refine AllReadyIn.cons rfl (fun K hK => ?_) AllReadyIn.nil
        go_simp
        refine hK _ _ ?_
        clear hK K
        refine wpAnyIn_ready (rs := [3]) (by kernel_rfl) (by simp) ?_
        refine AllReadyIn.cons rfl (fun K hK => ?_) AllReadyIn.nil
        go_simp
        refine hK _ _ ?_
        clear hK K
        refine wpAnyIn_ready (rs := [7]) (by kernel_rfl) (by simp) ?_
        refine AllReadyIn.cons rfl (fun K hK => ?_) AllReadyIn.nil
        go_simp
        refine ⟨(fun h => by cases h), ?_⟩
        gi_at_call 47
        with_reducible refine (CallsIn.inRound _ (callsIn_wide.2 HNEG.out)).mono ?_
        rintro e w2 ⟨rfl, B2⟩
        refine hK _ _ ?_
        clear hK K
        refine takes_to hF (a' := ?_) (i := 8) (v := ?_) (by kernel_rfl) rfl (by kernel_rfl) (by kernel_rfl) (by kernel_rfl) (fun _ _ _ h => h) (Or.inl ⟨by rfl, ?hy306⟩) ?ha306 ?rest306
        case hy306 => ((intro w; go_simp) <;> (with_reducible rfl))
        case ha306 => (go_simp; rfl)
        refine wpAnyIn_done (by kernel_rfl) ?_ _
        have hfn := Lib.hid (HET.out w2 B2)
        obtain ⟨hcc, hff⟩ := HCF.out w2 B2
        clear B2
        gi_wp2
        refine ⟨_, _, run_endRound (some .ret) hfn.out.2, ?_⟩
        exact hfn.out.1
      refine AllReadyIn.cons rfl (fun K hK => ?_) ?_
      · go_simp
        refine hK _ _ ?_
        clear hK K
        refine wpAnyIn_ready (rs := [0, 6]) (by kernel_rfl) (by simp) ?_
        refine AllReadyIn.cons rfl (fun K hK => ?_) ?_
        · go_simp
          refine hK _ _ ?_
          clear hK K
          refine wpAnyIn_ready (rs := [6]) (by kernel_rfl) (by simp) ?_
          refine AllReadyIn.cons rfl (fun K hK => ?_) AllReadyIn.nil
          go_simp
          refine hK _ _ ?_
          clear hK K
          refine wpAnyIn_ready (rs := [7]) (by kernel_rfl) (by simp) ?_
          refine AllReadyIn.cons rfl (fun K hK => ?_) AllReadyIn.nil
          go_simp
          refine ⟨(fun h => by cases h), ?_⟩
          gi_at_call 47
          with_reducible refine (CallsIn.inRound _ (callsIn_wide.2 HNEG.out)).mono ?_
          rintro e w2 ⟨rfl, B2⟩
          refine hK _ _ ?_
          clear hK K
          refine takes_to hF (a' := ?_) (i := 8) (v := ?_) (by kernel_rfl) rfl (by kernel_rfl) (by kernel_rfl) (by kernel_rfl) (fun _ _ _ h => h) (Or.inl ⟨by rfl, ?hy307⟩) ?ha307 ?rest307
          case hy307 => ((intro w; go_simp) <;> (with_reducible rfl))
          case ha307 => (go_simp; rfl)
          refine wpAnyIn_done (by kernel_rfl) ?_ _
          have hfn := Lib.hid (HET.out w2 B2)
          obtain ⟨hcc, hff⟩ := HCF.out w2 B2
          clear B2
          gi_wp2
          refine ⟨_, _, run_endRound (some .ret) hfn.out.2, ?_⟩
          exact hfn.out.1
        refine AllReadyIn.cons rfl (fun K hK => ?_) AllReadyIn.nil
        go_simp
        refine hK _ _ ?_
        clear hK K
        refine wpAnyIn_ready (rs := [0]) (by kernel_rfl) (by simp) ?_
        refine AllReadyIn.cons rfl (fun K hK => ?_) AllReadyIn.nil
        go_simp
        refine hK _ _ ?_
        clear hK K
        refine wpAnyIn_ready (rs := [7]) (by kernel_rfl) (by simp) ?_
        refine AllReadyIn.cons rfl (fun K hK => ?_) AllReadyIn.nil
        go_simp
        refine ⟨(fun h => by cases h), ?_⟩
        gi_at_call 47
        with_reducible refine (CallsIn.inRound _ (callsIn_wide.2 HNEG.out)).mono ?_
        rintro e w2 ⟨rfl, B2⟩
        refine hK _ _ ?_
        clear hK K
        refine takes_to hF (a' := ?_) (i := 8) (v := ?_) (by kernel_rfl) rfl (by kernel_rfl) (by kernel_rfl) (by kernel_rfl) (fun _ _ _ h => h) (Or.inl ⟨by rfl, ?hy308⟩) ?ha308 ?rest308
        case hy308 => ((intro w; go_simp) <;> (with_reducible rfl))
        case ha308 => (go_simp; rfl)
        refine wpAnyIn_done (by kernel_rfl) ?_ _
        have hfn := Lib.hid (HET.out w2 B2)
        obtain ⟨hcc, hff⟩ := HCF.out w2 B2
        clear B2
        gi_wp2
        refine ⟨_, _, run_endRound (some .ret) hfn.out.2, ?_⟩
        exact hfn.out.1
      refine AllReadyIn.cons rfl (fun K hK => ?_) AllReadyIn.nil
      go_simp
      refine hK _ _ ?_
      clear hK K
      refine wpAnyIn_ready (rs := [0, 3]) (by kernel_rfl) (by simp) ?_
      refine AllReadyIn.cons rfl (fun K hK => ?_) ?_
      · go_simp
        refine hK _ _ ?_
        clear hK K
        refine wpAnyIn_ready (rs := [3]) (by kernel_rfl) (by simp) ?_
        refine AllReadyIn.cons rfl (fun K hK => ?_) AllReadyIn.nil
        go_simp
        refine hK _ _ ?_
        clear hK K
        refine wpAnyIn_ready (rs := [7]) (by kernel_rfl) (by simp) ?_
        refine AllReadyIn.cons rfl (fun K hK => ?_) AllReadyIn.nil
        go_simp
        refine ⟨(fun h => by cases h), ?_⟩
        gi_at_call 47
        with_reducible refine (CallsIn.inRound _ (callsIn_wide.2 HNEG.out)).mono ?_
        rintro e w2 ⟨rfl, B2⟩
        refine hK _ _ ?_
        clear hK K
        refine takes_to hF (a' := ?_) (i := 8) (v := ?_) (by kernel_rfl) rfl (by kernel_rfl) (by kernel_rfl) (by kernel_rfl) (fun _ _ _ h => h) (Or.inl ⟨by rfl, ?hy309⟩) ?ha309 ?rest309
        case hy309 => ((intro w; go_simp) <;> (with_reducible rfl))
        case ha309 => (go_simp; rfl)
        refine wpAnyIn_done (by kernel_rfl) ?_ _
        have hfn := Lib.hid (HET.out w2 B2)
        obtain ⟨hcc, hff⟩ := HCF.out w2 B2
        clear B2
        gi_wp2
        refine ⟨_, _, run_endRound (some .ret) hfn.out.2, ?_⟩
        exact hfn.out.1
      refine AllReadyIn.cons rfl (fun K hK => ?_) AllReadyIn.nil
      go_simp
      refine hK _ _ ?_
      clear hK K
      refine wpAnyIn_ready (rs := [0]) (by kernel_rfl) (by simp) ?_
      refine AllReadyIn.cons rfl (fun K hK => ?_) AllReadyIn.nil
      go_simp
      refine hK _ _ ?_
      clear hK K
      refine wpAnyIn_ready (rs := [7]) (by kernel_rfl) (by simp) ?_
      refine AllReadyIn.cons rfl (fun K hK => ?_) AllReadyIn.nil
      go_simp
      refine ⟨(fun h => by cases h), ?_⟩
      gi_at_call 47
      with_reducible refine (CallsIn.inRound _ (callsIn_wide.2 HNEG.out)).mono ?_
      rintro e w2 ⟨rfl, B2⟩
      refine hK _ _ ?_
      clear hK K
      refine takes_to hF (a' := ?_) (i := 8) (v := ?_) (by kernel_rfl) rfl (by kernel_rfl) (by kernel_rfl) (by kernel_rfl) (fun _ _ _ h => h) (Or.inl ⟨by rfl, ?hy310⟩) ?ha310 ?rest310
      case hy310 => ((intro w; go_simp) <;> (with_reducible rfl))
      case ha310 => (go_simp; rfl)
      refine wpAnyIn_done (by kernel_rfl) ?_ _
      have hfn := Lib.hid (HET.out w2 B2)
      obtain ⟨hcc, hff⟩ := HCF.out w2 B2
      clear B2
      gi_wp2
      refine ⟨_, _, run_endRound (some .ret) hfn.out.2, ?_⟩
      exact hfn.out.1
    · have HEF := Lib.hid (HEndF.out hneg)
      clear HEndT HCF HEndF
      gi_wp2
      refine ⟨_, HBR.out, ?_⟩
      gi_wp2_with fail
      clear HBR
      have hF : ∀ f, (Fence.wide.inRound (N + 2)).fn f := fun _ => trivial
      refine wpIn_region_any hmix ?_
      change wpAnyIn _ _ _ _ _ _ _ _ _ (World.drew _)
      refine takes_to hF (a' := ?_) (i := 1) (v := ?_) (by kernel_rfl) rfl (by kernel_rfl) (by kernel_rfl) (by kernel_rfl) (fun _ _ _ h => h) (Or.inl ⟨by rfl, ?hy311⟩) ?ha311 ?rest311
      case hy311 => ((intro w; go_simp) <;> (with_reducible rfl))
      case ha311 => (go_simp; rfl)
      refine takes_to hF (a' := ?_) (i := 2) (v := ?_) (by kernel_rfl) rfl (by kernel_rfl) (by kernel_rfl) (by kernel_rfl) (fun _ _ _ h => h) (Or.inl ⟨by rfl, ?hy312⟩) ?ha312 ?rest312
      case hy312 => ((intro w; go_simp) <;> (with_reducible rfl))
      case ha312 => (go_simp; rfl)
      refine takes_to hF (a' := ?_) (i := 4) (v := ?_) (by kernel_rfl) rfl (by kernel_rfl) (by kernel_rfl) (by kernel_rfl) (fun _ _ _ h => h) (Or.inl ⟨by rfl, ?hy313⟩) ?ha313 ?rest313
      case hy313 => ((intro w; go_simp) <;> (with_reducible rfl))
      case ha313 => (go_simp; rfl)
      refine takes_to hF (a' := ?_) (i := 5) (v := ?_) (by kernel_rfl) rfl (by kernel_rfl) (by kernel_rfl) (by kernel_rfl) (fun _ _ _ h => h) (Or.inl ⟨by rfl, ?hy314⟩) ?ha314 ?rest314
      case hy314 => ((intro w; go_simp) <;> (with_reducible rfl))
      case ha314 => (go_simp; rfl)
      refine wpAnyIn_ready (rs := [0, 3, 6]) (by kernel_rfl) (by simp) ?_
      refine AllReadyIn.cons rfl (fun K hK => ?_) ?_
      · go_simp
        refine hK _ _ ?_
        clear hK K
        refine wpAnyIn_ready (rs := [3, 6]) (by kernel_rfl) (by simp) ?_
        refine AllReadyIn.cons rfl (fun K hK => ?_) ?_
        · go_simp
          refine hK _ _ ?_
          clear hK K
          refine wpAnyIn_ready (rs := [6]) (by kernel_rfl) (by simp) ?_
          refine AllReadyIn.cons rfl (fun K hK => ?_) AllReadyIn.nil
          go_simp
          refine hK _ _ ?_
          clear hK K
          refine wpAnyIn_ready (rs := [7]) (by kernel_rfl) (by simp) ?_
          refine AllReadyIn.cons rfl (fun K hK => ?_) AllReadyIn.nil
          go_simp
          refine ⟨(fun h => by cases h), ?_⟩
          gi_at_call 47
          with_reducible refine (CallsIn.inRound _ (callsIn_wide.2 HNEG.out)).mono ?_
          rintro e w2 ⟨rfl, B2⟩
          refine hK _ _ ?_
          clear hK K
          refine takes_to hF (a' := ?_) (i := 8) (v := ?_) (by kernel_rfl) rfl (by kernel_rfl) (by kernel_rfl) (by kernel_rfl) (fun _ _ _ h => h) (Or.inl ⟨by rfl, ?hy315⟩) ?ha315 ?rest315
          case hy315 => ((intro w; go_simp) <;> (with_reducible rfl))
          case ha315 => (go_simp; rfl)
          refine wpAnyIn_done (by kernel_rfl) ?_ _
          have hfn := Lib.hid (HEF.out w2 B2)
          clear B2
          gi_wp2
          refine ⟨_, _, run_endRound none hfn.out.2, ?_⟩
          exact hfn.out.1
        refine AllReadyIn.cons rfl (fun K hK => ?_) AllReadyIn.nil
        go_simp
        refine hK _ _ ?_
        clear hK K
        refine wpAnyIn_ready (rs := [3]) (by kernel_rfl) (by simp) ?_
        refine AllReadyIn.cons rfl (fun K hK => ?_) AllReadyIn.nil
        go_simp
        refine hK _ _ ?_
        clear hK K
        refine wpAnyIn_ready (rs := [7]) (by kernel_rfl) (by simp) ?_
        refine AllReadyIn.cons rfl (fun K hK => ?_) AllReadyIn.nil
        go_simp
        refine ⟨(fun h => by cases h), ?_⟩
        gi_at_call 47
        with_reducible refine (CallsIn.inRound _ (callsIn_wide.2 HNEG.out)).mono ?_
        rintro e w2 ⟨rfl, B2⟩
        refine hK _ _ ?_
        clear hK K
        refine takes_to hF (a' := ?_) (i := 8) (v := ?_) (by kernel_rfl) rfl (by kernel_rfl) (by kernel_rfl) (by kernel_rfl) (fun _ _ _ h => h) (Or.inl ⟨by rfl, ?hy316⟩) ?ha316 ?rest316
        case hy316 => ((intro w; go_simp) <;> (with_reducible rfl))
        case ha316 => (go_simp; rfl)
        refine wpAnyIn_done (by kernel_rfl) ?_ _
        have hfn := Lib.hid (HEF.out w2 B2)
        clear B2
        gi_wp2
        refine ⟨_, _, run_endRound none hfn.out.2, ?_⟩
        exact hfn.out.1
      refine AllReadyIn.cons rfl (fun K hK => ?_) ?_
      · go_simp
        refine hK _ _ ?_
        clear hK K
        refine wpAnyIn_ready (rs := [0, 6]) (by kernel_rfl) (by simp) ?_
        refine AllReadyIn.cons rfl (fun K hK => ?_) ?_
        · go_simp
          refine hK _ _ ?_
          clear hK K
          refine wpAnyIn_ready (rs := [6]) (by kernel_rfl) (by simp) ?_
          refine AllReadyIn.cons rfl (fun K hK => ?_) AllReadyIn.nil
          go_simp
          refine hK _ _ ?_
          clear hK K
          refine wpAnyIn_ready (rs := [7]) (by kernel_rfl) (by simp) ?_
          refine AllReadyIn.cons rfl (fun K hK => ?_) AllReadyIn.nil
          go_simp
          refine ⟨(fun h => by cases h), ?_⟩
          gi_at_call 47
          with_reducible refine (CallsIn.inRound _ (callsIn_wide.2 HNEG.out)).mono ?_
          rintro e w2 ⟨rfl, B2⟩
          refine hK _ _ ?_
          clear hK K
          refine takes_to hF (a' := ?_) (i := 8) (v := ?_) (by kernel_rfl) rfl (by kernel_rfl) (by kernel_rfl) (by kernel_rfl) (fun _ _ _ h => h) (Or.inl ⟨by rfl, ?hy317⟩) ?ha317 ?rest317
          case hy317 => ((intro w; go_simp) <;> (with_reducible rfl))
          case ha317 => (go_simp; rfl)
          refine wpAnyIn_done (by kernel_rfl) ?_ _
          have hfn := Lib.hid (HEF.out w2 B2)
          clear B2
          gi_wp2
          refine ⟨_, _, run_endRound none hfn.out.2, ?_⟩
          exact hfn.out.1
        refine AllReadyIn.cons rfl (fun K hK => ?_) AllReadyIn.nil
        go_simp
        refine hK _ _ ?_
        clear hK K
        refine wpAnyIn_ready (rs := [0]) (by kernel_rfl) (by simp) ?_
        refine AllReadyIn.cons rfl (fun K hK => ?_) AllReadyIn.nil
        go_simp
        refine hK _ _ ?_
        clear hK K
        refine wpAnyIn_ready (rs := [7]) (by kernel_rfl) (by simp) ?_
        refine AllReadyIn.cons rfl (fun K hK => ?_) AllReadyIn.nil
        go_simp
        refine ⟨(fun h => by cases h), ?_⟩
        gi_at_call 47
        with_reducible refine (CallsIn.inRound _ (callsIn_wide.2 HNEG.out)).mono ?_
        rintro e w2 ⟨rfl, B2⟩
        refine hK _ _ ?_
        clear hK K
        refine takes_to hF (a' := ?_) (i := 8) (v := ?_) (by kernel_rfl) rfl (by kernel_rfl) (by kernel_rfl) (by kernel_rfl) (fun _ _ _ h => h) (Or.inl ⟨by rfl, ?hy318⟩) ?ha318 ?rest318
        case hy318 => ((intro w; go_simp) <;> (with_reducible rfl))
        case ha318 => (go_simp; rfl)
        refine wpAnyIn_done (by kernel_rfl) ?_ _
        have hfn := Lib.hid (HEF.out w2 B2)
        clear B2
        gi_wp2
        refine ⟨_, _, run_endRound none hfn.out.2, ?_⟩
        exact hfn.out.1
      refine AllReadyIn.cons rfl (fun K hK => ?_) AllReadyIn.nil
      go_simp
      refine hK _ _ ?_
      clear hK K
      refine wpAnyIn_ready (rs := [0, 3]) (by kernel_rfl) (by simp) ?_
      refine AllReadyIn.cons rfl (fun K hK => ?_) ?_
      · go_simp
        refine hK _ _ ?_
        clear hK K
        refine wpAnyIn_ready (rs := [3]) (by kernel_rfl) (by simp) ?_
        refine AllReadyIn.cons rfl (fun K hK => ?_) AllReadyIn.nil
        go_simp
        refine hK _ _ ?_
        clear hK K
        refine wpAnyIn_ready (rs := [7]) (by kernel_rfl) (by simp) ?_
        refine AllReadyIn.cons rfl (fun K hK => ?_) AllReadyIn.nil
        go_simp
        refine ⟨(fun h => by cases h), ?_⟩
        gi_at_call 47
        with_reducible refine (CallsIn.inRound _ (callsIn_wide.2 HNEG.out)).mono ?_
        rintro e w2 ⟨rfl, B2⟩
        refine hK _ _ ?_
        clear hK K
        refine takes_to hF (a' := ?_) (i := 8) (v := ?_) (by kernel_rfl) rfl (by kernel_rfl) (by kernel_rfl) (by kernel_rfl) (fun _ _ _ h => h) (Or.inl ⟨by rfl, ?hy319⟩) ?ha319 ?rest319
        case hy319 => ((intro w; go_simp) <;> (with_reducible rfl))
        case ha319 => (go_simp; rfl)
        refine wpAnyIn_done (by kernel_rfl) ?_ _
        have hfn := Lib.hid (HEF.out w2 B2)
        clear B2
        gi_wp2
        refine ⟨_, _, run_endRound none hfn.out.2, ?_⟩
        exact hfn.out.1
      refine AllReadyIn.cons rfl (fun K hK => ?_) AllReadyIn.nil
      go_simp
      refine hK _ _ ?_
      clear hK K
      refine wpAnyIn_ready (rs := [0]) (by kernel_rfl) (by simp) ?_
      refine AllReadyIn.cons rfl (fun K hK => ?_) AllReadyIn.nil
      go_simp
      refine hK _ _ ?_
      clear hK K
      refine wpAnyIn_ready (rs := [7]) (by kernel_rfl) (by simp) ?_
      refine AllReadyIn.cons rfl (fun K hK => ?_) AllReadyIn.nil
      go_simp
      refine ⟨(fun h => by cases h), ?_⟩
      gi_at_call 47
      with_reducible refine (CallsIn.inRound _ (callsIn_wide.2 HNEG.out)).mono ?_
      rintro e w2 ⟨rfl, B2⟩
      refine hK _ _ ?_
      clear hK K
      refine takes_to hF (a' := ?_) (i := 8) (v := ?_) (by kernel_rfl) rfl (by kernel_rfl) (by kernel_rfl) (by kernel_rfl) (fun _ _ _ h => h) (Or.inl ⟨by rfl, ?hy320⟩) ?ha320 ?rest320
      case hy320 => ((intro w; go_simp) <;> (with_reducible rfl))
      case ha320 => (go_simp; rfl)
      refine wpAnyIn_done (by kernel_rfl) ?_ _
      have hfn := Lib.hid (HEF.out w2 B2)
      clear B2
      gi_wp2
      refine ⟨_, _, run_endRound none hfn.out.2, ?_⟩
      exact hfn.out.1
  have hit := HIT.out N WL c1 (N + 2) (fun i => Lev w (fun _ => False) D1 WL (N + 2) r .ready none (NoBad m PS (w.heap.size + 1) i)) (fun _ => Lev w (fun _ => False) D1 WL (N + 2) r .done (some .ret) (YesBad m PS w.heap.size (w.heap.size + 1))) (fun b => b < N + 3 ∧ b ≠ N)
    (fun i V A B h _ hS => h.stay NoBad.stay hS) (fun i V A B h _ hS => h.stay YesBad.stay hS) hround hstart (fun b hb => by omega) (fun b hb h => by omega)
  refine Calls.mono hit ?_
  rintro e W4 ⟨hv, U4, hst4, hh⟩
  refine ⟨hv, ?_⟩
  clear hit hround hstart hWL hlr hst4
  rcases hh with hT | hT
  · obtain ⟨V, hjv, hstv, hvd, hsame⟩ := hT.leave NoBad.stay (by omega) (.loop { r with state := .exhausted, pending := none })
    refine ⟨.ready, none, (by simp), hT.rec, ?_⟩
    dsimp only
    obtain ⟨W5, hW5⟩ : ∃ W5, W4.putObj (N + 2) (.loop { r with state := .exhausted, pending := none }) = W5 := ⟨_, rfl⟩
    rw [hW5] at hjv hstv hsame ⊢
    have hdf := (hsame (N + 1) (by rw [hD1]; simp) (by omega)).trans HDF.out
    have hres := HRN.out (fun k hk => hjv.2.2.2 k hk hk)
    obtain ⟨hvc, k1, k2, _⟩ := hjv
    have hcl : w.heap.size + 1 < W5.heap.size := hstv.bnd _ hvc
    have hg := grownBy_setCell' W5 (w.heap.size + 1) (.slice none 0 0)
    have hX : Hid ((W5.setCell ⟨w.heap.size + 1, 0, none⟩ (.slice none 0 0)).heap[N + 1]? = some (.deferred (some [])) ∧ ∀ W6, W6.os = (W5.setCell ⟨w.heap.size + 1, 0, none⟩ (.slice none 0 0)).os → W6.tape = (W5.setCell ⟨w.heap.size + 1, 0, none⟩ (.slice none 0 0)).tape → W6.output = (W5.setCell ⟨w.heap.size + 1, 0, none⟩ (.slice none 0 0)).output → W6.heap.size = (W5.setCell ⟨w.heap.size + 1, 0, none⟩ (.slice none 0 0)).heap.size → (∀ b, b ∉ [N + 1] → W6.heap[b]? = (W5.setCell ⟨w.heap.size + 1, 0, none⟩ (.slice none 0 0)).heap[b]?) → W6.cell? ⟨w.heap.size + 1, 0, none⟩ = some (.slice none 0 0) ∧ OwnsM W6 w.heap.size (.slice none 0 0) (reasonR m) ∧ Below w.heap.size w W6) := Lib.hid ⟨(hg.block (N + 1) (by rw [Array.getElem?_eq_some_iff] at hdf; exact hdf.1) (fun e => by have h := Option.some.inj e; omega)).trans hdf, fun W6 g1 g2 g3 g4 g5 => by
      refine ⟨(World.cell?_of_block (a := ⟨w.heap.size + 1, 0, none⟩) (g5 _ (by simp; omega))).trans (World.cell?_setCell_same' _ _ _ (by rw [k1]; rfl)), by rw [hres]; exact OwnsM.nil _ _, g1.trans (hg.os.trans hstv.os), g2.trans (hg.tape.trans hstv.tape), g3.trans (hg.output.trans hstv.output), by have := hg.size; have := hstv.size; omega, fun b hb => ?_⟩
      rw [g5 b (by simp; omega), hg.block b (by have := hstv.size; omega) (fun e => by have h := Option.some.inj e; omega)]
      exact hstv.same b hb (fun h => h)⟩
    clear hdf hres hstv hvd hsame hT hg hvc hW5 HRN HRA HPM HIT hr hBL hBL2 hB2 hDf hszL hsz2 b1 c1 kr kf km hcl hst0 hBw HB1 HWLm HDF hD1N hrr
    gi_wp2
    exact leaves_marks [N + 1] _ (fun b hb => by rw [List.mem_singleton] at hb; subst hb; exact hX.out.1) (by simp) (fun W6 g1 g2 g3 g4 g5 => by
      obtain ⟨q1, q2, q3⟩ := hX.out.2 W6 g1 g2 g3 g4 g5
      exact ⟨.slice none 0 0, by simp (maxDischargeDepth := 8) [results, Try.results16, go_sem, q1], _, rfl, q2, q3, fun _ => rfl⟩)
  · obtain ⟨V, hjv, hstv, hvd, hsame⟩ := hT.leave YesBad.stay (by omega) (.loop { r with state := .exhausted, pending := some .ret })
    refine ⟨.done, some .ret, (by simp), hT.rec, ?_⟩
    dsimp only
    obtain ⟨W5, hW5⟩ : ∃ W5, W4.putObj (N + 2) (.loop { r with state := .exhausted, pending := some .ret }) = W5 := ⟨_, rfl⟩
    rw [hW5] at hjv hstv hsame ⊢
    have hdf := (hsame (N + 1) (by rw [hD1]; simp) (by omega)).trans HDF.out
    obtain ⟨hvc, x, rs, i, hi, k1, hown, hb1, hb2, hbad, hno⟩ := hjv
    have hres := HRA.out i hi hbad hno
    have hND : ¬ V (N + 1) := fun h => hvd _ h (by rw [hD1]; simp)
    have HNE : Hid (¬ reasonR m = []) := Lib.hid (by
      obtain ⟨p, q, hpq, _⟩ := HPM.out PS[i] (List.getElem_mem hi)
      rw [hres, hpq]; simp)
    have hX : Hid (∀ W6, W6.os = W5.os → W6.tape = W5.tape → W6.output = W5.output → W6.heap.size = W5.heap.size → (∀ b, b ∉ [N + 1] → W6.heap[b]? = W5.heap[b]?) → W6.cell? ⟨w.heap.size + 1, 0, none⟩ = some x ∧ OwnsM W6 w.heap.size x (reasonR m) ∧ Below w.heap.size w W6) := Lib.hid (fun W6 g1 g2 g3 g4 g5 => by
      refine ⟨(World.cell?_of_block (a := ⟨w.heap.size + 1, 0, none⟩) (g5 _ (by simp; omega))).trans k1, by rw [hres]; exact ⟨rs, hown.same (fun b hb => g5 b (by simp; rintro rfl; exact hND (hb1 _ hb))) (fun k r b hr hb => g5 b (by simp; rintro rfl; exact hND (hb2 k r _ hr hb)))⟩, g1.trans hstv.os, g2.trans hstv.tape, g3.trans hstv.output, by have := hstv.size; omega, fun b hb => ?_⟩
      rw [g5 b (by simp; omega)]
      exact hstv.same b hb (fun h => h))
    have HDF2 := Lib.hid hdf
    clear hdf hres hstv hvd hsame hT hvc hW5 HRN HRA HPM HIT hr hBL hBL2 hB2 hDf hszL hsz2 b1 c1 kr kf km hst0 hBw HB1 HWLm HDF hown hb1 hb2 hbad hno hND k1 hD1N hrr
    gi_wp2
    exact leaves_marks [N + 1] _ (fun b hb => by rw [List.mem_singleton] at hb; subst hb; exact HDF2.out) (by simp) (fun W6 g1 g2 g3 g4 g5 => by
      obtain ⟨q1, q2, q3⟩ := hX.out W6 g1 g2 g3 g4 g5
      exact ⟨x, by simp (maxDischargeDepth := 8) [results, Try.results16, go_sem, q1], _, rfl, q2, q3, fun h => absurd h HNE.out⟩)
end Go.Proofs.Ytalonncjdohejaa
