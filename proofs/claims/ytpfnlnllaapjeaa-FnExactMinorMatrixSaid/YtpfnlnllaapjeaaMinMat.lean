/-
  MinorMatrix, in the model and in the program.
-/
import Derived.Test.YtpfnlnllaapjeaaNegSpec
import Derived.Test.YtpfnlnllaapjeaaWtMat
import Derived.Test.YtpfnlnllaapjeaaCircSpec
import Derived.Test.YtpfnlnllaapjeaaCircImpl
import Derived.Test.YtpfnlnllaapjeaaGMinor
namespace Go.Proofs.Ytpfnlnllaapjeaa
open Go.RowKit

theorem ret_mm {m : MatI} {p q : List Int} {x : Int} {b : Bool} (h : mmR m p q = (x, b)) : Ending.returned (.tuple #[.int .i64 x, .bool b]) = .returned (.tuple #[.int .i64 (mmR m p q).1, .bool (mmR m p q).2]) := by rw [h]
set_option maxRecDepth 8000 in
set_option maxHeartbeats 6400000 in
theorem spec_minMat (v vr vc : Value) (m : MatI) (p q : List Int) (w : World) (hM : ReadsII w v m) (hR : ReadsI w vr p) (hC : ReadsI w vc q) (hp1 : p.length ≤ 1048576) (hq1 : q.length ≤ 1048576) :
    Calls Try.prog 53 #[v, vr, vc] w fun e w' => e = .returned (.tuple #[.int .i64 (mmR m p q).1, .bool (mmR m p q).2]) ∧ Below w.heap.size w w' := by
  obtain ⟨pm, cm, rfl, _, _⟩ := hM.shape
  obtain ⟨pr, cr, rfl, _, _⟩ := hR.shape
  obtain ⟨pc, cc, rfl, _, _⟩ := hC.shape
  have hw := spec_isW _ m w hM
  have hc := fun W (hB : Below w.heap.size w W) => spec_circ (m.length : Int) _ _ p q W hp1 hq1 (hR.later hB) (hC.later hB)
  have HM := Lib.hid hM; have HR := Lib.hid hR; have HC := Lib.hid hC
  clear hM hR hC
  cases hwb : isWB m
  · have HF := Lib.hid (ret_mm (mmR_no (m := m) (p := p) (q := q) (fun h => by rw [hwb] at h; cases h.1)))
    rw [hwb] at hw
    clear hwb hc
    go_enter Try.func53, Try.ntmps53
    go_wp2_with fail
    with_reducible refine hw.mono ?_
    rintro en w1 ⟨rfl, B1⟩
    go_wp2
    go_ret2
    exact ⟨HF.out, B1⟩
  rw [hwb] at hw
  cases hcb : circB (m.length : Int) p q
  · have HF := Lib.hid (ret_mm (mmR_no (m := m) (p := p) (q := q) (fun h => by rw [hcb] at h; cases h.2)))
    rw [hcb] at hc
    have HCC := Lib.hid hc
    clear hwb hcb hc
    go_enter Try.func53, Try.ntmps53
    go_wp2_with fail
    with_reducible refine hw.mono ?_
    rintro en w1 ⟨rfl, B1⟩
    have S1 := B1.size
    go_wp2_with fail
    with_reducible refine (HCC.out _ B1).mono ?_
    rintro en w2 ⟨rfl, B2⟩
    go_wp2
    go_ret2
    exact ⟨HF.out, B1.trans (B2.mono S1)⟩
  rw [hcb] at hc
  have HF := Lib.hid (ret_mm (mmR_yes hwb hcb))
  have hW := isW_iff.1 hwb
  obtain ⟨hl, h0, h2, hpr, hqr⟩ := circ_parts hcb
  have HNEG := Lib.hid (fun W (hB : Below w.heap.size w W) => spec_neg _ _ _ m p q W hW.2.1 hW.1 (by omega) (by omega) hpr hqr (HM.out.later hB) (HR.out.later hB) (HC.out.later hB))
  have hnv := negM_matV hW.2.1 (p := p) (q := q) (by omega) hl
  have hnd := neg_det (m := m) hl h0 h2
  have hdet := fun v W (h : ReadsII W v (negM m p q)) => spec_detAll v (negM m p q) W hnv h
  simp only [negM_length, hnd] at hdet
  have HDET := Lib.hid hdet
  have HCC := Lib.hid hc
  generalize negD m p q = ND at *
  clear hwb hcb hc hW hl h0 h2 hpr hqr hnv hnd hdet
  go_enter Try.func53, Try.ntmps53
  go_wp2_with fail
  with_reducible refine hw.mono ?_
  rintro en w1 ⟨rfl, B1⟩
  have S1 := B1.size
  go_wp2_with fail
  with_reducible refine (HCC.out _ B1).mono ?_
  rintro en w2 ⟨rfl, B2⟩
  have C2 := B1.trans (B2.mono S1)
  have S2 := C2.size
  clear B1 B2
  go_wp2_with fail
  with_reducible refine (HNEG.out _ C2).mono ?_
  rintro en w3 ⟨v3, rfl, o3, B3⟩
  have C3 := C2.trans (B3.mono S2)
  have S3 := C3.size
  have R3 := Lib.hid o3.reads
  clear o3 B3
  go_wp2_with fail
  with_reducible refine (HDET.out _ _ R3.out).mono ?_
  rintro en w4 ⟨rfl, B4⟩
  have C4 := C3.trans (B4.mono S3)
  clear B4
  go_wp2
  go_ret2
  exact ⟨HF.out, C4⟩
set_option maxRecDepth 8000 in
set_option maxHeartbeats 6400000 in
theorem impl_negMinor (v vr vc : Value) (m : MatI) (p q : List Int) (w : World) (hv : matV m) (hl : p.length = q.length) (h5 : p.length ≤ 4) (hpr : ∀ x ∈ p, 0 ≤ x ∧ x < (m.length : Int)) (hqr : ∀ x ∈ q, 0 ≤ x ∧ x < (m.length : Int)) (hM : ReadsII w v m) (hR : ReadsI w vr p) (hC : ReadsI w vc q) :
    Calls Try.prog 74 #[v, vr, vc] w fun e w' => e = .returned (.int .i64 (negD m p q)) ∧ Below w.heap.size w w' := by
  have hdet := impl_det v m hv p q vr vc w hM hR hC hl.symm (by omega) hpr hqr
  have hbd := detD_le5 hv p q (by omega) hl
  obtain ⟨pm, cm, rfl, _, _⟩ := hM.shape
  obtain ⟨pr, cr, rfl, _, _⟩ := hR.shape
  obtain ⟨pc, cc, rfl, _, _⟩ := hC.shape
  obtain ⟨DD, hDD⟩ : ∃ DD, DD = detD m p q := ⟨_, rfl⟩
  rw [← hDD] at hdet hbd
  have HD := Lib.hid hdet
  have hmod : ((p.length : Int)).tmod 2 = ((p.length % 2 : Nat) : Int) := by rw [show (2 : Int) = ((2 : Nat) : Int) from rfl, ← Int.ofNat_tmod]
  have hr2 : p.length % 2 = 0 ∨ p.length % 2 = 1 := by omega
  rcases hr2 with e | e
  · have HRT : Hid (Ending.returned (.int .i64 DD) = .returned (.int .i64 (negD m p q))) := Lib.hid (by unfold negD; rw [if_neg (by omega), hDD])
    rw [e] at hmod
    clear hdet hDD hM hR hC hpr hqr hl e
    generalize p.length = L at *
    go_enter Try.func74, Try.ntmps74
    go_wp2_with fail
    with_reducible refine HD.out.mono ?_
    rintro en w1 ⟨rfl, B1⟩
    go_wp2
    go_ret
    exact ⟨HRT.out, B1⟩
  · have HRT : Hid (Ending.returned (.int .i64 (-DD)) = .returned (.int .i64 (negD m p q))) := Lib.hid (by unfold negD; rw [if_pos e, hDD])
    have hng : IntKind.i64.wrap (-DD) = -DD := IntWalk.i64_in _ (by omega)
    have hng2 : wrap64 (-DD) = -DD := by unfold wrap64; omega
    rw [e] at hmod
    clear hdet hDD hM hR hC hpr hqr hl e
    generalize p.length = L at *
    go_enter Try.func74, Try.ntmps74
    go_wp2_with fail
    with_reducible refine HD.out.mono ?_
    rintro en w1 ⟨rfl, B1⟩
    go_wp2
    go_ret
    exact ⟨HRT.out, B1⟩
set_option maxRecDepth 8000 in
set_option maxHeartbeats 6400000 in
theorem impl_minMat (v vr vc : Value) (m : MatI) (p q : List Int) (w : World) (hM : ReadsII w v m) (hR : ReadsI w vr p) (hC : ReadsI w vc q) (hp1 : p.length ≤ 1048576) (hq1 : q.length ≤ 1048576) :
    Calls Try.prog 54 #[v, vr, vc] w fun e w' => e = .returned (.tuple #[.int .i64 (mmR m p q).1, .bool (mmR m p q).2]) ∧ Below w.heap.size w w' := by
  obtain ⟨pm, cm, rfl, _, _⟩ := hM.shape
  obtain ⟨pr, cr, rfl, _, _⟩ := hR.shape
  obtain ⟨pc, cc, rfl, _, _⟩ := hC.shape
  have hw := impl_isW _ m w hM
  have hc := fun W (hB : Below w.heap.size w W) => impl_circ (m.length : Int) _ _ p q W hp1 hq1 (hR.later hB) (hC.later hB)
  have HM := Lib.hid hM; have HR := Lib.hid hR; have HC := Lib.hid hC
  clear hM hR hC
  cases hwb : isWB m
  · have HF := Lib.hid (ret_mm (mmR_no (m := m) (p := p) (q := q) (fun h => by rw [hwb] at h; cases h.1)))
    rw [hwb] at hw
    clear hwb hc
    go_enter Try.func54, Try.ntmps54
    go_wp2_with fail
    with_reducible refine hw.mono ?_
    rintro en w1 ⟨rfl, B1⟩
    go_wp2
    go_ret2
    exact ⟨HF.out, B1⟩
  rw [hwb] at hw
  cases hcb : circB (m.length : Int) p q
  · have HF := Lib.hid (ret_mm (mmR_no (m := m) (p := p) (q := q) (fun h => by rw [hcb] at h; cases h.2)))
    rw [hcb] at hc
    have HCC := Lib.hid hc
    clear hwb hcb hc
    go_enter Try.func54, Try.ntmps54
    go_wp2_with fail
    with_reducible refine hw.mono ?_
    rintro en w1 ⟨rfl, B1⟩
    have S1 := B1.size
    go_wp2_with fail
    with_reducible refine (HCC.out _ B1).mono ?_
    rintro en w2 ⟨rfl, B2⟩
    go_wp2
    go_ret2
    exact ⟨HF.out, B1.trans (B2.mono S1)⟩
  rw [hcb] at hc
  have HF := Lib.hid (ret_mm (mmR_yes hwb hcb))
  have hW := isW_iff.1 hwb
  obtain ⟨hl, h0, h2, hpr, hqr⟩ := circ_parts hcb
  have HNEG := Lib.hid (fun W (hB : Below w.heap.size w W) => impl_negMinor _ _ _ m p q W hW.2.1 hl (by omega) hpr hqr (HM.out.later hB) (HR.out.later hB) (HC.out.later hB))
  have HCC := Lib.hid hc
  generalize negD m p q = ND at *
  clear hwb hcb hc hW hl h0 h2 hpr hqr
  go_enter Try.func54, Try.ntmps54
  go_wp2_with fail
  with_reducible refine hw.mono ?_
  rintro en w1 ⟨rfl, B1⟩
  have S1 := B1.size
  go_wp2_with fail
  with_reducible refine (HCC.out _ B1).mono ?_
  rintro en w2 ⟨rfl, B2⟩
  have C2 := B1.trans (B2.mono S1)
  have S2 := C2.size
  clear B1 B2
  go_wp2_with fail
  with_reducible refine (HNEG.out _ C2).mono ?_
  rintro en w3 ⟨rfl, B3⟩
  have C3 := C2.trans (B3.mono S2)
  clear B3
  go_wp2
  go_ret2
  exact ⟨HF.out, C3⟩
end Go.Proofs.Ytpfnlnllaapjeaa
