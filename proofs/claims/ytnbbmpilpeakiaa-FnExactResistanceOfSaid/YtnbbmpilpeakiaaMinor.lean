/-
  MinorOf, in the model and in the program.
-/
import Derived.Test.YtnbbmpilpeakiaaDetTop
import Derived.Test.YtnbbmpilpeakiaaLinesOk
namespace Go.Proofs.Ytnbbmpilpeakiaa
open Go.RowKit

theorem ret_ib {a b : Int} {c d : Bool} (h : (a, c) = (b, d)) : Ending.returned (.tuple #[.int .i64 a, .bool c]) = .returned (.tuple #[.int .i64 b, .bool d]) := by
  cases h; rfl
/-- What MinorOf answers. -/
noncomputable def minR (m : MatI) (rows cols : List Int) : Int × Bool :=
  if matB m = true ∧ rows.length = cols.length ∧ linB m.length rows = true ∧ linB m.length cols = true then (detD m rows cols, true) else (0, false)
set_option maxHeartbeats 3200000 in
theorem impl_minor (v vr vc : Value) (m : MatI) (rows cols : List Int) (w : World) (hM : ReadsII w v m) (hR : ReadsI w vr rows) (hC : ReadsI w vc cols) :
    Calls Try.prog 89 #[v, vr, vc] w fun e w' => e = .returned (.tuple #[.int .i64 (minR m rows cols).1, .bool (minR m rows cols).2]) ∧ Below w.heap.size w w' := by
  obtain ⟨pm, cm, rfl, _, _⟩ := hM.shape
  obtain ⟨pr, cr, rfl, _, _⟩ := hR.shape
  obtain ⟨pc, cc, rfl, _, _⟩ := hC.shape
  have HM := Lib.hid hM; clear hM
  have HR := Lib.hid hR; clear hR
  have HC := Lib.hid hC; clear hC
  cases hm : matB m
  · have HF : Hid (minR m rows cols = (0, false)) := Lib.hid (by simp [minR, hm])
    have hc := impl_matrix _ m w HM.out
    rw [hm] at hc
    clear hm
    go_enter Try.func89, Try.ntmps89
    go_wp2_with fail
    with_reducible refine hc.mono ?_
    rintro en w1 ⟨rfl, rfl⟩
    clear hc
    go_wp2
    go_ret2
    exact ⟨ret_ib (by rw [HF.out]), by (repeat (first | exact Below.refl _ _ | (refine Below.setCell ?_ (by (first | exact Nat.le_refl _ | omega | (simp <;> omega) | simp)) _) | (refine Below.alloc ?_ (by (first | exact Nat.le_refl _ | omega | (simp <;> omega) | simp)) _) | (refine below_draws ?_ _)))⟩
  have hc0 := impl_matrix _ m w HM.out
  rw [hm] at hc0
  have hv := matB_iff.1 hm
  have h5 := hv.1
  by_cases hl : rows.length = cols.length
  case neg =>
    have HF : Hid (minR m rows cols = (0, false)) := Lib.hid (by simp [minR, hl])
    have hne : ((rows.length : Int) == (cols.length : Int)) = false := by simp; omega
    have hne2 : ¬ ((rows.length : Int) = (cols.length : Int)) := by omega
    clear hl hm hv
    go_enter Try.func89, Try.ntmps89
    go_wp2_with fail
    with_reducible refine hc0.mono ?_
    rintro en w1 ⟨rfl, rfl⟩
    clear hc0
    go_wp2
    go_ret2
    exact ⟨ret_ib (by rw [HF.out]), by (repeat (first | exact Below.refl _ _ | (refine Below.setCell ?_ (by (first | exact Nat.le_refl _ | omega | (simp <;> omega) | simp)) _) | (refine Below.alloc ?_ (by (first | exact Nat.le_refl _ | omega | (simp <;> omega) | simp)) _) | (refine below_draws ?_ _)))⟩
  have heq : ((rows.length : Int) == (cols.length : Int)) = true := by simp; omega
  cases hr : linB m.length rows
  · have HF : Hid (minR m rows cols = (0, false)) := Lib.hid (by simp [minR, hr])
    have hc1 := impl_lines _ rows m.length h5 w HR.out
    rw [hr] at hc1
    rw [hl] at hc1 heq ⊢
    clear hl hm hv hr
    go_enter Try.func89, Try.ntmps89
    go_wp2_with fail
    with_reducible refine hc0.mono ?_
    rintro en w1 ⟨rfl, rfl⟩
    clear hc0
    go_wp2_with fail
    with_reducible refine hc1.mono ?_
    rintro en w2 ⟨rfl, B2⟩
    have S2 := B2.size
    clear hc1
    go_wp2
    go_ret2
    exact ⟨ret_ib (by rw [HF.out]), by (repeat (first | exact Below.refl _ _ | (refine Below.setCell ?_ (by (first | exact Nat.le_refl _ | omega | (simp <;> omega) | simp)) _) | (refine Below.alloc ?_ (by (first | exact Nat.le_refl _ | omega | (simp <;> omega) | simp)) _) | (refine below_draws ?_ _) | exact B2 | (refine Below.trans ?_ (Below.mono B2 (by (first | exact Nat.le_refl _ | omega | (simp <;> omega) | simp))))))⟩
  have hc1 := impl_lines _ rows m.length h5 w HR.out
  rw [hr] at hc1
  have hc2 := fun (w' : World) (hb : Below w.heap.size w w') => impl_lines _ cols m.length h5 w' (HC.out.later hb)
  cases hcc : linB m.length cols
  · have HF : Hid (minR m rows cols = (0, false)) := Lib.hid (by simp [minR, hcc])
    rw [hcc] at hc2
    rw [hl] at hc1 heq ⊢
    clear hl hm hv hr hcc
    go_enter Try.func89, Try.ntmps89
    go_wp2_with fail
    with_reducible refine hc0.mono ?_
    rintro en w1 ⟨rfl, rfl⟩
    clear hc0
    go_wp2_with fail
    with_reducible refine hc1.mono ?_
    rintro en w2 ⟨rfl, B2⟩
    have S2 := B2.size
    clear hc1
    go_wp2_with fail
    with_reducible refine (hc2 _ B2).mono ?_
    rintro en w3 ⟨rfl, B3⟩
    have S3 := B3.size
    clear hc2
    go_wp2
    go_ret2
    exact ⟨ret_ib (by rw [HF.out]), by (repeat (first | exact Below.refl _ _ | (refine Below.setCell ?_ (by (first | exact Nat.le_refl _ | omega | (simp <;> omega) | simp)) _) | (refine Below.alloc ?_ (by (first | exact Nat.le_refl _ | omega | (simp <;> omega) | simp)) _) | (refine below_draws ?_ _) | exact B2 | (refine Below.trans ?_ (Below.mono B2 (by (first | exact Nat.le_refl _ | omega | (simp <;> omega) | simp)))) | exact B3 | (refine Below.trans ?_ (Below.mono B3 (by (first | exact Nat.le_refl _ | omega | (simp <;> omega) | simp))))))⟩
  have HF : Hid (minR m rows cols = (detD m rows cols, true)) := Lib.hid (by simp [minR, hm, hl, hr, hcc])
  rw [hcc] at hc2
  have hlr := linB_iff.1 hr
  have hlc := linB_iff.1 hcc
  have hd := fun (w' : World) (hb : Below w.heap.size w w') => impl_det _ m hv rows cols _ _ w' (HM.out.later hb) (HR.out.later hb) (HC.out.later hb) hl.symm (by have := lin_len hlr; omega) hlr.1 hlc.1
  rw [hl] at hc1 hd heq ⊢
  clear hl hm hv hr hcc hlr hlc
  go_enter Try.func89, Try.ntmps89
  go_wp2_with fail
  with_reducible refine hc0.mono ?_
  rintro en w1 ⟨rfl, rfl⟩
  clear hc0
  go_wp2_with fail
  with_reducible refine hc1.mono ?_
  rintro en w2 ⟨rfl, B2⟩
  have S2 := B2.size
  clear hc1
  go_wp2_with fail
  with_reducible refine (hc2 _ B2).mono ?_
  rintro en w3 ⟨rfl, B3⟩
  have S3 := B3.size
  clear hc2
  go_wp2_with fail
  with_reducible refine (hd _ (B2.trans (B3.mono B2.size))).mono ?_
  rintro en w4 ⟨rfl, B4⟩
  have S4 := B4.size
  clear hd
  go_wp2
  go_ret2
  exact ⟨ret_ib (by rw [HF.out]), by (repeat (first | exact Below.refl _ _ | (refine Below.setCell ?_ (by (first | exact Nat.le_refl _ | omega | (simp <;> omega) | simp)) _) | (refine Below.alloc ?_ (by (first | exact Nat.le_refl _ | omega | (simp <;> omega) | simp)) _) | (refine below_draws ?_ _) | exact B2 | (refine Below.trans ?_ (Below.mono B2 (by (first | exact Nat.le_refl _ | omega | (simp <;> omega) | simp)))) | exact B3 | (refine Below.trans ?_ (Below.mono B3 (by (first | exact Nat.le_refl _ | omega | (simp <;> omega) | simp)))) | exact B4 | (refine Below.trans ?_ (Below.mono B4 (by (first | exact Nat.le_refl _ | omega | (simp <;> omega) | simp))))))⟩
end Go.Proofs.Ytnbbmpilpeakiaa
