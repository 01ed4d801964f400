/-
  FormatRatio, in the model and in the program: the numerator, a slash and the denominator where it is not 1.
-/
import Derived.Test.YtlggmlojmdaggaaDoorFormatIntLaw
import Derived.Test.YtlggmlojmdaggaaDoorRatioOf
import Derived.Deep.RegionHeld3
namespace Go.Proofs.YtlggmlojmdaggaaDoor
open Go.RowKit

/-- The text of a fraction. -/
def fmtR (n d : Int) : List UInt8 := if rOk n d = true then (if d = 1 then Lib.itoa n else Lib.itoa n ++ [47] ++ Lib.itoa d) else []
theorem fmtR_no {n d : Int} (h : rOk n d = false) : fmtR n d = [] := by unfold fmtR; rw [if_neg (by rw [h]; simp)]
theorem fmtR_one {n d : Int} (h : rOk n d = true) (k : d = 1) : fmtR n d = Lib.itoa n := by unfold fmtR; rw [if_pos h, if_pos k]
theorem fmtR_two {n d : Int} (h : rOk n d = true) (k : ¬ d = 1) : fmtR n d = Lib.itoa n ++ 47 :: Lib.itoa d := by unfold fmtR; rw [if_pos h, if_neg k]; simp
theorem itoa_len20 (n : Int) (h0 : -9223372036854775808 ≤ n) (h1 : n ≤ 9223372036854775807) : (Lib.itoa n).length ≤ 20 := by
  by_cases h : n < 0
  · exact itoa_len n h0 h
  · rw [Lib.itoa, if_neg h]
    have := decDigits_len n.toNat 18 (by omega)
    omega
theorem ret_strL {a b : List UInt8} (h : a = b) : Ending.returned (.string ⟨a.toArray⟩) = .returned (.string ⟨b.toArray⟩) := by rw [h]
theorem add_lists (W : World) (a b : List UInt8) (h : a.length + b.length ≤ 1000) : (Op.stringOp .add ⟨a.toArray⟩ ⟨b.toArray⟩).run Tryd.prog W = .ok (.string ⟨(a ++ b).toArray⟩) W := by
  rw [run_string_add_sum W _ _ (by rw [show (ByteArray.mk a.toArray).size = a.length from by show a.toArray.size = _; simp, show (ByteArray.mk b.toArray).size = b.length from by show b.toArray.size = _; simp]; omega)]
  rw [ByteArray.mk_append_mk]
  try simp
theorem one_keep {B : Nat} {x0 x1 : Value} {w wa wb : World} (hb : Below wa.heap.size wa wb)
    (h : wa.cell? ⟨B, 0, none⟩ = some x0 ∧ wa.cell? ⟨B, 1, none⟩ = some x1 ∧ B < wa.heap.size ∧ Below B w wa) :
    wb.cell? ⟨B, 0, none⟩ = some x0 ∧ wb.cell? ⟨B, 1, none⟩ = some x1 ∧ B < wb.heap.size ∧ Below B w wb := by
  obtain ⟨a, b, s, hB⟩ := h
  have := hb.size
  exact ⟨(hb.cell (p := ⟨B, 0, none⟩) s).trans a, (hb.cell (p := ⟨B, 1, none⟩) s).trans b, by omega, hB.trans (hb.mono (by omega))⟩

set_option maxHeartbeats 1600000 in
theorem spec_fmtR (n d : Int) (w : World) (n0 : -9223372036854775808 ≤ n) (n1 : n ≤ 9223372036854775807) (d0 : -9223372036854775808 ≤ d) (d1 : d ≤ 9223372036854775807) :
    Calls Tryd.prog 5 #[.agg #[.int .i64 n, .int .i64 d]] w fun e w' => e = .returned (.string ⟨(fmtR n d).toArray⟩) ∧ Below w.heap.size w w' := by
  by_cases hk : rOk n d = true
  case neg =>
    have hk : rOk n d = false := by simpa using hk
    have HE := Lib.hid (fmtR_no hk)
    go_enter Tryd.func5, Tryd.ntmps5
    go_wp2_with fail
    refine (spec_rOk _ _ _ n0 n1 d0 d1).mono ?_
    rintro e w1 ⟨rfl, B1⟩
    obtain ⟨hc1, hf1⟩ := bcell B1
    have S1 := B1.size
    try simp at S1
    try (have _L1w : w.heap.size < w1.heap.size := by omega)
    have _M1w : w.heap.size ≤ w1.heap.size := by omega
    try (have _P1w_1 : w.heap.size + 1 < w1.heap.size := by omega)
    try (have _P1w_2 : w.heap.size + 1 + 1 < w1.heap.size := by omega)
    try (have _P1w_3 : w.heap.size + 1 + 1 + 1 < w1.heap.size := by omega)
    have _ : w1.cell? ⟨w.heap.size, 0, none⟩ = some (.int .i64 n) := by rw [hc1 (w.heap.size) 0 (by first | omega | (simp; done) | (simp; omega))]; first | assumption | (simp; done) | simp [go_sem]
    have _ : w1.frozen? ⟨w.heap.size, 0, none⟩ = false := by rw [hf1 (w.heap.size) 0 (by first | omega | (simp; done) | (simp; omega))]; first | assumption | (simp; done) | simp [go_sem]
    have _ : w1.cell? ⟨w.heap.size, 1, none⟩ = some (.int .i64 d) := by rw [hc1 (w.heap.size) 1 (by first | omega | (simp; done) | (simp; omega))]; first | assumption | (simp; done) | simp [go_sem]
    have _ : w1.frozen? ⟨w.heap.size, 1, none⟩ = false := by rw [hf1 (w.heap.size) 1 (by first | omega | (simp; done) | (simp; omega))]; first | assumption | (simp; done) | simp [go_sem]
    clear hc1 hf1
    go_wp2
    go_ret
    exact ⟨ret_strL HE.out.symm, by (repeat (first | exact Below.refl _ _ | (refine Below.setCell ?_ (by (first | exact Nat.le_refl _ | omega | (simp <;> omega) | simp)) _) | (refine Below.alloc ?_ (by (first | exact Nat.le_refl _ | omega | (simp <;> omega) | simp)) _) | (refine below_draws ?_ _) | exact B1 | (refine Below.trans ?_ (Below.mono B1 (by (first | exact Nat.le_refl _ | omega | (simp <;> omega) | simp))))))⟩
  obtain ⟨c0, c1, c2, c3, _⟩ := rOk_iff.1 hk
  by_cases h1 : d = 1
  · have HE := Lib.hid (fmtR_one hk h1)
    have h1b : (d == 1) = true := by simpa using h1
    clear h1
    go_enter Tryd.func5, Tryd.ntmps5
    go_wp2_with fail
    refine (spec_rOk _ _ _ n0 n1 d0 d1).mono ?_
    rintro e w1 ⟨rfl, B1⟩
    obtain ⟨hc1, hf1⟩ := bcell B1
    have S1 := B1.size
    try simp at S1
    try (have _L1w : w.heap.size < w1.heap.size := by omega)
    have _M1w : w.heap.size ≤ w1.heap.size := by omega
    try (have _P1w_1 : w.heap.size + 1 < w1.heap.size := by omega)
    try (have _P1w_2 : w.heap.size + 1 + 1 < w1.heap.size := by omega)
    try (have _P1w_3 : w.heap.size + 1 + 1 + 1 < w1.heap.size := by omega)
    have _ : w1.cell? ⟨w.heap.size, 0, none⟩ = some (.int .i64 n) := by rw [hc1 (w.heap.size) 0 (by first | omega | (simp; done) | (simp; omega))]; first | assumption | (simp; done) | simp [go_sem]
    have _ : w1.frozen? ⟨w.heap.size, 0, none⟩ = false := by rw [hf1 (w.heap.size) 0 (by first | omega | (simp; done) | (simp; omega))]; first | assumption | (simp; done) | simp [go_sem]
    have _ : w1.cell? ⟨w.heap.size, 1, none⟩ = some (.int .i64 d) := by rw [hc1 (w.heap.size) 1 (by first | omega | (simp; done) | (simp; omega))]; first | assumption | (simp; done) | simp [go_sem]
    have _ : w1.frozen? ⟨w.heap.size, 1, none⟩ = false := by rw [hf1 (w.heap.size) 1 (by first | omega | (simp; done) | (simp; omega))]; first | assumption | (simp; done) | simp [go_sem]
    clear hc1 hf1
    have B1' := ((Below.refl _ _).alloc (Nat.le_refl _) _).trans (B1.mono (by simp))
    go_wp2_with fail
    refine (spec_formatInt n (by omega) (by omega) _).mono ?_
    rintro e w2 ⟨rfl, B2⟩
    go_wp2
    go_ret
    exact ⟨ret_strL HE.out.symm, by (repeat (first | exact Below.refl _ _ | (refine Below.setCell ?_ (by (first | exact Nat.le_refl _ | omega | (simp <;> omega) | simp)) _) | (refine Below.alloc ?_ (by (first | exact Nat.le_refl _ | omega | (simp <;> omega) | simp)) _) | (refine below_draws ?_ _) | exact B1 | (refine Below.trans ?_ (Below.mono B1 (by (first | exact Nat.le_refl _ | omega | (simp <;> omega) | simp)))) | exact B2 | (refine Below.trans ?_ (Below.mono B2 (by (first | exact Nat.le_refl _ | omega | (simp <;> omega) | simp))))))⟩
  · have HE := Lib.hid (fmtR_two hk h1)
    have h1b : (d == 1) = false := by simpa using h1
    have l1 := itoa_len20 n n0 n1
    have l2 := itoa_len20 d d0 d1
    have hadd1 : ∀ W, (Op.stringOp .add ⟨(Lib.itoa n).toArray⟩ ⟨#[47]⟩).run Tryd.prog W = .ok (.string ⟨(Lib.itoa n ++ [47]).toArray⟩) W := fun W => add_lists W (Lib.itoa n) [47] (by simp; omega)
    have hadd2 : ∀ W, (Op.stringOp .add ⟨(Lib.itoa n ++ [47]).toArray⟩ ⟨(Lib.itoa d).toArray⟩).run Tryd.prog W = .ok (.string ⟨(Lib.itoa n ++ [47] ++ Lib.itoa d).toArray⟩) W := fun W => add_lists W _ _ (by simp; omega)
    clear h1 l1 l2
    go_enter Tryd.func5, Tryd.ntmps5
    go_wp2_with fail
    refine (spec_rOk _ _ _ n0 n1 d0 d1).mono ?_
    rintro e w1 ⟨rfl, B1⟩
    obtain ⟨hc1, hf1⟩ := bcell B1
    have S1 := B1.size
    try simp at S1
    try (have _L1w : w.heap.size < w1.heap.size := by omega)
    have _M1w : w.heap.size ≤ w1.heap.size := by omega
    try (have _P1w_1 : w.heap.size + 1 < w1.heap.size := by omega)
    try (have _P1w_2 : w.heap.size + 1 + 1 < w1.heap.size := by omega)
    try (have _P1w_3 : w.heap.size + 1 + 1 + 1 < w1.heap.size := by omega)
    have _ : w1.cell? ⟨w.heap.size, 0, none⟩ = some (.int .i64 n) := by rw [hc1 (w.heap.size) 0 (by first | omega | (simp; done) | (simp; omega))]; first | assumption | (simp; done) | simp [go_sem]
    have _ : w1.frozen? ⟨w.heap.size, 0, none⟩ = false := by rw [hf1 (w.heap.size) 0 (by first | omega | (simp; done) | (simp; omega))]; first | assumption | (simp; done) | simp [go_sem]
    have _ : w1.cell? ⟨w.heap.size, 1, none⟩ = some (.int .i64 d) := by rw [hc1 (w.heap.size) 1 (by first | omega | (simp; done) | (simp; omega))]; first | assumption | (simp; done) | simp [go_sem]
    have _ : w1.frozen? ⟨w.heap.size, 1, none⟩ = false := by rw [hf1 (w.heap.size) 1 (by first | omega | (simp; done) | (simp; omega))]; first | assumption | (simp; done) | simp [go_sem]
    clear hc1 hf1
    have B1' := ((Below.refl _ _).alloc (Nat.le_refl _) _).trans (B1.mono (by simp))
    have hS : w1.drew.cell? ⟨w.heap.size, 0, none⟩ = some (.int .i64 n) ∧ w1.drew.cell? ⟨w.heap.size, 1, none⟩ = some (.int .i64 d) ∧ w.heap.size < w1.drew.heap.size ∧ Below w.heap.size w w1.drew := ⟨by assumption, by assumption, by assumption, B1'.drew⟩
    go_wp2
    go_region_held3 (fun w' => w'.cell? ⟨w.heap.size, 0, none⟩ = some (.int .i64 n) ∧ w'.cell? ⟨w.heap.size, 1, none⟩ = some (.int .i64 d) ∧ w.heap.size < w'.heap.size ∧ Below w.heap.size w w') (first | exact hS) (first | (go_at_call 12; (with_reducible refine (spec_formatInt n (by omega) (by omega) _).mono ?_); rintro e w2 ⟨rfl, B2⟩; replace hS := one_keep B2 hS) | (go_at_call 12; (with_reducible refine (spec_formatInt d (by omega) (by omega) _).mono ?_); rintro e w2 ⟨rfl, B2⟩; replace hS := one_keep B2 hS))
    go_wp2
    go_ret
    rename_i hS
    exact ⟨ret_strL HE.out.symm, hS.2.2.2⟩

set_option maxHeartbeats 1600000 in
theorem impl_fmtR (n d : Int) (w : World) (htab : Lib.TabIs Tryd.prog w "internal/strconv.uint64pow10" .u64 Lib.pow10Tab) (n0 : -9223372036854775808 ≤ n) (n1 : n ≤ 9223372036854775807) (d0 : -9223372036854775808 ≤ d) (d1 : d ≤ 9223372036854775807) :
    Calls Tryd.prog 7 #[.agg #[.int .i64 n, .int .i64 d]] w fun e w' => e = .returned (.string ⟨(fmtR n d).toArray⟩) ∧ Below w.heap.size w w' := by
  have HLT := tabIs_lt gPow htab
  have HT := Lib.hid htab
  clear htab
  by_cases hk : rOk n d = true
  case neg =>
    have hk : rOk n d = false := by simpa using hk
    have HE := Lib.hid (fmtR_no hk)
    go_enter Tryd.func7, Tryd.ntmps7
    go_wp2_with fail
    refine (impl_rOk _ _ _ n0 n1 d0 d1).mono ?_
    rintro e w1 ⟨rfl, B1⟩
    obtain ⟨hc1, hf1⟩ := bcell B1
    have S1 := B1.size
    try simp at S1
    try (have _L1w : w.heap.size < w1.heap.size := by omega)
    have _M1w : w.heap.size ≤ w1.heap.size := by omega
    try (have _P1w_1 : w.heap.size + 1 < w1.heap.size := by omega)
    try (have _P1w_2 : w.heap.size + 1 + 1 < w1.heap.size := by omega)
    try (have _P1w_3 : w.heap.size + 1 + 1 + 1 < w1.heap.size := by omega)
    have _ : w1.cell? ⟨w.heap.size, 0, none⟩ = some (.int .i64 n) := by rw [hc1 (w.heap.size) 0 (by first | omega | (simp; done) | (simp; omega))]; first | assumption | (simp; done) | simp [go_sem]
    have _ : w1.frozen? ⟨w.heap.size, 0, none⟩ = false := by rw [hf1 (w.heap.size) 0 (by first | omega | (simp; done) | (simp; omega))]; first | assumption | (simp; done) | simp [go_sem]
    have _ : w1.cell? ⟨w.heap.size, 1, none⟩ = some (.int .i64 d) := by rw [hc1 (w.heap.size) 1 (by first | omega | (simp; done) | (simp; omega))]; first | assumption | (simp; done) | simp [go_sem]
    have _ : w1.frozen? ⟨w.heap.size, 1, none⟩ = false := by rw [hf1 (w.heap.size) 1 (by first | omega | (simp; done) | (simp; omega))]; first | assumption | (simp; done) | simp [go_sem]
    clear hc1 hf1
    go_wp2
    go_ret
    exact ⟨ret_strL HE.out.symm, by (repeat (first | exact Below.refl _ _ | (refine Below.setCell ?_ (by (first | exact Nat.le_refl _ | omega | (simp <;> omega) | simp)) _) | (refine Below.alloc ?_ (by (first | exact Nat.le_refl _ | omega | (simp <;> omega) | simp)) _) | (refine below_draws ?_ _) | exact B1 | (refine Below.trans ?_ (Below.mono B1 (by (first | exact Nat.le_refl _ | omega | (simp <;> omega) | simp))))))⟩
  obtain ⟨c0, c1, c2, c3, _⟩ := rOk_iff.1 hk
  by_cases h1 : d = 1
  · have HE := Lib.hid (fmtR_one hk h1)
    have h1b : (d == 1) = true := by simpa using h1
    clear h1
    go_enter Tryd.func7, Tryd.ntmps7
    go_wp2_with fail
    refine (impl_rOk _ _ _ n0 n1 d0 d1).mono ?_
    rintro e w1 ⟨rfl, B1⟩
    obtain ⟨hc1, hf1⟩ := bcell B1
    have S1 := B1.size
    try simp at S1
    try (have _L1w : w.heap.size < w1.heap.size := by omega)
    have _M1w : w.heap.size ≤ w1.heap.size := by omega
    try (have _P1w_1 : w.heap.size + 1 < w1.heap.size := by omega)
    try (have _P1w_2 : w.heap.size + 1 + 1 < w1.heap.size := by omega)
    try (have _P1w_3 : w.heap.size + 1 + 1 + 1 < w1.heap.size := by omega)
    have _ : w1.cell? ⟨w.heap.size, 0, none⟩ = some (.int .i64 n) := by rw [hc1 (w.heap.size) 0 (by first | omega | (simp; done) | (simp; omega))]; first | assumption | (simp; done) | simp [go_sem]
    have _ : w1.frozen? ⟨w.heap.size, 0, none⟩ = false := by rw [hf1 (w.heap.size) 0 (by first | omega | (simp; done) | (simp; omega))]; first | assumption | (simp; done) | simp [go_sem]
    have _ : w1.cell? ⟨w.heap.size, 1, none⟩ = some (.int .i64 d) := by rw [hc1 (w.heap.size) 1 (by first | omega | (simp; done) | (simp; omega))]; first | assumption | (simp; done) | simp [go_sem]
    have _ : w1.frozen? ⟨w.heap.size, 1, none⟩ = false := by rw [hf1 (w.heap.size) 1 (by first | omega | (simp; done) | (simp; omega))]; first | assumption | (simp; done) | simp [go_sem]
    clear hc1 hf1
    have B1' := ((Below.refl _ _).alloc (Nat.le_refl _) _).trans (B1.mono (by simp))
    go_wp2_with fail
    refine (impl_formatInt n (by omega) (by omega) _ (tabIs_below B1' gPow HLT HT.out)).mono ?_
    rintro e w2 ⟨rfl, B2⟩
    go_wp2
    go_ret
    exact ⟨ret_strL HE.out.symm, by (repeat (first | exact Below.refl _ _ | (refine Below.setCell ?_ (by (first | exact Nat.le_refl _ | omega | (simp <;> omega) | simp)) _) | (refine Below.alloc ?_ (by (first | exact Nat.le_refl _ | omega | (simp <;> omega) | simp)) _) | (refine below_draws ?_ _) | exact B1 | (refine Below.trans ?_ (Below.mono B1 (by (first | exact Nat.le_refl _ | omega | (simp <;> omega) | simp)))) | exact B2 | (refine Below.trans ?_ (Below.mono B2 (by (first | exact Nat.le_refl _ | omega | (simp <;> omega) | simp))))))⟩
  · have HE := Lib.hid (fmtR_two hk h1)
    have h1b : (d == 1) = false := by simpa using h1
    have l1 := itoa_len20 n n0 n1
    have l2 := itoa_len20 d d0 d1
    have hadd1 : ∀ W, (Op.stringOp .add ⟨(Lib.itoa n).toArray⟩ ⟨#[47]⟩).run Tryd.prog W = .ok (.string ⟨(Lib.itoa n ++ [47]).toArray⟩) W := fun W => add_lists W (Lib.itoa n) [47] (by simp; omega)
    have hadd2 : ∀ W, (Op.stringOp .add ⟨(Lib.itoa n ++ [47]).toArray⟩ ⟨(Lib.itoa d).toArray⟩).run Tryd.prog W = .ok (.string ⟨(Lib.itoa n ++ [47] ++ Lib.itoa d).toArray⟩) W := fun W => add_lists W _ _ (by simp; omega)
    clear h1 l1 l2
    go_enter Tryd.func7, Tryd.ntmps7
    go_wp2_with fail
    refine (impl_rOk _ _ _ n0 n1 d0 d1).mono ?_
    rintro e w1 ⟨rfl, B1⟩
    obtain ⟨hc1, hf1⟩ := bcell B1
    have S1 := B1.size
    try simp at S1
    try (have _L1w : w.heap.size < w1.heap.size := by omega)
    have _M1w : w.heap.size ≤ w1.heap.size := by omega
    try (have _P1w_1 : w.heap.size + 1 < w1.heap.size := by omega)
    try (have _P1w_2 : w.heap.size + 1 + 1 < w1.heap.size := by omega)
    try (have _P1w_3 : w.heap.size + 1 + 1 + 1 < w1.heap.size := by omega)
    have _ : w1.cell? ⟨w.heap.size, 0, none⟩ = some (.int .i64 n) := by rw [hc1 (w.heap.size) 0 (by first | omega | (simp; done) | (simp; omega))]; first | assumption | (simp; done) | simp [go_sem]
    have _ : w1.frozen? ⟨w.heap.size, 0, none⟩ = false := by rw [hf1 (w.heap.size) 0 (by first | omega | (simp; done) | (simp; omega))]; first | assumption | (simp; done) | simp [go_sem]
    have _ : w1.cell? ⟨w.heap.size, 1, none⟩ = some (.int .i64 d) := by rw [hc1 (w.heap.size) 1 (by first | omega | (simp; done) | (simp; omega))]; first | assumption | (simp; done) | simp [go_sem]
    have _ : w1.frozen? ⟨w.heap.size, 1, none⟩ = false := by rw [hf1 (w.heap.size) 1 (by first | omega | (simp; done) | (simp; omega))]; first | assumption | (simp; done) | simp [go_sem]
    clear hc1 hf1
    have B1' := ((Below.refl _ _).alloc (Nat.le_refl _) _).trans (B1.mono (by simp))
    have hS : w1.drew.cell? ⟨w.heap.size, 0, none⟩ = some (.int .i64 n) ∧ w1.drew.cell? ⟨w.heap.size, 1, none⟩ = some (.int .i64 d) ∧ w.heap.size < w1.drew.heap.size ∧ Below w.heap.size w w1.drew := ⟨by assumption, by assumption, by assumption, B1'.drew⟩
    go_wp2
    go_region_held3 (fun w' => w'.cell? ⟨w.heap.size, 0, none⟩ = some (.int .i64 n) ∧ w'.cell? ⟨w.heap.size, 1, none⟩ = some (.int .i64 d) ∧ w.heap.size < w'.heap.size ∧ Below w.heap.size w w') (first | exact hS) (first | (go_at_call 14; (with_reducible refine (impl_formatInt n (by omega) (by omega) _ (tabIs_below hS.2.2.2 gPow HLT HT.out)).mono ?_); rintro e w2 ⟨rfl, B2⟩; replace hS := one_keep B2 hS) | (go_at_call 14; (with_reducible refine (impl_formatInt d (by omega) (by omega) _ (tabIs_below hS.2.2.2 gPow HLT HT.out)).mono ?_); rintro e w2 ⟨rfl, B2⟩; replace hS := one_keep B2 hS))
    go_wp2
    go_ret
    rename_i hS
    exact ⟨ret_strL HE.out.symm, hS.2.2.2⟩

end Go.Proofs.YtlggmlojmdaggaaDoor
