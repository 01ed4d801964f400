/-
  ParseRatio of the model.
-/
import Derived.Test.YtlggmlojmdaggaaDoorParseRatio
namespace Go.Proofs.YtlggmlojmdaggaaDoor
open Go.RowKit

/-- A slice of at least one element that the call owns. -/
theorem owns_some' {w : World} {base : Nat} {e : TypeId} {v : Value} {m : Nat} {xs : List Value} (h : w.ownsRow base e 1 v (m + 1) xs) : ∃ g cap, v = .slice (some ⟨g, 0, none⟩) (m + 1 : Nat) cap ∧ m + 1 ≤ cap ∧ base ≤ g ∧ g < w.heap.size := by
  have hl := h.lt
  rcases h.2 with ⟨_, h0⟩ | ⟨g, cap, cur, hv, _, _, hn, _⟩
  · omega
  · subst hv
    have := hl g rfl
    exact ⟨g, cap, rfl, hn, this.1, this.2⟩

set_option maxHeartbeats 3200000 in
theorem spec_pR_none (s : ByteArray) (w : World) (hs : s.size ≤ 1048576) (hm : (47 : UInt8) ∉ s.data.toList) :
    Calls Tryd.prog 8 #[.string s] w fun e w' => e = .returned (.tuple #[.agg #[.int .i64 (pR s.data.toList).1, .int .i64 (pR s.data.toList).2.1], .bool (pR s.data.toList).2.2]) ∧ Below w.heap.size w w' := by
  obtain ⟨n, x, ha⟩ : ∃ n x, parseM s.data.toList = (n, x) := ⟨_, _, rfl⟩
  have hP := pR_eq (l := s.data.toList) (a := s.data.toList) (b := [49]) (by rw [cutL_none _ hm]) (by rw [cutL_none _ hm]; rfl) ha parse_one
  have HS := Lib.hid (split_none s hm)
  have hn := parseM_range s.data.toList
  rw [ha] at hn
  obtain ⟨n0, n1⟩ := hn
  obtain ⟨X0, hX⟩ : ∃ X0, s.extract 0 s.size = X0 := ⟨_, rfl⟩
  rw [hX] at HS
  have HA : Hid (parseM X0.data.toList = (n, x)) := Lib.hid (by rw [← hX, part_whole]; exact ha)
  have sa : X0.size ≤ 1048576 := by rw [← hX, ByteArray.size_extract]; omega
  clear hX hm
  cases x with
  | false =>
    have HP := Lib.hid (hP.trans (if_neg (by simp)))
    clear hP ha
    go_enter Tryd.func8, Tryd.ntmps8
    go_wp2_with fail
    refine (spec_splitAny s slash _ hs (by decide)).mono ?_
    rintro e w1 ⟨v, rfl, o, B1⟩
    rw [HS.out] at o
    obtain ⟨g, cap, rfl, hcap, hgb, hg1⟩ := owns_some' o
    have hc0 := o.cellAt 0 (by simp)
    simp at hc0 hgb
    clear o
    have hgw : w.heap.size < g := by omega
    obtain ⟨hc1, hf1⟩ := bcell B1
    have S1 := B1.size
    try simp at S1
    try (have _L1w : w.heap.size < w1.heap.size := by omega)
    have _M1w : w.heap.size ≤ w1.heap.size := by omega
    try (have _P1w_1 : w.heap.size + 1 < w1.heap.size := by omega)
    try (have _P1w_2 : w.heap.size + 1 + 1 < w1.heap.size := by omega)
    try (have _P1w_3 : w.heap.size + 1 + 1 + 1 < w1.heap.size := by omega)
    have _ : w1.cell? ⟨w.heap.size, 0, none⟩ = some (.int .i64 0) := by rw [hc1 (w.heap.size) 0 (by first | omega | (simp; done) | (simp; omega))]; first | assumption | (simp; done) | simp [go_sem, *]
    have _ : w1.frozen? ⟨w.heap.size, 0, none⟩ = false := by rw [hf1 (w.heap.size) 0 (by first | omega | (simp; done) | (simp; omega))]; first | assumption | (simp; done) | simp [go_sem, *]
    have _ : w1.cell? ⟨w.heap.size, 1, none⟩ = some (.int .i64 0) := by rw [hc1 (w.heap.size) 1 (by first | omega | (simp; done) | (simp; omega))]; first | assumption | (simp; done) | simp [go_sem, *]
    have _ : w1.frozen? ⟨w.heap.size, 1, none⟩ = false := by rw [hf1 (w.heap.size) 1 (by first | omega | (simp; done) | (simp; omega))]; first | assumption | (simp; done) | simp [go_sem, *]
    clear hc1 hf1
    go_wp2_with fail
    refine (spec_parse_at _ n _ _ HA sa).mono ?_
    rintro e w2 ⟨rfl, B2⟩
    obtain ⟨hc2, hf2⟩ := bcell B2
    have S2 := B2.size
    try simp at S2
    try (have _L2w : w.heap.size < w2.heap.size := by omega)
    have _M2w : w.heap.size ≤ w2.heap.size := by omega
    try (have _P2w_1 : w.heap.size + 1 < w2.heap.size := by omega)
    try (have _P2w_2 : w.heap.size + 1 + 1 < w2.heap.size := by omega)
    try (have _P2w_3 : w.heap.size + 1 + 1 + 1 < w2.heap.size := by omega)
    try (have _L2w1 : w1.heap.size < w2.heap.size := by omega)
    have _M2w1 : w1.heap.size ≤ w2.heap.size := by omega
    try (have _P2w1_1 : w1.heap.size + 1 < w2.heap.size := by omega)
    try (have _P2w1_2 : w1.heap.size + 1 + 1 < w2.heap.size := by omega)
    try (have _P2w1_3 : w1.heap.size + 1 + 1 + 1 < w2.heap.size := by omega)
    have _ : w2.cell? ⟨w.heap.size, 0, none⟩ = some (.int .i64 0) := by rw [hc2 (w.heap.size) 0 (by first | omega | (simp; done) | (simp; omega))]; first | assumption | (simp; done) | simp [go_sem, *]
    have _ : w2.frozen? ⟨w.heap.size, 0, none⟩ = false := by rw [hf2 (w.heap.size) 0 (by first | omega | (simp; done) | (simp; omega))]; first | assumption | (simp; done) | simp [go_sem, *]
    have _ : w2.cell? ⟨w.heap.size, 1, none⟩ = some (.int .i64 0) := by rw [hc2 (w.heap.size) 1 (by first | omega | (simp; done) | (simp; omega))]; first | assumption | (simp; done) | simp [go_sem, *]
    have _ : w2.frozen? ⟨w.heap.size, 1, none⟩ = false := by rw [hf2 (w.heap.size) 1 (by first | omega | (simp; done) | (simp; omega))]; first | assumption | (simp; done) | simp [go_sem, *]
    have _ : w2.cell? ⟨g, 0, none⟩ = some (.string X0) := by rw [hc2 (g) 0 (by first | omega | (simp; done) | (simp; omega))]; first | assumption | (simp; done) | simp [go_sem, *]
    clear hc2 hf2
    have hg2 : g < w2.heap.size := by omega
    go_wp2
    exact bodyPost_ret (v := (.tuple #[.agg #[.int .i64 0, .int .i64 0], .bool false])) (by simp (maxDischargeDepth := 8) [results, Tryd.results8, go_sem, *]) rfl ⟨ret_ratio HP.out.symm, by (repeat (first | exact Below.refl _ _ | (refine Below.setCell ?_ (by (first | exact Nat.le_refl _ | omega | (simp <;> omega) | simp)) _) | (refine Below.alloc ?_ (by (first | exact Nat.le_refl _ | omega | (simp <;> omega) | simp)) _) | (refine below_draws ?_ _) | exact B1 | (refine Below.trans ?_ (Below.mono B1 (by (first | exact Nat.le_refl _ | omega | (simp <;> omega) | simp)))) | exact B2 | (refine Below.trans ?_ (Below.mono B2 (by (first | exact Nat.le_refl _ | omega | (simp <;> omega) | simp))))))⟩
  | true =>
    have hne := num_ne (parse_some ha)
    by_cases hf : fmtR n 1 = s.data.toList
    · have HP := Lib.hid (hP.trans (if_pos ⟨rfl, rfl, hf⟩))
      have HK := Lib.hid (fmtR_ok hf hne)
      have hq := str_eq_of _ s hf
      clear hP hf ha hne
      go_enter Tryd.func8, Tryd.ntmps8
      go_wp2_with fail
      refine (spec_splitAny s slash _ hs (by decide)).mono ?_
      rintro e w1 ⟨v, rfl, o, B1⟩
      rw [HS.out] at o
      obtain ⟨g, cap, rfl, hcap, hgb, hg1⟩ := owns_some' o
      have hc0 := o.cellAt 0 (by simp)
      simp at hc0 hgb
      clear o
      have hgw : w.heap.size < g := by omega
      obtain ⟨hc1, hf1⟩ := bcell B1
      have S1 := B1.size
      try simp at S1
      try (have _L1w : w.heap.size < w1.heap.size := by omega)
      have _M1w : w.heap.size ≤ w1.heap.size := by omega
      try (have _P1w_1 : w.heap.size + 1 < w1.heap.size := by omega)
      try (have _P1w_2 : w.heap.size + 1 + 1 < w1.heap.size := by omega)
      try (have _P1w_3 : w.heap.size + 1 + 1 + 1 < w1.heap.size := by omega)
      have _ : w1.cell? ⟨w.heap.size, 0, none⟩ = some (.int .i64 0) := by rw [hc1 (w.heap.size) 0 (by first | omega | (simp; done) | (simp; omega))]; first | assumption | (simp; done) | simp [go_sem, *]
      have _ : w1.frozen? ⟨w.heap.size, 0, none⟩ = false := by rw [hf1 (w.heap.size) 0 (by first | omega | (simp; done) | (simp; omega))]; first | assumption | (simp; done) | simp [go_sem, *]
      have _ : w1.cell? ⟨w.heap.size, 1, none⟩ = some (.int .i64 0) := by rw [hc1 (w.heap.size) 1 (by first | omega | (simp; done) | (simp; omega))]; first | assumption | (simp; done) | simp [go_sem, *]
      have _ : w1.frozen? ⟨w.heap.size, 1, none⟩ = false := by rw [hf1 (w.heap.size) 1 (by first | omega | (simp; done) | (simp; omega))]; first | assumption | (simp; done) | simp [go_sem, *]
      clear hc1 hf1
      go_wp2_with fail
      refine (spec_parse_at _ n _ _ HA sa).mono ?_
      rintro e w2 ⟨rfl, B2⟩
      obtain ⟨hc2, hf2⟩ := bcell B2
      have S2 := B2.size
      try simp at S2
      try (have _L2w : w.heap.size < w2.heap.size := by omega)
      have _M2w : w.heap.size ≤ w2.heap.size := by omega
      try (have _P2w_1 : w.heap.size + 1 < w2.heap.size := by omega)
      try (have _P2w_2 : w.heap.size + 1 + 1 < w2.heap.size := by omega)
      try (have _P2w_3 : w.heap.size + 1 + 1 + 1 < w2.heap.size := by omega)
      try (have _L2w1 : w1.heap.size < w2.heap.size := by omega)
      have _M2w1 : w1.heap.size ≤ w2.heap.size := by omega
      try (have _P2w1_1 : w1.heap.size + 1 < w2.heap.size := by omega)
      try (have _P2w1_2 : w1.heap.size + 1 + 1 < w2.heap.size := by omega)
      try (have _P2w1_3 : w1.heap.size + 1 + 1 + 1 < w2.heap.size := by omega)
      have _ : w2.cell? ⟨w.heap.size, 0, none⟩ = some (.int .i64 0) := by rw [hc2 (w.heap.size) 0 (by first | omega | (simp; done) | (simp; omega))]; first | assumption | (simp; done) | simp [go_sem, *]
      have _ : w2.frozen? ⟨w.heap.size, 0, none⟩ = false := by rw [hf2 (w.heap.size) 0 (by first | omega | (simp; done) | (simp; omega))]; first | assumption | (simp; done) | simp [go_sem, *]
      have _ : w2.cell? ⟨w.heap.size, 1, none⟩ = some (.int .i64 0) := by rw [hc2 (w.heap.size) 1 (by first | omega | (simp; done) | (simp; omega))]; first | assumption | (simp; done) | simp [go_sem, *]
      have _ : w2.frozen? ⟨w.heap.size, 1, none⟩ = false := by rw [hf2 (w.heap.size) 1 (by first | omega | (simp; done) | (simp; omega))]; first | assumption | (simp; done) | simp [go_sem, *]
      have _ : w2.cell? ⟨g, 0, none⟩ = some (.string X0) := by rw [hc2 (g) 0 (by first | omega | (simp; done) | (simp; omega))]; first | assumption | (simp; done) | simp [go_sem, *]
      clear hc2 hf2
      have hg2 : g < w2.heap.size := by omega
      go_wp2_with fail
      refine (spec_fmtR n 1 _ n0 n1 (by omega) (by omega)).mono ?_
      rintro e w3 ⟨rfl, B3⟩
      obtain ⟨hc3, hf3⟩ := bcell B3
      have S3 := B3.size
      try simp at S3
      try (have _L3w : w.heap.size < w3.heap.size := by omega)
      have _M3w : w.heap.size ≤ w3.heap.size := by omega
      try (have _P3w_1 : w.heap.size + 1 < w3.heap.size := by omega)
      try (have _P3w_2 : w.heap.size + 1 + 1 < w3.heap.size := by omega)
      try (have _P3w_3 : w.heap.size + 1 + 1 + 1 < w3.heap.size := by omega)
      try (have _L3w1 : w1.heap.size < w3.heap.size := by omega)
      have _M3w1 : w1.heap.size ≤ w3.heap.size := by omega
      try (have _P3w1_1 : w1.heap.size + 1 < w3.heap.size := by omega)
      try (have _P3w1_2 : w1.heap.size + 1 + 1 < w3.heap.size := by omega)
      try (have _P3w1_3 : w1.heap.size + 1 + 1 + 1 < w3.heap.size := by omega)
      try (have _L3w2 : w2.heap.size < w3.heap.size := by omega)
      have _M3w2 : w2.heap.size ≤ w3.heap.size := by omega
      try (have _P3w2_1 : w2.heap.size + 1 < w3.heap.size := by omega)
      try (have _P3w2_2 : w2.heap.size + 1 + 1 < w3.heap.size := by omega)
      try (have _P3w2_3 : w2.heap.size + 1 + 1 + 1 < w3.heap.size := by omega)
      have _ : w3.cell? ⟨w.heap.size, 0, none⟩ = some (.int .i64 0) := by rw [hc3 (w.heap.size) 0 (by first | omega | (simp; done) | (simp; omega))]; first | assumption | (simp; done) | simp [go_sem, *]
      have _ : w3.frozen? ⟨w.heap.size, 0, none⟩ = false := by rw [hf3 (w.heap.size) 0 (by first | omega | (simp; done) | (simp; omega))]; first | assumption | (simp; done) | simp [go_sem, *]
      have _ : w3.cell? ⟨w.heap.size, 1, none⟩ = some (.int .i64 0) := by rw [hc3 (w.heap.size) 1 (by first | omega | (simp; done) | (simp; omega))]; first | assumption | (simp; done) | simp [go_sem, *]
      have _ : w3.frozen? ⟨w.heap.size, 1, none⟩ = false := by rw [hf3 (w.heap.size) 1 (by first | omega | (simp; done) | (simp; omega))]; first | assumption | (simp; done) | simp [go_sem, *]
      have _ : w3.cell? ⟨w2.heap.size, 0, none⟩ = some (.int .i64 n) := by rw [hc3 (w2.heap.size) 0 (by first | omega | (simp; done) | (simp; omega))]; first | assumption | (simp; done) | simp [go_sem, *]
      have _ : w3.frozen? ⟨w2.heap.size, 0, none⟩ = false := by rw [hf3 (w2.heap.size) 0 (by first | omega | (simp; done) | (simp; omega))]; first | assumption | (simp; done) | simp [go_sem, *]
      have _ : w3.cell? ⟨w2.heap.size, 1, none⟩ = some (.int .i64 1) := by rw [hc3 (w2.heap.size) 1 (by first | omega | (simp; done) | (simp; omega))]; first | assumption | (simp; done) | simp [go_sem, *]
      have _ : w3.frozen? ⟨w2.heap.size, 1, none⟩ = false := by rw [hf3 (w2.heap.size) 1 (by first | omega | (simp; done) | (simp; omega))]; first | assumption | (simp; done) | simp [go_sem, *]
      clear hc3 hf3
      go_wp2_with fail
      refine (spec_rOk n 1 _ n0 n1 (by omega) (by omega)).mono ?_
      rintro e w4 ⟨rfl, B4⟩
      rw [HK.out]
      obtain ⟨hc4, hf4⟩ := bcell B4
      have S4 := B4.size
      try simp at S4
      try (have _L4w : w.heap.size < w4.heap.size := by omega)
      have _M4w : w.heap.size ≤ w4.heap.size := by omega
      try (have _P4w_1 : w.heap.size + 1 < w4.heap.size := by omega)
      try (have _P4w_2 : w.heap.size + 1 + 1 < w4.heap.size := by omega)
      try (have _P4w_3 : w.heap.size + 1 + 1 + 1 < w4.heap.size := by omega)
      try (have _L4w1 : w1.heap.size < w4.heap.size := by omega)
      have _M4w1 : w1.heap.size ≤ w4.heap.size := by omega
      try (have _P4w1_1 : w1.heap.size + 1 < w4.heap.size := by omega)
      try (have _P4w1_2 : w1.heap.size + 1 + 1 < w4.heap.size := by omega)
      try (have _P4w1_3 : w1.heap.size + 1 + 1 + 1 < w4.heap.size := by omega)
      try (have _L4w2 : w2.heap.size < w4.heap.size := by omega)
      have _M4w2 : w2.heap.size ≤ w4.heap.size := by omega
      try (have _P4w2_1 : w2.heap.size + 1 < w4.heap.size := by omega)
      try (have _P4w2_2 : w2.heap.size + 1 + 1 < w4.heap.size := by omega)
      try (have _P4w2_3 : w2.heap.size + 1 + 1 + 1 < w4.heap.size := by omega)
      try (have _L4w3 : w3.heap.size < w4.heap.size := by omega)
      have _M4w3 : w3.heap.size ≤ w4.heap.size := by omega
      try (have _P4w3_1 : w3.heap.size + 1 < w4.heap.size := by omega)
      try (have _P4w3_2 : w3.heap.size + 1 + 1 < w4.heap.size := by omega)
      try (have _P4w3_3 : w3.heap.size + 1 + 1 + 1 < w4.heap.size := by omega)
      have _ : w4.cell? ⟨w.heap.size, 0, none⟩ = some (.int .i64 0) := by rw [hc4 (w.heap.size) 0 (by first | omega | (simp; done) | (simp; omega))]; first | assumption | (simp; done) | simp [go_sem, *]
      have _ : w4.frozen? ⟨w.heap.size, 0, none⟩ = false := by rw [hf4 (w.heap.size) 0 (by first | omega | (simp; done) | (simp; omega))]; first | assumption | (simp; done) | simp [go_sem, *]
      have _ : w4.cell? ⟨w.heap.size, 1, none⟩ = some (.int .i64 0) := by rw [hc4 (w.heap.size) 1 (by first | omega | (simp; done) | (simp; omega))]; first | assumption | (simp; done) | simp [go_sem, *]
      have _ : w4.frozen? ⟨w.heap.size, 1, none⟩ = false := by rw [hf4 (w.heap.size) 1 (by first | omega | (simp; done) | (simp; omega))]; first | assumption | (simp; done) | simp [go_sem, *]
      have _ : w4.cell? ⟨w2.heap.size, 0, none⟩ = some (.int .i64 n) := by rw [hc4 (w2.heap.size) 0 (by first | omega | (simp; done) | (simp; omega))]; first | assumption | (simp; done) | simp [go_sem, *]
      have _ : w4.frozen? ⟨w2.heap.size, 0, none⟩ = false := by rw [hf4 (w2.heap.size) 0 (by first | omega | (simp; done) | (simp; omega))]; first | assumption | (simp; done) | simp [go_sem, *]
      have _ : w4.cell? ⟨w2.heap.size, 1, none⟩ = some (.int .i64 1) := by rw [hc4 (w2.heap.size) 1 (by first | omega | (simp; done) | (simp; omega))]; first | assumption | (simp; done) | simp [go_sem, *]
      have _ : w4.frozen? ⟨w2.heap.size, 1, none⟩ = false := by rw [hf4 (w2.heap.size) 1 (by first | omega | (simp; done) | (simp; omega))]; first | assumption | (simp; done) | simp [go_sem, *]
      clear hc4 hf4
      go_wp2
      exact bodyPost_ret (v := (.tuple #[.agg #[.int .i64 n, .int .i64 1], .bool true])) (by simp (maxDischargeDepth := 8) [results, Tryd.results8, go_sem, *]) rfl ⟨ret_ratio HP.out.symm, by (repeat (first | exact Below.refl _ _ | (refine Below.setCell ?_ (by (first | exact Nat.le_refl _ | omega | (simp <;> omega) | simp)) _) | (refine Below.alloc ?_ (by (first | exact Nat.le_refl _ | omega | (simp <;> omega) | simp)) _) | (refine below_draws ?_ _) | exact B1 | (refine Below.trans ?_ (Below.mono B1 (by (first | exact Nat.le_refl _ | omega | (simp <;> omega) | simp)))) | exact B2 | (refine Below.trans ?_ (Below.mono B2 (by (first | exact Nat.le_refl _ | omega | (simp <;> omega) | simp)))) | exact B3 | (refine Below.trans ?_ (Below.mono B3 (by (first | exact Nat.le_refl _ | omega | (simp <;> omega) | simp)))) | exact B4 | (refine Below.trans ?_ (Below.mono B4 (by (first | exact Nat.le_refl _ | omega | (simp <;> omega) | simp))))))⟩
    · have HP := Lib.hid (hP.trans (if_neg (fun h => hf h.2.2)))
      have hq := str_ne_of _ s hf
      clear hP hf ha hne
      go_enter Tryd.func8, Tryd.ntmps8
      go_wp2_with fail
      refine (spec_splitAny s slash _ hs (by decide)).mono ?_
      rintro e w1 ⟨v, rfl, o, B1⟩
      rw [HS.out] at o
      obtain ⟨g, cap, rfl, hcap, hgb, hg1⟩ := owns_some' o
      have hc0 := o.cellAt 0 (by simp)
      simp at hc0 hgb
      clear o
      have hgw : w.heap.size < g := by omega
      obtain ⟨hc1, hf1⟩ := bcell B1
      have S1 := B1.size
      try simp at S1
      try (have _L1w : w.heap.size < w1.heap.size := by omega)
      have _M1w : w.heap.size ≤ w1.heap.size := by omega
      try (have _P1w_1 : w.heap.size + 1 < w1.heap.size := by omega)
      try (have _P1w_2 : w.heap.size + 1 + 1 < w1.heap.size := by omega)
      try (have _P1w_3 : w.heap.size + 1 + 1 + 1 < w1.heap.size := by omega)
      have _ : w1.cell? ⟨w.heap.size, 0, none⟩ = some (.int .i64 0) := by rw [hc1 (w.heap.size) 0 (by first | omega | (simp; done) | (simp; omega))]; first | assumption | (simp; done) | simp [go_sem, *]
      have _ : w1.frozen? ⟨w.heap.size, 0, none⟩ = false := by rw [hf1 (w.heap.size) 0 (by first | omega | (simp; done) | (simp; omega))]; first | assumption | (simp; done) | simp [go_sem, *]
      have _ : w1.cell? ⟨w.heap.size, 1, none⟩ = some (.int .i64 0) := by rw [hc1 (w.heap.size) 1 (by first | omega | (simp; done) | (simp; omega))]; first | assumption | (simp; done) | simp [go_sem, *]
      have _ : w1.frozen? ⟨w.heap.size, 1, none⟩ = false := by rw [hf1 (w.heap.size) 1 (by first | omega | (simp; done) | (simp; omega))]; first | assumption | (simp; done) | simp [go_sem, *]
      clear hc1 hf1
      go_wp2_with fail
      refine (spec_parse_at _ n _ _ HA sa).mono ?_
      rintro e w2 ⟨rfl, B2⟩
      obtain ⟨hc2, hf2⟩ := bcell B2
      have S2 := B2.size
      try simp at S2
      try (have _L2w : w.heap.size < w2.heap.size := by omega)
      have _M2w : w.heap.size ≤ w2.heap.size := by omega
      try (have _P2w_1 : w.heap.size + 1 < w2.heap.size := by omega)
      try (have _P2w_2 : w.heap.size + 1 + 1 < w2.heap.size := by omega)
      try (have _P2w_3 : w.heap.size + 1 + 1 + 1 < w2.heap.size := by omega)
      try (have _L2w1 : w1.heap.size < w2.heap.size := by omega)
      have _M2w1 : w1.heap.size ≤ w2.heap.size := by omega
      try (have _P2w1_1 : w1.heap.size + 1 < w2.heap.size := by omega)
      try (have _P2w1_2 : w1.heap.size + 1 + 1 < w2.heap.size := by omega)
      try (have _P2w1_3 : w1.heap.size + 1 + 1 + 1 < w2.heap.size := by omega)
      have _ : w2.cell? ⟨w.heap.size, 0, none⟩ = some (.int .i64 0) := by rw [hc2 (w.heap.size) 0 (by first | omega | (simp; done) | (simp; omega))]; first | assumption | (simp; done) | simp [go_sem, *]
      have _ : w2.frozen? ⟨w.heap.size, 0, none⟩ = false := by rw [hf2 (w.heap.size) 0 (by first | omega | (simp; done) | (simp; omega))]; first | assumption | (simp; done) | simp [go_sem, *]
      have _ : w2.cell? ⟨w.heap.size, 1, none⟩ = some (.int .i64 0) := by rw [hc2 (w.heap.size) 1 (by first | omega | (simp; done) | (simp; omega))]; first | assumption | (simp; done) | simp [go_sem, *]
      have _ : w2.frozen? ⟨w.heap.size, 1, none⟩ = false := by rw [hf2 (w.heap.size) 1 (by first | omega | (simp; done) | (simp; omega))]; first | assumption | (simp; done) | simp [go_sem, *]
      have _ : w2.cell? ⟨g, 0, none⟩ = some (.string X0) := by rw [hc2 (g) 0 (by first | omega | (simp; done) | (simp; omega))]; first | assumption | (simp; done) | simp [go_sem, *]
      clear hc2 hf2
      have hg2 : g < w2.heap.size := by omega
      go_wp2_with fail
      refine (spec_fmtR n 1 _ n0 n1 (by omega) (by omega)).mono ?_
      rintro e w3 ⟨rfl, B3⟩
      obtain ⟨hc3, hf3⟩ := bcell B3
      have S3 := B3.size
      try simp at S3
      try (have _L3w : w.heap.size < w3.heap.size := by omega)
      have _M3w : w.heap.size ≤ w3.heap.size := by omega
      try (have _P3w_1 : w.heap.size + 1 < w3.heap.size := by omega)
      try (have _P3w_2 : w.heap.size + 1 + 1 < w3.heap.size := by omega)
      try (have _P3w_3 : w.heap.size + 1 + 1 + 1 < w3.heap.size := by omega)
      try (have _L3w1 : w1.heap.size < w3.heap.size := by omega)
      have _M3w1 : w1.heap.size ≤ w3.heap.size := by omega
      try (have _P3w1_1 : w1.heap.size + 1 < w3.heap.size := by omega)
      try (have _P3w1_2 : w1.heap.size + 1 + 1 < w3.heap.size := by omega)
      try (have _P3w1_3 : w1.heap.size + 1 + 1 + 1 < w3.heap.size := by omega)
      try (have _L3w2 : w2.heap.size < w3.heap.size := by omega)
      have _M3w2 : w2.heap.size ≤ w3.heap.size := by omega
      try (have _P3w2_1 : w2.heap.size + 1 < w3.heap.size := by omega)
      try (have _P3w2_2 : w2.heap.size + 1 + 1 < w3.heap.size := by omega)
      try (have _P3w2_3 : w2.heap.size + 1 + 1 + 1 < w3.heap.size := by omega)
      have _ : w3.cell? ⟨w.heap.size, 0, none⟩ = some (.int .i64 0) := by rw [hc3 (w.heap.size) 0 (by first | omega | (simp; done) | (simp; omega))]; first | assumption | (simp; done) | simp [go_sem, *]
      have _ : w3.frozen? ⟨w.heap.size, 0, none⟩ = false := by rw [hf3 (w.heap.size) 0 (by first | omega | (simp; done) | (simp; omega))]; first | assumption | (simp; done) | simp [go_sem, *]
      have _ : w3.cell? ⟨w.heap.size, 1, none⟩ = some (.int .i64 0) := by rw [hc3 (w.heap.size) 1 (by first | omega | (simp; done) | (simp; omega))]; first | assumption | (simp; done) | simp [go_sem, *]
      have _ : w3.frozen? ⟨w.heap.size, 1, none⟩ = false := by rw [hf3 (w.heap.size) 1 (by first | omega | (simp; done) | (simp; omega))]; first | assumption | (simp; done) | simp [go_sem, *]
      have _ : w3.cell? ⟨w2.heap.size, 0, none⟩ = some (.int .i64 n) := by rw [hc3 (w2.heap.size) 0 (by first | omega | (simp; done) | (simp; omega))]; first | assumption | (simp; done) | simp [go_sem, *]
      have _ : w3.frozen? ⟨w2.heap.size, 0, none⟩ = false := by rw [hf3 (w2.heap.size) 0 (by first | omega | (simp; done) | (simp; omega))]; first | assumption | (simp; done) | simp [go_sem, *]
      have _ : w3.cell? ⟨w2.heap.size, 1, none⟩ = some (.int .i64 1) := by rw [hc3 (w2.heap.size) 1 (by first | omega | (simp; done) | (simp; omega))]; first | assumption | (simp; done) | simp [go_sem, *]
      have _ : w3.frozen? ⟨w2.heap.size, 1, none⟩ = false := by rw [hf3 (w2.heap.size) 1 (by first | omega | (simp; done) | (simp; omega))]; first | assumption | (simp; done) | simp [go_sem, *]
      clear hc3 hf3
      go_wp2
      exact bodyPost_ret (v := (.tuple #[.agg #[.int .i64 0, .int .i64 0], .bool false])) (by simp (maxDischargeDepth := 8) [results, Tryd.results8, go_sem, *]) rfl ⟨ret_ratio HP.out.symm, by (repeat (first | exact Below.refl _ _ | (refine Below.setCell ?_ (by (first | exact Nat.le_refl _ | omega | (simp <;> omega) | simp)) _) | (refine Below.alloc ?_ (by (first | exact Nat.le_refl _ | omega | (simp <;> omega) | simp)) _) | (refine below_draws ?_ _) | exact B1 | (refine Below.trans ?_ (Below.mono B1 (by (first | exact Nat.le_refl _ | omega | (simp <;> omega) | simp)))) | exact B2 | (refine Below.trans ?_ (Below.mono B2 (by (first | exact Nat.le_refl _ | omega | (simp <;> omega) | simp)))) | exact B3 | (refine Below.trans ?_ (Below.mono B3 (by (first | exact Nat.le_refl _ | omega | (simp <;> omega) | simp))))))⟩

set_option maxHeartbeats 3200000 in
theorem spec_pR_two (s : ByteArray) (w : World) (hs : s.size ≤ 1048576) (a b : List UInt8) (hl : s.data.toList = a ++ 47 :: b) (hna : (47 : UInt8) ∉ a) (hnb : (47 : UInt8) ∉ b) :
    Calls Tryd.prog 8 #[.string s] w fun e w' => e = .returned (.tuple #[.agg #[.int .i64 (pR s.data.toList).1, .int .i64 (pR s.data.toList).2.1], .bool (pR s.data.toList).2.2]) ∧ Below w.heap.size w w' := by
  obtain ⟨n, x, ha⟩ : ∃ n x, parseM a = (n, x) := ⟨_, _, rfl⟩
  obtain ⟨d, y, hb⟩ : ∃ d y, parseM b = (d, y) := ⟨_, _, rfl⟩
  have hP := pR_eq (l := s.data.toList) (a := a) (b := b) (by rw [hl, cutL_hit _ _ hna]) (by rw [hl, cutL_hit _ _ hna]; rfl) ha hb
  have HS := Lib.hid (split_two s a b hl hna hnb)
  have hn := parseM_range a
  have hd := parseM_range b
  rw [ha] at hn
  rw [hb] at hd
  obtain ⟨n0, n1⟩ := hn
  obtain ⟨d0, d1⟩ := hd
  obtain ⟨X0, hX⟩ : ∃ X0, s.extract 0 a.length = X0 := ⟨_, rfl⟩
  obtain ⟨X1, hY⟩ : ∃ X1, s.extract (a.length + 1) s.size = X1 := ⟨_, rfl⟩
  rw [hX, hY] at HS
  have HA : Hid (parseM X0.data.toList = (n, x)) := Lib.hid (by rw [← hX, part_first s a b hl]; exact ha)
  have HB : Hid (parseM X1.data.toList = (d, y)) := Lib.hid (by rw [← hY, part_second s a b hl]; exact hb)
  have sa : X0.size ≤ 1048576 := by rw [← hX, ByteArray.size_extract]; omega
  have sb : X1.size ≤ 1048576 := by rw [← hY, ByteArray.size_extract]; omega
  have hne : s.data.toList ≠ [] := by rw [hl]; simp
  clear hX hY hna hnb hl ha hb
  cases x with
  | false =>
    have HP := Lib.hid (hP.trans (if_neg (by simp)))
    clear hP hne
    go_enter Tryd.func8, Tryd.ntmps8
    go_wp2_with fail
    refine (spec_splitAny s slash _ hs (by decide)).mono ?_
    rintro e w1 ⟨v, rfl, o, B1⟩
    rw [HS.out] at o
    obtain ⟨g, cap, rfl, hcap, hgb, hg1⟩ := owns_some' o
    have hc0 := o.cellAt 0 (by simp)
    simp at hc0 hgb
    have hc1 := o.cellAt 1 (by simp)
    simp at hc1
    clear o
    have hgw : w.heap.size < g := by omega
    obtain ⟨hc1, hf1⟩ := bcell B1
    have S1 := B1.size
    try simp at S1
    try (have _L1w : w.heap.size < w1.heap.size := by omega)
    have _M1w : w.heap.size ≤ w1.heap.size := by omega
    try (have _P1w_1 : w.heap.size + 1 < w1.heap.size := by omega)
    try (have _P1w_2 : w.heap.size + 1 + 1 < w1.heap.size := by omega)
    try (have _P1w_3 : w.heap.size + 1 + 1 + 1 < w1.heap.size := by omega)
    have _ : w1.cell? ⟨w.heap.size, 0, none⟩ = some (.int .i64 0) := by rw [hc1 (w.heap.size) 0 (by first | omega | (simp; done) | (simp; omega))]; first | assumption | (simp; done) | simp [go_sem, *]
    have _ : w1.frozen? ⟨w.heap.size, 0, none⟩ = false := by rw [hf1 (w.heap.size) 0 (by first | omega | (simp; done) | (simp; omega))]; first | assumption | (simp; done) | simp [go_sem, *]
    have _ : w1.cell? ⟨w.heap.size, 1, none⟩ = some (.int .i64 0) := by rw [hc1 (w.heap.size) 1 (by first | omega | (simp; done) | (simp; omega))]; first | assumption | (simp; done) | simp [go_sem, *]
    have _ : w1.frozen? ⟨w.heap.size, 1, none⟩ = false := by rw [hf1 (w.heap.size) 1 (by first | omega | (simp; done) | (simp; omega))]; first | assumption | (simp; done) | simp [go_sem, *]
    clear hc1 hf1
    go_wp2_with fail
    refine (spec_parse_at _ n _ _ HA sa).mono ?_
    rintro e w2 ⟨rfl, B2⟩
    obtain ⟨hc2, hf2⟩ := bcell B2
    have S2 := B2.size
    try simp at S2
    try (have _L2w : w.heap.size < w2.heap.size := by omega)
    have _M2w : w.heap.size ≤ w2.heap.size := by omega
    try (have _P2w_1 : w.heap.size + 1 < w2.heap.size := by omega)
    try (have _P2w_2 : w.heap.size + 1 + 1 < w2.heap.size := by omega)
    try (have _P2w_3 : w.heap.size + 1 + 1 + 1 < w2.heap.size := by omega)
    try (have _L2w1 : w1.heap.size < w2.heap.size := by omega)
    have _M2w1 : w1.heap.size ≤ w2.heap.size := by omega
    try (have _P2w1_1 : w1.heap.size + 1 < w2.heap.size := by omega)
    try (have _P2w1_2 : w1.heap.size + 1 + 1 < w2.heap.size := by omega)
    try (have _P2w1_3 : w1.heap.size + 1 + 1 + 1 < w2.heap.size := by omega)
    have _ : w2.cell? ⟨w.heap.size, 0, none⟩ = some (.int .i64 0) := by rw [hc2 (w.heap.size) 0 (by first | omega | (simp; done) | (simp; omega))]; first | assumption | (simp; done) | simp [go_sem, *]
    have _ : w2.frozen? ⟨w.heap.size, 0, none⟩ = false := by rw [hf2 (w.heap.size) 0 (by first | omega | (simp; done) | (simp; omega))]; first | assumption | (simp; done) | simp [go_sem, *]
    have _ : w2.cell? ⟨w.heap.size, 1, none⟩ = some (.int .i64 0) := by rw [hc2 (w.heap.size) 1 (by first | omega | (simp; done) | (simp; omega))]; first | assumption | (simp; done) | simp [go_sem, *]
    have _ : w2.frozen? ⟨w.heap.size, 1, none⟩ = false := by rw [hf2 (w.heap.size) 1 (by first | omega | (simp; done) | (simp; omega))]; first | assumption | (simp; done) | simp [go_sem, *]
    have _ : w2.cell? ⟨g, 0, none⟩ = some (.string X0) := by rw [hc2 (g) 0 (by first | omega | (simp; done) | (simp; omega))]; first | assumption | (simp; done) | simp [go_sem, *]
    have _ : w2.cell? ⟨g, 1, none⟩ = some (.string X1) := by rw [hc2 (g) 1 (by first | omega | (simp; done) | (simp; omega))]; first | assumption | (simp; done) | simp [go_sem, *]
    clear hc2 hf2
    have hg2 : g < w2.heap.size := by omega
    go_wp2_with fail
    refine (spec_parse_at _ d _ _ HB sb).mono ?_
    rintro e w3 ⟨rfl, B3⟩
    obtain ⟨hc3, hf3⟩ := bcell B3
    have S3 := B3.size
    try simp at S3
    try (have _L3w : w.heap.size < w3.heap.size := by omega)
    have _M3w : w.heap.size ≤ w3.heap.size := by omega
    try (have _P3w_1 : w.heap.size + 1 < w3.heap.size := by omega)
    try (have _P3w_2 : w.heap.size + 1 + 1 < w3.heap.size := by omega)
    try (have _P3w_3 : w.heap.size + 1 + 1 + 1 < w3.heap.size := by omega)
    try (have _L3w1 : w1.heap.size < w3.heap.size := by omega)
    have _M3w1 : w1.heap.size ≤ w3.heap.size := by omega
    try (have _P3w1_1 : w1.heap.size + 1 < w3.heap.size := by omega)
    try (have _P3w1_2 : w1.heap.size + 1 + 1 < w3.heap.size := by omega)
    try (have _P3w1_3 : w1.heap.size + 1 + 1 + 1 < w3.heap.size := by omega)
    try (have _L3w2 : w2.heap.size < w3.heap.size := by omega)
    have _M3w2 : w2.heap.size ≤ w3.heap.size := by omega
    try (have _P3w2_1 : w2.heap.size + 1 < w3.heap.size := by omega)
    try (have _P3w2_2 : w2.heap.size + 1 + 1 < w3.heap.size := by omega)
    try (have _P3w2_3 : w2.heap.size + 1 + 1 + 1 < w3.heap.size := by omega)
    have _ : w3.cell? ⟨w.heap.size, 0, none⟩ = some (.int .i64 0) := by rw [hc3 (w.heap.size) 0 (by first | omega | (simp; done) | (simp; omega))]; first | assumption | (simp; done) | simp [go_sem, *]
    have _ : w3.frozen? ⟨w.heap.size, 0, none⟩ = false := by rw [hf3 (w.heap.size) 0 (by first | omega | (simp; done) | (simp; omega))]; first | assumption | (simp; done) | simp [go_sem, *]
    have _ : w3.cell? ⟨w.heap.size, 1, none⟩ = some (.int .i64 0) := by rw [hc3 (w.heap.size) 1 (by first | omega | (simp; done) | (simp; omega))]; first | assumption | (simp; done) | simp [go_sem, *]
    have _ : w3.frozen? ⟨w.heap.size, 1, none⟩ = false := by rw [hf3 (w.heap.size) 1 (by first | omega | (simp; done) | (simp; omega))]; first | assumption | (simp; done) | simp [go_sem, *]
    have _ : w3.cell? ⟨g, 0, none⟩ = some (.string X0) := by rw [hc3 (g) 0 (by first | omega | (simp; done) | (simp; omega))]; first | assumption | (simp; done) | simp [go_sem, *]
    have _ : w3.cell? ⟨g, 1, none⟩ = some (.string X1) := by rw [hc3 (g) 1 (by first | omega | (simp; done) | (simp; omega))]; first | assumption | (simp; done) | simp [go_sem, *]
    clear hc3 hf3
    have hg3 : g < w3.heap.size := by omega
    go_wp2
    exact bodyPost_ret (v := (.tuple #[.agg #[.int .i64 0, .int .i64 0], .bool false])) (by simp (maxDischargeDepth := 8) [results, Tryd.results8, go_sem, *]) rfl ⟨ret_ratio HP.out.symm, by (repeat (first | exact Below.refl _ _ | (refine Below.setCell ?_ (by (first | exact Nat.le_refl _ | omega | (simp <;> omega) | simp)) _) | (refine Below.alloc ?_ (by (first | exact Nat.le_refl _ | omega | (simp <;> omega) | simp)) _) | (refine below_draws ?_ _) | exact B1 | (refine Below.trans ?_ (Below.mono B1 (by (first | exact Nat.le_refl _ | omega | (simp <;> omega) | simp)))) | exact B2 | (refine Below.trans ?_ (Below.mono B2 (by (first | exact Nat.le_refl _ | omega | (simp <;> omega) | simp)))) | exact B3 | (refine Below.trans ?_ (Below.mono B3 (by (first | exact Nat.le_refl _ | omega | (simp <;> omega) | simp))))))⟩
  | true =>
    cases y with
    | false =>
      have HP := Lib.hid (hP.trans (if_neg (by simp)))
      clear hP hne
      go_enter Tryd.func8, Tryd.ntmps8
      go_wp2_with fail
      refine (spec_splitAny s slash _ hs (by decide)).mono ?_
      rintro e w1 ⟨v, rfl, o, B1⟩
      rw [HS.out] at o
      obtain ⟨g, cap, rfl, hcap, hgb, hg1⟩ := owns_some' o
      have hc0 := o.cellAt 0 (by simp)
      simp at hc0 hgb
      have hc1 := o.cellAt 1 (by simp)
      simp at hc1
      clear o
      have hgw : w.heap.size < g := by omega
      obtain ⟨hc1, hf1⟩ := bcell B1
      have S1 := B1.size
      try simp at S1
      try (have _L1w : w.heap.size < w1.heap.size := by omega)
      have _M1w : w.heap.size ≤ w1.heap.size := by omega
      try (have _P1w_1 : w.heap.size + 1 < w1.heap.size := by omega)
      try (have _P1w_2 : w.heap.size + 1 + 1 < w1.heap.size := by omega)
      try (have _P1w_3 : w.heap.size + 1 + 1 + 1 < w1.heap.size := by omega)
      have _ : w1.cell? ⟨w.heap.size, 0, none⟩ = some (.int .i64 0) := by rw [hc1 (w.heap.size) 0 (by first | omega | (simp; done) | (simp; omega))]; first | assumption | (simp; done) | simp [go_sem, *]
      have _ : w1.frozen? ⟨w.heap.size, 0, none⟩ = false := by rw [hf1 (w.heap.size) 0 (by first | omega | (simp; done) | (simp; omega))]; first | assumption | (simp; done) | simp [go_sem, *]
      have _ : w1.cell? ⟨w.heap.size, 1, none⟩ = some (.int .i64 0) := by rw [hc1 (w.heap.size) 1 (by first | omega | (simp; done) | (simp; omega))]; first | assumption | (simp; done) | simp [go_sem, *]
      have _ : w1.frozen? ⟨w.heap.size, 1, none⟩ = false := by rw [hf1 (w.heap.size) 1 (by first | omega | (simp; done) | (simp; omega))]; first | assumption | (simp; done) | simp [go_sem, *]
      clear hc1 hf1
      go_wp2_with fail
      refine (spec_parse_at _ n _ _ HA sa).mono ?_
      rintro e w2 ⟨rfl, B2⟩
      obtain ⟨hc2, hf2⟩ := bcell B2
      have S2 := B2.size
      try simp at S2
      try (have _L2w : w.heap.size < w2.heap.size := by omega)
      have _M2w : w.heap.size ≤ w2.heap.size := by omega
      try (have _P2w_1 : w.heap.size + 1 < w2.heap.size := by omega)
      try (have _P2w_2 : w.heap.size + 1 + 1 < w2.heap.size := by omega)
      try (have _P2w_3 : w.heap.size + 1 + 1 + 1 < w2.heap.size := by omega)
      try (have _L2w1 : w1.heap.size < w2.heap.size := by omega)
      have _M2w1 : w1.heap.size ≤ w2.heap.size := by omega
      try (have _P2w1_1 : w1.heap.size + 1 < w2.heap.size := by omega)
      try (have _P2w1_2 : w1.heap.size + 1 + 1 < w2.heap.size := by omega)
      try (have _P2w1_3 : w1.heap.size + 1 + 1 + 1 < w2.heap.size := by omega)
      have _ : w2.cell? ⟨w.heap.size, 0, none⟩ = some (.int .i64 0) := by rw [hc2 (w.heap.size) 0 (by first | omega | (simp; done) | (simp; omega))]; first | assumption | (simp; done) | simp [go_sem, *]
      have _ : w2.frozen? ⟨w.heap.size, 0, none⟩ = false := by rw [hf2 (w.heap.size) 0 (by first | omega | (simp; done) | (simp; omega))]; first | assumption | (simp; done) | simp [go_sem, *]
      have _ : w2.cell? ⟨w.heap.size, 1, none⟩ = some (.int .i64 0) := by rw [hc2 (w.heap.size) 1 (by first | omega | (simp; done) | (simp; omega))]; first | assumption | (simp; done) | simp [go_sem, *]
      have _ : w2.frozen? ⟨w.heap.size, 1, none⟩ = false := by rw [hf2 (w.heap.size) 1 (by first | omega | (simp; done) | (simp; omega))]; first | assumption | (simp; done) | simp [go_sem, *]
      have _ : w2.cell? ⟨g, 0, none⟩ = some (.string X0) := by rw [hc2 (g) 0 (by first | omega | (simp; done) | (simp; omega))]; first | assumption | (simp; done) | simp [go_sem, *]
      have _ : w2.cell? ⟨g, 1, none⟩ = some (.string X1) := by rw [hc2 (g) 1 (by first | omega | (simp; done) | (simp; omega))]; first | assumption | (simp; done) | simp [go_sem, *]
      clear hc2 hf2
      have hg2 : g < w2.heap.size := by omega
      go_wp2_with fail
      refine (spec_parse_at _ d _ _ HB sb).mono ?_
      rintro e w3 ⟨rfl, B3⟩
      obtain ⟨hc3, hf3⟩ := bcell B3
      have S3 := B3.size
      try simp at S3
      try (have _L3w : w.heap.size < w3.heap.size := by omega)
      have _M3w : w.heap.size ≤ w3.heap.size := by omega
      try (have _P3w_1 : w.heap.size + 1 < w3.heap.size := by omega)
      try (have _P3w_2 : w.heap.size + 1 + 1 < w3.heap.size := by omega)
      try (have _P3w_3 : w.heap.size + 1 + 1 + 1 < w3.heap.size := by omega)
      try (have _L3w1 : w1.heap.size < w3.heap.size := by omega)
      have _M3w1 : w1.heap.size ≤ w3.heap.size := by omega
      try (have _P3w1_1 : w1.heap.size + 1 < w3.heap.size := by omega)
      try (have _P3w1_2 : w1.heap.size + 1 + 1 < w3.heap.size := by omega)
      try (have _P3w1_3 : w1.heap.size + 1 + 1 + 1 < w3.heap.size := by omega)
      try (have _L3w2 : w2.heap.size < w3.heap.size := by omega)
      have _M3w2 : w2.heap.size ≤ w3.heap.size := by omega
      try (have _P3w2_1 : w2.heap.size + 1 < w3.heap.size := by omega)
      try (have _P3w2_2 : w2.heap.size + 1 + 1 < w3.heap.size := by omega)
      try (have _P3w2_3 : w2.heap.size + 1 + 1 + 1 < w3.heap.size := by omega)
      have _ : w3.cell? ⟨w.heap.size, 0, none⟩ = some (.int .i64 0) := by rw [hc3 (w.heap.size) 0 (by first | omega | (simp; done) | (simp; omega))]; first | assumption | (simp; done) | simp [go_sem, *]
      have _ : w3.frozen? ⟨w.heap.size, 0, none⟩ = false := by rw [hf3 (w.heap.size) 0 (by first | omega | (simp; done) | (simp; omega))]; first | assumption | (simp; done) | simp [go_sem, *]
      have _ : w3.cell? ⟨w.heap.size, 1, none⟩ = some (.int .i64 0) := by rw [hc3 (w.heap.size) 1 (by first | omega | (simp; done) | (simp; omega))]; first | assumption | (simp; done) | simp [go_sem, *]
      have _ : w3.frozen? ⟨w.heap.size, 1, none⟩ = false := by rw [hf3 (w.heap.size) 1 (by first | omega | (simp; done) | (simp; omega))]; first | assumption | (simp; done) | simp [go_sem, *]
      have _ : w3.cell? ⟨g, 0, none⟩ = some (.string X0) := by rw [hc3 (g) 0 (by first | omega | (simp; done) | (simp; omega))]; first | assumption | (simp; done) | simp [go_sem, *]
      have _ : w3.cell? ⟨g, 1, none⟩ = some (.string X1) := by rw [hc3 (g) 1 (by first | omega | (simp; done) | (simp; omega))]; first | assumption | (simp; done) | simp [go_sem, *]
      clear hc3 hf3
      have hg3 : g < w3.heap.size := by omega
      go_wp2
      exact bodyPost_ret (v := (.tuple #[.agg #[.int .i64 0, .int .i64 0], .bool false])) (by simp (maxDischargeDepth := 8) [results, Tryd.results8, go_sem, *]) rfl ⟨ret_ratio HP.out.symm, by (repeat (first | exact Below.refl _ _ | (refine Below.setCell ?_ (by (first | exact Nat.le_refl _ | omega | (simp <;> omega) | simp)) _) | (refine Below.alloc ?_ (by (first | exact Nat.le_refl _ | omega | (simp <;> omega) | simp)) _) | (refine below_draws ?_ _) | exact B1 | (refine Below.trans ?_ (Below.mono B1 (by (first | exact Nat.le_refl _ | omega | (simp <;> omega) | simp)))) | exact B2 | (refine Below.trans ?_ (Below.mono B2 (by (first | exact Nat.le_refl _ | omega | (simp <;> omega) | simp)))) | exact B3 | (refine Below.trans ?_ (Below.mono B3 (by (first | exact Nat.le_refl _ | omega | (simp <;> omega) | simp))))))⟩
    | true =>
      by_cases hf : fmtR n d = s.data.toList
      · have HP := Lib.hid (hP.trans (if_pos ⟨rfl, rfl, hf⟩))
        have HK := Lib.hid (fmtR_ok hf hne)
        have hq := str_eq_of _ s hf
        clear hP hf hne
        go_enter Tryd.func8, Tryd.ntmps8
        go_wp2_with fail
        refine (spec_splitAny s slash _ hs (by decide)).mono ?_
        rintro e w1 ⟨v, rfl, o, B1⟩
        rw [HS.out] at o
        obtain ⟨g, cap, rfl, hcap, hgb, hg1⟩ := owns_some' o
        have hc0 := o.cellAt 0 (by simp)
        simp at hc0 hgb
        have hc1 := o.cellAt 1 (by simp)
        simp at hc1
        clear o
        have hgw : w.heap.size < g := by omega
        obtain ⟨hc1, hf1⟩ := bcell B1
        have S1 := B1.size
        try simp at S1
        try (have _L1w : w.heap.size < w1.heap.size := by omega)
        have _M1w : w.heap.size ≤ w1.heap.size := by omega
        try (have _P1w_1 : w.heap.size + 1 < w1.heap.size := by omega)
        try (have _P1w_2 : w.heap.size + 1 + 1 < w1.heap.size := by omega)
        try (have _P1w_3 : w.heap.size + 1 + 1 + 1 < w1.heap.size := by omega)
        have _ : w1.cell? ⟨w.heap.size, 0, none⟩ = some (.int .i64 0) := by rw [hc1 (w.heap.size) 0 (by first | omega | (simp; done) | (simp; omega))]; first | assumption | (simp; done) | simp [go_sem, *]
        have _ : w1.frozen? ⟨w.heap.size, 0, none⟩ = false := by rw [hf1 (w.heap.size) 0 (by first | omega | (simp; done) | (simp; omega))]; first | assumption | (simp; done) | simp [go_sem, *]
        have _ : w1.cell? ⟨w.heap.size, 1, none⟩ = some (.int .i64 0) := by rw [hc1 (w.heap.size) 1 (by first | omega | (simp; done) | (simp; omega))]; first | assumption | (simp; done) | simp [go_sem, *]
        have _ : w1.frozen? ⟨w.heap.size, 1, none⟩ = false := by rw [hf1 (w.heap.size) 1 (by first | omega | (simp; done) | (simp; omega))]; first | assumption | (simp; done) | simp [go_sem, *]
        clear hc1 hf1
        go_wp2_with fail
        refine (spec_parse_at _ n _ _ HA sa).mono ?_
        rintro e w2 ⟨rfl, B2⟩
        obtain ⟨hc2, hf2⟩ := bcell B2
        have S2 := B2.size
        try simp at S2
        try (have _L2w : w.heap.size < w2.heap.size := by omega)
        have _M2w : w.heap.size ≤ w2.heap.size := by omega
        try (have _P2w_1 : w.heap.size + 1 < w2.heap.size := by omega)
        try (have _P2w_2 : w.heap.size + 1 + 1 < w2.heap.size := by omega)
        try (have _P2w_3 : w.heap.size + 1 + 1 + 1 < w2.heap.size := by omega)
        try (have _L2w1 : w1.heap.size < w2.heap.size := by omega)
        have _M2w1 : w1.heap.size ≤ w2.heap.size := by omega
        try (have _P2w1_1 : w1.heap.size + 1 < w2.heap.size := by omega)
        try (have _P2w1_2 : w1.heap.size + 1 + 1 < w2.heap.size := by omega)
        try (have _P2w1_3 : w1.heap.size + 1 + 1 + 1 < w2.heap.size := by omega)
        have _ : w2.cell? ⟨w.heap.size, 0, none⟩ = some (.int .i64 0) := by rw [hc2 (w.heap.size) 0 (by first | omega | (simp; done) | (simp; omega))]; first | assumption | (simp; done) | simp [go_sem, *]
        have _ : w2.frozen? ⟨w.heap.size, 0, none⟩ = false := by rw [hf2 (w.heap.size) 0 (by first | omega | (simp; done) | (simp; omega))]; first | assumption | (simp; done) | simp [go_sem, *]
        have _ : w2.cell? ⟨w.heap.size, 1, none⟩ = some (.int .i64 0) := by rw [hc2 (w.heap.size) 1 (by first | omega | (simp; done) | (simp; omega))]; first | assumption | (simp; done) | simp [go_sem, *]
        have _ : w2.frozen? ⟨w.heap.size, 1, none⟩ = false := by rw [hf2 (w.heap.size) 1 (by first | omega | (simp; done) | (simp; omega))]; first | assumption | (simp; done) | simp [go_sem, *]
        have _ : w2.cell? ⟨g, 0, none⟩ = some (.string X0) := by rw [hc2 (g) 0 (by first | omega | (simp; done) | (simp; omega))]; first | assumption | (simp; done) | simp [go_sem, *]
        have _ : w2.cell? ⟨g, 1, none⟩ = some (.string X1) := by rw [hc2 (g) 1 (by first | omega | (simp; done) | (simp; omega))]; first | assumption | (simp; done) | simp [go_sem, *]
        clear hc2 hf2
        have hg2 : g < w2.heap.size := by omega
        go_wp2_with fail
        refine (spec_parse_at _ d _ _ HB sb).mono ?_
        rintro e w3 ⟨rfl, B3⟩
        obtain ⟨hc3, hf3⟩ := bcell B3
        have S3 := B3.size
        try simp at S3
        try (have _L3w : w.heap.size < w3.heap.size := by omega)
        have _M3w : w.heap.size ≤ w3.heap.size := by omega
        try (have _P3w_1 : w.heap.size + 1 < w3.heap.size := by omega)
        try (have _P3w_2 : w.heap.size + 1 + 1 < w3.heap.size := by omega)
        try (have _P3w_3 : w.heap.size + 1 + 1 + 1 < w3.heap.size := by omega)
        try (have _L3w1 : w1.heap.size < w3.heap.size := by omega)
        have _M3w1 : w1.heap.size ≤ w3.heap.size := by omega
        try (have _P3w1_1 : w1.heap.size + 1 < w3.heap.size := by omega)
        try (have _P3w1_2 : w1.heap.size + 1 + 1 < w3.heap.size := by omega)
        try (have _P3w1_3 : w1.heap.size + 1 + 1 + 1 < w3.heap.size := by omega)
        try (have _L3w2 : w2.heap.size < w3.heap.size := by omega)
        have _M3w2 : w2.heap.size ≤ w3.heap.size := by omega
        try (have _P3w2_1 : w2.heap.size + 1 < w3.heap.size := by omega)
        try (have _P3w2_2 : w2.heap.size + 1 + 1 < w3.heap.size := by omega)
        try (have _P3w2_3 : w2.heap.size + 1 + 1 + 1 < w3.heap.size := by omega)
        have _ : w3.cell? ⟨w.heap.size, 0, none⟩ = some (.int .i64 0) := by rw [hc3 (w.heap.size) 0 (by first | omega | (simp; done) | (simp; omega))]; first | assumption | (simp; done) | simp [go_sem, *]
        have _ : w3.frozen? ⟨w.heap.size, 0, none⟩ = false := by rw [hf3 (w.heap.size) 0 (by first | omega | (simp; done) | (simp; omega))]; first | assumption | (simp; done) | simp [go_sem, *]
        have _ : w3.cell? ⟨w.heap.size, 1, none⟩ = some (.int .i64 0) := by rw [hc3 (w.heap.size) 1 (by first | omega | (simp; done) | (simp; omega))]; first | assumption | (simp; done) | simp [go_sem, *]
        have _ : w3.frozen? ⟨w.heap.size, 1, none⟩ = false := by rw [hf3 (w.heap.size) 1 (by first | omega | (simp; done) | (simp; omega))]; first | assumption | (simp; done) | simp [go_sem, *]
        have _ : w3.cell? ⟨g, 0, none⟩ = some (.string X0) := by rw [hc3 (g) 0 (by first | omega | (simp; done) | (simp; omega))]; first | assumption | (simp; done) | simp [go_sem, *]
        have _ : w3.cell? ⟨g, 1, none⟩ = some (.string X1) := by rw [hc3 (g) 1 (by first | omega | (simp; done) | (simp; omega))]; first | assumption | (simp; done) | simp [go_sem, *]
        clear hc3 hf3
        have hg3 : g < w3.heap.size := by omega
        go_wp2_with fail
        refine (spec_fmtR n d _ n0 n1 d0 d1).mono ?_
        rintro e w4 ⟨rfl, B4⟩
        obtain ⟨hc4, hf4⟩ := bcell B4
        have S4 := B4.size
        try simp at S4
        try (have _L4w : w.heap.size < w4.heap.size := by omega)
        have _M4w : w.heap.size ≤ w4.heap.size := by omega
        try (have _P4w_1 : w.heap.size + 1 < w4.heap.size := by omega)
        try (have _P4w_2 : w.heap.size + 1 + 1 < w4.heap.size := by omega)
        try (have _P4w_3 : w.heap.size + 1 + 1 + 1 < w4.heap.size := by omega)
        try (have _L4w1 : w1.heap.size < w4.heap.size := by omega)
        have _M4w1 : w1.heap.size ≤ w4.heap.size := by omega
        try (have _P4w1_1 : w1.heap.size + 1 < w4.heap.size := by omega)
        try (have _P4w1_2 : w1.heap.size + 1 + 1 < w4.heap.size := by omega)
        try (have _P4w1_3 : w1.heap.size + 1 + 1 + 1 < w4.heap.size := by omega)
        try (have _L4w2 : w2.heap.size < w4.heap.size := by omega)
        have _M4w2 : w2.heap.size ≤ w4.heap.size := by omega
        try (have _P4w2_1 : w2.heap.size + 1 < w4.heap.size := by omega)
        try (have _P4w2_2 : w2.heap.size + 1 + 1 < w4.heap.size := by omega)
        try (have _P4w2_3 : w2.heap.size + 1 + 1 + 1 < w4.heap.size := by omega)
        try (have _L4w3 : w3.heap.size < w4.heap.size := by omega)
        have _M4w3 : w3.heap.size ≤ w4.heap.size := by omega
        try (have _P4w3_1 : w3.heap.size + 1 < w4.heap.size := by omega)
        try (have _P4w3_2 : w3.heap.size + 1 + 1 < w4.heap.size := by omega)
        try (have _P4w3_3 : w3.heap.size + 1 + 1 + 1 < w4.heap.size := by omega)
        have _ : w4.cell? ⟨w.heap.size, 0, none⟩ = some (.int .i64 0) := by rw [hc4 (w.heap.size) 0 (by first | omega | (simp; done) | (simp; omega))]; first | assumption | (simp; done) | simp [go_sem, *]
        have _ : w4.frozen? ⟨w.heap.size, 0, none⟩ = false := by rw [hf4 (w.heap.size) 0 (by first | omega | (simp; done) | (simp; omega))]; first | assumption | (simp; done) | simp [go_sem, *]
        have _ : w4.cell? ⟨w.heap.size, 1, none⟩ = some (.int .i64 0) := by rw [hc4 (w.heap.size) 1 (by first | omega | (simp; done) | (simp; omega))]; first | assumption | (simp; done) | simp [go_sem, *]
        have _ : w4.frozen? ⟨w.heap.size, 1, none⟩ = false := by rw [hf4 (w.heap.size) 1 (by first | omega | (simp; done) | (simp; omega))]; first | assumption | (simp; done) | simp [go_sem, *]
        have _ : w4.cell? ⟨w3.heap.size, 0, none⟩ = some (.int .i64 n) := by rw [hc4 (w3.heap.size) 0 (by first | omega | (simp; done) | (simp; omega))]; first | assumption | (simp; done) | simp [go_sem, *]
        have _ : w4.frozen? ⟨w3.heap.size, 0, none⟩ = false := by rw [hf4 (w3.heap.size) 0 (by first | omega | (simp; done) | (simp; omega))]; first | assumption | (simp; done) | simp [go_sem, *]
        have _ : w4.cell? ⟨w3.heap.size, 1, none⟩ = some (.int .i64 d) := by rw [hc4 (w3.heap.size) 1 (by first | omega | (simp; done) | (simp; omega))]; first | assumption | (simp; done) | simp [go_sem, *]
        have _ : w4.frozen? ⟨w3.heap.size, 1, none⟩ = false := by rw [hf4 (w3.heap.size) 1 (by first | omega | (simp; done) | (simp; omega))]; first | assumption | (simp; done) | simp [go_sem, *]
        clear hc4 hf4
        go_wp2_with fail
        refine (spec_rOk n d _ n0 n1 d0 d1).mono ?_
        rintro e w5 ⟨rfl, B5⟩
        rw [HK.out]
        obtain ⟨hc5, hf5⟩ := bcell B5
        have S5 := B5.size
        try simp at S5
        try (have _L5w : w.heap.size < w5.heap.size := by omega)
        have _M5w : w.heap.size ≤ w5.heap.size := by omega
        try (have _P5w_1 : w.heap.size + 1 < w5.heap.size := by omega)
        try (have _P5w_2 : w.heap.size + 1 + 1 < w5.heap.size := by omega)
        try (have _P5w_3 : w.heap.size + 1 + 1 + 1 < w5.heap.size := by omega)
        try (have _L5w1 : w1.heap.size < w5.heap.size := by omega)
        have _M5w1 : w1.heap.size ≤ w5.heap.size := by omega
        try (have _P5w1_1 : w1.heap.size + 1 < w5.heap.size := by omega)
        try (have _P5w1_2 : w1.heap.size + 1 + 1 < w5.heap.size := by omega)
        try (have _P5w1_3 : w1.heap.size + 1 + 1 + 1 < w5.heap.size := by omega)
        try (have _L5w2 : w2.heap.size < w5.heap.size := by omega)
        have _M5w2 : w2.heap.size ≤ w5.heap.size := by omega
        try (have _P5w2_1 : w2.heap.size + 1 < w5.heap.size := by omega)
        try (have _P5w2_2 : w2.heap.size + 1 + 1 < w5.heap.size := by omega)
        try (have _P5w2_3 : w2.heap.size + 1 + 1 + 1 < w5.heap.size := by omega)
        try (have _L5w3 : w3.heap.size < w5.heap.size := by omega)
        have _M5w3 : w3.heap.size ≤ w5.heap.size := by omega
        try (have _P5w3_1 : w3.heap.size + 1 < w5.heap.size := by omega)
        try (have _P5w3_2 : w3.heap.size + 1 + 1 < w5.heap.size := by omega)
        try (have _P5w3_3 : w3.heap.size + 1 + 1 + 1 < w5.heap.size := by omega)
        try (have _L5w4 : w4.heap.size < w5.heap.size := by omega)
        have _M5w4 : w4.heap.size ≤ w5.heap.size := by omega
        try (have _P5w4_1 : w4.heap.size + 1 < w5.heap.size := by omega)
        try (have _P5w4_2 : w4.heap.size + 1 + 1 < w5.heap.size := by omega)
        try (have _P5w4_3 : w4.heap.size + 1 + 1 + 1 < w5.heap.size := by omega)
        have _ : w5.cell? ⟨w.heap.size, 0, none⟩ = some (.int .i64 0) := by rw [hc5 (w.heap.size) 0 (by first | omega | (simp; done) | (simp; omega))]; first | assumption | (simp; done) | simp [go_sem, *]
        have _ : w5.frozen? ⟨w.heap.size, 0, none⟩ = false := by rw [hf5 (w.heap.size) 0 (by first | omega | (simp; done) | (simp; omega))]; first | assumption | (simp; done) | simp [go_sem, *]
        have _ : w5.cell? ⟨w.heap.size, 1, none⟩ = some (.int .i64 0) := by rw [hc5 (w.heap.size) 1 (by first | omega | (simp; done) | (simp; omega))]; first | assumption | (simp; done) | simp [go_sem, *]
        have _ : w5.frozen? ⟨w.heap.size, 1, none⟩ = false := by rw [hf5 (w.heap.size) 1 (by first | omega | (simp; done) | (simp; omega))]; first | assumption | (simp; done) | simp [go_sem, *]
        have _ : w5.cell? ⟨w3.heap.size, 0, none⟩ = some (.int .i64 n) := by rw [hc5 (w3.heap.size) 0 (by first | omega | (simp; done) | (simp; omega))]; first | assumption | (simp; done) | simp [go_sem, *]
        have _ : w5.frozen? ⟨w3.heap.size, 0, none⟩ = false := by rw [hf5 (w3.heap.size) 0 (by first | omega | (simp; done) | (simp; omega))]; first | assumption | (simp; done) | simp [go_sem, *]
        have _ : w5.cell? ⟨w3.heap.size, 1, none⟩ = some (.int .i64 d) := by rw [hc5 (w3.heap.size) 1 (by first | omega | (simp; done) | (simp; omega))]; first | assumption | (simp; done) | simp [go_sem, *]
        have _ : w5.frozen? ⟨w3.heap.size, 1, none⟩ = false := by rw [hf5 (w3.heap.size) 1 (by first | omega | (simp; done) | (simp; omega))]; first | assumption | (simp; done) | simp [go_sem, *]
        clear hc5 hf5
        go_wp2
        exact bodyPost_ret (v := (.tuple #[.agg #[.int .i64 n, .int .i64 d], .bool true])) (by simp (maxDischargeDepth := 8) [results, Tryd.results8, go_sem, *]) rfl ⟨ret_ratio HP.out.symm, by (repeat (first | exact Below.refl _ _ | (refine Below.setCell ?_ (by (first | exact Nat.le_refl _ | omega | (simp <;> omega) | simp)) _) | (refine Below.alloc ?_ (by (first | exact Nat.le_refl _ | omega | (simp <;> omega) | simp)) _) | (refine below_draws ?_ _) | exact B1 | (refine Below.trans ?_ (Below.mono B1 (by (first | exact Nat.le_refl _ | omega | (simp <;> omega) | simp)))) | exact B2 | (refine Below.trans ?_ (Below.mono B2 (by (first | exact Nat.le_refl _ | omega | (simp <;> omega) | simp)))) | exact B3 | (refine Below.trans ?_ (Below.mono B3 (by (first | exact Nat.le_refl _ | omega | (simp <;> omega) | simp)))) | exact B4 | (refine Below.trans ?_ (Below.mono B4 (by (first | exact Nat.le_refl _ | omega | (simp <;> omega) | simp)))) | exact B5 | (refine Below.trans ?_ (Below.mono B5 (by (first | exact Nat.le_refl _ | omega | (simp <;> omega) | simp))))))⟩
      · have HP := Lib.hid (hP.trans (if_neg (fun h => hf h.2.2)))
        have hq := str_ne_of _ s hf
        clear hP hf hne
        go_enter Tryd.func8, Tryd.ntmps8
        go_wp2_with fail
        refine (spec_splitAny s slash _ hs (by decide)).mono ?_
        rintro e w1 ⟨v, rfl, o, B1⟩
        rw [HS.out] at o
        obtain ⟨g, cap, rfl, hcap, hgb, hg1⟩ := owns_some' o
        have hc0 := o.cellAt 0 (by simp)
        simp at hc0 hgb
        have hc1 := o.cellAt 1 (by simp)
        simp at hc1
        clear o
        have hgw : w.heap.size < g := by omega
        obtain ⟨hc1, hf1⟩ := bcell B1
        have S1 := B1.size
        try simp at S1
        try (have _L1w : w.heap.size < w1.heap.size := by omega)
        have _M1w : w.heap.size ≤ w1.heap.size := by omega
        try (have _P1w_1 : w.heap.size + 1 < w1.heap.size := by omega)
        try (have _P1w_2 : w.heap.size + 1 + 1 < w1.heap.size := by omega)
        try (have _P1w_3 : w.heap.size + 1 + 1 + 1 < w1.heap.size := by omega)
        have _ : w1.cell? ⟨w.heap.size, 0, none⟩ = some (.int .i64 0) := by rw [hc1 (w.heap.size) 0 (by first | omega | (simp; done) | (simp; omega))]; first | assumption | (simp; done) | simp [go_sem, *]
        have _ : w1.frozen? ⟨w.heap.size, 0, none⟩ = false := by rw [hf1 (w.heap.size) 0 (by first | omega | (simp; done) | (simp; omega))]; first | assumption | (simp; done) | simp [go_sem, *]
        have _ : w1.cell? ⟨w.heap.size, 1, none⟩ = some (.int .i64 0) := by rw [hc1 (w.heap.size) 1 (by first | omega | (simp; done) | (simp; omega))]; first | assumption | (simp; done) | simp [go_sem, *]
        have _ : w1.frozen? ⟨w.heap.size, 1, none⟩ = false := by rw [hf1 (w.heap.size) 1 (by first | omega | (simp; done) | (simp; omega))]; first | assumption | (simp; done) | simp [go_sem, *]
        clear hc1 hf1
        go_wp2_with fail
        refine (spec_parse_at _ n _ _ HA sa).mono ?_
        rintro e w2 ⟨rfl, B2⟩
        obtain ⟨hc2, hf2⟩ := bcell B2
        have S2 := B2.size
        try simp at S2
        try (have _L2w : w.heap.size < w2.heap.size := by omega)
        have _M2w : w.heap.size ≤ w2.heap.size := by omega
        try (have _P2w_1 : w.heap.size + 1 < w2.heap.size := by omega)
        try (have _P2w_2 : w.heap.size + 1 + 1 < w2.heap.size := by omega)
        try (have _P2w_3 : w.heap.size + 1 + 1 + 1 < w2.heap.size := by omega)
        try (have _L2w1 : w1.heap.size < w2.heap.size := by omega)
        have _M2w1 : w1.heap.size ≤ w2.heap.size := by omega
        try (have _P2w1_1 : w1.heap.size + 1 < w2.heap.size := by omega)
        try (have _P2w1_2 : w1.heap.size + 1 + 1 < w2.heap.size := by omega)
        try (have _P2w1_3 : w1.heap.size + 1 + 1 + 1 < w2.heap.size := by omega)
        have _ : w2.cell? ⟨w.heap.size, 0, none⟩ = some (.int .i64 0) := by rw [hc2 (w.heap.size) 0 (by first | omega | (simp; done) | (simp; omega))]; first | assumption | (simp; done) | simp [go_sem, *]
        have _ : w2.frozen? ⟨w.heap.size, 0, none⟩ = false := by rw [hf2 (w.heap.size) 0 (by first | omega | (simp; done) | (simp; omega))]; first | assumption | (simp; done) | simp [go_sem, *]
        have _ : w2.cell? ⟨w.heap.size, 1, none⟩ = some (.int .i64 0) := by rw [hc2 (w.heap.size) 1 (by first | omega | (simp; done) | (simp; omega))]; first | assumption | (simp; done) | simp [go_sem, *]
        have _ : w2.frozen? ⟨w.heap.size, 1, none⟩ = false := by rw [hf2 (w.heap.size) 1 (by first | omega | (simp; done) | (simp; omega))]; first | assumption | (simp; done) | simp [go_sem, *]
        have _ : w2.cell? ⟨g, 0, none⟩ = some (.string X0) := by rw [hc2 (g) 0 (by first | omega | (simp; done) | (simp; omega))]; first | assumption | (simp; done) | simp [go_sem, *]
        have _ : w2.cell? ⟨g, 1, none⟩ = some (.string X1) := by rw [hc2 (g) 1 (by first | omega | (simp; done) | (simp; omega))]; first | assumption | (simp; done) | simp [go_sem, *]
        clear hc2 hf2
        have hg2 : g < w2.heap.size := by omega
        go_wp2_with fail
        refine (spec_parse_at _ d _ _ HB sb).mono ?_
        rintro e w3 ⟨rfl, B3⟩
        obtain ⟨hc3, hf3⟩ := bcell B3
        have S3 := B3.size
        try simp at S3
        try (have _L3w : w.heap.size < w3.heap.size := by omega)
        have _M3w : w.heap.size ≤ w3.heap.size := by omega
        try (have _P3w_1 : w.heap.size + 1 < w3.heap.size := by omega)
        try (have _P3w_2 : w.heap.size + 1 + 1 < w3.heap.size := by omega)
        try (have _P3w_3 : w.heap.size + 1 + 1 + 1 < w3.heap.size := by omega)
        try (have _L3w1 : w1.heap.size < w3.heap.size := by omega)
        have _M3w1 : w1.heap.size ≤ w3.heap.size := by omega
        try (have _P3w1_1 : w1.heap.size + 1 < w3.heap.size := by omega)
        try (have _P3w1_2 : w1.heap.size + 1 + 1 < w3.heap.size := by omega)
        try (have _P3w1_3 : w1.heap.size + 1 + 1 + 1 < w3.heap.size := by omega)
        try (have _L3w2 : w2.heap.size < w3.heap.size := by omega)
        have _M3w2 : w2.heap.size ≤ w3.heap.size := by omega
        try (have _P3w2_1 : w2.heap.size + 1 < w3.heap.size := by omega)
        try (have _P3w2_2 : w2.heap.size + 1 + 1 < w3.heap.size := by omega)
        try (have _P3w2_3 : w2.heap.size + 1 + 1 + 1 < w3.heap.size := by omega)
        have _ : w3.cell? ⟨w.heap.size, 0, none⟩ = some (.int .i64 0) := by rw [hc3 (w.heap.size) 0 (by first | omega | (simp; done) | (simp; omega))]; first | assumption | (simp; done) | simp [go_sem, *]
        have _ : w3.frozen? ⟨w.heap.size, 0, none⟩ = false := by rw [hf3 (w.heap.size) 0 (by first | omega | (simp; done) | (simp; omega))]; first | assumption | (simp; done) | simp [go_sem, *]
        have _ : w3.cell? ⟨w.heap.size, 1, none⟩ = some (.int .i64 0) := by rw [hc3 (w.heap.size) 1 (by first | omega | (simp; done) | (simp; omega))]; first | assumption | (simp; done) | simp [go_sem, *]
        have _ : w3.frozen? ⟨w.heap.size, 1, none⟩ = false := by rw [hf3 (w.heap.size) 1 (by first | omega | (simp; done) | (simp; omega))]; first | assumption | (simp; done) | simp [go_sem, *]
        have _ : w3.cell? ⟨g, 0, none⟩ = some (.string X0) := by rw [hc3 (g) 0 (by first | omega | (simp; done) | (simp; omega))]; first | assumption | (simp; done) | simp [go_sem, *]
        have _ : w3.cell? ⟨g, 1, none⟩ = some (.string X1) := by rw [hc3 (g) 1 (by first | omega | (simp; done) | (simp; omega))]; first | assumption | (simp; done) | simp [go_sem, *]
        clear hc3 hf3
        have hg3 : g < w3.heap.size := by omega
        go_wp2_with fail
        refine (spec_fmtR n d _ n0 n1 d0 d1).mono ?_
        rintro e w4 ⟨rfl, B4⟩
        obtain ⟨hc4, hf4⟩ := bcell B4
        have S4 := B4.size
        try simp at S4
        try (have _L4w : w.heap.size < w4.heap.size := by omega)
        have _M4w : w.heap.size ≤ w4.heap.size := by omega
        try (have _P4w_1 : w.heap.size + 1 < w4.heap.size := by omega)
        try (have _P4w_2 : w.heap.size + 1 + 1 < w4.heap.size := by omega)
        try (have _P4w_3 : w.heap.size + 1 + 1 + 1 < w4.heap.size := by omega)
        try (have _L4w1 : w1.heap.size < w4.heap.size := by omega)
        have _M4w1 : w1.heap.size ≤ w4.heap.size := by omega
        try (have _P4w1_1 : w1.heap.size + 1 < w4.heap.size := by omega)
        try (have _P4w1_2 : w1.heap.size + 1 + 1 < w4.heap.size := by omega)
        try (have _P4w1_3 : w1.heap.size + 1 + 1 + 1 < w4.heap.size := by omega)
        try (have _L4w2 : w2.heap.size < w4.heap.size := by omega)
        have _M4w2 : w2.heap.size ≤ w4.heap.size := by omega
        try (have _P4w2_1 : w2.heap.size + 1 < w4.heap.size := by omega)
        try (have _P4w2_2 : w2.heap.size + 1 + 1 < w4.heap.size := by omega)
        try (have _P4w2_3 : w2.heap.size + 1 + 1 + 1 < w4.heap.size := by omega)
        try (have _L4w3 : w3.heap.size < w4.heap.size := by omega)
        have _M4w3 : w3.heap.size ≤ w4.heap.size := by omega
        try (have _P4w3_1 : w3.heap.size + 1 < w4.heap.size := by omega)
        try (have _P4w3_2 : w3.heap.size + 1 + 1 < w4.heap.size := by omega)
        try (have _P4w3_3 : w3.heap.size + 1 + 1 + 1 < w4.heap.size := by omega)
        have _ : w4.cell? ⟨w.heap.size, 0, none⟩ = some (.int .i64 0) := by rw [hc4 (w.heap.size) 0 (by first | omega | (simp; done) | (simp; omega))]; first | assumption | (simp; done) | simp [go_sem, *]
        have _ : w4.frozen? ⟨w.heap.size, 0, none⟩ = false := by rw [hf4 (w.heap.size) 0 (by first | omega | (simp; done) | (simp; omega))]; first | assumption | (simp; done) | simp [go_sem, *]
        have _ : w4.cell? ⟨w.heap.size, 1, none⟩ = some (.int .i64 0) := by rw [hc4 (w.heap.size) 1 (by first | omega | (simp; done) | (simp; omega))]; first | assumption | (simp; done) | simp [go_sem, *]
        have _ : w4.frozen? ⟨w.heap.size, 1, none⟩ = false := by rw [hf4 (w.heap.size) 1 (by first | omega | (simp; done) | (simp; omega))]; first | assumption | (simp; done) | simp [go_sem, *]
        have _ : w4.cell? ⟨w3.heap.size, 0, none⟩ = some (.int .i64 n) := by rw [hc4 (w3.heap.size) 0 (by first | omega | (simp; done) | (simp; omega))]; first | assumption | (simp; done) | simp [go_sem, *]
        have _ : w4.frozen? ⟨w3.heap.size, 0, none⟩ = false := by rw [hf4 (w3.heap.size) 0 (by first | omega | (simp; done) | (simp; omega))]; first | assumption | (simp; done) | simp [go_sem, *]
        have _ : w4.cell? ⟨w3.heap.size, 1, none⟩ = some (.int .i64 d) := by rw [hc4 (w3.heap.size) 1 (by first | omega | (simp; done) | (simp; omega))]; first | assumption | (simp; done) | simp [go_sem, *]
        have _ : w4.frozen? ⟨w3.heap.size, 1, none⟩ = false := by rw [hf4 (w3.heap.size) 1 (by first | omega | (simp; done) | (simp; omega))]; first | assumption | (simp; done) | simp [go_sem, *]
        clear hc4 hf4
        go_wp2
        exact bodyPost_ret (v := (.tuple #[.agg #[.int .i64 0, .int .i64 0], .bool false])) (by simp (maxDischargeDepth := 8) [results, Tryd.results8, go_sem, *]) rfl ⟨ret_ratio HP.out.symm, by (repeat (first | exact Below.refl _ _ | (refine Below.setCell ?_ (by (first | exact Nat.le_refl _ | omega | (simp <;> omega) | simp)) _) | (refine Below.alloc ?_ (by (first | exact Nat.le_refl _ | omega | (simp <;> omega) | simp)) _) | (refine below_draws ?_ _) | exact B1 | (refine Below.trans ?_ (Below.mono B1 (by (first | exact Nat.le_refl _ | omega | (simp <;> omega) | simp)))) | exact B2 | (refine Below.trans ?_ (Below.mono B2 (by (first | exact Nat.le_refl _ | omega | (simp <;> omega) | simp)))) | exact B3 | (refine Below.trans ?_ (Below.mono B3 (by (first | exact Nat.le_refl _ | omega | (simp <;> omega) | simp)))) | exact B4 | (refine Below.trans ?_ (Below.mono B4 (by (first | exact Nat.le_refl _ | omega | (simp <;> omega) | simp))))))⟩

set_option maxHeartbeats 3200000 in
theorem spec_pR_many (s : ByteArray) (w : World) (hs : s.size ≤ 1048576) (a b : List UInt8) (hl : s.data.toList = a ++ 47 :: b) (hna : (47 : UInt8) ∉ a) (hnb : (47 : UInt8) ∈ b) :
    Calls Tryd.prog 8 #[.string s] w fun e w' => e = .returned (.tuple #[.agg #[.int .i64 (pR s.data.toList).1, .int .i64 (pR s.data.toList).2.1], .bool (pR s.data.toList).2.2]) ∧ Below w.heap.size w w' := by
  obtain ⟨n, x, ha⟩ : ∃ n x, parseM a = (n, x) := ⟨_, _, rfl⟩
  have hb : parseM b = (0, false) := parseM_none b (fun ⟨q, hq⟩ => no_slash_num b q hq hnb)
  have hP := pR_eq (l := s.data.toList) (a := a) (b := b) (by rw [hl, cutL_hit _ _ hna]) (by rw [hl, cutL_hit _ _ hna]; rfl) ha hb
  obtain ⟨y, z, r, hS⟩ := split_many s a b hl hna hnb
  have hn := parseM_range a
  rw [ha] at hn
  obtain ⟨n0, n1⟩ := hn
  obtain ⟨X0, hX⟩ : ∃ X0, s.extract 0 a.length = X0 := ⟨_, rfl⟩
  rw [hX] at hS
  have hlen := splitM_length s slash
  rw [hS] at hlen
  have HA : Hid (parseM X0.data.toList = (n, x)) := Lib.hid (by rw [← hX, part_first s a b hl]; exact ha)
  have sa : X0.size ≤ 1048576 := by rw [← hX, ByteArray.size_extract]; omega
  clear hX hna hnb hl ha hb
  have HS := Lib.hid hS
  clear hS
  have HP := Lib.hid (hP.trans (if_neg (by simp)))
  clear hP
  simp at hlen
  have h2 : ((((r.length + 1 + 1 + 1 : Nat) : Int)) == 2) = false := by rw [beq_eq_false_iff_ne]; omega
  cases x with
  | false =>
    go_enter Tryd.func8, Tryd.ntmps8
    go_wp2_with fail
    refine (spec_splitAny s slash _ hs (by decide)).mono ?_
    rintro e w1 ⟨v, rfl, o, B1⟩
    rw [HS.out] at o
    obtain ⟨g, cap, rfl, hcap, hgb, hg1⟩ := owns_some' o
    have hc0 := o.cellAt 0 (by simp)
    simp at hc0 hgb
    clear o
    have hgw : w.heap.size < g := by omega
    obtain ⟨hc1, hf1⟩ := bcell B1
    have S1 := B1.size
    try simp at S1
    try (have _L1w : w.heap.size < w1.heap.size := by omega)
    have _M1w : w.heap.size ≤ w1.heap.size := by omega
    try (have _P1w_1 : w.heap.size + 1 < w1.heap.size := by omega)
    try (have _P1w_2 : w.heap.size + 1 + 1 < w1.heap.size := by omega)
    try (have _P1w_3 : w.heap.size + 1 + 1 + 1 < w1.heap.size := by omega)
    have _ : w1.cell? ⟨w.heap.size, 0, none⟩ = some (.int .i64 0) := by rw [hc1 (w.heap.size) 0 (by first | omega | (simp; done) | (simp; omega))]; first | assumption | (simp; done) | simp [go_sem, *]
    have _ : w1.frozen? ⟨w.heap.size, 0, none⟩ = false := by rw [hf1 (w.heap.size) 0 (by first | omega | (simp; done) | (simp; omega))]; first | assumption | (simp; done) | simp [go_sem, *]
    have _ : w1.cell? ⟨w.heap.size, 1, none⟩ = some (.int .i64 0) := by rw [hc1 (w.heap.size) 1 (by first | omega | (simp; done) | (simp; omega))]; first | assumption | (simp; done) | simp [go_sem, *]
    have _ : w1.frozen? ⟨w.heap.size, 1, none⟩ = false := by rw [hf1 (w.heap.size) 1 (by first | omega | (simp; done) | (simp; omega))]; first | assumption | (simp; done) | simp [go_sem, *]
    clear hc1 hf1
    go_wp2_with fail
    refine (spec_parse_at _ n _ _ HA sa).mono ?_
    rintro e w2 ⟨rfl, B2⟩
    obtain ⟨hc2, hf2⟩ := bcell B2
    have S2 := B2.size
    try simp at S2
    try (have _L2w : w.heap.size < w2.heap.size := by omega)
    have _M2w : w.heap.size ≤ w2.heap.size := by omega
    try (have _P2w_1 : w.heap.size + 1 < w2.heap.size := by omega)
    try (have _P2w_2 : w.heap.size + 1 + 1 < w2.heap.size := by omega)
    try (have _P2w_3 : w.heap.size + 1 + 1 + 1 < w2.heap.size := by omega)
    try (have _L2w1 : w1.heap.size < w2.heap.size := by omega)
    have _M2w1 : w1.heap.size ≤ w2.heap.size := by omega
    try (have _P2w1_1 : w1.heap.size + 1 < w2.heap.size := by omega)
    try (have _P2w1_2 : w1.heap.size + 1 + 1 < w2.heap.size := by omega)
    try (have _P2w1_3 : w1.heap.size + 1 + 1 + 1 < w2.heap.size := by omega)
    have _ : w2.cell? ⟨w.heap.size, 0, none⟩ = some (.int .i64 0) := by rw [hc2 (w.heap.size) 0 (by first | omega | (simp; done) | (simp; omega))]; first | assumption | (simp; done) | simp [go_sem, *]
    have _ : w2.frozen? ⟨w.heap.size, 0, none⟩ = false := by rw [hf2 (w.heap.size) 0 (by first | omega | (simp; done) | (simp; omega))]; first | assumption | (simp; done) | simp [go_sem, *]
    have _ : w2.cell? ⟨w.heap.size, 1, none⟩ = some (.int .i64 0) := by rw [hc2 (w.heap.size) 1 (by first | omega | (simp; done) | (simp; omega))]; first | assumption | (simp; done) | simp [go_sem, *]
    have _ : w2.frozen? ⟨w.heap.size, 1, none⟩ = false := by rw [hf2 (w.heap.size) 1 (by first | omega | (simp; done) | (simp; omega))]; first | assumption | (simp; done) | simp [go_sem, *]
    have _ : w2.cell? ⟨g, 0, none⟩ = some (.string X0) := by rw [hc2 (g) 0 (by first | omega | (simp; done) | (simp; omega))]; first | assumption | (simp; done) | simp [go_sem, *]
    clear hc2 hf2
    have hg2 : g < w2.heap.size := by omega
    go_wp2
    exact bodyPost_ret (v := (.tuple #[.agg #[.int .i64 0, .int .i64 0], .bool false])) (by simp (maxDischargeDepth := 8) [results, Tryd.results8, go_sem, *]) rfl ⟨ret_ratio HP.out.symm, by (repeat (first | exact Below.refl _ _ | (refine Below.setCell ?_ (by (first | exact Nat.le_refl _ | omega | (simp <;> omega) | simp)) _) | (refine Below.alloc ?_ (by (first | exact Nat.le_refl _ | omega | (simp <;> omega) | simp)) _) | (refine below_draws ?_ _) | exact B1 | (refine Below.trans ?_ (Below.mono B1 (by (first | exact Nat.le_refl _ | omega | (simp <;> omega) | simp)))) | exact B2 | (refine Below.trans ?_ (Below.mono B2 (by (first | exact Nat.le_refl _ | omega | (simp <;> omega) | simp))))))⟩
  | true =>
    go_enter Tryd.func8, Tryd.ntmps8
    go_wp2_with fail
    refine (spec_splitAny s slash _ hs (by decide)).mono ?_
    rintro e w1 ⟨v, rfl, o, B1⟩
    rw [HS.out] at o
    obtain ⟨g, cap, rfl, hcap, hgb, hg1⟩ := owns_some' o
    have hc0 := o.cellAt 0 (by simp)
    simp at hc0 hgb
    clear o
    have hgw : w.heap.size < g := by omega
    obtain ⟨hc1, hf1⟩ := bcell B1
    have S1 := B1.size
    try simp at S1
    try (have _L1w : w.heap.size < w1.heap.size := by omega)
    have _M1w : w.heap.size ≤ w1.heap.size := by omega
    try (have _P1w_1 : w.heap.size + 1 < w1.heap.size := by omega)
    try (have _P1w_2 : w.heap.size + 1 + 1 < w1.heap.size := by omega)
    try (have _P1w_3 : w.heap.size + 1 + 1 + 1 < w1.heap.size := by omega)
    have _ : w1.cell? ⟨w.heap.size, 0, none⟩ = some (.int .i64 0) := by rw [hc1 (w.heap.size) 0 (by first | omega | (simp; done) | (simp; omega))]; first | assumption | (simp; done) | simp [go_sem, *]
    have _ : w1.frozen? ⟨w.heap.size, 0, none⟩ = false := by rw [hf1 (w.heap.size) 0 (by first | omega | (simp; done) | (simp; omega))]; first | assumption | (simp; done) | simp [go_sem, *]
    have _ : w1.cell? ⟨w.heap.size, 1, none⟩ = some (.int .i64 0) := by rw [hc1 (w.heap.size) 1 (by first | omega | (simp; done) | (simp; omega))]; first | assumption | (simp; done) | simp [go_sem, *]
    have _ : w1.frozen? ⟨w.heap.size, 1, none⟩ = false := by rw [hf1 (w.heap.size) 1 (by first | omega | (simp; done) | (simp; omega))]; first | assumption | (simp; done) | simp [go_sem, *]
    clear hc1 hf1
    go_wp2_with fail
    refine (spec_parse_at _ n _ _ HA sa).mono ?_
    rintro e w2 ⟨rfl, B2⟩
    obtain ⟨hc2, hf2⟩ := bcell B2
    have S2 := B2.size
    try simp at S2
    try (have _L2w : w.heap.size < w2.heap.size := by omega)
    have _M2w : w.heap.size ≤ w2.heap.size := by omega
    try (have _P2w_1 : w.heap.size + 1 < w2.heap.size := by omega)
    try (have _P2w_2 : w.heap.size + 1 + 1 < w2.heap.size := by omega)
    try (have _P2w_3 : w.heap.size + 1 + 1 + 1 < w2.heap.size := by omega)
    try (have _L2w1 : w1.heap.size < w2.heap.size := by omega)
    have _M2w1 : w1.heap.size ≤ w2.heap.size := by omega
    try (have _P2w1_1 : w1.heap.size + 1 < w2.heap.size := by omega)
    try (have _P2w1_2 : w1.heap.size + 1 + 1 < w2.heap.size := by omega)
    try (have _P2w1_3 : w1.heap.size + 1 + 1 + 1 < w2.heap.size := by omega)
    have _ : w2.cell? ⟨w.heap.size, 0, none⟩ = some (.int .i64 0) := by rw [hc2 (w.heap.size) 0 (by first | omega | (simp; done) | (simp; omega))]; first | assumption | (simp; done) | simp [go_sem, *]
    have _ : w2.frozen? ⟨w.heap.size, 0, none⟩ = false := by rw [hf2 (w.heap.size) 0 (by first | omega | (simp; done) | (simp; omega))]; first | assumption | (simp; done) | simp [go_sem, *]
    have _ : w2.cell? ⟨w.heap.size, 1, none⟩ = some (.int .i64 0) := by rw [hc2 (w.heap.size) 1 (by first | omega | (simp; done) | (simp; omega))]; first | assumption | (simp; done) | simp [go_sem, *]
    have _ : w2.frozen? ⟨w.heap.size, 1, none⟩ = false := by rw [hf2 (w.heap.size) 1 (by first | omega | (simp; done) | (simp; omega))]; first | assumption | (simp; done) | simp [go_sem, *]
    have _ : w2.cell? ⟨g, 0, none⟩ = some (.string X0) := by rw [hc2 (g) 0 (by first | omega | (simp; done) | (simp; omega))]; first | assumption | (simp; done) | simp [go_sem, *]
    clear hc2 hf2
    have hg2 : g < w2.heap.size := by omega
    go_wp2
    exact bodyPost_ret (v := (.tuple #[.agg #[.int .i64 0, .int .i64 0], .bool false])) (by simp (maxDischargeDepth := 8) [results, Tryd.results8, go_sem, *]) rfl ⟨ret_ratio HP.out.symm, by (repeat (first | exact Below.refl _ _ | (refine Below.setCell ?_ (by (first | exact Nat.le_refl _ | omega | (simp <;> omega) | simp)) _) | (refine Below.alloc ?_ (by (first | exact Nat.le_refl _ | omega | (simp <;> omega) | simp)) _) | (refine below_draws ?_ _) | exact B1 | (refine Below.trans ?_ (Below.mono B1 (by (first | exact Nat.le_refl _ | omega | (simp <;> omega) | simp)))) | exact B2 | (refine Below.trans ?_ (Below.mono B2 (by (first | exact Nat.le_refl _ | omega | (simp <;> omega) | simp))))))⟩

theorem spec_pR (s : ByteArray) (w : World) (hs : s.size ≤ 1048576) :
    Calls Tryd.prog 8 #[.string s] w fun e w' => e = .returned (.tuple #[.agg #[.int .i64 (pR s.data.toList).1, .int .i64 (pR s.data.toList).2.1], .bool (pR s.data.toList).2.2]) ∧ Below w.heap.size w w' := by
  by_cases hm : (47 : UInt8) ∈ s.data.toList
  · obtain ⟨a, b, hl, ha⟩ := first_slash _ hm
    by_cases hb : (47 : UInt8) ∈ b
    · exact spec_pR_many s w hs a b hl ha hb
    · exact spec_pR_two s w hs a b hl ha hb
  · exact spec_pR_none s w hs hm
end Go.Proofs.YtlggmlojmdaggaaDoor
