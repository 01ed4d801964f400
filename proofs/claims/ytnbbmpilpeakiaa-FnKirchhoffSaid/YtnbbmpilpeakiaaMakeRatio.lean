/-
  spec.MakeRatio: some small fraction. And a code among the arguments.
-/
import Derived.Test.YtnbbmpilpeakiaaDraw
import Derived.Test.YtnbbmpilpeakiaaRatioOf
import Derived.Test.YtnbbmpilpeakiaaRatLaws
import Derived.ProofKit
import Derived.ChangeSame
import Derived.Lib.SmallJoins
namespace Go.Proofs.Ytnbbmpilpeakiaa
open Go.RowKit Go.ChangeShapes Go.WideShapes Go.ChangeAt

theorem bounds_u8'' {n : Int} (h : (Lit.int .u8 n).wf = true) : 0 ≤ n ∧ n < 256 := by
  have e : (decide (0 ≤ n) && decide (n ≤ 255)) = true := h
  simp at e; omega
/-- A slice of bytes among the arguments. -/
theorem open_bytes {H : Type} {enc : TypeId × Value → H} {P : Program} {t e : TypeId} (ht : P.underlying t = some (.slice e)) (he : P.underlying e = some (.int .u8)) (hc : P.cellsOf e = 1)
    {W : World} {a0 : Option Addr} {len cap : Nat} {d : DataW H} {p : List MemPlace} (h : DataW.Trod enc P W 0 (fun _ => true) true t (.slice a0 len cap) d p) : BytesAt W (.slice a0 len cap) len := by
  obtain ⟨fuel, hf⟩ := h
  rcases open_ints ht he hc hf with ⟨hcs, _⟩ | ⟨a, len', cap', zs, hcs, _, hl, hm, hz, _, hcell, hws⟩
  · simp [Value.cells] at hcs
    obtain ⟨rfl, rfl, rfl⟩ := hcs
    exact ⟨by omega, .inl ⟨rfl, none, 0, rfl⟩⟩
  · simp [Value.cells] at hcs
    obtain ⟨rfl, rfl, rfl⟩ := hcs
    simp only [if_true] at hz
    unfold maxLen at hm
    refine ⟨by omega, ?_⟩
    by_cases hl0 : len = 0
    · subst hl0; exact .inl ⟨rfl, some a, cap, rfl⟩
    · obtain ⟨b, off, spot⟩ := a
      have hspot : spot = none := by simpa [Addr.add] using World.cell?_spot (hcell 0 (by omega))
      subst hspot
      refine .inr ⟨b, off, cap, rfl, fun k hk => ?_⟩
      have h1 := hcell k (by omega)
      rw [add_plain] at h1
      have h2 := hws (zs.getD k 0) (by rw [List.getD_eq_getElem?_getD, List.getElem?_eq_getElem (show k < zs.length by omega)]; exact List.getElem_mem _)
      have h3 : 0 ≤ zs.getD k 0 ∧ zs.getD k 0 < 256 := bounds_u8'' h2
      refine ⟨UInt8.ofNat (zs.getD k 0).toNat, ?_⟩
      rw [h1, UInt8.toNat_ofNat']
      congr 2; omega
theorem BytesAt.on {w w' : World} {v : Value} {n : Nat} (h : BytesAt w v n) (hB : Below w.heap.size w w') : BytesAt w' v n := h.later hB (code_low h)

set_option maxHeartbeats 1600000 in
theorem makeRatio_any (v : Value) (n k : Nat) (q : Int) (hq : q = k) (hk : k ≤ 1000000) (w : World) (hv : BytesAt w v n) (hn : n ≤ 1048576) :
    Calls Try.prog 14 #[v, .int .i64 q] w fun en w' => (∃ x y p q : Int, en = .returned (.agg #[.int .i64 x, .int .i64 y]) ∧ SmallV x y p q) ∧ Below w.heap.size w w' := by
  subst hq
  have hv1 := hv.on (show Below w.heap.size w (w.alloc (.cells #[.int .i64 0, .int .i64 0] 24)) by (repeat (first | exact Below.refl _ _ | (refine Below.setCell ?_ (by (first | exact Nat.le_refl _ | omega | (simp <;> omega) | simp)) _) | (refine Below.alloc ?_ (by (first | exact Nat.le_refl _ | omega | (simp <;> omega) | simp)) _) | (refine below_draws ?_ _))))
  have hnew := l18New_any v n k _ rfl hk _ hv1 hn
  simp only [World.size_alloc] at hnew
  clear hv
  go_enter Try.func14, Try.ntmps14
  go_wp2_with fail
  refine hnew.mono ?_
  rintro en w1 ⟨⟨b, rfl, rfl, hc⟩, B1⟩
  have S1 := B1.size
  simp only [World.size_alloc] at S1
  have A1 : Below w.heap.size w w1 := (show Below w.heap.size w (w.alloc (.cells #[.int .i64 0, .int .i64 0] 24)) by (repeat (first | exact Below.refl _ _ | (refine Below.setCell ?_ (by (first | exact Nat.le_refl _ | omega | (simp <;> omega) | simp)) _) | (refine Below.alloc ?_ (by (first | exact Nat.le_refl _ | omega | (simp <;> omega) | simp)) _) | (refine below_draws ?_ _)))).trans (B1.mono (by omega))
  have Z1 : w1.cell? ⟨w.heap.size, 0, none⟩ = some (.int .i64 0) ∧ w1.cell? ⟨w.heap.size, 1, none⟩ = some (.int .i64 0) ∧ w1.frozen? ⟨w.heap.size, 0, none⟩ = false ∧ w1.frozen? ⟨w.heap.size, 1, none⟩ = false := ⟨by rw [B1.cell (p := ⟨w.heap.size, 0, none⟩) (show w.heap.size < _ by omega)]; simp [go_sem], by rw [B1.cell (p := ⟨w.heap.size, 1, none⟩) (show w.heap.size < _ by omega)]; simp [go_sem], by rw [B1.frozen (p := ⟨w.heap.size, 0, none⟩) (show w.heap.size < _ by omega)]; simp [go_sem], by rw [B1.frozen (p := ⟨w.heap.size, 1, none⟩) (show w.heap.size < _ by omega)]; simp [go_sem]⟩
  obtain ⟨_, _, _, _⟩ := Z1
  go_wp2_with fail
  refine (l01Below_any _ _ 61 (by omega) (by omega) _ hc).mono ?_
  rintro en w2 ⟨⟨x, rfl, hx0, hx1⟩, hc2, hG2⟩
  have B2 := below_of_grown hG2 (Nat.le_refl _) S1
  have S2 := B2.size
  clear hc hG2 hnew
  have A2 := A1.trans (B2.mono (by omega))
  have Z2 : w2.cell? ⟨w.heap.size, 0, none⟩ = some (.int .i64 0) ∧ w2.cell? ⟨w.heap.size, 1, none⟩ = some (.int .i64 0) ∧ w2.frozen? ⟨w.heap.size, 0, none⟩ = false ∧ w2.frozen? ⟨w.heap.size, 1, none⟩ = false := ⟨by rw [B2.cell (p := ⟨w.heap.size, 0, none⟩) (show w.heap.size < _ by omega)]; assumption, by rw [B2.cell (p := ⟨w.heap.size, 1, none⟩) (show w.heap.size < _ by omega)]; assumption, by rw [B2.frozen (p := ⟨w.heap.size, 0, none⟩) (show w.heap.size < _ by omega)]; assumption, by rw [B2.frozen (p := ⟨w.heap.size, 1, none⟩) (show w.heap.size < _ by omega)]; assumption⟩
  obtain ⟨_, _, _, _⟩ := Z2
  go_wp2_with fail
  refine (l01Below_any _ _ 30 (by omega) (by omega) _ hc2).mono ?_
  rintro en w3 ⟨⟨y, rfl, hy0, hy1⟩, hc3, hG3⟩
  have B3 := below_of_grown hG3 (Nat.le_refl _) (show w.heap.size + 1 ≤ w2.heap.size by omega)
  have S3 := B3.size
  clear hc2 hG3
  have A3 := A2.trans (B3.mono (by omega))
  have Z3 : w3.cell? ⟨w.heap.size, 0, none⟩ = some (.int .i64 0) ∧ w3.cell? ⟨w.heap.size, 1, none⟩ = some (.int .i64 0) ∧ w3.frozen? ⟨w.heap.size, 0, none⟩ = false ∧ w3.frozen? ⟨w.heap.size, 1, none⟩ = false := ⟨by rw [B3.cell (p := ⟨w.heap.size, 0, none⟩) (show w.heap.size < _ by omega)]; assumption, by rw [B3.cell (p := ⟨w.heap.size, 1, none⟩) (show w.heap.size < _ by omega)]; assumption, by rw [B3.frozen (p := ⟨w.heap.size, 0, none⟩) (show w.heap.size < _ by omega)]; assumption, by rw [B3.frozen (p := ⟨w.heap.size, 1, none⟩) (show w.heap.size < _ by omega)]; assumption⟩
  obtain ⟨_, _, _, _⟩ := Z3
  go_wp2_with fail
  refine (spec_rOf (x - 30) (1 + y) _ (by omega) (by omega) (by omega) (by omega)).mono ?_
  rintro en w4 ⟨rfl, B4⟩
  have hV := rOf_isP (n := x - 30) (d := 1 + y) (by omega) (by omega) (by omega)
  have HV := Lib.hid (show SmallV _ _ _ _ from ⟨hV, by omega, by omega, by omega, by omega⟩); clear hV
  have C4 : Below w.heap.size w w4 := A3.trans (B4.mono A3.size)
  obtain ⟨hc4, hf4⟩ := bcell B4
  have S4 := B4.size
  try simp at S4
  try (have _L4w : w.heap.size < w4.heap.size := by omega)
  have _M4w : w.heap.size ≤ w4.heap.size := by omega
  try (have _P4w_1 : w.heap.size + 1 < w4.heap.size := by omega)
  try (have _P4w_2 : w.heap.size + 1 + 1 < w4.heap.size := by omega)
  try (have _P4w_3 : w.heap.size + 1 + 1 + 1 < w4.heap.size := by omega)
  try (have _L4w3 : w3.heap.size < w4.heap.size := by omega)
  have _M4w3 : w3.heap.size ≤ w4.heap.size := by omega
  try (have _P4w3_1 : w3.heap.size + 1 < w4.heap.size := by omega)
  try (have _P4w3_2 : w3.heap.size + 1 + 1 < w4.heap.size := by omega)
  try (have _P4w3_3 : w3.heap.size + 1 + 1 + 1 < w4.heap.size := by omega)
  have _ : w4.cell? ⟨w.heap.size, 0, none⟩ = some (.int .i64 0) := by rw [hc4 (w.heap.size) 0 (by first | omega | (simp; done) | (simp; omega))]; first | assumption | (simp; done) | simp [go_sem, *]
  have _ : w4.frozen? ⟨w.heap.size, 0, none⟩ = false := by rw [hf4 (w.heap.size) 0 (by first | omega | (simp; done) | (simp; omega))]; first | assumption | (simp; done) | simp [go_sem, *]
  have _ : w4.cell? ⟨w.heap.size, 1, none⟩ = some (.int .i64 0) := by rw [hc4 (w.heap.size) 1 (by first | omega | (simp; done) | (simp; omega))]; first | assumption | (simp; done) | simp [go_sem, *]
  have _ : w4.frozen? ⟨w.heap.size, 1, none⟩ = false := by rw [hf4 (w.heap.size) 1 (by first | omega | (simp; done) | (simp; omega))]; first | assumption | (simp; done) | simp [go_sem, *]
  clear hc4 hf4
  go_wp2
  exact bodyPost_ret (v := (.agg #[.int .i64 (rOfN (x - 30) (1 + y)), .int .i64 (rOfD (x - 30) (1 + y))])) (by simp (maxDischargeDepth := 8) [results, Try.results14, go_sem, *]) rfl ⟨⟨_, _, _, _, rfl, HV.out⟩, by (repeat (first | exact Below.refl _ _ | (refine Below.setCell ?_ (by (first | exact Nat.le_refl _ | omega | (simp <;> omega) | simp)) _) | (refine Below.alloc ?_ (by (first | exact Nat.le_refl _ | omega | (simp <;> omega) | simp)) _) | (refine below_draws ?_ _) | exact C4 | (refine Below.trans ?_ (Below.mono C4 (by (first | exact Nat.le_refl _ | omega | (simp <;> omega) | simp))))))⟩
end Go.Proofs.Ytnbbmpilpeakiaa
