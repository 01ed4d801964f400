/-
  IsSensitive, in the model and in the program.
-/
import Derived.Test.YtaececpphdaciaaMoreSpec
import Derived.Test.YtaececpphdaciaaMoreImpl
import Derived.Test.YtaececpphdaciaaGTree
import Derived.Laws.StructEq
namespace Go.Proofs.Ytaececpphdaciaa
open Go.RowKit

/-- Whether two pairs part. -/
def neP (a b c d : Int) : Bool := !(a == c && b == d)
/-- What IsSensitive answers. -/
noncomputable def sensB (n e s : Int) (ws : List W3) (a b i : Int) : Bool :=
  if feedB n e s ws a b = true ∧ (0 ≤ i ∧ i < ws.length) ∧ (ws.getD i.toNat (0, 0, 0)).2.2 ≠ 200 then
    neP (resR n e s ws a b).1 (resR n e s ws a b).2.1 (resR n e s (fltW ws i.toNat ((ws.getD i.toNat (0, 0, 0)).2.2 + 1)) a b).1 (resR n e s (fltW ws i.toNat ((ws.getD i.toNat (0, 0, 0)).2.2 + 1)) a b).2.1
  else false
theorem sensB_no {n e s a b i : Int} {ws : List W3} (h : ¬ (feedB n e s ws a b = true ∧ (0 ≤ i ∧ i < ws.length) ∧ (ws.getD i.toNat (0, 0, 0)).2.2 ≠ 200)) : sensB n e s ws a b i = false := if_neg h
theorem sensB_yes {n e s a b : Int} {j : Nat} {ws : List W3} (h : feedB n e s ws a b = true) (hj : j < ws.length) (h2 : ws[j].2.2 ≠ 200) :
    sensB n e s ws a b (j : Int) = neP (resR n e s ws a b).1 (resR n e s ws a b).2.1 (resR n e s (fltW ws j (ws[j].2.2 + 1)) a b).1 (resR n e s (fltW ws j (ws[j].2.2 + 1)) a b).2.1 := by
  have hg : ws.getD ((j : Int)).toNat (0, 0, 0) = ws[j] := by rw [Int.toNat_natCast, List.getD_eq_getElem?_getD, List.getElem?_eq_getElem hj]; rfl
  unfold sensB
  rw [if_pos ⟨h, by omega, by rw [hg]; exact h2⟩, hg, Int.toNat_natCast]
theorem feed_net {n e s a b : Int} {ws : List W3} (h : feedB n e s ws a b = true) : netB n e s ws = true ∧ (0 ≤ a ∧ a < n) ∧ (0 ≤ b ∧ b < n) ∧ a ≠ b := by
  obtain ⟨N, a', b', rfl, rfl, rfl, hb, h1, h2, h3⟩ := feed_yes h
  exact ⟨hb, by omega, by omega, by omega⟩
theorem feed_of {n e s a b : Int} {ws : List W3} (hb : netB n e s ws = true) (ha : 0 ≤ a ∧ a < n) (hb' : 0 ≤ b ∧ b < n) (h : a ≠ b) : feedB n e s ws a b = true := by
  unfold feedB
  rw [hb, show hasB n a = true by simp [hasB]; omega, show hasB n b = true by simp [hasB]; omega]
  simpa using h
theorem resR_ok {n e s a b : Int} {ws : List W3} : (resR n e s ws a b).2.2 = true ↔ netB n e s ws = true ∧ (0 ≤ a ∧ a < n) ∧ 0 ≤ b ∧ b < n := by
  unfold resR
  by_cases h : netB n e s ws = true ∧ 0 ≤ a ∧ a < n ∧ 0 ≤ b ∧ b < n
  · rw [if_pos h]; exact ⟨fun _ => ⟨h.1, by omega⟩, fun _ => rfl⟩
  · rw [if_neg h]; exact ⟨fun h' => (by cases h'), fun h' => absurd ⟨h'.1, by omega⟩ h⟩
/-- Between equal nodes it is always the same. -/
theorem resR_self {n e s a : Int} {ws vs : List W3} (h : netB n e s ws = true) (k : netB n e s vs = true) (ha : 0 ≤ a ∧ a < n) : resR n e s ws a a = resR n e s vs a a := by
  have z : ∀ us : List W3, forestR n e s us a a = 0 := fun us => by unfold forestR; rw [if_neg (by omega)]
  have t1 := tree_pos h; have t2 := tree_pos k
  have r1 := tree_range n e s ws; have r2 := tree_range n e s vs
  have v1 := rOf_isP (n := s * 0) (d := treeR n e s ws) t1 (by simp) (by omega)
  have v2 := rOf_isP (n := s * 0) (d := treeR n e s vs) t2 (by simp) (by omega)
  obtain ⟨e1, e2⟩ := v1.eq v2 (by simp)
  unfold resR
  rw [if_pos ⟨h, by omega⟩, if_pos ⟨k, by omega⟩, z, z, e1, e2]
theorem neP_self (a b : Int) : neP a b a b = false := by simp [neP]
/-- The program's way is the same. -/
theorem sens_eq (n e s a b i : Int) (ws : List W3) : ((moreR n e s ws a b i).2.2 && neP (moreR n e s ws a b i).1 (moreR n e s ws a b i).2.1 (resR n e s ws a b).1 (resR n e s ws a b).2.1) = sensB n e s ws a b i := by
  by_cases hi : 0 ≤ i ∧ i < ws.length
  case neg => rw [moreR_no hi, sensB_no (fun h => hi h.2.1)]; rfl
  obtain ⟨j, rfl⟩ : ∃ j : Nat, i = (j : Int) := ⟨i.toNat, by omega⟩
  have hj : j < ws.length := by omega
  have hg : ws.getD ((j : Int)).toNat (0, 0, 0) = ws[j] := by rw [Int.toNat_natCast, List.getD_eq_getElem?_getD, List.getElem?_eq_getElem hj]; rfl
  rw [moreR_at hj]
  have hz : (resR 0 0 0 [] a b).2.2 = false := by
    cases h : (resR 0 0 0 [] a b).2.2
    · rfl
    · have := (resR_ok.1 h).2.1; omega
  by_cases hb : netB n e s ws = true
  case neg =>
    rw [putR_no (fun h => hb h.1), sensB_no (fun h => hb (feed_net h.1).1)]
    show ((resR 0 0 0 [] a b).2.2 && _) = false
    rw [hz]; rfl
  have hv := (netB_iff.1 hb).2.1.1 j hj
  unfold wireV at hv
  by_cases h2 : ws[j].2.2 = 200
  · rw [putR_no (fun h => by have := h.2; unfold PutOk at this; omega), sensB_no (fun h => h.2.2 (by rw [hg]; exact h2))]
    show ((resR 0 0 0 [] a b).2.2 && _) = false
    rw [hz]; rfl
  rw [put_more hb hj (by omega) (by omega)]
  have hbF : netB n e s (fltW ws j (ws[j].2.2 + 1)) = true := netB_flt hb (by omega) (by omega)
  by_cases hab : (0 ≤ a ∧ a < n) ∧ 0 ≤ b ∧ b < n
  case neg =>
    rw [sensB_no (fun h => hab (by have := feed_net h.1; exact ⟨this.2.1, this.2.2.1⟩))]
    cases h : (resR n e s (fltW ws j (ws[j].2.2 + 1)) a b).2.2
    · simp only [h, Bool.false_and]
    · exact absurd (resR_ok.1 h).2 hab
  have hok : (resR n e s (fltW ws j (ws[j].2.2 + 1)) a b).2.2 = true := resR_ok.2 ⟨hbF, hab.1, hab.2⟩
  by_cases he : a = b
  · subst he
    rw [sensB_no (fun h => (feed_net h.1).2.2.2 rfl)]
    simp only [hok, Bool.true_and]
    rw [resR_self hbF hb hab.1, neP_self]
  · rw [sensB_yes (feed_of hb hab.1 hab.2 he) hj h2]
    simp only [hok, Bool.true_and]
    unfold neP
    congr 1
    congr 1 <;> exact Bool.eq_iff_iff.2 (by simp only [beq_iff_eq]; exact ⟨Eq.symm, Eq.symm⟩)
set_option maxRecDepth 8000 in
set_option maxHeartbeats 12800000 in
theorem spec_sens (n e s a b i : Int) (v : Value) (ws : List W3) (w : World) (hr : ReadsW w v ws) (hlen : ws.length ≤ 1048576) :
    Calls Try.prog 46 #[.agg #[.int .i64 n, .int .i64 e, .int .i64 s, v], .int .i64 a, .int .i64 b, .int .i64 i] w fun en w' => en = .returned (.bool (sensB n e s ws a b i)) ∧ Below w.heap.size w w' := by
  have B0 : Below w.heap.size w (w.alloc (.cells #[.int .i64 n, .int .i64 e, .int .i64 s, v] 25)) := by (repeat (first | exact Below.refl _ _ | (refine Below.setCell ?_ (by (first | exact Nat.le_refl _ | omega | (simp <;> omega) | simp)) _) | (refine Below.alloc ?_ (by (first | exact Nat.le_refl _ | omega | (simp <;> omega) | simp)) _) | (refine below_draws ?_ _)))
  have hok := spec_l11Ok n e s a b v ws _ (hr.later B0)
  obtain ⟨p0, cap0, rfl⟩ := hr.shape
  have hwr : IntKind.i64.wrap ((ws.length : Int) - 1) = (ws.length : Int) - 1 := by rw [IntKind.wrap_i64]; omega
  cases hb : feedB n e s ws a b
  case false =>
    have HF : Hid (sensB n e s ws a b i = false) := Lib.hid (sensB_no (fun h => by rw [hb] at h; cases h.1))
    rw [hb] at hok
    clear hr B0
    go_enter Try.func46, Try.ntmps46
    go_wp2_with fail
    refine hok.mono ?_
    rintro en w1 ⟨rfl, B1⟩
    obtain ⟨hc1, hf1⟩ := bcell B1
    have S1 := B1.size
    try simp at S1
    try (have _L1w : w.heap.size < w1.heap.size := by omega)
    have _M1w : w.heap.size ≤ w1.heap.size := by omega
    try (have _P1w_1 : w.heap.size + 1 < w1.heap.size := by omega)
    try (have _P1w_2 : w.heap.size + 1 + 1 < w1.heap.size := by omega)
    try (have _P1w_3 : w.heap.size + 1 + 1 + 1 < w1.heap.size := by omega)
    have _ : w1.cell? ⟨w.heap.size, 0, none⟩ = some (.int .i64 n) := by rw [hc1 (w.heap.size) 0 (by first | omega | (simp; done) | (simp; omega))]; first | assumption | (simp; done) | simp [go_sem, *]
    have _ : w1.frozen? ⟨w.heap.size, 0, none⟩ = false := by rw [hf1 (w.heap.size) 0 (by first | omega | (simp; done) | (simp; omega))]; first | assumption | (simp; done) | simp [go_sem, *]
    have _ : w1.cell? ⟨w.heap.size, 1, none⟩ = some (.int .i64 e) := by rw [hc1 (w.heap.size) 1 (by first | omega | (simp; done) | (simp; omega))]; first | assumption | (simp; done) | simp [go_sem, *]
    have _ : w1.frozen? ⟨w.heap.size, 1, none⟩ = false := by rw [hf1 (w.heap.size) 1 (by first | omega | (simp; done) | (simp; omega))]; first | assumption | (simp; done) | simp [go_sem, *]
    have _ : w1.cell? ⟨w.heap.size, 2, none⟩ = some (.int .i64 s) := by rw [hc1 (w.heap.size) 2 (by first | omega | (simp; done) | (simp; omega))]; first | assumption | (simp; done) | simp [go_sem, *]
    have _ : w1.frozen? ⟨w.heap.size, 2, none⟩ = false := by rw [hf1 (w.heap.size) 2 (by first | omega | (simp; done) | (simp; omega))]; first | assumption | (simp; done) | simp [go_sem, *]
    have _ : w1.cell? ⟨w.heap.size, 3, none⟩ = some (.slice p0 ws.length cap0) := by rw [hc1 (w.heap.size) 3 (by first | omega | (simp; done) | (simp; omega))]; first | assumption | (simp; done) | simp [go_sem, *]
    have _ : w1.frozen? ⟨w.heap.size, 3, none⟩ = false := by rw [hf1 (w.heap.size) 3 (by first | omega | (simp; done) | (simp; omega))]; first | assumption | (simp; done) | simp [go_sem, *]
    clear hc1 hf1
    go_wp2
    go_ret
    exact ⟨ret_b (by rw [HF.out]), by (repeat (first | exact Below.refl _ _ | (refine Below.setCell ?_ (by (first | exact Nat.le_refl _ | omega | (simp <;> omega) | simp)) _) | (refine Below.alloc ?_ (by (first | exact Nat.le_refl _ | omega | (simp <;> omega) | simp)) _) | (refine below_draws ?_ _) | exact B1 | (refine Below.trans ?_ (Below.mono B1 (by (first | exact Nat.le_refl _ | omega | (simp <;> omega) | simp))))))⟩
  rw [hb] at hok
  by_cases h1 : 0 ≤ i ∧ i ≤ (ws.length : Int) - 1
  case neg =>
    have HF : Hid (sensB n e s ws a b i = false) := Lib.hid (sensB_no (fun h => by have := h.2.1; omega))
    clear hr B0
    go_enter Try.func46, Try.ntmps46
    go_wp2_with fail
    refine hok.mono ?_
    rintro en w1 ⟨rfl, B1⟩
    obtain ⟨hc1, hf1⟩ := bcell B1
    have S1 := B1.size
    try simp at S1
    try (have _L1w : w.heap.size < w1.heap.size := by omega)
    have _M1w : w.heap.size ≤ w1.heap.size := by omega
    try (have _P1w_1 : w.heap.size + 1 < w1.heap.size := by omega)
    try (have _P1w_2 : w.heap.size + 1 + 1 < w1.heap.size := by omega)
    try (have _P1w_3 : w.heap.size + 1 + 1 + 1 < w1.heap.size := by omega)
    have _ : w1.cell? ⟨w.heap.size, 0, none⟩ = some (.int .i64 n) := by rw [hc1 (w.heap.size) 0 (by first | omega | (simp; done) | (simp; omega))]; first | assumption | (simp; done) | simp [go_sem, *]
    have _ : w1.frozen? ⟨w.heap.size, 0, none⟩ = false := by rw [hf1 (w.heap.size) 0 (by first | omega | (simp; done) | (simp; omega))]; first | assumption | (simp; done) | simp [go_sem, *]
    have _ : w1.cell? ⟨w.heap.size, 1, none⟩ = some (.int .i64 e) := by rw [hc1 (w.heap.size) 1 (by first | omega | (simp; done) | (simp; omega))]; first | assumption | (simp; done) | simp [go_sem, *]
    have _ : w1.frozen? ⟨w.heap.size, 1, none⟩ = false := by rw [hf1 (w.heap.size) 1 (by first | omega | (simp; done) | (simp; omega))]; first | assumption | (simp; done) | simp [go_sem, *]
    have _ : w1.cell? ⟨w.heap.size, 2, none⟩ = some (.int .i64 s) := by rw [hc1 (w.heap.size) 2 (by first | omega | (simp; done) | (simp; omega))]; first | assumption | (simp; done) | simp [go_sem, *]
    have _ : w1.frozen? ⟨w.heap.size, 2, none⟩ = false := by rw [hf1 (w.heap.size) 2 (by first | omega | (simp; done) | (simp; omega))]; first | assumption | (simp; done) | simp [go_sem, *]
    have _ : w1.cell? ⟨w.heap.size, 3, none⟩ = some (.slice p0 ws.length cap0) := by rw [hc1 (w.heap.size) 3 (by first | omega | (simp; done) | (simp; omega))]; first | assumption | (simp; done) | simp [go_sem, *]
    have _ : w1.frozen? ⟨w.heap.size, 3, none⟩ = false := by rw [hf1 (w.heap.size) 3 (by first | omega | (simp; done) | (simp; omega))]; first | assumption | (simp; done) | simp [go_sem, *]
    clear hc1 hf1
    go_wp2_with fail
    with_reducible refine Calls.mono (in_no _ _ _ _ h1) ?_
    rintro en wq ⟨rfl, rfl⟩
    go_wp2
    go_ret
    exact ⟨ret_b (by rw [HF.out]), by (repeat (first | exact Below.refl _ _ | (refine Below.setCell ?_ (by (first | exact Nat.le_refl _ | omega | (simp <;> omega) | simp)) _) | (refine Below.alloc ?_ (by (first | exact Nat.le_refl _ | omega | (simp <;> omega) | simp)) _) | (refine below_draws ?_ _) | exact B1 | (refine Below.trans ?_ (Below.mono B1 (by (first | exact Nat.le_refl _ | omega | (simp <;> omega) | simp))))))⟩
  obtain ⟨j, rfl⟩ : ∃ j : Nat, i = (j : Int) := ⟨i.toNat, by omega⟩
  have hj : j < ws.length := by omega
  have hji : (j : Int) < (ws.length : Int) := by omega
  have hgd : ws.getD ((j : Int)).toNat (0, 0, 0) = ws[j] := by rw [Int.toNat_natCast, List.getD_eq_getElem?_getD, List.getElem?_eq_getElem hj]; rfl
  obtain ⟨g, o, rfl, -, -, c2⟩ := reads_at hr j hj
  have hg : g < w.heap.size := World.block_lt_of_cell? w _ c2
  have HRW : Hid (∀ W, Below w.heap.size w W → ReadsW W (.slice (some ⟨g, o, none⟩) ws.length cap0) ws) := Lib.hid (fun W hB => hr.later hB)
  have HC2 := Lib.hid c2
  obtain ⟨h1a, h1b⟩ := h1
  by_cases h2 : ws[j].2.2 = 200
  · have HF : Hid (sensB n e s ws a b (j : Int) = false) := Lib.hid (sensB_no (fun h => h.2.2 (by rw [hgd]; exact h2)))
    rw [h2] at HC2
    clear hr B0 c2 h2 hgd
    go_enter Try.func46, Try.ntmps46
    go_wp2_with fail
    refine hok.mono ?_
    rintro en w1 ⟨rfl, B1⟩
    have c2 := ((by (repeat (first | exact Below.refl _ _ | (refine Below.setCell ?_ (by (first | exact Nat.le_refl _ | omega | (simp <;> omega) | simp)) _) | (refine Below.alloc ?_ (by (first | exact Nat.le_refl _ | omega | (simp <;> omega) | simp)) _) | (refine below_draws ?_ _) | exact B1 | (refine Below.trans ?_ (Below.mono B1 (by (first | exact Nat.le_refl _ | omega | (simp <;> omega) | simp)))))) : Below w.heap.size w w1).cell (p := ⟨g, o + j * 3 + 2, none⟩) hg).trans HC2.out
    obtain ⟨hc1, hf1⟩ := bcell B1
    have S1 := B1.size
    try simp at S1
    try (have _L1w : w.heap.size < w1.heap.size := by omega)
    have _M1w : w.heap.size ≤ w1.heap.size := by omega
    try (have _P1w_1 : w.heap.size + 1 < w1.heap.size := by omega)
    try (have _P1w_2 : w.heap.size + 1 + 1 < w1.heap.size := by omega)
    try (have _P1w_3 : w.heap.size + 1 + 1 + 1 < w1.heap.size := by omega)
    have _ : w1.cell? ⟨w.heap.size, 0, none⟩ = some (.int .i64 n) := by rw [hc1 (w.heap.size) 0 (by first | omega | (simp; done) | (simp; omega))]; first | assumption | (simp; done) | simp [go_sem, *]
    have _ : w1.frozen? ⟨w.heap.size, 0, none⟩ = false := by rw [hf1 (w.heap.size) 0 (by first | omega | (simp; done) | (simp; omega))]; first | assumption | (simp; done) | simp [go_sem, *]
    have _ : w1.cell? ⟨w.heap.size, 1, none⟩ = some (.int .i64 e) := by rw [hc1 (w.heap.size) 1 (by first | omega | (simp; done) | (simp; omega))]; first | assumption | (simp; done) | simp [go_sem, *]
    have _ : w1.frozen? ⟨w.heap.size, 1, none⟩ = false := by rw [hf1 (w.heap.size) 1 (by first | omega | (simp; done) | (simp; omega))]; first | assumption | (simp; done) | simp [go_sem, *]
    have _ : w1.cell? ⟨w.heap.size, 2, none⟩ = some (.int .i64 s) := by rw [hc1 (w.heap.size) 2 (by first | omega | (simp; done) | (simp; omega))]; first | assumption | (simp; done) | simp [go_sem, *]
    have _ : w1.frozen? ⟨w.heap.size, 2, none⟩ = false := by rw [hf1 (w.heap.size) 2 (by first | omega | (simp; done) | (simp; omega))]; first | assumption | (simp; done) | simp [go_sem, *]
    have _ : w1.cell? ⟨w.heap.size, 3, none⟩ = some (.slice (some ⟨g, o, none⟩) ws.length cap0) := by rw [hc1 (w.heap.size) 3 (by first | omega | (simp; done) | (simp; omega))]; first | assumption | (simp; done) | simp [go_sem, *]
    have _ : w1.frozen? ⟨w.heap.size, 3, none⟩ = false := by rw [hf1 (w.heap.size) 3 (by first | omega | (simp; done) | (simp; omega))]; first | assumption | (simp; done) | simp [go_sem, *]
    clear hc1 hf1
    go_wp2_with fail
    with_reducible refine Calls.mono (in_yes _ _ _ _ h1a h1b) ?_
    rintro en wq ⟨rfl, rfl⟩
    go_wp2
    go_ret
    exact ⟨ret_b (by rw [HF.out]), by (repeat (first | exact Below.refl _ _ | (refine Below.setCell ?_ (by (first | exact Nat.le_refl _ | omega | (simp <;> omega) | simp)) _) | (refine Below.alloc ?_ (by (first | exact Nat.le_refl _ | omega | (simp <;> omega) | simp)) _) | (refine below_draws ?_ _) | exact B1 | (refine Below.trans ?_ (Below.mono B1 (by (first | exact Nat.le_refl _ | omega | (simp <;> omega) | simp))))))⟩
  have hnet := (feed_net hb).1
  have hv := (netB_iff.1 hnet).2.1.1 j hj
  unfold wireV at hv
  have HSB := Lib.hid (sensB_yes hb hj h2)
  have HMO : Hid (∀ W, ReadsW W (.slice (some ⟨g, o, none⟩) ws.length cap0) ws → Calls Try.prog 91 #[.agg #[.int .i64 n, .int .i64 e, .int .i64 s, .slice (some ⟨g, o, none⟩) ws.length cap0], .int .i64 a, .int .i64 b, .int .i64 (j : Int)] W fun en w' => en = .returned (.agg #[.int .i64 (resR n e s (fltW ws j (ws[j].2.2 + 1)) a b).1, .int .i64 (resR n e s (fltW ws j (ws[j].2.2 + 1)) a b).2.1]) ∧ Below W.heap.size W w') := Lib.hid (fun W hW => spec_more n e s a b j _ ws W hW hlen hj (by omega))
  generalize (resR n e s (fltW ws j (ws[j].2.2 + 1)) a b).1 = Q1 at *
  generalize (resR n e s (fltW ws j (ws[j].2.2 + 1)) a b).2.1 = Q2 at *
  have HRE : Hid (∀ W, ReadsW W (.slice (some ⟨g, o, none⟩) ws.length cap0) ws → Calls Try.prog 88 #[.agg #[.int .i64 n, .int .i64 e, .int .i64 s, .slice (some ⟨g, o, none⟩) ws.length cap0], .int .i64 a, .int .i64 b] W fun en w' => en = .returned (.tuple #[.agg #[.int .i64 (resR n e s ws a b).1, .int .i64 (resR n e s ws a b).2.1], .bool (resR n e s ws a b).2.2]) ∧ Below W.heap.size W w') := Lib.hid (fun W hW => spec_res n e s a b _ ws W hW)
  generalize (resR n e s ws a b).1 = P1 at *
  generalize (resR n e s ws a b).2.1 = P2 at *
  generalize (resR n e s ws a b).2.2 = P3 at *
  have h2' : ¬ ws[j].2.2 = 200 := h2
  generalize ws[j].2.2 = Y at *
  clear hr B0 c2 h2 hgd hv hnet hb
  go_enter Try.func46, Try.ntmps46
  go_wp2_with fail
  refine hok.mono ?_
  rintro en w1 ⟨rfl, B1⟩
  have HB1 : Hid (Below w.heap.size w w1) := Lib.hid (by (repeat (first | exact Below.refl _ _ | (refine Below.setCell ?_ (by (first | exact Nat.le_refl _ | omega | (simp <;> omega) | simp)) _) | (refine Below.alloc ?_ (by (first | exact Nat.le_refl _ | omega | (simp <;> omega) | simp)) _) | (refine below_draws ?_ _) | exact B1 | (refine Below.trans ?_ (Below.mono B1 (by (first | exact Nat.le_refl _ | omega | (simp <;> omega) | simp)))))))
  have c2 := (HB1.out.cell (p := ⟨g, o + j * 3 + 2, none⟩) hg).trans HC2.out
  obtain ⟨hc1, hf1⟩ := bcell B1
  have S1 := B1.size
  try simp at S1
  try (have _L1w : w.heap.size < w1.heap.size := by omega)
  have _M1w : w.heap.size ≤ w1.heap.size := by omega
  try (have _P1w_1 : w.heap.size + 1 < w1.heap.size := by omega)
  try (have _P1w_2 : w.heap.size + 1 + 1 < w1.heap.size := by omega)
  try (have _P1w_3 : w.heap.size + 1 + 1 + 1 < w1.heap.size := by omega)
  have _ : w1.cell? ⟨w.heap.size, 0, none⟩ = some (.int .i64 n) := by rw [hc1 (w.heap.size) 0 (by first | omega | (simp; done) | (simp; omega))]; first | assumption | (simp; done) | simp [go_sem, *]
  have _ : w1.frozen? ⟨w.heap.size, 0, none⟩ = false := by rw [hf1 (w.heap.size) 0 (by first | omega | (simp; done) | (simp; omega))]; first | assumption | (simp; done) | simp [go_sem, *]
  have _ : w1.cell? ⟨w.heap.size, 1, none⟩ = some (.int .i64 e) := by rw [hc1 (w.heap.size) 1 (by first | omega | (simp; done) | (simp; omega))]; first | assumption | (simp; done) | simp [go_sem, *]
  have _ : w1.frozen? ⟨w.heap.size, 1, none⟩ = false := by rw [hf1 (w.heap.size) 1 (by first | omega | (simp; done) | (simp; omega))]; first | assumption | (simp; done) | simp [go_sem, *]
  have _ : w1.cell? ⟨w.heap.size, 2, none⟩ = some (.int .i64 s) := by rw [hc1 (w.heap.size) 2 (by first | omega | (simp; done) | (simp; omega))]; first | assumption | (simp; done) | simp [go_sem, *]
  have _ : w1.frozen? ⟨w.heap.size, 2, none⟩ = false := by rw [hf1 (w.heap.size) 2 (by first | omega | (simp; done) | (simp; omega))]; first | assumption | (simp; done) | simp [go_sem, *]
  have _ : w1.cell? ⟨w.heap.size, 3, none⟩ = some (.slice (some ⟨g, o, none⟩) ws.length cap0) := by rw [hc1 (w.heap.size) 3 (by first | omega | (simp; done) | (simp; omega))]; first | assumption | (simp; done) | simp [go_sem, *]
  have _ : w1.frozen? ⟨w.heap.size, 3, none⟩ = false := by rw [hf1 (w.heap.size) 3 (by first | omega | (simp; done) | (simp; omega))]; first | assumption | (simp; done) | simp [go_sem, *]
  clear hc1 hf1
  clear hok B1
  go_wp2_with fail
  with_reducible refine Calls.mono (in_yes _ _ _ _ h1a h1b) ?_
  rintro en wq ⟨rfl, rfl⟩
  go_wp2_with fail
  with_reducible refine Calls.mono (HRE.out _ (HRW.out _ HB1.out)) ?_
  rintro en w3 ⟨rfl, B3⟩
  have HB3 : Hid (Below w.heap.size w w3) := Lib.hid (HB1.out.trans (B3.mono HB1.out.size))
  obtain ⟨hc3, hf3⟩ := bcell B3
  have S3 := B3.size
  try simp at S3
  try (have _L3w : w.heap.size < w3.heap.size := by omega)
  have _M3w : w.heap.size ≤ w3.heap.size := by omega
  try (have _P3w_1 : w.heap.size + 1 < w3.heap.size := by omega)
  try (have _P3w_2 : w.heap.size + 1 + 1 < w3.heap.size := by omega)
  try (have _P3w_3 : w.heap.size + 1 + 1 + 1 < w3.heap.size := by omega)
  try (have _L3w1 : w1.heap.size < w3.heap.size := by omega)
  have _M3w1 : w1.heap.size ≤ w3.heap.size := by omega
  try (have _P3w1_1 : w1.heap.size + 1 < w3.heap.size := by omega)
  try (have _P3w1_2 : w1.heap.size + 1 + 1 < w3.heap.size := by omega)
  try (have _P3w1_3 : w1.heap.size + 1 + 1 + 1 < w3.heap.size := by omega)
  have _ : w3.cell? ⟨w.heap.size, 0, none⟩ = some (.int .i64 n) := by rw [hc3 (w.heap.size) 0 (by first | omega | (simp; done) | (simp; omega))]; first | assumption | (simp; done) | simp [go_sem, *]
  have _ : w3.frozen? ⟨w.heap.size, 0, none⟩ = false := by rw [hf3 (w.heap.size) 0 (by first | omega | (simp; done) | (simp; omega))]; first | assumption | (simp; done) | simp [go_sem, *]
  have _ : w3.cell? ⟨w.heap.size, 1, none⟩ = some (.int .i64 e) := by rw [hc3 (w.heap.size) 1 (by first | omega | (simp; done) | (simp; omega))]; first | assumption | (simp; done) | simp [go_sem, *]
  have _ : w3.frozen? ⟨w.heap.size, 1, none⟩ = false := by rw [hf3 (w.heap.size) 1 (by first | omega | (simp; done) | (simp; omega))]; first | assumption | (simp; done) | simp [go_sem, *]
  have _ : w3.cell? ⟨w.heap.size, 2, none⟩ = some (.int .i64 s) := by rw [hc3 (w.heap.size) 2 (by first | omega | (simp; done) | (simp; omega))]; first | assumption | (simp; done) | simp [go_sem, *]
  have _ : w3.frozen? ⟨w.heap.size, 2, none⟩ = false := by rw [hf3 (w.heap.size) 2 (by first | omega | (simp; done) | (simp; omega))]; first | assumption | (simp; done) | simp [go_sem, *]
  have _ : w3.cell? ⟨w.heap.size, 3, none⟩ = some (.slice (some ⟨g, o, none⟩) ws.length cap0) := by rw [hc3 (w.heap.size) 3 (by first | omega | (simp; done) | (simp; omega))]; first | assumption | (simp; done) | simp [go_sem, *]
  have _ : w3.frozen? ⟨w.heap.size, 3, none⟩ = false := by rw [hf3 (w.heap.size) 3 (by first | omega | (simp; done) | (simp; omega))]; first | assumption | (simp; done) | simp [go_sem, *]
  clear hc3 hf3
  clear B3 c2
  obtain ⟨W0, hW0⟩ : ∃ W0, W0 = w3.alloc (.cells #[.int .i64 P1, .int .i64 P2] 43) := ⟨_, rfl⟩
  obtain ⟨B, hBe⟩ : ∃ B, B = w3.heap.size := ⟨_, rfl⟩
  have HB0 : Hid (Below w.heap.size w W0) := Lib.hid (by rw [hW0]; exact HB3.out.alloc HB3.out.size _)
  have HRD : Hid (∀ W, Below W0.heap.size W0 W → ReadsW W (.slice (some ⟨g, o, none⟩) ws.length cap0) ws) := Lib.hid (fun W hB => HRW.out W (HB0.out.trans (hB.mono HB0.out.size)))
  have hS : W0.cell? ⟨w.heap.size, 0, none⟩ = some (.int .i64 n) ∧ W0.cell? ⟨w.heap.size, 1, none⟩ = some (.int .i64 e) ∧ W0.cell? ⟨w.heap.size, 2, none⟩ = some (.int .i64 s) ∧ W0.cell? ⟨w.heap.size, 3, none⟩ = some (.slice (some ⟨g, o, none⟩) ws.length cap0) ∧ W0.cell? ⟨B, 0, none⟩ = some (.int .i64 P1) ∧ W0.cell? ⟨B, 1, none⟩ = some (.int .i64 P2) ∧ W0.heap.size ≤ W0.heap.size ∧ W0.heap.size ≤ W0.heap.size ∧ Below W0.heap.size W0 W0 := by
    have hw : w.heap.size ≠ w3.heap.size := by have := HB3.out.size; omega
    have x0 : w3.cell? ⟨w.heap.size, 0, none⟩ = some (.int .i64 n) := by assumption
    have x1 : w3.cell? ⟨w.heap.size, 1, none⟩ = some (.int .i64 e) := by assumption
    have x2 : w3.cell? ⟨w.heap.size, 2, none⟩ = some (.int .i64 s) := by assumption
    have x3 : w3.cell? ⟨w.heap.size, 3, none⟩ = some (.slice (some ⟨g, o, none⟩) ws.length cap0) := by assumption
    have hx := box2.new w3 (.int .i64 P1) (.int .i64 P2) 43
    rw [← hW0, ← hBe] at hx
    exact ⟨by rw [hW0]; exact (World.cell?_alloc_old w3 _ ⟨w.heap.size, 0, none⟩ hw).trans x0, by rw [hW0]; exact (World.cell?_alloc_old w3 _ ⟨w.heap.size, 1, none⟩ hw).trans x1, by rw [hW0]; exact (World.cell?_alloc_old w3 _ ⟨w.heap.size, 2, none⟩ hw).trans x2, by rw [hW0]; exact (World.cell?_alloc_old w3 _ ⟨w.heap.size, 3, none⟩ hw).trans x3, hx.1, hx.2.1, Nat.le_refl _, Nat.le_refl _, Below.refl _ _⟩
  replace hS := k6_drew hS
  go_upto_region 4 with fail
  rw [← hW0, ← hBe]
  clear hW0 hBe HB3 HB1 HRE HC2 HRW
  by_cases e1 : P1 = Q1
  · subst e1
    by_cases e2 : P2 = Q2
    · subst e2
      have HF : Hid (sensB n e s ws a b (j : Int) = false) := Lib.hid (by rw [HSB.out, neP_self])
      clear HSB
      refine wp_region_held_drew (S := fun w' => w'.cell? ⟨w.heap.size, 0, none⟩ = some (.int .i64 n) ∧ w'.cell? ⟨w.heap.size, 1, none⟩ = some (.int .i64 e) ∧ w'.cell? ⟨w.heap.size, 2, none⟩ = some (.int .i64 s) ∧ w'.cell? ⟨w.heap.size, 3, none⟩ = some (.slice (some ⟨g, o, none⟩) ws.length cap0) ∧ w'.cell? ⟨B, 0, none⟩ = some (.int .i64 P1) ∧ w'.cell? ⟨B, 1, none⟩ = some (.int .i64 P2) ∧ W0.heap.size ≤ w'.heap.size ∧ W0.heap.size ≤ W0.heap.size ∧ Below W0.heap.size W0 w') (by kernel_rfl) hS (fun hHeld => ?_)
      refine take_on (i := 0) (d := some 41) (v := .agg #[.int .i64 P1, .int .i64 P2]) rfl rfl (by kernel_rfl) (by kernel_rfl) (by kernel_rfl) (fun _ _ _ h => h) (by rfl) (by (intro w hSw; (try dsimp only at hSw); go_simp)) (by assumption) ?_
      try simp only [Act.put, List.setIfInBounds_toArray, List.set_cons_zero, List.set_cons_succ]
      refine take_on (i := 1) (d := some 42) (v := .agg #[.int .i64 n, .int .i64 e, .int .i64 s, .slice (some ⟨g, o, none⟩) ws.length cap0]) rfl rfl (by kernel_rfl) (by kernel_rfl) (by kernel_rfl) (fun _ _ _ h => h) (by rfl) (by (intro w hSw; (try dsimp only at hSw); go_simp)) (by assumption) ?_
      try simp only [Act.put, List.setIfInBounds_toArray, List.set_cons_zero, List.set_cons_succ]
      refine take_on (i := 2) (d := some 43) (v := .int .i64 a) rfl rfl (by kernel_rfl) (by kernel_rfl) (by kernel_rfl) (fun _ _ _ h => h) (by rfl) (by (intro w hSw; (try dsimp only at hSw); go_simp)) (by assumption) ?_
      try simp only [Act.put, List.setIfInBounds_toArray, List.set_cons_zero, List.set_cons_succ]
      refine take_on (i := 3) (d := some 44) (v := .int .i64 b) rfl rfl (by kernel_rfl) (by kernel_rfl) (by kernel_rfl) (fun _ _ _ h => h) (by rfl) (by (intro w hSw; (try dsimp only at hSw); go_simp)) (by assumption) ?_
      try simp only [Act.put, List.setIfInBounds_toArray, List.set_cons_zero, List.set_cons_succ]
      refine take_on (i := 4) (d := some 45) (v := .int .i64 (j : Int)) rfl rfl (by kernel_rfl) (by kernel_rfl) (by kernel_rfl) (fun _ _ _ h => h) (by rfl) (by (intro w hSw; (try dsimp only at hSw); go_simp)) (by assumption) ?_
      try simp only [Act.put, List.setIfInBounds_toArray, List.set_cons_zero, List.set_cons_succ]
      refine wpAnyH_ready (rs := [5]) (by kernel_rfl) (by simp) ?_
      refine AllReadyH.cons rfl (fun K hK => ?_) AllReadyH.nil
      go_simp
      with_reducible refine Calls.mono (HMO.out _ (HRD.out _ hS.2.2.2.2.2.2.2.2)) ?_
      rintro en w5 ⟨rfl, B5⟩
      replace hS := k6_keep B5 hS
      clear B5
      go_wp2_with fail
      refine hK.out _ _ hS (fun hHeld => ?_)
      clear hK K hHeld
      try simp only [Act.put, List.setIfInBounds_toArray, List.set_cons_zero, List.set_cons_succ]
      refine take_on (i := 6) (d := some 47) (v := .bool false) rfl rfl (by kernel_rfl) (by kernel_rfl) (by kernel_rfl) (fun _ _ _ h => h) (by rfl) (by (intro w hSw; (try dsimp only at hSw); go_simp)) (by assumption) ?_
      try simp only [Act.put, List.setIfInBounds_toArray, List.set_cons_zero, List.set_cons_succ]
      refine take_on (i := 7) (d := some 8) (v := .bool false) rfl rfl (by kernel_rfl) (by kernel_rfl) (by kernel_rfl) (fun _ _ _ h => h) (by rfl) (by (intro w hSw; (try dsimp only at hSw); go_simp)) (by assumption) ?_
      try simp only [Act.put, List.setIfInBounds_toArray, List.set_cons_zero, List.set_cons_succ]
      refine wpAnyH_done (by kernel_rfl) ?_ _
      have hB := hS.2.2.2.2.2.2.2.2
      clear hS
      go_wp2
      go_ret
      exact ⟨ret_b (by rw [HF.out]), HB0.out.trans (hB.mono HB0.out.size)⟩
    · have HF : Hid (sensB n e s ws a b (j : Int) = true) := Lib.hid (by rw [HSB.out]; simp [neP, e2])
      have e2' : (P2 == Q2) = false := by simpa using e2
      clear HSB e2
      refine wp_region_held_drew (S := fun w' => w'.cell? ⟨w.heap.size, 0, none⟩ = some (.int .i64 n) ∧ w'.cell? ⟨w.heap.size, 1, none⟩ = some (.int .i64 e) ∧ w'.cell? ⟨w.heap.size, 2, none⟩ = some (.int .i64 s) ∧ w'.cell? ⟨w.heap.size, 3, none⟩ = some (.slice (some ⟨g, o, none⟩) ws.length cap0) ∧ w'.cell? ⟨B, 0, none⟩ = some (.int .i64 P1) ∧ w'.cell? ⟨B, 1, none⟩ = some (.int .i64 P2) ∧ W0.heap.size ≤ w'.heap.size ∧ W0.heap.size ≤ W0.heap.size ∧ Below W0.heap.size W0 w') (by kernel_rfl) hS (fun hHeld => ?_)
      refine take_on (i := 0) (d := some 41) (v := .agg #[.int .i64 P1, .int .i64 P2]) rfl rfl (by kernel_rfl) (by kernel_rfl) (by kernel_rfl) (fun _ _ _ h => h) (by rfl) (by (intro w hSw; (try dsimp only at hSw); go_simp)) (by assumption) ?_
      try simp only [Act.put, List.setIfInBounds_toArray, List.set_cons_zero, List.set_cons_succ]
      refine take_on (i := 1) (d := some 42) (v := .agg #[.int .i64 n, .int .i64 e, .int .i64 s, .slice (some ⟨g, o, none⟩) ws.length cap0]) rfl rfl (by kernel_rfl) (by kernel_rfl) (by kernel_rfl) (fun _ _ _ h => h) (by rfl) (by (intro w hSw; (try dsimp only at hSw); go_simp)) (by assumption) ?_
      try simp only [Act.put, List.setIfInBounds_toArray, List.set_cons_zero, List.set_cons_succ]
      refine take_on (i := 2) (d := some 43) (v := .int .i64 a) rfl rfl (by kernel_rfl) (by kernel_rfl) (by kernel_rfl) (fun _ _ _ h => h) (by rfl) (by (intro w hSw; (try dsimp only at hSw); go_simp)) (by assumption) ?_
      try simp only [Act.put, List.setIfInBounds_toArray, List.set_cons_zero, List.set_cons_succ]
      refine take_on (i := 3) (d := some 44) (v := .int .i64 b) rfl rfl (by kernel_rfl) (by kernel_rfl) (by kernel_rfl) (fun _ _ _ h => h) (by rfl) (by (intro w hSw; (try dsimp only at hSw); go_simp)) (by assumption) ?_
      try simp only [Act.put, List.setIfInBounds_toArray, List.set_cons_zero, List.set_cons_succ]
      refine take_on (i := 4) (d := some 45) (v := .int .i64 (j : Int)) rfl rfl (by kernel_rfl) (by kernel_rfl) (by kernel_rfl) (fun _ _ _ h => h) (by rfl) (by (intro w hSw; (try dsimp only at hSw); go_simp)) (by assumption) ?_
      try simp only [Act.put, List.setIfInBounds_toArray, List.set_cons_zero, List.set_cons_succ]
      refine wpAnyH_ready (rs := [5]) (by kernel_rfl) (by simp) ?_
      refine AllReadyH.cons rfl (fun K hK => ?_) AllReadyH.nil
      go_simp
      with_reducible refine Calls.mono (HMO.out _ (HRD.out _ hS.2.2.2.2.2.2.2.2)) ?_
      rintro en w5 ⟨rfl, B5⟩
      replace hS := k6_keep B5 hS
      clear B5
      go_wp2_with fail
      refine hK.out _ _ hS (fun hHeld => ?_)
      clear hK K hHeld
      try simp only [Act.put, List.setIfInBounds_toArray, List.set_cons_zero, List.set_cons_succ]
      refine take_on (i := 6) (d := some 47) (v := .bool true) rfl rfl (by kernel_rfl) (by kernel_rfl) (by kernel_rfl) (fun _ _ _ h => h) (by rfl) (by (intro w hSw; (try dsimp only at hSw); go_simp)) (by assumption) ?_
      try simp only [Act.put, List.setIfInBounds_toArray, List.set_cons_zero, List.set_cons_succ]
      refine take_on (i := 7) (d := some 8) (v := .bool true) rfl rfl (by kernel_rfl) (by kernel_rfl) (by kernel_rfl) (fun _ _ _ h => h) (by rfl) (by (intro w hSw; (try dsimp only at hSw); go_simp)) (by assumption) ?_
      try simp only [Act.put, List.setIfInBounds_toArray, List.set_cons_zero, List.set_cons_succ]
      refine wpAnyH_done (by kernel_rfl) ?_ _
      have hB := hS.2.2.2.2.2.2.2.2
      clear hS
      go_wp2
      go_ret
      exact ⟨ret_b (by rw [HF.out]), HB0.out.trans (hB.mono HB0.out.size)⟩
  · have HF : Hid (sensB n e s ws a b (j : Int) = true) := Lib.hid (by rw [HSB.out]; simp [neP, e1])
    have e1' : (P1 == Q1) = false := by simpa using e1
    clear HSB e1
    refine wp_region_held_drew (S := fun w' => w'.cell? ⟨w.heap.size, 0, none⟩ = some (.int .i64 n) ∧ w'.cell? ⟨w.heap.size, 1, none⟩ = some (.int .i64 e) ∧ w'.cell? ⟨w.heap.size, 2, none⟩ = some (.int .i64 s) ∧ w'.cell? ⟨w.heap.size, 3, none⟩ = some (.slice (some ⟨g, o, none⟩) ws.length cap0) ∧ w'.cell? ⟨B, 0, none⟩ = some (.int .i64 P1) ∧ w'.cell? ⟨B, 1, none⟩ = some (.int .i64 P2) ∧ W0.heap.size ≤ w'.heap.size ∧ W0.heap.size ≤ W0.heap.size ∧ Below W0.heap.size W0 w') (by kernel_rfl) hS (fun hHeld => ?_)
    refine take_on (i := 0) (d := some 41) (v := .agg #[.int .i64 P1, .int .i64 P2]) rfl rfl (by kernel_rfl) (by kernel_rfl) (by kernel_rfl) (fun _ _ _ h => h) (by rfl) (by (intro w hSw; (try dsimp only at hSw); go_simp)) (by assumption) ?_
    try simp only [Act.put, List.setIfInBounds_toArray, List.set_cons_zero, List.set_cons_succ]
    refine take_on (i := 1) (d := some 42) (v := .agg #[.int .i64 n, .int .i64 e, .int .i64 s, .slice (some ⟨g, o, none⟩) ws.length cap0]) rfl rfl (by kernel_rfl) (by kernel_rfl) (by kernel_rfl) (fun _ _ _ h => h) (by rfl) (by (intro w hSw; (try dsimp only at hSw); go_simp)) (by assumption) ?_
    try simp only [Act.put, List.setIfInBounds_toArray, List.set_cons_zero, List.set_cons_succ]
    refine take_on (i := 2) (d := some 43) (v := .int .i64 a) rfl rfl (by kernel_rfl) (by kernel_rfl) (by kernel_rfl) (fun _ _ _ h => h) (by rfl) (by (intro w hSw; (try dsimp only at hSw); go_simp)) (by assumption) ?_
    try simp only [Act.put, List.setIfInBounds_toArray, List.set_cons_zero, List.set_cons_succ]
    refine take_on (i := 3) (d := some 44) (v := .int .i64 b) rfl rfl (by kernel_rfl) (by kernel_rfl) (by kernel_rfl) (fun _ _ _ h => h) (by rfl) (by (intro w hSw; (try dsimp only at hSw); go_simp)) (by assumption) ?_
    try simp only [Act.put, List.setIfInBounds_toArray, List.set_cons_zero, List.set_cons_succ]
    refine take_on (i := 4) (d := some 45) (v := .int .i64 (j : Int)) rfl rfl (by kernel_rfl) (by kernel_rfl) (by kernel_rfl) (fun _ _ _ h => h) (by rfl) (by (intro w hSw; (try dsimp only at hSw); go_simp)) (by assumption) ?_
    try simp only [Act.put, List.setIfInBounds_toArray, List.set_cons_zero, List.set_cons_succ]
    refine wpAnyH_ready (rs := [5]) (by kernel_rfl) (by simp) ?_
    refine AllReadyH.cons rfl (fun K hK => ?_) AllReadyH.nil
    go_simp
    with_reducible refine Calls.mono (HMO.out _ (HRD.out _ hS.2.2.2.2.2.2.2.2)) ?_
    rintro en w5 ⟨rfl, B5⟩
    replace hS := k6_keep B5 hS
    clear B5
    go_wp2_with fail
    refine hK.out _ _ hS (fun hHeld => ?_)
    clear hK K hHeld
    try simp only [Act.put, List.setIfInBounds_toArray, List.set_cons_zero, List.set_cons_succ]
    refine take_on (i := 6) (d := some 47) (v := .bool true) rfl rfl (by kernel_rfl) (by kernel_rfl) (by kernel_rfl) (fun _ _ _ h => h) (by rfl) (by (intro w hSw; (try dsimp only at hSw); go_simp)) (by assumption) ?_
    try simp only [Act.put, List.setIfInBounds_toArray, List.set_cons_zero, List.set_cons_succ]
    refine take_on (i := 7) (d := some 8) (v := .bool true) rfl rfl (by kernel_rfl) (by kernel_rfl) (by kernel_rfl) (fun _ _ _ h => h) (by rfl) (by (intro w hSw; (try dsimp only at hSw); go_simp)) (by assumption) ?_
    try simp only [Act.put, List.setIfInBounds_toArray, List.set_cons_zero, List.set_cons_succ]
    refine wpAnyH_done (by kernel_rfl) ?_ _
    have hB := hS.2.2.2.2.2.2.2.2
    clear hS
    go_wp2
    go_ret
    exact ⟨ret_b (by rw [HF.out]), HB0.out.trans (hB.mono HB0.out.size)⟩
set_option maxRecDepth 8000 in
set_option maxHeartbeats 12800000 in
theorem impl_sens (n e s a b i : Int) (v : Value) (ws : List W3) (w : World) (hr : ReadsW w v ws) :
    Calls Try.prog 47 #[.agg #[.int .i64 n, .int .i64 e, .int .i64 s, v], .int .i64 a, .int .i64 b, .int .i64 i] w fun en w' => en = .returned (.bool (sensB n e s ws a b i)) ∧ Below w.heap.size w w' := by
  have B0 : Below w.heap.size w (w.alloc (.cells #[.int .i64 n, .int .i64 e, .int .i64 s, v] 25)) := by (repeat (first | exact Below.refl _ _ | (refine Below.setCell ?_ (by (first | exact Nat.le_refl _ | omega | (simp <;> omega) | simp)) _) | (refine Below.alloc ?_ (by (first | exact Nat.le_refl _ | omega | (simp <;> omega) | simp)) _) | (refine below_draws ?_ _)))
  have hre := impl_res n e s a b v ws _ (hr.later B0)
  have HMO : Hid (∀ W, Below w.heap.size w W → Calls Try.prog 92 #[.agg #[.int .i64 n, .int .i64 e, .int .i64 s, v], .int .i64 a, .int .i64 b, .int .i64 i] W fun en w' => en = .returned (.tuple #[.agg #[.int .i64 (moreR n e s ws a b i).1, .int .i64 (moreR n e s ws a b i).2.1], .bool (moreR n e s ws a b i).2.2]) ∧ Below W.heap.size W w') := Lib.hid (fun W hW => impl_more n e s a b i _ ws W (hr.later hW))
  have HSE := Lib.hid (sens_eq n e s a b i ws)
  obtain ⟨p0, cap0, rfl⟩ := hr.shape
  generalize (moreR n e s ws a b i).1 = Q1 at *
  generalize (moreR n e s ws a b i).2.1 = Q2 at *
  generalize (moreR n e s ws a b i).2.2 = Q3 at *
  generalize (resR n e s ws a b).1 = P1 at *
  generalize (resR n e s ws a b).2.1 = P2 at *
  generalize (resR n e s ws a b).2.2 = P3 at *
  have HBA := Lib.hid B0
  clear hr B0
  go_enter Try.func47, Try.ntmps47
  go_wp2_with fail
  refine hre.mono ?_
  rintro en w1 ⟨rfl, B1⟩
  have HB1 : Hid (Below w.heap.size w w1) := Lib.hid (by (repeat (first | exact Below.refl _ _ | (refine Below.setCell ?_ (by (first | exact Nat.le_refl _ | omega | (simp <;> omega) | simp)) _) | (refine Below.alloc ?_ (by (first | exact Nat.le_refl _ | omega | (simp <;> omega) | simp)) _) | (refine below_draws ?_ _) | exact B1 | (refine Below.trans ?_ (Below.mono B1 (by (first | exact Nat.le_refl _ | omega | (simp <;> omega) | simp)))))))
  obtain ⟨hc1, hf1⟩ := bcell B1
  have S1 := B1.size
  try simp at S1
  try (have _L1w : w.heap.size < w1.heap.size := by omega)
  have _M1w : w.heap.size ≤ w1.heap.size := by omega
  try (have _P1w_1 : w.heap.size + 1 < w1.heap.size := by omega)
  try (have _P1w_2 : w.heap.size + 1 + 1 < w1.heap.size := by omega)
  try (have _P1w_3 : w.heap.size + 1 + 1 + 1 < w1.heap.size := by omega)
  have _ : w1.cell? ⟨w.heap.size, 0, none⟩ = some (.int .i64 n) := by rw [hc1 (w.heap.size) 0 (by first | omega | (simp; done) | (simp; omega))]; first | assumption | (simp; done) | simp [go_sem, *]
  have _ : w1.frozen? ⟨w.heap.size, 0, none⟩ = false := by rw [hf1 (w.heap.size) 0 (by first | omega | (simp; done) | (simp; omega))]; first | assumption | (simp; done) | simp [go_sem, *]
  have _ : w1.cell? ⟨w.heap.size, 1, none⟩ = some (.int .i64 e) := by rw [hc1 (w.heap.size) 1 (by first | omega | (simp; done) | (simp; omega))]; first | assumption | (simp; done) | simp [go_sem, *]
  have _ : w1.frozen? ⟨w.heap.size, 1, none⟩ = false := by rw [hf1 (w.heap.size) 1 (by first | omega | (simp; done) | (simp; omega))]; first | assumption | (simp; done) | simp [go_sem, *]
  have _ : w1.cell? ⟨w.heap.size, 2, none⟩ = some (.int .i64 s) := by rw [hc1 (w.heap.size) 2 (by first | omega | (simp; done) | (simp; omega))]; first | assumption | (simp; done) | simp [go_sem, *]
  have _ : w1.frozen? ⟨w.heap.size, 2, none⟩ = false := by rw [hf1 (w.heap.size) 2 (by first | omega | (simp; done) | (simp; omega))]; first | assumption | (simp; done) | simp [go_sem, *]
  have _ : w1.cell? ⟨w.heap.size, 3, none⟩ = some (.slice p0 ws.length cap0) := by rw [hc1 (w.heap.size) 3 (by first | omega | (simp; done) | (simp; omega))]; first | assumption | (simp; done) | simp [go_sem, *]
  have _ : w1.frozen? ⟨w.heap.size, 3, none⟩ = false := by rw [hf1 (w.heap.size) 3 (by first | omega | (simp; done) | (simp; omega))]; first | assumption | (simp; done) | simp [go_sem, *]
  clear hc1 hf1
  clear B1 hre HBA
  have hS1 := HB1.out.size
  go_wp2_with fail
  refine (HMO.out _ (by have h1 := HB1.out; (repeat (first | exact Below.refl _ _ | (refine Below.setCell ?_ (by (first | exact Nat.le_refl _ | omega | (simp <;> omega) | simp)) _) | (refine Below.alloc ?_ (by (first | exact Nat.le_refl _ | omega | (simp <;> omega) | simp)) _) | (refine below_draws ?_ _) | exact h1 | (refine Below.trans ?_ (Below.mono h1 (by (first | exact Nat.le_refl _ | omega | (simp <;> omega) | simp)))))))).mono ?_
  rintro en w3 ⟨rfl, B3⟩
  have HB3 : Hid (Below w.heap.size w w3) := Lib.hid (by have h1 := HB1.out; (repeat (first | exact Below.refl _ _ | (refine Below.setCell ?_ (by (first | exact Nat.le_refl _ | omega | (simp <;> omega) | simp)) _) | (refine Below.alloc ?_ (by (first | exact Nat.le_refl _ | omega | (simp <;> omega) | simp)) _) | (refine below_draws ?_ _) | exact h1 | (refine Below.trans ?_ (Below.mono h1 (by (first | exact Nat.le_refl _ | omega | (simp <;> omega) | simp)))) | exact B3 | (refine Below.trans ?_ (Below.mono B3 (by (first | exact Nat.le_refl _ | omega | (simp <;> omega) | simp)))))))
  obtain ⟨hc3, hf3⟩ := bcell B3
  have S3 := B3.size
  try simp at S3
  try (have _L3w : w.heap.size < w3.heap.size := by omega)
  have _M3w : w.heap.size ≤ w3.heap.size := by omega
  try (have _P3w_1 : w.heap.size + 1 < w3.heap.size := by omega)
  try (have _P3w_2 : w.heap.size + 1 + 1 < w3.heap.size := by omega)
  try (have _P3w_3 : w.heap.size + 1 + 1 + 1 < w3.heap.size := by omega)
  try (have _L3w1 : w1.heap.size < w3.heap.size := by omega)
  have _M3w1 : w1.heap.size ≤ w3.heap.size := by omega
  try (have _P3w1_1 : w1.heap.size + 1 < w3.heap.size := by omega)
  try (have _P3w1_2 : w1.heap.size + 1 + 1 < w3.heap.size := by omega)
  try (have _P3w1_3 : w1.heap.size + 1 + 1 + 1 < w3.heap.size := by omega)
  have _ : w3.cell? ⟨w.heap.size, 0, none⟩ = some (.int .i64 n) := by rw [hc3 (w.heap.size) 0 (by first | omega | (simp; done) | (simp; omega))]; first | assumption | (simp; done) | simp [go_sem, *]
  have _ : w3.frozen? ⟨w.heap.size, 0, none⟩ = false := by rw [hf3 (w.heap.size) 0 (by first | omega | (simp; done) | (simp; omega))]; first | assumption | (simp; done) | simp [go_sem, *]
  have _ : w3.cell? ⟨w.heap.size, 1, none⟩ = some (.int .i64 e) := by rw [hc3 (w.heap.size) 1 (by first | omega | (simp; done) | (simp; omega))]; first | assumption | (simp; done) | simp [go_sem, *]
  have _ : w3.frozen? ⟨w.heap.size, 1, none⟩ = false := by rw [hf3 (w.heap.size) 1 (by first | omega | (simp; done) | (simp; omega))]; first | assumption | (simp; done) | simp [go_sem, *]
  have _ : w3.cell? ⟨w.heap.size, 2, none⟩ = some (.int .i64 s) := by rw [hc3 (w.heap.size) 2 (by first | omega | (simp; done) | (simp; omega))]; first | assumption | (simp; done) | simp [go_sem, *]
  have _ : w3.frozen? ⟨w.heap.size, 2, none⟩ = false := by rw [hf3 (w.heap.size) 2 (by first | omega | (simp; done) | (simp; omega))]; first | assumption | (simp; done) | simp [go_sem, *]
  have _ : w3.cell? ⟨w.heap.size, 3, none⟩ = some (.slice p0 ws.length cap0) := by rw [hc3 (w.heap.size) 3 (by first | omega | (simp; done) | (simp; omega))]; first | assumption | (simp; done) | simp [go_sem, *]
  have _ : w3.frozen? ⟨w.heap.size, 3, none⟩ = false := by rw [hf3 (w.heap.size) 3 (by first | omega | (simp; done) | (simp; omega))]; first | assumption | (simp; done) | simp [go_sem, *]
  have _ : w3.cell? ⟨w1.heap.size, 0, none⟩ = some (.int .i64 P1) := by rw [hc3 (w1.heap.size) 0 (by first | omega | (simp; done) | (simp; omega))]; first | assumption | (simp; done) | simp [go_sem, *]
  have _ : w3.frozen? ⟨w1.heap.size, 0, none⟩ = false := by rw [hf3 (w1.heap.size) 0 (by first | omega | (simp; done) | (simp; omega))]; first | assumption | (simp; done) | simp [go_sem, *]
  have _ : w3.cell? ⟨w1.heap.size, 1, none⟩ = some (.int .i64 P2) := by rw [hc3 (w1.heap.size) 1 (by first | omega | (simp; done) | (simp; omega))]; first | assumption | (simp; done) | simp [go_sem, *]
  have _ : w3.frozen? ⟨w1.heap.size, 1, none⟩ = false := by rw [hf3 (w1.heap.size) 1 (by first | omega | (simp; done) | (simp; omega))]; first | assumption | (simp; done) | simp [go_sem, *]
  clear hc3 hf3
  clear B3 HMO HB1
  have hS3 := HB3.out.size
  cases Q3
  · have HF : Hid (sensB n e s ws a b i = false) := Lib.hid (by rw [← HSE.out]; rfl)
    clear HSE
    go_wp2
    go_ret
    exact ⟨ret_b (by rw [HF.out]), by have h1 := HB3.out; (repeat (first | exact Below.refl _ _ | (refine Below.setCell ?_ (by (first | exact Nat.le_refl _ | omega | (simp <;> omega) | simp)) _) | (refine Below.alloc ?_ (by (first | exact Nat.le_refl _ | omega | (simp <;> omega) | simp)) _) | (refine below_draws ?_ _) | exact h1 | (refine Below.trans ?_ (Below.mono h1 (by (first | exact Nat.le_refl _ | omega | (simp <;> omega) | simp))))))⟩
  by_cases e1 : Q1 = P1
  · subst e1
    by_cases e2 : Q2 = P2
    · subst e2
      have HF : Hid (sensB n e s ws a b i = false) := Lib.hid (by rw [← HSE.out, neP_self]; rfl)
      clear HSE
      go_wp2
      go_ret
      exact ⟨ret_b (by rw [HF.out]), by have h1 := HB3.out; (repeat (first | exact Below.refl _ _ | (refine Below.setCell ?_ (by (first | exact Nat.le_refl _ | omega | (simp <;> omega) | simp)) _) | (refine Below.alloc ?_ (by (first | exact Nat.le_refl _ | omega | (simp <;> omega) | simp)) _) | (refine below_draws ?_ _) | exact h1 | (refine Below.trans ?_ (Below.mono h1 (by (first | exact Nat.le_refl _ | omega | (simp <;> omega) | simp))))))⟩
    · have HF : Hid (sensB n e s ws a b i = true) := Lib.hid (by rw [← HSE.out]; simp [neP, e2])
      have e2' : (Q2 == P2) = false := by simpa using e2
      clear HSE e2
      go_wp2
      go_ret
      exact ⟨ret_b (by rw [HF.out]), by have h1 := HB3.out; (repeat (first | exact Below.refl _ _ | (refine Below.setCell ?_ (by (first | exact Nat.le_refl _ | omega | (simp <;> omega) | simp)) _) | (refine Below.alloc ?_ (by (first | exact Nat.le_refl _ | omega | (simp <;> omega) | simp)) _) | (refine below_draws ?_ _) | exact h1 | (refine Below.trans ?_ (Below.mono h1 (by (first | exact Nat.le_refl _ | omega | (simp <;> omega) | simp))))))⟩
  · have HF : Hid (sensB n e s ws a b i = true) := Lib.hid (by rw [← HSE.out]; simp [neP, e1])
    have e1' : (Q1 == P1) = false := by simpa using e1
    clear HSE e1
    go_wp2
    go_ret
    exact ⟨ret_b (by rw [HF.out]), by have h1 := HB3.out; (repeat (first | exact Below.refl _ _ | (refine Below.setCell ?_ (by (first | exact Nat.le_refl _ | omega | (simp <;> omega) | simp)) _) | (refine Below.alloc ?_ (by (first | exact Nat.le_refl _ | omega | (simp <;> omega) | simp)) _) | (refine below_draws ?_ _) | exact h1 | (refine Below.trans ?_ (Below.mono h1 (by (first | exact Nat.le_refl _ | omega | (simp <;> omega) | simp))))))⟩
end Go.Proofs.Ytaececpphdaciaa
