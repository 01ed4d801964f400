/-
  A network with other weights, in the model and in the program.
-/
import Derived.Test.YtaececpphdaciaaFaultSpec
import Derived.Test.YtaececpphdaciaaReweigh
import Derived.Test.YtaececpphdaciaaCountImpl
namespace Go.Proofs.Ytaececpphdaciaa
open Go.RowKit

/-- The first k wires have the weights of the list. -/
def rewK (ws : List W3) (q : List Int) : Nat → List W3
  | 0 => ws
  | k + 1 => fltW (rewK ws q k) k (q.getD k 0)
theorem rewK_length (ws : List W3) (q : List Int) : ∀ k, (rewK ws q k).length = ws.length
  | 0 => rfl
  | k + 1 => by show (fltW (rewK ws q k) k (q.getD k 0)).length = _; rw [fltW_length, rewK_length ws q k]
theorem cells_rewK (ws : List W3) (q : List Int) (k : Nat) (h1 : k < ws.length) (h2 : k < q.length) : cellsW (rewK ws q (k + 1)) = (cellsW (rewK ws q k)).set (k * 3 + 2) (.int .i64 q[k]) := by
  show cellsW (fltW (rewK ws q k) k (q.getD k 0)) = _
  rw [cells_fltW _ k _ (by rw [rewK_length]; exact h1), List.getD_eq_getElem?_getD, List.getElem?_eq_getElem h2]
  rfl
theorem rewK_get (ws : List W3) (q : List Int) (hl : q.length = ws.length) : ∀ k, k ≤ q.length → ∀ i, (h1 : i < (rewK ws q k).length) → (h2 : i < ws.length) → (rewK ws q k)[i].1 = ws[i].1 ∧ (rewK ws q k)[i].2.1 = ws[i].2.1 ∧ (rewK ws q k)[i].2.2 = if i < k then q[i]'(by omega) else ws[i].2.2
  | 0, _, i, _, h2 => by simp [rewK]
  | k + 1, hk, i, h1, h2 => by
    have h3 : i < (rewK ws q k).length := by rw [rewK_length]; exact h2
    obtain ⟨a, b, c⟩ := rewK_get ws q hl k (by omega) i h3 h2
    obtain ⟨a', b', c'⟩ := fltW_get (rewK ws q k) k (q.getD k 0) i (by rw [fltW_length]; exact h3) h3
    refine ⟨a'.trans a, b'.trans b, c'.trans ?_⟩
    by_cases hik : i = k
    · subst hik
      rw [if_pos rfl, if_pos (by omega), List.getD_eq_getElem?_getD, List.getElem?_eq_getElem (by omega)]
      rfl
    · rw [if_neg hik, c]
      by_cases h5 : i < k
      · rw [if_pos h5, if_pos (by omega)]
      · rw [if_neg h5, if_neg (by omega)]
/-- All wires have the weights of the list. -/
def rewW (ws : List W3) (q : List Int) : List W3 := rewK ws q q.length
theorem rewW_length (ws : List W3) (q : List Int) : (rewW ws q).length = ws.length := rewK_length ws q _
theorem rewW_get (ws : List W3) (q : List Int) (hl : q.length = ws.length) (i : Nat) (h1 : i < (rewW ws q).length) (h2 : i < ws.length) : (rewW ws q)[i].1 = ws[i].1 ∧ (rewW ws q)[i].2.1 = ws[i].2.1 ∧ (rewW ws q)[i].2.2 = q[i]'(by omega) := by
  obtain ⟨a, b, c⟩ := rewK_get ws q hl q.length (Nat.le_refl _) i h1 h2
  rw [if_pos (by omega)] at c
  exact ⟨a, b, c⟩

set_option maxRecDepth 8000 in
set_option maxHeartbeats 12800000 in
theorem spec_with (n e s : Int) (v vq : Value) (ws : List W3) (q : List Int) (w : World) (hr : ReadsW w v ws) (hq : ReadsI w vq q) (hlen : ws.length ≤ 1048576) (hlq : q.length = ws.length) :
    Calls Try.prog 89 #[.agg #[.int .i64 n, .int .i64 e, .int .i64 s, v], vq] w fun en w' => ∃ p c, en = .returned (.agg #[.int .i64 n, .int .i64 e, .int .i64 s, .slice p ws.length c]) ∧ w'.ownsRow w.heap.size 29 3 (.slice p ws.length c) ws.length (cellsW (rewW ws q)) ∧ Below w.heap.size w w' := by
  obtain ⟨p0, cap0, rfl⟩ := hr.shape
  have B0 : Below w.heap.size w ((w.alloc (.cells #[.int .i64 n, .int .i64 e, .int .i64 s, .slice p0 ws.length cap0] 25)).alloc (.cells #[.int .i64 0, .int .i64 0, .int .i64 0, .slice none 0 0] 25)) := by (repeat (first | exact Below.refl _ _ | (refine Below.setCell ?_ (by (first | exact Nat.le_refl _ | omega | (simp <;> omega) | simp)) _) | (refine Below.alloc ?_ (by (first | exact Nat.le_refl _ | omega | (simp <;> omega) | simp)) _) | (refine below_draws ?_ _)))
  have HQ : Hid (∀ W, Below w.heap.size w W → ReadsI W vq q) := Lib.hid (fun W hW => hq.later hW)
  obtain ⟨pq, cq, rfl, -, -⟩ := hq.shape
  rw [hlq] at HQ ⊢
  have hcp := spec_copy n e s _ ws _ (hr.later B0) hlen
  have HZ0 : Hid (box4 ((w.alloc (.cells #[.int .i64 n, .int .i64 e, .int .i64 s, .slice p0 ws.length cap0] 25)).alloc (.cells #[.int .i64 0, .int .i64 0, .int .i64 0, .slice none 0 0] 25)) (w.heap.size + 1) (.int .i64 0) (.int .i64 0) (.int .i64 0) (.slice none 0 0)) := Lib.hid (by have h := box4.new (w.alloc (.cells #[.int .i64 n, .int .i64 e, .int .i64 s, .slice p0 ws.length cap0] 25)) (.int .i64 0) (.int .i64 0) (.int .i64 0) (.slice none 0 0) 25; simpa using h)
  have HB0 := Lib.hid B0
  clear hr hq B0
  go_enter Try.func89, Try.ntmps89
  go_wp2_with fail
  refine hcp.mono ?_
  rintro en w2 ⟨p2, cc2, rfl, o2, B2⟩
  have S2 := B2.size
  simp at S2
  have HZ : Hid (box4 (w2.alloc (.cells #[.int .i64 n, .int .i64 e, .int .i64 s, .slice p2 ws.length cc2] 25)) (w.heap.size + 1) (.int .i64 0) (.int .i64 0) (.int .i64 0) (.slice none 0 0)) := Lib.hid ((HZ0.out.later B2).alloc _)
  have HN : Hid (box4 (w2.alloc (.cells #[.int .i64 n, .int .i64 e, .int .i64 s, .slice p2 ws.length cc2] 25)) w2.heap.size (.int .i64 n) (.int .i64 e) (.int .i64 s) (.slice p2 ws.length cc2)) := Lib.hid (box4.new _ _ _ _ _ _)
  have HB : Hid (Below w.heap.size w (w2.alloc (.cells #[.int .i64 n, .int .i64 e, .int .i64 s, .slice p2 ws.length cc2] 25))) := Lib.hid ((HB0.out.trans (B2.mono HB0.out.size)).alloc (by omega) _)
  have HO : Hid ((w2.alloc (.cells #[.int .i64 n, .int .i64 e, .int .i64 s, .slice p2 ws.length cc2] 25)).ownsRow (w.heap.size + 2) 29 3 (.slice p2 ws.length cc2) ws.length (cellsW (rewK ws q 0))) := Lib.hid (owns_mono (o2.alloc _) (by simp))
  have HL : Hid (∀ b, (Value.slice p2 ws.length cc2).ownBlock = some b → b < w2.heap.size) := Lib.hid (fun b hb => (o2.lt b hb).2)
  clear B2 o2 hcp HZ0 HB0
  go_wp2
  go_loopw [12] (fun i wr => ∃ k : Nat, k ≤ ws.length ∧ i = .int .i64 k ∧ Hid (box4 wr (w.heap.size + 1) (.int .i64 0) (.int .i64 0) (.int .i64 0) (.slice none 0 0)) ∧ Hid (box4 wr w2.heap.size (.int .i64 n) (.int .i64 e) (.int .i64 s) (.slice p2 ws.length cc2)) ∧ Hid (wr.ownsRow (w.heap.size + 2) 29 3 (.slice p2 ws.length cc2) ws.length (cellsW (rewK ws q k))) ∧ Hid (Below w.heap.size w wr) ∧ Hid (∀ b, (Value.slice p2 ws.length cc2).ownBlock = some b → b < w2.heap.size)) (fun i _ => ws.length - (intOf i).toNat)
  case atStart => exact ⟨0, Nat.zero_le _, rfl, HZ, HN, HO, HB, HL⟩
  case round =>
    clear HZ HN HO HB HL
    obtain ⟨k, hk, rfl, HZ, HN, HO, HB, HL⟩ := hrel
    by_cases hlt : k < ws.length
    · obtain ⟨g1, o1, cc1, r1, q1, q2, m1, d1⟩ := (HQ.out _ HB.out).pos (by omega)
      simp only [Value.slice.injEq] at r1
      obtain ⟨rfl, -, rfl⟩ := r1
      replace d1 := d1 k (by omega)
      obtain ⟨g2, cc, hv, hg1, hg2⟩ := HO.out.form (by omega)
      simp only [Value.slice.injEq] at hv
      obtain ⟨rfl, -, rfl⟩ := hv
      have hge := (HO.out.lt g2 rfl).1
      have hl2 := (HO.out.lt g2 rfl).2
      have hBX : g2 ≠ w2.heap.size := by have := HL.out g2 rfl; omega
      have hkq : k < q.length := by omega
      have hki : (k : Int) < (ws.length : Int) := by omega
      obtain ⟨n0, n1, n2, n3, -⟩ := HN.out
      have t2 := HO.out.cellAt (k * 3 + 2) (by omega)
      rw [List.getElem?_eq_getElem (by rw [cellsW_length, rewK_length]; omega)] at t2
      have f2 := HO.out.frozenAt (k * 3 + 2)
      generalize hy : q[k] = y at d1
      have HZ' := Lib.hid (HZ.out.setCell (p := ⟨g2, k * 3 + 2, none⟩) (v := .int .i64 y) (show g2 ≠ w.heap.size + 1 by omega))
      have HN' := Lib.hid (HN.out.setCell (p := ⟨g2, k * 3 + 2, none⟩) (v := .int .i64 y) hBX)
      have HO' := (HO.out.stored (k * 3 + 2) (.int .i64 y)).1
      rw [← hy, ← cells_rewK ws q k hlt hkq, hy] at HO'
      replace HO' := Lib.hid HO'
      have HB' := Lib.hid (HB.out.setCell (p := ⟨g2, k * 3 + 2, none⟩) (show w.heap.size ≤ g2 by omega) (.int .i64 y))
      clear q1 q2 m1 hge hl2 hy
      go_wp2
      go_roundw
      case rel => exact ⟨k + 1, by omega, by go_num, HZ', HN', HO', HB', HL⟩
      case measure => simp [intOf]; omega
    · obtain rfl : k = ws.length := by omega
      obtain ⟨n0, n1, n2, n3, -⟩ := HN.out
      obtain ⟨z0, z1, z2, z3, f0, f1, f2, f3, -⟩ := HZ.out
      go_wp2
      exact bodyPost_ret (v := .agg #[.int .i64 n, .int .i64 e, .int .i64 s, .slice p2 ws.length cc2]) (by simp (maxDischargeDepth := 8) [results, Try.results89, go_sem, *]) rfl ⟨p2, cc2, rfl, (by
        have h1 := HO.out
        rw [show rewW ws q = rewK ws q ws.length by unfold rewW; rw [hlq]]
        refine owns_mono (base := w.heap.size + 2) ?_ (by omega)
        ((repeat (refine ownsRow_setCell_below ?_ ?_ _; rotate_left; focus (first | omega | (simp; done) | (simp; omega)))); with_reducible exact h1)), (by have h1 := HB.out; have h2 := h1.size; (repeat (first | exact Below.refl _ _ | (refine Below.setCell ?_ (by (first | exact Nat.le_refl _ | omega | (simp <;> omega) | simp)) _) | (refine Below.alloc ?_ (by (first | exact Nat.le_refl _ | omega | (simp <;> omega) | simp)) _) | (refine below_draws ?_ _) | exact h1 | (refine Below.trans ?_ (Below.mono h1 (by (first | exact Nat.le_refl _ | omega | (simp <;> omega) | simp)))))))⟩
set_option maxRecDepth 8000 in
set_option maxHeartbeats 12800000 in
theorem impl_with (n e s : Int) (v vq : Value) (ws : List W3) (q : List Int) (w : World) (hr : ReadsW w v ws) (hq : ReadsI w vq q) (hlen : ws.length ≤ 25) (hlq : q.length = ws.length) :
    Calls Try.prog 74 #[.agg #[.int .i64 n, .int .i64 e, .int .i64 s, v], vq] w fun en w' => ∃ p c, en = .returned (.agg #[.int .i64 n, .int .i64 e, .int .i64 s, .slice p ws.length c]) ∧ w'.ownsRow w.heap.size 29 3 (.slice p ws.length c) ws.length (cellsW (rewW ws q)) ∧ Below w.heap.size w w' := by
  obtain ⟨p0, cap0, rfl⟩ := hr.shape
  have B0 : Below w.heap.size w ((w.alloc (.cells #[.int .i64 n, .int .i64 e, .int .i64 s, .slice p0 ws.length cap0] 25)).alloc (.cells #[.int .i64 0, .int .i64 0, .int .i64 0, .slice none 0 0] 25)) := by (repeat (first | exact Below.refl _ _ | (refine Below.setCell ?_ (by (first | exact Nat.le_refl _ | omega | (simp <;> omega) | simp)) _) | (refine Below.alloc ?_ (by (first | exact Nat.le_refl _ | omega | (simp <;> omega) | simp)) _) | (refine below_draws ?_ _)))
  have HQ : Hid (∀ W, Below w.heap.size w W → ReadsI W vq q) := Lib.hid (fun W hW => hq.later hW)
  obtain ⟨pq, cq, rfl, -, -⟩ := hq.shape
  rw [hlq] at HQ ⊢
  have hcp := clone_wires _ ws _ (hr.later B0) hlen
  have HZ0 : Hid (box4 ((w.alloc (.cells #[.int .i64 n, .int .i64 e, .int .i64 s, .slice p0 ws.length cap0] 25)).alloc (.cells #[.int .i64 0, .int .i64 0, .int .i64 0, .slice none 0 0] 25)) (w.heap.size + 1) (.int .i64 0) (.int .i64 0) (.int .i64 0) (.slice none 0 0)) := Lib.hid (by have h := box4.new (w.alloc (.cells #[.int .i64 n, .int .i64 e, .int .i64 s, .slice p0 ws.length cap0] 25)) (.int .i64 0) (.int .i64 0) (.int .i64 0) (.slice none 0 0) 25; simpa using h)
  have HX0 : Hid (box4 ((w.alloc (.cells #[.int .i64 n, .int .i64 e, .int .i64 s, .slice p0 ws.length cap0] 25)).alloc (.cells #[.int .i64 0, .int .i64 0, .int .i64 0, .slice none 0 0] 25)) w.heap.size (.int .i64 n) (.int .i64 e) (.int .i64 s) (.slice p0 ws.length cap0)) := Lib.hid ((box4.new w (.int .i64 n) (.int .i64 e) (.int .i64 s) (.slice p0 ws.length cap0) 25).alloc _)
  have HB0 := Lib.hid B0
  clear hr hq B0
  go_enter Try.func74, Try.ntmps74
  go_wp2_with fail
  refine hcp.mono ?_
  rintro en w2 ⟨p2, cc2, rfl, o2, B2⟩
  have S2 := B2.size
  simp at S2
  have hx2 := HX0.out.later B2
  have HZ : Hid (box4 (w2.setCell ⟨w.heap.size, 3, none⟩ (.slice p2 ws.length cc2)) (w.heap.size + 1) (.int .i64 0) (.int .i64 0) (.int .i64 0) (.slice none 0 0)) := Lib.hid ((HZ0.out.later B2).setCell (p := ⟨w.heap.size, 3, none⟩) (show w.heap.size ≠ w.heap.size + 1 by omega))
  have HN : Hid (box4 (w2.setCell ⟨w.heap.size, 3, none⟩ (.slice p2 ws.length cc2)) w.heap.size (.int .i64 n) (.int .i64 e) (.int .i64 s) (.slice p2 ws.length cc2)) := Lib.hid hx2.set3
  have HB : Hid (Below w.heap.size w (w2.setCell ⟨w.heap.size, 3, none⟩ (.slice p2 ws.length cc2))) := Lib.hid ((HB0.out.trans (B2.mono HB0.out.size)).setCell (p := ⟨w.heap.size, 3, none⟩) (Nat.le_refl _) _)
  have HO : Hid ((w2.setCell ⟨w.heap.size, 3, none⟩ (.slice p2 ws.length cc2)).ownsRow (w.heap.size + 2) 29 3 (.slice p2 ws.length cc2) ws.length (cellsW (rewK ws q 0))) := Lib.hid (ownsRow_setCell_below (owns_mono o2 (by simp)) (show w.heap.size < w.heap.size + 2 by omega) _)
  obtain ⟨n0, n1, n2, n3, g0, g1, g2, g3, -⟩ := hx2
  clear B2 o2 hcp HZ0 HB0 HX0
  go_wp2
  clear n0 n1 n2 n3 g0 g1 g2 g3
  go_loopw [13] (fun i wr => ∃ k : Nat, k ≤ ws.length ∧ i = .int .i64 k ∧ Hid (box4 wr (w.heap.size + 1) (.int .i64 0) (.int .i64 0) (.int .i64 0) (.slice none 0 0)) ∧ Hid (box4 wr w.heap.size (.int .i64 n) (.int .i64 e) (.int .i64 s) (.slice p2 ws.length cc2)) ∧ Hid (wr.ownsRow (w.heap.size + 2) 29 3 (.slice p2 ws.length cc2) ws.length (cellsW (rewK ws q k))) ∧ Hid (Below w.heap.size w wr)) (fun i _ => ws.length - (intOf i).toNat)
  case atStart => exact ⟨0, Nat.zero_le _, rfl, HZ, HN, HO, HB⟩
  case round =>
    clear HZ HN HO HB
    obtain ⟨k, hk, rfl, HZ, HN, HO, HB⟩ := hrel
    by_cases hlt : k < ws.length
    · obtain ⟨g1, o1, cc1, r1, q1, q2, m1, d1⟩ := (HQ.out _ HB.out).pos (by omega)
      simp only [Value.slice.injEq] at r1
      obtain ⟨rfl, -, rfl⟩ := r1
      replace d1 := d1 k (by omega)
      obtain ⟨g2, cc, hv, hg1, hg2⟩ := HO.out.form (by omega)
      simp only [Value.slice.injEq] at hv
      obtain ⟨rfl, -, rfl⟩ := hv
      have hge := (HO.out.lt g2 rfl).1
      have hl2 := (HO.out.lt g2 rfl).2
      have hBX : g2 ≠ w.heap.size := by omega
      have hkq : k < q.length := by omega
      have hki : (k : Int) < (ws.length : Int) := by omega
      obtain ⟨n0, n1, n2, n3, -⟩ := HN.out
      have t2 := HO.out.cellAt (k * 3 + 2) (by omega)
      rw [List.getElem?_eq_getElem (by rw [cellsW_length, rewK_length]; omega)] at t2
      have f2 := HO.out.frozenAt (k * 3 + 2)
      generalize hy : q[k] = y at d1
      have HZ' := Lib.hid (HZ.out.setCell (p := ⟨g2, k * 3 + 2, none⟩) (v := .int .i64 y) (show g2 ≠ w.heap.size + 1 by omega))
      have HN' := Lib.hid (HN.out.setCell (p := ⟨g2, k * 3 + 2, none⟩) (v := .int .i64 y) hBX)
      have HO' := (HO.out.stored (k * 3 + 2) (.int .i64 y)).1
      rw [← hy, ← cells_rewK ws q k hlt hkq, hy] at HO'
      replace HO' := Lib.hid HO'
      have HB' := Lib.hid (HB.out.setCell (p := ⟨g2, k * 3 + 2, none⟩) (show w.heap.size ≤ g2 by omega) (.int .i64 y))
      clear q1 q2 m1 hge hl2 hy
      go_wp2
      go_roundw
      case rel => exact ⟨k + 1, by omega, by go_num, HZ', HN', HO', HB'⟩
      case measure => simp [intOf]; omega
    · obtain rfl : k = ws.length := by omega
      obtain ⟨n0, n1, n2, n3, -⟩ := HN.out
      obtain ⟨z0, z1, z2, z3, f0, f1, f2, f3, -⟩ := HZ.out
      go_wp2
      exact bodyPost_ret (v := .agg #[.int .i64 n, .int .i64 e, .int .i64 s, .slice p2 ws.length cc2]) (by simp (maxDischargeDepth := 8) [results, Try.results74, go_sem, *]) rfl ⟨p2, cc2, rfl, (by
        have h1 := HO.out
        rw [show rewW ws q = rewK ws q ws.length by unfold rewW; rw [hlq]]
        refine owns_mono (base := w.heap.size + 2) ?_ (by omega)
        ((repeat (refine ownsRow_setCell_below ?_ ?_ _; rotate_left; focus (first | omega | (simp; done) | (simp; omega)))); with_reducible exact h1)), (by have h1 := HB.out; have h2 := h1.size; (repeat (first | exact Below.refl _ _ | (refine Below.setCell ?_ (by (first | exact Nat.le_refl _ | omega | (simp <;> omega) | simp)) _) | (refine Below.alloc ?_ (by (first | exact Nat.le_refl _ | omega | (simp <;> omega) | simp)) _) | (refine below_draws ?_ _) | exact h1 | (refine Below.trans ?_ (Below.mono h1 (by (first | exact Nat.le_refl _ | omega | (simp <;> omega) | simp)))))))⟩
end Go.Proofs.Ytaececpphdaciaa
