/-
  SameNet, in the model and in the program: whether two networks agree in every field.
-/
import Derived.Test.YtlehbfacepmnfaaWire
import Derived.Laws.StructEq
namespace Go.Proofs.Ytlehbfacepmnfaa
open Go.RowKit

theorem first_diff (ws vs : List W3) (hl : ws.length = vs.length) : ws = vs ∨ ∃ k, ∃ h : k < ws.length, ws[k] ≠ vs[k]'(by omega) ∧ ∀ j, (hj : j < k) → ws[j] = vs[j]'(by omega) := by
  by_cases hx : ∃ k, ∃ h : k < ws.length, ws[k] ≠ vs[k]'(by omega)
  · right
    let P : Nat → Prop := fun k => ∃ h : k < ws.length, ws[k] ≠ vs[k]'(by omega)
    have key : ∀ n, P n → ∃ k, P k ∧ ∀ j, j < k → ¬ P j := by
      intro n
      induction n using Nat.strongRecOn with
      | ind n ih =>
        intro hn
        by_cases hm : ∃ j, j < n ∧ P j
        · obtain ⟨j, hj, hp⟩ := hm
          exact ih j hj hp
        · exact ⟨n, hn, fun j hj hp => hm ⟨j, hj, hp⟩⟩
    obtain ⟨k, hk⟩ := hx
    obtain ⟨m, ⟨hm, h1⟩, hmin⟩ := key k hk
    exact ⟨m, hm, h1, fun j hj => Classical.byContradiction fun hh => hmin j hj ⟨by omega, hh⟩⟩
  · left
    exact List.ext_getElem hl fun k h _ => Classical.byContradiction fun hh => hx ⟨k, h, hh⟩
theorem diff3 {a b : W3} (h : a ≠ b) : (a.1 == b.1) = false ∨ ((a.1 == b.1) = true ∧ (a.2.1 == b.2.1) = false) ∨ ((a.1 == b.1) = true ∧ (a.2.1 == b.2.1) = true ∧ (a.2.2 == b.2.2) = false) := by
  by_cases h1 : a.1 = b.1
  · by_cases h2 : a.2.1 = b.2.1
    · right; right
      have h3 : a.2.2 ≠ b.2.2 := fun h3 => h (Prod.ext h1 (Prod.ext h2 h3))
      simp [h1, h2, h3]
    · right; left; simp [h1, h2]
  · left; simpa using h1

/-- Whether two networks agree. -/
def sameB (n e s n' e' s' : Int) (ws vs : List W3) : Bool := decide (n = n' ∧ e = e' ∧ s = s' ∧ ws = vs)

set_option maxHeartbeats 1600000 in
theorem equal_yes (va vb : Value) (ws : List W3) (w : World) (ha : ReadsW w va ws) (hb : ReadsW w vb ws) :
    Calls Try.prog 50 #[va, vb] w fun en w' => en = .returned (.bool true) ∧ Below w.heap.size w w' := by
  obtain ⟨hm, ha2⟩ := ha
  obtain ⟨-, hb2⟩ := hb
  by_cases h0 : ws.length = 0
  · obtain ⟨p, cap, rfl⟩ := ReadsW.shape (w := w) (v := va) (ws := ws) ⟨hm, ha2⟩
    obtain ⟨q, cbp, rfl⟩ := ReadsW.shape (w := w) (v := vb) (ws := ws) ⟨hm, hb2⟩
    rw [h0]
    clear ha2 hb2 hm h0
    go_enter Try.func50, Try.ntmps50
    go_wp2
    refine wp_loop_rounds 1 ?_
    rw [rounds_succ]
    go_wp2
    go_ret
    exact ⟨rfl, by (repeat (first | exact Below.refl _ _ | (refine Below.setCell ?_ (by (first | exact Nat.le_refl _ | omega | (simp <;> omega) | simp)) _) | (refine Below.alloc ?_ (by (first | exact Nat.le_refl _ | omega | (simp <;> omega) | simp)) _) | (refine below_draws ?_ _)))⟩
  · rcases ha2 with ⟨hx, _⟩ | ⟨g, o, cap, rfl, hc⟩
    · exact absurd (by simp [hx]) h0
    rcases hb2 with ⟨hx, _⟩ | ⟨q, u, cbp, rfl, hd⟩
    · exact absurd (by simp [hx]) h0
    have HC := Lib.hid hc; clear hc
    have HD := Lib.hid hd; clear hd
    clear h0
    go_enter Try.func50, Try.ntmps50
    go_wp2
    go_loopw [13] (fun i wr => ∃ (k : Nat), k ≤ ws.length ∧ i = .int .i64 k ∧ Below w.heap.size w wr) (fun i _ => ws.length - (intOf i).toNat)
    case atStart => exact ⟨0, Nat.zero_le _, rfl, by (repeat (first | exact Below.refl _ _ | (refine Below.setCell ?_ (by (first | exact Nat.le_refl _ | omega | (simp <;> omega) | simp)) _) | (refine Below.alloc ?_ (by (first | exact Nat.le_refl _ | omega | (simp <;> omega) | simp)) _) | (refine below_draws ?_ _)))⟩
    case round =>
      obtain ⟨k, hk, rfl, hB⟩ := hrel
      by_cases hlt : k < ws.length
      · obtain ⟨c0, c1, c2⟩ := HC.out k hlt
        obtain ⟨d0, d1, d2⟩ := HD.out k hlt
        have hg : g < w.heap.size := World.block_lt_of_cell? w _ c0
        have hq : q < w.heap.size := World.block_lt_of_cell? w _ d0
        rw [← hB.cell (p := ⟨g, o + k * 3, none⟩) hg] at c0
        rw [← hB.cell (p := ⟨g, o + k * 3 + 1, none⟩) hg] at c1
        rw [← hB.cell (p := ⟨g, o + k * 3 + 2, none⟩) hg] at c2
        rw [← hB.cell (p := ⟨q, u + k * 3, none⟩) hq] at d0
        rw [← hB.cell (p := ⟨q, u + k * 3 + 1, none⟩) hq] at d1
        rw [← hB.cell (p := ⟨q, u + k * 3 + 2, none⟩) hq] at d2
        clear hg hq
        go_wp2
        go_quiet (fail)
        go_wp2
        go_roundw
        case rel => exact ⟨k + 1, by omega, by go_num, by (repeat (first | exact Below.refl _ _ | (refine Below.setCell ?_ (by (first | exact Nat.le_refl _ | omega | (simp <;> omega) | simp)) _) | (refine Below.alloc ?_ (by (first | exact Nat.le_refl _ | omega | (simp <;> omega) | simp)) _) | (refine below_draws ?_ _) | exact hB | (refine Below.trans ?_ (Below.mono hB (by (first | exact Nat.le_refl _ | omega | (simp <;> omega) | simp))))))⟩
        case measure => simp [intOf]; omega
      · obtain rfl : k = ws.length := by omega
        go_wp2
        go_ret
        exact ⟨rfl, by (repeat (first | exact Below.refl _ _ | (refine Below.setCell ?_ (by (first | exact Nat.le_refl _ | omega | (simp <;> omega) | simp)) _) | (refine Below.alloc ?_ (by (first | exact Nat.le_refl _ | omega | (simp <;> omega) | simp)) _) | (refine below_draws ?_ _) | exact hB | (refine Below.trans ?_ (Below.mono hB (by (first | exact Nat.le_refl _ | omega | (simp <;> omega) | simp))))))⟩

theorem equal_len (va vb : Value) (ws vs : List W3) (w : World) (ha : ReadsW w va ws) (hb : ReadsW w vb vs) (hl : ((ws.length : Int) == (vs.length : Int)) = false) :
    Calls Try.prog 50 #[va, vb] w fun en w' => en = .returned (.bool false) ∧ Below w.heap.size w w' := by
  obtain ⟨p, cap, rfl⟩ := ha.shape
  obtain ⟨q, cbp, rfl⟩ := hb.shape
  have hm := ha.1
  have hm2 := hb.1
  clear ha hb
  go_enter Try.func50, Try.ntmps50
  go_wp2
  go_ret
  exact ⟨rfl, by (repeat (first | exact Below.refl _ _ | (refine Below.setCell ?_ (by (first | exact Nat.le_refl _ | omega | (simp <;> omega) | simp)) _) | (refine Below.alloc ?_ (by (first | exact Nat.le_refl _ | omega | (simp <;> omega) | simp)) _) | (refine below_draws ?_ _)))⟩

set_option maxHeartbeats 1600000 in
theorem equal_no (va vb : Value) (ws vs : List W3) (w : World) (ha : ReadsW w va ws) (hb : ReadsW w vb vs) (k0 : Nat) (h0 : k0 < ws.length) (h02 : k0 < vs.length) (hd : ws[k0] ≠ vs[k0]) (he : ∀ j, (hj : j < k0) → ws[j] = vs[j]) (hl : ws.length = vs.length) :
    Calls Try.prog 50 #[va, vb] w fun en w' => en = .returned (.bool false) ∧ Below w.heap.size w w' := by
  obtain ⟨hm, ha2⟩ := ha
  obtain ⟨hm2, hb2⟩ := hb
  rcases ha2 with ⟨hx, _⟩ | ⟨g, o, cap, rfl, hc⟩
  · subst hx; simp at h0
  rcases hb2 with ⟨hx, _⟩ | ⟨q, u, cbp, rfl, hdd⟩
  · subst hx; simp at hl; subst hl; simp at h0
  rw [← hl] at hm2 ⊢
  have HC := Lib.hid hc; clear hc
  have HD := Lib.hid hdd; clear hdd
  have HE := Lib.hid he; clear he
  have HF := Lib.hid (diff3 hd); clear hd
  clear hl
  go_enter Try.func50, Try.ntmps50
  go_wp2
  go_loopw [13] (fun i wr => ∃ (k : Nat), k ≤ k0 ∧ i = .int .i64 k ∧ Below w.heap.size w wr) (fun i _ => ws.length - (intOf i).toNat)
  case atStart => exact ⟨0, Nat.zero_le _, rfl, by (repeat (first | exact Below.refl _ _ | (refine Below.setCell ?_ (by (first | exact Nat.le_refl _ | omega | (simp <;> omega) | simp)) _) | (refine Below.alloc ?_ (by (first | exact Nat.le_refl _ | omega | (simp <;> omega) | simp)) _) | (refine below_draws ?_ _)))⟩
  case round =>
    obtain ⟨k, hk, rfl, hB⟩ := hrel
    have hlt : k < ws.length := by omega
    have hlt2 : k < vs.length := by omega
    obtain ⟨c0, c1, c2⟩ := HC.out k hlt
    obtain ⟨d0, d1, d2⟩ := HD.out k hlt2
    have hg : g < w.heap.size := World.block_lt_of_cell? w _ c0
    have hq : q < w.heap.size := World.block_lt_of_cell? w _ d0
    have hS0 := hB.size
    rw [← hB.cell (p := ⟨g, o + k * 3, none⟩) hg] at c0
    rw [← hB.cell (p := ⟨g, o + k * 3 + 1, none⟩) hg] at c1
    rw [← hB.cell (p := ⟨g, o + k * 3 + 2, none⟩) hg] at c2
    rw [← hB.cell (p := ⟨q, u + k * 3, none⟩) hq] at d0
    rw [← hB.cell (p := ⟨q, u + k * 3 + 1, none⟩) hq] at d1
    rw [← hB.cell (p := ⟨q, u + k * 3 + 2, none⟩) hq] at d2
    clear hg hq
    by_cases hk0 : k < k0
    · rw [← HE.out k hk0] at d0 d1 d2
      try rw [← HE.out k hk0] at d0' d1' d2'
      go_wp2
      go_quiet (fail)
      go_wp2
      go_roundw
      case rel => exact ⟨k + 1, by omega, by go_num, by (repeat (first | exact Below.refl _ _ | (refine Below.setCell ?_ (by (first | exact Nat.le_refl _ | omega | (simp <;> omega) | simp)) _) | (refine Below.alloc ?_ (by (first | exact Nat.le_refl _ | omega | (simp <;> omega) | simp)) _) | (refine below_draws ?_ _) | exact hB | (refine Below.trans ?_ (Below.mono hB (by (first | exact Nat.le_refl _ | omega | (simp <;> omega) | simp))))))⟩
      case measure => simp [intOf]; omega
    · obtain rfl : k = k0 := by omega
      rcases HF.out with h1 | ⟨h1, h2⟩ | ⟨h1, h2, h3⟩
      all_goals
        go_wp2
        go_quiet (fail)
        go_wp2
        go_ret
        exact ⟨rfl, by (repeat (first | exact Below.refl _ _ | (refine Below.setCell ?_ (by (first | exact Nat.le_refl _ | omega | (simp <;> omega) | simp)) _) | (refine Below.alloc ?_ (by (first | exact Nat.le_refl _ | omega | (simp <;> omega) | simp)) _) | (refine below_draws ?_ _) | exact hB | (refine Below.trans ?_ (Below.mono hB (by (first | exact Nat.le_refl _ | omega | (simp <;> omega) | simp))))))⟩

set_option maxHeartbeats 1600000 in
theorem spec_same_yes (n e s : Int) (va vb : Value) (ws : List W3) (w : World) (ha : ReadsW w va ws) (hb : ReadsW w vb ws) :
    Calls Try.prog 26 #[.agg #[.int .i64 n, .int .i64 e, .int .i64 s, va], .agg #[.int .i64 n, .int .i64 e, .int .i64 s, vb]] w fun en w' => en = .returned (.bool true) ∧ Below w.heap.size w w' := by
  obtain ⟨hm, ha2⟩ := ha
  obtain ⟨-, hb2⟩ := hb
  by_cases h0 : ws.length = 0
  · obtain ⟨p, cap, rfl⟩ := ReadsW.shape (w := w) (v := va) (ws := ws) ⟨hm, ha2⟩
    obtain ⟨q, cbp, rfl⟩ := ReadsW.shape (w := w) (v := vb) (ws := ws) ⟨hm, hb2⟩
    rw [h0]
    clear ha2 hb2 hm h0
    go_enter Try.func26, Try.ntmps26
    go_wp2
    refine wp_loop_rounds 1 ?_
    rw [rounds_succ]
    go_wp2
    go_ret
    exact ⟨rfl, by (repeat (first | exact Below.refl _ _ | (refine Below.setCell ?_ (by (first | exact Nat.le_refl _ | omega | (simp <;> omega) | simp)) _) | (refine Below.alloc ?_ (by (first | exact Nat.le_refl _ | omega | (simp <;> omega) | simp)) _) | (refine below_draws ?_ _)))⟩
  · rcases ha2 with ⟨hx, _⟩ | ⟨g, o, cap, rfl, hc⟩
    · exact absurd (by simp [hx]) h0
    rcases hb2 with ⟨hx, _⟩ | ⟨q, u, cbp, rfl, hd⟩
    · exact absurd (by simp [hx]) h0
    have HC := Lib.hid hc; clear hc
    have HD := Lib.hid hd; clear hd
    clear h0
    go_enter Try.func26, Try.ntmps26
    go_wp2
    go_loopw [38] (fun i wr => ∃ (k : Nat), k ≤ ws.length ∧ i = .int .i64 k ∧ w.heap.size + 1 < wr.heap.size ∧ wr.cell? ⟨w.heap.size + 1, 3, none⟩ = some (.slice (some ⟨q, u, none⟩) ws.length cbp) ∧ Below w.heap.size w wr) (fun i _ => ws.length - (intOf i).toNat)
    case atStart => exact ⟨0, Nat.zero_le _, rfl, by simp, by simp, by (repeat (first | exact Below.refl _ _ | (refine Below.setCell ?_ (by (first | exact Nat.le_refl _ | omega | (simp <;> omega) | simp)) _) | (refine Below.alloc ?_ (by (first | exact Nat.le_refl _ | omega | (simp <;> omega) | simp)) _) | (refine below_draws ?_ _)))⟩
    case round =>
      obtain ⟨k, hk, rfl, hsz, hcell, hB⟩ := hrel
      by_cases hlt : k < ws.length
      · obtain ⟨c0, c1, c2⟩ := HC.out k hlt
        obtain ⟨d0, d1, d2⟩ := HD.out k hlt
        have hg : g < w.heap.size := World.block_lt_of_cell? w _ c0
        have hq : q < w.heap.size := World.block_lt_of_cell? w _ d0
        have hS0 := hB.size
        rw [← hB.cell (p := ⟨g, o + k * 3, none⟩) hg] at c0
        rw [← hB.cell (p := ⟨g, o + k * 3 + 1, none⟩) hg] at c1
        rw [← hB.cell (p := ⟨g, o + k * 3 + 2, none⟩) hg] at c2
        rw [← hB.cell (p := ⟨q, u + k * 3, none⟩) hq] at d0
        rw [← hB.cell (p := ⟨q, u + k * 3 + 1, none⟩) hq] at d1
        rw [← hB.cell (p := ⟨q, u + k * 3 + 2, none⟩) hq] at d2
        have hqr : q ≠ wr.heap.size := by omega
        have d0' := (World.cell?_alloc_old wr (.cells #[.int .i64 ws[k].1, .int .i64 ws[k].2.1, .int .i64 ws[k].2.2] 46) ⟨q, u + k * 3, none⟩ hqr).trans d0
        have d1' := (World.cell?_alloc_old wr (.cells #[.int .i64 ws[k].1, .int .i64 ws[k].2.1, .int .i64 ws[k].2.2] 46) ⟨q, u + k * 3 + 1, none⟩ hqr).trans d1
        have d2' := (World.cell?_alloc_old wr (.cells #[.int .i64 ws[k].1, .int .i64 ws[k].2.1, .int .i64 ws[k].2.2] 46) ⟨q, u + k * 3 + 2, none⟩ hqr).trans d2
        go_wp2
        go_quiet (fail)
        go_wp2
        go_roundw
        case rel => exact ⟨k + 1, by omega, by go_num, by simp; omega, by first | assumption | simp [go_sem, *], by (repeat (first | exact Below.refl _ _ | (refine Below.setCell ?_ (by (first | exact Nat.le_refl _ | omega | (simp <;> omega) | simp)) _) | (refine Below.alloc ?_ (by (first | exact Nat.le_refl _ | omega | (simp <;> omega) | simp)) _) | (refine below_draws ?_ _) | exact hB | (refine Below.trans ?_ (Below.mono hB (by (first | exact Nat.le_refl _ | omega | (simp <;> omega) | simp))))))⟩
        case measure => simp [intOf]; omega
      · obtain rfl : k = ws.length := by omega
        go_wp2
        go_ret
        exact ⟨rfl, by (repeat (first | exact Below.refl _ _ | (refine Below.setCell ?_ (by (first | exact Nat.le_refl _ | omega | (simp <;> omega) | simp)) _) | (refine Below.alloc ?_ (by (first | exact Nat.le_refl _ | omega | (simp <;> omega) | simp)) _) | (refine below_draws ?_ _) | exact hB | (refine Below.trans ?_ (Below.mono hB (by (first | exact Nat.le_refl _ | omega | (simp <;> omega) | simp))))))⟩

set_option maxHeartbeats 1600000 in
theorem spec_same_no (n e s : Int) (va vb : Value) (ws vs : List W3) (w : World) (ha : ReadsW w va ws) (hb : ReadsW w vb vs) (k0 : Nat) (h0 : k0 < ws.length) (h02 : k0 < vs.length) (hd : ws[k0] ≠ vs[k0]) (he : ∀ j, (hj : j < k0) → ws[j] = vs[j]) (hl : ws.length = vs.length) :
    Calls Try.prog 26 #[.agg #[.int .i64 n, .int .i64 e, .int .i64 s, va], .agg #[.int .i64 n, .int .i64 e, .int .i64 s, vb]] w fun en w' => en = .returned (.bool false) ∧ Below w.heap.size w w' := by
  obtain ⟨hm, ha2⟩ := ha
  obtain ⟨hm2, hb2⟩ := hb
  rcases ha2 with ⟨hx, _⟩ | ⟨g, o, cap, rfl, hc⟩
  · subst hx; simp at h0
  rcases hb2 with ⟨hx, _⟩ | ⟨q, u, cbp, rfl, hdd⟩
  · subst hx; simp at h02
  rw [← hl] at hm2 ⊢
  have HC := Lib.hid hc; clear hc
  have HD := Lib.hid hdd; clear hdd
  have HE := Lib.hid he; clear he
  have HF := Lib.hid (diff3 hd); clear hd
  clear hl
  go_enter Try.func26, Try.ntmps26
  go_wp2
  go_loopw [38] (fun i wr => ∃ (k : Nat), k ≤ k0 ∧ i = .int .i64 k ∧ w.heap.size + 1 < wr.heap.size ∧ wr.cell? ⟨w.heap.size + 1, 3, none⟩ = some (.slice (some ⟨q, u, none⟩) ws.length cbp) ∧ Below w.heap.size w wr) (fun i _ => ws.length - (intOf i).toNat)
  case atStart => exact ⟨0, Nat.zero_le _, rfl, by simp, by simp, by (repeat (first | exact Below.refl _ _ | (refine Below.setCell ?_ (by (first | exact Nat.le_refl _ | omega | (simp <;> omega) | simp)) _) | (refine Below.alloc ?_ (by (first | exact Nat.le_refl _ | omega | (simp <;> omega) | simp)) _) | (refine below_draws ?_ _)))⟩
  case round =>
    obtain ⟨k, hk, rfl, hsz, hcell, hB⟩ := hrel
    have hlt : k < ws.length := by omega
    have hlt2 : k < vs.length := by omega
    obtain ⟨c0, c1, c2⟩ := HC.out k hlt
    obtain ⟨d0, d1, d2⟩ := HD.out k hlt2
    have hg : g < w.heap.size := World.block_lt_of_cell? w _ c0
    have hq : q < w.heap.size := World.block_lt_of_cell? w _ d0
    have hS0 := hB.size
    rw [← hB.cell (p := ⟨g, o + k * 3, none⟩) hg] at c0
    rw [← hB.cell (p := ⟨g, o + k * 3 + 1, none⟩) hg] at c1
    rw [← hB.cell (p := ⟨g, o + k * 3 + 2, none⟩) hg] at c2
    rw [← hB.cell (p := ⟨q, u + k * 3, none⟩) hq] at d0
    rw [← hB.cell (p := ⟨q, u + k * 3 + 1, none⟩) hq] at d1
    rw [← hB.cell (p := ⟨q, u + k * 3 + 2, none⟩) hq] at d2
    have hqr : q ≠ wr.heap.size := by omega
    have d0' := (World.cell?_alloc_old wr (.cells #[.int .i64 ws[k].1, .int .i64 ws[k].2.1, .int .i64 ws[k].2.2] 46) ⟨q, u + k * 3, none⟩ hqr).trans d0
    have d1' := (World.cell?_alloc_old wr (.cells #[.int .i64 ws[k].1, .int .i64 ws[k].2.1, .int .i64 ws[k].2.2] 46) ⟨q, u + k * 3 + 1, none⟩ hqr).trans d1
    have d2' := (World.cell?_alloc_old wr (.cells #[.int .i64 ws[k].1, .int .i64 ws[k].2.1, .int .i64 ws[k].2.2] 46) ⟨q, u + k * 3 + 2, none⟩ hqr).trans d2
    by_cases hk0 : k < k0
    · rw [← HE.out k hk0] at d0 d1 d2
      try rw [← HE.out k hk0] at d0' d1' d2'
      go_wp2
      go_quiet (fail)
      go_wp2
      go_roundw
      case rel => exact ⟨k + 1, by omega, by go_num, by simp; omega, by first | assumption | simp [go_sem, *], by (repeat (first | exact Below.refl _ _ | (refine Below.setCell ?_ (by (first | exact Nat.le_refl _ | omega | (simp <;> omega) | simp)) _) | (refine Below.alloc ?_ (by (first | exact Nat.le_refl _ | omega | (simp <;> omega) | simp)) _) | (refine below_draws ?_ _) | exact hB | (refine Below.trans ?_ (Below.mono hB (by (first | exact Nat.le_refl _ | omega | (simp <;> omega) | simp))))))⟩
      case measure => simp [intOf]; omega
    · obtain rfl : k = k0 := by omega
      rcases HF.out with h1 | ⟨h1, h2⟩ | ⟨h1, h2, h3⟩
      all_goals
        go_wp2
        go_quiet (fail)
        go_wp2
        go_ret
        exact ⟨rfl, by (repeat (first | exact Below.refl _ _ | (refine Below.setCell ?_ (by (first | exact Nat.le_refl _ | omega | (simp <;> omega) | simp)) _) | (refine Below.alloc ?_ (by (first | exact Nat.le_refl _ | omega | (simp <;> omega) | simp)) _) | (refine below_draws ?_ _) | exact hB | (refine Below.trans ?_ (Below.mono hB (by (first | exact Nat.le_refl _ | omega | (simp <;> omega) | simp))))))⟩

set_option maxHeartbeats 800000 in
theorem spec_same (n e s n' e' s' : Int) (va vb : Value) (ws vs : List W3) (w : World) (ha : ReadsW w va ws) (hb : ReadsW w vb vs) :
    Calls Try.prog 26 #[.agg #[.int .i64 n, .int .i64 e, .int .i64 s, va], .agg #[.int .i64 n', .int .i64 e', .int .i64 s', vb]] w fun en w' => en = .returned (.bool (sameB n e s n' e' s' ws vs)) ∧ Below w.heap.size w w' := by
  by_cases h1 : n = n'
  case neg =>
    have HF : Hid (sameB n e s n' e' s' ws vs = false) := Lib.hid (decide_eq_false fun h => h1 h.1)
    have h1 : (n == n') = false := by simpa using h1
    obtain ⟨p, cap, rfl⟩ := ha.shape
    obtain ⟨q, cbp, rfl⟩ := hb.shape
    have hm := ha.1
    have hm2 := hb.1
    clear ha hb
    go_enter Try.func26, Try.ntmps26
    go_wp2
    go_ret
    exact ⟨ret_b HF.out.symm, by (repeat (first | exact Below.refl _ _ | (refine Below.setCell ?_ (by (first | exact Nat.le_refl _ | omega | (simp <;> omega) | simp)) _) | (refine Below.alloc ?_ (by (first | exact Nat.le_refl _ | omega | (simp <;> omega) | simp)) _) | (refine below_draws ?_ _)))⟩
  subst h1
  by_cases h2 : e = e'
  case neg =>
    have HF : Hid (sameB n e s n e' s' ws vs = false) := Lib.hid (decide_eq_false fun h => h2 h.2.1)
    have h2 : (e == e') = false := by simpa using h2
    obtain ⟨p, cap, rfl⟩ := ha.shape
    obtain ⟨q, cbp, rfl⟩ := hb.shape
    have hm := ha.1
    have hm2 := hb.1
    clear ha hb
    go_enter Try.func26, Try.ntmps26
    go_wp2
    go_ret
    exact ⟨ret_b HF.out.symm, by (repeat (first | exact Below.refl _ _ | (refine Below.setCell ?_ (by (first | exact Nat.le_refl _ | omega | (simp <;> omega) | simp)) _) | (refine Below.alloc ?_ (by (first | exact Nat.le_refl _ | omega | (simp <;> omega) | simp)) _) | (refine below_draws ?_ _)))⟩
  subst h2
  by_cases h3 : s = s'
  case neg =>
    have HF : Hid (sameB n e s n e s' ws vs = false) := Lib.hid (decide_eq_false fun h => h3 h.2.2.1)
    have h3 : (s == s') = false := by simpa using h3
    obtain ⟨p, cap, rfl⟩ := ha.shape
    obtain ⟨q, cbp, rfl⟩ := hb.shape
    have hm := ha.1
    have hm2 := hb.1
    clear ha hb
    go_enter Try.func26, Try.ntmps26
    go_wp2
    go_ret
    exact ⟨ret_b HF.out.symm, by (repeat (first | exact Below.refl _ _ | (refine Below.setCell ?_ (by (first | exact Nat.le_refl _ | omega | (simp <;> omega) | simp)) _) | (refine Below.alloc ?_ (by (first | exact Nat.le_refl _ | omega | (simp <;> omega) | simp)) _) | (refine below_draws ?_ _)))⟩
  subst h3
  by_cases h4 : ws.length = vs.length
  case neg =>
    have HF : Hid (sameB n e s n e s ws vs = false) := Lib.hid (decide_eq_false fun h => h4 (by rw [h.2.2.2]))
    have h4 : ((ws.length : Int) == (vs.length : Int)) = false := by simp; omega
    obtain ⟨p, cap, rfl⟩ := ha.shape
    obtain ⟨q, cbp, rfl⟩ := hb.shape
    have hm := ha.1
    have hm2 := hb.1
    clear ha hb
    go_enter Try.func26, Try.ntmps26
    go_wp2
    go_ret
    exact ⟨ret_b HF.out.symm, by (repeat (first | exact Below.refl _ _ | (refine Below.setCell ?_ (by (first | exact Nat.le_refl _ | omega | (simp <;> omega) | simp)) _) | (refine Below.alloc ?_ (by (first | exact Nat.le_refl _ | omega | (simp <;> omega) | simp)) _) | (refine below_draws ?_ _)))⟩
  rcases first_diff ws vs h4 with rfl | ⟨k0, h0, hd, he⟩
  · refine (spec_same_yes n e s va vb ws w ha hb).mono ?_
    rintro en w1 ⟨rfl, B1⟩
    exact ⟨ret_b (by simp [sameB]), B1⟩
  · refine (spec_same_no n e s va vb ws vs w ha hb k0 h0 (by omega) hd he h4).mono ?_
    rintro en w1 ⟨rfl, B1⟩
    exact ⟨ret_b (by
      unfold sameB
      rw [eq_comm, decide_eq_false_iff_not]
      rintro ⟨-, -, -, rfl⟩
      exact hd rfl), B1⟩

set_option maxHeartbeats 800000 in
theorem impl_same (n e s n' e' s' : Int) (va vb : Value) (ws vs : List W3) (w : World) (ha : ReadsW w va ws) (hb : ReadsW w vb vs) :
    Calls Try.prog 27 #[.agg #[.int .i64 n, .int .i64 e, .int .i64 s, va], .agg #[.int .i64 n', .int .i64 e', .int .i64 s', vb]] w fun en w' => en = .returned (.bool (sameB n e s n' e' s' ws vs)) ∧ Below w.heap.size w w' := by
  by_cases h1 : n = n'
  case neg =>
    have HF : Hid (sameB n e s n' e' s' ws vs = false) := Lib.hid (decide_eq_false fun h => h1 h.1)
    have h1 : (n == n') = false := by simpa using h1
    go_enter Try.func27, Try.ntmps27
    go_wp2
    go_ret
    exact ⟨ret_b HF.out.symm, by (repeat (first | exact Below.refl _ _ | (refine Below.setCell ?_ (by (first | exact Nat.le_refl _ | omega | (simp <;> omega) | simp)) _) | (refine Below.alloc ?_ (by (first | exact Nat.le_refl _ | omega | (simp <;> omega) | simp)) _) | (refine below_draws ?_ _)))⟩
  subst h1
  by_cases h2 : e = e'
  case neg =>
    have HF : Hid (sameB n e s n e' s' ws vs = false) := Lib.hid (decide_eq_false fun h => h2 h.2.1)
    have h2 : (e == e') = false := by simpa using h2
    go_enter Try.func27, Try.ntmps27
    go_wp2
    go_ret
    exact ⟨ret_b HF.out.symm, by (repeat (first | exact Below.refl _ _ | (refine Below.setCell ?_ (by (first | exact Nat.le_refl _ | omega | (simp <;> omega) | simp)) _) | (refine Below.alloc ?_ (by (first | exact Nat.le_refl _ | omega | (simp <;> omega) | simp)) _) | (refine below_draws ?_ _)))⟩
  subst h2
  by_cases h3 : s = s'
  case neg =>
    have HF : Hid (sameB n e s n e s' ws vs = false) := Lib.hid (decide_eq_false fun h => h3 h.2.2.1)
    have h3 : (s == s') = false := by simpa using h3
    go_enter Try.func27, Try.ntmps27
    go_wp2
    go_ret
    exact ⟨ret_b HF.out.symm, by (repeat (first | exact Below.refl _ _ | (refine Below.setCell ?_ (by (first | exact Nat.le_refl _ | omega | (simp <;> omega) | simp)) _) | (refine Below.alloc ?_ (by (first | exact Nat.le_refl _ | omega | (simp <;> omega) | simp)) _) | (refine below_draws ?_ _)))⟩
  subst h3
  have hB0 : Below w.heap.size w ((w.alloc (.cells #[.int .i64 n, .int .i64 e, .int .i64 s, va] 29)).alloc (.cells #[.int .i64 n, .int .i64 e, .int .i64 s, vb] 29)) := by (repeat (first | exact Below.refl _ _ | (refine Below.setCell ?_ (by (first | exact Nat.le_refl _ | omega | (simp <;> omega) | simp)) _) | (refine Below.alloc ?_ (by (first | exact Nat.le_refl _ | omega | (simp <;> omega) | simp)) _) | (refine below_draws ?_ _)))
  have hE : Calls Try.prog 50 #[va, vb] ((w.alloc (.cells #[.int .i64 n, .int .i64 e, .int .i64 s, va] 29)).alloc (.cells #[.int .i64 n, .int .i64 e, .int .i64 s, vb] 29)) fun en w' => en = .returned (.bool (sameB n e s n e s ws vs)) ∧ Below (w.heap.size + 1 + 1) ((w.alloc (.cells #[.int .i64 n, .int .i64 e, .int .i64 s, va] 29)).alloc (.cells #[.int .i64 n, .int .i64 e, .int .i64 s, vb] 29)) w' := by
    have ra := ha.later hB0
    have rb := hb.later hB0
    by_cases h4 : ws.length = vs.length
    case neg =>
      refine (equal_len va vb ws vs _ ra rb (by simp; omega)).mono ?_
      rintro en w1 ⟨rfl, B1⟩
      exact ⟨ret_b (by unfold sameB; rw [eq_comm, decide_eq_false_iff_not]; rintro ⟨-, -, -, rfl⟩; exact h4 rfl), by simpa using B1⟩
    rcases first_diff ws vs h4 with rfl | ⟨k0, h0, hd, he⟩
    · refine (equal_yes va vb ws _ ra rb).mono ?_
      rintro en w1 ⟨rfl, B1⟩
      exact ⟨ret_b (by simp [sameB]), by simpa using B1⟩
    · refine (equal_no va vb ws vs _ ra rb k0 h0 (by omega) hd he h4).mono ?_
      rintro en w1 ⟨rfl, B1⟩
      exact ⟨ret_b (by
        unfold sameB
        rw [eq_comm, decide_eq_false_iff_not]
        rintro ⟨-, -, -, rfl⟩
        exact hd rfl), by simpa using B1⟩
  have HE := Lib.hid hE
  clear hE hB0 ha hb
  go_enter Try.func27, Try.ntmps27
  go_wp2_with fail
  refine HE.out.mono ?_
  rintro en w1 ⟨rfl, B1⟩
  go_wp2
  go_ret
  exact ⟨ret_b (by simp), by (repeat (first | exact Below.refl _ _ | (refine Below.setCell ?_ (by (first | exact Nat.le_refl _ | omega | (simp <;> omega) | simp)) _) | (refine Below.alloc ?_ (by (first | exact Nat.le_refl _ | omega | (simp <;> omega) | simp)) _) | (refine below_draws ?_ _) | exact B1 | (refine Below.trans ?_ (Below.mono B1 (by (first | exact Nat.le_refl _ | omega | (simp <;> omega) | simp))))))⟩
end Go.Proofs.Ytlehbfacepmnfaa
