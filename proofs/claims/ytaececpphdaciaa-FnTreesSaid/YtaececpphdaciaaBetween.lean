/-
  WeightBetween, in the model and in the program: the weight of the first wire between two nodes.
-/
import Derived.Test.YtaececpphdaciaaGNet
import Derived.BigGuardPart
namespace Go.Proofs.Ytaececpphdaciaa
open Go.RowKit

/-- The first wire from lo to hi, or none. -/
theorem first_hit (ws : List W3) (lo hi : Int) : (∃ k, ∃ h : k < ws.length, ws[k].1 = lo ∧ ws[k].2.1 = hi ∧ ∀ j, (hj : j < k) → ¬ (ws[j].1 = lo ∧ ws[j].2.1 = hi)) ∨ ∀ k, (h : k < ws.length) → ¬ (ws[k].1 = lo ∧ ws[k].2.1 = hi) := by
  by_cases hx : ∃ k, ∃ h : k < ws.length, ws[k].1 = lo ∧ ws[k].2.1 = hi
  · left
    let P : Nat → Prop := fun k => ∃ h : k < ws.length, ws[k].1 = lo ∧ ws[k].2.1 = hi
    have key : ∀ n, P n → ∃ k, P k ∧ ∀ j, j < k → ¬ P j := by
      intro n
      induction n using Nat.strongRecOn with
      | ind n ih =>
        intro hn
        by_cases hm : ∃ j, j < n ∧ P j
        · obtain ⟨j, hj, hp⟩ := hm
          exact ih j hj hp
        · exact ⟨n, hn, fun j hj hp => hm ⟨j, hj, hp⟩⟩
    obtain ⟨k, hk⟩ := hx
    obtain ⟨m, ⟨hm, h1, h2⟩, hmin⟩ := key k hk
    exact ⟨m, hm, h1, h2, fun j hj hh => hmin j hj ⟨by omega, hh⟩⟩
  · exact .inr fun k h hh => hx ⟨k, h, hh⟩

theorem no_hit {e : W3} {lo hi : Int} (h : ¬ (e.1 = lo ∧ e.2.1 = hi)) : (e.1 == lo) = false ∨ ((e.1 == lo) = true ∧ (e.2.1 == hi) = false) := by
  by_cases h1 : e.1 = lo
  · right; simp only [beq_iff_eq, beq_eq_false_iff_ne]; exact ⟨h1, fun h2 => h ⟨h1, h2⟩⟩
  · left; simpa using h1
/-- Which one is the lesser. -/
def Ends (a b lo hi : Int) : Prop := (a < b ∧ ¬ b < a ∧ lo = a ∧ hi = b) ∨ (¬ a < b ∧ ¬ b < a ∧ lo = a ∧ hi = a) ∨ (¬ a < b ∧ b < a ∧ lo = b ∧ hi = a)
theorem ends_of (a b : Int) : ∃ lo hi, Ends a b lo hi := by
  by_cases h : a < b
  · exact ⟨a, b, .inl ⟨h, by omega, rfl, rfl⟩⟩
  · by_cases h2 : b < a
    · exact ⟨b, a, .inr (.inr ⟨h, h2, rfl, rfl⟩)⟩
    · exact ⟨a, a, .inr (.inl ⟨h, h2, rfl, rfl⟩)⟩

set_option maxHeartbeats 1600000 in
theorem find_yes (v : Value) (ws : List W3) (a b lo hi : Int) (he : Ends a b lo hi) (w : World) (hr : ReadsW w v ws) (k0 : Nat) (h0 : k0 < ws.length) (hA : ws[k0].1 = lo) (hE : ws[k0].2.1 = hi) (hmin : ∀ j, (hj : j < k0) → ¬ (ws[j].1 = lo ∧ ws[j].2.1 = hi)) :
    Calls Try.prog 147 #[v, .int .i64 a, .int .i64 b] w fun en w' => en = .returned (.int .i64 (k0 : Int)) ∧ Below w.heap.size w w' := by
  obtain ⟨hm, hr1⟩ := hr
  rcases hr1 with ⟨hx, p, cap, rfl⟩ | ⟨g, o, cap, rfl, hc⟩
  · subst hx; simp at h0
  · have hA : (ws[k0].1 == lo) = true := by simpa using hA
    have hE : (ws[k0].2.1 == hi) = true := by simpa using hE
    have HC := Lib.hid hc; clear hc
    have HM := Lib.hid hmin; clear hmin
    have HA := Lib.hid hA; clear hA
    have HB := Lib.hid hE; clear hE
    rcases he with ⟨e1, e2, rfl, rfl⟩ | ⟨e1, e2, rfl, rfl⟩ | ⟨e1, e2, rfl, rfl⟩
    all_goals
      go_enter Try.func147, Try.ntmps147
      go_wp2
      go_loopw [11] (fun i wr => ∃ (k : Nat), k ≤ k0 ∧ i = .int .i64 k ∧ Below w.heap.size w wr) (fun i _ => ws.length - (intOf i).toNat)
      case atStart => exact ⟨0, Nat.zero_le _, rfl, by (repeat (first | exact Below.refl _ _ | (refine Below.setCell ?_ (by (first | exact Nat.le_refl _ | omega | (simp <;> omega) | simp)) _) | (refine Below.alloc ?_ (by (first | exact Nat.le_refl _ | omega | (simp <;> omega) | simp)) _) | (refine below_draws ?_ _)))⟩
      case round =>
        obtain ⟨k, hk, rfl, hB⟩ := hrel
        have hlt : k < ws.length := by omega
        obtain ⟨c0, c1, c2⟩ := HC.out k hlt
        have hg := World.block_lt_of_cell? w _ c0
        have hS := hB.size
        rw [← hB.cell (p := ⟨g, o + k * 3, none⟩) hg] at c0
        rw [← hB.cell (p := ⟨g, o + k * 3 + 1, none⟩) hg] at c1
        rw [← hB.cell (p := ⟨g, o + k * 3 + 2, none⟩) hg] at c2
        by_cases hk0 : k < k0
        · have hn := no_hit (HM.out k hk0)
          rcases hn with h1 | ⟨h1, h2⟩
          all_goals
            go_wp2
            go_roundw
            case rel => exact ⟨k + 1, by omega, by go_num, by (repeat (first | exact Below.refl _ _ | (refine Below.setCell ?_ (by (first | exact Nat.le_refl _ | omega | (simp <;> omega) | simp)) _) | (refine Below.alloc ?_ (by (first | exact Nat.le_refl _ | omega | (simp <;> omega) | simp)) _) | (refine below_draws ?_ _) | exact hB | (refine Below.trans ?_ (Below.mono hB (by (first | exact Nat.le_refl _ | omega | (simp <;> omega) | simp))))))⟩
            case measure => simp [intOf]; omega
        · obtain rfl : k = k0 := by omega
          have h1 := HA.out
          have h2 := HB.out
          go_wp2
          go_ret
          exact ⟨rfl, by (repeat (first | exact Below.refl _ _ | (refine Below.setCell ?_ (by (first | exact Nat.le_refl _ | omega | (simp <;> omega) | simp)) _) | (refine Below.alloc ?_ (by (first | exact Nat.le_refl _ | omega | (simp <;> omega) | simp)) _) | (refine below_draws ?_ _) | exact hB | (refine Below.trans ?_ (Below.mono hB (by (first | exact Nat.le_refl _ | omega | (simp <;> omega) | simp))))))⟩
set_option maxHeartbeats 1600000 in
theorem find_no (v : Value) (ws : List W3) (a b lo hi : Int) (he : Ends a b lo hi) (w : World) (hr : ReadsW w v ws) (hno : ∀ k, (h : k < ws.length) → ¬ (ws[k].1 = lo ∧ ws[k].2.1 = hi)) :
    Calls Try.prog 147 #[v, .int .i64 a, .int .i64 b] w fun en w' => en = .returned (.int .i64 (-1)) ∧ Below w.heap.size w w' := by
  obtain ⟨hm, hr1⟩ := hr
  rcases hr1 with ⟨hx, p, cap, rfl⟩ | ⟨g, o, cap, rfl, hc⟩
  · subst hx
    clear he hno
    go_enter Try.func147, Try.ntmps147
    go_wp2
    refine wp_loop_rounds 1 ?_
    rw [rounds_succ]
    go_wp2
    go_ret
    exact ⟨rfl, by (repeat (first | exact Below.refl _ _ | (refine Below.setCell ?_ (by (first | exact Nat.le_refl _ | omega | (simp <;> omega) | simp)) _) | (refine Below.alloc ?_ (by (first | exact Nat.le_refl _ | omega | (simp <;> omega) | simp)) _) | (refine below_draws ?_ _)))⟩
  · have HC := Lib.hid hc; clear hc
    have HM := Lib.hid hno; clear hno
    rcases he with ⟨e1, e2, rfl, rfl⟩ | ⟨e1, e2, rfl, rfl⟩ | ⟨e1, e2, rfl, rfl⟩
    all_goals
      go_enter Try.func147, Try.ntmps147
      go_wp2
      go_loopw [11] (fun i wr => ∃ (k : Nat), k ≤ ws.length ∧ i = .int .i64 k ∧ Below w.heap.size w wr) (fun i _ => ws.length - (intOf i).toNat)
      case atStart => exact ⟨0, Nat.zero_le _, rfl, by (repeat (first | exact Below.refl _ _ | (refine Below.setCell ?_ (by (first | exact Nat.le_refl _ | omega | (simp <;> omega) | simp)) _) | (refine Below.alloc ?_ (by (first | exact Nat.le_refl _ | omega | (simp <;> omega) | simp)) _) | (refine below_draws ?_ _)))⟩
      case round =>
        obtain ⟨k, hk, rfl, hB⟩ := hrel
        by_cases hlt : k < ws.length
        · obtain ⟨c0, c1, c2⟩ := HC.out k hlt
          have hg := World.block_lt_of_cell? w _ c0
          have hS := hB.size
          rw [← hB.cell (p := ⟨g, o + k * 3, none⟩) hg] at c0
          rw [← hB.cell (p := ⟨g, o + k * 3 + 1, none⟩) hg] at c1
          rw [← hB.cell (p := ⟨g, o + k * 3 + 2, none⟩) hg] at c2
          rcases no_hit (HM.out k hlt) with h1 | ⟨h1, h2⟩
          all_goals
            go_wp2
            go_roundw
            case rel => exact ⟨k + 1, by omega, by go_num, by (repeat (first | exact Below.refl _ _ | (refine Below.setCell ?_ (by (first | exact Nat.le_refl _ | omega | (simp <;> omega) | simp)) _) | (refine Below.alloc ?_ (by (first | exact Nat.le_refl _ | omega | (simp <;> omega) | simp)) _) | (refine below_draws ?_ _) | exact hB | (refine Below.trans ?_ (Below.mono hB (by (first | exact Nat.le_refl _ | omega | (simp <;> omega) | simp))))))⟩
            case measure => simp [intOf]; omega
        · obtain rfl : k = ws.length := by omega
          go_wp2
          go_ret
          exact ⟨rfl, by (repeat (first | exact Below.refl _ _ | (refine Below.setCell ?_ (by (first | exact Nat.le_refl _ | omega | (simp <;> omega) | simp)) _) | (refine Below.alloc ?_ (by (first | exact Nat.le_refl _ | omega | (simp <;> omega) | simp)) _) | (refine below_draws ?_ _) | exact hB | (refine Below.trans ?_ (Below.mono hB (by (first | exact Nat.le_refl _ | omega | (simp <;> omega) | simp))))))⟩

/-- What WeightBetween answers. -/
def wBtw (ws : List W3) (a b : Int) : Int :=
  if a = b then 0 else match ws.find? (fun e => (e.1 == min a b) && (e.2.1 == max a b)) with
    | some e => e.2.2
    | none => 0
theorem wBtw_same (ws : List W3) (a b : Int) (h : (a == b) = true) : wBtw ws a b = 0 := if_pos (by simpa using h)
theorem ends_min {a b lo hi : Int} (he : Ends a b lo hi) : min a b = lo ∧ max a b = hi := by
  rcases he with ⟨e1, e2, rfl, rfl⟩ | ⟨e1, e2, rfl, rfl⟩ | ⟨e1, e2, rfl, rfl⟩ <;> omega
theorem wBtw_yes (ws : List W3) (a b lo hi : Int) (he : Ends a b lo hi) (h : (a == b) = false) (k0 : Nat) (h0 : k0 < ws.length) (hA : ws[k0].1 = lo) (hE : ws[k0].2.1 = hi) (hmin : ∀ j, (hj : j < k0) → ¬ (ws[j].1 = lo ∧ ws[j].2.1 = hi)) : wBtw ws a b = ws[k0].2.2 := by
  obtain ⟨e1, e2⟩ := ends_min he
  unfold wBtw
  rw [if_neg (by simpa using h), e1, e2]
  have : ws.find? (fun e => (e.1 == lo) && (e.2.1 == hi)) = some ws[k0] := by
    rw [List.find?_eq_some_iff_getElem]
    refine ⟨by simp [hA, hE], k0, h0, rfl, fun j hj => ?_⟩
    have := hmin j hj
    simp only [Bool.not_eq_true', Bool.and_eq_false_iff, beq_eq_false_iff_ne]
    by_cases hx : ws[j].1 = lo
    · exact .inr fun h2 => this ⟨hx, h2⟩
    · exact .inl hx
  rw [this]
theorem wBtw_no (ws : List W3) (a b lo hi : Int) (he : Ends a b lo hi) (hno : ∀ k, (h : k < ws.length) → ¬ (ws[k].1 = lo ∧ ws[k].2.1 = hi)) : wBtw ws a b = 0 := by
  obtain ⟨e1, e2⟩ := ends_min he
  unfold wBtw
  split
  · rfl
  · rw [e1, e2]
    have : ws.find? (fun e => (e.1 == lo) && (e.2.1 == hi)) = none := by
      rw [List.find?_eq_none]
      intro e hm
      obtain ⟨k, hk, rfl⟩ := List.getElem_of_mem hm
      have := hno k hk
      simpa using this
    rw [this]

set_option maxHeartbeats 1600000 in
theorem spec_wBtw (n e s a b : Int) (v : Value) (ws : List W3) (w : World) (hr : ReadsW w v ws) :
    Calls Try.prog 135 #[.agg #[.int .i64 n, .int .i64 e, .int .i64 s, v], .int .i64 a, .int .i64 b] w fun en w' => en = .returned (.int .i64 (wBtw ws a b)) ∧ Below w.heap.size w w' := by
  have hr' := hr.later ((Below.refl w.heap.size w).alloc (Nat.le_refl _) (.cells #[.int .i64 n, .int .i64 e, .int .i64 s, v] 25))
  obtain ⟨lo, hi, he⟩ := ends_of a b
  rcases first_hit ws lo hi with ⟨k0, h0, hA, hE, hmin⟩ | hno
  · have hc := find_yes v ws a b lo hi he _ hr' k0 h0 hA hE hmin
    by_cases hab : (a == b) = true
    · have HF := Lib.hid (wBtw_same ws a b hab)
      clear he hA hE hmin
      go_enter Try.func135, Try.ntmps135
      go_wp2_with fail
      refine hc.mono ?_
      rintro en w1 ⟨rfl, B1⟩
      obtain ⟨hc1, hf1⟩ := bcell B1
      have S1 := B1.size
      try simp at S1
      try (have _L1w : w.heap.size < w1.heap.size := by omega)
      have _M1w : w.heap.size ≤ w1.heap.size := by omega
      try (have _P1w_1 : w.heap.size + 1 < w1.heap.size := by omega)
      try (have _P1w_2 : w.heap.size + 1 + 1 < w1.heap.size := by omega)
      try (have _P1w_3 : w.heap.size + 1 + 1 + 1 < w1.heap.size := by omega)
      go_wp2
      go_ret
      exact ⟨ret_i HF.out.symm, by (repeat (first | exact Below.refl _ _ | (refine Below.setCell ?_ (by (first | exact Nat.le_refl _ | omega | (simp <;> omega) | simp)) _) | (refine Below.alloc ?_ (by (first | exact Nat.le_refl _ | omega | (simp <;> omega) | simp)) _) | (refine below_draws ?_ _) | exact B1 | (refine Below.trans ?_ (Below.mono B1 (by (first | exact Nat.le_refl _ | omega | (simp <;> omega) | simp))))))⟩
    · have hab : (a == b) = false := by simpa using hab
      have HF := Lib.hid (wBtw_yes ws a b lo hi he hab k0 h0 hA hE hmin)
      obtain ⟨hm, hr1⟩ := hr
      rcases hr1 with ⟨hx, p, cap, rfl⟩ | ⟨g, o, cap, rfl, hcc⟩
      · subst hx; simp at h0
      · obtain ⟨c0, c1, c2⟩ := hcc k0 h0
        have hg := World.block_lt_of_cell? w _ c2
        clear he hA hE hmin hcc c0 c1
        go_enter Try.func135, Try.ntmps135
        go_wp2_with fail
        refine hc.mono ?_
        rintro en w1 ⟨rfl, B1⟩
        obtain ⟨hc1, hf1⟩ := bcell B1
        have S1 := B1.size
        try simp at S1
        try (have _L1w : w.heap.size < w1.heap.size := by omega)
        have _M1w : w.heap.size ≤ w1.heap.size := by omega
        try (have _P1w_1 : w.heap.size + 1 < w1.heap.size := by omega)
        try (have _P1w_2 : w.heap.size + 1 + 1 < w1.heap.size := by omega)
        try (have _P1w_3 : w.heap.size + 1 + 1 + 1 < w1.heap.size := by omega)
        have c2' : w1.cell? ⟨g, o + k0 * 3 + 2, none⟩ = some (.int .i64 ws[k0].2.2) := by
          rw [hc1 g _ (by simp; omega), World.cell?_alloc_old _ _ _ (by show g ≠ _; omega)]; exact c2
        go_wp2
        go_ret
        exact ⟨ret_i HF.out.symm, by (repeat (first | exact Below.refl _ _ | (refine Below.setCell ?_ (by (first | exact Nat.le_refl _ | omega | (simp <;> omega) | simp)) _) | (refine Below.alloc ?_ (by (first | exact Nat.le_refl _ | omega | (simp <;> omega) | simp)) _) | (refine below_draws ?_ _) | exact B1 | (refine Below.trans ?_ (Below.mono B1 (by (first | exact Nat.le_refl _ | omega | (simp <;> omega) | simp))))))⟩
  · have hc := find_no v ws a b lo hi he _ hr' hno
    have HF := Lib.hid (wBtw_no ws a b lo hi he hno)
    clear he hno
    go_enter Try.func135, Try.ntmps135
    go_wp2_with fail
    refine hc.mono ?_
    rintro en w1 ⟨rfl, B1⟩
    obtain ⟨hc1, hf1⟩ := bcell B1
    have S1 := B1.size
    try simp at S1
    try (have _L1w : w.heap.size < w1.heap.size := by omega)
    have _M1w : w.heap.size ≤ w1.heap.size := by omega
    try (have _P1w_1 : w.heap.size + 1 < w1.heap.size := by omega)
    try (have _P1w_2 : w.heap.size + 1 + 1 < w1.heap.size := by omega)
    try (have _P1w_3 : w.heap.size + 1 + 1 + 1 < w1.heap.size := by omega)
    go_wp2
    go_ret
    exact ⟨ret_i HF.out.symm, by (repeat (first | exact Below.refl _ _ | (refine Below.setCell ?_ (by (first | exact Nat.le_refl _ | omega | (simp <;> omega) | simp)) _) | (refine Below.alloc ?_ (by (first | exact Nat.le_refl _ | omega | (simp <;> omega) | simp)) _) | (refine below_draws ?_ _) | exact B1 | (refine Below.trans ?_ (Below.mono B1 (by (first | exact Nat.le_refl _ | omega | (simp <;> omega) | simp))))))⟩

theorem pairOf_any (a b lo hi : Int) (he : Ends a b lo hi) (w : World) :
    Calls Try.prog 59 #[.int .i64 a, .int .i64 b] w fun en w' => en = .returned (.agg #[.int .i64 lo, .int .i64 hi]) ∧ Below w.heap.size w w' := by
  rcases he with ⟨e1, e2, rfl, rfl⟩ | ⟨e1, e2, rfl, rfl⟩ | ⟨e1, e2, rfl, rfl⟩
  · go_enter Try.func59, Try.ntmps59
    go_wp2
    exact bodyPost_ret (v := (.agg #[.int .i64 lo, .int .i64 hi])) (by simp (maxDischargeDepth := 8) [results, Try.results59, go_sem, *]) rfl ⟨rfl, by (repeat (first | exact Below.refl _ _ | (refine Below.setCell ?_ (by (first | exact Nat.le_refl _ | omega | (simp <;> omega) | simp)) _) | (refine Below.alloc ?_ (by (first | exact Nat.le_refl _ | omega | (simp <;> omega) | simp)) _) | (refine below_draws ?_ _)))⟩
  · obtain rfl : hi = b := by omega
    go_enter Try.func59, Try.ntmps59
    go_wp2
    exact bodyPost_ret (v := (.agg #[.int .i64 hi, .int .i64 hi])) (by simp (maxDischargeDepth := 8) [results, Try.results59, go_sem, *]) rfl ⟨rfl, by (repeat (first | exact Below.refl _ _ | (refine Below.setCell ?_ (by (first | exact Nat.le_refl _ | omega | (simp <;> omega) | simp)) _) | (refine Below.alloc ?_ (by (first | exact Nat.le_refl _ | omega | (simp <;> omega) | simp)) _) | (refine below_draws ?_ _)))⟩
  · go_enter Try.func59, Try.ntmps59
    go_wp2
    exact bodyPost_ret (v := (.agg #[.int .i64 lo, .int .i64 hi])) (by simp (maxDischargeDepth := 8) [results, Try.results59, go_sem, *]) rfl ⟨rfl, by (repeat (first | exact Below.refl _ _ | (refine Below.setCell ?_ (by (first | exact Nat.le_refl _ | omega | (simp <;> omega) | simp)) _) | (refine Below.alloc ?_ (by (first | exact Nat.le_refl _ | omega | (simp <;> omega) | simp)) _) | (refine below_draws ?_ _)))⟩

set_option maxHeartbeats 1600000 in
theorem impl_wBtw (n e s a b : Int) (v : Value) (ws : List W3) (w : World) (hr : ReadsW w v ws) :
    Calls Try.prog 69 #[.agg #[.int .i64 n, .int .i64 e, .int .i64 s, v], .int .i64 a, .int .i64 b] w fun en w' => en = .returned (.int .i64 (wBtw ws a b)) ∧ Below w.heap.size w w' := by
  by_cases hab : (a == b) = true
  · have HF := Lib.hid (wBtw_same ws a b hab)
    go_enter Try.func69, Try.ntmps69
    go_wp2
    go_ret
    exact ⟨ret_i HF.out.symm, by (repeat (first | exact Below.refl _ _ | (refine Below.setCell ?_ (by (first | exact Nat.le_refl _ | omega | (simp <;> omega) | simp)) _) | (refine Below.alloc ?_ (by (first | exact Nat.le_refl _ | omega | (simp <;> omega) | simp)) _) | (refine below_draws ?_ _)))⟩
  have hab : (a == b) = false := by simpa using hab
  obtain ⟨lo, hi, he⟩ := ends_of a b
  have hp := fun W => pairOf_any a b lo hi he W
  obtain ⟨hm, hr1⟩ := hr
  rcases hr1 with ⟨hx, p, cap, rfl⟩ | ⟨g, o, cap, rfl, hcc⟩
  · subst hx
    have HF := Lib.hid (wBtw_no [] a b lo hi he (by intro k h; simp at h))
    go_enter Try.func69, Try.ntmps69
    go_wp2_with fail
    refine (hp _).mono ?_
    rintro en w1 ⟨rfl, B1⟩
    obtain ⟨hc1, hf1⟩ := bcell B1
    have S1 := B1.size
    try simp at S1
    try (have _L1w : w.heap.size < w1.heap.size := by omega)
    have _M1w : w.heap.size ≤ w1.heap.size := by omega
    try (have _P1w_1 : w.heap.size + 1 < w1.heap.size := by omega)
    try (have _P1w_2 : w.heap.size + 1 + 1 < w1.heap.size := by omega)
    try (have _P1w_3 : w.heap.size + 1 + 1 + 1 < w1.heap.size := by omega)
    go_wp2
    refine wp_loop_rounds 1 ?_
    rw [rounds_succ]
    go_wp2
    go_ret
    exact ⟨ret_i HF.out.symm, by (repeat (first | exact Below.refl _ _ | (refine Below.setCell ?_ (by (first | exact Nat.le_refl _ | omega | (simp <;> omega) | simp)) _) | (refine Below.alloc ?_ (by (first | exact Nat.le_refl _ | omega | (simp <;> omega) | simp)) _) | (refine below_draws ?_ _) | exact B1 | (refine Below.trans ?_ (Below.mono B1 (by (first | exact Nat.le_refl _ | omega | (simp <;> omega) | simp))))))⟩
  have HC := Lib.hid hcc; clear hcc
  rcases first_hit ws lo hi with ⟨k0, h0, hA, hE, hmin⟩ | hno
  · have HF := Lib.hid (wBtw_yes ws a b lo hi he hab k0 h0 hA hE hmin)
    have HA : Hid ((ws[k0].1 == lo) = true) := Lib.hid (by simpa using hA)
    have HB : Hid ((ws[k0].2.1 == hi) = true) := Lib.hid (by simpa using hE)
    have HM := Lib.hid hmin
    clear hA hE hmin he
    go_enter Try.func69, Try.ntmps69
    go_wp2_with fail
    refine (hp _).mono ?_
    rintro en w1 ⟨rfl, B1⟩
    obtain ⟨hc1, hf1⟩ := bcell B1
    have S1 := B1.size
    try simp at S1
    try (have _L1w : w.heap.size < w1.heap.size := by omega)
    have _M1w : w.heap.size ≤ w1.heap.size := by omega
    try (have _P1w_1 : w.heap.size + 1 < w1.heap.size := by omega)
    try (have _P1w_2 : w.heap.size + 1 + 1 < w1.heap.size := by omega)
    try (have _P1w_3 : w.heap.size + 1 + 1 + 1 < w1.heap.size := by omega)
    have HP := Lib.hid hp; clear hp
    go_wp2
    go_loopw [19] (fun i wr => ∃ (k : Nat), k ≤ k0 ∧ i = .int .i64 k ∧ w1.heap.size < wr.heap.size ∧ wr.cell? ⟨w1.heap.size, 0, none⟩ = some (.int .i64 lo) ∧ wr.cell? ⟨w1.heap.size, 1, none⟩ = some (.int .i64 hi) ∧ Below w.heap.size w wr) (fun i _ => ws.length - (intOf i).toNat)
    case atStart => exact ⟨0, Nat.zero_le _, rfl, by simp, by simp, by simp, by (repeat (first | exact Below.refl _ _ | (refine Below.setCell ?_ (by (first | exact Nat.le_refl _ | omega | (simp <;> omega) | simp)) _) | (refine Below.alloc ?_ (by (first | exact Nat.le_refl _ | omega | (simp <;> omega) | simp)) _) | (refine below_draws ?_ _) | exact B1 | (refine Below.trans ?_ (Below.mono B1 (by (first | exact Nat.le_refl _ | omega | (simp <;> omega) | simp))))))⟩
    case round =>
      obtain ⟨k, hk, rfl, hs1, hl, hh, hB⟩ := hrel
      have hlt : k < ws.length := by omega
      obtain ⟨c0, c1, c2⟩ := HC.out k hlt
      have hg := World.block_lt_of_cell? w _ c0
      have hS := hB.size
      rw [← hB.cell (p := ⟨g, o + k * 3, none⟩) hg] at c0
      rw [← hB.cell (p := ⟨g, o + k * 3 + 1, none⟩) hg] at c1
      rw [← hB.cell (p := ⟨g, o + k * 3 + 2, none⟩) hg] at c2
      by_cases hk0 : k < k0
      · rcases no_hit (HM.out k hk0) with h1 | ⟨h1, h2⟩
        all_goals
          go_wp2
          go_roundw
          case rel => exact ⟨k + 1, by omega, by go_num, by simp; omega, by first | assumption | simp [go_sem, *], by first | assumption | simp [go_sem, *], by (repeat (first | exact Below.refl _ _ | (refine Below.setCell ?_ (by (first | exact Nat.le_refl _ | omega | (simp <;> omega) | simp)) _) | (refine Below.alloc ?_ (by (first | exact Nat.le_refl _ | omega | (simp <;> omega) | simp)) _) | (refine below_draws ?_ _) | exact hB | (refine Below.trans ?_ (Below.mono hB (by (first | exact Nat.le_refl _ | omega | (simp <;> omega) | simp))))))⟩
          case measure => simp [intOf]; omega
      · obtain rfl : k = k0 := by omega
        have h1 := HA.out
        have h2 := HB.out
        go_wp2
        go_ret
        exact ⟨ret_i HF.out.symm, by (repeat (first | exact Below.refl _ _ | (refine Below.setCell ?_ (by (first | exact Nat.le_refl _ | omega | (simp <;> omega) | simp)) _) | (refine Below.alloc ?_ (by (first | exact Nat.le_refl _ | omega | (simp <;> omega) | simp)) _) | (refine below_draws ?_ _) | exact hB | (refine Below.trans ?_ (Below.mono hB (by (first | exact Nat.le_refl _ | omega | (simp <;> omega) | simp))))))⟩
  · have HF := Lib.hid (wBtw_no ws a b lo hi he hno)
    have HM := Lib.hid hno
    clear hno he
    go_enter Try.func69, Try.ntmps69
    go_wp2_with fail
    refine (hp _).mono ?_
    rintro en w1 ⟨rfl, B1⟩
    obtain ⟨hc1, hf1⟩ := bcell B1
    have S1 := B1.size
    try simp at S1
    try (have _L1w : w.heap.size < w1.heap.size := by omega)
    have _M1w : w.heap.size ≤ w1.heap.size := by omega
    try (have _P1w_1 : w.heap.size + 1 < w1.heap.size := by omega)
    try (have _P1w_2 : w.heap.size + 1 + 1 < w1.heap.size := by omega)
    try (have _P1w_3 : w.heap.size + 1 + 1 + 1 < w1.heap.size := by omega)
    have HP := Lib.hid hp; clear hp
    go_wp2
    go_loopw [19] (fun i wr => ∃ (k : Nat), k ≤ ws.length ∧ i = .int .i64 k ∧ w1.heap.size < wr.heap.size ∧ wr.cell? ⟨w1.heap.size, 0, none⟩ = some (.int .i64 lo) ∧ wr.cell? ⟨w1.heap.size, 1, none⟩ = some (.int .i64 hi) ∧ Below w.heap.size w wr) (fun i _ => ws.length - (intOf i).toNat)
    case atStart => exact ⟨0, Nat.zero_le _, rfl, by simp, by simp, by simp, by (repeat (first | exact Below.refl _ _ | (refine Below.setCell ?_ (by (first | exact Nat.le_refl _ | omega | (simp <;> omega) | simp)) _) | (refine Below.alloc ?_ (by (first | exact Nat.le_refl _ | omega | (simp <;> omega) | simp)) _) | (refine below_draws ?_ _) | exact B1 | (refine Below.trans ?_ (Below.mono B1 (by (first | exact Nat.le_refl _ | omega | (simp <;> omega) | simp))))))⟩
    case round =>
      obtain ⟨k, hk, rfl, hs1, hl, hh, hB⟩ := hrel
      by_cases hlt : k < ws.length
      · obtain ⟨c0, c1, c2⟩ := HC.out k hlt
        have hg := World.block_lt_of_cell? w _ c0
        have hS := hB.size
        rw [← hB.cell (p := ⟨g, o + k * 3, none⟩) hg] at c0
        rw [← hB.cell (p := ⟨g, o + k * 3 + 1, none⟩) hg] at c1
        rw [← hB.cell (p := ⟨g, o + k * 3 + 2, none⟩) hg] at c2
        rcases no_hit (HM.out k hlt) with h1 | ⟨h1, h2⟩
        all_goals
          go_wp2
          go_roundw
          case rel => exact ⟨k + 1, by omega, by go_num, by simp; omega, by first | assumption | simp [go_sem, *], by first | assumption | simp [go_sem, *], by (repeat (first | exact Below.refl _ _ | (refine Below.setCell ?_ (by (first | exact Nat.le_refl _ | omega | (simp <;> omega) | simp)) _) | (refine Below.alloc ?_ (by (first | exact Nat.le_refl _ | omega | (simp <;> omega) | simp)) _) | (refine below_draws ?_ _) | exact hB | (refine Below.trans ?_ (Below.mono hB (by (first | exact Nat.le_refl _ | omega | (simp <;> omega) | simp))))))⟩
          case measure => simp [intOf]; omega
      · obtain rfl : k = ws.length := by omega
        go_wp2
        go_ret
        exact ⟨ret_i HF.out.symm, by (repeat (first | exact Below.refl _ _ | (refine Below.setCell ?_ (by (first | exact Nat.le_refl _ | omega | (simp <;> omega) | simp)) _) | (refine Below.alloc ?_ (by (first | exact Nat.le_refl _ | omega | (simp <;> omega) | simp)) _) | (refine below_draws ?_ _) | exact hB | (refine Below.trans ?_ (Below.mono hB (by (first | exact Nat.le_refl _ | omega | (simp <;> omega) | simp))))))⟩
end Go.Proofs.Ytaececpphdaciaa
