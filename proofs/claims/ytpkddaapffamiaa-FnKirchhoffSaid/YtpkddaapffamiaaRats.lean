/-
  Lists of fractions (two numbers each): how a slice of them reads, what a call owns of them; the laws' copies, comparisons, marks and sizes of them.
-/
import Derived.Test.YtpkddaapffamiaaGNet
import Derived.Test.YtpkddaapffamiaaRatioEq
namespace Go.Proofs.Ytpkddaapffamiaa
open Go.RowKit

/-- A fraction: numerator and denominator. -/
abbrev P2 := Int × Int
def cells2 (e : P2) : List Value := [.int .i64 e.1, .int .i64 e.2]
def cellsP (ws : List P2) : List Value := ws.flatMap cells2
theorem cellsP_nil : cellsP [] = [] := rfl
theorem cellsP_snoc (ws : List P2) (e : P2) : cellsP (ws ++ [e]) = cellsP ws ++ cells2 e := by simp [cellsP]
theorem cellsP_length : ∀ ws : List P2, (cellsP ws).length = ws.length * 2
  | [] => rfl
  | e :: r => by have := cellsP_length r; simp [cellsP, cells2] at *; omega
theorem cellsP_get : ∀ (ws : List P2) (k : Nat) (h : k < ws.length), (cellsP ws)[k * 2]? = some (.int .i64 ws[k].1) ∧ (cellsP ws)[k * 2 + 1]? = some (.int .i64 ws[k].2)
  | [], k, h => absurd h (by simp)
  | e :: r, 0, _ => ⟨rfl, rfl⟩
  | e :: r, k + 1, h => by
    have ih := cellsP_get r k (by simpa using h)
    have hc : cellsP (e :: r) = Value.int .i64 e.1 :: Value.int .i64 e.2 :: cellsP r := rfl
    have a0 : (k + 1) * 2 = k * 2 + 1 + 1 := by omega
    rw [hc, a0]
    exact ⟨ih.1, ih.2⟩

/-- The slice v reads as the fractions ws. -/
def ReadsP (w : World) (v : Value) (ws : List P2) : Prop :=
  ws.length ≤ 9223372036854775807 ∧ ((ws = [] ∧ ∃ p cap, v = .slice p 0 cap) ∨
    ∃ g o cap, v = .slice (some ⟨g, o, none⟩) ws.length cap ∧ ∀ k (h : k < ws.length), w.cell? ⟨g, o + k * 2, none⟩ = some (.int .i64 ws[k].1) ∧ w.cell? ⟨g, o + k * 2 + 1, none⟩ = some (.int .i64 ws[k].2))

theorem ReadsP.later {w w' : World} {v : Value} {ws : List P2} (h : ReadsP w v ws) (hB : Below w.heap.size w w') : ReadsP w' v ws := by
  refine ⟨h.1, ?_⟩
  rcases h.2 with h0 | ⟨g, o, cap, rfl, hc⟩
  · exact .inl h0
  · refine .inr ⟨g, o, cap, rfl, fun k hk => ?_⟩
    obtain ⟨a, b⟩ := hc k hk
    have hg := World.block_lt_of_cell? w _ a
    exact ⟨by rw [hB.cell (p := ⟨g, o + k * 2, none⟩) hg]; exact a, by rw [hB.cell (p := ⟨g, o + k * 2 + 1, none⟩) hg]; exact b⟩
theorem ReadsP.of_own {w : World} {base : Nat} {e : TypeId} {v : Value} {ws : List P2} (h : w.ownsRow base e 2 v ws.length (cellsP ws)) : ReadsP w v ws := by
  obtain ⟨hl, h2⟩ := h
  rcases h2 with ⟨rfl, hn⟩ | ⟨g, cap, cur, rfl, hb, hg, hnc, hcm, hcs, ht⟩
  · exact ⟨by omega, .inl ⟨List.eq_nil_of_length_eq_zero hn, none, 0, rfl⟩⟩
  · have hm : ws.length ≤ 9223372036854775807 := by unfold maxLen at hcm; omega
    have hh : w.ownsRow base e 2 (.slice (some ⟨g, 0, none⟩) ws.length cap) ws.length (cellsP ws) := ⟨hl, .inr ⟨g, cap, cur, rfl, hb, hg, hnc, hcm, hcs, ht⟩⟩
    refine ⟨by omega, .inr ⟨g, 0, cap, rfl, fun k hk => ?_⟩⟩
    obtain ⟨a, b⟩ := cellsP_get ws k hk
    simp only [Nat.zero_add]
    exact ⟨by rw [hh.cellAt (k * 2) (by omega), a], by rw [hh.cellAt (k * 2 + 1) (by omega), b]⟩
theorem ReadsP.shape {w : World} {v : Value} {ws : List P2} (h : ReadsP w v ws) : ∃ p cap, v = .slice p ws.length cap := by
  rcases h.2 with ⟨hx, p, cap, rfl⟩ | ⟨g, o, cap, rfl, _⟩
  · exact ⟨p, cap, by rw [hx]; rfl⟩
  · exact ⟨_, cap, rfl⟩
theorem ReadsP.pos {w : World} {v : Value} {ws : List P2} (h : ReadsP w v ws) (h0 : 0 < ws.length) : ∃ g o cap, v = .slice (some ⟨g, o, none⟩) ws.length cap ∧ g < w.heap.size ∧ ∀ k (h : k < ws.length), w.cell? ⟨g, o + k * 2, none⟩ = some (.int .i64 ws[k].1) ∧ w.cell? ⟨g, o + k * 2 + 1, none⟩ = some (.int .i64 ws[k].2) := by
  rcases h.2 with ⟨hx, _⟩ | ⟨g, o, cap, rfl, hc⟩
  · rw [hx] at h0; simp at h0
  · exact ⟨g, o, cap, rfl, World.block_lt_of_cell? w _ (hc 0 h0).1, hc⟩
theorem ReadsP.kept {w w' : World} {row : Option Nat} {v : Value} {ws : List P2} (h : ReadsP w v ws) (hg : w.grownBy w' row) (hne : v.ownBlock = none ∨ v.ownBlock ≠ row) : ReadsP w' v ws := by
  refine ⟨h.1, ?_⟩
  rcases h.2 with h0 | ⟨g, o, cap, rfl, hc⟩
  · exact .inl h0
  · have hr : some g ≠ row := by
      rcases hne with h | h
      · exact absurd h (by simp [Value.ownBlock])
      · exact h
    refine .inr ⟨g, o, cap, rfl, fun k hk => ?_⟩
    obtain ⟨a, b⟩ := hc k hk
    exact ⟨hg.cell a hr, hg.cell b hr⟩

/-! ### sizes -/
theorem szRatioS_any (v : Value) (ws : List P2) (left : Int) (w : World) (h0 : 0 ≤ left) (h1 : left ≤ 1048576) (hr : ReadsP w v ws) :
    Calls Try.prog 46 #[v, .int .i64 left] w fun e w' => e = .returned (.int .i64 (if left - ws.length < 0 then -1 else left - ws.length)) ∧ w = w' := by
  obtain ⟨p, cap, rfl⟩ := hr.shape
  have hm := hr.1
  clear hr
  by_cases hneg : left - ws.length < 0
  · rw [if_pos hneg]
    go_enter Try.func46, Try.ntmps46
    go_wp2
    go_ret
    exact ⟨rfl, rfl⟩
  · rw [if_neg hneg]
    go_enter Try.func46, Try.ntmps46
    go_wp2
    go_ret
    exact ⟨rfl, rfl⟩

theorem Try.infoRatio : (Try.prog.info? 32).map (fun i => (i.zero, i.size, i.bytes)) = some (some (.agg #[.int .i64 0, .int .i64 0]), 2, 16) := by kernel_rfl
theorem set2_take (ys : List Value) (ws : List P2) (k : Nat) (hk : k < ws.length) (hy : ys.length = ws.length * 2) (h : ys.take (k * 2) = cellsP (ws.take k)) :
    ((ys.set (k * 2) (.int .i64 ws[k].1)).set (k * 2 + 1) (.int .i64 ws[k].2)).take ((k + 1) * 2) = cellsP (ws.take (k + 1)) := by
  rw [List.take_succ_eq_append_getElem hk, cellsP_snoc, ← h]
  have e : (k + 1) * 2 = k * 2 + 1 + 1 := by omega
  rw [e, List.take_succ_eq_append_getElem (by simp; omega), List.take_succ_eq_append_getElem (by simp; omega)]
  simp [List.take_set_of_le, cells2]

set_option maxHeartbeats 800000 in
theorem toRatioS_any (v : Value) (ws : List P2) (w : World) (hn : ws.length ≤ 1048576) (hr : ReadsP w v ws) :
    Calls Try.prog 48 #[v] w fun e w' => ∃ v', e = .returned v' ∧ w'.ownsRow w.heap.size 32 2 v' ws.length (cellsP ws) ∧ Below w.heap.size w w' := by
  obtain ⟨i0, hi, hz0, hz1, hz2⟩ := info_parts Try.infoRatio
  obtain ⟨w1, hmk, own1, grow1⟩ := run_makeSlice_full w w.heap.size 28 32 i0 (.agg #[.int .i64 0, .int .i64 0]) 2 Try.underlying28 hi hz0 hz1 .i64 .i64 ws.length (by omega) (by rw [hz2]; omega) (by unfold maxLen; omega) (Nat.le_refl _)
  have B1 : Below w.heap.size w w1 := (Below.refl _ _).grown grow1 (Nat.le_refl _) (fun k hk => by cases hk)
  clear grow1 hi hz0 hz1 hz2
  obtain ⟨hm, hr1⟩ := hr
  rcases hr1 with ⟨hx, p, cap, rfl⟩ | ⟨g, o, cap, rfl, hc⟩
  · subst hx
    have hmk' : (Instr.makeSlice 28 (.int .i64 0) (.int .i64 0)).run Try.prog w = .ok (.slice (some ⟨w.heap.size, 0, none⟩) 0 0) w1 := hmk
    have own2 : w1.ownsRow w.heap.size 32 2 (.slice (some ⟨w.heap.size, 0, none⟩) 0 0) 0 [] := by
      have h := List.eq_nil_of_length_eq_zero (own1.1.trans (by simp))
      rw [h] at own1; exact own1
    clear hm hmk
    go_enter Try.func48, Try.ntmps48
    go_wp2
    refine wp_loop_rounds 1 ?_
    rw [rounds_succ]
    go_wp2
    go_ret
    exact ⟨_, rfl, own2, B1⟩
  · have HC := Lib.hid hc; clear hc
    go_enter Try.func48, Try.ntmps48
    go_wp2
    go_loopw [4] (fun i wr => ∃ (k : Nat) (ys : List Value), k ≤ ws.length ∧ i = .int .i64 k ∧ wr.ownsRow w.heap.size 32 2 (.slice (some ⟨w.heap.size, 0, none⟩) ws.length ws.length) ws.length ys ∧ Hid (ys.take (k * 2) = cellsP (ws.take k)) ∧ Below w.heap.size w wr) (fun i _ => ws.length - (intOf i).toNat)
    case atStart => exact ⟨0, _, Nat.zero_le _, rfl, own1, rfl, B1⟩
    case round =>
      obtain ⟨k, ys, hk, rfl, hown, hh, hB⟩ := hrel
      by_cases hlt : k < ws.length
      · have hyl : ys.length = ws.length * 2 := by have := hown.1; omega
        obtain ⟨c0, c1⟩ := HC.out k hlt
        have hg := World.block_lt_of_cell? w _ c0
        rw [← hB.cell (p := ⟨g, o + k * 2, none⟩) hg] at c0
        rw [← hB.cell (p := ⟨g, o + k * 2 + 1, none⟩) hg] at c1
        go_wp2_with fail
        refine (to_ratio _ _ _).mono ?_
        rintro e w2 ⟨rfl, B2⟩
        have own2 := owns_later hown B2
        have d0 := own2.cellAt (k * 2) (by omega)
        have d1 := own2.cellAt (k * 2 + 1) (by omega)
        rw [List.getElem?_eq_getElem (by omega)] at d0 d1
        have f0 := own2.frozenAt (k * 2)
        have f1 := own2.frozenAt (k * 2 + 1)
        go_wp2
        go_roundw
        case rel =>
          have s1 := (own2.stored (k * 2) (.int .i64 ws[k].1)).1
          have s2 := (s1.stored (k * 2 + 1) (.int .i64 ws[k].2)).1
          exact ⟨k + 1, _, by omega, by go_num, s2, set2_take ys ws k hlt hyl hh.out, ((hB.trans (B2.mono hB.size)).setCell (Nat.le_refl _) _).setCell (Nat.le_refl _) _⟩
        case measure => simp [intOf]; omega
      · obtain rfl : k = ws.length := by omega
        go_wp2
        go_ret
        have e := hh.out
        have hyl : ys.length = ws.length * 2 := by have := hown.1; omega
        rw [List.take_of_length_le (by omega), List.take_of_length_le (by simp)] at e
        rw [← e]
        exact ⟨_, rfl, hown, hB⟩

theorem four2_keep {B : Nat} {W w w1 : World} {a b d e : Addr} {u1 u2 : Value} (h : Below w.heap.size w w1)
    (k : w.cell? a = some u1 ∧ w.cell? b = some u2 ∧ w.cell? d = some u1 ∧ w.cell? e = some u2 ∧ B ≤ w.heap.size ∧ Below B W w) :
    w1.cell? a = some u1 ∧ w1.cell? b = some u2 ∧ w1.cell? d = some u1 ∧ w1.cell? e = some u2 ∧ B ≤ w1.heap.size ∧ Below B W w1 := by
  obtain ⟨h1, h2, h4, h5, h7, h8⟩ := k
  have s := h.size
  refine ⟨?_, ?_, ?_, ?_, by omega, h8.trans (h.mono h7)⟩
  · rw [h.cell (World.block_lt_of_cell? w _ h1)]; exact h1
  · rw [h.cell (World.block_lt_of_cell? w _ h2)]; exact h2
  · rw [h.cell (World.block_lt_of_cell? w _ h4)]; exact h4
  · rw [h.cell (World.block_lt_of_cell? w _ h5)]; exact h5

set_option maxHeartbeats 800000 in
theorem eqRatioS_same (va vb : Value) (ws : List P2) (w : World) (ha : ReadsP w va ws) (hb : ReadsP w vb ws) :
    Calls Try.prog 41 #[va, vb] w fun e w' => e = .returned (.bool true) ∧ Below w.heap.size w w' := by
  obtain ⟨hm, ha2⟩ := ha
  obtain ⟨-, hb2⟩ := hb
  by_cases h0 : ws.length = 0
  · obtain ⟨p, cap, rfl⟩ := ReadsP.shape (w := w) (v := va) (ws := ws) ⟨hm, ha2⟩
    obtain ⟨q, cbp, rfl⟩ := ReadsP.shape (w := w) (v := vb) (ws := ws) ⟨hm, hb2⟩
    rw [h0]
    clear ha2 hb2 hm h0
    go_enter Try.func41, Try.ntmps41
    go_wp2
    refine wp_loop_rounds 1 ?_
    rw [rounds_succ]
    go_wp2
    go_ret
    exact ⟨rfl, by (repeat (first | exact Below.refl _ _ | (refine Below.setCell ?_ (by (first | exact Nat.le_refl _ | omega | (simp <;> omega) | simp)) _) | (refine Below.alloc ?_ (by (first | exact Nat.le_refl _ | omega | (simp <;> omega) | simp)) _) | (refine below_draws ?_ _)))⟩
  · rcases ha2 with ⟨hx, _⟩ | ⟨g, o, cap, rfl, hc⟩
    · exact absurd (by simp [hx]) h0
    rcases hb2 with ⟨hx, _⟩ | ⟨q, u, cbp, rfl, hd⟩
    · exact absurd (by simp [hx]) h0
    have HC := Lib.hid hc; clear hc
    have HD := Lib.hid hd; clear hd
    clear h0
    go_enter Try.func41, Try.ntmps41
    go_wp2
    go_loopw [5] (fun i wr => ∃ (k : Nat), k ≤ ws.length ∧ i = .int .i64 k ∧ Below w.heap.size w wr) (fun i _ => ws.length - (intOf i).toNat)
    case atStart => exact ⟨0, Nat.zero_le _, rfl, by (repeat (first | exact Below.refl _ _ | (refine Below.setCell ?_ (by (first | exact Nat.le_refl _ | omega | (simp <;> omega) | simp)) _) | (refine Below.alloc ?_ (by (first | exact Nat.le_refl _ | omega | (simp <;> omega) | simp)) _) | (refine below_draws ?_ _)))⟩
    case round =>
      obtain ⟨k, hk, rfl, hB⟩ := hrel
      by_cases hlt : k < ws.length
      · obtain ⟨c0, c1⟩ := HC.out k hlt
        obtain ⟨d0, d1⟩ := HD.out k hlt
        have hg := World.block_lt_of_cell? w _ c0
        have hq := World.block_lt_of_cell? w _ d0
        have hS0 := hB.size
        rw [← hB.cell (p := ⟨g, o + k * 2, none⟩) hg] at c0
        rw [← hB.cell (p := ⟨g, o + k * 2 + 1, none⟩) hg] at c1
        rw [← hB.cell (p := ⟨q, u + k * 2, none⟩) hq] at d0
        rw [← hB.cell (p := ⟨q, u + k * 2 + 1, none⟩) hq] at d1
        clear hg hq
        have hS : wr.drew.cell? ⟨g, o + k * 2, none⟩ = some (.int .i64 ws[k].1) ∧ wr.drew.cell? ⟨g, o + k * 2 + 1, none⟩ = some (.int .i64 ws[k].2) ∧ wr.drew.cell? ⟨q, u + k * 2, none⟩ = some (.int .i64 ws[k].1) ∧ wr.drew.cell? ⟨q, u + k * 2 + 1, none⟩ = some (.int .i64 ws[k].2) ∧ w.heap.size ≤ wr.drew.heap.size ∧ Below w.heap.size w wr.drew := ⟨c0, c1, d0, d1, hS0, below_draws hB 1⟩
        go_wp2
        go_region_held3 (fun w' => w'.cell? ⟨g, o + k * 2, none⟩ = some (.int .i64 ws[k].1) ∧ w'.cell? ⟨g, o + k * 2 + 1, none⟩ = some (.int .i64 ws[k].2) ∧ w'.cell? ⟨q, u + k * 2, none⟩ = some (.int .i64 ws[k].1) ∧ w'.cell? ⟨q, u + k * 2 + 1, none⟩ = some (.int .i64 ws[k].2) ∧ w.heap.size ≤ w'.heap.size ∧ Below w.heap.size w w')
          (first | exact hS)
          (first | (go_at_call 39; refine (eq_ratio _ _ _).mono ?_; rintro en w1 ⟨rfl, B1⟩; replace hS := four2_keep B1 hS))
        all_goals
          go_wp2
          go_roundw
          case rel => exact ⟨k + 1, by omega, by go_num, hS.2.2.2.2.2⟩
          case measure => simp [intOf]; omega
      · obtain rfl : k = ws.length := by omega
        go_wp2
        go_ret
        exact ⟨rfl, by (repeat (first | exact Below.refl _ _ | (refine Below.setCell ?_ (by (first | exact Nat.le_refl _ | omega | (simp <;> omega) | simp)) _) | (refine Below.alloc ?_ (by (first | exact Nat.le_refl _ | omega | (simp <;> omega) | simp)) _) | (refine below_draws ?_ _) | exact hB | (refine Below.trans ?_ (Below.mono hB (by (first | exact Nat.le_refl _ | omega | (simp <;> omega) | simp))))))⟩

/-- n fractions of running numbers from k on. -/
def mkp (k n : Nat) : List P2 := (List.range n).map fun i => (((k + i * 2 : Nat) : Int), ((k + i * 2 + 1 : Nat) : Int))
theorem mkp_length (k n : Nat) : (mkp k n).length = n := by simp [mkp]
theorem mkp_get (k n i : Nat) (h : i < (mkp k n).length) : (mkp k n)[i] = (((k + i * 2 : Nat) : Int), ((k + i * 2 + 1 : Nat) : Int)) := by simp [mkp]
theorem mkp_take (k n i : Nat) (h : i ≤ n) : (mkp k n).take i = mkp k i := by
  unfold mkp; rw [← List.map_take, List.take_range, Nat.min_eq_left h]

set_option maxHeartbeats 800000 in
theorem markRatioS_any (v : Value) (n k : Nat) (xs : List Value) (base : Nat) (w : World) (hk : 1 ≤ k) (hkn : k + n * 2 ≤ 8000000) (h : w.ownsRow base 32 2 v n xs) :
    Calls Try.prog 43 #[v, .int .i64 k] w fun e w' => e = .returned (.int .i64 ((k + n * 2 : Nat) : Int)) ∧ w'.ownsRow base 32 2 v n (cellsP (mkp k n)) ∧ w.grownBy w' v.ownBlock := by
  have hl := h.1
  have h0 := h
  rcases h.2 with ⟨rfl, rfl⟩ | ⟨g, cap, cur, rfl, hg, hh, hnc, hcm, _, _⟩
  · go_enter Try.func43, Try.ntmps43
    go_wp2
    refine wp_loop_rounds 1 ?_
    rw [rounds_succ]
    go_wp2
    go_ret
    exact ⟨rfl, World.ownsRow_nil _ _ _ _, World.grownBy.refl _ _⟩
  · unfold maxLen at hcm
    clear hh h
    have HL := Lib.hid hl; clear hl
    go_enter Try.func43, Try.ntmps43
    go_wp2
    go_loopw [1, 5] (fun q i wr => ∃ (j : Nat) (ys : List Value), j ≤ n ∧ i = .int .i64 j ∧ q = .int .i64 ((k + j * 2 : Nat) : Int) ∧ wr.ownsRow base 32 2 (.slice (some ⟨g, 0, none⟩) n cap) n ys ∧ Hid (ys.take (j * 2) = cellsP (mkp k j)) ∧ Hid (w.grownBy wr (some g))) (fun _ i _ => n - (intOf i).toNat)
    case atStart => exact ⟨0, xs, Nat.zero_le _, rfl, rfl, h0, rfl, Lib.hid (World.grownBy.refl _ _)⟩
    case round =>
      obtain ⟨j, ys, hj, rfl, rfl, hown, hh, hB⟩ := hrel
      by_cases hlt : j < n
      · have hyl : ys.length = n * 2 := by have := hown.1; omega
        have d0 := hown.cellAt (j * 2) (by omega)
        have d1 := hown.cellAt (j * 2 + 1) (by omega)
        rw [List.getElem?_eq_getElem (by omega)] at d0 d1
        have f0 := hown.frozenAt (j * 2)
        have f1 := hown.frozenAt (j * 2 + 1)
        have s1 := hown.stored (j * 2) (.int .i64 ((k + j * 2 : Nat) : Int))
        have s2 := s1.1.stored (j * 2 + 1) (.int .i64 ((k + j * 2 + 1 : Nat) : Int))
        have HG : Hid (w.grownBy _ (some g)) := Lib.hid (grown_trans (grown_trans hB.out s1.2) s2.2)
        have HT := Lib.hid (set2_take ys (mkp k n) j (by rw [mkp_length]; exact hlt) (by rw [mkp_length]; exact hyl) (by rw [mkp_take k n j (by omega)]; exact hh.out))
        rw [mkp_get] at HT
        rw [mkp_take k n (j + 1) (by omega)] at HT
        have HO := Lib.hid s2.1
        clear s1 s2
        go_wp2
        go_roundw
        case rel =>
          refine ⟨j + 1, _, by omega, by go_num, by go_num, ?_, HT, ?_⟩
          · have := HO.out; simpa [Int.add_assoc] using this
          · have := HG.out; exact Lib.hid (by simpa [Int.add_assoc] using this)
        case measure => simp [intOf]; omega
      · have hyl : ys.length = n * 2 := by have := hown.1; omega
        go_wp2
        go_ret
        have hjn : j = n := by omega
        subst hjn
        refine ⟨by congr 1, ?_, hB.out⟩
        have e := hh.out
        rw [List.take_of_length_le (by omega)] at e
        rw [← e]; exact hown

set_option maxHeartbeats 800000 in
theorem heldRatioS_any (v : Value) (n k : Nat) (w : World) (hk : 1 ≤ k) (hkn : k + n * 2 ≤ 8000000) (h : ReadsP w v (mkp k n)) :
    Calls Try.prog 44 #[v, .int .i64 k] w fun e w' => e = .returned (.int .i64 ((k + n * 2 : Nat) : Int)) ∧ w = w' := by
  have hl := mkp_length k n
  obtain ⟨hm, h2⟩ := h
  rcases h2 with ⟨hx, p, cap, rfl⟩ | ⟨g, o, cap, rfl, hc⟩
  · have hn : n = 0 := by rw [hx] at hl; simpa using hl.symm
    subst hn
    clear hl hx hm
    go_enter Try.func44, Try.ntmps44
    go_wp2
    refine wp_loop_rounds 1 ?_
    rw [rounds_succ]
    go_wp2
    go_ret
    exact ⟨rfl, rfl⟩
  · have hc : ∀ j, j < n → w.cell? ⟨g, o + j * 2, none⟩ = some (.int .i64 ((k + j * 2 : Nat) : Int)) ∧ w.cell? ⟨g, o + j * 2 + 1, none⟩ = some (.int .i64 ((k + j * 2 + 1 : Nat) : Int)) := fun j hj => by
      have := hc j (by omega)
      rw [mkp_get] at this
      exact this
    rw [hl] at hm ⊢
    clear hl
    have HC := Lib.hid hc; clear hc
    go_enter Try.func44, Try.ntmps44
    go_wp2
    go_loopw [1, 5] (fun q i wr => ∃ (j : Nat), j ≤ n ∧ i = .int .i64 j ∧ q = .int .i64 ((k + j * 2 : Nat) : Int) ∧ wr = w) (fun _ i _ => n - (intOf i).toNat)
    case atStart => exact ⟨0, Nat.zero_le _, rfl, rfl, rfl⟩
    case round =>
      obtain ⟨j, hj, rfl, rfl, rfl⟩ := hrel
      by_cases hlt : j < n
      · obtain ⟨c0, c1⟩ := HC.out j hlt
        go_wp2
        go_roundw
        case rel => exact ⟨j + 1, by omega, by go_num, by go_num, by first | trivial | rfl⟩
        case measure => simp [intOf]; omega
      · go_wp2
        go_ret
        have hjn : j = n := by omega
        subst hjn
        exact ⟨by congr 1, by trivial⟩

end Go.Proofs.Ytpkddaapffamiaa
