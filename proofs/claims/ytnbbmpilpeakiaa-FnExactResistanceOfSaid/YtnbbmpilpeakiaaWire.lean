/-
  Lists of wires (three numbers each): how a slice of them reads, what a call owns of them; the laws' copies of a network.
-/
import Derived.Test.YtnbbmpilpeakiaaGcd
import Derived.Laws.AppendOwn
import Derived.Laws.OwnMore
import Derived.Deep.Slices
import Derived.Deep.Strs
import Derived.Deep.RegionHeld3
import Derived.Deep.QuietTactic
import Derived.BigQuiet
namespace Go.Proofs.Ytnbbmpilpeakiaa
open Go.RowKit

/-- A wire: its two ends and its weight. -/
abbrev W3 := Int × Int × Int
def cells3 (e : W3) : List Value := [.int .i64 e.1, .int .i64 e.2.1, .int .i64 e.2.2]
def cellsW (ws : List W3) : List Value := ws.flatMap cells3
theorem cellsW_nil : cellsW [] = [] := rfl
theorem cellsW_snoc (ws : List W3) (e : W3) : cellsW (ws ++ [e]) = cellsW ws ++ cells3 e := by simp [cellsW]
theorem cellsW_length : ∀ ws : List W3, (cellsW ws).length = ws.length * 3
  | [] => rfl
  | e :: r => by have := cellsW_length r; simp [cellsW, cells3] at *; omega
theorem cellsW_get : ∀ (ws : List W3) (k : Nat) (h : k < ws.length), (cellsW ws)[k * 3]? = some (.int .i64 ws[k].1) ∧ (cellsW ws)[k * 3 + 1]? = some (.int .i64 ws[k].2.1) ∧ (cellsW ws)[k * 3 + 2]? = some (.int .i64 ws[k].2.2)
  | [], k, h => absurd h (by simp)
  | e :: r, 0, _ => ⟨rfl, rfl, rfl⟩
  | e :: r, k + 1, h => by
    have ih := cellsW_get r k (by simpa using h)
    have hc : cellsW (e :: r) = Value.int .i64 e.1 :: Value.int .i64 e.2.1 :: Value.int .i64 e.2.2 :: cellsW r := rfl
    have a0 : (k + 1) * 3 = k * 3 + 1 + 1 + 1 := by omega
    have a1 : (k + 1) * 3 + 1 = k * 3 + 1 + 1 + 1 + 1 := by omega
    have a2 : (k + 1) * 3 + 2 = k * 3 + 2 + 1 + 1 + 1 := by omega
    rw [hc, a0]
    refine ⟨ih.1, ?_, ?_⟩
    · exact ih.2.1
    · exact ih.2.2

/-- The slice v reads as the wires ws. -/
def ReadsW (w : World) (v : Value) (ws : List W3) : Prop :=
  ws.length ≤ 9223372036854775807 ∧ ((ws = [] ∧ ∃ p cap, v = .slice p 0 cap) ∨
    ∃ g o cap, v = .slice (some ⟨g, o, none⟩) ws.length cap ∧ ∀ k (h : k < ws.length), w.cell? ⟨g, o + k * 3, none⟩ = some (.int .i64 ws[k].1) ∧ w.cell? ⟨g, o + k * 3 + 1, none⟩ = some (.int .i64 ws[k].2.1) ∧ w.cell? ⟨g, o + k * 3 + 2, none⟩ = some (.int .i64 ws[k].2.2))

theorem ReadsW.later {w w' : World} {v : Value} {ws : List W3} (h : ReadsW w v ws) (hB : Below w.heap.size w w') : ReadsW w' v ws := by
  refine ⟨h.1, ?_⟩
  rcases h.2 with h0 | ⟨g, o, cap, rfl, hc⟩
  · exact .inl h0
  · refine .inr ⟨g, o, cap, rfl, fun k hk => ?_⟩
    obtain ⟨a, b, c⟩ := hc k hk
    have hg := World.block_lt_of_cell? w _ a
    exact ⟨by rw [hB.cell (p := ⟨g, o + k * 3, none⟩) hg]; exact a, by rw [hB.cell (p := ⟨g, o + k * 3 + 1, none⟩) hg]; exact b, by rw [hB.cell (p := ⟨g, o + k * 3 + 2, none⟩) hg]; exact c⟩
theorem ReadsW.of_own {w : World} {base : Nat} {e : TypeId} {v : Value} {ws : List W3} (h : w.ownsRow base e 3 v ws.length (cellsW ws)) : ReadsW w v ws := by
  obtain ⟨hl, h2⟩ := h
  rcases h2 with ⟨rfl, hn⟩ | ⟨g, cap, cur, rfl, hb, hg, hnc, hcm, hcs, ht⟩
  · exact ⟨by omega, .inl ⟨List.eq_nil_of_length_eq_zero hn, none, 0, rfl⟩⟩
  · have hm : ws.length ≤ 9223372036854775807 := by unfold maxLen at hcm; omega
    have hh : w.ownsRow base e 3 (.slice (some ⟨g, 0, none⟩) ws.length cap) ws.length (cellsW ws) := ⟨hl, .inr ⟨g, cap, cur, rfl, hb, hg, hnc, hcm, hcs, ht⟩⟩
    refine ⟨by omega, .inr ⟨g, 0, cap, rfl, fun k hk => ?_⟩⟩
    obtain ⟨a, b, c⟩ := cellsW_get ws k hk
    simp only [Nat.zero_add]
    exact ⟨by rw [hh.cellAt (k * 3) (by omega), a], by rw [hh.cellAt (k * 3 + 1) (by omega), b], by rw [hh.cellAt (k * 3 + 2) (by omega), c]⟩

/-- What the call owns is still owned behind anything that leaves its block alone. -/
theorem owns_below {B : Nat} {w w' : World} {base : Nat} {e : TypeId} {size : Nat} {v : Value} {n : Nat} {xs : List Value} (h : w.ownsRow base e size v n xs) (hB : Below B w w') (hb : ∀ k, v.ownBlock = some k → k < B) : w'.ownsRow base e size v n xs := by
  refine ⟨h.1, ?_⟩
  rcases h.2 with h0 | ⟨g, cap, cur, rfl, hg, hh, r⟩
  · exact .inl h0
  · exact .inr ⟨g, cap, cur, rfl, hg, by rw [hB.block g (hb g rfl)]; exact hh, r⟩
theorem owns_later {w w' : World} {base : Nat} {e : TypeId} {size : Nat} {v : Value} {n : Nat} {xs : List Value} (h : w.ownsRow base e size v n xs) (hB : Below w.heap.size w w') : w'.ownsRow base e size v n xs :=
  owns_below h hB (fun k hk => (h.lt k hk).2)
theorem owns_mono {w : World} {base base' : Nat} {e : TypeId} {size : Nat} {v : Value} {n : Nat} {xs : List Value} (h : w.ownsRow base e size v n xs) (hb : base' ≤ base) : w.ownsRow base' e size v n xs := by
  refine ⟨h.1, ?_⟩
  rcases h.2 with h0 | ⟨g, cap, cur, rfl, hg, r⟩
  · exact .inl h0
  · exact .inr ⟨g, cap, cur, rfl, by omega, r⟩

theorem ReadsW.shape {w : World} {v : Value} {ws : List W3} (h : ReadsW w v ws) : ∃ p cap, v = .slice p ws.length cap := by
  rcases h.2 with ⟨hx, p, cap, rfl⟩ | ⟨g, o, cap, rfl, _⟩
  · exact ⟨p, cap, by rw [hx]; rfl⟩
  · exact ⟨_, cap, rfl⟩
theorem owns_shape {w : World} {base : Nat} {e : TypeId} {size : Nat} {v : Value} {n : Nat} {xs : List Value} (h : w.ownsRow base e size v n xs) : ∃ p cap, v = .slice p n cap := by
  rcases h.2 with ⟨rfl, rfl⟩ | ⟨g, cap, cur, rfl, _⟩
  · exact ⟨none, 0, rfl⟩
  · exact ⟨_, cap, rfl⟩

/-! ### sizes -/
def szW (left : Int) (ws : List W3) : Int := if left - ws.length < 0 then -1 else left - ws.length
theorem szWireS_any (v : Value) (ws : List W3) (left : Int) (w : World) (h0 : 0 ≤ left) (h1 : left ≤ 1048576) (hr : ReadsW w v ws) :
    Calls Try.prog 72 #[v, .int .i64 left] w fun e w' => e = .returned (.int .i64 (szW left ws)) ∧ w = w' := by
  obtain ⟨p, cap, rfl⟩ := hr.shape
  have hm := hr.1
  clear hr
  by_cases hneg : left - ws.length < 0
  · have HF : Hid (szW left ws = -1) := Lib.hid (if_pos hneg)
    go_enter Try.func72, Try.ntmps72
    go_wp2
    go_ret
    exact ⟨ret_i HF.out.symm, rfl⟩
  · have HF : Hid (szW left ws = left - ws.length) := Lib.hid (if_neg hneg)
    go_enter Try.func72, Try.ntmps72
    go_wp2
    go_ret
    exact ⟨ret_i HF.out.symm, rfl⟩

theorem szNet_any (n e s : Int) (v : Value) (ws : List W3) (left : Int) (w : World) (h0 : 0 ≤ left) (h1 : left ≤ 1048576) (hr : ReadsW w v ws) :
    Calls Try.prog 36 #[.agg #[.int .i64 n, .int .i64 e, .int .i64 s, v], .int .i64 left] w fun en w' => en = .returned (.int .i64 (szW left ws)) ∧ Below w.heap.size w w' := by
  have hr' := hr.later ((Below.refl w.heap.size w).alloc (Nat.le_refl _) (.cells #[.int .i64 n, .int .i64 e, .int .i64 s, v] 52))
  by_cases hneg : left - ws.length < 0
  · have HF : Hid (szW left ws = -1) := Lib.hid (if_pos hneg)
    have hc := szWireS_any v ws left _ h0 h1 hr'
    rw [HF.out] at hc
    go_enter Try.func36, Try.ntmps36
    go_wp2_with fail
    refine hc.mono ?_
    rintro en w1 ⟨rfl, rfl⟩
    go_wp2
    go_ret
    exact ⟨ret_i HF.out.symm, by (repeat (first | exact Below.refl _ _ | (refine Below.setCell ?_ (by (first | exact Nat.le_refl _ | omega | (simp <;> omega) | simp)) _) | (refine Below.alloc ?_ (by (first | exact Nat.le_refl _ | omega | (simp <;> omega) | simp)) _) | (refine below_draws ?_ _)))⟩
  · have HF : Hid (szW left ws = left - ws.length) := Lib.hid (if_neg hneg)
    have hc := szWireS_any v ws left _ h0 h1 hr'
    rw [HF.out] at hc
    go_enter Try.func36, Try.ntmps36
    go_wp2_with fail
    refine hc.mono ?_
    rintro en w1 ⟨rfl, rfl⟩
    go_wp2
    go_ret
    exact ⟨ret_i HF.out.symm, by (repeat (first | exact Below.refl _ _ | (refine Below.setCell ?_ (by (first | exact Nat.le_refl _ | omega | (simp <;> omega) | simp)) _) | (refine Below.alloc ?_ (by (first | exact Nat.le_refl _ | omega | (simp <;> omega) | simp)) _) | (refine below_draws ?_ _)))⟩

/-! ### copies -/
theorem toWire_any (a b c : Int) (w : World) :
    Calls Try.prog 97 #[.agg #[.int .i64 a, .int .i64 b, .int .i64 c]] w fun e w' => e = .returned (.agg #[.int .i64 a, .int .i64 b, .int .i64 c]) ∧ Below w.heap.size w w' := by
  go_enter Try.func97, Try.ntmps97
  go_wp2
  exact bodyPost_ret (v := (.agg #[.int .i64 a, .int .i64 b, .int .i64 c])) (by simp (maxDischargeDepth := 8) [results, Try.results97, go_sem, *]) rfl ⟨rfl, by (repeat (first | exact Below.refl _ _ | (refine Below.setCell ?_ (by (first | exact Nat.le_refl _ | omega | (simp <;> omega) | simp)) _) | (refine Below.alloc ?_ (by (first | exact Nat.le_refl _ | omega | (simp <;> omega) | simp)) _) | (refine below_draws ?_ _)))⟩

theorem Try.infoWire : (Try.prog.info? 81).map (fun i => (i.zero, i.size, i.bytes)) = some (some (.agg #[.int .i64 0, .int .i64 0, .int .i64 0]), 3, 24) := by kernel_rfl

theorem set3_take (ys : List Value) (ws : List W3) (k : Nat) (hk : k < ws.length) (hy : ys.length = ws.length * 3) (h : ys.take (k * 3) = cellsW (ws.take k)) :
    (((ys.set (k * 3) (.int .i64 ws[k].1)).set (k * 3 + 1) (.int .i64 ws[k].2.1)).set (k * 3 + 2) (.int .i64 ws[k].2.2)).take ((k + 1) * 3) = cellsW (ws.take (k + 1)) := by
  rw [List.take_succ_eq_append_getElem hk, cellsW_snoc, ← h]
  have e : (k + 1) * 3 = k * 3 + 1 + 1 + 1 := by omega
  rw [e, List.take_succ_eq_append_getElem (by simp; omega), List.take_succ_eq_append_getElem (by simp; omega), List.take_succ_eq_append_getElem (by simp; omega)]
  simp [List.take_set_of_le, cells3]

set_option maxHeartbeats 800000 in
theorem toWireS_any (v : Value) (ws : List W3) (w : World) (hn : ws.length ≤ 1048576) (hr : ReadsW w v ws) :
    Calls Try.prog 77 #[v] w fun e w' => ∃ v', e = .returned v' ∧ w'.ownsRow w.heap.size 81 3 v' ws.length (cellsW ws) ∧ Below w.heap.size w w' := by
  obtain ⟨i0, hi, hz0, hz1, hz2⟩ := info_parts Try.infoWire
  obtain ⟨w1, hmk, own1, grow1⟩ := run_makeSlice_full w w.heap.size 31 81 i0 (.agg #[.int .i64 0, .int .i64 0, .int .i64 0]) 3 Try.underlying31 hi hz0 hz1 .i64 .i64 ws.length (by omega) (by rw [hz2]; omega) (by unfold maxLen; omega) (Nat.le_refl _)
  have B1 : Below w.heap.size w w1 := (Below.refl _ _).grown grow1 (Nat.le_refl _) (fun k hk => by cases hk)
  clear grow1 hi hz0 hz1 hz2
  obtain ⟨hm, hr1⟩ := hr
  rcases hr1 with ⟨hx, p, cap, rfl⟩ | ⟨g, o, cap, rfl, hc⟩
  · subst hx
    have hmk' : (Instr.makeSlice 31 (.int .i64 0) (.int .i64 0)).run Try.prog w = .ok (.slice (some ⟨w.heap.size, 0, none⟩) 0 0) w1 := hmk
    have own2 : w1.ownsRow w.heap.size 81 3 (.slice (some ⟨w.heap.size, 0, none⟩) 0 0) 0 [] := by
      have h := List.eq_nil_of_length_eq_zero (own1.1.trans (by simp))
      rw [h] at own1; exact own1
    clear hm hmk
    go_enter Try.func77, Try.ntmps77
    go_wp2
    refine wp_loop_rounds 1 ?_
    rw [rounds_succ]
    go_wp2
    go_ret
    exact ⟨_, rfl, own2, B1⟩
  · have HC := Lib.hid hc; clear hc
    go_enter Try.func77, Try.ntmps77
    go_wp2
    go_loopw [4] (fun i wr => ∃ (k : Nat) (ys : List Value), k ≤ ws.length ∧ i = .int .i64 k ∧ wr.ownsRow w.heap.size 81 3 (.slice (some ⟨w.heap.size, 0, none⟩) ws.length ws.length) ws.length ys ∧ Hid (ys.take (k * 3) = cellsW (ws.take k)) ∧ Below w.heap.size w wr) (fun i _ => ws.length - (intOf i).toNat)
    case atStart => exact ⟨0, _, Nat.zero_le _, rfl, own1, rfl, B1⟩
    case round =>
      obtain ⟨k, ys, hk, rfl, hown, hh, hB⟩ := hrel
      by_cases hlt : k < ws.length
      · have hyl : ys.length = ws.length * 3 := by have := hown.1; omega
        obtain ⟨c0, c1, c2⟩ := HC.out k hlt
        have hg := World.block_lt_of_cell? w _ c0
        rw [← hB.cell (p := ⟨g, o + k * 3, none⟩) hg] at c0
        rw [← hB.cell (p := ⟨g, o + k * 3 + 1, none⟩) hg] at c1
        rw [← hB.cell (p := ⟨g, o + k * 3 + 2, none⟩) hg] at c2
        go_wp2_with fail
        refine (toWire_any _ _ _ _).mono ?_
        rintro e w2 ⟨rfl, B2⟩
        have own2 := owns_later hown B2
        have d0 := own2.cellAt (k * 3) (by omega)
        have d1 := own2.cellAt (k * 3 + 1) (by omega)
        have d2 := own2.cellAt (k * 3 + 2) (by omega)
        rw [List.getElem?_eq_getElem (by omega)] at d0 d1 d2
        have f0 := own2.frozenAt (k * 3)
        have f1 := own2.frozenAt (k * 3 + 1)
        have f2 := own2.frozenAt (k * 3 + 2)
        go_wp2
        go_roundw
        case rel =>
          have s1 := (own2.stored (k * 3) (.int .i64 ws[k].1)).1
          have s2 := (s1.stored (k * 3 + 1) (.int .i64 ws[k].2.1)).1
          have s3 := (s2.stored (k * 3 + 2) (.int .i64 ws[k].2.2)).1
          exact ⟨k + 1, _, by omega, by go_num, s3, set3_take ys ws k hlt hyl hh.out, (((hB.trans (B2.mono hB.size)).setCell (Nat.le_refl _) _).setCell (Nat.le_refl _) _).setCell (Nat.le_refl _) _⟩
        case measure => simp [intOf]; omega
      · obtain rfl : k = ws.length := by omega
        go_wp2
        go_ret
        have e := hh.out
        have hyl : ys.length = ws.length * 3 := by have := hown.1; omega
        rw [List.take_of_length_le (by omega), List.take_of_length_le (by simp)] at e
        rw [← e]
        exact ⟨_, rfl, hown, hB⟩

set_option maxHeartbeats 800000 in
theorem toNet_any (n e s : Int) (v : Value) (ws : List W3) (w : World) (hn : ws.length ≤ 1048576) (hr : ReadsW w v ws) :
    Calls Try.prog 38 #[.agg #[.int .i64 n, .int .i64 e, .int .i64 s, v]] w fun en w' => ∃ p' cap', en = .returned (.agg #[.int .i64 n, .int .i64 e, .int .i64 s, .slice p' ws.length cap']) ∧ w'.ownsRow w.heap.size 81 3 (.slice p' ws.length cap') ws.length (cellsW ws) ∧ Below w.heap.size w w' := by
  go_enter Try.func38, Try.ntmps38
  go_wp2_with fail
  refine (toWireS_any v ws _ hn (hr.later (by (repeat (first | exact Below.refl _ _ | (refine Below.setCell ?_ (by (first | exact Nat.le_refl _ | omega | (simp <;> omega) | simp)) _) | (refine Below.alloc ?_ (by (first | exact Nat.le_refl _ | omega | (simp <;> omega) | simp)) _) | (refine below_draws ?_ _)))))).mono ?_
  rintro en w1 ⟨v', rfl, o1, B1⟩
  obtain ⟨hc1, hf1⟩ := bcell B1
  have S1 := B1.size
  try simp at S1
  try (have _L1w : w.heap.size < w1.heap.size := by omega)
  have _M1w : w.heap.size ≤ w1.heap.size := by omega
  try (have _P1w_1 : w.heap.size + 1 < w1.heap.size := by omega)
  try (have _P1w_2 : w.heap.size + 1 + 1 < w1.heap.size := by omega)
  try (have _P1w_3 : w.heap.size + 1 + 1 + 1 < w1.heap.size := by omega)
  obtain ⟨p', cap', rfl⟩ := owns_shape o1
  simp only [World.size_alloc] at o1
  go_wp2
  refine bodyPost_ret (v := .agg #[.int .i64 n, .int .i64 e, .int .i64 s, .slice p' ws.length cap']) (by simp (maxDischargeDepth := 8) [results, Try.results38, go_sem, *]) rfl ?_
  refine ⟨p', cap', rfl, ?_, by (repeat (first | exact Below.refl _ _ | (refine Below.setCell ?_ (by (first | exact Nat.le_refl _ | omega | (simp <;> omega) | simp)) _) | (refine Below.alloc ?_ (by (first | exact Nat.le_refl _ | omega | (simp <;> omega) | simp)) _) | (refine below_draws ?_ _) | exact B1 | (refine Below.trans ?_ (Below.mono B1 (by (first | exact Nat.le_refl _ | omega | (simp <;> omega) | simp))))))⟩
  refine owns_mono (base := w.heap.size + 1 + 1 + 1) ?_ (by omega)
  ((repeat (refine ownsRow_setCell_below ?_ ?_ _; rotate_left; focus (first | omega | (simp; done) | (simp; omega)))); with_reducible exact o1)
end Go.Proofs.Ytnbbmpilpeakiaa
