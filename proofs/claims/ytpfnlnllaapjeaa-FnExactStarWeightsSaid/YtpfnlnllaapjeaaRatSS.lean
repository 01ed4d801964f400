/-
  Slices of slices of fractions: how they read; the laws' copies, comparisons and sizes of them.
-/
import Derived.Test.YtpfnlnllaapjeaaGLists
import Derived.Test.YtpfnlnllaapjeaaRats
namespace Go.Proofs.Ytpfnlnllaapjeaa
open Go.RowKit

abbrev MatP := List (List P2)
/-- The slice v reads as the rows m. -/
def ReadsPP (w : World) (v : Value) (m : MatP) : Prop :=
  ∃ p cap, v = .slice p m.length cap ∧ m.length ≤ cap ∧ cap ≤ 9223372036854775807 ∧ (m = [] ∨ ∃ g o, p = some ⟨g, o, none⟩ ∧ ∀ k (h : k < m.length), ∃ r, w.cell? ⟨g, o + k, none⟩ = some r ∧ ReadsP w r m[k])
theorem ReadsPP.later {w w' : World} {v : Value} {m : MatP} (h : ReadsPP w v m) (hB : Below w.heap.size w w') : ReadsPP w' v m := by
  obtain ⟨p, cap, rfl, h1, h2, h3⟩ := h
  refine ⟨p, cap, rfl, h1, h2, ?_⟩
  rcases h3 with h0 | ⟨g, o, rfl, hc⟩
  · exact .inl h0
  · exact .inr ⟨g, o, rfl, fun k hk => by
      obtain ⟨r, a, b⟩ := hc k hk
      exact ⟨r, by rw [hB.cell (p := ⟨g, o + k, none⟩) (World.block_lt_of_cell? w _ a)]; exact a, b.later hB⟩⟩
theorem ReadsPP.shape {w : World} {v : Value} {m : MatP} (h : ReadsPP w v m) : ∃ p cap, v = .slice p m.length cap ∧ m.length ≤ cap ∧ cap ≤ 9223372036854775807 := by
  obtain ⟨p, cap, rfl, h1, h2, h3⟩ := h
  exact ⟨p, cap, rfl, h1, h2⟩
theorem ReadsPP.pos {w : World} {v : Value} {m : MatP} (h : ReadsPP w v m) (hq : 0 < m.length) : ∃ g o cap, v = .slice (some ⟨g, o, none⟩) m.length cap ∧ m.length ≤ cap ∧ cap ≤ 9223372036854775807 ∧ g < w.heap.size ∧ ∀ k (h : k < m.length), ∃ r, w.cell? ⟨g, o + k, none⟩ = some r ∧ ReadsP w r m[k] := by
  obtain ⟨p, cap, rfl, h1, h2, h3⟩ := h
  rcases h3 with h0 | ⟨g, o, rfl, hc⟩
  · subst h0; simp at hq
  · obtain ⟨r, a, _⟩ := hc 0 hq
    exact ⟨g, o, cap, rfl, h1, h2, World.block_lt_of_cell? w _ a, hc⟩

theorem Try.infoRowP : (Try.prog.info? 51).map (fun i => (i.zero, i.size, i.bytes)) = some (some (.slice none 0 0), 1, 24) := by kernel_rfl

/-! ### copies -/
set_option maxHeartbeats 1600000 in
theorem toRatioSS_any (v : Value) (m : MatP) (w : World) (hn : m.length ≤ 1048576) (hrow : ∀ k (h : k < m.length), m[k].length ≤ 1048576) (hr : ReadsPP w v m) :
    Calls Try.prog 32 #[v] w fun e w' => ∃ v', e = .returned v' ∧ ReadsPP w' v' m ∧ Below w.heap.size w w' := by
  obtain ⟨i0, hi, hz0, hz1, hz2⟩ := info_parts Try.infoRowP
  obtain ⟨w1, hmk, own1, grow1⟩ := run_makeSlice_full w w.heap.size 54 51 i0 (.slice none 0 0) 1 Try.underlying54 hi hz0 hz1 .i64 .i64 m.length (by omega) (by rw [hz2]; omega) (by unfold maxLen; omega) (Nat.le_refl _)
  have B1 : Below w.heap.size w w1 := (Below.refl _ _).grown grow1 (Nat.le_refl _) (fun k hk => by cases hk)
  have hlt1 := fun hm : 0 < m.length => own_some own1 hm
  clear grow1 hi hz0 hz1 hz2
  obtain ⟨p, cap, rfl, h1, h2, hr1⟩ := hr
  rcases hr1 with hx | ⟨g, o, rfl, hc⟩
  · subst hx
    have hmk' : (Instr.makeSlice 54 (.int .i64 0) (.int .i64 0)).run Try.prog w = .ok (.slice (some ⟨w.heap.size, 0, none⟩) 0 0) w1 := hmk
    clear hmk own1 hlt1 hrow
    simp only [List.length_nil]
    go_enter Try.func32, Try.ntmps32
    go_wp2
    refine wp_loop_rounds 1 ?_
    rw [rounds_succ]
    go_wp2
    go_ret
    exact ⟨_, rfl, ⟨_, 0, rfl, Nat.le_refl _, by omega, .inl rfl⟩, B1⟩
  · have HC := Lib.hid hc; clear hc
    have HR := Lib.hid hrow; clear hrow
    have hlt1 : 0 < m.length → w.heap.size < w1.heap.size := fun hm => by
      obtain ⟨g', c', he, hg'⟩ := hlt1 hm
      simp only [Value.slice.injEq, Option.some.injEq, Addr.mk.injEq] at he
      omega
    have HL := Lib.hid hlt1; clear hlt1
    go_enter Try.func32, Try.ntmps32
    go_wp2
    go_loopw [4] (fun i wr => ∃ (k : Nat) (ys : List Value), k ≤ m.length ∧ i = .int .i64 k ∧ wr.ownsRow w.heap.size 51 1 (.slice (some ⟨w.heap.size, 0, none⟩) m.length m.length) m.length ys ∧ Hid (∀ j, (hj : j < m.length) → j < k → ∃ r, ys[j]? = some r ∧ wr.ownsRow (w.heap.size + 1) 33 2 r m[j].length (cellsP m[j])) ∧ Below w.heap.size w wr ∧ w1.heap.size ≤ wr.heap.size) (fun i _ => m.length - (intOf i).toNat)
    case atStart => exact ⟨0, _, Nat.zero_le _, rfl, own1, Lib.hid (fun j _ hj => absurd hj (by omega)), B1, Nat.le_refl _⟩
    case round =>
      obtain ⟨k, ys, hk, rfl, hown, hh, hB, hw1⟩ := hrel
      by_cases hlt : k < m.length
      · have hyl : ys.length = m.length := by have := hown.1; omega
        obtain ⟨r, c0, hrd⟩ := HC.out k hlt
        have hg := World.block_lt_of_cell? w _ c0
        have hr0 := HR.out k hlt
        have hw0 := HL.out (by omega)
        replace c0 : wr.cell? ⟨g, o + k, none⟩ = some r := by rw [hB.cell (p := ⟨g, o + k, none⟩) hg]; exact c0
        have hrd' := hrd.later hB
        have HO := Lib.hid hown
        have f0 := hown.frozenAt k
        clear hrd
        go_wp2_with fail
        refine (toRatioS_any r m[k] _ hr0 hrd').mono ?_
        rintro e w2 ⟨v', rfl, o2, B2⟩
        obtain ⟨p2, cap2, rfl⟩ := owns_shape o2
        have hown2 := owns_later HO.out B2
        have d0 := hown2.cellAt k (by omega)
        rw [List.getElem?_eq_getElem (by omega)] at d0
        have f2 := hown2.frozenAt k
        have S2 := B2.size
        clear c0 f0
        have HO2 := Lib.hid hown2
        have Ho2 := Lib.hid o2
        have HB2 := Lib.hid B2
        clear hown hown2 o2 B2 hrd'
        go_wp2
        go_roundw
        case rel =>
          have s1 := (HO2.out.stored k (.slice p2 m[k].length cap2)).1
          refine ⟨k + 1, _, by omega, by go_num, s1, Lib.hid (fun j hj hjk => ?_), (hB.trans (HB2.out.mono (by omega))).setCell (Nat.le_refl _) _, by simp; omega⟩
          by_cases hjk' : j = k
          · subst hjk'
            exact ⟨_, by simp [hyl, hlt], ownsRow_setCell_below (owns_mono Ho2.out (by omega)) (by simp) _⟩
          · obtain ⟨r', hr', ho'⟩ := hh.out j hj (by omega)
            refine ⟨r', by rw [List.getElem?_set_ne (by omega)]; exact hr', ?_⟩
            exact ownsRow_setCell_below (owns_later ho' HB2.out) (by simp) _
        case measure => simp [intOf]; omega
      · obtain rfl : k = m.length := by omega
        go_wp2
        go_ret
        have hyl : ys.length = m.length := by have := hown.1; omega
        refine ⟨_, rfl, ⟨_, m.length, rfl, Nat.le_refl _, by omega, .inr ⟨w.heap.size, 0, rfl, fun j hj => ?_⟩⟩, hB⟩
        obtain ⟨r', hr', ho'⟩ := hh.out j hj hj
        have hc := hown.cellAt j (by omega)
        rw [hr'] at hc
        exact ⟨r', by simpa using hc, ReadsP.of_own ho'⟩

/-! ### comparisons -/
theorem rowsP2_keep {lo : Nat} {w0 w w1 : World} {a b : Addr} {ra rb : Value} {q : List P2} (h : Below w.heap.size w w1)
    (k : w.cell? a = some ra ∧ w.cell? b = some rb ∧ ReadsP w ra q ∧ ReadsP w rb q ∧ lo ≤ w.heap.size ∧ Below lo w0 w) :
    w1.cell? a = some ra ∧ w1.cell? b = some rb ∧ ReadsP w1 ra q ∧ ReadsP w1 rb q ∧ lo ≤ w1.heap.size ∧ Below lo w0 w1 := by
  obtain ⟨h1, h2, h3, h4, h5, h6⟩ := k
  have s := h.size
  refine ⟨?_, ?_, h3.later h, h4.later h, by omega, h6.trans (h.mono h5)⟩
  · rw [h.cell (World.block_lt_of_cell? w _ h1)]; exact h1
  · rw [h.cell (World.block_lt_of_cell? w _ h2)]; exact h2

set_option maxHeartbeats 1600000 in
theorem eqRatioSS_same (va vb : Value) (m : MatP) (w : World) (ha : ReadsPP w va m) (hb : ReadsPP w vb m) :
    Calls Try.prog 35 #[va, vb] w fun e w' => e = .returned (.bool true) ∧ Below w.heap.size w w' := by
  obtain ⟨p, cap, rfl, h1, h2, hr1⟩ := ha
  obtain ⟨p', cap', rfl, h1', h2', hr2⟩ := hb
  by_cases h0 : m = []
  · subst h0
    clear hr1 hr2
    simp only [List.length_nil]
    go_enter Try.func35, Try.ntmps35
    go_wp2
    refine wp_loop_rounds 1 ?_
    rw [rounds_succ]
    go_wp2
    go_ret
    exact ⟨rfl, by (repeat (first | exact Below.refl _ _ | (refine Below.setCell ?_ (by (first | exact Nat.le_refl _ | omega | (simp <;> omega) | simp)) _) | (refine Below.alloc ?_ (by (first | exact Nat.le_refl _ | omega | (simp <;> omega) | simp)) _) | (refine below_draws ?_ _)))⟩
  · rcases hr1 with hx | ⟨g, o, rfl, hc⟩
    · exact absurd hx h0
    rcases hr2 with hx | ⟨g', o', rfl, hd⟩
    · exact absurd hx h0
    have HC := Lib.hid hc; clear hc
    have HD := Lib.hid hd; clear hd
    clear h0
    go_enter Try.func35, Try.ntmps35
    go_wp2
    go_loopw [5] (fun i wr => ∃ (k : Nat), k ≤ m.length ∧ i = .int .i64 k ∧ Below w.heap.size w wr) (fun i _ => m.length - (intOf i).toNat)
    case atStart => exact ⟨0, Nat.zero_le _, rfl, by (repeat (first | exact Below.refl _ _ | (refine Below.setCell ?_ (by (first | exact Nat.le_refl _ | omega | (simp <;> omega) | simp)) _) | (refine Below.alloc ?_ (by (first | exact Nat.le_refl _ | omega | (simp <;> omega) | simp)) _) | (refine below_draws ?_ _)))⟩
    case round =>
      obtain ⟨k, hk, rfl, hB⟩ := hrel
      by_cases hlt : k < m.length
      · obtain ⟨ra, c0, ha⟩ := HC.out k hlt
        obtain ⟨rb, d0, hb⟩ := HD.out k hlt
        have hg := World.block_lt_of_cell? w _ c0
        have hq := World.block_lt_of_cell? w _ d0
        have hS0 := hB.size
        rw [← hB.cell (p := ⟨g, o + k, none⟩) hg] at c0
        rw [← hB.cell (p := ⟨g', o' + k, none⟩) hq] at d0
        have ha' := (ha.later hB).later (below_draws (Below.refl _ wr) 1)
        have hb' := (hb.later hB).later (below_draws (Below.refl _ wr) 1)
        clear hg hq ha hb
        have hS : wr.drew.cell? ⟨g, o + k, none⟩ = some ra ∧ wr.drew.cell? ⟨g', o' + k, none⟩ = some rb ∧ ReadsP wr.drew ra m[k] ∧ ReadsP wr.drew rb m[k] ∧ w.heap.size ≤ wr.drew.heap.size ∧ Below w.heap.size w wr.drew := ⟨c0, d0, ha', hb', hS0, below_draws hB 1⟩
        go_wp2
        go_region_held3 (fun w' => w'.cell? ⟨g, o + k, none⟩ = some ra ∧ w'.cell? ⟨g', o' + k, none⟩ = some rb ∧ ReadsP w' ra m[k] ∧ ReadsP w' rb m[k] ∧ w.heap.size ≤ w'.heap.size ∧ Below w.heap.size w w')
          (first | exact hS)
          (first | (go_at_call 34; refine (eqRatioS_same _ _ m[k] _ hS.2.2.1 hS.2.2.2.1).mono ?_; rintro en w1 ⟨rfl, B1⟩; replace hS := rowsP2_keep B1 hS))
        all_goals
          go_wp2
          go_roundw
          case rel => exact ⟨k + 1, by omega, by go_num, hS.2.2.2.2.2⟩
          case measure => simp [intOf]; omega
      · obtain rfl : k = m.length := by omega
        go_wp2
        go_ret
        exact ⟨rfl, by (repeat (first | exact Below.refl _ _ | (refine Below.setCell ?_ (by (first | exact Nat.le_refl _ | omega | (simp <;> omega) | simp)) _) | (refine Below.alloc ?_ (by (first | exact Nat.le_refl _ | omega | (simp <;> omega) | simp)) _) | (refine below_draws ?_ _) | exact hB | (refine Below.trans ?_ (Below.mono hB (by (first | exact Nat.le_refl _ | omega | (simp <;> omega) | simp))))))⟩

/-! ### sizes -/
set_option maxHeartbeats 800000 in
theorem szRatioSS_any (v : Value) (m : MatP) (left : Int) (w : World) (h0 : 0 ≤ left) (h1 : left ≤ 1048576) (hr : ReadsPP w v m) :
    Calls Try.prog 30 #[v, .int .i64 left] w fun e w' => (∃ x : Int, e = .returned (.int .i64 x) ∧ (x < 0 ∨ (x ≤ 1048576 ∧ m.length ≤ 1048576 ∧ ∀ k (h : k < m.length), m[k].length ≤ 1048576))) ∧ w = w' := by
  obtain ⟨p, cap, rfl, hl, hm, hr1⟩ := hr
  by_cases hneg : left - m.length < 0
  · clear hr1
    go_enter Try.func30, Try.ntmps30
    go_wp2
    go_ret
    exact ⟨⟨-1, rfl, .inl (by omega)⟩, rfl⟩
  · have hml : m.length ≤ 1048576 := by omega
    rcases hr1 with hx | ⟨g, o, rfl, hc⟩
    · subst hx
      simp only [List.length_nil] at hneg ⊢
      go_enter Try.func30, Try.ntmps30
      go_wp2
      refine wp_loop_rounds 1 ?_
      rw [rounds_succ]
      go_wp2
      go_ret
      exact ⟨⟨_, rfl, .inr ⟨by omega, by omega, fun k hk => absurd hk (by simp)⟩⟩, rfl⟩
    · have HC := Lib.hid hc; clear hc
      go_enter Try.func30, Try.ntmps30
      go_wp2
      go_loopw [1, 5] (fun l i wr => ∃ (k : Nat) (x : Int), k ≤ m.length ∧ i = .int .i64 k ∧ l = .int .i64 x ∧ 0 ≤ x ∧ x ≤ 1048576 ∧ Hid (∀ j, (hj : j < m.length) → j < k → m[j].length ≤ 1048576) ∧ wr = w) (fun _ i _ => m.length - (intOf i).toNat)
      case atStart => exact ⟨0, _, Nat.zero_le _, rfl, rfl, by omega, by omega, Lib.hid (fun j _ hj => absurd hj (by omega)), rfl⟩
      case round =>
        obtain ⟨k, x, hk, rfl, rfl, hx0, hx1, hh, rfl⟩ := hrel
        by_cases hlt : k < m.length
        · obtain ⟨r, c0, hrd⟩ := HC.out k hlt
          have hc := szRatioS_any r m[k] x wr hx0 hx1 hrd
          by_cases hn : x - m[k].length < 0
          · have e : (if x - (m[k].length : Int) < 0 then (-1 : Int) else x - m[k].length) = -1 := if_pos hn
            rw [e] at hc
            go_wp2_with fail
            refine hc.mono ?_
            rintro en w1 ⟨rfl, rfl⟩
            clear hc hrd e
            go_wp2
            go_ret
            exact ⟨⟨-1, rfl, .inl (by omega)⟩, by first | trivial | rfl⟩
          · have e : (if x - (m[k].length : Int) < 0 then (-1 : Int) else x - m[k].length) = x - m[k].length := if_neg hn
            rw [e] at hc
            go_wp2_with fail
            refine hc.mono ?_
            rintro en w1 ⟨rfl, rfl⟩
            clear hc hrd e
            go_wp2
            go_roundw
            case rel =>
              refine ⟨k + 1, _, by omega, by go_num, by first | rfl | go_num, by omega, by omega, Lib.hid (fun j hj hjk => ?_), by first | trivial | rfl⟩
              by_cases hjk' : j = k
              · subst hjk'; omega
              · exact hh.out j hj (by omega)
            case measure => simp [intOf]; omega
        · obtain rfl : k = m.length := by omega
          go_wp2
          go_ret
          exact ⟨⟨_, rfl, .inr ⟨hx1, hml, fun j hj => hh.out j hj hj⟩⟩, by first | trivial | rfl⟩
end Go.Proofs.Ytpfnlnllaapjeaa
