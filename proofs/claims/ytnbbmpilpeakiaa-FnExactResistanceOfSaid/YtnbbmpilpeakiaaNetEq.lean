/-
  The laws' comparison, marking and holding of networks.
-/
import Derived.Test.YtnbbmpilpeakiaaWire
namespace Go.Proofs.Ytnbbmpilpeakiaa
open Go.RowKit

theorem eqWire_same (a b c : Int) (w : World) :
    Calls Try.prog 98 #[.agg #[.int .i64 a, .int .i64 b, .int .i64 c], .agg #[.int .i64 a, .int .i64 b, .int .i64 c]] w fun e w' => e = .returned (.bool true) ∧ Below w.heap.size w w' := by
  go_enter Try.func98, Try.ntmps98
  go_wp2
  go_ret
  exact ⟨rfl, by (repeat (first | exact Below.refl _ _ | (refine Below.setCell ?_ (by (first | exact Nat.le_refl _ | omega | (simp <;> omega) | simp)) _) | (refine Below.alloc ?_ (by (first | exact Nat.le_refl _ | omega | (simp <;> omega) | simp)) _) | (refine below_draws ?_ _)))⟩

theorem six_keep {B : Nat} {W w w1 : World} {a b c d e f : Addr} {u1 u2 u3 : Value} (h : Below w.heap.size w w1)
    (k : w.cell? a = some u1 ∧ w.cell? b = some u2 ∧ w.cell? c = some u3 ∧ w.cell? d = some u1 ∧ w.cell? e = some u2 ∧ w.cell? f = some u3 ∧ B ≤ w.heap.size ∧ Below B W w) :
    w1.cell? a = some u1 ∧ w1.cell? b = some u2 ∧ w1.cell? c = some u3 ∧ w1.cell? d = some u1 ∧ w1.cell? e = some u2 ∧ w1.cell? f = some u3 ∧ B ≤ w1.heap.size ∧ Below B W w1 := by
  obtain ⟨h1, h2, h3, h4, h5, h6, h7, h8⟩ := k
  have s := h.size
  refine ⟨?_, ?_, ?_, ?_, ?_, ?_, by omega, h8.trans (h.mono h7)⟩
  · rw [h.cell (World.block_lt_of_cell? w _ h1)]; exact h1
  · rw [h.cell (World.block_lt_of_cell? w _ h2)]; exact h2
  · rw [h.cell (World.block_lt_of_cell? w _ h3)]; exact h3
  · rw [h.cell (World.block_lt_of_cell? w _ h4)]; exact h4
  · rw [h.cell (World.block_lt_of_cell? w _ h5)]; exact h5
  · rw [h.cell (World.block_lt_of_cell? w _ h6)]; exact h6

set_option maxHeartbeats 800000 in
theorem eqWireS_same (va vb : Value) (ws : List W3) (w : World) (ha : ReadsW w va ws) (hb : ReadsW w vb ws) :
    Calls Try.prog 78 #[va, vb] w fun e w' => e = .returned (.bool true) ∧ Below w.heap.size w w' := by
  obtain ⟨hm, ha2⟩ := ha
  obtain ⟨-, hb2⟩ := hb
  by_cases h0 : ws.length = 0
  · obtain ⟨p, cap, rfl⟩ := ReadsW.shape (w := w) (v := va) (ws := ws) ⟨hm, ha2⟩
    obtain ⟨q, cbp, rfl⟩ := ReadsW.shape (w := w) (v := vb) (ws := ws) ⟨hm, hb2⟩
    rw [h0]
    clear ha2 hb2 hm h0
    go_enter Try.func78, Try.ntmps78
    go_wp2
    refine wp_loop_rounds 1 ?_
    rw [rounds_succ]
    go_wp2
    go_ret
    exact ⟨rfl, by (repeat (first | exact Below.refl _ _ | (refine Below.setCell ?_ (by (first | exact Nat.le_refl _ | omega | (simp <;> omega) | simp)) _) | (refine Below.alloc ?_ (by (first | exact Nat.le_refl _ | omega | (simp <;> omega) | simp)) _) | (refine below_draws ?_ _)))⟩
  · rcases ha2 with ⟨hx, _⟩ | ⟨g, o, cap, rfl, hc⟩
    · exact absurd (by simp [hx]) h0
    rcases hb2 with ⟨hx, _⟩ | ⟨q, u, cbp, rfl, hd⟩
    · exact absurd (by simp [hx]) h0
    have HC := Lib.hid hc; clear hc
    have HD := Lib.hid hd; clear hd
    clear h0
    go_enter Try.func78, Try.ntmps78
    go_wp2
    go_loopw [5] (fun i wr => ∃ (k : Nat), k ≤ ws.length ∧ i = .int .i64 k ∧ Below w.heap.size w wr) (fun i _ => ws.length - (intOf i).toNat)
    case atStart => exact ⟨0, Nat.zero_le _, rfl, by (repeat (first | exact Below.refl _ _ | (refine Below.setCell ?_ (by (first | exact Nat.le_refl _ | omega | (simp <;> omega) | simp)) _) | (refine Below.alloc ?_ (by (first | exact Nat.le_refl _ | omega | (simp <;> omega) | simp)) _) | (refine below_draws ?_ _)))⟩
    case round =>
      obtain ⟨k, hk, rfl, hB⟩ := hrel
      by_cases hlt : k < ws.length
      · obtain ⟨c0, c1, c2⟩ := HC.out k hlt
        obtain ⟨d0, d1, d2⟩ := HD.out k hlt
        have hg := World.block_lt_of_cell? w _ c0
        have hq := World.block_lt_of_cell? w _ d0
        have hS0 := hB.size
        rw [← hB.cell (p := ⟨g, o + k * 3, none⟩) hg] at c0
        rw [← hB.cell (p := ⟨g, o + k * 3 + 1, none⟩) hg] at c1
        rw [← hB.cell (p := ⟨g, o + k * 3 + 2, none⟩) hg] at c2
        rw [← hB.cell (p := ⟨q, u + k * 3, none⟩) hq] at d0
        rw [← hB.cell (p := ⟨q, u + k * 3 + 1, none⟩) hq] at d1
        rw [← hB.cell (p := ⟨q, u + k * 3 + 2, none⟩) hq] at d2
        clear hg hq
        have hS : wr.drew.cell? ⟨g, o + k * 3, none⟩ = some (.int .i64 ws[k].1) ∧ wr.drew.cell? ⟨g, o + k * 3 + 1, none⟩ = some (.int .i64 ws[k].2.1) ∧ wr.drew.cell? ⟨g, o + k * 3 + 2, none⟩ = some (.int .i64 ws[k].2.2) ∧ wr.drew.cell? ⟨q, u + k * 3, none⟩ = some (.int .i64 ws[k].1) ∧ wr.drew.cell? ⟨q, u + k * 3 + 1, none⟩ = some (.int .i64 ws[k].2.1) ∧ wr.drew.cell? ⟨q, u + k * 3 + 2, none⟩ = some (.int .i64 ws[k].2.2) ∧ w.heap.size ≤ wr.drew.heap.size ∧ Below w.heap.size w wr.drew := ⟨c0, c1, c2, d0, d1, d2, hS0, below_draws hB 1⟩
        go_wp2
        go_region_held3 (fun w' => w'.cell? ⟨g, o + k * 3, none⟩ = some (.int .i64 ws[k].1) ∧ w'.cell? ⟨g, o + k * 3 + 1, none⟩ = some (.int .i64 ws[k].2.1) ∧ w'.cell? ⟨g, o + k * 3 + 2, none⟩ = some (.int .i64 ws[k].2.2) ∧ w'.cell? ⟨q, u + k * 3, none⟩ = some (.int .i64 ws[k].1) ∧ w'.cell? ⟨q, u + k * 3 + 1, none⟩ = some (.int .i64 ws[k].2.1) ∧ w'.cell? ⟨q, u + k * 3 + 2, none⟩ = some (.int .i64 ws[k].2.2) ∧ w.heap.size ≤ w'.heap.size ∧ Below w.heap.size w w')
          (first | exact hS)
          (first | (go_at_call 98; refine (eqWire_same _ _ _ _).mono ?_; rintro en w1 ⟨rfl, B1⟩; replace hS := six_keep B1 hS))
        all_goals
          go_wp2
          go_roundw
          case rel => exact ⟨k + 1, by omega, by go_num, hS.2.2.2.2.2.2.2⟩
          case measure => simp [intOf]; omega
      · obtain rfl : k = ws.length := by omega
        go_wp2
        go_ret
        exact ⟨rfl, by (repeat (first | exact Below.refl _ _ | (refine Below.setCell ?_ (by (first | exact Nat.le_refl _ | omega | (simp <;> omega) | simp)) _) | (refine Below.alloc ?_ (by (first | exact Nat.le_refl _ | omega | (simp <;> omega) | simp)) _) | (refine below_draws ?_ _) | exact hB | (refine Below.trans ?_ (Below.mono hB (by (first | exact Nat.le_refl _ | omega | (simp <;> omega) | simp))))))⟩

theorem eqNet_same (n e s : Int) (va vb : Value) (ws : List W3) (w : World) (ha : ReadsW w va ws) (hb : ReadsW w vb ws) :
    Calls Try.prog 39 #[.agg #[.int .i64 n, .int .i64 e, .int .i64 s, va], .agg #[.int .i64 n, .int .i64 e, .int .i64 s, vb]] w fun en w' => en = .returned (.bool true) ∧ Below w.heap.size w w' := by
  have hB0 : Below w.heap.size w ((w.alloc (.cells #[.int .i64 n, .int .i64 e, .int .i64 s, va] 33)).alloc (.cells #[.int .i64 n, .int .i64 e, .int .i64 s, vb] 33)) := by (repeat (first | exact Below.refl _ _ | (refine Below.setCell ?_ (by (first | exact Nat.le_refl _ | omega | (simp <;> omega) | simp)) _) | (refine Below.alloc ?_ (by (first | exact Nat.le_refl _ | omega | (simp <;> omega) | simp)) _) | (refine below_draws ?_ _)))
  have hc := eqWireS_same va vb ws _ (ha.later hB0) (hb.later hB0)
  go_enter Try.func39, Try.ntmps39
  go_wp2_with fail
  refine hc.mono ?_
  rintro en w1 ⟨rfl, B1⟩
  go_wp2
  go_ret
  exact ⟨rfl, by (repeat (first | exact Below.refl _ _ | (refine Below.setCell ?_ (by (first | exact Nat.le_refl _ | omega | (simp <;> omega) | simp)) _) | (refine Below.alloc ?_ (by (first | exact Nat.le_refl _ | omega | (simp <;> omega) | simp)) _) | (refine below_draws ?_ _) | exact B1 | (refine Below.trans ?_ (Below.mono B1 (by (first | exact Nat.le_refl _ | omega | (simp <;> omega) | simp))))))⟩

/-! ### marks -/
/-- n wires of running numbers from k on. -/
def mks (k n : Nat) : List W3 := (List.range n).map fun i => (((k + i * 3 : Nat) : Int), ((k + i * 3 + 1 : Nat) : Int), ((k + i * 3 + 2 : Nat) : Int))
theorem mks_length (k n : Nat) : (mks k n).length = n := by simp [mks]
theorem mks_get (k n i : Nat) (h : i < (mks k n).length) : (mks k n)[i] = (((k + i * 3 : Nat) : Int), ((k + i * 3 + 1 : Nat) : Int), ((k + i * 3 + 2 : Nat) : Int)) := by simp [mks]
theorem mks_take (k n i : Nat) (h : i ≤ n) : (mks k n).take i = mks k i := by
  unfold mks; rw [← List.map_take, List.take_range, Nat.min_eq_left h]

theorem grown_trans {a b c : World} {row : Option Nat} (h : a.grownBy b row) (k : b.grownBy c row) : a.grownBy c row :=
  ⟨k.os.trans h.os, k.tape.trans h.tape, k.output.trans h.output, Nat.le_trans h.size k.size, fun i hi hr => (k.block i (Nat.lt_of_lt_of_le hi h.size) hr).trans (h.block i hi hr)⟩
theorem grown_of_below {w w' : World} {row : Option Nat} (h : Below w.heap.size w w') : w.grownBy w' row :=
  ⟨h.os, h.tape, h.output, h.size, fun i hi _ => h.block i hi⟩
theorem ReadsW.kept {w w' : World} {row : Option Nat} {v : Value} {ws : List W3} (h : ReadsW w v ws) (hg : w.grownBy w' row) (hne : v.ownBlock = none ∨ v.ownBlock ≠ row) : ReadsW w' v ws := by
  refine ⟨h.1, ?_⟩
  rcases h.2 with h0 | ⟨g, o, cap, rfl, hc⟩
  · exact .inl h0
  · have hr : some g ≠ row := by
      rcases hne with h | h
      · exact absurd h (by simp [Value.ownBlock])
      · exact h
    refine .inr ⟨g, o, cap, rfl, fun k hk => ?_⟩
    obtain ⟨a, b, c⟩ := hc k hk
    exact ⟨hg.cell a hr, hg.cell b hr, hg.cell c hr⟩

set_option maxHeartbeats 800000 in
theorem markWireS_any (v : Value) (n k : Nat) (xs : List Value) (base : Nat) (w : World) (hk : 1 ≤ k) (hkn : k + n * 3 ≤ 8000000) (h : w.ownsRow base 81 3 v n xs) :
    Calls Try.prog 80 #[v, .int .i64 k] w fun e w' => e = .returned (.int .i64 ((k + n * 3 : Nat) : Int)) ∧ w'.ownsRow base 81 3 v n (cellsW (mks k n)) ∧ w.grownBy w' v.ownBlock := by
  have hl := h.1
  have h0 := h
  rcases h.2 with ⟨rfl, rfl⟩ | ⟨g, cap, cur, rfl, hg, hh, hnc, hcm, _, _⟩
  · go_enter Try.func80, Try.ntmps80
    go_wp2
    refine wp_loop_rounds 1 ?_
    rw [rounds_succ]
    go_wp2
    go_ret
    exact ⟨rfl, World.ownsRow_nil _ _ _ _, World.grownBy.refl _ _⟩
  · unfold maxLen at hcm
    clear hh h
    have HL := Lib.hid hl; clear hl
    go_enter Try.func80, Try.ntmps80
    go_wp2
    go_loopw [1, 5] (fun q i wr => ∃ (j : Nat) (ys : List Value), j ≤ n ∧ i = .int .i64 j ∧ q = .int .i64 ((k + j * 3 : Nat) : Int) ∧ wr.ownsRow base 81 3 (.slice (some ⟨g, 0, none⟩) n cap) n ys ∧ Hid (ys.take (j * 3) = cellsW (mks k j)) ∧ Hid (w.grownBy wr (some g))) (fun _ i _ => n - (intOf i).toNat)
    case atStart => exact ⟨0, xs, Nat.zero_le _, rfl, rfl, h0, rfl, Lib.hid (World.grownBy.refl _ _)⟩
    case round =>
      obtain ⟨j, ys, hj, rfl, rfl, hown, hh, hB⟩ := hrel
      by_cases hlt : j < n
      · have hyl : ys.length = n * 3 := by have := hown.1; omega
        have d0 := hown.cellAt (j * 3) (by omega)
        have d1 := hown.cellAt (j * 3 + 1) (by omega)
        have d2 := hown.cellAt (j * 3 + 2) (by omega)
        rw [List.getElem?_eq_getElem (by omega)] at d0 d1 d2
        have f0 := hown.frozenAt (j * 3)
        have f1 := hown.frozenAt (j * 3 + 1)
        have f2 := hown.frozenAt (j * 3 + 2)
        have s1 := hown.stored (j * 3) (.int .i64 ((k + j * 3 : Nat) : Int))
        have s2 := s1.1.stored (j * 3 + 1) (.int .i64 ((k + j * 3 + 1 : Nat) : Int))
        have s3 := s2.1.stored (j * 3 + 2) (.int .i64 ((k + j * 3 + 2 : Nat) : Int))
        have HG : Hid (w.grownBy _ (some g)) := Lib.hid (grown_trans (grown_trans (grown_trans hB.out s1.2) s2.2) s3.2)
        have HT := Lib.hid (set3_take ys (mks k n) j (by rw [mks_length]; exact hlt) (by rw [mks_length]; exact hyl) (by rw [mks_take k n j (by omega)]; exact hh.out))
        rw [mks_get] at HT
        rw [mks_take k n (j + 1) (by omega)] at HT
        have HO := Lib.hid s3.1
        clear s1 s2 s3
        go_wp2
        go_roundw
        case rel =>
          refine ⟨j + 1, _, by omega, by go_num, by go_num, ?_, HT, ?_⟩
          · have := HO.out; simpa [Int.add_assoc] using this
          · have := HG.out; exact Lib.hid (by simpa [Int.add_assoc] using this)
        case measure => simp [intOf]; omega
      · have hyl : ys.length = n * 3 := by have := hown.1; omega
        go_wp2
        go_ret
        have hjn : j = n := by omega
        subst hjn
        refine ⟨by congr 1, ?_, hB.out⟩
        have e := hh.out
        rw [List.take_of_length_le (by omega)] at e
        rw [← e]; exact hown

theorem markNet_at (q a e s : Int) (p : Option Addr) (cap : Nat) (n k : Nat) (xs : List Value) (base : Nat) (w : World) (hq : q = k) (hk : 1 ≤ k) (hkn : k + n * 3 ≤ 8000000) (h : w.ownsRow base 81 3 (.slice p n cap) n xs) :
    Calls Try.prog 42 #[.agg #[.int .i64 a, .int .i64 e, .int .i64 s, .slice p n cap], .int .i64 q] w fun en w' => en = .returned (.int .i64 (q + n * 3)) ∧ w'.ownsRow base 81 3 (.slice p n cap) n (cellsW (mks k n)) ∧ w.grownBy w' (Value.slice p n cap).ownBlock := by
  subst hq
  have hg : w.grownBy (w.alloc (.cells #[.int .i64 a, .int .i64 e, .int .i64 s, .slice p n cap] 33)) (Value.slice p n cap).ownBlock := World.grownBy_alloc _ _ _
  have ho := h.alloc (.cells #[.int .i64 a, .int .i64 e, .int .i64 s, .slice p n cap] 33)
  have hc := markWireS_any (.slice p n cap) n k xs base _ hk hkn ho
  go_enter Try.func42, Try.ntmps42
  go_wp2_with fail
  refine hc.mono ?_
  rintro en w1 ⟨rfl, o1, g1⟩
  go_wp2
  go_ret
  exact ⟨by congr 1, o1, grown_trans hg g1⟩
end Go.Proofs.Ytnbbmpilpeakiaa
