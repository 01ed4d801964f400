/-
  wiresOk in the program: every wire in its range, each behind the one ahead of it.
-/
import Derived.Test.YtaececpphdaciaaNetOkSpec
import Derived.Test.YtaececpphdaciaaOrder
namespace Go.Proofs.Ytaececpphdaciaa
open Go.RowKit

noncomputable def wiresB (n : Int) (ws : List W3) : Bool := @decide (WiresV n ws) (Classical.propDecidable _)
theorem wiresB_iff {n : Int} {ws : List W3} : wiresB n ws = true ↔ WiresV n ws := by simp [wiresB]
theorem wiresB_true {n : Int} {ws : List W3} (h : WiresV n ws) : wiresB n ws = true := wiresB_iff.2 h
theorem wiresB_false {n : Int} {ws : List W3} (h : ¬ WiresV n ws) : wiresB n ws = false := by simp [wiresB, h]
theorem ends_lt (a b : W3) (h : wLt a b) : decide (cE a b ≥ 0) = false := by have : ¬ 0 ≤ cE a b := fun h0 => (cE_nonneg a b).1 h0 h; simp; omega
theorem ends_ge (a b : W3) (h : ¬ wLt a b) : decide (cE a b ≥ 0) = true := by have := (cE_nonneg a b).2 h; simp; omega

theorem wk_keep {w wr w1 w2 : World} {g o1 o2 o3 : Nat} {x0 x1 x2 x3 x4 x5 x6 x7 : Value} (hb : Below w1.heap.size w1 w2) (h : w1.cell? ⟨w.heap.size, 0, none⟩ = some x0 ∧ w1.cell? ⟨w.heap.size, 3, none⟩ = some x1 ∧ w1.cell? ⟨g, o1, none⟩ = some x2 ∧ w1.cell? ⟨g, o2, none⟩ = some x3 ∧ w1.cell? ⟨g, o3, none⟩ = some x4 ∧ w1.cell? ⟨wr.heap.size, 0, none⟩ = some x5 ∧ w1.cell? ⟨wr.heap.size, 1, none⟩ = some x6 ∧ w1.cell? ⟨wr.heap.size, 2, none⟩ = some x7 ∧ wr.heap.size < w1.heap.size ∧ Below w.heap.size w w1) : w2.cell? ⟨w.heap.size, 0, none⟩ = some x0 ∧ w2.cell? ⟨w.heap.size, 3, none⟩ = some x1 ∧ w2.cell? ⟨g, o1, none⟩ = some x2 ∧ w2.cell? ⟨g, o2, none⟩ = some x3 ∧ w2.cell? ⟨g, o3, none⟩ = some x4 ∧ w2.cell? ⟨wr.heap.size, 0, none⟩ = some x5 ∧ w2.cell? ⟨wr.heap.size, 1, none⟩ = some x6 ∧ w2.cell? ⟨wr.heap.size, 2, none⟩ = some x7 ∧ wr.heap.size < w2.heap.size ∧ Below w.heap.size w w2 := by
  obtain ⟨h0, h1, h2, h3, h4, h5, h6, h7, h8, h9⟩ := h
  have s := hb.size
  have a0 := World.block_lt_of_cell? w1 _ h0
  have a2 := World.block_lt_of_cell? w1 _ h2
  have hw := h9.size
  exact ⟨(hb.cell (p := ⟨w.heap.size, 0, none⟩) a0).trans h0, (hb.cell (p := ⟨w.heap.size, 3, none⟩) a0).trans h1, (hb.cell (p := ⟨g, o1, none⟩) a2).trans h2, (hb.cell (p := ⟨g, o2, none⟩) a2).trans h3, (hb.cell (p := ⟨g, o3, none⟩) a2).trans h4, (hb.cell (p := ⟨wr.heap.size, 0, none⟩) h8).trans h5, (hb.cell (p := ⟨wr.heap.size, 1, none⟩) h8).trans h6, (hb.cell (p := ⟨wr.heap.size, 2, none⟩) h8).trans h7, by omega, h9.trans (hb.mono hw)⟩
theorem wk_drew {w wr w1 : World} {g o1 o2 o3 : Nat} {x0 x1 x2 x3 x4 x5 x6 x7 : Value} (h : w1.cell? ⟨w.heap.size, 0, none⟩ = some x0 ∧ w1.cell? ⟨w.heap.size, 3, none⟩ = some x1 ∧ w1.cell? ⟨g, o1, none⟩ = some x2 ∧ w1.cell? ⟨g, o2, none⟩ = some x3 ∧ w1.cell? ⟨g, o3, none⟩ = some x4 ∧ w1.cell? ⟨wr.heap.size, 0, none⟩ = some x5 ∧ w1.cell? ⟨wr.heap.size, 1, none⟩ = some x6 ∧ w1.cell? ⟨wr.heap.size, 2, none⟩ = some x7 ∧ wr.heap.size < w1.heap.size ∧ Below w.heap.size w w1) : w1.drew.cell? ⟨w.heap.size, 0, none⟩ = some x0 ∧ w1.drew.cell? ⟨w.heap.size, 3, none⟩ = some x1 ∧ w1.drew.cell? ⟨g, o1, none⟩ = some x2 ∧ w1.drew.cell? ⟨g, o2, none⟩ = some x3 ∧ w1.drew.cell? ⟨g, o3, none⟩ = some x4 ∧ w1.drew.cell? ⟨wr.heap.size, 0, none⟩ = some x5 ∧ w1.drew.cell? ⟨wr.heap.size, 1, none⟩ = some x6 ∧ w1.drew.cell? ⟨wr.heap.size, 2, none⟩ = some x7 ∧ wr.heap.size < w1.drew.heap.size ∧ Below w.heap.size w w1.drew :=
  ⟨h.1, h.2.1, h.2.2.1, h.2.2.2.1, h.2.2.2.2.1, h.2.2.2.2.2.1, h.2.2.2.2.2.2.1, h.2.2.2.2.2.2.2.1, h.2.2.2.2.2.2.2.2.1, below_draws h.2.2.2.2.2.2.2.2.2 1⟩
set_option maxRecDepth 4000 in
set_option maxHeartbeats 6400000 in
theorem wiresOk_any (n e s : Int) (v : Value) (ws : List W3) (w : World) (hr : ReadsW w v ws) :
    Calls Try.prog 98 #[.agg #[.int .i64 n, .int .i64 e, .int .i64 s, v]] w fun en w' => en = .returned (.bool (wiresB n ws)) ∧ Below w.heap.size w w' := by
  have hend : ∃ K, K ≤ ws.length ∧ (∀ j, (h : j < ws.length) → j < K → wireV n ws[j] ∧ (0 < j → wLt (ws[j - 1]'(by omega)) ws[j])) ∧ ((K = ws.length ∧ wiresB n ws = true) ∨ ∃ h : K < ws.length, (¬ wireV n ws[K] ∨ (wireV n ws[K] ∧ 0 < K ∧ ¬ wLt (ws[K - 1]'(by omega)) ws[K])) ∧ wiresB n ws = false) := by
    rcases first_bad n ws with hW | ⟨k, hk, hb, hg⟩
    · refine ⟨ws.length, Nat.le_refl _, fun j h _ => ⟨hW.1 j h, fun h0 => ?_⟩, .inl ⟨rfl, wiresB_true hW⟩⟩
      obtain ⟨i, rfl⟩ : ∃ i, j = i + 1 := ⟨j - 1, by omega⟩
      exact hW.2 i h
    · exact ⟨k, by omega, fun j h hj => hg j hj, .inr ⟨hk, hb, wiresB_false fun h => bad_not hk hb h⟩⟩
  obtain ⟨K, hKl, hgood, hend⟩ := hend
  obtain ⟨hm, hr1⟩ := id hr
  rcases hr1 with ⟨hx, p, cap, rfl⟩ | ⟨g, o, cap, rfl, hc⟩
  · subst hx
    rcases hend with ⟨-, hW⟩ | ⟨h, _⟩
    · have HF := Lib.hid hW
      clear hgood hW hr
      go_enter Try.func98, Try.ntmps98
      go_wp2
      refine wp_loop_rounds 1 ?_
      rw [rounds_succ]
      go_wp2
      go_ret
      exact ⟨ret_b HF.out.symm, by (repeat (first | exact Below.refl _ _ | (refine Below.setCell ?_ (by (first | exact Nat.le_refl _ | omega | (simp <;> omega) | simp)) _) | (refine Below.alloc ?_ (by (first | exact Nat.le_refl _ | omega | (simp <;> omega) | simp)) _) | (refine below_draws ?_ _)))⟩
    · simp at h
  have HC := Lib.hid hc; clear hc
  have HG := Lib.hid hgood; clear hgood
  have HE := Lib.hid hend; clear hend
  clear hr
  go_enter Try.func98, Try.ntmps98
  go_wp2
  go_loopw [8] (fun i wr => ∃ (k : Nat), k ≤ K ∧ i = .int .i64 k ∧ wr.cell? ⟨w.heap.size, 0, none⟩ = some (.int .i64 n) ∧ wr.cell? ⟨w.heap.size, 3, none⟩ = some (.slice (some ⟨g, o, none⟩) ws.length cap) ∧ w.heap.size < wr.heap.size ∧ Below w.heap.size w wr) (fun i _ => ws.length - (intOf i).toNat)
  case atStart => exact ⟨0, Nat.zero_le _, rfl, by simp, by simp, by simp, by (repeat (first | exact Below.refl _ _ | (refine Below.setCell ?_ (by (first | exact Nat.le_refl _ | omega | (simp <;> omega) | simp)) _) | (refine Below.alloc ?_ (by (first | exact Nat.le_refl _ | omega | (simp <;> omega) | simp)) _) | (refine below_draws ?_ _)))⟩
  case round =>
    obtain ⟨k, hk, rfl, b0, b3, hsz, hB⟩ := hrel
    by_cases hlt : k < ws.length
    · obtain ⟨c0, c1, c2⟩ := HC.out k hlt
      have hg : g < w.heap.size := World.block_lt_of_cell? w _ c0
      rw [← hB.cell (p := ⟨g, o + k * 3, none⟩) hg] at c0
      rw [← hB.cell (p := ⟨g, o + k * 3 + 1, none⟩) hg] at c1
      rw [← hB.cell (p := ⟨g, o + k * 3 + 2, none⟩) hg] at c2
      have hgr : g ≠ wr.heap.size := by omega
      have hwr : w.heap.size ≠ wr.heap.size := by omega
      by_cases hkK : k < K
      · obtain ⟨hv, hl⟩ := HG.out k hlt hkK
        obtain ⟨v0, v1, v2, v3, v4⟩ := id hv
        have HV := Lib.hid hv; clear hv
        rcases k with _ | j
        · clear hl
          simp only [Nat.zero_mul, Nat.add_zero] at c0 c1 c2
          go_wp2
          go_quiet (fail)
          go_wp2
          go_roundw
          case rel => exact ⟨0 + 1, by omega, by go_num, by first | assumption | simp [go_sem, *], by first | assumption | simp [go_sem, *], by simp; omega, by (repeat (first | exact Below.refl _ _ | (refine Below.setCell ?_ (by (first | exact Nat.le_refl _ | omega | (simp <;> omega) | simp)) _) | (refine Below.alloc ?_ (by (first | exact Nat.le_refl _ | omega | (simp <;> omega) | simp)) _) | (refine below_draws ?_ _) | exact hB | (refine Below.trans ?_ (Below.mono hB (by (first | exact Nat.le_refl _ | omega | (simp <;> omega) | simp))))))⟩
          case measure => simp [intOf]; omega
        · have hl := Lib.hid (hl (by omega))
          obtain ⟨p0, p1, p2⟩ := HC.out j (by omega)
          rw [← hB.cell (p := ⟨g, o + j * 3, none⟩) hg] at p0
          rw [← hB.cell (p := ⟨g, o + j * 3 + 1, none⟩) hg] at p1
          rw [← hB.cell (p := ⟨g, o + j * 3 + 2, none⟩) hg] at p2
          have hcE : decide (cE (ws[j].1, ws[j].2.1, ws[j].2.2) (ws[j + 1].1, ws[j + 1].2.1, ws[j + 1].2.2) ≥ 0) = false := ends_lt _ _ (by have := hl.out; simpa using this : wLt ws[j] ws[j + 1])
          have hS0 : (wr.alloc (.cells #[.int .i64 ws[j + 1].1, .int .i64 ws[j + 1].2.1, .int .i64 ws[j + 1].2.2] 29)).cell? ⟨w.heap.size, 0, none⟩ = some (.int .i64 n) ∧ (wr.alloc (.cells #[.int .i64 ws[j + 1].1, .int .i64 ws[j + 1].2.1, .int .i64 ws[j + 1].2.2] 29)).cell? ⟨w.heap.size, 3, none⟩ = some (.slice (some ⟨g, o, none⟩) ws.length cap) ∧ (wr.alloc (.cells #[.int .i64 ws[j + 1].1, .int .i64 ws[j + 1].2.1, .int .i64 ws[j + 1].2.2] 29)).cell? ⟨g, o + j * 3, none⟩ = some (.int .i64 ws[j].1) ∧ (wr.alloc (.cells #[.int .i64 ws[j + 1].1, .int .i64 ws[j + 1].2.1, .int .i64 ws[j + 1].2.2] 29)).cell? ⟨g, o + j * 3 + 1, none⟩ = some (.int .i64 ws[j].2.1) ∧ (wr.alloc (.cells #[.int .i64 ws[j + 1].1, .int .i64 ws[j + 1].2.1, .int .i64 ws[j + 1].2.2] 29)).cell? ⟨g, o + j * 3 + 2, none⟩ = some (.int .i64 ws[j].2.2) ∧ (wr.alloc (.cells #[.int .i64 ws[j + 1].1, .int .i64 ws[j + 1].2.1, .int .i64 ws[j + 1].2.2] 29)).cell? ⟨wr.heap.size, 0, none⟩ = some (.int .i64 ws[j + 1].1) ∧ (wr.alloc (.cells #[.int .i64 ws[j + 1].1, .int .i64 ws[j + 1].2.1, .int .i64 ws[j + 1].2.2] 29)).cell? ⟨wr.heap.size, 1, none⟩ = some (.int .i64 ws[j + 1].2.1) ∧ (wr.alloc (.cells #[.int .i64 ws[j + 1].1, .int .i64 ws[j + 1].2.1, .int .i64 ws[j + 1].2.2] 29)).cell? ⟨wr.heap.size, 2, none⟩ = some (.int .i64 ws[j + 1].2.2) ∧ wr.heap.size < (wr.alloc (.cells #[.int .i64 ws[j + 1].1, .int .i64 ws[j + 1].2.1, .int .i64 ws[j + 1].2.2] 29)).heap.size ∧ Below w.heap.size w (wr.alloc (.cells #[.int .i64 ws[j + 1].1, .int .i64 ws[j + 1].2.1, .int .i64 ws[j + 1].2.2] 29)) := ⟨by rw [World.cell?_alloc_old _ _ _ (show w.heap.size ≠ _ by omega)]; exact b0, by rw [World.cell?_alloc_old _ _ _ (show w.heap.size ≠ _ by omega)]; exact b3, by rw [World.cell?_alloc_old _ _ _ (show g ≠ _ by omega)]; exact p0, by rw [World.cell?_alloc_old _ _ _ (show g ≠ _ by omega)]; exact p1, by rw [World.cell?_alloc_old _ _ _ (show g ≠ _ by omega)]; exact p2, by simp, by simp, by simp, by simp, by (repeat (first | exact Below.refl _ _ | (refine Below.setCell ?_ (by (first | exact Nat.le_refl _ | omega | (simp <;> omega) | simp)) _) | (refine Below.alloc ?_ (by (first | exact Nat.le_refl _ | omega | (simp <;> omega) | simp)) _) | (refine below_draws ?_ _) | exact hB | (refine Below.trans ?_ (Below.mono hB (by (first | exact Nat.le_refl _ | omega | (simp <;> omega) | simp))))))⟩
          have hS := wk_drew hS0
          clear hS0
          have i0 : (0 : Int) ≤ (j : Int) := by omega
          have i1 : (j : Int) < (ws.length : Int) := by omega
          have v5 : ¬ 200 < ws[j + 1].2.2 := by omega
          have i2 : (j : Int) ≤ (ws.length : Int) := by omega
          have i4 : IntKind.i64.wrap (j : Int) = (j : Int) := by simp [IntKind.wrap, IntKind.bits, IntKind.signed]; omega
          go_wp2
          go_region_held3 (fun w' => w'.cell? ⟨w.heap.size, 0, none⟩ = some (.int .i64 n) ∧ w'.cell? ⟨w.heap.size, 3, none⟩ = some (.slice (some ⟨g, o, none⟩) ws.length cap) ∧ w'.cell? ⟨g, o + j * 3, none⟩ = some (.int .i64 ws[j].1) ∧ w'.cell? ⟨g, o + j * 3 + 1, none⟩ = some (.int .i64 ws[j].2.1) ∧ w'.cell? ⟨g, o + j * 3 + 2, none⟩ = some (.int .i64 ws[j].2.2) ∧ w'.cell? ⟨wr.heap.size, 0, none⟩ = some (.int .i64 ws[j + 1].1) ∧ w'.cell? ⟨wr.heap.size, 1, none⟩ = some (.int .i64 ws[j + 1].2.1) ∧ w'.cell? ⟨wr.heap.size, 2, none⟩ = some (.int .i64 ws[j + 1].2.2) ∧ wr.heap.size < w'.heap.size ∧ Below w.heap.size w w')
            (first | exact hS)
            (first | (go_at_call 119; (refine (ends_any _ _ _ _ _ _ _).mono ?_); rintro en w1 ⟨rfl, B1⟩; replace hS := wk_keep B1 hS))
          all_goals
            go_wp2
            go_roundw
            case rel => exact ⟨j + 1 + 1, by omega, by go_num, hS.1, hS.2.1, by have := hS.2.2.2.2.2.2.2.2.1; omega, hS.2.2.2.2.2.2.2.2.2⟩
            case measure => simp [intOf]; omega
      · obtain rfl : k = K := by omega
        rcases HE.out with ⟨h, -⟩ | ⟨_, hbad, hF⟩
        · omega
        have HF := Lib.hid hF; clear hF
        rcases hbad with hbad | ⟨⟨v0, v1, v2, v3, v4⟩, h0, hl⟩
        · unfold wireV at hbad
          by_cases h1 : ws[k].1 < 0
          · clear hbad
            go_wp2
            go_ret
            exact ⟨ret_b HF.out.symm, by (repeat (first | exact Below.refl _ _ | (refine Below.setCell ?_ (by (first | exact Nat.le_refl _ | omega | (simp <;> omega) | simp)) _) | (refine Below.alloc ?_ (by (first | exact Nat.le_refl _ | omega | (simp <;> omega) | simp)) _) | (refine below_draws ?_ _) | exact hB | (refine Below.trans ?_ (Below.mono hB (by (first | exact Nat.le_refl _ | omega | (simp <;> omega) | simp))))))⟩
          by_cases h2 : ws[k].2.1 ≤ ws[k].1
          · clear hbad
            go_wp2
            go_ret
            exact ⟨ret_b HF.out.symm, by (repeat (first | exact Below.refl _ _ | (refine Below.setCell ?_ (by (first | exact Nat.le_refl _ | omega | (simp <;> omega) | simp)) _) | (refine Below.alloc ?_ (by (first | exact Nat.le_refl _ | omega | (simp <;> omega) | simp)) _) | (refine below_draws ?_ _) | exact hB | (refine Below.trans ?_ (Below.mono hB (by (first | exact Nat.le_refl _ | omega | (simp <;> omega) | simp))))))⟩
          by_cases h3 : n ≤ ws[k].2.1
          · clear hbad
            go_wp2
            go_ret
            exact ⟨ret_b HF.out.symm, by (repeat (first | exact Below.refl _ _ | (refine Below.setCell ?_ (by (first | exact Nat.le_refl _ | omega | (simp <;> omega) | simp)) _) | (refine Below.alloc ?_ (by (first | exact Nat.le_refl _ | omega | (simp <;> omega) | simp)) _) | (refine below_draws ?_ _) | exact hB | (refine Below.trans ?_ (Below.mono hB (by (first | exact Nat.le_refl _ | omega | (simp <;> omega) | simp))))))⟩
          by_cases h4 : ws[k].2.2 < 1
          · clear hbad
            go_wp2
            go_ret
            exact ⟨ret_b HF.out.symm, by (repeat (first | exact Below.refl _ _ | (refine Below.setCell ?_ (by (first | exact Nat.le_refl _ | omega | (simp <;> omega) | simp)) _) | (refine Below.alloc ?_ (by (first | exact Nat.le_refl _ | omega | (simp <;> omega) | simp)) _) | (refine below_draws ?_ _) | exact hB | (refine Below.trans ?_ (Below.mono hB (by (first | exact Nat.le_refl _ | omega | (simp <;> omega) | simp))))))⟩
          have h5 : 200 < ws[k].2.2 := by omega
          clear hbad
          go_wp2
          go_ret
          exact ⟨ret_b HF.out.symm, by (repeat (first | exact Below.refl _ _ | (refine Below.setCell ?_ (by (first | exact Nat.le_refl _ | omega | (simp <;> omega) | simp)) _) | (refine Below.alloc ?_ (by (first | exact Nat.le_refl _ | omega | (simp <;> omega) | simp)) _) | (refine below_draws ?_ _) | exact hB | (refine Below.trans ?_ (Below.mono hB (by (first | exact Nat.le_refl _ | omega | (simp <;> omega) | simp))))))⟩
        · obtain ⟨j, rfl⟩ : ∃ j, k = j + 1 := ⟨k - 1, by omega⟩
          simp only [Nat.add_sub_cancel] at hl
          obtain ⟨p0, p1, p2⟩ := HC.out j (by omega)
          rw [← hB.cell (p := ⟨g, o + j * 3, none⟩) hg] at p0
          rw [← hB.cell (p := ⟨g, o + j * 3 + 1, none⟩) hg] at p1
          rw [← hB.cell (p := ⟨g, o + j * 3 + 2, none⟩) hg] at p2
          have u0 : 0 ≤ ws[j + 1].1 := v0
          have u1 : ws[j + 1].1 < ws[j + 1].2.1 := v1
          have u2 : ws[j + 1].2.1 < n := v2
          have u3 : 1 ≤ ws[j + 1].2.2 := v3
          have u4 : ws[j + 1].2.2 ≤ 200 := v4
          have t0 : ¬ ws[j + 1].1 < 0 := by omega
          have t1 : ¬ ws[j + 1].2.1 ≤ ws[j + 1].1 := by omega
          have t2 : ¬ n ≤ ws[j + 1].2.1 := by omega
          have t3 : ¬ ws[j + 1].2.2 < 1 := by omega
          clear v0 v1 v2 v3 v4 hk hkK h0
          have hcE : decide (cE (ws[j].1, ws[j].2.1, ws[j].2.2) (ws[j + 1].1, ws[j + 1].2.1, ws[j + 1].2.2) ≥ 0) = true := ends_ge _ _ (show ¬ wLt ws[j] ws[j + 1] from hl)
          clear hl
          have hS0 : (wr.alloc (.cells #[.int .i64 ws[j + 1].1, .int .i64 ws[j + 1].2.1, .int .i64 ws[j + 1].2.2] 29)).cell? ⟨w.heap.size, 0, none⟩ = some (.int .i64 n) ∧ (wr.alloc (.cells #[.int .i64 ws[j + 1].1, .int .i64 ws[j + 1].2.1, .int .i64 ws[j + 1].2.2] 29)).cell? ⟨w.heap.size, 3, none⟩ = some (.slice (some ⟨g, o, none⟩) ws.length cap) ∧ (wr.alloc (.cells #[.int .i64 ws[j + 1].1, .int .i64 ws[j + 1].2.1, .int .i64 ws[j + 1].2.2] 29)).cell? ⟨g, o + j * 3, none⟩ = some (.int .i64 ws[j].1) ∧ (wr.alloc (.cells #[.int .i64 ws[j + 1].1, .int .i64 ws[j + 1].2.1, .int .i64 ws[j + 1].2.2] 29)).cell? ⟨g, o + j * 3 + 1, none⟩ = some (.int .i64 ws[j].2.1) ∧ (wr.alloc (.cells #[.int .i64 ws[j + 1].1, .int .i64 ws[j + 1].2.1, .int .i64 ws[j + 1].2.2] 29)).cell? ⟨g, o + j * 3 + 2, none⟩ = some (.int .i64 ws[j].2.2) ∧ (wr.alloc (.cells #[.int .i64 ws[j + 1].1, .int .i64 ws[j + 1].2.1, .int .i64 ws[j + 1].2.2] 29)).cell? ⟨wr.heap.size, 0, none⟩ = some (.int .i64 ws[j + 1].1) ∧ (wr.alloc (.cells #[.int .i64 ws[j + 1].1, .int .i64 ws[j + 1].2.1, .int .i64 ws[j + 1].2.2] 29)).cell? ⟨wr.heap.size, 1, none⟩ = some (.int .i64 ws[j + 1].2.1) ∧ (wr.alloc (.cells #[.int .i64 ws[j + 1].1, .int .i64 ws[j + 1].2.1, .int .i64 ws[j + 1].2.2] 29)).cell? ⟨wr.heap.size, 2, none⟩ = some (.int .i64 ws[j + 1].2.2) ∧ wr.heap.size < (wr.alloc (.cells #[.int .i64 ws[j + 1].1, .int .i64 ws[j + 1].2.1, .int .i64 ws[j + 1].2.2] 29)).heap.size ∧ Below w.heap.size w (wr.alloc (.cells #[.int .i64 ws[j + 1].1, .int .i64 ws[j + 1].2.1, .int .i64 ws[j + 1].2.2] 29)) := ⟨by rw [World.cell?_alloc_old _ _ _ (show w.heap.size ≠ _ by omega)]; exact b0, by rw [World.cell?_alloc_old _ _ _ (show w.heap.size ≠ _ by omega)]; exact b3, by rw [World.cell?_alloc_old _ _ _ (show g ≠ _ by omega)]; exact p0, by rw [World.cell?_alloc_old _ _ _ (show g ≠ _ by omega)]; exact p1, by rw [World.cell?_alloc_old _ _ _ (show g ≠ _ by omega)]; exact p2, by simp, by simp, by simp, by simp, by (repeat (first | exact Below.refl _ _ | (refine Below.setCell ?_ (by (first | exact Nat.le_refl _ | omega | (simp <;> omega) | simp)) _) | (refine Below.alloc ?_ (by (first | exact Nat.le_refl _ | omega | (simp <;> omega) | simp)) _) | (refine below_draws ?_ _) | exact hB | (refine Below.trans ?_ (Below.mono hB (by (first | exact Nat.le_refl _ | omega | (simp <;> omega) | simp))))))⟩
          have hS := wk_drew hS0
          clear hS0
          have i0 : (0 : Int) ≤ (j : Int) := by omega
          have i1 : (j : Int) < (ws.length : Int) := by omega
          have v5 : ¬ 200 < ws[j + 1].2.2 := by omega
          have i2 : (j : Int) ≤ (ws.length : Int) := by omega
          have i4 : IntKind.i64.wrap (j : Int) = (j : Int) := by simp [IntKind.wrap, IntKind.bits, IntKind.signed]; omega
          go_wp2
          go_region_held3 (fun w' => w'.cell? ⟨w.heap.size, 0, none⟩ = some (.int .i64 n) ∧ w'.cell? ⟨w.heap.size, 3, none⟩ = some (.slice (some ⟨g, o, none⟩) ws.length cap) ∧ w'.cell? ⟨g, o + j * 3, none⟩ = some (.int .i64 ws[j].1) ∧ w'.cell? ⟨g, o + j * 3 + 1, none⟩ = some (.int .i64 ws[j].2.1) ∧ w'.cell? ⟨g, o + j * 3 + 2, none⟩ = some (.int .i64 ws[j].2.2) ∧ w'.cell? ⟨wr.heap.size, 0, none⟩ = some (.int .i64 ws[j + 1].1) ∧ w'.cell? ⟨wr.heap.size, 1, none⟩ = some (.int .i64 ws[j + 1].2.1) ∧ w'.cell? ⟨wr.heap.size, 2, none⟩ = some (.int .i64 ws[j + 1].2.2) ∧ wr.heap.size < w'.heap.size ∧ Below w.heap.size w w')
            (first | exact hS)
            (first | (go_at_call 119; (refine (ends_any _ _ _ _ _ _ _).mono ?_); rintro en w1 ⟨rfl, B1⟩; replace hS := wk_keep B1 hS))
          all_goals
            go_wp2
            go_ret
            exact ⟨ret_b HF.out.symm, hS.2.2.2.2.2.2.2.2.2⟩
    · obtain rfl : k = ws.length := by omega
      have hF : wiresB n ws = true := by
        rcases HE.out with ⟨-, h⟩ | ⟨h, -⟩
        · exact h
        · omega
      have HF := Lib.hid hF; clear hF
      go_wp2
      go_ret
      exact ⟨ret_b HF.out.symm, by (repeat (first | exact Below.refl _ _ | (refine Below.setCell ?_ (by (first | exact Nat.le_refl _ | omega | (simp <;> omega) | simp)) _) | (refine Below.alloc ?_ (by (first | exact Nat.le_refl _ | omega | (simp <;> omega) | simp)) _) | (refine below_draws ?_ _) | exact hB | (refine Below.trans ?_ (Below.mono hB (by (first | exact Nat.le_refl _ | omega | (simp <;> omega) | simp))))))⟩
end Go.Proofs.Ytaececpphdaciaa
