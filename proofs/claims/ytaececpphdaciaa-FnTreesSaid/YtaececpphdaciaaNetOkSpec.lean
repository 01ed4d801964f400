/-
  NetOk in the model: whether a network is valid.
-/
import Derived.Test.YtaececpphdaciaaGLists
import Derived.BigGuardPart
namespace Go.Proofs.Ytaececpphdaciaa
open Go.RowKit

/-- The box of a network, its wires, and that nothing else is turned. -/
def netS (w w' : World) (n : Int) (v : Value) (ws : List W3) : Prop :=
  w'.cell? ⟨w.heap.size, 0, none⟩ = some (.int .i64 n) ∧ w'.cell? ⟨w.heap.size, 3, none⟩ = some v ∧ ReadsW w' v ws ∧ w.heap.size < w'.heap.size ∧ Below w.heap.size w w'
theorem netS_keep {w w1 w2 : World} {n : Int} {v : Value} {ws : List W3} (hB : Below w1.heap.size w1 w2) (h : w1.cell? ⟨w.heap.size, 0, none⟩ = some (.int .i64 n) ∧ w1.cell? ⟨w.heap.size, 3, none⟩ = some v ∧ ReadsW w1 v ws ∧ w.heap.size < w1.heap.size ∧ Below w.heap.size w w1) :
    w2.cell? ⟨w.heap.size, 0, none⟩ = some (.int .i64 n) ∧ w2.cell? ⟨w.heap.size, 3, none⟩ = some v ∧ ReadsW w2 v ws ∧ w.heap.size < w2.heap.size ∧ Below w.heap.size w w2 := by
  obtain ⟨h1, h2, h3, h4, h5⟩ := h
  have := hB.size
  exact ⟨(hB.cell (p := ⟨w.heap.size, 0, none⟩) h4).trans h1, (hB.cell (p := ⟨w.heap.size, 3, none⟩) h4).trans h2, h3.later hB, by omega, h5.trans (hB.mono (by omega))⟩
theorem netS_drew {w w1 : World} {n : Int} {v : Value} {ws : List W3} (h : w1.cell? ⟨w.heap.size, 0, none⟩ = some (.int .i64 n) ∧ w1.cell? ⟨w.heap.size, 3, none⟩ = some v ∧ ReadsW w1 v ws ∧ w.heap.size < w1.heap.size ∧ Below w.heap.size w w1) :
    w1.drew.cell? ⟨w.heap.size, 0, none⟩ = some (.int .i64 n) ∧ w1.drew.cell? ⟨w.heap.size, 3, none⟩ = some v ∧ ReadsW w1.drew v ws ∧ w.heap.size < w1.drew.heap.size ∧ Below w.heap.size w w1.drew :=
  ⟨h.1, h.2.1, h.2.2.1, h.2.2.2.1, below_draws h.2.2.2.2 1⟩

theorem not_lt_wLt {a b : W3} (h : ¬ wLt a b) : b.1 < a.1 ∨ (a.1 = b.1 ∧ b.2.1 ≤ a.2.1) := by unfold wLt at h; omega

set_option maxRecDepth 4000 in
set_option maxHeartbeats 6400000 in
theorem spec_netOk (n e s : Int) (v : Value) (ws : List W3) (w : World) (hr : ReadsW w v ws) :
    Calls Try.prog 78 #[.agg #[.int .i64 n, .int .i64 e, .int .i64 s, v]] w fun en w' => en = .returned (.bool (netB n e s ws)) ∧ Below w.heap.size w w' := by
  by_cases hN : NumsV n e s
  case neg =>
    have HF := Lib.hid (netB_false (ws := ws) (fun h : NetV n e s ws => hN h.1))
    unfold NumsV at hN
    clear hr
    by_cases h1 : 1 ≤ n ∧ n ≤ 5
    · by_cases h2 : 1 ≤ e ∧ e ≤ n
      · have h3 : ¬ (1 ≤ s ∧ s ≤ 1000) := by omega
        go_enter Try.func78, Try.ntmps78
        go_wp2_with (go_at_call 79; first | (refine (in_yes _ _ _ _ (by omega) (by omega)).mono ?_; rintro en w1 ⟨rfl, rfl⟩) | (refine (in_no _ _ _ _ (by omega)).mono ?_; rintro en w1 ⟨rfl, rfl⟩))
        go_ret
        exact ⟨ret_b HF.out.symm, by (repeat (first | exact Below.refl _ _ | (refine Below.setCell ?_ (by (first | exact Nat.le_refl _ | omega | (simp <;> omega) | simp)) _) | (refine Below.alloc ?_ (by (first | exact Nat.le_refl _ | omega | (simp <;> omega) | simp)) _) | (refine below_draws ?_ _)))⟩
      · clear hN
        go_enter Try.func78, Try.ntmps78
        go_wp2_with (go_at_call 79; first | (refine (in_yes _ _ _ _ (by omega) (by omega)).mono ?_; rintro en w1 ⟨rfl, rfl⟩) | (refine (in_no _ _ _ _ (by omega)).mono ?_; rintro en w1 ⟨rfl, rfl⟩))
        go_ret
        exact ⟨ret_b HF.out.symm, by (repeat (first | exact Below.refl _ _ | (refine Below.setCell ?_ (by (first | exact Nat.le_refl _ | omega | (simp <;> omega) | simp)) _) | (refine Below.alloc ?_ (by (first | exact Nat.le_refl _ | omega | (simp <;> omega) | simp)) _) | (refine below_draws ?_ _)))⟩
    · clear hN
      go_enter Try.func78, Try.ntmps78
      go_wp2_with (go_at_call 79; first | (refine (in_yes _ _ _ _ (by omega) (by omega)).mono ?_; rintro en w1 ⟨rfl, rfl⟩) | (refine (in_no _ _ _ _ (by omega)).mono ?_; rintro en w1 ⟨rfl, rfl⟩))
      go_ret
      exact ⟨ret_b HF.out.symm, by (repeat (first | exact Below.refl _ _ | (refine Below.setCell ?_ (by (first | exact Nat.le_refl _ | omega | (simp <;> omega) | simp)) _) | (refine Below.alloc ?_ (by (first | exact Nat.le_refl _ | omega | (simp <;> omega) | simp)) _) | (refine below_draws ?_ _)))⟩
  obtain ⟨n1, n5, e1, en, s1, s2⟩ := id hN
  have HN := Lib.hid hN; clear hN
  have hend : ∃ K, K ≤ ws.length ∧ (∀ j, (h : j < ws.length) → j < K → wireV n ws[j] ∧ (0 < j → wLt (ws[j - 1]'(by omega)) ws[j])) ∧ ((K = ws.length ∧ WiresV n ws) ∨ ∃ h : K < ws.length, (¬ wireV n ws[K] ∨ (wireV n ws[K] ∧ 0 < K ∧ ¬ wLt (ws[K - 1]'(by omega)) ws[K])) ∧ netB n e s ws = false) := by
    rcases first_bad n ws with hW | ⟨k, hk, hb, hg⟩
    · refine ⟨ws.length, Nat.le_refl _, fun j h _ => ⟨hW.1 j h, fun h0 => ?_⟩, .inl ⟨rfl, hW⟩⟩
      obtain ⟨i, rfl⟩ : ∃ i, j = i + 1 := ⟨j - 1, by omega⟩
      exact hW.2 i h
    · exact ⟨k, by omega, fun j h hj => hg j hj, .inr ⟨hk, hb, netB_false fun h => bad_not hk hb h.2.1⟩⟩
  obtain ⟨K, hKl, hgood, hend⟩ := hend
  obtain ⟨hm, hr1⟩ := id hr
  rcases hr1 with ⟨hx, p, cap, rfl⟩ | ⟨g, o, cap, rfl, hc⟩
  · subst hx
    rcases hend with ⟨-, hW⟩ | ⟨h, _⟩
    · have HWV := Lib.hid hW
      clear hgood hW
      have hS : (w.alloc (.cells #[.int .i64 n, .int .i64 e, .int .i64 s, .slice p 0 cap] 25)).cell? ⟨w.heap.size, 0, none⟩ = some (.int .i64 n) ∧ (w.alloc (.cells #[.int .i64 n, .int .i64 e, .int .i64 s, .slice p 0 cap] 25)).cell? ⟨w.heap.size, 3, none⟩ = some (.slice p 0 cap) ∧ ReadsW (w.alloc (.cells #[.int .i64 n, .int .i64 e, .int .i64 s, .slice p 0 cap] 25)) (.slice p 0 cap) [] ∧ w.heap.size < (w.alloc (.cells #[.int .i64 n, .int .i64 e, .int .i64 s, .slice p 0 cap] 25)).heap.size ∧ Below w.heap.size w (w.alloc (.cells #[.int .i64 n, .int .i64 e, .int .i64 s, .slice p 0 cap] 25)) := ⟨by simp, by simp, hr.later (by (repeat (first | exact Below.refl _ _ | (refine Below.setCell ?_ (by (first | exact Nat.le_refl _ | omega | (simp <;> omega) | simp)) _) | (refine Below.alloc ?_ (by (first | exact Nat.le_refl _ | omega | (simp <;> omega) | simp)) _) | (refine below_draws ?_ _)))), by simp, by (repeat (first | exact Below.refl _ _ | (refine Below.setCell ?_ (by (first | exact Nat.le_refl _ | omega | (simp <;> omega) | simp)) _) | (refine Below.alloc ?_ (by (first | exact Nat.le_refl _ | omega | (simp <;> omega) | simp)) _) | (refine below_draws ?_ _)))⟩
      clear hr
      go_enter Try.func78, Try.ntmps78
      go_wp2_with (go_at_call 79; first | (refine (in_yes _ _ _ _ (by omega) (by omega)).mono ?_; rintro en w1 ⟨rfl, rfl⟩) | (refine (in_no _ _ _ _ (by omega)).mono ?_; rintro en w1 ⟨rfl, rfl⟩))
      refine wp_loop_rounds 1 ?_
      rw [rounds_succ]
      go_wp2
      replace hS := netS_drew hS
      go_region_held3 (fun w' => w'.cell? ⟨w.heap.size, 0, none⟩ = some (.int .i64 n) ∧ w'.cell? ⟨w.heap.size, 3, none⟩ = some (.slice p 0 cap) ∧ ReadsW w' (.slice p 0 cap) [] ∧ w.heap.size < w'.heap.size ∧ Below w.heap.size w w')
        (first | exact hS)
        (first | (go_at_call 110; (refine (reach_any n.toNat _ [] _ hS.2.2.1 (by rw [show ((n.toNat : Nat) : Int) = n by omega]; exact HWV.out) (by omega) (by omega)).mono ?_); rintro en w6 ⟨v7, q, rfl, o6, hq, hiff, B6⟩; obtain ⟨p7, cap7, rfl⟩ := owns_shape o6; replace hS := netS_keep B6 hS))
      all_goals
        go_wp2
        go_ret
        exact ⟨ret_b (by rw [eq_comm, Bool.eq_iff_iff, netB_iff, beq_iff_eq, show ((n.toNat : Nat) : Int) = n by omega] at *; exact ⟨fun h => by have := h.2.2; rw [← hiff] at this; omega, fun h => ⟨HN.out, HWV.out, hiff.1 (by omega)⟩⟩), hS.2.2.2.2⟩
    · simp at h
  have HC := Lib.hid hc; clear hc
  have HG := Lib.hid hgood; clear hgood
  have HE := Lib.hid hend; clear hend
  have hr0 := hr.later (w' := w.alloc (.cells #[.int .i64 n, .int .i64 e, .int .i64 s, .slice (some ⟨g, o, none⟩) ws.length cap] 25)) (by (repeat (first | exact Below.refl _ _ | (refine Below.setCell ?_ (by (first | exact Nat.le_refl _ | omega | (simp <;> omega) | simp)) _) | (refine Below.alloc ?_ (by (first | exact Nat.le_refl _ | omega | (simp <;> omega) | simp)) _) | (refine below_draws ?_ _))))
  have HR := Lib.hid hr0; clear hr0 hr
  go_enter Try.func78, Try.ntmps78
  go_wp2_with (go_at_call 79; first | (refine (in_yes _ _ _ _ (by omega) (by omega)).mono ?_; rintro en w1 ⟨rfl, rfl⟩) | (refine (in_no _ _ _ _ (by omega)).mono ?_; rintro en w1 ⟨rfl, rfl⟩))
  go_loopw [26] (fun i wr => ∃ (k : Nat), k ≤ K ∧ i = .int .i64 k ∧ wr.cell? ⟨w.heap.size, 0, none⟩ = some (.int .i64 n) ∧ wr.cell? ⟨w.heap.size, 3, none⟩ = some (.slice (some ⟨g, o, none⟩) ws.length cap) ∧ ReadsW wr (.slice (some ⟨g, o, none⟩) ws.length cap) ws ∧ w.heap.size < wr.heap.size ∧ Below w.heap.size w wr) (fun i _ => ws.length - (intOf i).toNat)
  case atStart => exact ⟨0, Nat.zero_le _, rfl, by simp, by simp, HR.out, by simp, by (repeat (first | exact Below.refl _ _ | (refine Below.setCell ?_ (by (first | exact Nat.le_refl _ | omega | (simp <;> omega) | simp)) _) | (refine Below.alloc ?_ (by (first | exact Nat.le_refl _ | omega | (simp <;> omega) | simp)) _) | (refine below_draws ?_ _)))⟩
  case round =>
    clear HR
    obtain ⟨k, hk, rfl, hS⟩ := hrel
    obtain ⟨b0, b3, hrd, hsz, hB⟩ := id hS
    by_cases hlt : k < ws.length
    · obtain ⟨c0, c1, c2⟩ := HC.out k hlt
      have hg : g < w.heap.size := World.block_lt_of_cell? w _ c0
      rw [← hB.cell (p := ⟨g, o + k * 3, none⟩) hg] at c0
      rw [← hB.cell (p := ⟨g, o + k * 3 + 1, none⟩) hg] at c1
      rw [← hB.cell (p := ⟨g, o + k * 3 + 2, none⟩) hg] at c2
      have hgr : g ≠ wr.heap.size := by omega
      have hwr : w.heap.size ≠ wr.heap.size := by omega
      have HR0 := Lib.hid hrd
      clear hS hrd
      by_cases hkK : k < K
      · obtain ⟨⟨v0, v1, v2, v3, v4⟩, hl⟩ := HG.out k hlt hkK
        have HV := Lib.hid (show wireV n ws[k] from ⟨v0, v1, v2, v3, v4⟩)
        rcases k with _ | j
        · clear hl
          simp only [Nat.zero_mul, Nat.add_zero] at c0 c1 c2
          go_wp2_with (go_at_call 79; first | (refine (in_yes _ _ _ _ (by omega) (by omega)).mono ?_; rintro en w1 ⟨rfl, rfl⟩) | (refine (in_no _ _ _ _ (by omega)).mono ?_; rintro en w1 ⟨rfl, rfl⟩))
          go_quiet (fail)
          go_wp2
          go_roundw
          case rel => exact ⟨0 + 1, by omega, by go_num, by first | assumption | simp [go_sem, *], by first | assumption | simp [go_sem, *], HR0.out.later (by (repeat (first | exact Below.refl _ _ | (refine Below.setCell ?_ (by (first | exact Nat.le_refl _ | omega | (simp <;> omega) | simp)) _) | (refine Below.alloc ?_ (by (first | exact Nat.le_refl _ | omega | (simp <;> omega) | simp)) _) | (refine below_draws ?_ _) | exact hB | (refine Below.trans ?_ (Below.mono hB (by (first | exact Nat.le_refl _ | omega | (simp <;> omega) | simp))))))), by simp; omega, by (repeat (first | exact Below.refl _ _ | (refine Below.setCell ?_ (by (first | exact Nat.le_refl _ | omega | (simp <;> omega) | simp)) _) | (refine Below.alloc ?_ (by (first | exact Nat.le_refl _ | omega | (simp <;> omega) | simp)) _) | (refine below_draws ?_ _) | exact hB | (refine Below.trans ?_ (Below.mono hB (by (first | exact Nat.le_refl _ | omega | (simp <;> omega) | simp))))))⟩
          case measure => simp [intOf]; omega
        · have hl := hl (by omega)
          simp only [Nat.add_sub_cancel] at hl
          obtain ⟨p0, p1, p2⟩ := HC.out j (by omega)
          rw [← hB.cell (p := ⟨g, o + j * 3, none⟩) hg] at p0
          rw [← hB.cell (p := ⟨g, o + j * 3 + 1, none⟩) hg] at p1
          have p0' := (World.cell?_alloc_old wr (.cells #[.int .i64 ws[j + 1].1, .int .i64 ws[j + 1].2.1, .int .i64 ws[j + 1].2.2] 29) ⟨g, o + j * 3, none⟩ hgr).trans p0
          have p1' := (World.cell?_alloc_old wr (.cells #[.int .i64 ws[j + 1].1, .int .i64 ws[j + 1].2.1, .int .i64 ws[j + 1].2.2] 29) ⟨g, o + j * 3 + 1, none⟩ hgr).trans p1
          have b3' := (World.cell?_alloc_old wr (.cells #[.int .i64 ws[j + 1].1, .int .i64 ws[j + 1].2.1, .int .i64 ws[j + 1].2.2] 29) ⟨w.heap.size, 3, none⟩ hwr).trans b3
          clear p0 p1 p2
          rcases hl with hl | ⟨hl, hl2⟩
          · have h1 : decide (ws[j + 1].1 < ws[j].1) = false := by simp; omega
            have h2 : (ws[j + 1].1 == ws[j].1) = false := by simp; omega
            clear hl
            go_wp2_with (go_at_call 79; first | (refine (in_yes _ _ _ _ (by omega) (by omega)).mono ?_; rintro en w1 ⟨rfl, rfl⟩) | (refine (in_no _ _ _ _ (by omega)).mono ?_; rintro en w1 ⟨rfl, rfl⟩))
            go_quiet (fail)
            go_wp2
            go_roundw
            case rel => exact ⟨j + 1 + 1, by omega, by go_num, by first | assumption | simp [go_sem, *], by first | assumption | simp [go_sem, *], HR0.out.later (by (repeat (first | exact Below.refl _ _ | (refine Below.setCell ?_ (by (first | exact Nat.le_refl _ | omega | (simp <;> omega) | simp)) _) | (refine Below.alloc ?_ (by (first | exact Nat.le_refl _ | omega | (simp <;> omega) | simp)) _) | (refine below_draws ?_ _) | exact hB | (refine Below.trans ?_ (Below.mono hB (by (first | exact Nat.le_refl _ | omega | (simp <;> omega) | simp))))))), by simp; omega, by (repeat (first | exact Below.refl _ _ | (refine Below.setCell ?_ (by (first | exact Nat.le_refl _ | omega | (simp <;> omega) | simp)) _) | (refine Below.alloc ?_ (by (first | exact Nat.le_refl _ | omega | (simp <;> omega) | simp)) _) | (refine below_draws ?_ _) | exact hB | (refine Below.trans ?_ (Below.mono hB (by (first | exact Nat.le_refl _ | omega | (simp <;> omega) | simp))))))⟩
            case measure => simp [intOf]; omega
          · have h1 : decide (ws[j + 1].1 < ws[j].1) = false := by simp; omega
            have h2 : (ws[j + 1].1 == ws[j].1) = true := by simp; omega
            have h3 : decide (ws[j + 1].2.1 ≤ ws[j].2.1) = false := by simp; omega
            clear hl hl2
            go_wp2_with (go_at_call 79; first | (refine (in_yes _ _ _ _ (by omega) (by omega)).mono ?_; rintro en w1 ⟨rfl, rfl⟩) | (refine (in_no _ _ _ _ (by omega)).mono ?_; rintro en w1 ⟨rfl, rfl⟩))
            go_quiet (fail)
            go_wp2
            go_roundw
            case rel => exact ⟨j + 1 + 1, by omega, by go_num, by first | assumption | simp [go_sem, *], by first | assumption | simp [go_sem, *], HR0.out.later (by (repeat (first | exact Below.refl _ _ | (refine Below.setCell ?_ (by (first | exact Nat.le_refl _ | omega | (simp <;> omega) | simp)) _) | (refine Below.alloc ?_ (by (first | exact Nat.le_refl _ | omega | (simp <;> omega) | simp)) _) | (refine below_draws ?_ _) | exact hB | (refine Below.trans ?_ (Below.mono hB (by (first | exact Nat.le_refl _ | omega | (simp <;> omega) | simp))))))), by simp; omega, by (repeat (first | exact Below.refl _ _ | (refine Below.setCell ?_ (by (first | exact Nat.le_refl _ | omega | (simp <;> omega) | simp)) _) | (refine Below.alloc ?_ (by (first | exact Nat.le_refl _ | omega | (simp <;> omega) | simp)) _) | (refine below_draws ?_ _) | exact hB | (refine Below.trans ?_ (Below.mono hB (by (first | exact Nat.le_refl _ | omega | (simp <;> omega) | simp))))))⟩
            case measure => simp [intOf]; omega
      · obtain rfl : k = K := by omega
        rcases HE.out with ⟨h, -⟩ | ⟨_, hbad, hF⟩
        · omega
        have HF := Lib.hid hF; clear hF
        rcases hbad with hbad | ⟨⟨v0, v1, v2, v3, v4⟩, h0, hl⟩
        · unfold wireV at hbad
          by_cases h1 : 0 ≤ ws[k].1 ∧ ws[k].1 ≤ n - 1
          · by_cases h2 : ws[k].1 + 1 ≤ ws[k].2.1 ∧ ws[k].2.1 ≤ n - 1
            · have h3 : ¬ (1 ≤ ws[k].2.2 ∧ ws[k].2.2 ≤ 200) := by omega
              clear hbad
              go_wp2_with (go_at_call 79; first | (refine (in_yes _ _ _ _ (by omega) (by omega)).mono ?_; rintro en w1 ⟨rfl, rfl⟩) | (refine (in_no _ _ _ _ (by omega)).mono ?_; rintro en w1 ⟨rfl, rfl⟩))
              go_ret
              exact ⟨ret_b HF.out.symm, by (repeat (first | exact Below.refl _ _ | (refine Below.setCell ?_ (by (first | exact Nat.le_refl _ | omega | (simp <;> omega) | simp)) _) | (refine Below.alloc ?_ (by (first | exact Nat.le_refl _ | omega | (simp <;> omega) | simp)) _) | (refine below_draws ?_ _) | exact hB | (refine Below.trans ?_ (Below.mono hB (by (first | exact Nat.le_refl _ | omega | (simp <;> omega) | simp))))))⟩
            · clear hbad
              go_wp2_with (go_at_call 79; first | (refine (in_yes _ _ _ _ (by omega) (by omega)).mono ?_; rintro en w1 ⟨rfl, rfl⟩) | (refine (in_no _ _ _ _ (by omega)).mono ?_; rintro en w1 ⟨rfl, rfl⟩))
              go_ret
              exact ⟨ret_b HF.out.symm, by (repeat (first | exact Below.refl _ _ | (refine Below.setCell ?_ (by (first | exact Nat.le_refl _ | omega | (simp <;> omega) | simp)) _) | (refine Below.alloc ?_ (by (first | exact Nat.le_refl _ | omega | (simp <;> omega) | simp)) _) | (refine below_draws ?_ _) | exact hB | (refine Below.trans ?_ (Below.mono hB (by (first | exact Nat.le_refl _ | omega | (simp <;> omega) | simp))))))⟩
          · clear hbad
            go_wp2_with (go_at_call 79; first | (refine (in_yes _ _ _ _ (by omega) (by omega)).mono ?_; rintro en w1 ⟨rfl, rfl⟩) | (refine (in_no _ _ _ _ (by omega)).mono ?_; rintro en w1 ⟨rfl, rfl⟩))
            go_ret
            exact ⟨ret_b HF.out.symm, by (repeat (first | exact Below.refl _ _ | (refine Below.setCell ?_ (by (first | exact Nat.le_refl _ | omega | (simp <;> omega) | simp)) _) | (refine Below.alloc ?_ (by (first | exact Nat.le_refl _ | omega | (simp <;> omega) | simp)) _) | (refine below_draws ?_ _) | exact hB | (refine Below.trans ?_ (Below.mono hB (by (first | exact Nat.le_refl _ | omega | (simp <;> omega) | simp))))))⟩
        · obtain ⟨j, rfl⟩ : ∃ j, k = j + 1 := ⟨k - 1, by omega⟩
          simp only [Nat.add_sub_cancel] at hl
          obtain ⟨p0, p1, p2⟩ := HC.out j (by omega)
          rw [← hB.cell (p := ⟨g, o + j * 3, none⟩) hg] at p0
          rw [← hB.cell (p := ⟨g, o + j * 3 + 1, none⟩) hg] at p1
          have p0' := (World.cell?_alloc_old wr (.cells #[.int .i64 ws[j + 1].1, .int .i64 ws[j + 1].2.1, .int .i64 ws[j + 1].2.2] 29) ⟨g, o + j * 3, none⟩ hgr).trans p0
          have p1' := (World.cell?_alloc_old wr (.cells #[.int .i64 ws[j + 1].1, .int .i64 ws[j + 1].2.1, .int .i64 ws[j + 1].2.2] 29) ⟨g, o + j * 3 + 1, none⟩ hgr).trans p1
          have b3' := (World.cell?_alloc_old wr (.cells #[.int .i64 ws[j + 1].1, .int .i64 ws[j + 1].2.1, .int .i64 ws[j + 1].2.2] 29) ⟨w.heap.size, 3, none⟩ hwr).trans b3
          clear p0 p1 p2
          rcases not_lt_wLt hl with h1 | ⟨h1, h2⟩
          · have h1 : decide (ws[j + 1].1 < ws[j].1) = true := by simp; omega
            clear hl
            go_wp2_with (go_at_call 79; first | (refine (in_yes _ _ _ _ (by omega) (by omega)).mono ?_; rintro en w1 ⟨rfl, rfl⟩) | (refine (in_no _ _ _ _ (by omega)).mono ?_; rintro en w1 ⟨rfl, rfl⟩))
            go_quiet (fail)
            go_wp2
            go_ret
            exact ⟨ret_b HF.out.symm, by (repeat (first | exact Below.refl _ _ | (refine Below.setCell ?_ (by (first | exact Nat.le_refl _ | omega | (simp <;> omega) | simp)) _) | (refine Below.alloc ?_ (by (first | exact Nat.le_refl _ | omega | (simp <;> omega) | simp)) _) | (refine below_draws ?_ _) | exact hB | (refine Below.trans ?_ (Below.mono hB (by (first | exact Nat.le_refl _ | omega | (simp <;> omega) | simp))))))⟩
          · have h3 : decide (ws[j + 1].1 < ws[j].1) = false := by simp; omega
            have h4 : (ws[j + 1].1 == ws[j].1) = true := by simp; omega
            have h5 : decide (ws[j + 1].2.1 ≤ ws[j].2.1) = true := by simp; omega
            clear hl h1 h2
            go_wp2_with (go_at_call 79; first | (refine (in_yes _ _ _ _ (by omega) (by omega)).mono ?_; rintro en w1 ⟨rfl, rfl⟩) | (refine (in_no _ _ _ _ (by omega)).mono ?_; rintro en w1 ⟨rfl, rfl⟩))
            go_quiet (fail)
            go_wp2
            go_ret
            exact ⟨ret_b HF.out.symm, by (repeat (first | exact Below.refl _ _ | (refine Below.setCell ?_ (by (first | exact Nat.le_refl _ | omega | (simp <;> omega) | simp)) _) | (refine Below.alloc ?_ (by (first | exact Nat.le_refl _ | omega | (simp <;> omega) | simp)) _) | (refine below_draws ?_ _) | exact hB | (refine Below.trans ?_ (Below.mono hB (by (first | exact Nat.le_refl _ | omega | (simp <;> omega) | simp))))))⟩
    · obtain rfl : k = ws.length := by omega
      have hWV : WiresV n ws := by
        rcases HE.out with ⟨-, h⟩ | ⟨h, -⟩
        · exact h
        · omega
      have HWV := Lib.hid hWV; clear hWV
      clear b0 b3 hrd hB
      go_wp2
      replace hS := netS_drew hS
      go_region_held3 (fun w' => w'.cell? ⟨w.heap.size, 0, none⟩ = some (.int .i64 n) ∧ w'.cell? ⟨w.heap.size, 3, none⟩ = some (.slice (some ⟨g, o, none⟩) ws.length cap) ∧ ReadsW w' (.slice (some ⟨g, o, none⟩) ws.length cap) ws ∧ w.heap.size < w'.heap.size ∧ Below w.heap.size w w')
        (first | exact hS)
        (first | (go_at_call 110; (refine (reach_any n.toNat _ ws _ hS.2.2.1 (by rw [show ((n.toNat : Nat) : Int) = n by omega]; exact HWV.out) (by omega) (by omega)).mono ?_); rintro en w6 ⟨v7, q, rfl, o6, hq, hiff, B6⟩; obtain ⟨p7, cap7, rfl⟩ := owns_shape o6; replace hS := netS_keep B6 hS))
      all_goals
        go_wp2
        go_ret
        exact ⟨ret_b (by rw [eq_comm, Bool.eq_iff_iff, netB_iff, beq_iff_eq, show ((n.toNat : Nat) : Int) = n by omega] at *; exact ⟨fun h => by have := h.2.2; rw [← hiff] at this; omega, fun h => ⟨HN.out, HWV.out, hiff.1 (by omega)⟩⟩), hS.2.2.2.2⟩
end Go.Proofs.Ytaececpphdaciaa
