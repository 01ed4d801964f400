/-
  CrossSum in the model.
-/
import Derived.Test.YtpkddaapffamiaaGKir
namespace Go.Proofs.Ytpkddaapffamiaa
open Go.RowKit

set_option maxHeartbeats 6400000 in
theorem spec_cross (n e s : Int) (a b c d : Int) (v : Value) (ws : List W3) (w : World) (hr : ReadsW w v ws) :
    Calls Try.prog 34 #[.agg #[.int .i64 n, .int .i64 e, .int .i64 s, v], .int .i64 a, .int .i64 b, .int .i64 c, .int .i64 d] w fun en w' => en = .returned (.tuple #[.int .i64 (crossR n e s ws a b c d).1, .bool (crossR n e s ws a b c d).2]) ∧ Below w.heap.size w w' := by
  have B0 := (Below.refl w.heap.size w).alloc (Nat.le_refl _) (.cells #[.int .i64 n, .int .i64 e, .int .i64 s, v] 25)
  have hbox := boxN.new w n e s v 25
  have hr0 := hr.later B0
  have hok := spec_netOk n e s v ws _ hr0
  obtain ⟨p, cap, rfl⟩ := hr.shape
  cases hb : netB n e s ws
  · rw [hb] at hok
    have HF : Hid (crossR n e s ws a b c d = (0, false)) := Lib.hid (by unfold crossR; rw [if_neg (by simp [hb])])
    clear hbox
    go_enter Try.func34, Try.ntmps34
    go_wp2_with fail
    refine hok.mono ?_
    rintro en w1 ⟨rfl, B1⟩
    go_wp2
    go_ret2
    exact ⟨ret_ib (by rw [HF.out]), by (repeat (first | exact Below.refl _ _ | (refine Below.setCell ?_ (by (first | exact Nat.le_refl _ | omega | (simp <;> omega) | simp)) _) | (refine Below.alloc ?_ (by (first | exact Nat.le_refl _ | omega | (simp <;> omega) | simp)) _) | (refine below_draws ?_ _) | exact B1 | (refine Below.trans ?_ (Below.mono B1 (by (first | exact Nat.le_refl _ | omega | (simp <;> omega) | simp))))))⟩
  rw [hb] at hok
  obtain ⟨N, rfl, hN1, hN5, hw⟩ := net_small hb
  by_cases g0 : 0 ≤ a ∧ a ≤ (N : Int) - 1
  case neg =>
    have HF : Hid (crossR N e s ws a b c d = (0, false)) := Lib.hid (by unfold crossR; rw [if_neg (by omega)])
    clear hb hr0 hr
    go_enter Try.func34, Try.ntmps34
    go_wp2_with fail
    refine hok.mono ?_
    rintro en w1 ⟨rfl, B1⟩
    obtain ⟨b0, b1, b2, b3⟩ := hbox.later B1
    have S1 := B1.size
    simp at S1
    go_wp2_with fail
    refine (in_no' a (0) ((N : Int) - 1) _ _ (by omega) (by omega) g0 _).mono ?_
    rintro en w2 ⟨rfl, rfl⟩
    go_wp2
    go_ret2
    exact ⟨ret_ib (by rw [HF.out]), by (repeat (first | exact Below.refl _ _ | (refine Below.setCell ?_ (by (first | exact Nat.le_refl _ | omega | (simp <;> omega) | simp)) _) | (refine Below.alloc ?_ (by (first | exact Nat.le_refl _ | omega | (simp <;> omega) | simp)) _) | (refine below_draws ?_ _) | exact B1 | (refine Below.trans ?_ (Below.mono B1 (by (first | exact Nat.le_refl _ | omega | (simp <;> omega) | simp))))))⟩
  by_cases g1 : a + 1 ≤ b ∧ b ≤ (N : Int) - 1
  case neg =>
    have HF : Hid (crossR N e s ws a b c d = (0, false)) := Lib.hid (by unfold crossR; rw [if_neg (by omega)])
    clear hb hr0 hr
    go_enter Try.func34, Try.ntmps34
    go_wp2_with fail
    refine hok.mono ?_
    rintro en w1 ⟨rfl, B1⟩
    obtain ⟨b0, b1, b2, b3⟩ := hbox.later B1
    have S1 := B1.size
    simp at S1
    go_wp2_with fail
    refine (in_yes' a (0) ((N : Int) - 1) _ _ (by omega) (by omega) g0.1 g0.2 _).mono ?_
    rintro en w2 ⟨rfl, rfl⟩
    go_wp2_with fail
    refine (in_no' b (a + 1) ((N : Int) - 1) _ _ (by omega) (by omega) g1 _).mono ?_
    rintro en w2 ⟨rfl, rfl⟩
    go_wp2
    go_ret2
    exact ⟨ret_ib (by rw [HF.out]), by (repeat (first | exact Below.refl _ _ | (refine Below.setCell ?_ (by (first | exact Nat.le_refl _ | omega | (simp <;> omega) | simp)) _) | (refine Below.alloc ?_ (by (first | exact Nat.le_refl _ | omega | (simp <;> omega) | simp)) _) | (refine below_draws ?_ _) | exact B1 | (refine Below.trans ?_ (Below.mono B1 (by (first | exact Nat.le_refl _ | omega | (simp <;> omega) | simp))))))⟩
  by_cases g2 : 0 ≤ c ∧ c ≤ (N : Int) - 1
  case neg =>
    have HF : Hid (crossR N e s ws a b c d = (0, false)) := Lib.hid (by unfold crossR; rw [if_neg (by omega)])
    clear hb hr0 hr
    go_enter Try.func34, Try.ntmps34
    go_wp2_with fail
    refine hok.mono ?_
    rintro en w1 ⟨rfl, B1⟩
    obtain ⟨b0, b1, b2, b3⟩ := hbox.later B1
    have S1 := B1.size
    simp at S1
    go_wp2_with fail
    refine (in_yes' a (0) ((N : Int) - 1) _ _ (by omega) (by omega) g0.1 g0.2 _).mono ?_
    rintro en w2 ⟨rfl, rfl⟩
    go_wp2_with fail
    refine (in_yes' b (a + 1) ((N : Int) - 1) _ _ (by omega) (by omega) g1.1 g1.2 _).mono ?_
    rintro en w2 ⟨rfl, rfl⟩
    go_wp2_with fail
    refine (in_no' c (0) ((N : Int) - 1) _ _ (by omega) (by omega) g2 _).mono ?_
    rintro en w2 ⟨rfl, rfl⟩
    go_wp2
    go_ret2
    exact ⟨ret_ib (by rw [HF.out]), by (repeat (first | exact Below.refl _ _ | (refine Below.setCell ?_ (by (first | exact Nat.le_refl _ | omega | (simp <;> omega) | simp)) _) | (refine Below.alloc ?_ (by (first | exact Nat.le_refl _ | omega | (simp <;> omega) | simp)) _) | (refine below_draws ?_ _) | exact B1 | (refine Below.trans ?_ (Below.mono B1 (by (first | exact Nat.le_refl _ | omega | (simp <;> omega) | simp))))))⟩
  by_cases g3 : c + 1 ≤ d ∧ d ≤ (N : Int) - 1
  case neg =>
    have HF : Hid (crossR N e s ws a b c d = (0, false)) := Lib.hid (by unfold crossR; rw [if_neg (by omega)])
    clear hb hr0 hr
    go_enter Try.func34, Try.ntmps34
    go_wp2_with fail
    refine hok.mono ?_
    rintro en w1 ⟨rfl, B1⟩
    obtain ⟨b0, b1, b2, b3⟩ := hbox.later B1
    have S1 := B1.size
    simp at S1
    go_wp2_with fail
    refine (in_yes' a (0) ((N : Int) - 1) _ _ (by omega) (by omega) g0.1 g0.2 _).mono ?_
    rintro en w2 ⟨rfl, rfl⟩
    go_wp2_with fail
    refine (in_yes' b (a + 1) ((N : Int) - 1) _ _ (by omega) (by omega) g1.1 g1.2 _).mono ?_
    rintro en w2 ⟨rfl, rfl⟩
    go_wp2_with fail
    refine (in_yes' c (0) ((N : Int) - 1) _ _ (by omega) (by omega) g2.1 g2.2 _).mono ?_
    rintro en w2 ⟨rfl, rfl⟩
    go_wp2_with fail
    refine (in_no' d (c + 1) ((N : Int) - 1) _ _ (by omega) (by omega) g3 _).mono ?_
    rintro en w2 ⟨rfl, rfl⟩
    go_wp2
    go_ret2
    exact ⟨ret_ib (by rw [HF.out]), by (repeat (first | exact Below.refl _ _ | (refine Below.setCell ?_ (by (first | exact Nat.le_refl _ | omega | (simp <;> omega) | simp)) _) | (refine Below.alloc ?_ (by (first | exact Nat.le_refl _ | omega | (simp <;> omega) | simp)) _) | (refine below_draws ?_ _) | exact B1 | (refine Below.trans ?_ (Below.mono B1 (by (first | exact Nat.le_refl _ | omega | (simp <;> omega) | simp))))))⟩
  have HF : Hid (crossR N e s ws a b c d = (detD (lapM N ws) (woL N [a, b]) (woL N [c, d]), true)) := Lib.hid (by unfold crossR; rw [if_pos (by first | exact hb | (refine ⟨hb, ?_⟩; omega)), Int.toNat_natCast])
  have hl : (woL N [a, b]).length = (woL N [c, d]).length := by rw [woL_two (by omega) (by omega) (by omega), woL_two (by omega) (by omega) (by omega)]
  have hcall := fun (w' : World) (vr vc : Value) (h1 : Below w.heap.size w w') (h2 : ReadsI w' vr [a, b]) (h3 : ReadsI w' vc [c, d]) => spec_l04Minor N e s _ vr vc ws [a, b] [c, d] w' hb (hr.later h1) h2 h3 hl
  have HC := Lib.hid hcall; clear hcall
  clear hr0 hr hw hb hl
  go_enter Try.func34, Try.ntmps34
  go_wp2_with fail
  refine hok.mono ?_
  rintro en w1 ⟨rfl, B1⟩
  obtain ⟨b0, b1, b2, b3⟩ := hbox.later B1
  have S1 := B1.size
  simp at S1
  go_wp2_with fail
  refine (in_yes' a (0) ((N : Int) - 1) _ _ (by omega) (by omega) g0.1 g0.2 _).mono ?_
  rintro en w2 ⟨rfl, rfl⟩
  go_wp2_with fail
  refine (in_yes' b (a + 1) ((N : Int) - 1) _ _ (by omega) (by omega) g1.1 g1.2 _).mono ?_
  rintro en w2 ⟨rfl, rfl⟩
  go_wp2_with fail
  refine (in_yes' c (0) ((N : Int) - 1) _ _ (by omega) (by omega) g2.1 g2.2 _).mono ?_
  rintro en w2 ⟨rfl, rfl⟩
  go_wp2_with fail
  refine (in_yes' d (c + 1) ((N : Int) - 1) _ _ (by omega) (by omega) g3.1 g3.2 _).mono ?_
  rintro en w2 ⟨rfl, rfl⟩
  go_wp2_with fail
  with_reducible refine Calls.mono (HC.out _ _ _ ?h1 ?h2 ?h3) ?h4
  case h1 => (repeat (first | exact Below.refl _ _ | (refine Below.setCell ?_ (by (first | exact Nat.le_refl _ | omega | (simp <;> omega) | simp)) _) | (refine Below.alloc ?_ (by (first | exact Nat.le_refl _ | omega | (simp <;> omega) | simp)) _) | (refine below_draws ?_ _) | exact B1 | (refine Below.trans ?_ (Below.mono B1 (by (first | exact Nat.le_refl _ | omega | (simp <;> omega) | simp))))))
  case h2 => exact ReadsI.later (readsI_new2' _ _ _ _ _ rfl) (by (repeat (first | exact Below.refl _ _ | (refine Below.setCell ?_ (by (first | exact Nat.le_refl _ | omega | (simp <;> omega) | simp)) _) | (refine Below.alloc ?_ (by (first | exact Nat.le_refl _ | omega | (simp <;> omega) | simp)) _) | (refine below_draws ?_ _))))
  case h3 => exact readsI_new2' _ _ _ _ _ (by simp)
  rintro en w3 ⟨rfl, B3⟩
  have S3 := B3.size
  simp at S3
  go_wp2
  go_ret2
  exact ⟨ret_ib (by rw [HF.out]), by (repeat (first | exact Below.refl _ _ | (refine Below.setCell ?_ (by (first | exact Nat.le_refl _ | omega | (simp <;> omega) | simp)) _) | (refine Below.alloc ?_ (by (first | exact Nat.le_refl _ | omega | (simp <;> omega) | simp)) _) | (refine below_draws ?_ _) | exact B1 | (refine Below.trans ?_ (Below.mono B1 (by (first | exact Nat.le_refl _ | omega | (simp <;> omega) | simp)))) | exact B3 | (refine Below.trans ?_ (Below.mono B3 (by (first | exact Nat.le_refl _ | omega | (simp <;> omega) | simp))))))⟩
end Go.Proofs.Ytpkddaapffamiaa
