/-
  CrossSum, ForestSum and TreeSum in the program.
  TreeSum and ForestSum in the model.
-/
import Derived.Test.YtaececpphdaciaaGKir
import Derived.Test.YtaececpphdaciaaAscPair
namespace Go.Proofs.Ytaececpphdaciaa
open Go.RowKit

set_option maxHeartbeats 6400000 in
theorem impl_tree (n e s : Int) (v : Value) (ws : List W3) (w : World) (hr : ReadsW w v ws) :
    Calls Try.prog 18 #[.agg #[.int .i64 n, .int .i64 e, .int .i64 s, v]] w fun en w' => en = .returned (.int .i64 (treeR n e s ws)) ∧ Below w.heap.size w w' := by
  have B0 := (Below.refl w.heap.size w).alloc (Nat.le_refl _) (.cells #[.int .i64 n, .int .i64 e, .int .i64 s, v] 25)
  have hbox := boxN.new w n e s v 25
  have hr0 := hr.later B0
  have hok := impl_netOk n e s v ws _ hr0
  obtain ⟨p, cap, rfl⟩ := hr.shape
  cases hb : netB n e s ws
  · rw [hb] at hok
    have HF : Hid (treeR n e s ws = 0) := Lib.hid (by unfold treeR; rw [if_neg (by simp [hb])])
    clear hbox
    go_enter Try.func18, Try.ntmps18
    go_wp2_with fail
    refine hok.mono ?_
    rintro en w1 ⟨rfl, B1⟩
    go_wp2
    go_ret
    exact ⟨ret_i (by rw [HF.out]), by (repeat (first | exact Below.refl _ _ | (refine Below.setCell ?_ (by (first | exact Nat.le_refl _ | omega | (simp <;> omega) | simp)) _) | (refine Below.alloc ?_ (by (first | exact Nat.le_refl _ | omega | (simp <;> omega) | simp)) _) | (refine below_draws ?_ _) | exact B1 | (refine Below.trans ?_ (Below.mono B1 (by (first | exact Nat.le_refl _ | omega | (simp <;> omega) | simp))))))⟩
  rw [hb] at hok
  obtain ⟨N, rfl, hN1, hN5, hw⟩ := net_small hb
  have HF : Hid (treeR N e s ws = detD (lapM N ws) (woL N [0]) (woL N [0])) := Lib.hid (by unfold treeR; rw [if_pos hb, Int.toNat_natCast])
  have hmr := minR_net hw hN5 (q := [0]) (r := [0]) rfl
  have HM := Lib.hid hmr; clear hmr
  have HB := Lib.hid hb; clear hb
  have HW := Lib.hid hr; clear hr hr0 hw
  go_enter Try.func18, Try.ntmps18
  go_wp2_with fail
  refine hok.mono ?_
  rintro en w1 ⟨rfl, B1⟩
  have S1 := B1.size
  simp at S1
  have hb1 := hbox.later B1
  obtain ⟨x0, x1, x2, x3⟩ := id hb1
  clear hok
  have C1 : Below w.heap.size w w1 := by (repeat (first | exact Below.refl _ _ | (refine Below.setCell ?_ (by (first | exact Nat.le_refl _ | omega | (simp <;> omega) | simp)) _) | (refine Below.alloc ?_ (by (first | exact Nat.le_refl _ | omega | (simp <;> omega) | simp)) _) | (refine below_draws ?_ _) | exact B1 | (refine Below.trans ?_ (Below.mono B1 (by (first | exact Nat.le_refl _ | omega | (simp <;> omega) | simp))))))
  go_wp2_with fail
  refine (impl_without N hN5 _ [0] _ (readsI_new1 _ _ _)).mono ?_
  rintro en w2 ⟨v2, rfl, r2, B2⟩
  have S2 := B2.size
  simp at S2
  have hb2 := (hb1.later (show Below w1.heap.size w1 (w1.alloc _) by (repeat (first | exact Below.refl _ _ | (refine Below.setCell ?_ (by (first | exact Nat.le_refl _ | omega | (simp <;> omega) | simp)) _) | (refine Below.alloc ?_ (by (first | exact Nat.le_refl _ | omega | (simp <;> omega) | simp)) _) | (refine below_draws ?_ _))))).later B2
  have C2 : Below w.heap.size w w2 := by (repeat (first | exact Below.refl _ _ | (refine Below.setCell ?_ (by (first | exact Nat.le_refl _ | omega | (simp <;> omega) | simp)) _) | (refine Below.alloc ?_ (by (first | exact Nat.le_refl _ | omega | (simp <;> omega) | simp)) _) | (refine below_draws ?_ _) | exact C1 | (refine Below.trans ?_ (Below.mono C1 (by (first | exact Nat.le_refl _ | omega | (simp <;> omega) | simp)))) | exact B2 | (refine Below.trans ?_ (Below.mono B2 (by (first | exact Nat.le_refl _ | omega | (simp <;> omega) | simp))))))
  clear x0 x1 x2 x3
  obtain ⟨x0, x1, x2, x3⟩ := id hb2
  go_wp2_with fail
  refine (impl_lap N e s _ ws _ (HW.out.later C2)).mono ?_
  rintro en w3 ⟨v3, rfl, o3, B3⟩
  have S3 := B3.size
  have r3 := o3.reads
  rw [lapR_yes HB.out, Int.toNat_natCast] at r3
  go_wp2_with fail
  refine (impl_minor _ _ _ (lapM N ws) (woL N [0]) (woL N [0]) _ r3 (r2.later B3) (r2.later B3)).mono ?_
  rw [HM.out]
  rintro en w4 ⟨rfl, B4⟩
  have S4 := B4.size
  have C4 : Below w.heap.size w w4 := by (repeat (first | exact Below.refl _ _ | (refine Below.setCell ?_ (by (first | exact Nat.le_refl _ | omega | (simp <;> omega) | simp)) _) | (refine Below.alloc ?_ (by (first | exact Nat.le_refl _ | omega | (simp <;> omega) | simp)) _) | (refine below_draws ?_ _) | exact C2 | (refine Below.trans ?_ (Below.mono C2 (by (first | exact Nat.le_refl _ | omega | (simp <;> omega) | simp)))) | exact B3 | (refine Below.trans ?_ (Below.mono B3 (by (first | exact Nat.le_refl _ | omega | (simp <;> omega) | simp)))) | exact B4 | (refine Below.trans ?_ (Below.mono B4 (by (first | exact Nat.le_refl _ | omega | (simp <;> omega) | simp))))))
  go_wp2
  go_ret
  exact ⟨ret_i (by rw [HF.out]), C4⟩
end Go.Proofs.Ytaececpphdaciaa

namespace Go.Proofs.Ytaececpphdaciaa
open Go.RowKit

set_option maxHeartbeats 6400000 in
theorem spec_tree (n e s : Int) (v : Value) (ws : List W3) (w : World) (hr : ReadsW w v ws) :
    Calls Try.prog 95 #[.agg #[.int .i64 n, .int .i64 e, .int .i64 s, v]] w fun en w' => en = .returned (.int .i64 (treeR n e s ws)) ∧ Below w.heap.size w w' := by
  have B0 := (Below.refl w.heap.size w).alloc (Nat.le_refl _) (.cells #[.int .i64 n, .int .i64 e, .int .i64 s, v] 25)
  have hbox := boxN.new w n e s v 25
  have hr0 := hr.later B0
  have hok := spec_netOk n e s v ws _ hr0
  obtain ⟨p, cap, rfl⟩ := hr.shape
  cases hb : netB n e s ws
  · rw [hb] at hok
    have HF : Hid (treeR n e s ws = 0) := Lib.hid (by unfold treeR; rw [if_neg (by simp [hb])])
    clear hbox
    go_enter Try.func95, Try.ntmps95
    go_wp2_with fail
    refine hok.mono ?_
    rintro en w1 ⟨rfl, B1⟩
    go_wp2
    go_ret
    exact ⟨ret_i (by rw [HF.out]), by (repeat (first | exact Below.refl _ _ | (refine Below.setCell ?_ (by (first | exact Nat.le_refl _ | omega | (simp <;> omega) | simp)) _) | (refine Below.alloc ?_ (by (first | exact Nat.le_refl _ | omega | (simp <;> omega) | simp)) _) | (refine below_draws ?_ _) | exact B1 | (refine Below.trans ?_ (Below.mono B1 (by (first | exact Nat.le_refl _ | omega | (simp <;> omega) | simp))))))⟩
  rw [hb] at hok
  obtain ⟨N, rfl, hN1, hN5, hw⟩ := net_small hb
  have HF : Hid (treeR N e s ws = detD (lapM N ws) (woL N [0]) (woL N [0])) := Lib.hid (by unfold treeR; rw [if_pos (by first | exact hb | (refine ⟨hb, ?_⟩; omega)), Int.toNat_natCast])
  have hl : (woL N [0]).length = (woL N [0]).length := by rfl
  have hcall := fun (w' : World) (vr vc : Value) (h1 : Below w.heap.size w w') (h2 : ReadsI w' vr [0]) (h3 : ReadsI w' vc [0]) => spec_l04Minor N e s _ vr vc ws [0] [0] w' hb (hr.later h1) h2 h3 hl
  have HC := Lib.hid hcall; clear hcall
  clear hr0 hr hw hb hl
  go_enter Try.func95, Try.ntmps95
  go_wp2_with fail
  refine hok.mono ?_
  rintro en w1 ⟨rfl, B1⟩
  obtain ⟨b0, b1, b2, b3⟩ := hbox.later B1
  have S1 := B1.size
  simp at S1
  go_wp2_with fail
  with_reducible refine Calls.mono (HC.out _ _ _ ?h1 ?h2 ?h3) ?h4
  case h1 => (repeat (first | exact Below.refl _ _ | (refine Below.setCell ?_ (by (first | exact Nat.le_refl _ | omega | (simp <;> omega) | simp)) _) | (refine Below.alloc ?_ (by (first | exact Nat.le_refl _ | omega | (simp <;> omega) | simp)) _) | (refine below_draws ?_ _) | exact B1 | (refine Below.trans ?_ (Below.mono B1 (by (first | exact Nat.le_refl _ | omega | (simp <;> omega) | simp))))))
  case h2 => exact ReadsI.later (readsI_new1' _ _ _ _ rfl) (by (repeat (first | exact Below.refl _ _ | (refine Below.setCell ?_ (by (first | exact Nat.le_refl _ | omega | (simp <;> omega) | simp)) _) | (refine Below.alloc ?_ (by (first | exact Nat.le_refl _ | omega | (simp <;> omega) | simp)) _) | (refine below_draws ?_ _))))
  case h3 => exact readsI_new1' _ _ _ _ (by simp)
  rintro en w3 ⟨rfl, B3⟩
  have S3 := B3.size
  simp at S3
  go_wp2
  go_ret
  exact ⟨ret_i (by rw [HF.out]), by (repeat (first | exact Below.refl _ _ | (refine Below.setCell ?_ (by (first | exact Nat.le_refl _ | omega | (simp <;> omega) | simp)) _) | (refine Below.alloc ?_ (by (first | exact Nat.le_refl _ | omega | (simp <;> omega) | simp)) _) | (refine below_draws ?_ _) | exact B1 | (refine Below.trans ?_ (Below.mono B1 (by (first | exact Nat.le_refl _ | omega | (simp <;> omega) | simp)))) | exact B3 | (refine Below.trans ?_ (Below.mono B3 (by (first | exact Nat.le_refl _ | omega | (simp <;> omega) | simp))))))⟩
set_option maxHeartbeats 6400000 in
theorem spec_forest (n e s : Int) (a b : Int) (v : Value) (ws : List W3) (w : World) (hr : ReadsW w v ws) :
    Calls Try.prog 94 #[.agg #[.int .i64 n, .int .i64 e, .int .i64 s, v], .int .i64 a, .int .i64 b] w fun en w' => en = .returned (.int .i64 (forestR n e s ws a b)) ∧ Below w.heap.size w w' := by
  have B0 := (Below.refl w.heap.size w).alloc (Nat.le_refl _) (.cells #[.int .i64 n, .int .i64 e, .int .i64 s, v] 25)
  have hbox := boxN.new w n e s v 25
  have hr0 := hr.later B0
  have hok := spec_netOk n e s v ws _ hr0
  obtain ⟨p, cap, rfl⟩ := hr.shape
  cases hb : netB n e s ws
  · rw [hb] at hok
    have HF : Hid (forestR n e s ws a b = 0) := Lib.hid (by unfold forestR; rw [if_neg (by simp [hb])])
    clear hbox
    go_enter Try.func94, Try.ntmps94
    go_wp2_with fail
    refine hok.mono ?_
    rintro en w1 ⟨rfl, B1⟩
    go_wp2
    go_ret
    exact ⟨ret_i (by rw [HF.out]), by (repeat (first | exact Below.refl _ _ | (refine Below.setCell ?_ (by (first | exact Nat.le_refl _ | omega | (simp <;> omega) | simp)) _) | (refine Below.alloc ?_ (by (first | exact Nat.le_refl _ | omega | (simp <;> omega) | simp)) _) | (refine below_draws ?_ _) | exact B1 | (refine Below.trans ?_ (Below.mono B1 (by (first | exact Nat.le_refl _ | omega | (simp <;> omega) | simp))))))⟩
  rw [hb] at hok
  obtain ⟨N, rfl, hN1, hN5, hw⟩ := net_small hb
  by_cases g0 : 0 ≤ a ∧ a ≤ (N : Int) - 1
  case neg =>
    have HF : Hid (forestR N e s ws a b = 0) := Lib.hid (by unfold forestR; rw [if_neg (by omega)])
    clear hb hr0 hr
    go_enter Try.func94, Try.ntmps94
    go_wp2_with fail
    refine hok.mono ?_
    rintro en w1 ⟨rfl, B1⟩
    obtain ⟨b0, b1, b2, b3⟩ := hbox.later B1
    have S1 := B1.size
    simp at S1
    go_wp2_with fail
    refine (in_no' a (0) ((N : Int) - 1) _ _ (by omega) (by omega) g0 _).mono ?_
    rintro en w2 ⟨rfl, rfl⟩
    go_wp2
    go_ret
    exact ⟨ret_i (by rw [HF.out]), by (repeat (first | exact Below.refl _ _ | (refine Below.setCell ?_ (by (first | exact Nat.le_refl _ | omega | (simp <;> omega) | simp)) _) | (refine Below.alloc ?_ (by (first | exact Nat.le_refl _ | omega | (simp <;> omega) | simp)) _) | (refine below_draws ?_ _) | exact B1 | (refine Below.trans ?_ (Below.mono B1 (by (first | exact Nat.le_refl _ | omega | (simp <;> omega) | simp))))))⟩
  by_cases g1 : 0 ≤ b ∧ b ≤ (N : Int) - 1
  case neg =>
    have HF : Hid (forestR N e s ws a b = 0) := Lib.hid (by unfold forestR; rw [if_neg (by omega)])
    clear hb hr0 hr
    go_enter Try.func94, Try.ntmps94
    go_wp2_with fail
    refine hok.mono ?_
    rintro en w1 ⟨rfl, B1⟩
    obtain ⟨b0, b1, b2, b3⟩ := hbox.later B1
    have S1 := B1.size
    simp at S1
    go_wp2_with fail
    refine (in_yes' a (0) ((N : Int) - 1) _ _ (by omega) (by omega) g0.1 g0.2 _).mono ?_
    rintro en w2 ⟨rfl, rfl⟩
    go_wp2_with fail
    refine (in_no' b (0) ((N : Int) - 1) _ _ (by omega) (by omega) g1 _).mono ?_
    rintro en w2 ⟨rfl, rfl⟩
    go_wp2
    go_ret
    exact ⟨ret_i (by rw [HF.out]), by (repeat (first | exact Below.refl _ _ | (refine Below.setCell ?_ (by (first | exact Nat.le_refl _ | omega | (simp <;> omega) | simp)) _) | (refine Below.alloc ?_ (by (first | exact Nat.le_refl _ | omega | (simp <;> omega) | simp)) _) | (refine below_draws ?_ _) | exact B1 | (refine Below.trans ?_ (Below.mono B1 (by (first | exact Nat.le_refl _ | omega | (simp <;> omega) | simp))))))⟩
  by_cases he : a = b
  · have HF : Hid (forestR N e s ws a b = 0) := Lib.hid (by unfold forestR; rw [if_neg (by omega)])
    have heq : (a == b) = true := by simpa using he
    clear hb hr0 hr he
    go_enter Try.func94, Try.ntmps94
    go_wp2_with fail
    refine hok.mono ?_
    rintro en w1 ⟨rfl, B1⟩
    obtain ⟨b0, b1, b2, b3⟩ := hbox.later B1
    have S1 := B1.size
    simp at S1
    go_wp2_with fail
    refine (in_yes' a (0) ((N : Int) - 1) _ _ (by omega) (by omega) g0.1 g0.2 _).mono ?_
    rintro en w2 ⟨rfl, rfl⟩
    go_wp2_with fail
    refine (in_yes' b (0) ((N : Int) - 1) _ _ (by omega) (by omega) g1.1 g1.2 _).mono ?_
    rintro en w2 ⟨rfl, rfl⟩
    go_wp2
    go_ret
    exact ⟨ret_i (by rw [HF.out]), by (repeat (first | exact Below.refl _ _ | (refine Below.setCell ?_ (by (first | exact Nat.le_refl _ | omega | (simp <;> omega) | simp)) _) | (refine Below.alloc ?_ (by (first | exact Nat.le_refl _ | omega | (simp <;> omega) | simp)) _) | (refine below_draws ?_ _) | exact B1 | (refine Below.trans ?_ (Below.mono B1 (by (first | exact Nat.le_refl _ | omega | (simp <;> omega) | simp))))))⟩
  have heq : (a == b) = false := by simpa using he
  have HF : Hid (forestR N e s ws a b = detD (lapM N ws) (woL N [a, b]) (woL N [a, b])) := Lib.hid (by unfold forestR; rw [if_pos (by first | exact hb | (refine ⟨hb, ?_⟩; omega)), Int.toNat_natCast])
  have hl : (woL N [a, b]).length = (woL N [a, b]).length := by rfl
  have hcall := fun (w' : World) (vr vc : Value) (h1 : Below w.heap.size w w') (h2 : ReadsI w' vr [a, b]) (h3 : ReadsI w' vc [a, b]) => spec_l04Minor N e s _ vr vc ws [a, b] [a, b] w' hb (hr.later h1) h2 h3 hl
  have HC := Lib.hid hcall; clear hcall
  clear hr0 hr hw hb hl
  go_enter Try.func94, Try.ntmps94
  go_wp2_with fail
  refine hok.mono ?_
  rintro en w1 ⟨rfl, B1⟩
  obtain ⟨b0, b1, b2, b3⟩ := hbox.later B1
  have S1 := B1.size
  simp at S1
  go_wp2_with fail
  refine (in_yes' a (0) ((N : Int) - 1) _ _ (by omega) (by omega) g0.1 g0.2 _).mono ?_
  rintro en w2 ⟨rfl, rfl⟩
  go_wp2_with fail
  refine (in_yes' b (0) ((N : Int) - 1) _ _ (by omega) (by omega) g1.1 g1.2 _).mono ?_
  rintro en w2 ⟨rfl, rfl⟩
  go_wp2_with fail
  with_reducible refine Calls.mono (HC.out _ _ _ ?h1 ?h2 ?h3) ?h4
  case h1 => (repeat (first | exact Below.refl _ _ | (refine Below.setCell ?_ (by (first | exact Nat.le_refl _ | omega | (simp <;> omega) | simp)) _) | (refine Below.alloc ?_ (by (first | exact Nat.le_refl _ | omega | (simp <;> omega) | simp)) _) | (refine below_draws ?_ _) | exact B1 | (refine Below.trans ?_ (Below.mono B1 (by (first | exact Nat.le_refl _ | omega | (simp <;> omega) | simp))))))
  case h2 => exact ReadsI.later (readsI_new2' _ _ _ _ _ rfl) (by (repeat (first | exact Below.refl _ _ | (refine Below.setCell ?_ (by (first | exact Nat.le_refl _ | omega | (simp <;> omega) | simp)) _) | (refine Below.alloc ?_ (by (first | exact Nat.le_refl _ | omega | (simp <;> omega) | simp)) _) | (refine below_draws ?_ _))))
  case h3 => exact readsI_new2' _ _ _ _ _ (by simp)
  rintro en w3 ⟨rfl, B3⟩
  have S3 := B3.size
  simp at S3
  go_wp2
  go_ret
  exact ⟨ret_i (by rw [HF.out]), by (repeat (first | exact Below.refl _ _ | (refine Below.setCell ?_ (by (first | exact Nat.le_refl _ | omega | (simp <;> omega) | simp)) _) | (refine Below.alloc ?_ (by (first | exact Nat.le_refl _ | omega | (simp <;> omega) | simp)) _) | (refine below_draws ?_ _) | exact B1 | (refine Below.trans ?_ (Below.mono B1 (by (first | exact Nat.le_refl _ | omega | (simp <;> omega) | simp)))) | exact B3 | (refine Below.trans ?_ (Below.mono B3 (by (first | exact Nat.le_refl _ | omega | (simp <;> omega) | simp))))))⟩
end Go.Proofs.Ytaececpphdaciaa
