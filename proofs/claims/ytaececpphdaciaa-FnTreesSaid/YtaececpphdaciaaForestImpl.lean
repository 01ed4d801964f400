/-
  CrossSum and ForestSum in the program: all cases.
-/
import Derived.Test.YtaececpphdaciaaCrossImpl
namespace Go.Proofs.Ytaececpphdaciaa
open Go.RowKit

set_option maxHeartbeats 6400000 in
theorem impl_cross (n e s a b c d : Int) (v : Value) (ws : List W3) (w : World) (hr : ReadsW w v ws) :
    Calls Try.prog 70 #[.agg #[.int .i64 n, .int .i64 e, .int .i64 s, v], .int .i64 a, .int .i64 b, .int .i64 c, .int .i64 d] w fun en w' => en = .returned (.tuple #[.int .i64 (crossR n e s ws a b c d).1, .bool (crossR n e s ws a b c d).2]) ∧ Below w.heap.size w w' := by
  have B0 := (Below.refl w.heap.size w).alloc (Nat.le_refl _) (.cells #[.int .i64 n, .int .i64 e, .int .i64 s, v] 25)
  have hbox := boxN.new w n e s v 25
  have hok := impl_netOk n e s v ws _ (hr.later B0)
  cases hb : netB n e s ws
  · rw [hb] at hok
    obtain ⟨p, cap, rfl⟩ := hr.shape
    have HF : Hid (crossR n e s ws a b c d = (0, false)) := Lib.hid (by unfold crossR; rw [if_neg (by simp [hb])])
    clear hbox
    go_enter Try.func70, Try.ntmps70
    go_wp2_with fail
    refine hok.mono ?_
    rintro en w1 ⟨rfl, B1⟩
    go_wp2
    go_ret2
    exact ⟨ret_ib (by rw [HF.out]), by (repeat (first | exact Below.refl _ _ | (refine Below.setCell ?_ (by (first | exact Nat.le_refl _ | omega | (simp <;> omega) | simp)) _) | (refine Below.alloc ?_ (by (first | exact Nat.le_refl _ | omega | (simp <;> omega) | simp)) _) | (refine below_draws ?_ _) | exact B1 | (refine Below.trans ?_ (Below.mono B1 (by (first | exact Nat.le_refl _ | omega | (simp <;> omega) | simp))))))⟩
  rw [hb] at hok
  by_cases h1 : 0 ≤ a ∧ a < b ∧ b < n
  · by_cases h2 : 0 ≤ c ∧ c < d ∧ d < n
    · obtain ⟨N, rfl, hN1, hN5, hw⟩ := net_small hb
      have HF : crossR N e s ws a b c d = (detD (lapM N ws) (woL N [a, b]) (woL N [c, d]), true) := by
        unfold crossR; rw [if_pos (by refine ⟨hb, ?_⟩; omega), Int.toNat_natCast]
      rw [HF]
      exact impl_cross_yes N e s a b c d v ws w hb h1 h2 hr
    · obtain ⟨p, cap, rfl⟩ := hr.shape
      have HF : Hid (crossR n e s ws a b c d = (0, false)) := Lib.hid (by unfold crossR; rw [if_neg (by omega)])
      have H1 := Lib.hid h1; clear h1
      have H2 := Lib.hid h2; clear h2
      clear hb
      go_enter Try.func70, Try.ntmps70
      go_wp2_with fail
      refine hok.mono ?_
      rintro en w1 ⟨rfl, B1⟩
      have hb1 := hbox.later B1
      have S1 := B1.size
      simp at S1
      have C1 : Below w.heap.size w w1 := by (repeat (first | exact Below.refl _ _ | (refine Below.setCell ?_ (by (first | exact Nat.le_refl _ | omega | (simp <;> omega) | simp)) _) | (refine Below.alloc ?_ (by (first | exact Nat.le_refl _ | omega | (simp <;> omega) | simp)) _) | (refine below_draws ?_ _) | exact B1 | (refine Below.trans ?_ (Below.mono B1 (by (first | exact Nat.le_refl _ | omega | (simp <;> omega) | simp))))))
      obtain ⟨x0, x1, x2, x3⟩ := id hb1
      go_wp2_with fail
      refine (pair_yes n e s a b _ _ H1.out).mono ?_
      rintro en w2 ⟨rfl, B2⟩
      have hb2 := hb1.later B2
      have C2 : Below w.heap.size w w2 := C1.trans (B2.mono C1.size)
      clear hb1 x0 x1 x2 x3 B2 C1 B1
      obtain ⟨x0, x1, x2, x3⟩ := id hb2
      go_wp2_with fail
      refine (pair_no n e s c d _ _ H2.out).mono ?_
      rintro en w3 ⟨rfl, B3⟩
      go_wp2
      go_ret2
      exact ⟨ret_ib (by rw [HF.out]), C2.trans (B3.mono C2.size)⟩
  · obtain ⟨p, cap, rfl⟩ := hr.shape
    have HF : Hid (crossR n e s ws a b c d = (0, false)) := Lib.hid (by unfold crossR; rw [if_neg (by omega)])
    have H1 := Lib.hid h1; clear h1
    clear hb
    go_enter Try.func70, Try.ntmps70
    go_wp2_with fail
    refine hok.mono ?_
    rintro en w1 ⟨rfl, B1⟩
    have hb1 := hbox.later B1
    have S1 := B1.size
    simp at S1
    have C1 : Below w.heap.size w w1 := by (repeat (first | exact Below.refl _ _ | (refine Below.setCell ?_ (by (first | exact Nat.le_refl _ | omega | (simp <;> omega) | simp)) _) | (refine Below.alloc ?_ (by (first | exact Nat.le_refl _ | omega | (simp <;> omega) | simp)) _) | (refine below_draws ?_ _) | exact B1 | (refine Below.trans ?_ (Below.mono B1 (by (first | exact Nat.le_refl _ | omega | (simp <;> omega) | simp))))))
    obtain ⟨x0, x1, x2, x3⟩ := id hb1
    go_wp2_with fail
    refine (pair_no n e s a b _ _ H1.out).mono ?_
    rintro en w2 ⟨rfl, B2⟩
    go_wp2
    go_ret2
    exact ⟨ret_ib (by rw [HF.out]), C1.trans (B2.mono C1.size)⟩

theorem forest_cross (n e s : Int) (ws : List W3) (a b lo hi : Int) (he : Ends a b lo hi) : (crossR n e s ws lo hi lo hi).1 = forestR n e s ws a b := by
  unfold crossR forestR
  by_cases hb : netB n e s ws = true
  · by_cases hc : 0 ≤ a ∧ a < n ∧ 0 ≤ b ∧ b < n ∧ a ≠ b
    · have hlh : 0 ≤ lo ∧ lo < hi ∧ hi < n ∧ 0 ≤ lo ∧ lo < hi ∧ hi < n := by unfold Ends at he; omega
      rw [if_pos ⟨hb, hlh⟩, if_pos ⟨hb, hc⟩]
      have hs : woL n.toNat [lo, hi] = woL n.toNat [a, b] := woL_same fun x => by
        simp only [List.mem_cons, List.not_mem_nil, or_false]
        unfold Ends at he
        omega
      rw [hs]
    · rw [if_neg (by rintro ⟨_, h⟩; unfold Ends at he; omega), if_neg (by rintro ⟨_, h⟩; exact hc h)]
  · rw [if_neg (fun h => hb h.1), if_neg (fun h => hb h.1)]
set_option maxHeartbeats 6400000 in
theorem impl_forest (n e s a b : Int) (v : Value) (ws : List W3) (w : World) (hr : ReadsW w v ws) :
    Calls Try.prog 22 #[.agg #[.int .i64 n, .int .i64 e, .int .i64 s, v], .int .i64 a, .int .i64 b] w fun en w' => en = .returned (.int .i64 (forestR n e s ws a b)) ∧ Below w.heap.size w w' := by
  have B0 := (Below.refl w.heap.size w).alloc (Nat.le_refl _) (.cells #[.int .i64 n, .int .i64 e, .int .i64 s, v] 25)
  obtain ⟨p, cap, rfl⟩ := hr.shape
  obtain ⟨lo, hi, he⟩ := ends_of a b
  have hc := impl_cross n e s lo hi lo hi _ ws _ (hr.later B0)
  have HF := Lib.hid (forest_cross n e s ws a b lo hi he)
  generalize crossR n e s ws lo hi lo hi = cr at *
  obtain ⟨ci, cb⟩ := cr
  clear B0 hr
  rcases he with ⟨e1, e2, rfl, rfl⟩ | ⟨e1, e2, rfl, rfl⟩ | ⟨e1, e2, rfl, rfl⟩
  all_goals
    go_enter Try.func22, Try.ntmps22
    go_wp2_with fail
    refine hc.mono ?_
    rintro en w1 ⟨rfl, B1⟩
    clear hc
    go_wp2
    go_ret
    exact ⟨ret_i HF.out, by (repeat (first | exact Below.refl _ _ | (refine Below.setCell ?_ (by (first | exact Nat.le_refl _ | omega | (simp <;> omega) | simp)) _) | (refine Below.alloc ?_ (by (first | exact Nat.le_refl _ | omega | (simp <;> omega) | simp)) _) | (refine below_draws ?_ _) | exact B1 | (refine Below.trans ?_ (Below.mono B1 (by (first | exact Nat.le_refl _ | omega | (simp <;> omega) | simp))))))⟩
end Go.Proofs.Ytaececpphdaciaa
