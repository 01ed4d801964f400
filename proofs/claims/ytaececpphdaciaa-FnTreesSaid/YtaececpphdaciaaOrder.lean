/-
  cmp.Compare, cmp.Or and compareEnds: the order of two wires by their ends.
-/
import Derived.Test.YtaececpphdaciaaGNet
import Derived.BigRegion
namespace Go.Proofs.Ytaececpphdaciaa
open Go.RowKit

def cI (a b : Int) : Int := if a < b then -1 else if b < a then 1 else 0
theorem nan_any (a : Int) (w : World) : Calls Try.prog 136 #[.int .i64 a] w fun en w' => en = .returned (.bool false) ∧ w = w' := by
  go_enter Try.func136, Try.ntmps136
  go_wp2
  go_ret
  exact ⟨by first | rfl | (congr 1; simp), rfl⟩
theorem compare_any (a b : Int) (w : World) : Calls Try.prog 130 #[.int .i64 a, .int .i64 b] w fun en w' => en = .returned (.int .i64 (cI a b)) ∧ w = w' := by
  by_cases h1 : a < b
  · have HF : Hid (cI a b = -1) := Lib.hid (if_pos h1)
    go_enter Try.func130, Try.ntmps130
    go_wp2_with (go_at_call 136; refine (nan_any _ _).mono ?_; rintro en w1 ⟨rfl, rfl⟩)
    go_ret
    exact ⟨ret_i HF.out.symm, rfl⟩
  · by_cases h2 : b < a
    · have HF : Hid (cI a b = 1) := Lib.hid (by unfold cI; rw [if_neg h1, if_pos h2])
      go_enter Try.func130, Try.ntmps130
      go_wp2_with (go_at_call 136; refine (nan_any _ _).mono ?_; rintro en w1 ⟨rfl, rfl⟩)
      go_ret
      exact ⟨ret_i HF.out.symm, rfl⟩
    · have HF : Hid (cI a b = 0) := Lib.hid (by unfold cI; rw [if_neg h1, if_neg h2])
      go_enter Try.func130, Try.ntmps130
      go_wp2_with (go_at_call 136; refine (nan_any _ _).mono ?_; rintro en w1 ⟨rfl, rfl⟩)
      go_ret
      exact ⟨ret_i HF.out.symm, rfl⟩
def orI (a b : Int) : Int := if a = 0 then b else a
theorem or_any (g : Nat) (a b : Int) (w : World) (h0 : w.cell? ⟨g, 0, none⟩ = some (.int .i64 a)) (h1 : w.cell? ⟨g, 1, none⟩ = some (.int .i64 b)) :
    Calls Try.prog 129 #[.slice (some ⟨g, 0, none⟩) 2 2] w fun en w' => en = .returned (.int .i64 (orI a b)) ∧ w = w' := by
  by_cases ha : a = 0
  · have HF : Hid (orI a b = b) := Lib.hid (if_pos ha)
    have ha : (a == 0) = true := by simpa using ha
    by_cases hb : b = 0
    · have hb' : (b == 0) = true := by simpa using hb
      have HB := Lib.hid hb; clear hb
      go_enter Try.func129, Try.ntmps129
      go_wp2
      refine wp_loop_rounds 3 ?_
      repeat (rw [rounds_succ]; go_wp2)
      go_ret
      exact ⟨ret_i (by rw [HF.out, HB.out]), rfl⟩
    · have hb : (b == 0) = false := by simpa using hb
      go_enter Try.func129, Try.ntmps129
      go_wp2
      refine wp_loop_rounds 2 ?_
      repeat (rw [rounds_succ]; go_wp2)
      go_ret
      exact ⟨ret_i HF.out.symm, rfl⟩
  · have HF : Hid (orI a b = a) := Lib.hid (if_neg ha)
    have ha : (a == 0) = false := by simpa using ha
    go_enter Try.func129, Try.ntmps129
    go_wp2
    refine wp_loop_rounds 1 ?_
    rw [rounds_succ]
    go_wp2
    go_ret
    exact ⟨ret_i HF.out.symm, rfl⟩
theorem at_new (W : World) (g j : Nat) (cs : Array Value) (t : TypeId) (u : Value) (hg : g = W.heap.size) (hu : cs[j]? = some u) : (W.alloc (.cells cs t)).cell? ⟨g, j, none⟩ = some u := by
  subst hg; rw [World.cell?_alloc_new]; exact hu
theorem at_new_drew (W : World) (g j : Nat) (cs : Array Value) (t : TypeId) (u : Value) (hg : g = W.heap.size) (hu : cs[j]? = some u) : (W.alloc (.cells cs t)).drew.cell? ⟨g, j, none⟩ = some u :=
  at_new W g j cs t u hg hu
def cE (v u : W3) : Int := orI (cI v.1 u.1) (cI v.2.1 u.2.1)
theorem cE_nonneg (v u : W3) : 0 ≤ cE v u ↔ ¬ wLt v u := by
  unfold cE orI cI wLt
  split <;> split <;> (try split) <;> (try split) <;> omega
theorem two_alloc' {w wa : World} {a b x y : Value} {o : Obj} (h : wa.cell? ⟨w.heap.size, 0, none⟩ = some (a) ∧ wa.cell? ⟨w.heap.size, 1, none⟩ = some (b) ∧ wa.cell? ⟨w.heap.size + 1, 0, none⟩ = some (x) ∧ wa.cell? ⟨w.heap.size + 1, 1, none⟩ = some (y) ∧ w.heap.size + 1 < wa.heap.size ∧ Below w.heap.size w wa) : (wa.alloc o).cell? ⟨w.heap.size, 0, none⟩ = some (a) ∧ (wa.alloc o).cell? ⟨w.heap.size, 1, none⟩ = some (b) ∧ (wa.alloc o).cell? ⟨w.heap.size + 1, 0, none⟩ = some (x) ∧ (wa.alloc o).cell? ⟨w.heap.size + 1, 1, none⟩ = some (y) ∧ w.heap.size + 1 < (wa.alloc o).heap.size ∧ Below w.heap.size w (wa.alloc o) := by
  obtain ⟨h1, h2, h3, h4, h5, h6⟩ := h
  refine ⟨?_, ?_, ?_, ?_, by simp; omega, h6.alloc (by omega) _⟩
  · rw [World.cell?_alloc_old _ _ _ (show w.heap.size ≠ _ by omega)]; exact h1
  · rw [World.cell?_alloc_old _ _ _ (show w.heap.size ≠ _ by omega)]; exact h2
  · rw [World.cell?_alloc_old _ _ _ (show w.heap.size + 1 ≠ _ by omega)]; exact h3
  · rw [World.cell?_alloc_old _ _ _ (show w.heap.size + 1 ≠ _ by omega)]; exact h4
set_option maxHeartbeats 3200000 in
theorem ends_any (a b c x y z : Int) (w : World) :
    Calls Try.prog 119 #[.agg #[.int .i64 a, .int .i64 b, .int .i64 c], .agg #[.int .i64 x, .int .i64 y, .int .i64 z]] w fun en w' => en = .returned (.int .i64 (cE (a, b, c) (x, y, z))) ∧ Below w.heap.size w w' := by
  go_enter Try.func119, Try.ntmps119
  go_wp2
  have hS : ((w.alloc (.cells #[.int .i64 a, .int .i64 b, .int .i64 c] 29)).alloc (.cells #[.int .i64 x, .int .i64 y, .int .i64 z] 29)).drew.cell? ⟨w.heap.size, 0, none⟩ = some (.int .i64 a) ∧ ((w.alloc (.cells #[.int .i64 a, .int .i64 b, .int .i64 c] 29)).alloc (.cells #[.int .i64 x, .int .i64 y, .int .i64 z] 29)).drew.cell? ⟨w.heap.size, 1, none⟩ = some (.int .i64 b) ∧ ((w.alloc (.cells #[.int .i64 a, .int .i64 b, .int .i64 c] 29)).alloc (.cells #[.int .i64 x, .int .i64 y, .int .i64 z] 29)).drew.cell? ⟨w.heap.size + 1, 0, none⟩ = some (.int .i64 x) ∧ ((w.alloc (.cells #[.int .i64 a, .int .i64 b, .int .i64 c] 29)).alloc (.cells #[.int .i64 x, .int .i64 y, .int .i64 z] 29)).drew.cell? ⟨w.heap.size + 1, 1, none⟩ = some (.int .i64 y) ∧ w.heap.size + 1 < ((w.alloc (.cells #[.int .i64 a, .int .i64 b, .int .i64 c] 29)).alloc (.cells #[.int .i64 x, .int .i64 y, .int .i64 z] 29)).drew.heap.size ∧ Below w.heap.size w ((w.alloc (.cells #[.int .i64 a, .int .i64 b, .int .i64 c] 29)).alloc (.cells #[.int .i64 x, .int .i64 y, .int .i64 z] 29)).drew := ⟨by simp, by simp, by simp, by simp, by simp, by (repeat (first | exact Below.refl _ _ | (refine Below.setCell ?_ (by (first | exact Nat.le_refl _ | omega | (simp <;> omega) | simp)) _) | (refine Below.alloc ?_ (by (first | exact Nat.le_refl _ | omega | (simp <;> omega) | simp)) _) | (refine below_draws ?_ _)))⟩
  go_region_held3 (fun w' => w'.cell? ⟨w.heap.size, 0, none⟩ = some (.int .i64 a) ∧ w'.cell? ⟨w.heap.size, 1, none⟩ = some (.int .i64 b) ∧ w'.cell? ⟨w.heap.size + 1, 0, none⟩ = some (.int .i64 x) ∧ w'.cell? ⟨w.heap.size + 1, 1, none⟩ = some (.int .i64 y) ∧ w.heap.size + 1 < w'.heap.size ∧ Below w.heap.size w w')
    (first | exact hS | exact two_alloc' hS)
    (first | (go_at_call 130; (with_reducible refine (compare_any _ _ _).mono ?_); rintro en w1 ⟨rfl, rfl⟩) | (go_at_call 129; (with_reducible refine (or_any _ (cI a x) (cI b y) _ (by refine at_new_drew _ _ _ _ _ _ ?_ ?_ <;> first | rfl | simp) (by refine at_new_drew _ _ _ _ _ _ ?_ ?_ <;> first | rfl | simp)).mono ?_); rintro en w1 ⟨rfl, rfl⟩))
  all_goals
    go_wp2
    go_ret
    exact ⟨rfl, (two_alloc' hS).2.2.2.2.2⟩
end Go.Proofs.Ytaececpphdaciaa
