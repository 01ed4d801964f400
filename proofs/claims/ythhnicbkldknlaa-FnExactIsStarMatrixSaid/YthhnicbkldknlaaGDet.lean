/-
  l04Det in the model: the determinant of some rows and columns.
  slices.Concat of two slices of numbers.
-/
import Derived.Test.YthhnicbkldknlaaGMat
import Derived.Deep.RegionHeld3
import Derived.Deep.RegionLaw
import Derived.Lib.AppendZeros
import Derived.Deep.AppendLies
namespace Go.Proofs.Ythhnicbkldknlaa
open Go.RowKit

theorem ReadsII.at {w : World} {v : Value} {m : MatI} (h : ReadsII w v m) (k : Nat) (hk : k < m.length) : ∃ g o cap, v = .slice (some ⟨g, o, none⟩) m.length cap ∧ m.length ≤ cap ∧ cap ≤ 9223372036854775807 ∧ ∃ r, w.cell? ⟨g, o + k, none⟩ = some r ∧ ReadsI w r m[k] := by
  obtain ⟨g, o, cap, h1, h2, h3, _, h4⟩ := h.pos (by omega)
  exact ⟨g, o, cap, h1, h2, h3, h4 k hk⟩
theorem at2_get {m : MatI} {r c : Nat} (hr : r < m.length) (hc : c < m[r].length) : at2 m r c = m[r][c] := by
  unfold at2
  simp [hr, hc]
theorem nat_of {x : Int} (h : 0 ≤ x) : ∃ k : Nat, x = k := ⟨x.toNat, by omega⟩

end Go.Proofs.Ythhnicbkldknlaa

namespace Go.Proofs.Ythhnicbkldknlaa
open Go.RowKit

theorem fillI (n : Nat) : (Builtin.zeroCells (Value.int .i64 0).cells n).size = n := by
  rw [size_zeroCells]
  show n * 1 = n
  omega
set_option maxRecDepth 8000 in
theorem grow_nil (n : Nat) (hn : n ≤ 1048576) (w : World) :
    Calls Try.prog 153 #[.slice none 0 0, .int .i64 n] w fun e w' => ∃ v', e = .returned v' ∧ w'.ownsRow w.heap.size 3 1 v' ([] : List Int).length (cellsI []) ∧ Below w.heap.size w w' := by
  by_cases h0 : n = 0
  · subst h0
    go_enter Try.func153, Try.ntmps153
    go_wp2
    go_ret
    exact ⟨_, rfl, World.ownsRow_nil _ _ _ _, by (repeat (first | exact Below.refl _ _ | (refine Below.setCell ?_ (by (first | exact Nat.le_refl _ | omega | (simp <;> omega) | simp)) _) | (refine Below.alloc ?_ (by (first | exact Nat.le_refl _ | omega | (simp <;> omega) | simp)) _) | (refine below_draws ?_ _)))⟩
  · obtain ⟨i0, hi, hz0, hz1, hz2⟩ := info_parts Try.infoInt
    have hr := Lib.run_append_nil_zeros (P := Try.prog) w 70 3 70 3 i0 (.int .i64 0) .i64 .i64 Try.underlying70 Try.underlying3 hi hz0 n (by omega) (by omega) (by omega) (by rw [hz2]; omega)
    have hge := grownCap_ge w n 0 3
    have hcm : grownCap w n 0 3 ≤ maxLen := grownCap_le_maxLen w n 0 _ (by unfold maxLen; omega)
    have hcm' : grownCap w n 0 3 ≤ 9223372036854775807 := by unfold maxLen at hcm; omega
    have hown : (w.drew.alloc (.cells (Builtin.zeroCells (Value.int .i64 0).cells n ++ Builtin.zeroCells (Value.int .i64 0).cells (grownCap w n 0 3 - n)) 3)).ownsRow w.heap.size 3 1 (.slice (some ⟨w.heap.size, 0, none⟩) 0 (grownCap w n 0 3)) ([] : List Int).length (cellsI []) := by
      refine ⟨rfl, .inr ⟨w.heap.size, _, _, rfl, Nat.le_refl _, heap_alloc_new w.drew _, Nat.zero_le _, hcm, ?_, rfl⟩⟩
      rw [Array.size_append, fillI, fillI]; omega
    have HO := Lib.hid hown; clear hown
    have HB : Hid (Below w.heap.size w (w.drew.alloc (.cells (Builtin.zeroCells (Value.int .i64 0).cells n ++ Builtin.zeroCells (Value.int .i64 0).cells (grownCap w n 0 3 - n)) 3))) := Lib.hid (by (repeat (first | exact Below.refl _ _ | (refine Below.setCell ?_ (by (first | exact Nat.le_refl _ | omega | (simp <;> omega) | simp)) _) | (refine Below.alloc ?_ (by (first | exact Nat.le_refl _ | omega | (simp <;> omega) | simp)) _) | (refine below_draws ?_ _))))
    have c1 : (0 : Int) ≤ (grownCap w n 0 3 : Int) := by omega
    generalize grownCap w n 0 3 = cap at *
    generalize w.drew.alloc (.cells (Builtin.zeroCells (Value.int .i64 0).cells n ++ Builtin.zeroCells (Value.int .i64 0).cells (cap - n)) 3) = w1 at *
    have hn0 : (0 : Int) < (n : Int) := by omega
    clear hcm hi hz0 hz1 hz2
    go_enter Try.func153, Try.ntmps153
    go_wp2_with (at_builtin; refine Lib.wpList_append_run _ rfl _ _ _ _ rfl _ _ rfl rfl _ _ hr ?_)
    go_wp2
    go_ret
    exact ⟨_, rfl, HO.out, HB.out⟩

theorem grow_nil' (q : Int) (n : Nat) (hq : q = n) (hn : n ≤ 1048576) (w : World) :
    Calls Try.prog 153 #[.slice none 0 0, .int .i64 q] w fun e w' => ∃ v', e = .returned v' ∧ w'.ownsRow w.heap.size 3 1 v' ([] : List Int).length (cellsI []) ∧ Below w.heap.size w w' := by
  subst hq; exact grow_nil n hn w
set_option maxRecDepth 8000 in
set_option maxHeartbeats 6400000 in
theorem concat_two (b : Nat) (p1 p2 : Option Addr) (n1 c1 n2 c2 : Nat) (q1 q2 : List Int) (w : World) (h1 : w.cell? ⟨b, 0, none⟩ = some (.slice p1 n1 c1)) (h2 : w.cell? ⟨b, 1, none⟩ = some (.slice p2 n2 c2))
    (k1 : ReadsI w (.slice p1 n1 c1) q1) (k2 : ReadsI w (.slice p2 n2 c2) q2) (hp1 : ∃ a, p1 = some a) (hp2 : ∃ a, p2 = some a) (hl1 : q1.length ≤ 5) (hl2 : q2.length ≤ 5) :
    Calls Try.prog 124 #[.slice (some ⟨b, 0, none⟩) 2 2] w fun e w' => ∃ v', e = .returned v' ∧ ReadsI w' v' (q1 ++ q2) ∧ Below w.heap.size w w' := by
  have e1 := k1.len
  have e2 := k2.len
  subst e1; subst e2
  have hb := World.block_lt_of_cell? w _ h1
  have H1 := Lib.hid k1; clear k1
  have H2 := Lib.hid k2; clear k2
  go_enter Try.func124, Try.ntmps124
  go_wp2
  refine wp_loop_rounds 3 ?_
  rw [rounds_succ]
  go_wp2
  rw [rounds_succ]
  go_wp2
  rw [rounds_succ]
  go_wp2_with fail
  refine (grow_nil' _ (q1.length + q2.length) (by simp) (by omega) w).mono ?_
  rintro en w1 ⟨v1, rfl, o1, B1⟩
  have hb1 := B1.size
  have d1 : w1.cell? ⟨b, 0, none⟩ = some (.slice p1 q1.length c1) := by rw [B1.cell (p := ⟨b, 0, none⟩) hb]; exact h1
  have d2 : w1.cell? ⟨b, 1, none⟩ = some (.slice p2 q2.length c2) := by rw [B1.cell (p := ⟨b, 1, none⟩) hb]; exact h2
  clear h1 h2
  go_wp2
  refine wp_loop_rounds 3 ?_
  rw [rounds_succ]
  go_wp2_with (at_builtin; refine append_ints _ rfl _ _ rfl w.heap.size v1 [] rfl o1 rfl hp1 q1 (H1.out.later B1) (by simp; omega) hb1 ?_; intro v2 w2 o2 S2 G2)
  have B2 : Below w.heap.size w w2 := B1.grown G2 (by omega) (fun k hk => (o1.lt k hk).1)
  have d3 : w2.cell? ⟨b, 1, none⟩ = some (.slice p2 q2.length c2) := by rw [G2.cell_far ⟨b, 1, none⟩ (by simp; omega) (fun e => by have := (o1.lt b e.symm).1; omega)]; exact d2
  clear d1 d2
  go_wp2
  rw [rounds_succ]
  go_wp2_with (at_builtin; refine append_ints _ rfl _ _ rfl w.heap.size v2 ([] ++ q1) rfl o2 rfl hp2 q2 (H2.out.later B2) (by simp; omega) (by omega) ?_; intro v3 w3 o3 S3 G3)
  have B3 : Below w.heap.size w w3 := B2.grown G3 (by omega) (fun k hk => (o2.lt k hk).1)
  go_wp2
  rw [rounds_succ]
  go_wp2
  go_ret
  have o4 := ReadsI.of_own o3
  rw [List.nil_append] at o4
  exact ⟨_, rfl, o4, B3⟩
end Go.Proofs.Ythhnicbkldknlaa
