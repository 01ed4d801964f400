/-
  weightsOf: the map of a network's weights.
-/
import Derived.Test.YtaececpphdaciaaGPair
import Derived.Test.YtaececpphdaciaaBetween
import Derived.Test.YtaececpphdaciaaGNet
namespace Go.Proofs.Ytaececpphdaciaa
open Go.RowKit Go.Maps

def fAll (ws : List W3) : Int → Int → Option Int := ws.foldl (fun f e => put2 f e.1 e.2.1 e.2.2) (fun _ _ => none)
theorem fAll_snoc (ws : List W3) (k : Nat) (h : k < ws.length) : fAll (ws.take (k + 1)) = put2 (fAll (ws.take k)) ws[k].1 ws[k].2.1 ws[k].2.2 := by
  unfold fAll; rw [List.take_succ_eq_append_getElem h, List.foldl_append]; rfl
/-- All weights times x. -/
def mulW (ws : List W3) (x : Int) : List W3 := ws.map (fun e => (e.1, e.2.1, e.2.2 * x))
theorem mulW_length (ws : List W3) (x : Int) : (mulW ws x).length = ws.length := List.length_map _
theorem fAll_mul {ws : List W3} {x : Int} {k : Nat} (h : k < ws.length) : fAll (mulW (ws.take (k + 1)) x) = put2 (fAll (mulW (ws.take k) x)) ws[k].1 ws[k].2.1 (ws[k].2.2 * x) := by
  unfold mulW fAll
  rw [List.take_succ_eq_append_getElem h, List.map_append, List.foldl_append]; rfl
theorem mulW_one (ws : List W3) : mulW ws 1 = ws := by
  unfold mulW
  simp
theorem three_mk {w : World} {g : Nat} {a b c : Value} (h0 : w.cell? ⟨g, 0, none⟩ = some a) (h1 : w.cell? ⟨g, 1, none⟩ = some b) (h2 : w.cell? ⟨g, 2, none⟩ = some c) (h3 : g < w.heap.size) : w.cell? ⟨g, 0, none⟩ = some a ∧ w.cell? ⟨g, 1, none⟩ = some b ∧ w.cell? ⟨g, 2, none⟩ = some c ∧ g < w.heap.size := ⟨h0, h1, h2, h3⟩
theorem three_grown {w w' : World} {row : Option Nat} {g : Nat} {a b c : Value} (hg : w.grownBy w' row) (hne : some g ≠ row) (h : w.cell? ⟨g, 0, none⟩ = some a ∧ w.cell? ⟨g, 1, none⟩ = some b ∧ w.cell? ⟨g, 2, none⟩ = some c ∧ g < w.heap.size) :
    w'.cell? ⟨g, 0, none⟩ = some a ∧ w'.cell? ⟨g, 1, none⟩ = some b ∧ w'.cell? ⟨g, 2, none⟩ = some c ∧ g < w'.heap.size :=
  ⟨hg.cell h.1 hne, hg.cell h.2.1 hne, hg.cell h.2.2.1 hne, Nat.lt_of_lt_of_le h.2.2.2 hg.size⟩
theorem three_below {w w' : World} {g : Nat} {a b c : Value} (hB : Below w.heap.size w w') (h : w.cell? ⟨g, 0, none⟩ = some a ∧ w.cell? ⟨g, 1, none⟩ = some b ∧ w.cell? ⟨g, 2, none⟩ = some c ∧ g < w.heap.size) :
    w'.cell? ⟨g, 0, none⟩ = some a ∧ w'.cell? ⟨g, 1, none⟩ = some b ∧ w'.cell? ⟨g, 2, none⟩ = some c ∧ g < w'.heap.size :=
  three_grown (row := none) ⟨hB.os, hB.tape, hB.output, hB.size, fun i hi _ => hB.block i hi⟩ (by simp) h

set_option maxRecDepth 4000 in
set_option maxHeartbeats 6400000 in
theorem multW_any (n e s x : Int) (v : Value) (ws : List W3) (w : World) (hr : ReadsW w v ws) (hw : WiresV n ws) (hn5 : n ≤ 5) (x0 : 0 ≤ x) (x1 : x ≤ 8000000) (hlen : ws.length ≤ 1048576) :
    Calls Try.prog 100 #[.agg #[.int .i64 n, .int .i64 e, .int .i64 s, v], .int .i64 x] w fun en w' => ∃ b, en = .returned (.map (some b)) ∧ w.heap.size ≤ b ∧ owns2 w' b ws.length (fAll (mulW ws x)) ∧ Below w.heap.size w w' := by
  have hmm := @run_makeMap Try.prog
  obtain ⟨hm, hr1⟩ := hr
  have o0 : owns2 _ _ 0 (fAll (mulW [] x)) := owns2_made (w.alloc (.cells #[.int .i64 n, .int .i64 e, .int .i64 s, v] 25))
  rcases hr1 with ⟨hx, p, cap, rfl⟩ | ⟨g0, o, cap, rfl, hc⟩
  · subst hx
    have O0 := Lib.hid o0; clear o0 hw
    go_enter Try.func100, Try.ntmps100
    go_wp2
    refine wp_loop_rounds 1 ?_
    rw [rounds_succ]
    go_wp2
    go_ret
    exact ⟨_, rfl, by omega, by simpa using O0.out, by (repeat (first | exact Below.refl _ _ | (refine Below.setCell ?_ (by (first | exact Nat.le_refl _ | omega | (simp <;> omega) | simp)) _) | (refine Below.alloc ?_ (by (first | exact Nat.le_refl _ | omega | (simp <;> omega) | simp)) _) | (refine below_draws ?_ _)))⟩
  have HC := Lib.hid hc; clear hc
  have HW := Lib.hid hw; clear hw
  have O0 := Lib.hid o0; clear o0
  go_enter Try.func100, Try.ntmps100
  go_wp2
  go_loopw [12] (fun i wr => ∃ k : Nat, k ≤ ws.length ∧ i = .int .i64 k ∧ owns2 wr (w.heap.size + 1) k (fAll (mulW (ws.take k) x)) ∧ w.heap.size + 1 < wr.heap.size ∧ Hid (Below w.heap.size w wr)) (fun i _ => ws.length - (intOf i).toNat)
  case atStart => exact ⟨0, Nat.zero_le _, rfl, by simpa using O0.out, by simp, Lib.hid (by (repeat (first | exact Below.refl _ _ | (refine Below.setCell ?_ (by (first | exact Nat.le_refl _ | omega | (simp <;> omega) | simp)) _) | (refine Below.alloc ?_ (by (first | exact Nat.le_refl _ | omega | (simp <;> omega) | simp)) _) | (refine below_draws ?_ _))))⟩
  case round =>
    obtain ⟨k, hk, rfl, hown, hsz, hB⟩ := hrel
    by_cases hlt : k < ws.length
    · obtain ⟨c0, c1, c2⟩ := HC.out k hlt
      have hg : g0 < w.heap.size := World.block_lt_of_cell? w _ c0
      rw [← hB.out.cell (p := ⟨g0, o + k * 3, none⟩) hg] at c0
      rw [← hB.out.cell (p := ⟨g0, o + k * 3 + 1, none⟩) hg] at c1
      rw [← hB.out.cell (p := ⟨g0, o + k * 3 + 2, none⟩) hg] at c2
      obtain ⟨v0, v1, v2, v3, v4⟩ := HW.out.1 k hlt
      have hp := fun W => pairOf_any ws[k].1 ws[k].2.1 ws[k].1 ws[k].2.1 (Or.inl ⟨v1, by omega, rfl, rfl⟩) W
      have HP := Lib.hid hp; clear hp
      have HO := Lib.hid hown; clear hown
      have hwx : (Lit.int .i64 ws[k].1).wf = true := wf_of (by omega) (by omega)
      have hwy : (Lit.int .i64 ws[k].2.1).wf = true := wf_of (by omega) (by omega)
      have hm0 : 0 ≤ ws[k].2.2 * x := Int.mul_nonneg (by omega) x0
      have hm1 : ws[k].2.2 * x ≤ 1600000000 := by
        have h := Int.mul_le_mul v4 x1 x0 (by omega : (0 : Int) ≤ 200)
        omega
      have hmk : IntKind.i64.wrap (ws[k].2.2 * x) = ws[k].2.2 * x := IntWalk.i64_in _ (by omega)
      have hwc : (Lit.int .i64 (ws[k].2.2 * x)).wf = true := by simp [Lit.wf, IntKind.min, IntKind.max, IntKind.bits, IntKind.signed]; omega
      have HX := Lib.hid hwx; have HY := Lib.hid hwy; have HZ := Lib.hid hwc
      clear hwx hwy hwc
      have hS2 : (wr.alloc (.cells #[.int .i64 ws[k].1, .int .i64 ws[k].2.1, .int .i64 ws[k].2.2] 29)).drew.cell? ⟨wr.heap.size, 0, none⟩ = some (.int .i64 ws[k].1) ∧ (wr.alloc (.cells #[.int .i64 ws[k].1, .int .i64 ws[k].2.1, .int .i64 ws[k].2.2] 29)).drew.cell? ⟨wr.heap.size, 1, none⟩ = some (.int .i64 ws[k].2.1) ∧ (wr.alloc (.cells #[.int .i64 ws[k].1, .int .i64 ws[k].2.1, .int .i64 ws[k].2.2] 29)).drew.cell? ⟨wr.heap.size, 2, none⟩ = some (.int .i64 ws[k].2.2) ∧ wr.heap.size < (wr.alloc (.cells #[.int .i64 ws[k].1, .int .i64 ws[k].2.1, .int .i64 ws[k].2.2] 29)).drew.heap.size := ⟨by simp, by simp, by simp, by simp⟩
      have hne : wr.heap.size ≠ w.heap.size + 1 := by omega
      go_wp2
      go_region_held3 (fun w' => w'.cell? ⟨wr.heap.size, 0, none⟩ = some (.int .i64 ws[k].1) ∧ w'.cell? ⟨wr.heap.size, 1, none⟩ = some (.int .i64 ws[k].2.1) ∧ w'.cell? ⟨wr.heap.size, 2, none⟩ = some (.int .i64 ws[k].2.2) ∧ wr.heap.size < w'.heap.size)
        (first | exact hS2 | exact hS3 | exact hS4)
        (first | (go_at_call 59; refine (HP.out _).mono ?_; rintro en w1 ⟨rfl, B1⟩; have hS3 := three_below B1 hS2; obtain ⟨wz, hrz, hoz, hgz⟩ := run_put ((HO.out.later (by (repeat (first | exact Below.refl _ _ | (refine Below.setCell ?_ (by (first | exact Nat.le_refl _ | omega | (simp <;> omega) | simp)) _) | (refine Below.alloc ?_ (by (first | exact Nat.le_refl _ | omega | (simp <;> omega) | simp)) _) | (refine below_draws ?_ _))))).later B1) (by unfold maxLen; omega) HX.out HY.out HZ.out; have hS4 := three_grown hgz (by simp; omega) hS3))
      all_goals
        have HF := Lib.hid (fAll_mul (x := x) hlt)
        go_wp2
        go_roundw
        case rel => exact ⟨k + 1, by omega, by go_num, by rw [HF.out]; exact hoz, by have := hgz.size; have := B1.size; simp at *; omega, Lib.hid (by have hB := hB.out; exact Below.grown (by (repeat (first | exact Below.refl _ _ | (refine Below.setCell ?_ (by (first | exact Nat.le_refl _ | omega | (simp <;> omega) | simp)) _) | (refine Below.alloc ?_ (by (first | exact Nat.le_refl _ | omega | (simp <;> omega) | simp)) _) | (refine below_draws ?_ _) | exact hB | (refine Below.trans ?_ (Below.mono hB (by (first | exact Nat.le_refl _ | omega | (simp <;> omega) | simp)))) | exact B1 | (refine Below.trans ?_ (Below.mono B1 (by (first | exact Nat.le_refl _ | omega | (simp <;> omega) | simp))))))) hgz (by have := B1.size; simp at *; omega) (fun j hj => by cases hj; omega))⟩
        case measure => simp [intOf]; omega
    · obtain rfl : k = ws.length := by omega
      have HO := Lib.hid hown; clear hown
      go_wp2
      go_ret
      exact ⟨_, rfl, by omega, by have := HO.out; rwa [List.take_length] at this, hB.out⟩
theorem weightsOf_any (n e s : Int) (v : Value) (ws : List W3) (w : World) (hr : ReadsW w v ws) (hw : WiresV n ws) (hn5 : n ≤ 5) (hlen : ws.length ≤ 1048576) :
    Calls Try.prog 58 #[.agg #[.int .i64 n, .int .i64 e, .int .i64 s, v]] w fun en w' => ∃ b, en = .returned (.map (some b)) ∧ w.heap.size ≤ b ∧ owns2 w' b ws.length (fAll ws) ∧ Below w.heap.size w w' := by
  have B0 : Below w.heap.size w (w.alloc (.cells #[.int .i64 n, .int .i64 e, .int .i64 s, v] 25)) := by (repeat (first | exact Below.refl _ _ | (refine Below.setCell ?_ (by (first | exact Nat.le_refl _ | omega | (simp <;> omega) | simp)) _) | (refine Below.alloc ?_ (by (first | exact Nat.le_refl _ | omega | (simp <;> omega) | simp)) _) | (refine below_draws ?_ _)))
  have hm := multW_any n e s 1 v ws _ (hr.later B0) hw hn5 (by omega) (by omega) hlen
  rw [mulW_one] at hm
  have HM := Lib.hid hm; clear hm hr hw
  go_enter Try.func58, Try.ntmps58
  go_wp2_with fail
  refine HM.out.mono ?_
  rintro en w1 ⟨b, rfl, hb, o1, B1⟩
  go_wp2
  go_ret
  exact ⟨b, rfl, by simp at hb; omega, o1, by (repeat (first | exact Below.refl _ _ | (refine Below.setCell ?_ (by (first | exact Nat.le_refl _ | omega | (simp <;> omega) | simp)) _) | (refine Below.alloc ?_ (by (first | exact Nat.le_refl _ | omega | (simp <;> omega) | simp)) _) | (refine below_draws ?_ _) | exact B1 | (refine Below.trans ?_ (Below.mono B1 (by (first | exact Nat.le_refl _ | omega | (simp <;> omega) | simp))))))⟩
end Go.Proofs.Ytaececpphdaciaa
