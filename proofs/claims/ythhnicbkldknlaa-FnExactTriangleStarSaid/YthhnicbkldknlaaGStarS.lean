/-
  Ahead of StarMesh: in a network of two nodes or more every node has a wire.
  StarMesh in the model.
-/
import Derived.Test.YthhnicbkldknlaaDropSpec
import Derived.Test.YthhnicbkldknlaaGTree
namespace Go.Proofs.Ythhnicbkldknlaa
open Go.RowKit

theorem wire_at {n e s : Int} {ws : List W3} (h : NetV n e s ws) (h2 : 2 ≤ n) (v : Int) (h0 : 0 ≤ v) (h1 : v < n) : ∃ t ∈ ws, t.1 = v ∨ t.2.1 = v := by
  refine Classical.byContradiction fun hn => ?_
  have hno : ∀ t ∈ ws, t.1 ≠ v ∧ t.2.1 ≠ v := fun t ht => ⟨fun he => hn ⟨t, ht, .inl he⟩, fun he => hn ⟨t, ht, .inr he⟩⟩
  by_cases hv : v = 0
  · subst hv
    have := h.2.2 1 (by omega) (by omega) (fun x => x = 0) rfl (fun t ht => by have := hno t ht; simp [this.1, this.2])
    omega
  · have := h.2.2 v h0 h1 (fun x => x ≠ v) (fun e => hv e.symm) (fun t ht => by have := hno t ht; simp [this.1, this.2])
    exact this rfl
theorem wAt_conn {N : Nat} {e s : Int} {ws : List W3} (h : NetV N e s ws) (h2 : 2 ≤ N) (v : Nat) (hv : v < N) : 1 ≤ wAt ws (v : Int) := by
  obtain ⟨t, ht, ho⟩ := wire_at h (by omega) (v : Int) (by omega) (by omega)
  have hp := wBtw_mem h.2.1 ht
  obtain ⟨a0, a1, a2, _, _⟩ := h.2.1.mem ht
  have n5 : (N : Int) ≤ 5 := h.1.2.1
  have key : ∀ u : Nat, u < N → 0 < wBtw ws (v : Int) (u : Int) → 1 ≤ wAt ws (v : Int) := fun u hu hw => by
    have := (sumN_ge (f := fun k => wBtw ws (v : Int) (k : Int)) (fun k => (wBtw_le h.2.1 _ _).1) N u hu).1
    rw [wAt_sum h.2.1 (by omega) v hv]
    omega
  rcases ho with ho | ho
  · refine key t.2.1.toNat (by omega) ?_
    rw [show ((t.2.1.toNat : Nat) : Int) = t.2.1 by omega, ← ho]
    exact hp
  · refine key t.1.toNat (by omega) ?_
    rw [show ((t.1.toNat : Nat) : Int) = t.1 by omega, wBtw_comm, ← ho]
    exact hp
end Go.Proofs.Ythhnicbkldknlaa

namespace Go.Proofs.Ythhnicbkldknlaa
open Go.RowKit

/-- When a star can be replaced. -/
def StarOk (n e s x : Int) (ws : List W3) : Prop := netB n e s ws = true ∧ e ≤ x ∧ x < n
open Classical in
/-- The network without a node, whatever its neighbours. -/
noncomputable def starR (n e s x : Int) (ws : List W3) : Int × Int × Int × List W3 × Bool := if StarOk n e s x ws then redR (n - 1) e (s * wAt ws x) (meshR n.toNat ws x.toNat) else (0, 0, 0, [], false)
theorem starR_no {n e s x : Int} {ws : List W3} (h : ¬ StarOk n e s x ws) : starR n e s x ws = (0, 0, 0, [], false) := if_neg h
theorem starR_yes {n e s x : Int} {ws : List W3} (h : StarOk n e s x ws) : starR n e s x ws = redR (n - 1) e (s * wAt ws x) (meshR n.toNat ws x.toNat) := if_pos h
theorem starR_len (n e s x : Int) (ws : List W3) : (starR n e s x ws).2.2.2.1.length ≤ 50 := by
  by_cases h : StarOk n e s x ws
  · rw [starR_yes h]
    obtain ⟨hb, h1, h2⟩ := h
    have hV := netB_iff.1 hb
    obtain ⟨n1, n5, e1, -⟩ := hV.1
    have hlen := wiresV_len hV.2.1 n5
    have hV2 : WiresV n.toNat ws := by rw [show ((n.toNat : Nat) : Int) = n by omega]; exact hV.2.1
    have hm := (meshR_srt (v := x.toNat) hV2 (by omega) (by omega) hlen).2
    have := redR_len (n - 1) e (s * wAt ws x) (meshR n.toNat ws x.toNat)
    omega
  · rw [starR_no h]; simp
/-- What is known of a star that can be replaced. -/
theorem star_facts {N : Nat} {e s : Int} {X : Nat} {ws : List W3} (h : StarOk N e s X ws) : NetV N e s ws ∧ X < N ∧ N ≤ 5 ∧ 1 ≤ wAt ws (X : Int) := by
  obtain ⟨hb, h1, h2⟩ := h
  have hV := netB_iff.1 hb
  obtain ⟨n1, n5, e1, -⟩ := id hV.1
  exact ⟨hV, by omega, by omega, wAt_conn hV (by omega) X (by omega)⟩
set_option maxRecDepth 4000 in
set_option maxHeartbeats 6400000 in
theorem spec_starMesh (n e s x : Int) (v : Value) (ws : List W3) (w : World) (hr : ReadsW w v ws) :
    Calls Try.prog 15 #[.agg #[.int .i64 n, .int .i64 e, .int .i64 s, v], .int .i64 x] w (AnsN w (starR n e s x ws)) := by
  obtain ⟨W0, hW0⟩ : ∃ W0, W0 = (w.alloc (.cells #[.int .i64 n, .int .i64 e, .int .i64 s, v] 25)).alloc (.cells #[.int .i64 0, .int .i64 0, .int .i64 0, .slice none 0 0] 25) := ⟨_, rfl⟩
  have hs0 : W0.heap.size = w.heap.size + 2 := by rw [hW0]; simp
  have HX : Hid (boxN W0 w.heap.size n e s v) := Lib.hid (by rw [hW0]; exact (boxN.new w n e s v 25).later (by (repeat (first | exact Below.refl _ _ | (refine Below.setCell ?_ (by (first | exact Nat.le_refl _ | omega | (simp <;> omega) | simp)) _) | (refine Below.alloc ?_ (by (first | exact Nat.le_refl _ | omega | (simp <;> omega) | simp)) _) | (refine below_draws ?_ _)))))
  have HZ : Hid (box4 W0 (w.heap.size + 1) (.int .i64 0) (.int .i64 0) (.int .i64 0) (.slice none 0 0)) := Lib.hid (by rw [hW0]; have h := box4.new (w.alloc (.cells #[.int .i64 n, .int .i64 e, .int .i64 s, v] 25)) (.int .i64 0) (.int .i64 0) (.int .i64 0) (.slice none 0 0) 25; simpa using h)
  have HB0 : Hid (Below w.heap.size w W0) := Lib.hid (by rw [hW0]; (repeat (first | exact Below.refl _ _ | (refine Below.setCell ?_ (by (first | exact Nat.le_refl _ | omega | (simp <;> omega) | simp)) _) | (refine Below.alloc ?_ (by (first | exact Nat.le_refl _ | omega | (simp <;> omega) | simp)) _) | (refine below_draws ?_ _))))
  have HR0 := Lib.hid (hr.later HB0.out)
  have HOK := Lib.hid (spec_netOk n e s v ws W0 HR0.out)
  obtain ⟨x0, x1, x2, x3⟩ := HX.out
  by_cases hb : netB n e s ws = true
  case neg =>
    rw [starR_no (fun h => hb h.1)]
    rw [show netB n e s ws = false by simpa using hb] at HOK
    clear hb hr
    go_enter Try.func15, Try.ntmps15
    go_wp2_with fail
    rw [← hW0]
    clear hW0
    refine HOK.out.mono ?_
    rintro en w1 ⟨rfl, B1⟩
    obtain ⟨z0, z1, z2, z3, f0, f1, f2, f3, -⟩ := HZ.out.later B1
    have S1 := B1.size
    clear x0 x1 x2 x3
    go_wp2
    exact bodyPost_ret (v := .tuple #[.agg #[.int .i64 0, .int .i64 0, .int .i64 0, .slice none 0 0], .bool false]) (by simp (maxDischargeDepth := 8) [results, Try.results15, go_sem, *]) rfl (ansN_no (by have h0 := HB0.out; (repeat (first | exact Below.refl _ _ | (refine Below.setCell ?_ (by (first | exact Nat.le_refl _ | omega | (simp <;> omega) | simp)) _) | (refine Below.alloc ?_ (by (first | exact Nat.le_refl _ | omega | (simp <;> omega) | simp)) _) | (refine below_draws ?_ _) | exact h0 | (refine Below.trans ?_ (Below.mono h0 (by (first | exact Nat.le_refl _ | omega | (simp <;> omega) | simp)))) | exact B1 | (refine Below.trans ?_ (Below.mono B1 (by (first | exact Nat.le_refl _ | omega | (simp <;> omega) | simp))))))))
  rw [hb] at HOK
  have hV := netB_iff.1 hb
  obtain ⟨n1, n5, e1, e2, -⟩ := hV.1
  by_cases hx : e ≤ x ∧ x < n
  case neg =>
    rw [starR_no (fun h => hx ⟨h.2.1, h.2.2⟩)]
    have HIN := Lib.hid (fun W => spec_in_no x e (n - 1) W (by omega))
    clear hb hr hV
    go_enter Try.func15, Try.ntmps15
    go_wp2_with fail
    rw [← hW0]
    clear hW0
    refine HOK.out.mono ?_
    rintro en w1 ⟨rfl, B1⟩
    obtain ⟨x0, x1, x2, x3⟩ := HX.out.later B1
    obtain ⟨z0, z1, z2, z3, f0, f1, f2, f3, -⟩ := HZ.out.later B1
    have S1 := B1.size
    go_wp2_with fail
    refine (HIN.out _).mono ?_
    rintro en w2 ⟨rfl, rfl⟩
    clear x0 x1 x2 x3
    go_wp2
    exact bodyPost_ret (v := .tuple #[.agg #[.int .i64 0, .int .i64 0, .int .i64 0, .slice none 0 0], .bool false]) (by simp (maxDischargeDepth := 8) [results, Try.results15, go_sem, *]) rfl (ansN_no (by have h0 := HB0.out; (repeat (first | exact Below.refl _ _ | (refine Below.setCell ?_ (by (first | exact Nat.le_refl _ | omega | (simp <;> omega) | simp)) _) | (refine Below.alloc ?_ (by (first | exact Nat.le_refl _ | omega | (simp <;> omega) | simp)) _) | (refine below_draws ?_ _) | exact h0 | (refine Below.trans ?_ (Below.mono h0 (by (first | exact Nat.le_refl _ | omega | (simp <;> omega) | simp)))) | exact B1 | (refine Below.trans ?_ (Below.mono B1 (by (first | exact Nat.le_refl _ | omega | (simp <;> omega) | simp))))))))
  have HIN := Lib.hid (fun W => spec_in_yes x e (n - 1) W hx.1 (by omega))
  obtain ⟨N, rfl⟩ : ∃ N : Nat, n = N := ⟨n.toNat, by omega⟩
  obtain ⟨X, rfl⟩ : ∃ X : Nat, x = X := ⟨x.toNat, by omega⟩
  have hOk : StarOk N e s X ws := ⟨hb, hx.1, hx.2⟩
  rw [starR_yes hOk]
  have hwp := (star_facts hOk).2.2.2
  have HME := Lib.hid (fun v' W (h : ReadsW W v' ws) => spec_mesh N e s X v' ws W h hV (by omega) hwp)
  simp only [Int.toNat_natCast]
  obtain ⟨n', e', s', out, bb, hR⟩ : ∃ n' e' s' out bb, redR ((N : Int) - 1) e (s * wAt ws (X : Int)) (meshR N ws X) = (n', e', s', out, bb) := ⟨_, _, _, _, _, rfl⟩
  simp only [hR] at HME
  rw [hR]
  clear hb hr hV hOk hR hwp
  go_enter Try.func15, Try.ntmps15
  go_wp2_with fail
  rw [← hW0]
  clear hW0
  refine HOK.out.mono ?_
  rintro en w1 ⟨rfl, B1⟩
  have HX1 := Lib.hid (HX.out.later B1)
  obtain ⟨x0, x1, x2, x3⟩ := HX1.out
  have S1 := B1.size
  go_wp2_with fail
  refine (HIN.out _).mono ?_
  rintro en w2 ⟨rfl, rfl⟩
  go_wp2_with fail
  refine (HME.out _ _ (HR0.out.later B1)).mono ?_
  rintro en w5 ⟨p5, c5, rfl, o5, B5⟩
  have S5 := B5.size
  obtain ⟨z0, z1, z2, z3, f0, f1, f2, f3, -⟩ := (HZ.out.later B1).later B5
  have HO5 := Lib.hid o5
  clear x0 x1 x2 x3 o5
  go_wp2
  exact bodyPost_ret (v := .tuple #[.agg #[.int .i64 n', .int .i64 e', .int .i64 s', .slice p5 out.length c5], .bool bb]) (by simp (maxDischargeDepth := 8) [results, Try.results15, go_sem, *]) rfl ⟨p5, c5, rfl, by refine owns_mono (base := w1.heap.size) ?_ (by omega); have o5 := HO5.out; ((repeat (refine ownsRow_setCell_below ?_ ?_ _; rotate_left; focus (first | omega | (simp; done) | (simp; omega)))); with_reducible exact o5), by have h0 := HB0.out; (repeat (first | exact Below.refl _ _ | (refine Below.setCell ?_ (by (first | exact Nat.le_refl _ | omega | (simp <;> omega) | simp)) _) | (refine Below.alloc ?_ (by (first | exact Nat.le_refl _ | omega | (simp <;> omega) | simp)) _) | (refine below_draws ?_ _) | exact h0 | (refine Below.trans ?_ (Below.mono h0 (by (first | exact Nat.le_refl _ | omega | (simp <;> omega) | simp)))) | exact B1 | (refine Below.trans ?_ (Below.mono B1 (by (first | exact Nat.le_refl _ | omega | (simp <;> omega) | simp)))) | exact B5 | (refine Below.trans ?_ (Below.mono B5 (by (first | exact Nat.le_refl _ | omega | (simp <;> omega) | simp))))))⟩
end Go.Proofs.Ythhnicbkldknlaa
