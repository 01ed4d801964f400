/-
  DropNode in the model.
-/
import Derived.Test.YtpkddaapffamiaaMesh
import Derived.Test.YtpkddaapffamiaaGKir
namespace Go.Proofs.Ytpkddaapffamiaa
open Go.RowKit

theorem sumN_ge {f : Nat → Int} (h : ∀ k, 0 ≤ f k) : ∀ (n j : Nat), j < n → f j ≤ sumN f n ∧ 0 ≤ sumN f n
  | 0, _, hj => absurd hj (Nat.not_lt_zero _)
  | n + 1, j, hj => by
    have hn := h n
    have e : sumN f (n + 1) = sumN f n + f n := rfl
    have h0 : 0 ≤ sumN f n := by
      clear hj e
      induction n with
      | zero => simp [sumN]
      | succ n ih => have := ih (h n); have e : sumN f (n + 1) = sumN f n + f n := rfl; have := h n; omega
    by_cases hjn : j = n
    · subst hjn; omega
    · have := (sumN_ge h n j (by omega)).1; omega
theorem wAt_pos {N : Nat} {ws : List W3} (h : WiresV N ws) (hN : N ≤ 5) (x : Nat) (hx : x < N) (hl : 1 ≤ (nearK ws (x : Int) N).length) : 1 ≤ wAt ws (x : Int) := by
  obtain ⟨u, hu⟩ : ∃ u, u ∈ nearK ws (x : Int) N := ⟨_, List.getElem_mem (show 0 < (nearK ws (x : Int) N).length by omega)⟩
  obtain ⟨u0, u1, u2⟩ := nearK_mem hu
  have := (sumN_ge (f := fun k => wBtw ws (x : Int) (k : Int)) (fun k => (wBtw_le h _ _).1) N u.toNat (by omega)).1
  rw [wAt_sum h hN x hx]
  simp only [show ((u.toNat : Nat) : Int) = u by omega] at this
  omega
/-- When a node can be dropped. -/
def DropOk (n e s x : Int) (ws : List W3) : Prop := netB n e s ws = true ∧ e ≤ x ∧ x < n ∧ 1 ≤ (nearK ws x n.toNat).length ∧ (nearK ws x n.toNat).length ≤ 2
open Classical in
/-- The network without a node. -/
noncomputable def dropR (n e s x : Int) (ws : List W3) : Int × Int × Int × List W3 × Bool := if DropOk n e s x ws then redR (n - 1) e (s * wAt ws x) (meshR n.toNat ws x.toNat) else (0, 0, 0, [], false)
theorem dropR_no {n e s x : Int} {ws : List W3} (h : ¬ DropOk n e s x ws) : dropR n e s x ws = (0, 0, 0, [], false) := if_neg h
theorem dropR_yes {n e s x : Int} {ws : List W3} (h : DropOk n e s x ws) : dropR n e s x ws = redR (n - 1) e (s * wAt ws x) (meshR n.toNat ws x.toNat) := if_pos h
theorem redR_len (n e s : Int) (ws : List W3) : (redR n e s ws).2.2.2.1.length ≤ ws.length := by
  unfold redR
  split
  · have := dropZ_len ws; simpa using this
  · simp
theorem dropR_len (n e s x : Int) (ws : List W3) : (dropR n e s x ws).2.2.2.1.length ≤ 50 := by
  by_cases h : DropOk n e s x ws
  · rw [dropR_yes h]
    obtain ⟨hb, h1, h2, _, _⟩ := h
    have hV := netB_iff.1 hb
    obtain ⟨n1, n5, e1, -⟩ := hV.1
    have hlen := wiresV_len hV.2.1 n5
    have hV2 : WiresV n.toNat ws := by rw [show ((n.toNat : Nat) : Int) = n by omega]; exact hV.2.1
    have hm := (meshR_srt (v := x.toNat) hV2 (by omega) (by omega) hlen).2
    have := redR_len (n - 1) e (s * wAt ws x) (meshR n.toNat ws x.toNat)
    omega
  · rw [dropR_no h]; simp
set_option maxRecDepth 4000 in
set_option maxHeartbeats 6400000 in
theorem spec_dropNode (n e s x : Int) (v : Value) (ws : List W3) (w : World) (hr : ReadsW w v ws) :
    Calls Try.prog 49 #[.agg #[.int .i64 n, .int .i64 e, .int .i64 s, v], .int .i64 x] w (AnsN w (dropR n e s x ws)) := by
  obtain ⟨W0, hW0⟩ : ∃ W0, W0 = (w.alloc (.cells #[.int .i64 n, .int .i64 e, .int .i64 s, v] 25)).alloc (.cells #[.int .i64 0, .int .i64 0, .int .i64 0, .slice none 0 0] 25) := ⟨_, rfl⟩
  have hs0 : W0.heap.size = w.heap.size + 2 := by rw [hW0]; simp
  have HX : Hid (boxN W0 w.heap.size n e s v) := Lib.hid (by rw [hW0]; exact (boxN.new w n e s v 25).later (by (repeat (first | exact Below.refl _ _ | (refine Below.setCell ?_ (by (first | exact Nat.le_refl _ | omega | (simp <;> omega) | simp)) _) | (refine Below.alloc ?_ (by (first | exact Nat.le_refl _ | omega | (simp <;> omega) | simp)) _) | (refine below_draws ?_ _)))))
  have HZ : Hid (box4 W0 (w.heap.size + 1) (.int .i64 0) (.int .i64 0) (.int .i64 0) (.slice none 0 0)) := Lib.hid (by rw [hW0]; have h := box4.new (w.alloc (.cells #[.int .i64 n, .int .i64 e, .int .i64 s, v] 25)) (.int .i64 0) (.int .i64 0) (.int .i64 0) (.slice none 0 0) 25; simpa using h)
  have HB0 : Hid (Below w.heap.size w W0) := Lib.hid (by rw [hW0]; (repeat (first | exact Below.refl _ _ | (refine Below.setCell ?_ (by (first | exact Nat.le_refl _ | omega | (simp <;> omega) | simp)) _) | (refine Below.alloc ?_ (by (first | exact Nat.le_refl _ | omega | (simp <;> omega) | simp)) _) | (refine below_draws ?_ _))))
  have HR0 := Lib.hid (hr.later HB0.out)
  have HOK := Lib.hid (spec_netOk n e s v ws W0 HR0.out)
  obtain ⟨x0, x1, x2, x3⟩ := HX.out
  by_cases hb : netB n e s ws = true
  case neg =>
    rw [dropR_no (fun h => hb h.1)]
    rw [show netB n e s ws = false by simpa using hb] at HOK
    clear hb hr
    go_enter Try.func49, Try.ntmps49
    go_wp2_with fail
    rw [← hW0]
    clear hW0
    refine HOK.out.mono ?_
    rintro en w1 ⟨rfl, B1⟩
    obtain ⟨z0, z1, z2, z3, f0, f1, f2, f3, -⟩ := HZ.out.later B1
    have S1 := B1.size
    clear x0 x1 x2 x3
    go_wp2
    exact bodyPost_ret (v := .tuple #[.agg #[.int .i64 0, .int .i64 0, .int .i64 0, .slice none 0 0], .bool false]) (by simp (maxDischargeDepth := 8) [results, Try.results49, go_sem, *]) rfl (ansN_no (by have h0 := HB0.out; (repeat (first | exact Below.refl _ _ | (refine Below.setCell ?_ (by (first | exact Nat.le_refl _ | omega | (simp <;> omega) | simp)) _) | (refine Below.alloc ?_ (by (first | exact Nat.le_refl _ | omega | (simp <;> omega) | simp)) _) | (refine below_draws ?_ _) | exact h0 | (refine Below.trans ?_ (Below.mono h0 (by (first | exact Nat.le_refl _ | omega | (simp <;> omega) | simp)))) | exact B1 | (refine Below.trans ?_ (Below.mono B1 (by (first | exact Nat.le_refl _ | omega | (simp <;> omega) | simp))))))))
  rw [hb] at HOK
  have hV := netB_iff.1 hb
  obtain ⟨n1, n5, e1, e2, -⟩ := hV.1
  by_cases hx : e ≤ x ∧ x < n
  case neg =>
    rw [dropR_no (fun h => hx ⟨h.2.1, h.2.2.1⟩)]
    have HIN := Lib.hid (fun W => spec_in_no x e (n - 1) W (by omega))
    clear hb hr hV
    go_enter Try.func49, Try.ntmps49
    go_wp2_with fail
    rw [← hW0]
    clear hW0
    refine HOK.out.mono ?_
    rintro en w1 ⟨rfl, B1⟩
    obtain ⟨x0, x1, x2, x3⟩ := HX.out.later B1
    obtain ⟨z0, z1, z2, z3, f0, f1, f2, f3, -⟩ := HZ.out.later B1
    have S1 := B1.size
    go_wp2_with fail
    refine (HIN.out _).mono ?_
    rintro en w2 ⟨rfl, rfl⟩
    clear x0 x1 x2 x3
    go_wp2
    exact bodyPost_ret (v := .tuple #[.agg #[.int .i64 0, .int .i64 0, .int .i64 0, .slice none 0 0], .bool false]) (by simp (maxDischargeDepth := 8) [results, Try.results49, go_sem, *]) rfl (ansN_no (by have h0 := HB0.out; (repeat (first | exact Below.refl _ _ | (refine Below.setCell ?_ (by (first | exact Nat.le_refl _ | omega | (simp <;> omega) | simp)) _) | (refine Below.alloc ?_ (by (first | exact Nat.le_refl _ | omega | (simp <;> omega) | simp)) _) | (refine below_draws ?_ _) | exact h0 | (refine Below.trans ?_ (Below.mono h0 (by (first | exact Nat.le_refl _ | omega | (simp <;> omega) | simp)))) | exact B1 | (refine Below.trans ?_ (Below.mono B1 (by (first | exact Nat.le_refl _ | omega | (simp <;> omega) | simp))))))))
  have HIN := Lib.hid (fun W => spec_in_yes x e (n - 1) W hx.1 (by omega))
  obtain ⟨N, rfl⟩ : ∃ N : Nat, n = N := ⟨n.toNat, by omega⟩
  obtain ⟨X, rfl⟩ : ∃ X : Nat, x = X := ⟨x.toNat, by omega⟩
  have HNE := Lib.hid (fun W h => spec_near N (by omega) e s X v ws W h)
  have hnl := nearK_length ws (X : Int) N
  by_cases hl : 1 ≤ (nearK ws (X : Int) N).length ∧ (nearK ws (X : Int) N).length ≤ 2
  case neg =>
    rw [dropR_no (fun h => hl ⟨h.2.2.2.1, h.2.2.2.2⟩)]
    generalize nearK ws (X : Int) N = L at *
    have HI2 := Lib.hid (fun W => spec_in_no (L.length : Int) 1 2 W (by omega))
    clear hb hr hV
    go_enter Try.func49, Try.ntmps49
    go_wp2_with fail
    rw [← hW0]
    clear hW0
    refine HOK.out.mono ?_
    rintro en w1 ⟨rfl, B1⟩
    obtain ⟨x0, x1, x2, x3⟩ := HX.out.later B1
    have S1 := B1.size
    go_wp2_with fail
    refine (HIN.out _).mono ?_
    rintro en w2 ⟨rfl, rfl⟩
    go_wp2_with fail
    refine (HNE.out _ (HR0.out.later B1)).mono ?_
    rintro en w3 ⟨v3, rfl, o3, B3⟩
    obtain ⟨p3, c3, rfl, _, _⟩ := (ReadsI.of_own o3).shape
    have S3 := B3.size
    obtain ⟨z0, z1, z2, z3, f0, f1, f2, f3, -⟩ := (HZ.out.later B1).later B3
    clear x0 x1 x2 x3 o3
    go_wp2_with fail
    refine (HI2.out _).mono ?_
    rintro en w4 ⟨rfl, rfl⟩
    go_wp2
    exact bodyPost_ret (v := .tuple #[.agg #[.int .i64 0, .int .i64 0, .int .i64 0, .slice none 0 0], .bool false]) (by simp (maxDischargeDepth := 8) [results, Try.results49, go_sem, *]) rfl (ansN_no (by have h0 := HB0.out; (repeat (first | exact Below.refl _ _ | (refine Below.setCell ?_ (by (first | exact Nat.le_refl _ | omega | (simp <;> omega) | simp)) _) | (refine Below.alloc ?_ (by (first | exact Nat.le_refl _ | omega | (simp <;> omega) | simp)) _) | (refine below_draws ?_ _) | exact h0 | (refine Below.trans ?_ (Below.mono h0 (by (first | exact Nat.le_refl _ | omega | (simp <;> omega) | simp)))) | exact B1 | (refine Below.trans ?_ (Below.mono B1 (by (first | exact Nat.le_refl _ | omega | (simp <;> omega) | simp)))) | exact B3 | (refine Below.trans ?_ (Below.mono B3 (by (first | exact Nat.le_refl _ | omega | (simp <;> omega) | simp))))))))
  have hOk : DropOk N e s X ws := ⟨hb, hx.1, hx.2, hl.1, hl.2⟩
  rw [dropR_yes hOk]
  have hwp := wAt_pos hV.2.1 (by omega) X (by omega) hl.1
  have HME := Lib.hid (fun v' W (h : ReadsW W v' ws) => spec_mesh N e s X v' ws W h hV (by omega) hwp)
  simp only [Int.toNat_natCast]
  obtain ⟨n', e', s', out, bb, hR⟩ : ∃ n' e' s' out bb, redR ((N : Int) - 1) e (s * wAt ws (X : Int)) (meshR N ws X) = (n', e', s', out, bb) := ⟨_, _, _, _, _, rfl⟩
  simp only [hR] at HME
  rw [hR]
  generalize nearK ws (X : Int) N = L at *
  have HI2 := Lib.hid (fun W => spec_in_yes (L.length : Int) 1 2 W (by omega) (by omega))
  clear hb hr hV hOk hR hwp
  go_enter Try.func49, Try.ntmps49
  go_wp2_with fail
  rw [← hW0]
  clear hW0
  refine HOK.out.mono ?_
  rintro en w1 ⟨rfl, B1⟩
  have HX1 := Lib.hid (HX.out.later B1)
  obtain ⟨x0, x1, x2, x3⟩ := HX1.out
  have S1 := B1.size
  go_wp2_with fail
  refine (HIN.out _).mono ?_
  rintro en w2 ⟨rfl, rfl⟩
  go_wp2_with fail
  refine (HNE.out _ (HR0.out.later B1)).mono ?_
  rintro en w3 ⟨v3, rfl, o3, B3⟩
  obtain ⟨p3, c3, rfl, _, _⟩ := (ReadsI.of_own o3).shape
  have S3 := B3.size
  clear x0 x1 x2 x3 o3
  obtain ⟨x0, x1, x2, x3⟩ := HX1.out.later B3
  go_wp2_with fail
  refine (HI2.out _).mono ?_
  rintro en w4 ⟨rfl, rfl⟩
  go_wp2_with fail
  refine (HME.out _ _ ((HR0.out.later B1).later B3)).mono ?_
  rintro en w5 ⟨p5, c5, rfl, o5, B5⟩
  have S5 := B5.size
  obtain ⟨z0, z1, z2, z3, f0, f1, f2, f3, -⟩ := ((HZ.out.later B1).later B3).later B5
  have HO5 := Lib.hid o5
  clear x0 x1 x2 x3 o5
  go_wp2
  exact bodyPost_ret (v := .tuple #[.agg #[.int .i64 n', .int .i64 e', .int .i64 s', .slice p5 out.length c5], .bool bb]) (by simp (maxDischargeDepth := 8) [results, Try.results49, go_sem, *]) rfl ⟨p5, c5, rfl, by refine owns_mono (base := w3.heap.size) ?_ (by omega); have o5 := HO5.out; ((repeat (refine ownsRow_setCell_below ?_ ?_ _; rotate_left; focus (first | omega | (simp; done) | (simp; omega)))); with_reducible exact o5), by have h0 := HB0.out; (repeat (first | exact Below.refl _ _ | (refine Below.setCell ?_ (by (first | exact Nat.le_refl _ | omega | (simp <;> omega) | simp)) _) | (refine Below.alloc ?_ (by (first | exact Nat.le_refl _ | omega | (simp <;> omega) | simp)) _) | (refine below_draws ?_ _) | exact h0 | (refine Below.trans ?_ (Below.mono h0 (by (first | exact Nat.le_refl _ | omega | (simp <;> omega) | simp)))) | exact B1 | (refine Below.trans ?_ (Below.mono B1 (by (first | exact Nat.le_refl _ | omega | (simp <;> omega) | simp)))) | exact B3 | (refine Below.trans ?_ (Below.mono B3 (by (first | exact Nat.le_refl _ | omega | (simp <;> omega) | simp)))) | exact B5 | (refine Below.trans ?_ (Below.mono B5 (by (first | exact Nat.le_refl _ | omega | (simp <;> omega) | simp))))))⟩
end Go.Proofs.Ytpkddaapffamiaa
