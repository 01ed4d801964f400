/-
  PutWire in the program.
-/
import Derived.Test.YtaececpphdaciaaPutWireSpec
import Derived.Test.YtaececpphdaciaaBoxes
import Derived.Test.YtaececpphdaciaaHasNode
namespace Go.Proofs.Ytaececpphdaciaa
open Go.RowKit Go.Maps

/-- 'delete(m, pair)'. -/
theorem wpList_delete_pairs (w : World) {ops : Array Oper} {rest : List Oper} {o : Oper} {a : Act} {Q : Exit → Act → World → Prop} (hg : o.guard = none) (m x : Operand) (hop : o.op = Op.call { callee := Callee.builtin Builtin.delete, args := #[m, x], argTypes := #[85, 88] })
    (b N : Nat) (f : Int → Int → Option Int) (hm : a.eval m = .map (some b)) (h : owns2 w b N f) {lo hi : Int} (hx : a.eval x = .agg #[.int .i64 lo, .int .i64 hi]) (h1 : (Lit.int .i64 lo).wf = true) (h2 : (Lit.int .i64 hi).wf = true)
    (hK : ∀ w', owns2 w' b N (del2 f lo hi) → w.grownBy w' (some b) → wpList Try.prog ops Q rest (a.put o.dst (.tuple #[])) w') :
    wpList Try.prog ops Q (o :: rest) a w := by
  obtain ⟨D, ho, hf⟩ := h
  exact wpList_delete_own w hg m x 85 88 hop 3 pair_law Try.underlying85 _ b N D hm ho _ _ hx (key_pair h1 h2) (fun w' h3 h4 => hK w' ⟨_, h3, pm_del hf h1 h2⟩ h4.grown)

set_option maxRecDepth 4000 in
set_option maxHeartbeats 3200000 in
theorem putI_net (n e s a b x : Int) (v : Value) (ws : List W3) (w : World) (hr : ReadsW w v ws) (hb : netB n e s ws = false) :
    Calls Try.prog 55 #[.agg #[.int .i64 n, .int .i64 e, .int .i64 s, v], .int .i64 a, .int .i64 b, .int .i64 x] w (AnsN w (0, 0, 0, [], false)) := by
  have HOK := Lib.hid (impl_netOk n e s v ws ((w.alloc (.cells #[.int .i64 n, .int .i64 e, .int .i64 s, v] 25)).alloc (.cells #[.int .i64 0, .int .i64 0, .int .i64 0, .slice none 0 0] 25)) (hr.later (by (repeat (first | exact Below.refl _ _ | (refine Below.setCell ?_ (by (first | exact Nat.le_refl _ | omega | (simp <;> omega) | simp)) _) | (refine Below.alloc ?_ (by (first | exact Nat.le_refl _ | omega | (simp <;> omega) | simp)) _) | (refine below_draws ?_ _))))))
  rw [hb] at HOK
  clear hb hr
  have X : Hid (box4 ((w.alloc (.cells #[.int .i64 n, .int .i64 e, .int .i64 s, v] 25)).alloc (.cells #[.int .i64 0, .int .i64 0, .int .i64 0, .slice none 0 0] 25)) w.heap.size (.int .i64 n) (.int .i64 e) (.int .i64 s) v) := Lib.hid ((box4.new _ _ _ _ _ _).alloc _)
  have Z : Hid (box4 ((w.alloc (.cells #[.int .i64 n, .int .i64 e, .int .i64 s, v] 25)).alloc (.cells #[.int .i64 0, .int .i64 0, .int .i64 0, .slice none 0 0] 25)) (w.heap.size + 1) (.int .i64 0) (.int .i64 0) (.int .i64 0) (.slice none 0 0)) := Lib.hid (by have h := box4.new (w.alloc (.cells #[.int .i64 n, .int .i64 e, .int .i64 s, v] 25)) (.int .i64 0) (.int .i64 0) (.int .i64 0) (.slice none 0 0) 25; simpa using h)
  go_enter Try.func55, Try.ntmps55
  go_wp2_with fail
  refine HOK.out.mono ?_
  rintro en w1 ⟨rfl, B1⟩
  have X := Lib.hid (X.out.below B1 (by simp; omega)); have Z := Lib.hid (Z.out.below B1 (by simp))
  have S1 := B1.size; simp at S1
  have M1 : Below w.heap.size w w1 := by (repeat (first | exact Below.refl _ _ | (refine Below.setCell ?_ (by (first | exact Nat.le_refl _ | omega | (simp <;> omega) | simp)) _) | (refine Below.alloc ?_ (by (first | exact Nat.le_refl _ | omega | (simp <;> omega) | simp)) _) | (refine below_draws ?_ _) | exact B1 | (refine Below.trans ?_ (Below.mono B1 (by (first | exact Nat.le_refl _ | omega | (simp <;> omega) | simp))))))
  clear B1
  obtain ⟨k0, k1, k2, k3, -⟩ := id X.out
  obtain ⟨z0, z1, z2, z3, f0, f1, f2, f3, -⟩ := id Z.out
  go_wp2
  exact bodyPost_ret (v := .tuple #[.agg #[.int .i64 0, .int .i64 0, .int .i64 0, .slice none 0 0], .bool false]) (by simp (maxDischargeDepth := 8) [results, Try.results55, go_sem, *]) rfl (ansN_no (by (repeat (first | exact Below.refl _ _ | (refine Below.setCell ?_ (by (first | exact Nat.le_refl _ | omega | (simp <;> omega) | simp)) _) | (refine Below.alloc ?_ (by (first | exact Nat.le_refl _ | omega | (simp <;> omega) | simp)) _) | (refine below_draws ?_ _) | exact M1 | (refine Below.trans ?_ (Below.mono M1 (by (first | exact Nat.le_refl _ | omega | (simp <;> omega) | simp))))))))
set_option maxRecDepth 4000 in
set_option maxHeartbeats 3200000 in
theorem putI_a (n e s a b x : Int) (v : Value) (ws : List W3) (w : World) (hr : ReadsW w v ws) (hb : netB n e s ws = true) (hA : ¬ (0 ≤ a ∧ a < n)) :
    Calls Try.prog 55 #[.agg #[.int .i64 n, .int .i64 e, .int .i64 s, v], .int .i64 a, .int .i64 b, .int .i64 x] w (AnsN w (0, 0, 0, [], false)) := by
  have HOK := Lib.hid (impl_netOk n e s v ws ((w.alloc (.cells #[.int .i64 n, .int .i64 e, .int .i64 s, v] 25)).alloc (.cells #[.int .i64 0, .int .i64 0, .int .i64 0, .slice none 0 0] 25)) (hr.later (by (repeat (first | exact Below.refl _ _ | (refine Below.setCell ?_ (by (first | exact Nat.le_refl _ | omega | (simp <;> omega) | simp)) _) | (refine Below.alloc ?_ (by (first | exact Nat.le_refl _ | omega | (simp <;> omega) | simp)) _) | (refine below_draws ?_ _))))))
  rw [hb] at HOK
  clear hb hr
  have X : Hid (box4 ((w.alloc (.cells #[.int .i64 n, .int .i64 e, .int .i64 s, v] 25)).alloc (.cells #[.int .i64 0, .int .i64 0, .int .i64 0, .slice none 0 0] 25)) w.heap.size (.int .i64 n) (.int .i64 e) (.int .i64 s) v) := Lib.hid ((box4.new _ _ _ _ _ _).alloc _)
  have Z : Hid (box4 ((w.alloc (.cells #[.int .i64 n, .int .i64 e, .int .i64 s, v] 25)).alloc (.cells #[.int .i64 0, .int .i64 0, .int .i64 0, .slice none 0 0] 25)) (w.heap.size + 1) (.int .i64 0) (.int .i64 0) (.int .i64 0) (.slice none 0 0)) := Lib.hid (by have h := box4.new (w.alloc (.cells #[.int .i64 n, .int .i64 e, .int .i64 s, v] 25)) (.int .i64 0) (.int .i64 0) (.int .i64 0) (.slice none 0 0) 25; simpa using h)
  go_enter Try.func55, Try.ntmps55
  go_wp2_with fail
  refine HOK.out.mono ?_
  rintro en w1 ⟨rfl, B1⟩
  have X := Lib.hid (X.out.below B1 (by simp; omega)); have Z := Lib.hid (Z.out.below B1 (by simp))
  have S1 := B1.size; simp at S1
  have M1 : Below w.heap.size w w1 := by (repeat (first | exact Below.refl _ _ | (refine Below.setCell ?_ (by (first | exact Nat.le_refl _ | omega | (simp <;> omega) | simp)) _) | (refine Below.alloc ?_ (by (first | exact Nat.le_refl _ | omega | (simp <;> omega) | simp)) _) | (refine below_draws ?_ _) | exact B1 | (refine Below.trans ?_ (Below.mono B1 (by (first | exact Nat.le_refl _ | omega | (simp <;> omega) | simp))))))
  clear B1
  obtain ⟨k0, k1, k2, k3, -⟩ := id X.out
  obtain ⟨z0, z1, z2, z3, f0, f1, f2, f3, -⟩ := id Z.out
  go_wp2_with fail
  refine (hasNode_no n e s a v _ (by omega)).mono ?_
  rintro en w2 ⟨rfl, B2⟩
  have X := Lib.hid (X.out.below B2 (by omega)); have Z := Lib.hid (Z.out.below B2 (by omega))
  have S2 := B2.size
  have M2 : Below w.heap.size w w2 := by (repeat (first | exact Below.refl _ _ | (refine Below.setCell ?_ (by (first | exact Nat.le_refl _ | omega | (simp <;> omega) | simp)) _) | (refine Below.alloc ?_ (by (first | exact Nat.le_refl _ | omega | (simp <;> omega) | simp)) _) | (refine below_draws ?_ _) | exact M1 | (refine Below.trans ?_ (Below.mono M1 (by (first | exact Nat.le_refl _ | omega | (simp <;> omega) | simp)))) | exact B2 | (refine Below.trans ?_ (Below.mono B2 (by (first | exact Nat.le_refl _ | omega | (simp <;> omega) | simp))))))
  clear k0 k1 k2 k3 z0 z1 z2 z3 f0 f1 f2 f3
  obtain ⟨k0, k1, k2, k3, -⟩ := id X.out
  obtain ⟨z0, z1, z2, z3, f0, f1, f2, f3, -⟩ := id Z.out
  go_wp2
  exact bodyPost_ret (v := .tuple #[.agg #[.int .i64 0, .int .i64 0, .int .i64 0, .slice none 0 0], .bool false]) (by simp (maxDischargeDepth := 8) [results, Try.results55, go_sem, *]) rfl (ansN_no (by (repeat (first | exact Below.refl _ _ | (refine Below.setCell ?_ (by (first | exact Nat.le_refl _ | omega | (simp <;> omega) | simp)) _) | (refine Below.alloc ?_ (by (first | exact Nat.le_refl _ | omega | (simp <;> omega) | simp)) _) | (refine below_draws ?_ _) | exact M2 | (refine Below.trans ?_ (Below.mono M2 (by (first | exact Nat.le_refl _ | omega | (simp <;> omega) | simp))))))))
set_option maxRecDepth 4000 in
set_option maxHeartbeats 3200000 in
theorem putI_b (n e s a b x : Int) (v : Value) (ws : List W3) (w : World) (hr : ReadsW w v ws) (hb : netB n e s ws = true) (hA : 0 ≤ a ∧ a < n) (hE : ¬ (0 ≤ b ∧ b < n)) :
    Calls Try.prog 55 #[.agg #[.int .i64 n, .int .i64 e, .int .i64 s, v], .int .i64 a, .int .i64 b, .int .i64 x] w (AnsN w (0, 0, 0, [], false)) := by
  have HOK := Lib.hid (impl_netOk n e s v ws ((w.alloc (.cells #[.int .i64 n, .int .i64 e, .int .i64 s, v] 25)).alloc (.cells #[.int .i64 0, .int .i64 0, .int .i64 0, .slice none 0 0] 25)) (hr.later (by (repeat (first | exact Below.refl _ _ | (refine Below.setCell ?_ (by (first | exact Nat.le_refl _ | omega | (simp <;> omega) | simp)) _) | (refine Below.alloc ?_ (by (first | exact Nat.le_refl _ | omega | (simp <;> omega) | simp)) _) | (refine below_draws ?_ _))))))
  rw [hb] at HOK
  clear hb hr
  have X : Hid (box4 ((w.alloc (.cells #[.int .i64 n, .int .i64 e, .int .i64 s, v] 25)).alloc (.cells #[.int .i64 0, .int .i64 0, .int .i64 0, .slice none 0 0] 25)) w.heap.size (.int .i64 n) (.int .i64 e) (.int .i64 s) v) := Lib.hid ((box4.new _ _ _ _ _ _).alloc _)
  have Z : Hid (box4 ((w.alloc (.cells #[.int .i64 n, .int .i64 e, .int .i64 s, v] 25)).alloc (.cells #[.int .i64 0, .int .i64 0, .int .i64 0, .slice none 0 0] 25)) (w.heap.size + 1) (.int .i64 0) (.int .i64 0) (.int .i64 0) (.slice none 0 0)) := Lib.hid (by have h := box4.new (w.alloc (.cells #[.int .i64 n, .int .i64 e, .int .i64 s, v] 25)) (.int .i64 0) (.int .i64 0) (.int .i64 0) (.slice none 0 0) 25; simpa using h)
  go_enter Try.func55, Try.ntmps55
  go_wp2_with fail
  refine HOK.out.mono ?_
  rintro en w1 ⟨rfl, B1⟩
  have X := Lib.hid (X.out.below B1 (by simp; omega)); have Z := Lib.hid (Z.out.below B1 (by simp))
  have S1 := B1.size; simp at S1
  have M1 : Below w.heap.size w w1 := by (repeat (first | exact Below.refl _ _ | (refine Below.setCell ?_ (by (first | exact Nat.le_refl _ | omega | (simp <;> omega) | simp)) _) | (refine Below.alloc ?_ (by (first | exact Nat.le_refl _ | omega | (simp <;> omega) | simp)) _) | (refine below_draws ?_ _) | exact B1 | (refine Below.trans ?_ (Below.mono B1 (by (first | exact Nat.le_refl _ | omega | (simp <;> omega) | simp))))))
  clear B1
  obtain ⟨k0, k1, k2, k3, -⟩ := id X.out
  obtain ⟨z0, z1, z2, z3, f0, f1, f2, f3, -⟩ := id Z.out
  go_wp2_with fail
  refine (hasNode_yes n e s a v _ (by omega)).mono ?_
  rintro en w2 ⟨rfl, B2⟩
  have X := Lib.hid (X.out.below B2 (by omega)); have Z := Lib.hid (Z.out.below B2 (by omega))
  have S2 := B2.size
  have M2 : Below w.heap.size w w2 := by (repeat (first | exact Below.refl _ _ | (refine Below.setCell ?_ (by (first | exact Nat.le_refl _ | omega | (simp <;> omega) | simp)) _) | (refine Below.alloc ?_ (by (first | exact Nat.le_refl _ | omega | (simp <;> omega) | simp)) _) | (refine below_draws ?_ _) | exact M1 | (refine Below.trans ?_ (Below.mono M1 (by (first | exact Nat.le_refl _ | omega | (simp <;> omega) | simp)))) | exact B2 | (refine Below.trans ?_ (Below.mono B2 (by (first | exact Nat.le_refl _ | omega | (simp <;> omega) | simp))))))
  clear k0 k1 k2 k3 z0 z1 z2 z3 f0 f1 f2 f3
  obtain ⟨k0, k1, k2, k3, -⟩ := id X.out
  obtain ⟨z0, z1, z2, z3, f0, f1, f2, f3, -⟩ := id Z.out
  go_wp2_with fail
  refine (hasNode_no n e s b v _ (by omega)).mono ?_
  rintro en w3 ⟨rfl, B3⟩
  have X := Lib.hid (X.out.below B3 (by omega)); have Z := Lib.hid (Z.out.below B3 (by omega))
  have S3 := B3.size
  have M3 : Below w.heap.size w w3 := by (repeat (first | exact Below.refl _ _ | (refine Below.setCell ?_ (by (first | exact Nat.le_refl _ | omega | (simp <;> omega) | simp)) _) | (refine Below.alloc ?_ (by (first | exact Nat.le_refl _ | omega | (simp <;> omega) | simp)) _) | (refine below_draws ?_ _) | exact M2 | (refine Below.trans ?_ (Below.mono M2 (by (first | exact Nat.le_refl _ | omega | (simp <;> omega) | simp)))) | exact B3 | (refine Below.trans ?_ (Below.mono B3 (by (first | exact Nat.le_refl _ | omega | (simp <;> omega) | simp))))))
  clear k0 k1 k2 k3 z0 z1 z2 z3 f0 f1 f2 f3
  obtain ⟨k0, k1, k2, k3, -⟩ := id X.out
  obtain ⟨z0, z1, z2, z3, f0, f1, f2, f3, -⟩ := id Z.out
  go_wp2
  exact bodyPost_ret (v := .tuple #[.agg #[.int .i64 0, .int .i64 0, .int .i64 0, .slice none 0 0], .bool false]) (by simp (maxDischargeDepth := 8) [results, Try.results55, go_sem, *]) rfl (ansN_no (by (repeat (first | exact Below.refl _ _ | (refine Below.setCell ?_ (by (first | exact Nat.le_refl _ | omega | (simp <;> omega) | simp)) _) | (refine Below.alloc ?_ (by (first | exact Nat.le_refl _ | omega | (simp <;> omega) | simp)) _) | (refine below_draws ?_ _) | exact M3 | (refine Below.trans ?_ (Below.mono M3 (by (first | exact Nat.le_refl _ | omega | (simp <;> omega) | simp))))))))
set_option maxRecDepth 4000 in
set_option maxHeartbeats 3200000 in
theorem putI_ab (n e s a b x : Int) (v : Value) (ws : List W3) (w : World) (hr : ReadsW w v ws) (hb : netB n e s ws = true) (hA : 0 ≤ a ∧ a < n) (hE : 0 ≤ b ∧ b < n) (hab : (a == b) = true) :
    Calls Try.prog 55 #[.agg #[.int .i64 n, .int .i64 e, .int .i64 s, v], .int .i64 a, .int .i64 b, .int .i64 x] w (AnsN w (0, 0, 0, [], false)) := by
  have HOK := Lib.hid (impl_netOk n e s v ws ((w.alloc (.cells #[.int .i64 n, .int .i64 e, .int .i64 s, v] 25)).alloc (.cells #[.int .i64 0, .int .i64 0, .int .i64 0, .slice none 0 0] 25)) (hr.later (by (repeat (first | exact Below.refl _ _ | (refine Below.setCell ?_ (by (first | exact Nat.le_refl _ | omega | (simp <;> omega) | simp)) _) | (refine Below.alloc ?_ (by (first | exact Nat.le_refl _ | omega | (simp <;> omega) | simp)) _) | (refine below_draws ?_ _))))))
  rw [hb] at HOK
  clear hb hr
  have X : Hid (box4 ((w.alloc (.cells #[.int .i64 n, .int .i64 e, .int .i64 s, v] 25)).alloc (.cells #[.int .i64 0, .int .i64 0, .int .i64 0, .slice none 0 0] 25)) w.heap.size (.int .i64 n) (.int .i64 e) (.int .i64 s) v) := Lib.hid ((box4.new _ _ _ _ _ _).alloc _)
  have Z : Hid (box4 ((w.alloc (.cells #[.int .i64 n, .int .i64 e, .int .i64 s, v] 25)).alloc (.cells #[.int .i64 0, .int .i64 0, .int .i64 0, .slice none 0 0] 25)) (w.heap.size + 1) (.int .i64 0) (.int .i64 0) (.int .i64 0) (.slice none 0 0)) := Lib.hid (by have h := box4.new (w.alloc (.cells #[.int .i64 n, .int .i64 e, .int .i64 s, v] 25)) (.int .i64 0) (.int .i64 0) (.int .i64 0) (.slice none 0 0) 25; simpa using h)
  go_enter Try.func55, Try.ntmps55
  go_wp2_with fail
  refine HOK.out.mono ?_
  rintro en w1 ⟨rfl, B1⟩
  have X := Lib.hid (X.out.below B1 (by simp; omega)); have Z := Lib.hid (Z.out.below B1 (by simp))
  have S1 := B1.size; simp at S1
  have M1 : Below w.heap.size w w1 := by (repeat (first | exact Below.refl _ _ | (refine Below.setCell ?_ (by (first | exact Nat.le_refl _ | omega | (simp <;> omega) | simp)) _) | (refine Below.alloc ?_ (by (first | exact Nat.le_refl _ | omega | (simp <;> omega) | simp)) _) | (refine below_draws ?_ _) | exact B1 | (refine Below.trans ?_ (Below.mono B1 (by (first | exact Nat.le_refl _ | omega | (simp <;> omega) | simp))))))
  clear B1
  obtain ⟨k0, k1, k2, k3, -⟩ := id X.out
  obtain ⟨z0, z1, z2, z3, f0, f1, f2, f3, -⟩ := id Z.out
  go_wp2_with fail
  refine (hasNode_yes n e s a v _ (by omega)).mono ?_
  rintro en w2 ⟨rfl, B2⟩
  have X := Lib.hid (X.out.below B2 (by omega)); have Z := Lib.hid (Z.out.below B2 (by omega))
  have S2 := B2.size
  have M2 : Below w.heap.size w w2 := by (repeat (first | exact Below.refl _ _ | (refine Below.setCell ?_ (by (first | exact Nat.le_refl _ | omega | (simp <;> omega) | simp)) _) | (refine Below.alloc ?_ (by (first | exact Nat.le_refl _ | omega | (simp <;> omega) | simp)) _) | (refine below_draws ?_ _) | exact M1 | (refine Below.trans ?_ (Below.mono M1 (by (first | exact Nat.le_refl _ | omega | (simp <;> omega) | simp)))) | exact B2 | (refine Below.trans ?_ (Below.mono B2 (by (first | exact Nat.le_refl _ | omega | (simp <;> omega) | simp))))))
  clear k0 k1 k2 k3 z0 z1 z2 z3 f0 f1 f2 f3
  obtain ⟨k0, k1, k2, k3, -⟩ := id X.out
  obtain ⟨z0, z1, z2, z3, f0, f1, f2, f3, -⟩ := id Z.out
  go_wp2_with fail
  refine (hasNode_yes n e s b v _ (by omega)).mono ?_
  rintro en w3 ⟨rfl, B3⟩
  have X := Lib.hid (X.out.below B3 (by omega)); have Z := Lib.hid (Z.out.below B3 (by omega))
  have S3 := B3.size
  have M3 : Below w.heap.size w w3 := by (repeat (first | exact Below.refl _ _ | (refine Below.setCell ?_ (by (first | exact Nat.le_refl _ | omega | (simp <;> omega) | simp)) _) | (refine Below.alloc ?_ (by (first | exact Nat.le_refl _ | omega | (simp <;> omega) | simp)) _) | (refine below_draws ?_ _) | exact M2 | (refine Below.trans ?_ (Below.mono M2 (by (first | exact Nat.le_refl _ | omega | (simp <;> omega) | simp)))) | exact B3 | (refine Below.trans ?_ (Below.mono B3 (by (first | exact Nat.le_refl _ | omega | (simp <;> omega) | simp))))))
  clear k0 k1 k2 k3 z0 z1 z2 z3 f0 f1 f2 f3
  obtain ⟨k0, k1, k2, k3, -⟩ := id X.out
  obtain ⟨z0, z1, z2, z3, f0, f1, f2, f3, -⟩ := id Z.out
  go_wp2
  exact bodyPost_ret (v := .tuple #[.agg #[.int .i64 0, .int .i64 0, .int .i64 0, .slice none 0 0], .bool false]) (by simp (maxDischargeDepth := 8) [results, Try.results55, go_sem, *]) rfl (ansN_no (by (repeat (first | exact Below.refl _ _ | (refine Below.setCell ?_ (by (first | exact Nat.le_refl _ | omega | (simp <;> omega) | simp)) _) | (refine Below.alloc ?_ (by (first | exact Nat.le_refl _ | omega | (simp <;> omega) | simp)) _) | (refine below_draws ?_ _) | exact M3 | (refine Below.trans ?_ (Below.mono M3 (by (first | exact Nat.le_refl _ | omega | (simp <;> omega) | simp))))))))
set_option maxRecDepth 4000 in
set_option maxHeartbeats 3200000 in
theorem putI_x0 (n e s a b x : Int) (v : Value) (ws : List W3) (w : World) (hr : ReadsW w v ws) (hb : netB n e s ws = true) (hA : 0 ≤ a ∧ a < n) (hE : 0 ≤ b ∧ b < n) (hab : (a == b) = false) (hx : x < 0) :
    Calls Try.prog 55 #[.agg #[.int .i64 n, .int .i64 e, .int .i64 s, v], .int .i64 a, .int .i64 b, .int .i64 x] w (AnsN w (0, 0, 0, [], false)) := by
  have HOK := Lib.hid (impl_netOk n e s v ws ((w.alloc (.cells #[.int .i64 n, .int .i64 e, .int .i64 s, v] 25)).alloc (.cells #[.int .i64 0, .int .i64 0, .int .i64 0, .slice none 0 0] 25)) (hr.later (by (repeat (first | exact Below.refl _ _ | (refine Below.setCell ?_ (by (first | exact Nat.le_refl _ | omega | (simp <;> omega) | simp)) _) | (refine Below.alloc ?_ (by (first | exact Nat.le_refl _ | omega | (simp <;> omega) | simp)) _) | (refine below_draws ?_ _))))))
  rw [hb] at HOK
  clear hb hr
  have X : Hid (box4 ((w.alloc (.cells #[.int .i64 n, .int .i64 e, .int .i64 s, v] 25)).alloc (.cells #[.int .i64 0, .int .i64 0, .int .i64 0, .slice none 0 0] 25)) w.heap.size (.int .i64 n) (.int .i64 e) (.int .i64 s) v) := Lib.hid ((box4.new _ _ _ _ _ _).alloc _)
  have Z : Hid (box4 ((w.alloc (.cells #[.int .i64 n, .int .i64 e, .int .i64 s, v] 25)).alloc (.cells #[.int .i64 0, .int .i64 0, .int .i64 0, .slice none 0 0] 25)) (w.heap.size + 1) (.int .i64 0) (.int .i64 0) (.int .i64 0) (.slice none 0 0)) := Lib.hid (by have h := box4.new (w.alloc (.cells #[.int .i64 n, .int .i64 e, .int .i64 s, v] 25)) (.int .i64 0) (.int .i64 0) (.int .i64 0) (.slice none 0 0) 25; simpa using h)
  go_enter Try.func55, Try.ntmps55
  go_wp2_with fail
  refine HOK.out.mono ?_
  rintro en w1 ⟨rfl, B1⟩
  have X := Lib.hid (X.out.below B1 (by simp; omega)); have Z := Lib.hid (Z.out.below B1 (by simp))
  have S1 := B1.size; simp at S1
  have M1 : Below w.heap.size w w1 := by (repeat (first | exact Below.refl _ _ | (refine Below.setCell ?_ (by (first | exact Nat.le_refl _ | omega | (simp <;> omega) | simp)) _) | (refine Below.alloc ?_ (by (first | exact Nat.le_refl _ | omega | (simp <;> omega) | simp)) _) | (refine below_draws ?_ _) | exact B1 | (refine Below.trans ?_ (Below.mono B1 (by (first | exact Nat.le_refl _ | omega | (simp <;> omega) | simp))))))
  clear B1
  obtain ⟨k0, k1, k2, k3, -⟩ := id X.out
  obtain ⟨z0, z1, z2, z3, f0, f1, f2, f3, -⟩ := id Z.out
  go_wp2_with fail
  refine (hasNode_yes n e s a v _ (by omega)).mono ?_
  rintro en w2 ⟨rfl, B2⟩
  have X := Lib.hid (X.out.below B2 (by omega)); have Z := Lib.hid (Z.out.below B2 (by omega))
  have S2 := B2.size
  have M2 : Below w.heap.size w w2 := by (repeat (first | exact Below.refl _ _ | (refine Below.setCell ?_ (by (first | exact Nat.le_refl _ | omega | (simp <;> omega) | simp)) _) | (refine Below.alloc ?_ (by (first | exact Nat.le_refl _ | omega | (simp <;> omega) | simp)) _) | (refine below_draws ?_ _) | exact M1 | (refine Below.trans ?_ (Below.mono M1 (by (first | exact Nat.le_refl _ | omega | (simp <;> omega) | simp)))) | exact B2 | (refine Below.trans ?_ (Below.mono B2 (by (first | exact Nat.le_refl _ | omega | (simp <;> omega) | simp))))))
  clear k0 k1 k2 k3 z0 z1 z2 z3 f0 f1 f2 f3
  obtain ⟨k0, k1, k2, k3, -⟩ := id X.out
  obtain ⟨z0, z1, z2, z3, f0, f1, f2, f3, -⟩ := id Z.out
  go_wp2_with fail
  refine (hasNode_yes n e s b v _ (by omega)).mono ?_
  rintro en w3 ⟨rfl, B3⟩
  have X := Lib.hid (X.out.below B3 (by omega)); have Z := Lib.hid (Z.out.below B3 (by omega))
  have S3 := B3.size
  have M3 : Below w.heap.size w w3 := by (repeat (first | exact Below.refl _ _ | (refine Below.setCell ?_ (by (first | exact Nat.le_refl _ | omega | (simp <;> omega) | simp)) _) | (refine Below.alloc ?_ (by (first | exact Nat.le_refl _ | omega | (simp <;> omega) | simp)) _) | (refine below_draws ?_ _) | exact M2 | (refine Below.trans ?_ (Below.mono M2 (by (first | exact Nat.le_refl _ | omega | (simp <;> omega) | simp)))) | exact B3 | (refine Below.trans ?_ (Below.mono B3 (by (first | exact Nat.le_refl _ | omega | (simp <;> omega) | simp))))))
  clear k0 k1 k2 k3 z0 z1 z2 z3 f0 f1 f2 f3
  obtain ⟨k0, k1, k2, k3, -⟩ := id X.out
  obtain ⟨z0, z1, z2, z3, f0, f1, f2, f3, -⟩ := id Z.out
  go_wp2
  exact bodyPost_ret (v := .tuple #[.agg #[.int .i64 0, .int .i64 0, .int .i64 0, .slice none 0 0], .bool false]) (by simp (maxDischargeDepth := 8) [results, Try.results55, go_sem, *]) rfl (ansN_no (by (repeat (first | exact Below.refl _ _ | (refine Below.setCell ?_ (by (first | exact Nat.le_refl _ | omega | (simp <;> omega) | simp)) _) | (refine Below.alloc ?_ (by (first | exact Nat.le_refl _ | omega | (simp <;> omega) | simp)) _) | (refine below_draws ?_ _) | exact M3 | (refine Below.trans ?_ (Below.mono M3 (by (first | exact Nat.le_refl _ | omega | (simp <;> omega) | simp))))))))
set_option maxRecDepth 4000 in
set_option maxHeartbeats 3200000 in
theorem putI_x1 (n e s a b x : Int) (v : Value) (ws : List W3) (w : World) (hr : ReadsW w v ws) (hb : netB n e s ws = true) (hA : 0 ≤ a ∧ a < n) (hE : 0 ≤ b ∧ b < n) (hab : (a == b) = false) (_hx0 : ¬ x < 0) (hx : 200 < x) :
    Calls Try.prog 55 #[.agg #[.int .i64 n, .int .i64 e, .int .i64 s, v], .int .i64 a, .int .i64 b, .int .i64 x] w (AnsN w (0, 0, 0, [], false)) := by
  have HOK := Lib.hid (impl_netOk n e s v ws ((w.alloc (.cells #[.int .i64 n, .int .i64 e, .int .i64 s, v] 25)).alloc (.cells #[.int .i64 0, .int .i64 0, .int .i64 0, .slice none 0 0] 25)) (hr.later (by (repeat (first | exact Below.refl _ _ | (refine Below.setCell ?_ (by (first | exact Nat.le_refl _ | omega | (simp <;> omega) | simp)) _) | (refine Below.alloc ?_ (by (first | exact Nat.le_refl _ | omega | (simp <;> omega) | simp)) _) | (refine below_draws ?_ _))))))
  rw [hb] at HOK
  clear hb hr
  have X : Hid (box4 ((w.alloc (.cells #[.int .i64 n, .int .i64 e, .int .i64 s, v] 25)).alloc (.cells #[.int .i64 0, .int .i64 0, .int .i64 0, .slice none 0 0] 25)) w.heap.size (.int .i64 n) (.int .i64 e) (.int .i64 s) v) := Lib.hid ((box4.new _ _ _ _ _ _).alloc _)
  have Z : Hid (box4 ((w.alloc (.cells #[.int .i64 n, .int .i64 e, .int .i64 s, v] 25)).alloc (.cells #[.int .i64 0, .int .i64 0, .int .i64 0, .slice none 0 0] 25)) (w.heap.size + 1) (.int .i64 0) (.int .i64 0) (.int .i64 0) (.slice none 0 0)) := Lib.hid (by have h := box4.new (w.alloc (.cells #[.int .i64 n, .int .i64 e, .int .i64 s, v] 25)) (.int .i64 0) (.int .i64 0) (.int .i64 0) (.slice none 0 0) 25; simpa using h)
  go_enter Try.func55, Try.ntmps55
  go_wp2_with fail
  refine HOK.out.mono ?_
  rintro en w1 ⟨rfl, B1⟩
  have X := Lib.hid (X.out.below B1 (by simp; omega)); have Z := Lib.hid (Z.out.below B1 (by simp))
  have S1 := B1.size; simp at S1
  have M1 : Below w.heap.size w w1 := by (repeat (first | exact Below.refl _ _ | (refine Below.setCell ?_ (by (first | exact Nat.le_refl _ | omega | (simp <;> omega) | simp)) _) | (refine Below.alloc ?_ (by (first | exact Nat.le_refl _ | omega | (simp <;> omega) | simp)) _) | (refine below_draws ?_ _) | exact B1 | (refine Below.trans ?_ (Below.mono B1 (by (first | exact Nat.le_refl _ | omega | (simp <;> omega) | simp))))))
  clear B1
  obtain ⟨k0, k1, k2, k3, -⟩ := id X.out
  obtain ⟨z0, z1, z2, z3, f0, f1, f2, f3, -⟩ := id Z.out
  go_wp2_with fail
  refine (hasNode_yes n e s a v _ (by omega)).mono ?_
  rintro en w2 ⟨rfl, B2⟩
  have X := Lib.hid (X.out.below B2 (by omega)); have Z := Lib.hid (Z.out.below B2 (by omega))
  have S2 := B2.size
  have M2 : Below w.heap.size w w2 := by (repeat (first | exact Below.refl _ _ | (refine Below.setCell ?_ (by (first | exact Nat.le_refl _ | omega | (simp <;> omega) | simp)) _) | (refine Below.alloc ?_ (by (first | exact Nat.le_refl _ | omega | (simp <;> omega) | simp)) _) | (refine below_draws ?_ _) | exact M1 | (refine Below.trans ?_ (Below.mono M1 (by (first | exact Nat.le_refl _ | omega | (simp <;> omega) | simp)))) | exact B2 | (refine Below.trans ?_ (Below.mono B2 (by (first | exact Nat.le_refl _ | omega | (simp <;> omega) | simp))))))
  clear k0 k1 k2 k3 z0 z1 z2 z3 f0 f1 f2 f3
  obtain ⟨k0, k1, k2, k3, -⟩ := id X.out
  obtain ⟨z0, z1, z2, z3, f0, f1, f2, f3, -⟩ := id Z.out
  go_wp2_with fail
  refine (hasNode_yes n e s b v _ (by omega)).mono ?_
  rintro en w3 ⟨rfl, B3⟩
  have X := Lib.hid (X.out.below B3 (by omega)); have Z := Lib.hid (Z.out.below B3 (by omega))
  have S3 := B3.size
  have M3 : Below w.heap.size w w3 := by (repeat (first | exact Below.refl _ _ | (refine Below.setCell ?_ (by (first | exact Nat.le_refl _ | omega | (simp <;> omega) | simp)) _) | (refine Below.alloc ?_ (by (first | exact Nat.le_refl _ | omega | (simp <;> omega) | simp)) _) | (refine below_draws ?_ _) | exact M2 | (refine Below.trans ?_ (Below.mono M2 (by (first | exact Nat.le_refl _ | omega | (simp <;> omega) | simp)))) | exact B3 | (refine Below.trans ?_ (Below.mono B3 (by (first | exact Nat.le_refl _ | omega | (simp <;> omega) | simp))))))
  clear k0 k1 k2 k3 z0 z1 z2 z3 f0 f1 f2 f3
  obtain ⟨k0, k1, k2, k3, -⟩ := id X.out
  obtain ⟨z0, z1, z2, z3, f0, f1, f2, f3, -⟩ := id Z.out
  go_wp2
  exact bodyPost_ret (v := .tuple #[.agg #[.int .i64 0, .int .i64 0, .int .i64 0, .slice none 0 0], .bool false]) (by simp (maxDischargeDepth := 8) [results, Try.results55, go_sem, *]) rfl (ansN_no (by (repeat (first | exact Below.refl _ _ | (refine Below.setCell ?_ (by (first | exact Nat.le_refl _ | omega | (simp <;> omega) | simp)) _) | (refine Below.alloc ?_ (by (first | exact Nat.le_refl _ | omega | (simp <;> omega) | simp)) _) | (refine below_draws ?_ _) | exact M3 | (refine Below.trans ?_ (Below.mono M3 (by (first | exact Nat.le_refl _ | omega | (simp <;> omega) | simp))))))))
set_option maxRecDepth 4000 in
set_option maxHeartbeats 3200000 in
theorem putI_yes (n e s a b x : Int) (v : Value) (ws : List W3) (w : World) (hr : ReadsW w v ws) (M : List W3) (lo hi : Int) (he : Ends a b lo hi) (hb : netB n e s ws = true) (hA : 0 ≤ a ∧ a < n) (hE : 0 ≤ b ∧ b < n) (hab : (a == b) = false) (hx1 : ¬ x < 0) (hx2 : ¬ 200 < x) (hx0 : (x == 0) = false) (hM : Lists (put2 (fAll ws) lo hi x) M) (hwf : ∀ t ∈ M, (Lit.int .i64 t.1).wf = true ∧ (Lit.int .i64 t.2.1).wf = true) :
    Calls Try.prog 55 #[.agg #[.int .i64 n, .int .i64 e, .int .i64 s, v], .int .i64 a, .int .i64 b, .int .i64 x] w (AnsN w (withR n e s M)) := by
  have HOK := Lib.hid (impl_netOk n e s v ws ((w.alloc (.cells #[.int .i64 n, .int .i64 e, .int .i64 s, v] 25)).alloc (.cells #[.int .i64 0, .int .i64 0, .int .i64 0, .slice none 0 0] 25)) (hr.later (by (repeat (first | exact Below.refl _ _ | (refine Below.setCell ?_ (by (first | exact Nat.le_refl _ | omega | (simp <;> omega) | simp)) _) | (refine Below.alloc ?_ (by (first | exact Nat.le_refl _ | omega | (simp <;> omega) | simp)) _) | (refine below_draws ?_ _))))))
  rw [hb] at HOK
  have hx3 : decide (x < 0) = false := by simp; omega
  have hx4 : decide (200 < x) = false := by simp; omega
  have hV := netB_iff.1 hb
  have n1 := hV.1.1
  have n5 := hV.1.2.1
  have hlen := wiresV_len hV.2.1 n5
  have HW := Lib.hid hV.2.1
  have hmm := ends_min he
  have HE := Lib.hid he
  have hwl : (Lit.int .i64 lo).wf = true := wf_of (by omega) (by omega)
  have hwh : (Lit.int .i64 hi).wf = true := wf_of (by omega) (by omega)
  have hwx : (Lit.int .i64 x).wf = true := wf_of (by omega) (by omega)
  have HWL := Lib.hid hwl; have HWH := Lib.hid hwh; have HWX := Lib.hid hwx
  have HM := Lib.hid hM; have HWF := Lib.hid hwf; have HR := Lib.hid hr
  obtain ⟨n', e', s', out, bb, hR⟩ : ∃ n' e' s' out bb, withR n e s M = (n', e', s', out, bb) := ⟨_, _, _, _, _, rfl⟩
  have HRR := Lib.hid hR
  rw [hR]
  clear hV hb hr he hmm hwl hwh hwx hM hwf hR
  have X : Hid (box4 ((w.alloc (.cells #[.int .i64 n, .int .i64 e, .int .i64 s, v] 25)).alloc (.cells #[.int .i64 0, .int .i64 0, .int .i64 0, .slice none 0 0] 25)) w.heap.size (.int .i64 n) (.int .i64 e) (.int .i64 s) v) := Lib.hid ((box4.new _ _ _ _ _ _).alloc _)
  have Z : Hid (box4 ((w.alloc (.cells #[.int .i64 n, .int .i64 e, .int .i64 s, v] 25)).alloc (.cells #[.int .i64 0, .int .i64 0, .int .i64 0, .slice none 0 0] 25)) (w.heap.size + 1) (.int .i64 0) (.int .i64 0) (.int .i64 0) (.slice none 0 0)) := Lib.hid (by have h := box4.new (w.alloc (.cells #[.int .i64 n, .int .i64 e, .int .i64 s, v] 25)) (.int .i64 0) (.int .i64 0) (.int .i64 0) (.slice none 0 0) 25; simpa using h)
  go_enter Try.func55, Try.ntmps55
  go_wp2_with fail
  refine HOK.out.mono ?_
  rintro en w1 ⟨rfl, B1⟩
  have X := Lib.hid (X.out.below B1 (by simp; omega)); have Z := Lib.hid (Z.out.below B1 (by simp))
  have S1 := B1.size; simp at S1
  have M1 : Below w.heap.size w w1 := by (repeat (first | exact Below.refl _ _ | (refine Below.setCell ?_ (by (first | exact Nat.le_refl _ | omega | (simp <;> omega) | simp)) _) | (refine Below.alloc ?_ (by (first | exact Nat.le_refl _ | omega | (simp <;> omega) | simp)) _) | (refine below_draws ?_ _) | exact B1 | (refine Below.trans ?_ (Below.mono B1 (by (first | exact Nat.le_refl _ | omega | (simp <;> omega) | simp))))))
  clear B1
  obtain ⟨k0, k1, k2, k3, -⟩ := id X.out
  obtain ⟨z0, z1, z2, z3, f0, f1, f2, f3, -⟩ := id Z.out
  go_wp2_with fail
  refine (hasNode_yes n e s a v _ (by omega)).mono ?_
  rintro en w2 ⟨rfl, B2⟩
  have X := Lib.hid (X.out.below B2 (by omega)); have Z := Lib.hid (Z.out.below B2 (by omega))
  have S2 := B2.size
  have M2 : Below w.heap.size w w2 := by (repeat (first | exact Below.refl _ _ | (refine Below.setCell ?_ (by (first | exact Nat.le_refl _ | omega | (simp <;> omega) | simp)) _) | (refine Below.alloc ?_ (by (first | exact Nat.le_refl _ | omega | (simp <;> omega) | simp)) _) | (refine below_draws ?_ _) | exact M1 | (refine Below.trans ?_ (Below.mono M1 (by (first | exact Nat.le_refl _ | omega | (simp <;> omega) | simp)))) | exact B2 | (refine Below.trans ?_ (Below.mono B2 (by (first | exact Nat.le_refl _ | omega | (simp <;> omega) | simp))))))
  clear k0 k1 k2 k3 z0 z1 z2 z3 f0 f1 f2 f3
  obtain ⟨k0, k1, k2, k3, -⟩ := id X.out
  obtain ⟨z0, z1, z2, z3, f0, f1, f2, f3, -⟩ := id Z.out
  go_wp2_with fail
  refine (hasNode_yes n e s b v _ (by omega)).mono ?_
  rintro en w3 ⟨rfl, B3⟩
  have X := Lib.hid (X.out.below B3 (by omega)); have Z := Lib.hid (Z.out.below B3 (by omega))
  have S3 := B3.size
  have M3 : Below w.heap.size w w3 := by (repeat (first | exact Below.refl _ _ | (refine Below.setCell ?_ (by (first | exact Nat.le_refl _ | omega | (simp <;> omega) | simp)) _) | (refine Below.alloc ?_ (by (first | exact Nat.le_refl _ | omega | (simp <;> omega) | simp)) _) | (refine below_draws ?_ _) | exact M2 | (refine Below.trans ?_ (Below.mono M2 (by (first | exact Nat.le_refl _ | omega | (simp <;> omega) | simp)))) | exact B3 | (refine Below.trans ?_ (Below.mono B3 (by (first | exact Nat.le_refl _ | omega | (simp <;> omega) | simp))))))
  clear k0 k1 k2 k3 z0 z1 z2 z3 f0 f1 f2 f3
  obtain ⟨k0, k1, k2, k3, -⟩ := id X.out
  obtain ⟨z0, z1, z2, z3, f0, f1, f2, f3, -⟩ := id Z.out
  go_wp2_with fail
  refine (weightsOf_any n e s v ws _ (HR.out.later (by (repeat (first | exact Below.refl _ _ | (refine Below.setCell ?_ (by (first | exact Nat.le_refl _ | omega | (simp <;> omega) | simp)) _) | (refine Below.alloc ?_ (by (first | exact Nat.le_refl _ | omega | (simp <;> omega) | simp)) _) | (refine below_draws ?_ _) | exact M3 | (refine Below.trans ?_ (Below.mono M3 (by (first | exact Nat.le_refl _ | omega | (simp <;> omega) | simp)))))))) HW.out n5 (by omega)).mono ?_
  rintro en w4 ⟨bm, rfl, hbm, O4, B4⟩
  have X := Lib.hid (X.out.below B4 (by omega)); have Z := Lib.hid (Z.out.below B4 (by omega))
  have S4 := B4.size
  have M4 : Below w.heap.size w w4 := by (repeat (first | exact Below.refl _ _ | (refine Below.setCell ?_ (by (first | exact Nat.le_refl _ | omega | (simp <;> omega) | simp)) _) | (refine Below.alloc ?_ (by (first | exact Nat.le_refl _ | omega | (simp <;> omega) | simp)) _) | (refine below_draws ?_ _) | exact M3 | (refine Below.trans ?_ (Below.mono M3 (by (first | exact Nat.le_refl _ | omega | (simp <;> omega) | simp)))) | exact B4 | (refine Below.trans ?_ (Below.mono B4 (by (first | exact Nat.le_refl _ | omega | (simp <;> omega) | simp))))))
  clear k0 k1 k2 k3 z0 z1 z2 z3 f0 f1 f2 f3
  have hbl := O4.lt
  have HO := Lib.hid O4; clear O4
  obtain ⟨k0, k1, k2, k3, -⟩ := id X.out
  obtain ⟨z0, z1, z2, z3, f0, f1, f2, f3, -⟩ := id Z.out
  go_wp2_with fail
  refine (pairOf_any a b lo hi HE.out _).mono ?_
  rintro en w5 ⟨rfl, B5⟩
  have X := Lib.hid (X.out.below B5 (by omega)); have Z := Lib.hid (Z.out.below B5 (by omega))
  have S5 := B5.size
  have M5 : Below w.heap.size w w5 := by (repeat (first | exact Below.refl _ _ | (refine Below.setCell ?_ (by (first | exact Nat.le_refl _ | omega | (simp <;> omega) | simp)) _) | (refine Below.alloc ?_ (by (first | exact Nat.le_refl _ | omega | (simp <;> omega) | simp)) _) | (refine below_draws ?_ _) | exact M4 | (refine Below.trans ?_ (Below.mono M4 (by (first | exact Nat.le_refl _ | omega | (simp <;> omega) | simp)))) | exact B5 | (refine Below.trans ?_ (Below.mono B5 (by (first | exact Nat.le_refl _ | omega | (simp <;> omega) | simp))))))
  clear k0 k1 k2 k3 z0 z1 z2 z3 f0 f1 f2 f3
  have HO := Lib.hid (HO.out.later B5)
  obtain ⟨k0, k1, k2, k3, -⟩ := id X.out
  obtain ⟨z0, z1, z2, z3, f0, f1, f2, f3, -⟩ := id Z.out
  obtain ⟨w6, hr6, O6, G6⟩ := run_put HO.out (by unfold maxLen; omega) HWL.out HWH.out HWX.out
  have HO := Lib.hid O6; clear O6
  have X := Lib.hid (X.out.grown G6 (by simp; omega)); have Z := Lib.hid (Z.out.grown G6 (by simp; omega))
  have S6 := G6.size
  have M6 : Below w.heap.size w w6 := M5.grown G6 (by omega) (fun j hj => by cases hj; omega)
  clear k0 k1 k2 k3 z0 z1 z2 z3 f0 f1 f2 f3 G6
  obtain ⟨k0, k1, k2, k3, -⟩ := id X.out
  obtain ⟨z0, z1, z2, z3, f0, f1, f2, f3, -⟩ := id Z.out
  go_wp2_with fail
  refine (withWires_any n e s v bm (ws.length + 1) _ M _ (by omega) HO.out HM.out HWF.out).mono ?_
  rw [HRR.out]
  rintro en w9 ⟨p9, c9, rfl, o9, B9⟩
  have Z := Lib.hid (Z.out.below B9 (by omega))
  clear k0 k1 k2 k3 z0 z1 z2 z3 f0 f1 f2 f3
  obtain ⟨z0, z1, z2, z3, f0, f1, f2, f3, -⟩ := id Z.out
  go_wp2
  exact bodyPost_ret (v := .tuple #[.agg #[.int .i64 n', .int .i64 e', .int .i64 s', .slice p9 out.length c9], .bool bb]) (by simp (maxDischargeDepth := 8) [results, Try.results55, go_sem, *]) rfl ⟨p9, c9, rfl, by refine owns_mono (base := w6.heap.size) ?_ (by omega); ((repeat (refine ownsRow_setCell_below ?_ ?_ _; rotate_left; focus (first | omega | (simp; done) | (simp; omega)))); with_reducible exact o9), by (repeat (first | exact Below.refl _ _ | (refine Below.setCell ?_ (by (first | exact Nat.le_refl _ | omega | (simp <;> omega) | simp)) _) | (refine Below.alloc ?_ (by (first | exact Nat.le_refl _ | omega | (simp <;> omega) | simp)) _) | (refine below_draws ?_ _) | exact M6 | (refine Below.trans ?_ (Below.mono M6 (by (first | exact Nat.le_refl _ | omega | (simp <;> omega) | simp)))) | exact B9 | (refine Below.trans ?_ (Below.mono B9 (by (first | exact Nat.le_refl _ | omega | (simp <;> omega) | simp))))))⟩
set_option maxRecDepth 4000 in
set_option maxHeartbeats 3200000 in
theorem putI_yes0 (n e s a b x : Int) (v : Value) (ws : List W3) (w : World) (hr : ReadsW w v ws) (M : List W3) (lo hi : Int) (he : Ends a b lo hi) (hb : netB n e s ws = true) (hA : 0 ≤ a ∧ a < n) (hE : 0 ≤ b ∧ b < n) (hab : (a == b) = false) (hx1 : ¬ x < 0) (hx2 : ¬ 200 < x) (hx0 : (x == 0) = true) (hM : Lists (del2 (put2 (fAll ws) lo hi x) lo hi) M) (hwf : ∀ t ∈ M, (Lit.int .i64 t.1).wf = true ∧ (Lit.int .i64 t.2.1).wf = true) :
    Calls Try.prog 55 #[.agg #[.int .i64 n, .int .i64 e, .int .i64 s, v], .int .i64 a, .int .i64 b, .int .i64 x] w (AnsN w (withR n e s M)) := by
  have HOK := Lib.hid (impl_netOk n e s v ws ((w.alloc (.cells #[.int .i64 n, .int .i64 e, .int .i64 s, v] 25)).alloc (.cells #[.int .i64 0, .int .i64 0, .int .i64 0, .slice none 0 0] 25)) (hr.later (by (repeat (first | exact Below.refl _ _ | (refine Below.setCell ?_ (by (first | exact Nat.le_refl _ | omega | (simp <;> omega) | simp)) _) | (refine Below.alloc ?_ (by (first | exact Nat.le_refl _ | omega | (simp <;> omega) | simp)) _) | (refine below_draws ?_ _))))))
  rw [hb] at HOK
  have hx3 : decide (x < 0) = false := by simp; omega
  have hx4 : decide (200 < x) = false := by simp; omega
  have hV := netB_iff.1 hb
  have n1 := hV.1.1
  have n5 := hV.1.2.1
  have hlen := wiresV_len hV.2.1 n5
  have HW := Lib.hid hV.2.1
  have hmm := ends_min he
  have HE := Lib.hid he
  have hwl : (Lit.int .i64 lo).wf = true := wf_of (by omega) (by omega)
  have hwh : (Lit.int .i64 hi).wf = true := wf_of (by omega) (by omega)
  have hwx : (Lit.int .i64 x).wf = true := wf_of (by omega) (by omega)
  have HWL := Lib.hid hwl; have HWH := Lib.hid hwh; have HWX := Lib.hid hwx
  have HM := Lib.hid hM; have HWF := Lib.hid hwf; have HR := Lib.hid hr
  obtain ⟨n', e', s', out, bb, hR⟩ : ∃ n' e' s' out bb, withR n e s M = (n', e', s', out, bb) := ⟨_, _, _, _, _, rfl⟩
  have HRR := Lib.hid hR
  rw [hR]
  clear hV hb hr he hmm hwl hwh hwx hM hwf hR
  have X : Hid (box4 ((w.alloc (.cells #[.int .i64 n, .int .i64 e, .int .i64 s, v] 25)).alloc (.cells #[.int .i64 0, .int .i64 0, .int .i64 0, .slice none 0 0] 25)) w.heap.size (.int .i64 n) (.int .i64 e) (.int .i64 s) v) := Lib.hid ((box4.new _ _ _ _ _ _).alloc _)
  have Z : Hid (box4 ((w.alloc (.cells #[.int .i64 n, .int .i64 e, .int .i64 s, v] 25)).alloc (.cells #[.int .i64 0, .int .i64 0, .int .i64 0, .slice none 0 0] 25)) (w.heap.size + 1) (.int .i64 0) (.int .i64 0) (.int .i64 0) (.slice none 0 0)) := Lib.hid (by have h := box4.new (w.alloc (.cells #[.int .i64 n, .int .i64 e, .int .i64 s, v] 25)) (.int .i64 0) (.int .i64 0) (.int .i64 0) (.slice none 0 0) 25; simpa using h)
  go_enter Try.func55, Try.ntmps55
  go_wp2_with fail
  refine HOK.out.mono ?_
  rintro en w1 ⟨rfl, B1⟩
  have X := Lib.hid (X.out.below B1 (by simp; omega)); have Z := Lib.hid (Z.out.below B1 (by simp))
  have S1 := B1.size; simp at S1
  have M1 : Below w.heap.size w w1 := by (repeat (first | exact Below.refl _ _ | (refine Below.setCell ?_ (by (first | exact Nat.le_refl _ | omega | (simp <;> omega) | simp)) _) | (refine Below.alloc ?_ (by (first | exact Nat.le_refl _ | omega | (simp <;> omega) | simp)) _) | (refine below_draws ?_ _) | exact B1 | (refine Below.trans ?_ (Below.mono B1 (by (first | exact Nat.le_refl _ | omega | (simp <;> omega) | simp))))))
  clear B1
  obtain ⟨k0, k1, k2, k3, -⟩ := id X.out
  obtain ⟨z0, z1, z2, z3, f0, f1, f2, f3, -⟩ := id Z.out
  go_wp2_with fail
  refine (hasNode_yes n e s a v _ (by omega)).mono ?_
  rintro en w2 ⟨rfl, B2⟩
  have X := Lib.hid (X.out.below B2 (by omega)); have Z := Lib.hid (Z.out.below B2 (by omega))
  have S2 := B2.size
  have M2 : Below w.heap.size w w2 := by (repeat (first | exact Below.refl _ _ | (refine Below.setCell ?_ (by (first | exact Nat.le_refl _ | omega | (simp <;> omega) | simp)) _) | (refine Below.alloc ?_ (by (first | exact Nat.le_refl _ | omega | (simp <;> omega) | simp)) _) | (refine below_draws ?_ _) | exact M1 | (refine Below.trans ?_ (Below.mono M1 (by (first | exact Nat.le_refl _ | omega | (simp <;> omega) | simp)))) | exact B2 | (refine Below.trans ?_ (Below.mono B2 (by (first | exact Nat.le_refl _ | omega | (simp <;> omega) | simp))))))
  clear k0 k1 k2 k3 z0 z1 z2 z3 f0 f1 f2 f3
  obtain ⟨k0, k1, k2, k3, -⟩ := id X.out
  obtain ⟨z0, z1, z2, z3, f0, f1, f2, f3, -⟩ := id Z.out
  go_wp2_with fail
  refine (hasNode_yes n e s b v _ (by omega)).mono ?_
  rintro en w3 ⟨rfl, B3⟩
  have X := Lib.hid (X.out.below B3 (by omega)); have Z := Lib.hid (Z.out.below B3 (by omega))
  have S3 := B3.size
  have M3 : Below w.heap.size w w3 := by (repeat (first | exact Below.refl _ _ | (refine Below.setCell ?_ (by (first | exact Nat.le_refl _ | omega | (simp <;> omega) | simp)) _) | (refine Below.alloc ?_ (by (first | exact Nat.le_refl _ | omega | (simp <;> omega) | simp)) _) | (refine below_draws ?_ _) | exact M2 | (refine Below.trans ?_ (Below.mono M2 (by (first | exact Nat.le_refl _ | omega | (simp <;> omega) | simp)))) | exact B3 | (refine Below.trans ?_ (Below.mono B3 (by (first | exact Nat.le_refl _ | omega | (simp <;> omega) | simp))))))
  clear k0 k1 k2 k3 z0 z1 z2 z3 f0 f1 f2 f3
  obtain ⟨k0, k1, k2, k3, -⟩ := id X.out
  obtain ⟨z0, z1, z2, z3, f0, f1, f2, f3, -⟩ := id Z.out
  go_wp2_with fail
  refine (weightsOf_any n e s v ws _ (HR.out.later (by (repeat (first | exact Below.refl _ _ | (refine Below.setCell ?_ (by (first | exact Nat.le_refl _ | omega | (simp <;> omega) | simp)) _) | (refine Below.alloc ?_ (by (first | exact Nat.le_refl _ | omega | (simp <;> omega) | simp)) _) | (refine below_draws ?_ _) | exact M3 | (refine Below.trans ?_ (Below.mono M3 (by (first | exact Nat.le_refl _ | omega | (simp <;> omega) | simp)))))))) HW.out n5 (by omega)).mono ?_
  rintro en w4 ⟨bm, rfl, hbm, O4, B4⟩
  have X := Lib.hid (X.out.below B4 (by omega)); have Z := Lib.hid (Z.out.below B4 (by omega))
  have S4 := B4.size
  have M4 : Below w.heap.size w w4 := by (repeat (first | exact Below.refl _ _ | (refine Below.setCell ?_ (by (first | exact Nat.le_refl _ | omega | (simp <;> omega) | simp)) _) | (refine Below.alloc ?_ (by (first | exact Nat.le_refl _ | omega | (simp <;> omega) | simp)) _) | (refine below_draws ?_ _) | exact M3 | (refine Below.trans ?_ (Below.mono M3 (by (first | exact Nat.le_refl _ | omega | (simp <;> omega) | simp)))) | exact B4 | (refine Below.trans ?_ (Below.mono B4 (by (first | exact Nat.le_refl _ | omega | (simp <;> omega) | simp))))))
  clear k0 k1 k2 k3 z0 z1 z2 z3 f0 f1 f2 f3
  have hbl := O4.lt
  have HO := Lib.hid O4; clear O4
  obtain ⟨k0, k1, k2, k3, -⟩ := id X.out
  obtain ⟨z0, z1, z2, z3, f0, f1, f2, f3, -⟩ := id Z.out
  go_wp2_with fail
  refine (pairOf_any a b lo hi HE.out _).mono ?_
  rintro en w5 ⟨rfl, B5⟩
  have X := Lib.hid (X.out.below B5 (by omega)); have Z := Lib.hid (Z.out.below B5 (by omega))
  have S5 := B5.size
  have M5 : Below w.heap.size w w5 := by (repeat (first | exact Below.refl _ _ | (refine Below.setCell ?_ (by (first | exact Nat.le_refl _ | omega | (simp <;> omega) | simp)) _) | (refine Below.alloc ?_ (by (first | exact Nat.le_refl _ | omega | (simp <;> omega) | simp)) _) | (refine below_draws ?_ _) | exact M4 | (refine Below.trans ?_ (Below.mono M4 (by (first | exact Nat.le_refl _ | omega | (simp <;> omega) | simp)))) | exact B5 | (refine Below.trans ?_ (Below.mono B5 (by (first | exact Nat.le_refl _ | omega | (simp <;> omega) | simp))))))
  clear k0 k1 k2 k3 z0 z1 z2 z3 f0 f1 f2 f3
  have HO := Lib.hid (HO.out.later B5)
  obtain ⟨k0, k1, k2, k3, -⟩ := id X.out
  obtain ⟨z0, z1, z2, z3, f0, f1, f2, f3, -⟩ := id Z.out
  obtain ⟨w6, hr6, O6, G6⟩ := run_put HO.out (by unfold maxLen; omega) HWL.out HWH.out HWX.out
  have HO := Lib.hid O6; clear O6
  have X := Lib.hid (X.out.grown G6 (by simp; omega)); have Z := Lib.hid (Z.out.grown G6 (by simp; omega))
  have S6 := G6.size
  have M6 : Below w.heap.size w w6 := M5.grown G6 (by omega) (fun j hj => by cases hj; omega)
  clear k0 k1 k2 k3 z0 z1 z2 z3 f0 f1 f2 f3 G6
  obtain ⟨k0, k1, k2, k3, -⟩ := id X.out
  obtain ⟨z0, z1, z2, z3, f0, f1, f2, f3, -⟩ := id Z.out
  go_wp2_with fail
  refine (pairOf_any a b lo hi HE.out _).mono ?_
  rintro en w7 ⟨rfl, B7⟩
  have X := Lib.hid (X.out.below B7 (by omega)); have Z := Lib.hid (Z.out.below B7 (by omega))
  have S7 := B7.size
  have M7 : Below w.heap.size w w7 := by (repeat (first | exact Below.refl _ _ | (refine Below.setCell ?_ (by (first | exact Nat.le_refl _ | omega | (simp <;> omega) | simp)) _) | (refine Below.alloc ?_ (by (first | exact Nat.le_refl _ | omega | (simp <;> omega) | simp)) _) | (refine below_draws ?_ _) | exact M6 | (refine Below.trans ?_ (Below.mono M6 (by (first | exact Nat.le_refl _ | omega | (simp <;> omega) | simp)))) | exact B7 | (refine Below.trans ?_ (Below.mono B7 (by (first | exact Nat.le_refl _ | omega | (simp <;> omega) | simp))))))
  clear k0 k1 k2 k3 z0 z1 z2 z3 f0 f1 f2 f3
  have HO := Lib.hid (HO.out.later B7)
  obtain ⟨k0, k1, k2, k3, -⟩ := id X.out
  obtain ⟨z0, z1, z2, z3, f0, f1, f2, f3, -⟩ := id Z.out
  go_wp2_with (at_delete; refine wpList_delete_pairs _ rfl _ _ rfl bm (ws.length + 1) _ rfl HO.out rfl HWL.out HWH.out ?_; intro w8 O8 G8; have HO := Lib.hid O8; clear O8; have X := Lib.hid (X.out.grown G8 (by simp; omega)); have Z := Lib.hid (Z.out.grown G8 (by simp; omega)); have S8 := G8.size; have M8 : Below w.heap.size w w8 := M7.grown G8 (by omega) (fun j hj => by cases hj; omega); clear k0 k1 k2 k3 z0 z1 z2 z3 f0 f1 f2 f3 G8; obtain ⟨k0, k1, k2, k3, -⟩ := id X.out; obtain ⟨z0, z1, z2, z3, f0, f1, f2, f3, -⟩ := id Z.out)
  refine (withWires_any n e s v bm (ws.length + 1) _ M _ (by omega) HO.out HM.out HWF.out).mono ?_
  rw [HRR.out]
  rintro en w9 ⟨p9, c9, rfl, o9, B9⟩
  have Z := Lib.hid (Z.out.below B9 (by omega))
  clear k0 k1 k2 k3 z0 z1 z2 z3 f0 f1 f2 f3
  obtain ⟨z0, z1, z2, z3, f0, f1, f2, f3, -⟩ := id Z.out
  go_wp2
  exact bodyPost_ret (v := .tuple #[.agg #[.int .i64 n', .int .i64 e', .int .i64 s', .slice p9 out.length c9], .bool bb]) (by simp (maxDischargeDepth := 8) [results, Try.results55, go_sem, *]) rfl ⟨p9, c9, rfl, by refine owns_mono (base := w8.heap.size) ?_ (by omega); ((repeat (refine ownsRow_setCell_below ?_ ?_ _; rotate_left; focus (first | omega | (simp; done) | (simp; omega)))); with_reducible exact o9), by (repeat (first | exact Below.refl _ _ | (refine Below.setCell ?_ (by (first | exact Nat.le_refl _ | omega | (simp <;> omega) | simp)) _) | (refine Below.alloc ?_ (by (first | exact Nat.le_refl _ | omega | (simp <;> omega) | simp)) _) | (refine below_draws ?_ _) | exact M8 | (refine Below.trans ?_ (Below.mono M8 (by (first | exact Nat.le_refl _ | omega | (simp <;> omega) | simp)))) | exact B9 | (refine Below.trans ?_ (Below.mono B9 (by (first | exact Nat.le_refl _ | omega | (simp <;> omega) | simp))))))⟩
theorem impl_putWire (n e s a b x : Int) (v : Value) (ws : List W3) (w : World) (hr : ReadsW w v ws) :
    Calls Try.prog 55 #[.agg #[.int .i64 n, .int .i64 e, .int .i64 s, v], .int .i64 a, .int .i64 b, .int .i64 x] w (AnsN w (putR n e s a b x ws)) := by
  by_cases hb : netB n e s ws = true
  case neg =>
    rw [putR_no (fun h => hb h.1)]
    exact putI_net n e s a b x v ws w hr (by simpa using hb)
  by_cases hP : PutOk n a b x
  case neg =>
    rw [putR_no (fun h => hP h.2)]
    by_cases hA : 0 ≤ a ∧ a < n
    case neg => exact putI_a n e s a b x v ws w hr hb hA
    by_cases hE : 0 ≤ b ∧ b < n
    case neg => exact putI_b n e s a b x v ws w hr hb hA hE
    by_cases hab : a = b
    case pos => exact putI_ab n e s a b x v ws w hr hb hA hE (by simpa using hab)
    have hab' : (a == b) = false := by simpa using hab
    by_cases hx0 : x < 0
    case pos => exact putI_x0 n e s a b x v ws w hr hb hA hE hab' hx0
    refine putI_x1 n e s a b x v ws w hr hb hA hE hab' hx0 ?_
    by_cases h : x ≤ 200
    · exact absurd ⟨hA, hE, hab, by omega, h⟩ hP
    · omega
  rw [putR_yes hb hP]
  obtain ⟨hA, hE, hab, hx⟩ := hP
  obtain ⟨lo, hi, he⟩ := ends_of a b
  have hmm := ends_min he
  rw [hmm.1, hmm.2]
  have hV := netB_iff.1 hb
  have n5 := hV.1.2.1
  have hab' : (a == b) = false := by simpa using hab
  have hwf := put_wf (x := x) hV.2.1 n5 (lo := lo) (hi := hi) (by omega) (by omega) (by omega) (by omega)
  by_cases hx0 : x = 0
  · exact putI_yes0 n e s a b x v ws w hr _ lo hi he hb hA hE hab' (by omega) (by omega) (by simpa using hx0) (by subst hx0; exact put_none hV.2.1 lo hi) hwf
  · exact putI_yes n e s a b x v ws w hr _ lo hi he hb hA hE hab' (by omega) (by omega) (by simpa using hx0) (put_some hV.2.1 lo hi hx0) hwf
end Go.Proofs.Ytaececpphdaciaa
