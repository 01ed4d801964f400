/-
  SwapNodes and JoinNodes in the program.
-/
import Derived.Test.YtaececpphdaciaaSwapMath
import Derived.Test.YtaececpphdaciaaPutWireImpl
namespace Go.Proofs.Ytaececpphdaciaa
open Go.RowKit Go.Maps

/-- The block g of the world W begins with this value. -/
def box1 (W : World) (g : Nat) (a : Value) : Prop := W.cell? ⟨g, 0, none⟩ = some a ∧ g < W.heap.size
theorem box1.below {B g : Nat} {W W' : World} {a : Value} (h : box1 W g a) (hB : Below B W W') (hg : g < B) : box1 W' g a :=
  ⟨(hB.cell (p := ⟨g, 0, none⟩) hg).trans h.1, Nat.lt_of_lt_of_le h.2 hB.size⟩
theorem box1.grown {g : Nat} {W W' : World} {row : Option Nat} {a : Value} (h : box1 W g a) (hG : W.grownBy W' row) (hne : some g ≠ row) : box1 W' g a :=
  ⟨hG.cell h.1 hne, Nat.lt_of_lt_of_le h.2 hG.size⟩
theorem box1.alloc {g : Nat} {W : World} {a : Value} (h : box1 W g a) (o : Obj) : box1 (W.alloc o) g a := by
  have hl := h.2
  have hne : g ≠ W.heap.size := by omega
  exact ⟨(World.cell?_alloc_old W _ ⟨g, 0, none⟩ hne).trans h.1, by simp; omega⟩
theorem box1.new (W : World) (a : Value) (t : TypeId) : box1 (W.alloc (.cells #[a] t)) W.heap.size a := ⟨by simp [go_sem], by simp⟩
theorem box1.setCell {g : Nat} {W : World} {a v : Value} {p : Addr} (h : box1 W g a) (hp : p.block ≠ g) : box1 (W.setCell p v) g a :=
  ⟨(World.cell?_setCell_far _ _ _ _ hp).trans h.1, by simpa using h.2⟩
theorem six_below {w w' : World} {g p q : Nat} {x0 x1 x2 x3 u v : Value} (hB : Below w.heap.size w w')
    (h : w.cell? ⟨g, 0, none⟩ = some x0 ∧ w.cell? ⟨g, 1, none⟩ = some x1 ∧ w.cell? ⟨g, 2, none⟩ = some x2 ∧ w.cell? ⟨g, 3, none⟩ = some x3 ∧ w.cell? ⟨p, 0, none⟩ = some u ∧ w.cell? ⟨q, 0, none⟩ = some v ∧ g < w.heap.size) :
    w'.cell? ⟨g, 0, none⟩ = some x0 ∧ w'.cell? ⟨g, 1, none⟩ = some x1 ∧ w'.cell? ⟨g, 2, none⟩ = some x2 ∧ w'.cell? ⟨g, 3, none⟩ = some x3 ∧ w'.cell? ⟨p, 0, none⟩ = some u ∧ w'.cell? ⟨q, 0, none⟩ = some v ∧ g < w'.heap.size := by
  obtain ⟨h0, h1, h2, h3, h4, h5, h6⟩ := h
  have hg := World.block_lt_of_cell? w _ h0
  have hp := World.block_lt_of_cell? w _ h4
  have hq := World.block_lt_of_cell? w _ h5
  exact ⟨(hB.cell (p := ⟨g, 0, none⟩) hg).trans h0, (hB.cell (p := ⟨g, 1, none⟩) hg).trans h1, (hB.cell (p := ⟨g, 2, none⟩) hg).trans h2, (hB.cell (p := ⟨g, 3, none⟩) hg).trans h3, (hB.cell (p := ⟨p, 0, none⟩) hp).trans h4, (hB.cell (p := ⟨q, 0, none⟩) hq).trans h5, Nat.lt_of_lt_of_le h6 hB.size⟩
theorem six_set {w : World} {g p q : Nat} {x0 x1 x2 x3 u v y : Value} {r : Addr} (e0 : r.block ≠ g) (e1 : r.block ≠ p) (e2 : r.block ≠ q)
    (h : w.cell? ⟨g, 0, none⟩ = some x0 ∧ w.cell? ⟨g, 1, none⟩ = some x1 ∧ w.cell? ⟨g, 2, none⟩ = some x2 ∧ w.cell? ⟨g, 3, none⟩ = some x3 ∧ w.cell? ⟨p, 0, none⟩ = some u ∧ w.cell? ⟨q, 0, none⟩ = some v ∧ g < w.heap.size) :
    (w.setCell r y).cell? ⟨g, 0, none⟩ = some x0 ∧ (w.setCell r y).cell? ⟨g, 1, none⟩ = some x1 ∧ (w.setCell r y).cell? ⟨g, 2, none⟩ = some x2 ∧ (w.setCell r y).cell? ⟨g, 3, none⟩ = some x3 ∧ (w.setCell r y).cell? ⟨p, 0, none⟩ = some u ∧ (w.setCell r y).cell? ⟨q, 0, none⟩ = some v ∧ g < (w.setCell r y).heap.size := by
  obtain ⟨h0, h1, h2, h3, h4, h5, h6⟩ := h
  exact ⟨(World.cell?_setCell_far _ _ _ _ e0).trans h0, (World.cell?_setCell_far _ _ _ _ e0).trans h1, (World.cell?_setCell_far _ _ _ _ e0).trans h2, (World.cell?_setCell_far _ _ _ _ e0).trans h3, (World.cell?_setCell_far _ _ _ _ e1).trans h4, (World.cell?_setCell_far _ _ _ _ e2).trans h5, by simpa using h6⟩

set_option maxRecDepth 4000 in
set_option maxHeartbeats 6400000 in
theorem joinI_net (n e s a b : Int) (v : Value) (ws : List W3) (w : World) (hr : ReadsW w v ws) (hb : netB n e s ws = false) :
    Calls Try.prog 16 #[.agg #[.int .i64 n, .int .i64 e, .int .i64 s, v], .int .i64 a, .int .i64 b] w (AnsN w (0, 0, 0, [], false)) := by
  have HOK := Lib.hid (impl_netOk n e s v ws ((((w.alloc (.cells #[.int .i64 n, .int .i64 e, .int .i64 s, v] 25)).alloc (.cells #[.int .i64 a] 3)).alloc (.cells #[.int .i64 b] 3)).alloc (.cells #[.int .i64 0, .int .i64 0, .int .i64 0, .slice none 0 0] 25)) (hr.later (by (repeat (first | exact Below.refl _ _ | (refine Below.setCell ?_ (by (first | exact Nat.le_refl _ | omega | (simp <;> omega) | simp)) _) | (refine Below.alloc ?_ (by (first | exact Nat.le_refl _ | omega | (simp <;> omega) | simp)) _) | (refine below_draws ?_ _))))))
  rw [hb] at HOK
  clear hb hr
  have X : Hid (box4 ((((w.alloc (.cells #[.int .i64 n, .int .i64 e, .int .i64 s, v] 25)).alloc (.cells #[.int .i64 a] 3)).alloc (.cells #[.int .i64 b] 3)).alloc (.cells #[.int .i64 0, .int .i64 0, .int .i64 0, .slice none 0 0] 25)) w.heap.size (.int .i64 n) (.int .i64 e) (.int .i64 s) v) := Lib.hid ((((box4.new _ _ _ _ _ _).alloc _).alloc _).alloc _)
  have CA : Hid (box1 ((((w.alloc (.cells #[.int .i64 n, .int .i64 e, .int .i64 s, v] 25)).alloc (.cells #[.int .i64 a] 3)).alloc (.cells #[.int .i64 b] 3)).alloc (.cells #[.int .i64 0, .int .i64 0, .int .i64 0, .slice none 0 0] 25)) (w.heap.size + 1) (.int .i64 a)) := Lib.hid (by have h := ((box1.new (w.alloc (.cells #[.int .i64 n, .int .i64 e, .int .i64 s, v] 25)) (.int .i64 a) 3).alloc (.cells #[.int .i64 b] 3)).alloc (.cells #[.int .i64 0, .int .i64 0, .int .i64 0, .slice none 0 0] 25); simpa using h)
  have CB : Hid (box1 ((((w.alloc (.cells #[.int .i64 n, .int .i64 e, .int .i64 s, v] 25)).alloc (.cells #[.int .i64 a] 3)).alloc (.cells #[.int .i64 b] 3)).alloc (.cells #[.int .i64 0, .int .i64 0, .int .i64 0, .slice none 0 0] 25)) (w.heap.size + 1 + 1) (.int .i64 b)) := Lib.hid (by have h := (box1.new ((w.alloc (.cells #[.int .i64 n, .int .i64 e, .int .i64 s, v] 25)).alloc (.cells #[.int .i64 a] 3)) (.int .i64 b) 3).alloc (.cells #[.int .i64 0, .int .i64 0, .int .i64 0, .slice none 0 0] 25); simpa using h)
  have Z : Hid (box4 ((((w.alloc (.cells #[.int .i64 n, .int .i64 e, .int .i64 s, v] 25)).alloc (.cells #[.int .i64 a] 3)).alloc (.cells #[.int .i64 b] 3)).alloc (.cells #[.int .i64 0, .int .i64 0, .int .i64 0, .slice none 0 0] 25)) (w.heap.size + 1 + 1 + 1) (.int .i64 0) (.int .i64 0) (.int .i64 0) (.slice none 0 0)) := Lib.hid (by have h := box4.new (((w.alloc (.cells #[.int .i64 n, .int .i64 e, .int .i64 s, v] 25)).alloc (.cells #[.int .i64 a] 3)).alloc (.cells #[.int .i64 b] 3)) (.int .i64 0) (.int .i64 0) (.int .i64 0) (.slice none 0 0) 25; simpa using h)
  go_enter Try.func16, Try.ntmps16
  go_wp2_with fail
  refine HOK.out.mono ?_
  rintro en w1 ⟨rfl, B1⟩
  have X := Lib.hid (X.out.below B1 (by simp <;> omega)); have CA := Lib.hid (CA.out.below B1 (by simp <;> omega)); have CB := Lib.hid (CB.out.below B1 (by simp <;> omega)); have Z := Lib.hid (Z.out.below B1 (by simp <;> omega))
  have S1 := B1.size; simp at S1
  have M1 : Below w.heap.size w w1 := by (repeat (first | exact Below.refl _ _ | (refine Below.setCell ?_ (by (first | exact Nat.le_refl _ | omega | (simp <;> omega) | simp)) _) | (refine Below.alloc ?_ (by (first | exact Nat.le_refl _ | omega | (simp <;> omega) | simp)) _) | (refine below_draws ?_ _) | exact B1 | (refine Below.trans ?_ (Below.mono B1 (by (first | exact Nat.le_refl _ | omega | (simp <;> omega) | simp))))))
  clear B1
  obtain ⟨k0, k1, k2, k3, -⟩ := id X.out
  obtain ⟨ca, -⟩ := id CA.out
  obtain ⟨cb, -⟩ := id CB.out
  obtain ⟨z0, z1, z2, z3, f0, f1, f2, f3, -⟩ := id Z.out
  go_wp2
  exact bodyPost_ret (v := .tuple #[.agg #[.int .i64 0, .int .i64 0, .int .i64 0, .slice none 0 0], .bool false]) (by simp (maxDischargeDepth := 8) [results, Try.results16, go_sem, *]) rfl (ansN_no (by (repeat (first | exact Below.refl _ _ | (refine Below.setCell ?_ (by (first | exact Nat.le_refl _ | omega | (simp <;> omega) | simp)) _) | (refine Below.alloc ?_ (by (first | exact Nat.le_refl _ | omega | (simp <;> omega) | simp)) _) | (refine below_draws ?_ _) | exact M1 | (refine Below.trans ?_ (Below.mono M1 (by (first | exact Nat.le_refl _ | omega | (simp <;> omega) | simp))))))))
set_option maxRecDepth 4000 in
set_option maxHeartbeats 6400000 in
theorem joinI_a (n e s a b : Int) (v : Value) (ws : List W3) (w : World) (hr : ReadsW w v ws) (hb : netB n e s ws = true) (hA : ¬ (0 ≤ a ∧ a < n)) :
    Calls Try.prog 16 #[.agg #[.int .i64 n, .int .i64 e, .int .i64 s, v], .int .i64 a, .int .i64 b] w (AnsN w (0, 0, 0, [], false)) := by
  have HOK := Lib.hid (impl_netOk n e s v ws ((((w.alloc (.cells #[.int .i64 n, .int .i64 e, .int .i64 s, v] 25)).alloc (.cells #[.int .i64 a] 3)).alloc (.cells #[.int .i64 b] 3)).alloc (.cells #[.int .i64 0, .int .i64 0, .int .i64 0, .slice none 0 0] 25)) (hr.later (by (repeat (first | exact Below.refl _ _ | (refine Below.setCell ?_ (by (first | exact Nat.le_refl _ | omega | (simp <;> omega) | simp)) _) | (refine Below.alloc ?_ (by (first | exact Nat.le_refl _ | omega | (simp <;> omega) | simp)) _) | (refine below_draws ?_ _))))))
  rw [hb] at HOK
  clear hb hr
  have X : Hid (box4 ((((w.alloc (.cells #[.int .i64 n, .int .i64 e, .int .i64 s, v] 25)).alloc (.cells #[.int .i64 a] 3)).alloc (.cells #[.int .i64 b] 3)).alloc (.cells #[.int .i64 0, .int .i64 0, .int .i64 0, .slice none 0 0] 25)) w.heap.size (.int .i64 n) (.int .i64 e) (.int .i64 s) v) := Lib.hid ((((box4.new _ _ _ _ _ _).alloc _).alloc _).alloc _)
  have CA : Hid (box1 ((((w.alloc (.cells #[.int .i64 n, .int .i64 e, .int .i64 s, v] 25)).alloc (.cells #[.int .i64 a] 3)).alloc (.cells #[.int .i64 b] 3)).alloc (.cells #[.int .i64 0, .int .i64 0, .int .i64 0, .slice none 0 0] 25)) (w.heap.size + 1) (.int .i64 a)) := Lib.hid (by have h := ((box1.new (w.alloc (.cells #[.int .i64 n, .int .i64 e, .int .i64 s, v] 25)) (.int .i64 a) 3).alloc (.cells #[.int .i64 b] 3)).alloc (.cells #[.int .i64 0, .int .i64 0, .int .i64 0, .slice none 0 0] 25); simpa using h)
  have CB : Hid (box1 ((((w.alloc (.cells #[.int .i64 n, .int .i64 e, .int .i64 s, v] 25)).alloc (.cells #[.int .i64 a] 3)).alloc (.cells #[.int .i64 b] 3)).alloc (.cells #[.int .i64 0, .int .i64 0, .int .i64 0, .slice none 0 0] 25)) (w.heap.size + 1 + 1) (.int .i64 b)) := Lib.hid (by have h := (box1.new ((w.alloc (.cells #[.int .i64 n, .int .i64 e, .int .i64 s, v] 25)).alloc (.cells #[.int .i64 a] 3)) (.int .i64 b) 3).alloc (.cells #[.int .i64 0, .int .i64 0, .int .i64 0, .slice none 0 0] 25); simpa using h)
  have Z : Hid (box4 ((((w.alloc (.cells #[.int .i64 n, .int .i64 e, .int .i64 s, v] 25)).alloc (.cells #[.int .i64 a] 3)).alloc (.cells #[.int .i64 b] 3)).alloc (.cells #[.int .i64 0, .int .i64 0, .int .i64 0, .slice none 0 0] 25)) (w.heap.size + 1 + 1 + 1) (.int .i64 0) (.int .i64 0) (.int .i64 0) (.slice none 0 0)) := Lib.hid (by have h := box4.new (((w.alloc (.cells #[.int .i64 n, .int .i64 e, .int .i64 s, v] 25)).alloc (.cells #[.int .i64 a] 3)).alloc (.cells #[.int .i64 b] 3)) (.int .i64 0) (.int .i64 0) (.int .i64 0) (.slice none 0 0) 25; simpa using h)
  go_enter Try.func16, Try.ntmps16
  go_wp2_with fail
  refine HOK.out.mono ?_
  rintro en w1 ⟨rfl, B1⟩
  have X := Lib.hid (X.out.below B1 (by simp <;> omega)); have CA := Lib.hid (CA.out.below B1 (by simp <;> omega)); have CB := Lib.hid (CB.out.below B1 (by simp <;> omega)); have Z := Lib.hid (Z.out.below B1 (by simp <;> omega))
  have S1 := B1.size; simp at S1
  have M1 : Below w.heap.size w w1 := by (repeat (first | exact Below.refl _ _ | (refine Below.setCell ?_ (by (first | exact Nat.le_refl _ | omega | (simp <;> omega) | simp)) _) | (refine Below.alloc ?_ (by (first | exact Nat.le_refl _ | omega | (simp <;> omega) | simp)) _) | (refine below_draws ?_ _) | exact B1 | (refine Below.trans ?_ (Below.mono B1 (by (first | exact Nat.le_refl _ | omega | (simp <;> omega) | simp))))))
  clear B1
  obtain ⟨k0, k1, k2, k3, -⟩ := id X.out
  obtain ⟨ca, -⟩ := id CA.out
  obtain ⟨cb, -⟩ := id CB.out
  obtain ⟨z0, z1, z2, z3, f0, f1, f2, f3, -⟩ := id Z.out
  go_wp2_with fail
  refine (hasNode_no n e s a v _ (by omega)).mono ?_
  rintro en w2 ⟨rfl, B2⟩
  have X := Lib.hid (X.out.below B2 (by omega)); have CA := Lib.hid (CA.out.below B2 (by omega)); have CB := Lib.hid (CB.out.below B2 (by omega)); have Z := Lib.hid (Z.out.below B2 (by omega))
  have S2 := B2.size
  have M2 : Below w.heap.size w w2 := by (repeat (first | exact Below.refl _ _ | (refine Below.setCell ?_ (by (first | exact Nat.le_refl _ | omega | (simp <;> omega) | simp)) _) | (refine Below.alloc ?_ (by (first | exact Nat.le_refl _ | omega | (simp <;> omega) | simp)) _) | (refine below_draws ?_ _) | exact M1 | (refine Below.trans ?_ (Below.mono M1 (by (first | exact Nat.le_refl _ | omega | (simp <;> omega) | simp)))) | exact B2 | (refine Below.trans ?_ (Below.mono B2 (by (first | exact Nat.le_refl _ | omega | (simp <;> omega) | simp))))))
  clear k0 k1 k2 k3 ca cb z0 z1 z2 z3 f0 f1 f2 f3
  obtain ⟨k0, k1, k2, k3, -⟩ := id X.out
  obtain ⟨ca, -⟩ := id CA.out
  obtain ⟨cb, -⟩ := id CB.out
  obtain ⟨z0, z1, z2, z3, f0, f1, f2, f3, -⟩ := id Z.out
  go_wp2
  exact bodyPost_ret (v := .tuple #[.agg #[.int .i64 0, .int .i64 0, .int .i64 0, .slice none 0 0], .bool false]) (by simp (maxDischargeDepth := 8) [results, Try.results16, go_sem, *]) rfl (ansN_no (by (repeat (first | exact Below.refl _ _ | (refine Below.setCell ?_ (by (first | exact Nat.le_refl _ | omega | (simp <;> omega) | simp)) _) | (refine Below.alloc ?_ (by (first | exact Nat.le_refl _ | omega | (simp <;> omega) | simp)) _) | (refine below_draws ?_ _) | exact M2 | (refine Below.trans ?_ (Below.mono M2 (by (first | exact Nat.le_refl _ | omega | (simp <;> omega) | simp))))))))
set_option maxRecDepth 4000 in
set_option maxHeartbeats 6400000 in
theorem joinI_b (n e s a b : Int) (v : Value) (ws : List W3) (w : World) (hr : ReadsW w v ws) (hb : netB n e s ws = true) (hA : 0 ≤ a ∧ a < n) (hE : ¬ (0 ≤ b ∧ b < n)) :
    Calls Try.prog 16 #[.agg #[.int .i64 n, .int .i64 e, .int .i64 s, v], .int .i64 a, .int .i64 b] w (AnsN w (0, 0, 0, [], false)) := by
  have HOK := Lib.hid (impl_netOk n e s v ws ((((w.alloc (.cells #[.int .i64 n, .int .i64 e, .int .i64 s, v] 25)).alloc (.cells #[.int .i64 a] 3)).alloc (.cells #[.int .i64 b] 3)).alloc (.cells #[.int .i64 0, .int .i64 0, .int .i64 0, .slice none 0 0] 25)) (hr.later (by (repeat (first | exact Below.refl _ _ | (refine Below.setCell ?_ (by (first | exact Nat.le_refl _ | omega | (simp <;> omega) | simp)) _) | (refine Below.alloc ?_ (by (first | exact Nat.le_refl _ | omega | (simp <;> omega) | simp)) _) | (refine below_draws ?_ _))))))
  rw [hb] at HOK
  clear hb hr
  have X : Hid (box4 ((((w.alloc (.cells #[.int .i64 n, .int .i64 e, .int .i64 s, v] 25)).alloc (.cells #[.int .i64 a] 3)).alloc (.cells #[.int .i64 b] 3)).alloc (.cells #[.int .i64 0, .int .i64 0, .int .i64 0, .slice none 0 0] 25)) w.heap.size (.int .i64 n) (.int .i64 e) (.int .i64 s) v) := Lib.hid ((((box4.new _ _ _ _ _ _).alloc _).alloc _).alloc _)
  have CA : Hid (box1 ((((w.alloc (.cells #[.int .i64 n, .int .i64 e, .int .i64 s, v] 25)).alloc (.cells #[.int .i64 a] 3)).alloc (.cells #[.int .i64 b] 3)).alloc (.cells #[.int .i64 0, .int .i64 0, .int .i64 0, .slice none 0 0] 25)) (w.heap.size + 1) (.int .i64 a)) := Lib.hid (by have h := ((box1.new (w.alloc (.cells #[.int .i64 n, .int .i64 e, .int .i64 s, v] 25)) (.int .i64 a) 3).alloc (.cells #[.int .i64 b] 3)).alloc (.cells #[.int .i64 0, .int .i64 0, .int .i64 0, .slice none 0 0] 25); simpa using h)
  have CB : Hid (box1 ((((w.alloc (.cells #[.int .i64 n, .int .i64 e, .int .i64 s, v] 25)).alloc (.cells #[.int .i64 a] 3)).alloc (.cells #[.int .i64 b] 3)).alloc (.cells #[.int .i64 0, .int .i64 0, .int .i64 0, .slice none 0 0] 25)) (w.heap.size + 1 + 1) (.int .i64 b)) := Lib.hid (by have h := (box1.new ((w.alloc (.cells #[.int .i64 n, .int .i64 e, .int .i64 s, v] 25)).alloc (.cells #[.int .i64 a] 3)) (.int .i64 b) 3).alloc (.cells #[.int .i64 0, .int .i64 0, .int .i64 0, .slice none 0 0] 25); simpa using h)
  have Z : Hid (box4 ((((w.alloc (.cells #[.int .i64 n, .int .i64 e, .int .i64 s, v] 25)).alloc (.cells #[.int .i64 a] 3)).alloc (.cells #[.int .i64 b] 3)).alloc (.cells #[.int .i64 0, .int .i64 0, .int .i64 0, .slice none 0 0] 25)) (w.heap.size + 1 + 1 + 1) (.int .i64 0) (.int .i64 0) (.int .i64 0) (.slice none 0 0)) := Lib.hid (by have h := box4.new (((w.alloc (.cells #[.int .i64 n, .int .i64 e, .int .i64 s, v] 25)).alloc (.cells #[.int .i64 a] 3)).alloc (.cells #[.int .i64 b] 3)) (.int .i64 0) (.int .i64 0) (.int .i64 0) (.slice none 0 0) 25; simpa using h)
  go_enter Try.func16, Try.ntmps16
  go_wp2_with fail
  refine HOK.out.mono ?_
  rintro en w1 ⟨rfl, B1⟩
  have X := Lib.hid (X.out.below B1 (by simp <;> omega)); have CA := Lib.hid (CA.out.below B1 (by simp <;> omega)); have CB := Lib.hid (CB.out.below B1 (by simp <;> omega)); have Z := Lib.hid (Z.out.below B1 (by simp <;> omega))
  have S1 := B1.size; simp at S1
  have M1 : Below w.heap.size w w1 := by (repeat (first | exact Below.refl _ _ | (refine Below.setCell ?_ (by (first | exact Nat.le_refl _ | omega | (simp <;> omega) | simp)) _) | (refine Below.alloc ?_ (by (first | exact Nat.le_refl _ | omega | (simp <;> omega) | simp)) _) | (refine below_draws ?_ _) | exact B1 | (refine Below.trans ?_ (Below.mono B1 (by (first | exact Nat.le_refl _ | omega | (simp <;> omega) | simp))))))
  clear B1
  obtain ⟨k0, k1, k2, k3, -⟩ := id X.out
  obtain ⟨ca, -⟩ := id CA.out
  obtain ⟨cb, -⟩ := id CB.out
  obtain ⟨z0, z1, z2, z3, f0, f1, f2, f3, -⟩ := id Z.out
  go_wp2_with fail
  refine (hasNode_yes n e s a v _ (by omega)).mono ?_
  rintro en w2 ⟨rfl, B2⟩
  have X := Lib.hid (X.out.below B2 (by omega)); have CA := Lib.hid (CA.out.below B2 (by omega)); have CB := Lib.hid (CB.out.below B2 (by omega)); have Z := Lib.hid (Z.out.below B2 (by omega))
  have S2 := B2.size
  have M2 : Below w.heap.size w w2 := by (repeat (first | exact Below.refl _ _ | (refine Below.setCell ?_ (by (first | exact Nat.le_refl _ | omega | (simp <;> omega) | simp)) _) | (refine Below.alloc ?_ (by (first | exact Nat.le_refl _ | omega | (simp <;> omega) | simp)) _) | (refine below_draws ?_ _) | exact M1 | (refine Below.trans ?_ (Below.mono M1 (by (first | exact Nat.le_refl _ | omega | (simp <;> omega) | simp)))) | exact B2 | (refine Below.trans ?_ (Below.mono B2 (by (first | exact Nat.le_refl _ | omega | (simp <;> omega) | simp))))))
  clear k0 k1 k2 k3 ca cb z0 z1 z2 z3 f0 f1 f2 f3
  obtain ⟨k0, k1, k2, k3, -⟩ := id X.out
  obtain ⟨ca, -⟩ := id CA.out
  obtain ⟨cb, -⟩ := id CB.out
  obtain ⟨z0, z1, z2, z3, f0, f1, f2, f3, -⟩ := id Z.out
  go_wp2_with fail
  refine (hasNode_no n e s b v _ (by omega)).mono ?_
  rintro en w3 ⟨rfl, B3⟩
  have X := Lib.hid (X.out.below B3 (by omega)); have CA := Lib.hid (CA.out.below B3 (by omega)); have CB := Lib.hid (CB.out.below B3 (by omega)); have Z := Lib.hid (Z.out.below B3 (by omega))
  have S3 := B3.size
  have M3 : Below w.heap.size w w3 := by (repeat (first | exact Below.refl _ _ | (refine Below.setCell ?_ (by (first | exact Nat.le_refl _ | omega | (simp <;> omega) | simp)) _) | (refine Below.alloc ?_ (by (first | exact Nat.le_refl _ | omega | (simp <;> omega) | simp)) _) | (refine below_draws ?_ _) | exact M2 | (refine Below.trans ?_ (Below.mono M2 (by (first | exact Nat.le_refl _ | omega | (simp <;> omega) | simp)))) | exact B3 | (refine Below.trans ?_ (Below.mono B3 (by (first | exact Nat.le_refl _ | omega | (simp <;> omega) | simp))))))
  clear k0 k1 k2 k3 ca cb z0 z1 z2 z3 f0 f1 f2 f3
  obtain ⟨k0, k1, k2, k3, -⟩ := id X.out
  obtain ⟨ca, -⟩ := id CA.out
  obtain ⟨cb, -⟩ := id CB.out
  obtain ⟨z0, z1, z2, z3, f0, f1, f2, f3, -⟩ := id Z.out
  go_wp2
  exact bodyPost_ret (v := .tuple #[.agg #[.int .i64 0, .int .i64 0, .int .i64 0, .slice none 0 0], .bool false]) (by simp (maxDischargeDepth := 8) [results, Try.results16, go_sem, *]) rfl (ansN_no (by (repeat (first | exact Below.refl _ _ | (refine Below.setCell ?_ (by (first | exact Nat.le_refl _ | omega | (simp <;> omega) | simp)) _) | (refine Below.alloc ?_ (by (first | exact Nat.le_refl _ | omega | (simp <;> omega) | simp)) _) | (refine below_draws ?_ _) | exact M3 | (refine Below.trans ?_ (Below.mono M3 (by (first | exact Nat.le_refl _ | omega | (simp <;> omega) | simp))))))))
set_option maxRecDepth 4000 in
set_option maxHeartbeats 6400000 in
theorem joinI_ab (n e s a b : Int) (v : Value) (ws : List W3) (w : World) (hr : ReadsW w v ws) (hb : netB n e s ws = true) (hA : 0 ≤ a ∧ a < n) (hE : 0 ≤ b ∧ b < n) (hab : b ≤ a) :
    Calls Try.prog 16 #[.agg #[.int .i64 n, .int .i64 e, .int .i64 s, v], .int .i64 a, .int .i64 b] w (AnsN w (0, 0, 0, [], false)) := by
  have HOK := Lib.hid (impl_netOk n e s v ws ((((w.alloc (.cells #[.int .i64 n, .int .i64 e, .int .i64 s, v] 25)).alloc (.cells #[.int .i64 a] 3)).alloc (.cells #[.int .i64 b] 3)).alloc (.cells #[.int .i64 0, .int .i64 0, .int .i64 0, .slice none 0 0] 25)) (hr.later (by (repeat (first | exact Below.refl _ _ | (refine Below.setCell ?_ (by (first | exact Nat.le_refl _ | omega | (simp <;> omega) | simp)) _) | (refine Below.alloc ?_ (by (first | exact Nat.le_refl _ | omega | (simp <;> omega) | simp)) _) | (refine below_draws ?_ _))))))
  rw [hb] at HOK
  clear hb hr
  have X : Hid (box4 ((((w.alloc (.cells #[.int .i64 n, .int .i64 e, .int .i64 s, v] 25)).alloc (.cells #[.int .i64 a] 3)).alloc (.cells #[.int .i64 b] 3)).alloc (.cells #[.int .i64 0, .int .i64 0, .int .i64 0, .slice none 0 0] 25)) w.heap.size (.int .i64 n) (.int .i64 e) (.int .i64 s) v) := Lib.hid ((((box4.new _ _ _ _ _ _).alloc _).alloc _).alloc _)
  have CA : Hid (box1 ((((w.alloc (.cells #[.int .i64 n, .int .i64 e, .int .i64 s, v] 25)).alloc (.cells #[.int .i64 a] 3)).alloc (.cells #[.int .i64 b] 3)).alloc (.cells #[.int .i64 0, .int .i64 0, .int .i64 0, .slice none 0 0] 25)) (w.heap.size + 1) (.int .i64 a)) := Lib.hid (by have h := ((box1.new (w.alloc (.cells #[.int .i64 n, .int .i64 e, .int .i64 s, v] 25)) (.int .i64 a) 3).alloc (.cells #[.int .i64 b] 3)).alloc (.cells #[.int .i64 0, .int .i64 0, .int .i64 0, .slice none 0 0] 25); simpa using h)
  have CB : Hid (box1 ((((w.alloc (.cells #[.int .i64 n, .int .i64 e, .int .i64 s, v] 25)).alloc (.cells #[.int .i64 a] 3)).alloc (.cells #[.int .i64 b] 3)).alloc (.cells #[.int .i64 0, .int .i64 0, .int .i64 0, .slice none 0 0] 25)) (w.heap.size + 1 + 1) (.int .i64 b)) := Lib.hid (by have h := (box1.new ((w.alloc (.cells #[.int .i64 n, .int .i64 e, .int .i64 s, v] 25)).alloc (.cells #[.int .i64 a] 3)) (.int .i64 b) 3).alloc (.cells #[.int .i64 0, .int .i64 0, .int .i64 0, .slice none 0 0] 25); simpa using h)
  have Z : Hid (box4 ((((w.alloc (.cells #[.int .i64 n, .int .i64 e, .int .i64 s, v] 25)).alloc (.cells #[.int .i64 a] 3)).alloc (.cells #[.int .i64 b] 3)).alloc (.cells #[.int .i64 0, .int .i64 0, .int .i64 0, .slice none 0 0] 25)) (w.heap.size + 1 + 1 + 1) (.int .i64 0) (.int .i64 0) (.int .i64 0) (.slice none 0 0)) := Lib.hid (by have h := box4.new (((w.alloc (.cells #[.int .i64 n, .int .i64 e, .int .i64 s, v] 25)).alloc (.cells #[.int .i64 a] 3)).alloc (.cells #[.int .i64 b] 3)) (.int .i64 0) (.int .i64 0) (.int .i64 0) (.slice none 0 0) 25; simpa using h)
  go_enter Try.func16, Try.ntmps16
  go_wp2_with fail
  refine HOK.out.mono ?_
  rintro en w1 ⟨rfl, B1⟩
  have X := Lib.hid (X.out.below B1 (by simp <;> omega)); have CA := Lib.hid (CA.out.below B1 (by simp <;> omega)); have CB := Lib.hid (CB.out.below B1 (by simp <;> omega)); have Z := Lib.hid (Z.out.below B1 (by simp <;> omega))
  have S1 := B1.size; simp at S1
  have M1 : Below w.heap.size w w1 := by (repeat (first | exact Below.refl _ _ | (refine Below.setCell ?_ (by (first | exact Nat.le_refl _ | omega | (simp <;> omega) | simp)) _) | (refine Below.alloc ?_ (by (first | exact Nat.le_refl _ | omega | (simp <;> omega) | simp)) _) | (refine below_draws ?_ _) | exact B1 | (refine Below.trans ?_ (Below.mono B1 (by (first | exact Nat.le_refl _ | omega | (simp <;> omega) | simp))))))
  clear B1
  obtain ⟨k0, k1, k2, k3, -⟩ := id X.out
  obtain ⟨ca, -⟩ := id CA.out
  obtain ⟨cb, -⟩ := id CB.out
  obtain ⟨z0, z1, z2, z3, f0, f1, f2, f3, -⟩ := id Z.out
  go_wp2_with fail
  refine (hasNode_yes n e s a v _ (by omega)).mono ?_
  rintro en w2 ⟨rfl, B2⟩
  have X := Lib.hid (X.out.below B2 (by omega)); have CA := Lib.hid (CA.out.below B2 (by omega)); have CB := Lib.hid (CB.out.below B2 (by omega)); have Z := Lib.hid (Z.out.below B2 (by omega))
  have S2 := B2.size
  have M2 : Below w.heap.size w w2 := by (repeat (first | exact Below.refl _ _ | (refine Below.setCell ?_ (by (first | exact Nat.le_refl _ | omega | (simp <;> omega) | simp)) _) | (refine Below.alloc ?_ (by (first | exact Nat.le_refl _ | omega | (simp <;> omega) | simp)) _) | (refine below_draws ?_ _) | exact M1 | (refine Below.trans ?_ (Below.mono M1 (by (first | exact Nat.le_refl _ | omega | (simp <;> omega) | simp)))) | exact B2 | (refine Below.trans ?_ (Below.mono B2 (by (first | exact Nat.le_refl _ | omega | (simp <;> omega) | simp))))))
  clear k0 k1 k2 k3 ca cb z0 z1 z2 z3 f0 f1 f2 f3
  obtain ⟨k0, k1, k2, k3, -⟩ := id X.out
  obtain ⟨ca, -⟩ := id CA.out
  obtain ⟨cb, -⟩ := id CB.out
  obtain ⟨z0, z1, z2, z3, f0, f1, f2, f3, -⟩ := id Z.out
  go_wp2_with fail
  refine (hasNode_yes n e s b v _ (by omega)).mono ?_
  rintro en w3 ⟨rfl, B3⟩
  have X := Lib.hid (X.out.below B3 (by omega)); have CA := Lib.hid (CA.out.below B3 (by omega)); have CB := Lib.hid (CB.out.below B3 (by omega)); have Z := Lib.hid (Z.out.below B3 (by omega))
  have S3 := B3.size
  have M3 : Below w.heap.size w w3 := by (repeat (first | exact Below.refl _ _ | (refine Below.setCell ?_ (by (first | exact Nat.le_refl _ | omega | (simp <;> omega) | simp)) _) | (refine Below.alloc ?_ (by (first | exact Nat.le_refl _ | omega | (simp <;> omega) | simp)) _) | (refine below_draws ?_ _) | exact M2 | (refine Below.trans ?_ (Below.mono M2 (by (first | exact Nat.le_refl _ | omega | (simp <;> omega) | simp)))) | exact B3 | (refine Below.trans ?_ (Below.mono B3 (by (first | exact Nat.le_refl _ | omega | (simp <;> omega) | simp))))))
  clear k0 k1 k2 k3 ca cb z0 z1 z2 z3 f0 f1 f2 f3
  obtain ⟨k0, k1, k2, k3, -⟩ := id X.out
  obtain ⟨ca, -⟩ := id CA.out
  obtain ⟨cb, -⟩ := id CB.out
  obtain ⟨z0, z1, z2, z3, f0, f1, f2, f3, -⟩ := id Z.out
  go_wp2
  exact bodyPost_ret (v := .tuple #[.agg #[.int .i64 0, .int .i64 0, .int .i64 0, .slice none 0 0], .bool false]) (by simp (maxDischargeDepth := 8) [results, Try.results16, go_sem, *]) rfl (ansN_no (by (repeat (first | exact Below.refl _ _ | (refine Below.setCell ?_ (by (first | exact Nat.le_refl _ | omega | (simp <;> omega) | simp)) _) | (refine Below.alloc ?_ (by (first | exact Nat.le_refl _ | omega | (simp <;> omega) | simp)) _) | (refine below_draws ?_ _) | exact M3 | (refine Below.trans ?_ (Below.mono M3 (by (first | exact Nat.le_refl _ | omega | (simp <;> omega) | simp))))))))
set_option maxRecDepth 4000 in
set_option maxHeartbeats 6400000 in
theorem joinI_yes1 (n e s a b : Int) (v : Value) (ws : List W3) (w : World) (hr : ReadsW w v ws) (M : List W3) (hb : netB n e s ws = true) (hJ : JoinOk n a b) (hbe : b < e) (hM : M = specM (keyJ a b) true (restW ws a b)) :
    Calls Try.prog 16 #[.agg #[.int .i64 n, .int .i64 e, .int .i64 s, v], .int .i64 a, .int .i64 b] w (AnsN w (withR (n - 1) (e - 1) s M)) := by
  have HOK := Lib.hid (impl_netOk n e s v ws ((((w.alloc (.cells #[.int .i64 n, .int .i64 e, .int .i64 s, v] 25)).alloc (.cells #[.int .i64 a] 3)).alloc (.cells #[.int .i64 b] 3)).alloc (.cells #[.int .i64 0, .int .i64 0, .int .i64 0, .slice none 0 0] 25)) (hr.later (by (repeat (first | exact Below.refl _ _ | (refine Below.setCell ?_ (by (first | exact Nat.le_refl _ | omega | (simp <;> omega) | simp)) _) | (refine Below.alloc ?_ (by (first | exact Nat.le_refl _ | omega | (simp <;> omega) | simp)) _) | (refine below_draws ?_ _))))))
  rw [hb] at HOK
  have hV := netB_iff.1 hb
  have n1 := hV.1.1
  have n5 := hV.1.2.1
  have hlen := wiresV_len hV.2.1 n5
  have HW := Lib.hid hV.2.1
  have HR := Lib.hid hr
  have hL := rest_lists hV.2.1 a b
  have hk := keysV_J hV.2.1 n5 hJ
  have e1 := hV.1.2.2.1
  have e2 := hV.1.2.2.2.1
  have hWL : ∀ t ∈ restW ws a b, (Lit.int .i64 t.1).wf = true ∧ (Lit.int .i64 t.2.1).wf = true := fun t ht => by
    have h := hV.2.1.mem ((mem_rest _ _ _ _).1 ht).1
    unfold wireV at h
    exact ⟨wf_of (by omega) (by omega), wf_of (by omega) (by omega)⟩
  have hRg : ∀ t ∈ restW ws a b, 0 ≤ t.1 ∧ t.1 ≤ 5 ∧ 0 ≤ t.2.1 ∧ t.2.1 ≤ 5 := fun t ht => by
    have h := hV.2.1.mem ((mem_rest _ _ _ _).1 ht).1
    unfold wireV at h
    omega
  have HL := Lib.hid hL; have HWL := Lib.hid hWL; have HRG := Lib.hid hRg
  have HM : Hid (Lists (moveF (keyJ a b) (restW ws a b)) M) := Lib.hid (by rw [hM]; exact specM_lists _ _ hk)
  have HWF : Hid (∀ t ∈ M, (Lit.int .i64 t.1).wf = true ∧ (Lit.int .i64 t.2.1).wf = true) := Lib.hid (by rw [hM]; exact specM_wf _ true _ hk)
  obtain ⟨j0, j1, j2⟩ := hJ
  have HE : Hid (Ends a b a b) := Lib.hid (.inl ⟨j1, by omega, rfl, rfl⟩)
  have hwl : (Lit.int .i64 a).wf = true := wf_of (by omega) (by omega)
  have hwh : (Lit.int .i64 b).wf = true := wf_of (by omega) (by omega)
  have HWA := Lib.hid hwl; have HWB := Lib.hid hwh
  have hab : decide (b ≤ a) = false := by simp; omega
  obtain ⟨n', e', s', out, bb, hR⟩ : ∃ n' e' s' out bb, withR (n - 1) (e - 1) s M = (n', e', s', out, bb) := ⟨_, _, _, _, _, rfl⟩
  have HRR := Lib.hid hR
  rw [hR]
  clear hV hb hr hL hk hWL hRg hM hR hwl hwh
  have X : Hid (box4 ((((w.alloc (.cells #[.int .i64 n, .int .i64 e, .int .i64 s, v] 25)).alloc (.cells #[.int .i64 a] 3)).alloc (.cells #[.int .i64 b] 3)).alloc (.cells #[.int .i64 0, .int .i64 0, .int .i64 0, .slice none 0 0] 25)) w.heap.size (.int .i64 n) (.int .i64 e) (.int .i64 s) v) := Lib.hid ((((box4.new _ _ _ _ _ _).alloc _).alloc _).alloc _)
  have CA : Hid (box1 ((((w.alloc (.cells #[.int .i64 n, .int .i64 e, .int .i64 s, v] 25)).alloc (.cells #[.int .i64 a] 3)).alloc (.cells #[.int .i64 b] 3)).alloc (.cells #[.int .i64 0, .int .i64 0, .int .i64 0, .slice none 0 0] 25)) (w.heap.size + 1) (.int .i64 a)) := Lib.hid (by have h := ((box1.new (w.alloc (.cells #[.int .i64 n, .int .i64 e, .int .i64 s, v] 25)) (.int .i64 a) 3).alloc (.cells #[.int .i64 b] 3)).alloc (.cells #[.int .i64 0, .int .i64 0, .int .i64 0, .slice none 0 0] 25); simpa using h)
  have CB : Hid (box1 ((((w.alloc (.cells #[.int .i64 n, .int .i64 e, .int .i64 s, v] 25)).alloc (.cells #[.int .i64 a] 3)).alloc (.cells #[.int .i64 b] 3)).alloc (.cells #[.int .i64 0, .int .i64 0, .int .i64 0, .slice none 0 0] 25)) (w.heap.size + 1 + 1) (.int .i64 b)) := Lib.hid (by have h := (box1.new ((w.alloc (.cells #[.int .i64 n, .int .i64 e, .int .i64 s, v] 25)).alloc (.cells #[.int .i64 a] 3)) (.int .i64 b) 3).alloc (.cells #[.int .i64 0, .int .i64 0, .int .i64 0, .slice none 0 0] 25); simpa using h)
  have Z : Hid (box4 ((((w.alloc (.cells #[.int .i64 n, .int .i64 e, .int .i64 s, v] 25)).alloc (.cells #[.int .i64 a] 3)).alloc (.cells #[.int .i64 b] 3)).alloc (.cells #[.int .i64 0, .int .i64 0, .int .i64 0, .slice none 0 0] 25)) (w.heap.size + 1 + 1 + 1) (.int .i64 0) (.int .i64 0) (.int .i64 0) (.slice none 0 0)) := Lib.hid (by have h := box4.new (((w.alloc (.cells #[.int .i64 n, .int .i64 e, .int .i64 s, v] 25)).alloc (.cells #[.int .i64 a] 3)).alloc (.cells #[.int .i64 b] 3)) (.int .i64 0) (.int .i64 0) (.int .i64 0) (.slice none 0 0) 25; simpa using h)
  go_enter Try.func16, Try.ntmps16
  go_wp2_with fail
  refine HOK.out.mono ?_
  rintro en w1 ⟨rfl, B1⟩
  have X := Lib.hid (X.out.below B1 (by simp <;> omega)); have CA := Lib.hid (CA.out.below B1 (by simp <;> omega)); have CB := Lib.hid (CB.out.below B1 (by simp <;> omega)); have Z := Lib.hid (Z.out.below B1 (by simp <;> omega))
  have S1 := B1.size; simp at S1
  have M1 : Below w.heap.size w w1 := by (repeat (first | exact Below.refl _ _ | (refine Below.setCell ?_ (by (first | exact Nat.le_refl _ | omega | (simp <;> omega) | simp)) _) | (refine Below.alloc ?_ (by (first | exact Nat.le_refl _ | omega | (simp <;> omega) | simp)) _) | (refine below_draws ?_ _) | exact B1 | (refine Below.trans ?_ (Below.mono B1 (by (first | exact Nat.le_refl _ | omega | (simp <;> omega) | simp))))))
  clear B1
  obtain ⟨k0, k1, k2, k3, -⟩ := id X.out
  obtain ⟨ca, -⟩ := id CA.out
  obtain ⟨cb, -⟩ := id CB.out
  obtain ⟨z0, z1, z2, z3, f0, f1, f2, f3, -⟩ := id Z.out
  go_wp2_with fail
  refine (hasNode_yes n e s a v _ (by omega)).mono ?_
  rintro en w2 ⟨rfl, B2⟩
  have X := Lib.hid (X.out.below B2 (by omega)); have CA := Lib.hid (CA.out.below B2 (by omega)); have CB := Lib.hid (CB.out.below B2 (by omega)); have Z := Lib.hid (Z.out.below B2 (by omega))
  have S2 := B2.size
  have M2 : Below w.heap.size w w2 := by (repeat (first | exact Below.refl _ _ | (refine Below.setCell ?_ (by (first | exact Nat.le_refl _ | omega | (simp <;> omega) | simp)) _) | (refine Below.alloc ?_ (by (first | exact Nat.le_refl _ | omega | (simp <;> omega) | simp)) _) | (refine below_draws ?_ _) | exact M1 | (refine Below.trans ?_ (Below.mono M1 (by (first | exact Nat.le_refl _ | omega | (simp <;> omega) | simp)))) | exact B2 | (refine Below.trans ?_ (Below.mono B2 (by (first | exact Nat.le_refl _ | omega | (simp <;> omega) | simp))))))
  clear k0 k1 k2 k3 ca cb z0 z1 z2 z3 f0 f1 f2 f3
  obtain ⟨k0, k1, k2, k3, -⟩ := id X.out
  obtain ⟨ca, -⟩ := id CA.out
  obtain ⟨cb, -⟩ := id CB.out
  obtain ⟨z0, z1, z2, z3, f0, f1, f2, f3, -⟩ := id Z.out
  go_wp2_with fail
  refine (hasNode_yes n e s b v _ (by omega)).mono ?_
  rintro en w3 ⟨rfl, B3⟩
  have X := Lib.hid (X.out.below B3 (by omega)); have CA := Lib.hid (CA.out.below B3 (by omega)); have CB := Lib.hid (CB.out.below B3 (by omega)); have Z := Lib.hid (Z.out.below B3 (by omega))
  have S3 := B3.size
  have M3 : Below w.heap.size w w3 := by (repeat (first | exact Below.refl _ _ | (refine Below.setCell ?_ (by (first | exact Nat.le_refl _ | omega | (simp <;> omega) | simp)) _) | (refine Below.alloc ?_ (by (first | exact Nat.le_refl _ | omega | (simp <;> omega) | simp)) _) | (refine below_draws ?_ _) | exact M2 | (refine Below.trans ?_ (Below.mono M2 (by (first | exact Nat.le_refl _ | omega | (simp <;> omega) | simp)))) | exact B3 | (refine Below.trans ?_ (Below.mono B3 (by (first | exact Nat.le_refl _ | omega | (simp <;> omega) | simp))))))
  clear k0 k1 k2 k3 ca cb z0 z1 z2 z3 f0 f1 f2 f3
  obtain ⟨k0, k1, k2, k3, -⟩ := id X.out
  obtain ⟨ca, -⟩ := id CA.out
  obtain ⟨cb, -⟩ := id CB.out
  obtain ⟨z0, z1, z2, z3, f0, f1, f2, f3, -⟩ := id Z.out
  go_wp2_with fail
  refine (weightsOf_any n e s v ws _ (HR.out.later (by (repeat (first | exact Below.refl _ _ | (refine Below.setCell ?_ (by (first | exact Nat.le_refl _ | omega | (simp <;> omega) | simp)) _) | (refine Below.alloc ?_ (by (first | exact Nat.le_refl _ | omega | (simp <;> omega) | simp)) _) | (refine below_draws ?_ _) | exact M3 | (refine Below.trans ?_ (Below.mono M3 (by (first | exact Nat.le_refl _ | omega | (simp <;> omega) | simp)))))))) HW.out n5 (by omega)).mono ?_
  rintro en w4 ⟨bm, rfl, hbm, O4, B4⟩
  have X := Lib.hid (X.out.below B4 (by omega)); have CA := Lib.hid (CA.out.below B4 (by omega)); have CB := Lib.hid (CB.out.below B4 (by omega)); have Z := Lib.hid (Z.out.below B4 (by omega))
  have S4 := B4.size
  have M4 : Below w.heap.size w w4 := by (repeat (first | exact Below.refl _ _ | (refine Below.setCell ?_ (by (first | exact Nat.le_refl _ | omega | (simp <;> omega) | simp)) _) | (refine Below.alloc ?_ (by (first | exact Nat.le_refl _ | omega | (simp <;> omega) | simp)) _) | (refine below_draws ?_ _) | exact M3 | (refine Below.trans ?_ (Below.mono M3 (by (first | exact Nat.le_refl _ | omega | (simp <;> omega) | simp)))) | exact B4 | (refine Below.trans ?_ (Below.mono B4 (by (first | exact Nat.le_refl _ | omega | (simp <;> omega) | simp))))))
  clear k0 k1 k2 k3 ca cb z0 z1 z2 z3 f0 f1 f2 f3
  have hbl := O4.lt
  have HO := Lib.hid O4; clear O4
  obtain ⟨k0, k1, k2, k3, -⟩ := id X.out
  obtain ⟨ca, -⟩ := id CA.out
  obtain ⟨cb, -⟩ := id CB.out
  obtain ⟨z0, z1, z2, z3, f0, f1, f2, f3, -⟩ := id Z.out
  go_wp2_with fail
  refine (pairOf_any a b a b HE.out _).mono ?_
  rintro en w5 ⟨rfl, B5⟩
  have X := Lib.hid (X.out.below B5 (by omega)); have CA := Lib.hid (CA.out.below B5 (by omega)); have CB := Lib.hid (CB.out.below B5 (by omega)); have Z := Lib.hid (Z.out.below B5 (by omega))
  have S5 := B5.size
  have M5 : Below w.heap.size w w5 := by (repeat (first | exact Below.refl _ _ | (refine Below.setCell ?_ (by (first | exact Nat.le_refl _ | omega | (simp <;> omega) | simp)) _) | (refine Below.alloc ?_ (by (first | exact Nat.le_refl _ | omega | (simp <;> omega) | simp)) _) | (refine below_draws ?_ _) | exact M4 | (refine Below.trans ?_ (Below.mono M4 (by (first | exact Nat.le_refl _ | omega | (simp <;> omega) | simp)))) | exact B5 | (refine Below.trans ?_ (Below.mono B5 (by (first | exact Nat.le_refl _ | omega | (simp <;> omega) | simp))))))
  clear k0 k1 k2 k3 ca cb z0 z1 z2 z3 f0 f1 f2 f3
  have HO := Lib.hid (HO.out.later B5)
  obtain ⟨k0, k1, k2, k3, -⟩ := id X.out
  obtain ⟨ca, -⟩ := id CA.out
  obtain ⟨cb, -⟩ := id CB.out
  obtain ⟨z0, z1, z2, z3, f0, f1, f2, f3, -⟩ := id Z.out
  go_wp2_with (at_delete; refine wpList_delete_pairs _ rfl _ _ rfl bm ws.length _ rfl HO.out rfl HWA.out HWB.out ?_; intro w6 O6 G6; have HO := Lib.hid O6; clear O6; have X := Lib.hid (X.out.grown G6 (by simp; omega)); have CA := Lib.hid (CA.out.grown G6 (by simp; omega)); have CB := Lib.hid (CB.out.grown G6 (by simp; omega)); have Z := Lib.hid (Z.out.grown G6 (by simp; omega)); have S6 := G6.size; have M6 : Below w.heap.size w w6 := M5.grown G6 (by omega) (fun j hj => by cases hj; omega); clear k0 k1 k2 k3 ca cb z0 z1 z2 z3 f0 f1 f2 f3 G6; obtain ⟨k0, k1, k2, k3, -⟩ := id X.out; obtain ⟨ca, -⟩ := id CA.out; obtain ⟨cb, -⟩ := id CB.out; obtain ⟨z0, z1, z2, z3, f0, f1, f2, f3, -⟩ := id Z.out; have hn0 : w.heap.size ≠ w6.heap.size := (by omega); have hn2 : w.heap.size + 1 + 1 ≠ w6.heap.size := (by omega); have y1 : (w6.alloc (.cells #[.int .i64 (n - 1), .int .i64 e, .int .i64 s, .slice none 0 0] 25)).cell? ⟨w.heap.size, 1, none⟩ = some (.int .i64 e) := (World.cell?_alloc_old w6 _ ⟨w.heap.size, 1, none⟩ hn0).trans k1; have y2 : (w6.alloc (.cells #[.int .i64 (n - 1), .int .i64 e, .int .i64 s, .slice none 0 0] 25)).cell? ⟨w.heap.size + 1 + 1, 0, none⟩ = some (.int .i64 b) := (World.cell?_alloc_old w6 _ ⟨w.heap.size + 1 + 1, 0, none⟩ hn2).trans cb)
  have XJ := box4.new w6 (.int .i64 (n - 1)) (.int .i64 (e - 1)) (.int .i64 s) (.slice none 0 0) 25
  have CAJ := CA.out.alloc (.cells #[.int .i64 (n - 1), .int .i64 (e - 1), .int .i64 s, .slice none 0 0] 25)
  have CBJ := CB.out.alloc (.cells #[.int .i64 (n - 1), .int .i64 (e - 1), .int .i64 s, .slice none 0 0] 25)
  have ZJ := Lib.hid (Z.out.alloc (.cells #[.int .i64 (n - 1), .int .i64 (e - 1), .int .i64 s, .slice none 0 0] 25)).drew
  have hS3 : (w6.alloc (.cells #[.int .i64 (n - 1), .int .i64 (e - 1), .int .i64 s, .slice none 0 0] 25)).drew.cell? ⟨w6.heap.size, 0, none⟩ = some (.int .i64 (n - 1)) ∧ (w6.alloc (.cells #[.int .i64 (n - 1), .int .i64 (e - 1), .int .i64 s, .slice none 0 0] 25)).drew.cell? ⟨w6.heap.size, 1, none⟩ = some (.int .i64 (e - 1)) ∧ (w6.alloc (.cells #[.int .i64 (n - 1), .int .i64 (e - 1), .int .i64 s, .slice none 0 0] 25)).drew.cell? ⟨w6.heap.size, 2, none⟩ = some (.int .i64 s) ∧ (w6.alloc (.cells #[.int .i64 (n - 1), .int .i64 (e - 1), .int .i64 s, .slice none 0 0] 25)).drew.cell? ⟨w6.heap.size, 3, none⟩ = some (.slice none 0 0) ∧ (w6.alloc (.cells #[.int .i64 (n - 1), .int .i64 (e - 1), .int .i64 s, .slice none 0 0] 25)).drew.cell? ⟨w.heap.size + 1, 0, none⟩ = some (.int .i64 a) ∧ (w6.alloc (.cells #[.int .i64 (n - 1), .int .i64 (e - 1), .int .i64 s, .slice none 0 0] 25)).drew.cell? ⟨w.heap.size + 1 + 1, 0, none⟩ = some (.int .i64 b) ∧ w6.heap.size < (w6.alloc (.cells #[.int .i64 (n - 1), .int .i64 (e - 1), .int .i64 s, .slice none 0 0] 25)).drew.heap.size := ⟨XJ.1, XJ.2.1, XJ.2.2.1, XJ.2.2.2.1, CAJ.1, CBJ.1, XJ.2.2.2.2.2.2.2.2⟩
  have HOJ : Hid (owns2 (w6.alloc (.cells #[.int .i64 (n - 1), .int .i64 (e - 1), .int .i64 s, .slice none 0 0] 25)).drew bm ws.length (del2 (fAll ws) a b)) := Lib.hid (HO.out.later (by (repeat (first | exact Below.refl _ _ | (refine Below.setCell ?_ (by (first | exact Nat.le_refl _ | omega | (simp <;> omega) | simp)) _) | (refine Below.alloc ?_ (by (first | exact Nat.le_refl _ | omega | (simp <;> omega) | simp)) _) | (refine below_draws ?_ _)))))
  clear XJ CAJ CBJ
  go_region_held3 (fun w' => w'.cell? ⟨w6.heap.size, 0, none⟩ = some (.int .i64 (n - 1)) ∧ w'.cell? ⟨w6.heap.size, 1, none⟩ = some (.int .i64 (e - 1)) ∧ w'.cell? ⟨w6.heap.size, 2, none⟩ = some (.int .i64 s) ∧ w'.cell? ⟨w6.heap.size, 3, none⟩ = some (.slice none 0 0) ∧ w'.cell? ⟨w.heap.size + 1, 0, none⟩ = some (.int .i64 a) ∧ w'.cell? ⟨w.heap.size + 1 + 1, 0, none⟩ = some (.int .i64 b) ∧ w6.heap.size < w'.heap.size)
    (first | exact hS3 | exact hS8 | exact hS9 | exact six_set (by show w.heap.size + 1 + 1 + 1 ≠ _; omega) (by show w.heap.size + 1 + 1 + 1 ≠ _; omega) (by show w.heap.size + 1 + 1 + 1 ≠ _; omega) hS9 | exact six_set (by show w.heap.size + 1 + 1 + 1 ≠ _; omega) (by show w.heap.size + 1 + 1 + 1 ≠ _; omega) (by show w.heap.size + 1 + 1 + 1 ≠ _; omega) (six_set (by show w.heap.size + 1 + 1 + 1 ≠ _; omega) (by show w.heap.size + 1 + 1 + 1 ≠ _; omega) (by show w.heap.size + 1 + 1 + 1 ≠ _; omega) hS9) | exact six_set (by show w.heap.size + 1 + 1 + 1 ≠ _; omega) (by show w.heap.size + 1 + 1 + 1 ≠ _; omega) (by show w.heap.size + 1 + 1 + 1 ≠ _; omega) (six_set (by show w.heap.size + 1 + 1 + 1 ≠ _; omega) (by show w.heap.size + 1 + 1 + 1 ≠ _; omega) (by show w.heap.size + 1 + 1 + 1 ≠ _; omega) (six_set (by show w.heap.size + 1 + 1 + 1 ≠ _; omega) (by show w.heap.size + 1 + 1 + 1 ≠ _; omega) (by show w.heap.size + 1 + 1 + 1 ≠ _; omega) hS9)) | exact six_set (by show w.heap.size + 1 + 1 + 1 ≠ _; omega) (by show w.heap.size + 1 + 1 + 1 ≠ _; omega) (by show w.heap.size + 1 + 1 + 1 ≠ _; omega) (six_set (by show w.heap.size + 1 + 1 + 1 ≠ _; omega) (by show w.heap.size + 1 + 1 + 1 ≠ _; omega) (by show w.heap.size + 1 + 1 + 1 ≠ _; omega) (six_set (by show w.heap.size + 1 + 1 + 1 ≠ _; omega) (by show w.heap.size + 1 + 1 + 1 ≠ _; omega) (by show w.heap.size + 1 + 1 + 1 ≠ _; omega) (six_set (by show w.heap.size + 1 + 1 + 1 ≠ _; omega) (by show w.heap.size + 1 + 1 + 1 ≠ _; omega) (by show w.heap.size + 1 + 1 + 1 ≠ _; omega) hS9))))
    (first | (go_at_call 61; refine (renum_join a b bm ws.length _ (restW ws a b) _ _ _ (by omega) HOJ.out HL.out HWL.out hS3.2.2.2.2.2.1 hS3.2.2.2.2.1 HRG.out (by omega) (by omega)).mono ?_; rintro en w8 ⟨b8, rfl, hb8, O8, B8⟩; have hS8 := six_below B8 hS3; have Z8 := Lib.hid (ZJ.out.later B8); have S8 := B8.size; simp at S8; have HO8 := Lib.hid O8; clear O8) | (go_at_call 60; refine (withWires_any (n - 1) (e - 1) s (.slice none 0 0) b8 ws.length _ M _ (by omega) HO8.out HM.out HWF.out).mono ?_; rw [HRR.out]; rintro en w9 ⟨p9, c9, rfl, o9, B9⟩; have hS9 := six_below B9 hS8; clear k0 k1 k2 k3 ca cb z0 z1 z2 z3 f0 f1 f2 f3; obtain ⟨z0, z1, z2, z3, f0, f1, f2, f3, -⟩ := Z8.out.later B9; have S9 := B9.size))
  all_goals
    go_wp2
    exact bodyPost_ret (v := .tuple #[.agg #[.int .i64 n', .int .i64 e', .int .i64 s', .slice p9 out.length c9], .bool bb]) (by simp (maxDischargeDepth := 8) [results, Try.results16, go_sem, *]) rfl ⟨p9, c9, rfl, by refine owns_mono (base := w8.heap.size) ?_ (by omega); ((repeat (refine ownsRow_setCell_below ?_ ?_ _; rotate_left; focus (first | omega | (simp; done) | (simp; omega)))); with_reducible exact o9), by (repeat (first | exact Below.refl _ _ | (refine Below.setCell ?_ (by (first | exact Nat.le_refl _ | omega | (simp <;> omega) | simp)) _) | (refine Below.alloc ?_ (by (first | exact Nat.le_refl _ | omega | (simp <;> omega) | simp)) _) | (refine below_draws ?_ _) | exact M6 | (refine Below.trans ?_ (Below.mono M6 (by (first | exact Nat.le_refl _ | omega | (simp <;> omega) | simp)))) | exact B8 | (refine Below.trans ?_ (Below.mono B8 (by (first | exact Nat.le_refl _ | omega | (simp <;> omega) | simp)))) | exact B9 | (refine Below.trans ?_ (Below.mono B9 (by (first | exact Nat.le_refl _ | omega | (simp <;> omega) | simp))))))⟩
set_option maxRecDepth 4000 in
set_option maxHeartbeats 6400000 in
theorem joinI_yes0 (n e s a b : Int) (v : Value) (ws : List W3) (w : World) (hr : ReadsW w v ws) (M : List W3) (hb : netB n e s ws = true) (hJ : JoinOk n a b) (hbe : ¬ b < e) (hM : M = specM (keyJ a b) true (restW ws a b)) :
    Calls Try.prog 16 #[.agg #[.int .i64 n, .int .i64 e, .int .i64 s, v], .int .i64 a, .int .i64 b] w (AnsN w (withR (n - 1) e s M)) := by
  have HOK := Lib.hid (impl_netOk n e s v ws ((((w.alloc (.cells #[.int .i64 n, .int .i64 e, .int .i64 s, v] 25)).alloc (.cells #[.int .i64 a] 3)).alloc (.cells #[.int .i64 b] 3)).alloc (.cells #[.int .i64 0, .int .i64 0, .int .i64 0, .slice none 0 0] 25)) (hr.later (by (repeat (first | exact Below.refl _ _ | (refine Below.setCell ?_ (by (first | exact Nat.le_refl _ | omega | (simp <;> omega) | simp)) _) | (refine Below.alloc ?_ (by (first | exact Nat.le_refl _ | omega | (simp <;> omega) | simp)) _) | (refine below_draws ?_ _))))))
  rw [hb] at HOK
  have hV := netB_iff.1 hb
  have n1 := hV.1.1
  have n5 := hV.1.2.1
  have hlen := wiresV_len hV.2.1 n5
  have HW := Lib.hid hV.2.1
  have HR := Lib.hid hr
  have hL := rest_lists hV.2.1 a b
  have hk := keysV_J hV.2.1 n5 hJ
  have e1 := hV.1.2.2.1
  have e2 := hV.1.2.2.2.1
  have hWL : ∀ t ∈ restW ws a b, (Lit.int .i64 t.1).wf = true ∧ (Lit.int .i64 t.2.1).wf = true := fun t ht => by
    have h := hV.2.1.mem ((mem_rest _ _ _ _).1 ht).1
    unfold wireV at h
    exact ⟨wf_of (by omega) (by omega), wf_of (by omega) (by omega)⟩
  have hRg : ∀ t ∈ restW ws a b, 0 ≤ t.1 ∧ t.1 ≤ 5 ∧ 0 ≤ t.2.1 ∧ t.2.1 ≤ 5 := fun t ht => by
    have h := hV.2.1.mem ((mem_rest _ _ _ _).1 ht).1
    unfold wireV at h
    omega
  have HL := Lib.hid hL; have HWL := Lib.hid hWL; have HRG := Lib.hid hRg
  have HM : Hid (Lists (moveF (keyJ a b) (restW ws a b)) M) := Lib.hid (by rw [hM]; exact specM_lists _ _ hk)
  have HWF : Hid (∀ t ∈ M, (Lit.int .i64 t.1).wf = true ∧ (Lit.int .i64 t.2.1).wf = true) := Lib.hid (by rw [hM]; exact specM_wf _ true _ hk)
  obtain ⟨j0, j1, j2⟩ := hJ
  have HE : Hid (Ends a b a b) := Lib.hid (.inl ⟨j1, by omega, rfl, rfl⟩)
  have hwl : (Lit.int .i64 a).wf = true := wf_of (by omega) (by omega)
  have hwh : (Lit.int .i64 b).wf = true := wf_of (by omega) (by omega)
  have HWA := Lib.hid hwl; have HWB := Lib.hid hwh
  have hab : decide (b ≤ a) = false := by simp; omega
  obtain ⟨n', e', s', out, bb, hR⟩ : ∃ n' e' s' out bb, withR (n - 1) e s M = (n', e', s', out, bb) := ⟨_, _, _, _, _, rfl⟩
  have HRR := Lib.hid hR
  rw [hR]
  clear hV hb hr hL hk hWL hRg hM hR hwl hwh
  have X : Hid (box4 ((((w.alloc (.cells #[.int .i64 n, .int .i64 e, .int .i64 s, v] 25)).alloc (.cells #[.int .i64 a] 3)).alloc (.cells #[.int .i64 b] 3)).alloc (.cells #[.int .i64 0, .int .i64 0, .int .i64 0, .slice none 0 0] 25)) w.heap.size (.int .i64 n) (.int .i64 e) (.int .i64 s) v) := Lib.hid ((((box4.new _ _ _ _ _ _).alloc _).alloc _).alloc _)
  have CA : Hid (box1 ((((w.alloc (.cells #[.int .i64 n, .int .i64 e, .int .i64 s, v] 25)).alloc (.cells #[.int .i64 a] 3)).alloc (.cells #[.int .i64 b] 3)).alloc (.cells #[.int .i64 0, .int .i64 0, .int .i64 0, .slice none 0 0] 25)) (w.heap.size + 1) (.int .i64 a)) := Lib.hid (by have h := ((box1.new (w.alloc (.cells #[.int .i64 n, .int .i64 e, .int .i64 s, v] 25)) (.int .i64 a) 3).alloc (.cells #[.int .i64 b] 3)).alloc (.cells #[.int .i64 0, .int .i64 0, .int .i64 0, .slice none 0 0] 25); simpa using h)
  have CB : Hid (box1 ((((w.alloc (.cells #[.int .i64 n, .int .i64 e, .int .i64 s, v] 25)).alloc (.cells #[.int .i64 a] 3)).alloc (.cells #[.int .i64 b] 3)).alloc (.cells #[.int .i64 0, .int .i64 0, .int .i64 0, .slice none 0 0] 25)) (w.heap.size + 1 + 1) (.int .i64 b)) := Lib.hid (by have h := (box1.new ((w.alloc (.cells #[.int .i64 n, .int .i64 e, .int .i64 s, v] 25)).alloc (.cells #[.int .i64 a] 3)) (.int .i64 b) 3).alloc (.cells #[.int .i64 0, .int .i64 0, .int .i64 0, .slice none 0 0] 25); simpa using h)
  have Z : Hid (box4 ((((w.alloc (.cells #[.int .i64 n, .int .i64 e, .int .i64 s, v] 25)).alloc (.cells #[.int .i64 a] 3)).alloc (.cells #[.int .i64 b] 3)).alloc (.cells #[.int .i64 0, .int .i64 0, .int .i64 0, .slice none 0 0] 25)) (w.heap.size + 1 + 1 + 1) (.int .i64 0) (.int .i64 0) (.int .i64 0) (.slice none 0 0)) := Lib.hid (by have h := box4.new (((w.alloc (.cells #[.int .i64 n, .int .i64 e, .int .i64 s, v] 25)).alloc (.cells #[.int .i64 a] 3)).alloc (.cells #[.int .i64 b] 3)) (.int .i64 0) (.int .i64 0) (.int .i64 0) (.slice none 0 0) 25; simpa using h)
  go_enter Try.func16, Try.ntmps16
  go_wp2_with fail
  refine HOK.out.mono ?_
  rintro en w1 ⟨rfl, B1⟩
  have X := Lib.hid (X.out.below B1 (by simp <;> omega)); have CA := Lib.hid (CA.out.below B1 (by simp <;> omega)); have CB := Lib.hid (CB.out.below B1 (by simp <;> omega)); have Z := Lib.hid (Z.out.below B1 (by simp <;> omega))
  have S1 := B1.size; simp at S1
  have M1 : Below w.heap.size w w1 := by (repeat (first | exact Below.refl _ _ | (refine Below.setCell ?_ (by (first | exact Nat.le_refl _ | omega | (simp <;> omega) | simp)) _) | (refine Below.alloc ?_ (by (first | exact Nat.le_refl _ | omega | (simp <;> omega) | simp)) _) | (refine below_draws ?_ _) | exact B1 | (refine Below.trans ?_ (Below.mono B1 (by (first | exact Nat.le_refl _ | omega | (simp <;> omega) | simp))))))
  clear B1
  obtain ⟨k0, k1, k2, k3, -⟩ := id X.out
  obtain ⟨ca, -⟩ := id CA.out
  obtain ⟨cb, -⟩ := id CB.out
  obtain ⟨z0, z1, z2, z3, f0, f1, f2, f3, -⟩ := id Z.out
  go_wp2_with fail
  refine (hasNode_yes n e s a v _ (by omega)).mono ?_
  rintro en w2 ⟨rfl, B2⟩
  have X := Lib.hid (X.out.below B2 (by omega)); have CA := Lib.hid (CA.out.below B2 (by omega)); have CB := Lib.hid (CB.out.below B2 (by omega)); have Z := Lib.hid (Z.out.below B2 (by omega))
  have S2 := B2.size
  have M2 : Below w.heap.size w w2 := by (repeat (first | exact Below.refl _ _ | (refine Below.setCell ?_ (by (first | exact Nat.le_refl _ | omega | (simp <;> omega) | simp)) _) | (refine Below.alloc ?_ (by (first | exact Nat.le_refl _ | omega | (simp <;> omega) | simp)) _) | (refine below_draws ?_ _) | exact M1 | (refine Below.trans ?_ (Below.mono M1 (by (first | exact Nat.le_refl _ | omega | (simp <;> omega) | simp)))) | exact B2 | (refine Below.trans ?_ (Below.mono B2 (by (first | exact Nat.le_refl _ | omega | (simp <;> omega) | simp))))))
  clear k0 k1 k2 k3 ca cb z0 z1 z2 z3 f0 f1 f2 f3
  obtain ⟨k0, k1, k2, k3, -⟩ := id X.out
  obtain ⟨ca, -⟩ := id CA.out
  obtain ⟨cb, -⟩ := id CB.out
  obtain ⟨z0, z1, z2, z3, f0, f1, f2, f3, -⟩ := id Z.out
  go_wp2_with fail
  refine (hasNode_yes n e s b v _ (by omega)).mono ?_
  rintro en w3 ⟨rfl, B3⟩
  have X := Lib.hid (X.out.below B3 (by omega)); have CA := Lib.hid (CA.out.below B3 (by omega)); have CB := Lib.hid (CB.out.below B3 (by omega)); have Z := Lib.hid (Z.out.below B3 (by omega))
  have S3 := B3.size
  have M3 : Below w.heap.size w w3 := by (repeat (first | exact Below.refl _ _ | (refine Below.setCell ?_ (by (first | exact Nat.le_refl _ | omega | (simp <;> omega) | simp)) _) | (refine Below.alloc ?_ (by (first | exact Nat.le_refl _ | omega | (simp <;> omega) | simp)) _) | (refine below_draws ?_ _) | exact M2 | (refine Below.trans ?_ (Below.mono M2 (by (first | exact Nat.le_refl _ | omega | (simp <;> omega) | simp)))) | exact B3 | (refine Below.trans ?_ (Below.mono B3 (by (first | exact Nat.le_refl _ | omega | (simp <;> omega) | simp))))))
  clear k0 k1 k2 k3 ca cb z0 z1 z2 z3 f0 f1 f2 f3
  obtain ⟨k0, k1, k2, k3, -⟩ := id X.out
  obtain ⟨ca, -⟩ := id CA.out
  obtain ⟨cb, -⟩ := id CB.out
  obtain ⟨z0, z1, z2, z3, f0, f1, f2, f3, -⟩ := id Z.out
  go_wp2_with fail
  refine (weightsOf_any n e s v ws _ (HR.out.later (by (repeat (first | exact Below.refl _ _ | (refine Below.setCell ?_ (by (first | exact Nat.le_refl _ | omega | (simp <;> omega) | simp)) _) | (refine Below.alloc ?_ (by (first | exact Nat.le_refl _ | omega | (simp <;> omega) | simp)) _) | (refine below_draws ?_ _) | exact M3 | (refine Below.trans ?_ (Below.mono M3 (by (first | exact Nat.le_refl _ | omega | (simp <;> omega) | simp)))))))) HW.out n5 (by omega)).mono ?_
  rintro en w4 ⟨bm, rfl, hbm, O4, B4⟩
  have X := Lib.hid (X.out.below B4 (by omega)); have CA := Lib.hid (CA.out.below B4 (by omega)); have CB := Lib.hid (CB.out.below B4 (by omega)); have Z := Lib.hid (Z.out.below B4 (by omega))
  have S4 := B4.size
  have M4 : Below w.heap.size w w4 := by (repeat (first | exact Below.refl _ _ | (refine Below.setCell ?_ (by (first | exact Nat.le_refl _ | omega | (simp <;> omega) | simp)) _) | (refine Below.alloc ?_ (by (first | exact Nat.le_refl _ | omega | (simp <;> omega) | simp)) _) | (refine below_draws ?_ _) | exact M3 | (refine Below.trans ?_ (Below.mono M3 (by (first | exact Nat.le_refl _ | omega | (simp <;> omega) | simp)))) | exact B4 | (refine Below.trans ?_ (Below.mono B4 (by (first | exact Nat.le_refl _ | omega | (simp <;> omega) | simp))))))
  clear k0 k1 k2 k3 ca cb z0 z1 z2 z3 f0 f1 f2 f3
  have hbl := O4.lt
  have HO := Lib.hid O4; clear O4
  obtain ⟨k0, k1, k2, k3, -⟩ := id X.out
  obtain ⟨ca, -⟩ := id CA.out
  obtain ⟨cb, -⟩ := id CB.out
  obtain ⟨z0, z1, z2, z3, f0, f1, f2, f3, -⟩ := id Z.out
  go_wp2_with fail
  refine (pairOf_any a b a b HE.out _).mono ?_
  rintro en w5 ⟨rfl, B5⟩
  have X := Lib.hid (X.out.below B5 (by omega)); have CA := Lib.hid (CA.out.below B5 (by omega)); have CB := Lib.hid (CB.out.below B5 (by omega)); have Z := Lib.hid (Z.out.below B5 (by omega))
  have S5 := B5.size
  have M5 : Below w.heap.size w w5 := by (repeat (first | exact Below.refl _ _ | (refine Below.setCell ?_ (by (first | exact Nat.le_refl _ | omega | (simp <;> omega) | simp)) _) | (refine Below.alloc ?_ (by (first | exact Nat.le_refl _ | omega | (simp <;> omega) | simp)) _) | (refine below_draws ?_ _) | exact M4 | (refine Below.trans ?_ (Below.mono M4 (by (first | exact Nat.le_refl _ | omega | (simp <;> omega) | simp)))) | exact B5 | (refine Below.trans ?_ (Below.mono B5 (by (first | exact Nat.le_refl _ | omega | (simp <;> omega) | simp))))))
  clear k0 k1 k2 k3 ca cb z0 z1 z2 z3 f0 f1 f2 f3
  have HO := Lib.hid (HO.out.later B5)
  obtain ⟨k0, k1, k2, k3, -⟩ := id X.out
  obtain ⟨ca, -⟩ := id CA.out
  obtain ⟨cb, -⟩ := id CB.out
  obtain ⟨z0, z1, z2, z3, f0, f1, f2, f3, -⟩ := id Z.out
  go_wp2_with (at_delete; refine wpList_delete_pairs _ rfl _ _ rfl bm ws.length _ rfl HO.out rfl HWA.out HWB.out ?_; intro w6 O6 G6; have HO := Lib.hid O6; clear O6; have X := Lib.hid (X.out.grown G6 (by simp; omega)); have CA := Lib.hid (CA.out.grown G6 (by simp; omega)); have CB := Lib.hid (CB.out.grown G6 (by simp; omega)); have Z := Lib.hid (Z.out.grown G6 (by simp; omega)); have S6 := G6.size; have M6 : Below w.heap.size w w6 := M5.grown G6 (by omega) (fun j hj => by cases hj; omega); clear k0 k1 k2 k3 ca cb z0 z1 z2 z3 f0 f1 f2 f3 G6; obtain ⟨k0, k1, k2, k3, -⟩ := id X.out; obtain ⟨ca, -⟩ := id CA.out; obtain ⟨cb, -⟩ := id CB.out; obtain ⟨z0, z1, z2, z3, f0, f1, f2, f3, -⟩ := id Z.out; have hn0 : w.heap.size ≠ w6.heap.size := (by omega); have hn2 : w.heap.size + 1 + 1 ≠ w6.heap.size := (by omega); have y1 : (w6.alloc (.cells #[.int .i64 (n - 1), .int .i64 e, .int .i64 s, .slice none 0 0] 25)).cell? ⟨w.heap.size, 1, none⟩ = some (.int .i64 e) := (World.cell?_alloc_old w6 _ ⟨w.heap.size, 1, none⟩ hn0).trans k1; have y2 : (w6.alloc (.cells #[.int .i64 (n - 1), .int .i64 e, .int .i64 s, .slice none 0 0] 25)).cell? ⟨w.heap.size + 1 + 1, 0, none⟩ = some (.int .i64 b) := (World.cell?_alloc_old w6 _ ⟨w.heap.size + 1 + 1, 0, none⟩ hn2).trans cb)
  have XJ := box4.new w6 (.int .i64 (n - 1)) (.int .i64 e) (.int .i64 s) (.slice none 0 0) 25
  have CAJ := CA.out.alloc (.cells #[.int .i64 (n - 1), .int .i64 e, .int .i64 s, .slice none 0 0] 25)
  have CBJ := CB.out.alloc (.cells #[.int .i64 (n - 1), .int .i64 e, .int .i64 s, .slice none 0 0] 25)
  have ZJ := Lib.hid (Z.out.alloc (.cells #[.int .i64 (n - 1), .int .i64 e, .int .i64 s, .slice none 0 0] 25)).drew
  have hS3 : (w6.alloc (.cells #[.int .i64 (n - 1), .int .i64 e, .int .i64 s, .slice none 0 0] 25)).drew.cell? ⟨w6.heap.size, 0, none⟩ = some (.int .i64 (n - 1)) ∧ (w6.alloc (.cells #[.int .i64 (n - 1), .int .i64 e, .int .i64 s, .slice none 0 0] 25)).drew.cell? ⟨w6.heap.size, 1, none⟩ = some (.int .i64 e) ∧ (w6.alloc (.cells #[.int .i64 (n - 1), .int .i64 e, .int .i64 s, .slice none 0 0] 25)).drew.cell? ⟨w6.heap.size, 2, none⟩ = some (.int .i64 s) ∧ (w6.alloc (.cells #[.int .i64 (n - 1), .int .i64 e, .int .i64 s, .slice none 0 0] 25)).drew.cell? ⟨w6.heap.size, 3, none⟩ = some (.slice none 0 0) ∧ (w6.alloc (.cells #[.int .i64 (n - 1), .int .i64 e, .int .i64 s, .slice none 0 0] 25)).drew.cell? ⟨w.heap.size + 1, 0, none⟩ = some (.int .i64 a) ∧ (w6.alloc (.cells #[.int .i64 (n - 1), .int .i64 e, .int .i64 s, .slice none 0 0] 25)).drew.cell? ⟨w.heap.size + 1 + 1, 0, none⟩ = some (.int .i64 b) ∧ w6.heap.size < (w6.alloc (.cells #[.int .i64 (n - 1), .int .i64 e, .int .i64 s, .slice none 0 0] 25)).drew.heap.size := ⟨XJ.1, XJ.2.1, XJ.2.2.1, XJ.2.2.2.1, CAJ.1, CBJ.1, XJ.2.2.2.2.2.2.2.2⟩
  have HOJ : Hid (owns2 (w6.alloc (.cells #[.int .i64 (n - 1), .int .i64 e, .int .i64 s, .slice none 0 0] 25)).drew bm ws.length (del2 (fAll ws) a b)) := Lib.hid (HO.out.later (by (repeat (first | exact Below.refl _ _ | (refine Below.setCell ?_ (by (first | exact Nat.le_refl _ | omega | (simp <;> omega) | simp)) _) | (refine Below.alloc ?_ (by (first | exact Nat.le_refl _ | omega | (simp <;> omega) | simp)) _) | (refine below_draws ?_ _)))))
  clear XJ CAJ CBJ
  go_region_held3 (fun w' => w'.cell? ⟨w6.heap.size, 0, none⟩ = some (.int .i64 (n - 1)) ∧ w'.cell? ⟨w6.heap.size, 1, none⟩ = some (.int .i64 e) ∧ w'.cell? ⟨w6.heap.size, 2, none⟩ = some (.int .i64 s) ∧ w'.cell? ⟨w6.heap.size, 3, none⟩ = some (.slice none 0 0) ∧ w'.cell? ⟨w.heap.size + 1, 0, none⟩ = some (.int .i64 a) ∧ w'.cell? ⟨w.heap.size + 1 + 1, 0, none⟩ = some (.int .i64 b) ∧ w6.heap.size < w'.heap.size)
    (first | exact hS3 | exact hS8 | exact hS9 | exact six_set (by show w.heap.size + 1 + 1 + 1 ≠ _; omega) (by show w.heap.size + 1 + 1 + 1 ≠ _; omega) (by show w.heap.size + 1 + 1 + 1 ≠ _; omega) hS9 | exact six_set (by show w.heap.size + 1 + 1 + 1 ≠ _; omega) (by show w.heap.size + 1 + 1 + 1 ≠ _; omega) (by show w.heap.size + 1 + 1 + 1 ≠ _; omega) (six_set (by show w.heap.size + 1 + 1 + 1 ≠ _; omega) (by show w.heap.size + 1 + 1 + 1 ≠ _; omega) (by show w.heap.size + 1 + 1 + 1 ≠ _; omega) hS9) | exact six_set (by show w.heap.size + 1 + 1 + 1 ≠ _; omega) (by show w.heap.size + 1 + 1 + 1 ≠ _; omega) (by show w.heap.size + 1 + 1 + 1 ≠ _; omega) (six_set (by show w.heap.size + 1 + 1 + 1 ≠ _; omega) (by show w.heap.size + 1 + 1 + 1 ≠ _; omega) (by show w.heap.size + 1 + 1 + 1 ≠ _; omega) (six_set (by show w.heap.size + 1 + 1 + 1 ≠ _; omega) (by show w.heap.size + 1 + 1 + 1 ≠ _; omega) (by show w.heap.size + 1 + 1 + 1 ≠ _; omega) hS9)) | exact six_set (by show w.heap.size + 1 + 1 + 1 ≠ _; omega) (by show w.heap.size + 1 + 1 + 1 ≠ _; omega) (by show w.heap.size + 1 + 1 + 1 ≠ _; omega) (six_set (by show w.heap.size + 1 + 1 + 1 ≠ _; omega) (by show w.heap.size + 1 + 1 + 1 ≠ _; omega) (by show w.heap.size + 1 + 1 + 1 ≠ _; omega) (six_set (by show w.heap.size + 1 + 1 + 1 ≠ _; omega) (by show w.heap.size + 1 + 1 + 1 ≠ _; omega) (by show w.heap.size + 1 + 1 + 1 ≠ _; omega) (six_set (by show w.heap.size + 1 + 1 + 1 ≠ _; omega) (by show w.heap.size + 1 + 1 + 1 ≠ _; omega) (by show w.heap.size + 1 + 1 + 1 ≠ _; omega) hS9))))
    (first | (go_at_call 61; refine (renum_join a b bm ws.length _ (restW ws a b) _ _ _ (by omega) HOJ.out HL.out HWL.out hS3.2.2.2.2.2.1 hS3.2.2.2.2.1 HRG.out (by omega) (by omega)).mono ?_; rintro en w8 ⟨b8, rfl, hb8, O8, B8⟩; have hS8 := six_below B8 hS3; have Z8 := Lib.hid (ZJ.out.later B8); have S8 := B8.size; simp at S8; have HO8 := Lib.hid O8; clear O8) | (go_at_call 60; refine (withWires_any (n - 1) e s (.slice none 0 0) b8 ws.length _ M _ (by omega) HO8.out HM.out HWF.out).mono ?_; rw [HRR.out]; rintro en w9 ⟨p9, c9, rfl, o9, B9⟩; have hS9 := six_below B9 hS8; clear k0 k1 k2 k3 ca cb z0 z1 z2 z3 f0 f1 f2 f3; obtain ⟨z0, z1, z2, z3, f0, f1, f2, f3, -⟩ := Z8.out.later B9; have S9 := B9.size))
  all_goals
    go_wp2
    exact bodyPost_ret (v := .tuple #[.agg #[.int .i64 n', .int .i64 e', .int .i64 s', .slice p9 out.length c9], .bool bb]) (by simp (maxDischargeDepth := 8) [results, Try.results16, go_sem, *]) rfl ⟨p9, c9, rfl, by refine owns_mono (base := w8.heap.size) ?_ (by omega); ((repeat (refine ownsRow_setCell_below ?_ ?_ _; rotate_left; focus (first | omega | (simp; done) | (simp; omega)))); with_reducible exact o9), by (repeat (first | exact Below.refl _ _ | (refine Below.setCell ?_ (by (first | exact Nat.le_refl _ | omega | (simp <;> omega) | simp)) _) | (refine Below.alloc ?_ (by (first | exact Nat.le_refl _ | omega | (simp <;> omega) | simp)) _) | (refine below_draws ?_ _) | exact M6 | (refine Below.trans ?_ (Below.mono M6 (by (first | exact Nat.le_refl _ | omega | (simp <;> omega) | simp)))) | exact B8 | (refine Below.trans ?_ (Below.mono B8 (by (first | exact Nat.le_refl _ | omega | (simp <;> omega) | simp)))) | exact B9 | (refine Below.trans ?_ (Below.mono B9 (by (first | exact Nat.le_refl _ | omega | (simp <;> omega) | simp))))))⟩
theorem impl_joinNodes (n e s a b : Int) (v : Value) (ws : List W3) (w : World) (hr : ReadsW w v ws) :
    Calls Try.prog 16 #[.agg #[.int .i64 n, .int .i64 e, .int .i64 s, v], .int .i64 a, .int .i64 b] w (AnsN w (joinR n e s a b ws)) := by
  by_cases hb : netB n e s ws = true
  case neg =>
    rw [joinR_no (fun h => hb h.1)]
    exact joinI_net n e s a b v ws w hr (by simpa using hb)
  by_cases hJ : JoinOk n a b
  case neg =>
    rw [joinR_no (fun h => hJ h.2)]
    unfold JoinOk at hJ
    by_cases hA : 0 ≤ a ∧ a < n
    case neg => exact joinI_a n e s a b v ws w hr hb hA
    by_cases hE : 0 ≤ b ∧ b < n
    case neg => exact joinI_b n e s a b v ws w hr hb hA hE
    exact joinI_ab n e s a b v ws w hr hb hA hE (by omega)
  rw [joinR_yes hb hJ]
  unfold endsJ
  by_cases hbe : b < e
  · rw [if_pos hbe]; exact joinI_yes1 n e s a b v ws w hr _ hb hJ hbe rfl
  · rw [if_neg hbe]; exact joinI_yes0 n e s a b v ws w hr _ hb hJ hbe rfl
end Go.Proofs.Ytaececpphdaciaa
