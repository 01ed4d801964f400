/-
  spec.l03Draw and spec.MakeNet: some small valid network.
  spec.MakeSmall: some valid network of 2 to 4 nodes with weights from 1 to 4 and a scale from 1 to 3.
-/
import Derived.Test.YtaececpphdaciaaGIns
import Derived.Test.YtaececpphdaciaaGDraw
import Derived.Test.YtaececpphdaciaaLapImpl
import Derived.Test.YtaececpphdaciaaResist
import Derived.Deep.RegionHeld
import Derived.Deep.RegionLaw
namespace Go.Proofs.Ytaececpphdaciaa
open Go.RowKit

theorem cur_lt {B b : Nat} {w : World} (h : CurAt B b w) : b < w.heap.size := by
  obtain ⟨_, _, v, n, i, q, hh, _⟩ := h
  exact (Array.getElem?_eq_some_iff.1 hh).1
theorem cur_later {B b : Nat} {w w' : World} (h : CurAt B b w) (hB : Below w.heap.size w w') : CurAt B b w' := by
  have hb := cur_lt h
  obtain ⟨h1, h2, v, n, i, q, hh, hi, hv, hlow⟩ := h
  exact ⟨h1, Nat.le_trans h2 hB.size, v, n, i, q, by rw [hB.block b hb]; exact hh, hi, hv.later (hB.mono h2) hlow, hlow⟩
theorem cur_set {B b : Nat} {w : World} (h : CurAt B b w) (p : Addr) (u : Value) (hp : p.block ≠ b) (hB : B ≤ p.block) : CurAt B b (w.setCell p u) := by
  obtain ⟨h1, h2, v, n, i, q, hh, hi, hv, hlow⟩ := h
  exact ⟨h1, by simpa using h2, v, n, i, q, by rw [Below.heap_setCell _ _ _ _ (Ne.symm hp)]; exact hh, hi, hv.later ((Below.refl B w).setCell hB _) hlow, hlow⟩
theorem own_kept {w w' : World} {row : Option Nat} {base : Nat} {e : TypeId} {size : Nat} {v : Value} {n : Nat} {xs : List Value} (h : w.ownsRow base e size v n xs) (hg : w.grownBy w' row) (hne : ∀ k, v.ownBlock = some k → some k ≠ row) : w'.ownsRow base e size v n xs := by
  have hl := h.lt
  refine ⟨h.1, ?_⟩
  rcases h.2 with h0 | ⟨g, cap, cur, rfl, hb, hh, r⟩
  · exact .inl h0
  · exact .inr ⟨g, cap, cur, rfl, hb, by rw [hg.block g (hl g rfl).2 (hne g rfl)]; exact hh, r⟩
/-- What the making of a network keeps: the network so far in its box at g, the cursor, and all that stood before. -/
structure NetInv (B b : Nat) (w : World) (N : Nat) (e s : Int) (g : Nat) (p : Option Addr) (cap : Nat) (ws : List W3) (X : World) : Prop where
  box : X.cell? ⟨g, 0, none⟩ = some (.int .i64 N) ∧ X.cell? ⟨g, 1, none⟩ = some (.int .i64 e) ∧ X.cell? ⟨g, 2, none⟩ = some (.int .i64 s) ∧ X.cell? ⟨g, 3, none⟩ = some (.slice p ws.length cap) ∧ X.frozen? ⟨g, 3, none⟩ = false
  res : ∃ z0 z1 z2 z3, X.cell? ⟨w.heap.size, 0, none⟩ = some z0 ∧ X.cell? ⟨w.heap.size, 1, none⟩ = some z1 ∧ X.cell? ⟨w.heap.size, 2, none⟩ = some z2 ∧ X.cell? ⟨w.heap.size, 3, none⟩ = some z3 ∧ X.frozen? ⟨w.heap.size, 0, none⟩ = false ∧ X.frozen? ⟨w.heap.size, 1, none⟩ = false ∧ X.frozen? ⟨w.heap.size, 2, none⟩ = false ∧ X.frozen? ⟨w.heap.size, 3, none⟩ = false
  own : X.ownsRow (w.heap.size + 1) 29 3 (.slice p ws.length cap) ws.length (cellsW ws)
  far : p = none ∨ ∃ k, p = some ⟨k, 0, none⟩ ∧ k ≠ g
  cur : CurAt B b X
  grown : w.grownBy X (some b)
  gb : w.heap.size < g ∧ g < X.heap.size ∧ b < w.heap.size
theorem NetInv.on {B b : Nat} {w X Y : World} {N : Nat} {e s : Int} {g : Nat} {p : Option Addr} {cap : Nat} {ws : List W3} (h : NetInv B b w N e s g p cap ws X) (hc : CurAt B b Y) (hG : X.grownBy Y (some b)) : NetInv B b w N e s g p cap ws Y := by
  obtain ⟨⟨b0, b1, b2, b3, b4⟩, ⟨z0, z1, z2, z3, r0, r1, r2, r3, r4, r5, r6, r7⟩, ho, hf, _, hg, g1, g2, g3⟩ := h
  have n1 : some g ≠ some b := by intro e; cases e; omega
  have n2 : some w.heap.size ≠ some b := by intro e; cases e; omega
  have f := fun (q : Nat) (j : Nat) (hq : q < X.heap.size) (hn : some q ≠ some b) => hG.frozen_far ⟨q, j, none⟩ hq hn
  exact ⟨⟨hG.cell b0 n1, hG.cell b1 n1, hG.cell b2 n1, hG.cell b3 n1, (f g 3 g2 n1).trans b4⟩, ⟨z0, z1, z2, z3, hG.cell r0 n2, hG.cell r1 n2, hG.cell r2 n2, hG.cell r3 n2, (f _ 0 (by omega) n2).trans r4, (f _ 1 (by omega) n2).trans r5, (f _ 2 (by omega) n2).trans r6, (f _ 3 (by omega) n2).trans r7⟩,
    own_kept ho hG (fun k hk e => by have := (ho.lt k hk).1; cases e; omega), hf, hc, grown_tr hg hG, g1, by have := hG.size; omega, g3⟩
theorem NetInv.later {B b : Nat} {w X Y : World} {N : Nat} {e s : Int} {g : Nat} {p : Option Addr} {cap : Nat} {ws : List W3} (h : NetInv B b w N e s g p cap ws X) (hB : Below X.heap.size X Y) : NetInv B b w N e s g p cap ws Y :=
  h.on (cur_later h.cur hB) ⟨hB.os, hB.tape, hB.output, hB.size, fun i hi _ => hB.block i hi⟩

/-- The wires anew. -/
theorem NetInv.put {B b : Nat} {w X : World} {N : Nat} {e s : Int} {g : Nat} {p p' : Option Addr} {cap cap' : Nat} {ws vs : List W3} (h : NetInv B b w N e s g p cap ws X) (ho : X.ownsRow (g + 1) 29 3 (.slice p' vs.length cap') vs.length (cellsW vs)) :
    NetInv B b w N e s g p' cap' vs (X.setCell ⟨g, 3, none⟩ (.slice p' vs.length cap')) := by
  obtain ⟨⟨b0, b1, b2, b3, b4⟩, ⟨z0, z1, z2, z3, r0, r1, r2, r3, r4, r5, r6, r7⟩, _, _, hc, hg, g1, g2, g3⟩ := h
  have hB := hc.2.1
  have hBb := hc.1
  refine ⟨⟨(World.cell?_setCell_other _ _ _ _ (by simp)).trans b0, (World.cell?_setCell_other _ _ _ _ (by simp)).trans b1, (World.cell?_setCell_other _ _ _ _ (by simp)).trans b2, World.cell?_setCell_same _ _ _ b3, by simpa using b4⟩,
    ⟨z0, z1, z2, z3, by rw [World.cell?_setCell_far _ _ _ _ (show g ≠ w.heap.size by omega)]; exact r0, by rw [World.cell?_setCell_far _ _ _ _ (show g ≠ w.heap.size by omega)]; exact r1, by rw [World.cell?_setCell_far _ _ _ _ (show g ≠ w.heap.size by omega)]; exact r2, by rw [World.cell?_setCell_far _ _ _ _ (show g ≠ w.heap.size by omega)]; exact r3, by simpa using r4, by simpa using r5, by simpa using r6, by simpa using r7⟩, ?_, ?_, cur_set hc _ _ (show g ≠ b by omega) (show B ≤ g by omega), ⟨hg.os, hg.tape, hg.output, by simpa using hg.size, fun i hi hr => by rw [Below.heap_setCell _ _ _ _ (show i ≠ g by omega)]; exact hg.block i hi hr⟩, g1, by simpa using g2, g3⟩
  · refine owns_mono (base := g + 1) (ownsRow_setCell_below ho (show g < g + 1 by omega) _) (by omega)
  · rcases ho.2 with ⟨hv, _⟩ | ⟨q, c, cur, hv, hb, _⟩
    · simp only [Value.slice.injEq] at hv
      exact .inl hv.1
    · simp only [Value.slice.injEq] at hv
      exact .inr ⟨q, hv.1, by omega⟩
theorem NetInv.ends {B b : Nat} {w X : World} {N : Nat} {e s : Int} {g : Nat} {p : Option Addr} {cap : Nat} {ws : List W3} (h : NetInv B b w N e s g p cap ws X) (e' : Int) :
    NetInv B b w N e' s g p cap ws (X.setCell ⟨g, 1, none⟩ (.int .i64 e')) := by
  obtain ⟨⟨b0, b1, b2, b3, b4⟩, ⟨z0, z1, z2, z3, r0, r1, r2, r3, r4, r5, r6, r7⟩, ho, hf, hc, hg, g1, g2, g3⟩ := h
  have hB := hc.2.1
  have hBb := hc.1
  refine ⟨⟨(World.cell?_setCell_other _ _ _ _ (by simp)).trans b0, World.cell?_setCell_same _ _ _ b1, (World.cell?_setCell_other _ _ _ _ (by simp)).trans b2, (World.cell?_setCell_other _ _ _ _ (by simp)).trans b3, by simpa using b4⟩,
    ⟨z0, z1, z2, z3, by rw [World.cell?_setCell_far _ _ _ _ (show g ≠ w.heap.size by omega)]; exact r0, by rw [World.cell?_setCell_far _ _ _ _ (show g ≠ w.heap.size by omega)]; exact r1, by rw [World.cell?_setCell_far _ _ _ _ (show g ≠ w.heap.size by omega)]; exact r2, by rw [World.cell?_setCell_far _ _ _ _ (show g ≠ w.heap.size by omega)]; exact r3, by simpa using r4, by simpa using r5, by simpa using r6, by simpa using r7⟩, ?_, hf, cur_set hc _ _ (show g ≠ b by omega) (show B ≤ g by omega), ⟨hg.os, hg.tape, hg.output, by simpa using hg.size, fun i hi hr => by rw [Below.heap_setCell _ _ _ _ (show i ≠ g by omega)]; exact hg.block i hi hr⟩, g1, by simpa using g2, g3⟩
  rcases hf with hf | ⟨k, hf, hk⟩
  · subst hf
    refine ⟨ho.1, ?_⟩
    rcases ho.2 with h0 | ⟨q, c, cur, hv, _⟩
    · exact .inl h0
    · cases hv
  · subst hf
    refine ⟨ho.1, ?_⟩
    rcases ho.2 with ⟨hv, _⟩ | ⟨q, c, cur, hv, hb, hh, r⟩
    · cases hv
    · cases hv
      exact .inr ⟨k, _, cur, rfl, hb, by rw [Below.heap_setCell _ _ _ _ hk]; exact hh, r⟩
theorem NetInv.new {B b : Nat} {w X : World} {N : Nat} {s : Int} {t : TypeId} (hc : CurAt B b X) (hg : w.grownBy X (some b)) (hw : w.heap.size < X.heap.size) (hb : b < w.heap.size)
    (hr : ∃ z0 z1 z2 z3, X.cell? ⟨w.heap.size, 0, none⟩ = some z0 ∧ X.cell? ⟨w.heap.size, 1, none⟩ = some z1 ∧ X.cell? ⟨w.heap.size, 2, none⟩ = some z2 ∧ X.cell? ⟨w.heap.size, 3, none⟩ = some z3 ∧ X.frozen? ⟨w.heap.size, 0, none⟩ = false ∧ X.frozen? ⟨w.heap.size, 1, none⟩ = false ∧ X.frozen? ⟨w.heap.size, 2, none⟩ = false ∧ X.frozen? ⟨w.heap.size, 3, none⟩ = false) :
    NetInv B b w N 2 s X.heap.size none 0 [] (X.alloc (.cells #[.int .i64 N, .int .i64 2, .int .i64 s, .slice none 0 0] t)) := by
  have hB : Below X.heap.size X (X.alloc (.cells #[.int .i64 N, .int .i64 2, .int .i64 s, .slice none 0 0] t)) := (Below.refl _ _).alloc (Nat.le_refl _) _
  obtain ⟨z0, z1, z2, z3, r0, r1, r2, r3, r4, r5, r6, r7⟩ := hr
  refine ⟨⟨by simp [go_sem], by simp [go_sem], by simp [go_sem], by simp [go_sem], by simp [go_sem]⟩, ⟨z0, z1, z2, z3, ?_, ?_, ?_, ?_, ?_, ?_, ?_, ?_⟩, World.ownsRow_nil _ _ _ _, .inl rfl, cur_later hc hB, grown_tr hg ⟨hB.os, hB.tape, hB.output, hB.size, fun i hi _ => hB.block i hi⟩, hw, by simp, hb⟩
  · rw [hB.cell (p := ⟨w.heap.size, 0, none⟩) hw]; exact r0
  · rw [hB.cell (p := ⟨w.heap.size, 1, none⟩) hw]; exact r1
  · rw [hB.cell (p := ⟨w.heap.size, 2, none⟩) hw]; exact r2
  · rw [hB.cell (p := ⟨w.heap.size, 3, none⟩) hw]; exact r3
  · rw [hB.frozen (p := ⟨w.heap.size, 0, none⟩) hw]; exact r4
  · rw [hB.frozen (p := ⟨w.heap.size, 1, none⟩) hw]; exact r5
  · rw [hB.frozen (p := ⟨w.heap.size, 2, none⟩) hw]; exact r6
  · rw [hB.frozen (p := ⟨w.heap.size, 3, none⟩) hw]; exact r7
theorem res_new (w : World) (t : TypeId) : ∃ z0 z1 z2 z3, (w.alloc (.cells #[.int .i64 0, .int .i64 0, .int .i64 0, .slice none 0 0] t)).cell? ⟨w.heap.size, 0, none⟩ = some z0 ∧ (w.alloc (.cells #[.int .i64 0, .int .i64 0, .int .i64 0, .slice none 0 0] t)).cell? ⟨w.heap.size, 1, none⟩ = some z1 ∧ (w.alloc (.cells #[.int .i64 0, .int .i64 0, .int .i64 0, .slice none 0 0] t)).cell? ⟨w.heap.size, 2, none⟩ = some z2 ∧ (w.alloc (.cells #[.int .i64 0, .int .i64 0, .int .i64 0, .slice none 0 0] t)).cell? ⟨w.heap.size, 3, none⟩ = some z3 ∧ (w.alloc (.cells #[.int .i64 0, .int .i64 0, .int .i64 0, .slice none 0 0] t)).frozen? ⟨w.heap.size, 0, none⟩ = false ∧ (w.alloc (.cells #[.int .i64 0, .int .i64 0, .int .i64 0, .slice none 0 0] t)).frozen? ⟨w.heap.size, 1, none⟩ = false ∧ (w.alloc (.cells #[.int .i64 0, .int .i64 0, .int .i64 0, .slice none 0 0] t)).frozen? ⟨w.heap.size, 2, none⟩ = false ∧ (w.alloc (.cells #[.int .i64 0, .int .i64 0, .int .i64 0, .slice none 0 0] t)).frozen? ⟨w.heap.size, 3, none⟩ = false :=
  ⟨_, _, _, _, by simp [go_sem]; rfl, by simp [go_sem]; rfl, by simp [go_sem]; rfl, by simp [go_sem]; rfl, by simp [go_sem], by simp [go_sem], by simp [go_sem], by simp [go_sem]⟩
theorem res_grown {w X Y : World} {b : Nat} (hG : X.grownBy Y (some b)) (hb : b < w.heap.size) (hX : w.heap.size < X.heap.size)
    (hr : ∃ z0 z1 z2 z3, X.cell? ⟨w.heap.size, 0, none⟩ = some z0 ∧ X.cell? ⟨w.heap.size, 1, none⟩ = some z1 ∧ X.cell? ⟨w.heap.size, 2, none⟩ = some z2 ∧ X.cell? ⟨w.heap.size, 3, none⟩ = some z3 ∧ X.frozen? ⟨w.heap.size, 0, none⟩ = false ∧ X.frozen? ⟨w.heap.size, 1, none⟩ = false ∧ X.frozen? ⟨w.heap.size, 2, none⟩ = false ∧ X.frozen? ⟨w.heap.size, 3, none⟩ = false) :
    ∃ z0 z1 z2 z3, Y.cell? ⟨w.heap.size, 0, none⟩ = some z0 ∧ Y.cell? ⟨w.heap.size, 1, none⟩ = some z1 ∧ Y.cell? ⟨w.heap.size, 2, none⟩ = some z2 ∧ Y.cell? ⟨w.heap.size, 3, none⟩ = some z3 ∧ Y.frozen? ⟨w.heap.size, 0, none⟩ = false ∧ Y.frozen? ⟨w.heap.size, 1, none⟩ = false ∧ Y.frozen? ⟨w.heap.size, 2, none⟩ = false ∧ Y.frozen? ⟨w.heap.size, 3, none⟩ = false := by
  obtain ⟨z0, z1, z2, z3, r0, r1, r2, r3, r4, r5, r6, r7⟩ := hr
  have n2 : some w.heap.size ≠ some b := by intro e; cases e; omega
  exact ⟨z0, z1, z2, z3, hG.cell r0 n2, hG.cell r1 n2, hG.cell r2 n2, hG.cell r3 n2, (hG.frozen_far ⟨_, 0, none⟩ hX n2).trans r4, (hG.frozen_far ⟨_, 1, none⟩ hX n2).trans r5, (hG.frozen_far ⟨_, 2, none⟩ hX n2).trans r6, (hG.frozen_far ⟨_, 3, none⟩ hX n2).trans r7⟩

theorem net_end {B b : Nat} {w X : World} {N : Nat} {e s : Int} {g : Nat} {p : Option Addr} {cap : Nat} {ws : List W3} (h : NetInv B b w N e s g p cap ws X) (u0 u1 u2 u3 : Value) :
    ((((X.setCell ⟨w.heap.size, 0, none⟩ u0).setCell ⟨w.heap.size, 1, none⟩ u1).setCell ⟨w.heap.size, 2, none⟩ u2).setCell ⟨w.heap.size, 3, none⟩ u3).ownsRow w.heap.size 29 3 (.slice p ws.length cap) ws.length (cellsW ws) ∧ CurAt B b ((((X.setCell ⟨w.heap.size, 0, none⟩ u0).setCell ⟨w.heap.size, 1, none⟩ u1).setCell ⟨w.heap.size, 2, none⟩ u2).setCell ⟨w.heap.size, 3, none⟩ u3) ∧ w.grownBy ((((X.setCell ⟨w.heap.size, 0, none⟩ u0).setCell ⟨w.heap.size, 1, none⟩ u1).setCell ⟨w.heap.size, 2, none⟩ u2).setCell ⟨w.heap.size, 3, none⟩ u3) (some b) := by
  have hb := h.gb.2.2
  have hBb := h.cur.1
  have gs : ∀ (Y : World) (j : Nat) (u : Value), w.grownBy Y (some b) → w.grownBy (Y.setCell ⟨w.heap.size, j, none⟩ u) (some b) := fun Y j u hg => ⟨hg.os, hg.tape, hg.output, by simpa using hg.size, fun i hi hr => by rw [Below.heap_setCell _ _ _ _ (show i ≠ w.heap.size by omega)]; exact hg.block i hi hr⟩
  have cs : ∀ (Y : World) (j : Nat) (u : Value), CurAt B b Y → CurAt B b (Y.setCell ⟨w.heap.size, j, none⟩ u) := fun Y j u hc => cur_set hc _ _ (show w.heap.size ≠ b by omega) (show B ≤ w.heap.size by omega)
  have os : ∀ (Y : World) (j : Nat) (u : Value), Y.ownsRow (w.heap.size + 1) 29 3 (.slice p ws.length cap) ws.length (cellsW ws) → (Y.setCell ⟨w.heap.size, j, none⟩ u).ownsRow (w.heap.size + 1) 29 3 (.slice p ws.length cap) ws.length (cellsW ws) := fun Y j u ho => ownsRow_setCell_below ho (show w.heap.size < w.heap.size + 1 by omega) _
  exact ⟨owns_mono (os _ _ _ (os _ _ _ (os _ _ _ (os _ _ _ h.own)))) (by omega), cs _ _ _ (cs _ _ _ (cs _ _ _ (cs _ _ _ h.cur))), gs _ _ _ (gs _ _ _ (gs _ _ _ (gs _ _ _ h.grown)))⟩

set_option maxRecDepth 8000 in
set_option maxHeartbeats 12800000 in
theorem l03Draw_any (B b : Nat) (M : Int) (h4 : 4 ≤ M) (h5 : M ≤ 5) (w : World) (hc : CurAt B b w) :
    Calls Try.prog 50 #[.pointer (some ⟨b, 0, none⟩), .int .i64 M] w fun en w' => ∃ (N : Nat) (e s : Int) (p : Option Addr) (cap : Nat) (ws : List W3), en = .returned (.agg #[.int .i64 N, .int .i64 e, .int .i64 s, .slice p ws.length cap]) ∧ (2 ≤ N ∧ (N : Int) ≤ M ∧ 2 ≤ e ∧ e ≤ N ∧ 1 ≤ s ∧ s ≤ 3) ∧ GoodW N 6 ws ∧ ws.length ≤ 8 ∧ w'.ownsRow w.heap.size 29 3 (.slice p ws.length cap) ws.length (cellsW ws) ∧ CurAt B b w' ∧ w.grownBy w' (some b) := by
  have hb := cur_lt hc
  have hc1 := cur_later hc (show Below w.heap.size w (w.alloc (.cells #[.int .i64 0, .int .i64 0, .int .i64 0, .slice none 0 0] 25)) by (repeat (first | exact Below.refl _ _ | (refine Below.setCell ?_ (by (first | exact Nat.le_refl _ | omega | (simp <;> omega) | simp)) _) | (refine Below.alloc ?_ (by (first | exact Nat.le_refl _ | omega | (simp <;> omega) | simp)) _) | (refine below_draws ?_ _))))
  have hg1 : w.grownBy (w.alloc (.cells #[.int .i64 0, .int .i64 0, .int .i64 0, .slice none 0 0] 25)) (some b) := World.grownBy_alloc _ _ _
  have hr1 := res_new w 25
  go_enter Try.func50, Try.ntmps50
  go_wp2_with fail
  refine (l01Below_any B b (M - 1) (by omega) (by omega) _ hc1).mono ?_
  rintro en w2 ⟨⟨x, rfl, hx0, hx1⟩, hc2, hG2⟩
  have hr2 := res_grown hG2 hb (by simp) hr1
  have S2 := hG2.size
  simp only [World.size_alloc] at S2
  go_wp2_with fail
  refine (l01Below_any B b 3 (by omega) (by omega) _ hc2).mono ?_
  rintro en w3 ⟨⟨y, rfl, hy0, hy1⟩, hc3, hG3⟩
  have hr3 := res_grown hG3 hb (by omega) hr2
  have S3 := hG3.size
  have hg3 := grown_tr (grown_tr hg1 hG2) hG3
  obtain ⟨N, hN⟩ : ∃ N : Nat, 2 + x = N := ⟨(2 + x).toNat, by omega⟩
  obtain ⟨s, hs⟩ : ∃ s : Int, 1 + y = s := ⟨_, rfl⟩
  have I0 := Lib.hid (NetInv.new (N := N) (s := s) (t := 25) hc3 hg3 (by omega) hb hr3)
  have hw3 : w.heap.size < w3.heap.size := by omega
  have hN2 : 2 ≤ N := by omega
  have hNM : (N : Int) ≤ M := by omega
  have hs1 : 1 ≤ s := by omega
  have hs3 : s ≤ 3 := by omega
  clear hc hc1 hc2 hg1 hr1 hr2 hr3 hG2 hG3 hx0 hx1 hy0 hy1 S2 hg3
  by_cases hNN : 2 < (N : Int)
  case neg =>
    have hN2' : ¬ 2 < (N : Int) := hNN
    go_wp2
    go_loopw [6] (fun iv wr => ∃ (v : Nat) (e : Int) (p : Option Addr) (cap : Nat) (ws : List W3), 1 ≤ v ∧ v ≤ N ∧ iv = .int .i64 v ∧ 2 ≤ e ∧ e ≤ N ∧ Hid (GoodW v 6 ws) ∧ ws.length + 1 ≤ v ∧ Hid (NetInv B b w N e s w3.heap.size p cap ws wr)) (fun iv _ => N - (intOf iv).toNat)
    case atStart => exact ⟨1, 2, none, 0, [], by omega, by omega, rfl, by omega, by omega, Lib.hid (GoodW.start 6), by simp, I0⟩
    case round =>
      obtain ⟨v, e, p, cap, ws, hv1, hvN, rfl, he1, he2, hgood, hlen, hI⟩ := hrel
      by_cases hlt : v < N
      · have I := Lib.hid (show NetInv B b w N e s w3.heap.size p cap ws wr.drew from ⟨hI.out.box, hI.out.res, hI.out.own, hI.out.far, hI.out.cur, grown_drewN hI.out.grown 1, hI.out.gb⟩)
        obtain ⟨x0, x1, x2, x3, x4⟩ := hI.out.box
        go_wp2
        obtain ⟨y0, y1, y2, y3, y4⟩ := I.out.box
        go_region_law
          (first
            | (refine step_call (R := fun val w' => (∃ u : Nat, val = .int .i64 u ∧ u < v) ∧ CurAt B b w' ∧ wr.drew.grownBy w' (some b)) ((l01Below_any B b v (by omega) (by omega) wr.drew I.out.cur).mono (fun en w' h => by obtain ⟨⟨u, rfl, hu0, hu1⟩, h2⟩ := h; exact ⟨_, rfl, ⟨u.toNat, by rw [Int.toNat_of_nonneg hu0], by omega⟩, h2⟩)) (by rfl) (by go_simp) ?_; rintro val w5 ⟨⟨u, rfl, hu⟩, hc5, hG5⟩; have I5 := Lib.hid (I.out.on hc5 hG5); obtain ⟨q0, q1, q2, q3, q4⟩ := I5.out.box)
            | (refine step_call (R := fun val w' => (∃ r : Int, val = .int .i64 r ∧ 0 ≤ r ∧ r < 6) ∧ CurAt B b w' ∧ w5.grownBy w' (some b)) ((l01Below_any B b 6 (by omega) (by omega) w5 I5.out.cur).mono (fun en w' h => by obtain ⟨⟨r, rfl, hr⟩, h2⟩ := h; exact ⟨_, rfl, ⟨r, rfl, hr⟩, h2⟩)) (by rfl) (by go_simp) ?_; rintro val w6 ⟨⟨r, rfl, hr0, hr1⟩, hc6, hG6⟩; have I6 := Lib.hid (I5.out.on hc6 hG6); have hW6 := wrap_in (x := 1 + r) (by omega) (by omega); obtain ⟨k0, k1, k2, k3, k4⟩ := I6.out.box)
            | (refine step_call (R := fun val w' => ∃ p' c', val = .slice p' (put3 ws u v (1 + r) false).length c' ∧ w'.ownsRow w6.heap.size 29 3 (.slice p' (put3 ws u v (1 + r) false).length c') (put3 ws u v (1 + r) false).length (cellsW (put3 ws u v (1 + r) false)) ∧ Below w6.heap.size w6 w') ((spec_put3 u v u v (1 + r) false (.inl ⟨by omega, by omega, rfl, rfl⟩) _ ws w6 (ReadsW.of_own I6.out.own) (by omega)).mono (fun en w' h => by obtain ⟨p', c', rfl, h1, h2⟩ := h; exact ⟨_, rfl, p', c', rfl, h1, h2⟩)) (by rfl) (by go_simp) ?_; rintro val w7 ⟨p7, c7, rfl, o7, B7⟩; have I7 := Lib.hid (I6.out.later B7); obtain ⟨j0, j1, j2, j3, j4⟩ := I7.out.box))
        all_goals
          have HI := Lib.hid (I7.out.put (owns_mono o7 (show w3.heap.size + 1 ≤ w6.heap.size from I6.out.gb.2.1)))
          have HGW := Lib.hid (hgood.out.grow u hu (1 + r) (by omega) (by omega))
          have hll := put3_length ws u v (1 + r)
          clear o7 B7 j0 j1 j2 j3 j4 k0 k1 k2 k3 k4 q0 q1 q2 q3 q4 y0 y1 y2 y3 y4 hc5 hc6 hG5 hG6
          go_wp2
          go_roundw
          case rel => exact ⟨v + 1, e, _, _, _, by omega, by omega, by go_num, he1, he2, HGW, by omega, HI⟩
          case measure => simp [intOf] <;> omega
      · obtain rfl : v = N := by omega
        obtain ⟨x0, x1, x2, x3, x4⟩ := hI.out.box
        go_wp2_with fail
        refine (l01Below_any B b 4 (by omega) (by omega) _ hI.out.cur).mono ?_
        rintro en w5 ⟨⟨kk, rfl, hk0, hk1⟩, hc5, hG5⟩
        have I5 := Lib.hid (hI.out.on hc5 hG5)
        obtain ⟨k', rfl⟩ := Int.eq_ofNat_of_zero_le hk0
        clear x0 x1 x2 x3 x4 hc5 hG5
        go_wp2
        go_loopw [7] (fun kv wr => ∃ (k : Nat) (p : Option Addr) (cap : Nat) (ws : List W3), k ≤ 3 ∧ kv = .int .i64 k ∧ Hid (GoodW v 6 ws) ∧ ws.length + k ≤ 8 ∧ Hid (NetInv B b w v e s w3.heap.size p cap ws wr)) (fun kv _ => (intOf kv).toNat)
        case atStart => exact ⟨k', p, cap, ws, by omega, rfl, hgood, by omega, I5⟩
        case round =>
          obtain ⟨k, p, cap, ws, hk, rfl, hgood, hlen, hI⟩ := hrel
          obtain ⟨x0, x1, x2, x3, x4⟩ := hI.out.box
          by_cases hk0 : 0 < k
          · obtain ⟨m, rfl⟩ : ∃ m, k = m + 1 := ⟨k - 1, by omega⟩
            go_wp2_with fail
            refine (l01Below_any B b v (by omega) (by omega) _ hI.out.cur).mono ?_
            rintro en w6 ⟨⟨a, rfl, ha0, ha1⟩, hc6, hG6⟩
            obtain ⟨a', rfl⟩ := Int.eq_ofNat_of_zero_le ha0
            have I6 := Lib.hid (hI.out.on hc6 hG6)
            clear x0 x1 x2 x3 x4 hc6 hG6
            obtain ⟨x0, x1, x2, x3, x4⟩ := I6.out.box
            go_wp2_with fail
            refine (l01Below_any B b v (by omega) (by omega) _ I6.out.cur).mono ?_
            rintro en w7 ⟨⟨c, rfl, hc0, hc1⟩, hc7, hG7⟩
            obtain ⟨c', rfl⟩ := Int.eq_ofNat_of_zero_le hc0
            have I7 := Lib.hid (I6.out.on hc7 hG7)
            clear x0 x1 x2 x3 x4 hc7 hG7
            obtain ⟨x0, x1, x2, x3, x4⟩ := I7.out.box
            by_cases hac : a' = c'
            · subst hac
              go_wp2
              go_roundw
              case rel => exact ⟨m, p, cap, ws, by omega, by first | go_num | (congr 1; omega), hgood, by omega, I7⟩
              case measure => simp [intOf] <;> omega
            · have hne : ((a' : Int) != (c' : Int)) = true := by simp; omega
              have hne2 : ((a' : Int) == (c' : Int)) = false := by simp; omega
              have I := Lib.hid (show NetInv B b w v e s w3.heap.size p cap ws w7.drew from ⟨I7.out.box, I7.out.res, I7.out.own, I7.out.far, I7.out.cur, grown_drewN I7.out.grown 1, I7.out.gb⟩)
              obtain ⟨lo, hi, hE, hlh, hhi⟩ : ∃ lo hi : Nat, Ends (a' : Int) (c' : Int) lo hi ∧ lo < hi ∧ hi < v := by
                by_cases hlt : a' < c'
                · exact ⟨a', c', .inl ⟨by omega, by omega, rfl, rfl⟩, hlt, by omega⟩
                · exact ⟨c', a', .inr (.inr ⟨by omega, by omega, rfl, rfl⟩), by omega, by omega⟩
              have HE := Lib.hid hE; clear hE hac
              go_wp2
              obtain ⟨y0, y1, y2, y3, y4⟩ := I.out.box
              go_region_law
                (first
                  | (refine step_call (R := fun val w' => (∃ r : Int, val = .int .i64 r ∧ 0 ≤ r ∧ r < 6) ∧ CurAt B b w' ∧ w7.drew.grownBy w' (some b)) ((l01Below_any B b 6 (by omega) (by omega) w7.drew I.out.cur).mono (fun en w' h => by obtain ⟨⟨r, rfl, hr⟩, h2⟩ := h; exact ⟨_, rfl, ⟨r, rfl, hr⟩, h2⟩)) (by rfl) (by go_simp) ?_; rintro val w8 ⟨⟨r, rfl, hr0, hr1⟩, hc8, hG8⟩; have I8 := Lib.hid (I.out.on hc8 hG8); have hW8 := wrap_in (x := 1 + r) (by omega) (by omega); obtain ⟨k0, k1, k2, k3, k4⟩ := I8.out.box)
                  | (refine step_call (R := fun val w' => ∃ p' c', val = .slice p' (put3 ws lo hi (1 + r) false).length c' ∧ w'.ownsRow w8.heap.size 29 3 (.slice p' (put3 ws lo hi (1 + r) false).length c') (put3 ws lo hi (1 + r) false).length (cellsW (put3 ws lo hi (1 + r) false)) ∧ Below w8.heap.size w8 w') ((spec_put3 a' c' lo hi (1 + r) false HE.out _ ws w8 (ReadsW.of_own I8.out.own) (by omega)).mono (fun en w' h => by obtain ⟨p', c', rfl, h1, h2⟩ := h; exact ⟨_, rfl, p', c', rfl, h1, h2⟩)) (by rfl) (by go_simp) ?_; rintro val w9 ⟨p9, c9, rfl, o9, B9⟩; have I9 := Lib.hid (I8.out.later B9); obtain ⟨j0, j1, j2, j3, j4⟩ := I9.out.box))
              all_goals
                have HI := Lib.hid (I9.out.put (owns_mono o9 (show w3.heap.size + 1 ≤ w8.heap.size from I8.out.gb.2.1)))
                have HGW := Lib.hid (hgood.out.put lo hi hlh hhi (1 + r) (by omega) (by omega))
                have hll := put3_length ws lo hi (1 + r)
                clear o9 B9 j0 j1 j2 j3 j4 k0 k1 k2 k3 k4 y0 y1 y2 y3 y4 hc8 hG8
                go_wp2
                go_roundw
                case rel => exact ⟨m, _, _, _, by omega, by first | go_num | (congr 1; omega), HGW, by omega, HI⟩
                case measure => simp [intOf] <;> omega
          · obtain rfl : k = 0 := by omega
            obtain ⟨z0, z1, z2, z3, r0, r1, r2, r3, r4, r5, r6, r7⟩ := hI.out.res
            go_wp2
            have HEND := net_end hI.out (.int .i64 v) (.int .i64 e) (.int .i64 s) (.slice p ws.length cap)
            exact bodyPost_ret (v := (.agg #[.int .i64 v, .int .i64 e, .int .i64 s, .slice p ws.length cap])) (by simp (maxDischargeDepth := 8) [results, Try.results50, go_sem, *]) rfl ⟨v, e, s, p, cap, ws, rfl, ⟨hN2, hNM, he1, he2, hs1, hs3⟩, hgood.out, by omega, HEND⟩
  case pos =>
    go_wp2_with fail
    refine (l01Below_any B b ((N : Int) - 1) (by omega) (by omega) _ I0.out.cur).mono ?_
    rintro en w4 ⟨⟨z, rfl, hz0, hz1⟩, hc4, hG4⟩
    have J4 := I0.out.on hc4 hG4
    have I1 := Lib.hid (J4.ends (2 + z))
    obtain ⟨_, _, _, _, _⟩ := J4.box
    have hfz : w4.frozen? ⟨w3.heap.size, 1, none⟩ = false := by
      rw [hG4.frozen_far ⟨w3.heap.size, 1, none⟩ (by simp) (by intro e; have e' := Option.some.inj e; simp only at e'; omega)]; simp [go_sem]
    clear J4 hc4 hG4
    go_wp2
    go_loopw [6] (fun iv wr => ∃ (v : Nat) (e : Int) (p : Option Addr) (cap : Nat) (ws : List W3), 1 ≤ v ∧ v ≤ N ∧ iv = .int .i64 v ∧ 2 ≤ e ∧ e ≤ N ∧ Hid (GoodW v 6 ws) ∧ ws.length + 1 ≤ v ∧ Hid (NetInv B b w N e s w3.heap.size p cap ws wr)) (fun iv _ => N - (intOf iv).toNat)
    case atStart => exact ⟨1, (2 + z), none, 0, [], by omega, by omega, rfl, by omega, by omega, Lib.hid (GoodW.start 6), by simp, I1⟩
    case round =>
      obtain ⟨v, e, p, cap, ws, hv1, hvN, rfl, he1, he2, hgood, hlen, hI⟩ := hrel
      by_cases hlt : v < N
      · have I := Lib.hid (show NetInv B b w N e s w3.heap.size p cap ws wr.drew from ⟨hI.out.box, hI.out.res, hI.out.own, hI.out.far, hI.out.cur, grown_drewN hI.out.grown 1, hI.out.gb⟩)
        obtain ⟨x0, x1, x2, x3, x4⟩ := hI.out.box
        go_wp2
        obtain ⟨y0, y1, y2, y3, y4⟩ := I.out.box
        go_region_law
          (first
            | (refine step_call (R := fun val w' => (∃ u : Nat, val = .int .i64 u ∧ u < v) ∧ CurAt B b w' ∧ wr.drew.grownBy w' (some b)) ((l01Below_any B b v (by omega) (by omega) wr.drew I.out.cur).mono (fun en w' h => by obtain ⟨⟨u, rfl, hu0, hu1⟩, h2⟩ := h; exact ⟨_, rfl, ⟨u.toNat, by rw [Int.toNat_of_nonneg hu0], by omega⟩, h2⟩)) (by rfl) (by go_simp) ?_; rintro val w5 ⟨⟨u, rfl, hu⟩, hc5, hG5⟩; have I5 := Lib.hid (I.out.on hc5 hG5); obtain ⟨q0, q1, q2, q3, q4⟩ := I5.out.box)
            | (refine step_call (R := fun val w' => (∃ r : Int, val = .int .i64 r ∧ 0 ≤ r ∧ r < 6) ∧ CurAt B b w' ∧ w5.grownBy w' (some b)) ((l01Below_any B b 6 (by omega) (by omega) w5 I5.out.cur).mono (fun en w' h => by obtain ⟨⟨r, rfl, hr⟩, h2⟩ := h; exact ⟨_, rfl, ⟨r, rfl, hr⟩, h2⟩)) (by rfl) (by go_simp) ?_; rintro val w6 ⟨⟨r, rfl, hr0, hr1⟩, hc6, hG6⟩; have I6 := Lib.hid (I5.out.on hc6 hG6); have hW6 := wrap_in (x := 1 + r) (by omega) (by omega); obtain ⟨k0, k1, k2, k3, k4⟩ := I6.out.box)
            | (refine step_call (R := fun val w' => ∃ p' c', val = .slice p' (put3 ws u v (1 + r) false).length c' ∧ w'.ownsRow w6.heap.size 29 3 (.slice p' (put3 ws u v (1 + r) false).length c') (put3 ws u v (1 + r) false).length (cellsW (put3 ws u v (1 + r) false)) ∧ Below w6.heap.size w6 w') ((spec_put3 u v u v (1 + r) false (.inl ⟨by omega, by omega, rfl, rfl⟩) _ ws w6 (ReadsW.of_own I6.out.own) (by omega)).mono (fun en w' h => by obtain ⟨p', c', rfl, h1, h2⟩ := h; exact ⟨_, rfl, p', c', rfl, h1, h2⟩)) (by rfl) (by go_simp) ?_; rintro val w7 ⟨p7, c7, rfl, o7, B7⟩; have I7 := Lib.hid (I6.out.later B7); obtain ⟨j0, j1, j2, j3, j4⟩ := I7.out.box))
        all_goals
          have HI := Lib.hid (I7.out.put (owns_mono o7 (show w3.heap.size + 1 ≤ w6.heap.size from I6.out.gb.2.1)))
          have HGW := Lib.hid (hgood.out.grow u hu (1 + r) (by omega) (by omega))
          have hll := put3_length ws u v (1 + r)
          clear o7 B7 j0 j1 j2 j3 j4 k0 k1 k2 k3 k4 q0 q1 q2 q3 q4 y0 y1 y2 y3 y4 hc5 hc6 hG5 hG6
          go_wp2
          go_roundw
          case rel => exact ⟨v + 1, e, _, _, _, by omega, by omega, by go_num, he1, he2, HGW, by omega, HI⟩
          case measure => simp [intOf] <;> omega
      · obtain rfl : v = N := by omega
        obtain ⟨x0, x1, x2, x3, x4⟩ := hI.out.box
        go_wp2_with fail
        refine (l01Below_any B b 4 (by omega) (by omega) _ hI.out.cur).mono ?_
        rintro en w5 ⟨⟨kk, rfl, hk0, hk1⟩, hc5, hG5⟩
        have I5 := Lib.hid (hI.out.on hc5 hG5)
        obtain ⟨k', rfl⟩ := Int.eq_ofNat_of_zero_le hk0
        clear x0 x1 x2 x3 x4 hc5 hG5
        go_wp2
        go_loopw [7] (fun kv wr => ∃ (k : Nat) (p : Option Addr) (cap : Nat) (ws : List W3), k ≤ 3 ∧ kv = .int .i64 k ∧ Hid (GoodW v 6 ws) ∧ ws.length + k ≤ 8 ∧ Hid (NetInv B b w v e s w3.heap.size p cap ws wr)) (fun kv _ => (intOf kv).toNat)
        case atStart => exact ⟨k', p, cap, ws, by omega, rfl, hgood, by omega, I5⟩
        case round =>
          obtain ⟨k, p, cap, ws, hk, rfl, hgood, hlen, hI⟩ := hrel
          obtain ⟨x0, x1, x2, x3, x4⟩ := hI.out.box
          by_cases hk0 : 0 < k
          · obtain ⟨m, rfl⟩ : ∃ m, k = m + 1 := ⟨k - 1, by omega⟩
            go_wp2_with fail
            refine (l01Below_any B b v (by omega) (by omega) _ hI.out.cur).mono ?_
            rintro en w6 ⟨⟨a, rfl, ha0, ha1⟩, hc6, hG6⟩
            obtain ⟨a', rfl⟩ := Int.eq_ofNat_of_zero_le ha0
            have I6 := Lib.hid (hI.out.on hc6 hG6)
            clear x0 x1 x2 x3 x4 hc6 hG6
            obtain ⟨x0, x1, x2, x3, x4⟩ := I6.out.box
            go_wp2_with fail
            refine (l01Below_any B b v (by omega) (by omega) _ I6.out.cur).mono ?_
            rintro en w7 ⟨⟨c, rfl, hc0, hc1⟩, hc7, hG7⟩
            obtain ⟨c', rfl⟩ := Int.eq_ofNat_of_zero_le hc0
            have I7 := Lib.hid (I6.out.on hc7 hG7)
            clear x0 x1 x2 x3 x4 hc7 hG7
            obtain ⟨x0, x1, x2, x3, x4⟩ := I7.out.box
            by_cases hac : a' = c'
            · subst hac
              go_wp2
              go_roundw
              case rel => exact ⟨m, p, cap, ws, by omega, by first | go_num | (congr 1; omega), hgood, by omega, I7⟩
              case measure => simp [intOf] <;> omega
            · have hne : ((a' : Int) != (c' : Int)) = true := by simp; omega
              have hne2 : ((a' : Int) == (c' : Int)) = false := by simp; omega
              have I := Lib.hid (show NetInv B b w v e s w3.heap.size p cap ws w7.drew from ⟨I7.out.box, I7.out.res, I7.out.own, I7.out.far, I7.out.cur, grown_drewN I7.out.grown 1, I7.out.gb⟩)
              obtain ⟨lo, hi, hE, hlh, hhi⟩ : ∃ lo hi : Nat, Ends (a' : Int) (c' : Int) lo hi ∧ lo < hi ∧ hi < v := by
                by_cases hlt : a' < c'
                · exact ⟨a', c', .inl ⟨by omega, by omega, rfl, rfl⟩, hlt, by omega⟩
                · exact ⟨c', a', .inr (.inr ⟨by omega, by omega, rfl, rfl⟩), by omega, by omega⟩
              have HE := Lib.hid hE; clear hE hac
              go_wp2
              obtain ⟨y0, y1, y2, y3, y4⟩ := I.out.box
              go_region_law
                (first
                  | (refine step_call (R := fun val w' => (∃ r : Int, val = .int .i64 r ∧ 0 ≤ r ∧ r < 6) ∧ CurAt B b w' ∧ w7.drew.grownBy w' (some b)) ((l01Below_any B b 6 (by omega) (by omega) w7.drew I.out.cur).mono (fun en w' h => by obtain ⟨⟨r, rfl, hr⟩, h2⟩ := h; exact ⟨_, rfl, ⟨r, rfl, hr⟩, h2⟩)) (by rfl) (by go_simp) ?_; rintro val w8 ⟨⟨r, rfl, hr0, hr1⟩, hc8, hG8⟩; have I8 := Lib.hid (I.out.on hc8 hG8); have hW8 := wrap_in (x := 1 + r) (by omega) (by omega); obtain ⟨k0, k1, k2, k3, k4⟩ := I8.out.box)
                  | (refine step_call (R := fun val w' => ∃ p' c', val = .slice p' (put3 ws lo hi (1 + r) false).length c' ∧ w'.ownsRow w8.heap.size 29 3 (.slice p' (put3 ws lo hi (1 + r) false).length c') (put3 ws lo hi (1 + r) false).length (cellsW (put3 ws lo hi (1 + r) false)) ∧ Below w8.heap.size w8 w') ((spec_put3 a' c' lo hi (1 + r) false HE.out _ ws w8 (ReadsW.of_own I8.out.own) (by omega)).mono (fun en w' h => by obtain ⟨p', c', rfl, h1, h2⟩ := h; exact ⟨_, rfl, p', c', rfl, h1, h2⟩)) (by rfl) (by go_simp) ?_; rintro val w9 ⟨p9, c9, rfl, o9, B9⟩; have I9 := Lib.hid (I8.out.later B9); obtain ⟨j0, j1, j2, j3, j4⟩ := I9.out.box))
              all_goals
                have HI := Lib.hid (I9.out.put (owns_mono o9 (show w3.heap.size + 1 ≤ w8.heap.size from I8.out.gb.2.1)))
                have HGW := Lib.hid (hgood.out.put lo hi hlh hhi (1 + r) (by omega) (by omega))
                have hll := put3_length ws lo hi (1 + r)
                clear o9 B9 j0 j1 j2 j3 j4 k0 k1 k2 k3 k4 y0 y1 y2 y3 y4 hc8 hG8
                go_wp2
                go_roundw
                case rel => exact ⟨m, _, _, _, by omega, by first | go_num | (congr 1; omega), HGW, by omega, HI⟩
                case measure => simp [intOf] <;> omega
          · obtain rfl : k = 0 := by omega
            obtain ⟨z0, z1, z2, z3, r0, r1, r2, r3, r4, r5, r6, r7⟩ := hI.out.res
            go_wp2
            have HEND := net_end hI.out (.int .i64 v) (.int .i64 e) (.int .i64 s) (.slice p ws.length cap)
            exact bodyPost_ret (v := (.agg #[.int .i64 v, .int .i64 e, .int .i64 s, .slice p ws.length cap])) (by simp (maxDischargeDepth := 8) [results, Try.results50, go_sem, *]) rfl ⟨v, e, s, p, cap, ws, rfl, ⟨hN2, hNM, he1, he2, hs1, hs3⟩, hgood.out, by omega, HEND⟩
end Go.Proofs.Ytaececpphdaciaa

namespace Go.Proofs.Ytaececpphdaciaa
open Go.RowKit

def setW (ws : List W3) (k : Nat) (x : Int) : List W3 := match ws[k]? with | some e => ws.set k (e.1, e.2.1, x) | none => ws
theorem setW_at {ws : List W3} {k : Nat} (h : k < ws.length) (x : Int) : setW ws k x = ws.set k (ws[k].1, ws[k].2.1, x) := by
  unfold setW; rw [List.getElem?_eq_getElem h]
theorem setW_length (ws : List W3) (k : Nat) (x : Int) : (setW ws k x).length = ws.length := by
  unfold setW; split <;> simp
theorem cells_setW : ∀ (ws : List W3) (k : Nat) (x : Int), k < ws.length → cellsW (setW ws k x) = (cellsW ws).set (k * 3 + 2) (.int .i64 x)
  | [], _, _, h => absurd h (by simp)
  | e :: r, 0, x, _ => by
    rw [setW_at (by simp)]
    simp [cellsW, cells3]
  | e :: r, k + 1, x, h => by
    have hk : k < r.length := by simpa using h
    have ih := cells_setW r k x hk
    rw [setW_at hk] at ih
    rw [setW_at h]
    have e1 : ∀ l : List W3, cellsW (e :: l) = cells3 e ++ cellsW l := fun l => by simp [cellsW]
    show cellsW (e :: r.set k (r[k].1, r[k].2.1, x)) = _
    have e4 : (cells3 e).length = 3 := rfl
    rw [e1, e1, ih, List.set_append_right _ _ (by omega), e4]
    congr 2
    omega
theorem GoodW.setW {V : Nat} {X : Int} {ws : List W3} (h : GoodW V X ws) (k : Nat) (hk : k < ws.length) (x : Int) (h1 : 1 ≤ x) (h2 : x ≤ X) : GoodW V X (setW ws k x) := by
  have hm := h.mem ws[k] (List.getElem_mem hk)
  rw [setW_at hk]
  refine ⟨fun e he => ?_, ?_, fun v h0 hv S hS hw => h.con v h0 hv S hS fun e he => ?_⟩
  · rcases List.mem_or_eq_of_mem_set he with he | he
    · exact h.mem e he
    · subst he
      exact ⟨hm.1, hm.2.1, hm.2.2.1, h1, h2⟩
  · rw [List.pairwise_iff_getElem]
    intro i j hi hj hij
    have hp := List.pairwise_iff_getElem.1 h.srt i j (by simpa using hi) (by simpa using hj) hij
    rw [List.getElem_set, List.getElem_set]
    unfold wLt at hp ⊢
    by_cases h1 : k = i <;> by_cases h2 : k = j
    · omega
    · subst h1; rw [if_pos rfl, if_neg h2]; exact hp
    · subst h2; rw [if_neg h1, if_pos rfl]; exact hp
    · rw [if_neg h1, if_neg h2]; exact hp
  · obtain ⟨i, hi, rfl⟩ := List.getElem_of_mem he
    have hi' : i < (ws.set k (ws[k].1, ws[k].2.1, x)).length := by simpa using hi
    have := hw _ (List.getElem_mem hi')
    rw [List.getElem_set] at this
    by_cases hki : k = i
    · subst hki; rw [if_pos rfl] at this; exact this
    · rw [if_neg hki] at this; exact this
theorem setW_get {ws : List W3} {k : Nat} (hk : k < ws.length) {x : Int} (hx : x ≤ 4) (h : ∀ i (hi : i < ws.length), i < k → ws[i].2.2 ≤ 4) : ∀ i (hi : i < (setW ws k x).length), i < k + 1 → (setW ws k x)[i].2.2 ≤ 4 := by
  intro i hi hik
  have e := setW_at hk x
  simp only [e] at hi ⊢
  rw [List.getElem_set]
  by_cases hki : k = i
  · rw [if_pos hki]; exact hx
  · rw [if_neg hki]; exact h i (by simpa using hi) (by omega)
/-- What the loop over the wires keeps. -/
structure SmInv (w : World) (NB ob : Nat) (N e s : Int) (p : Option Addr) (L cap : Nat) (ws : List W3) (X : World) : Prop where
  box : boxN X NB N e s (.slice p L cap)
  res : ∃ z0 z1 z2 z3, X.cell? ⟨w.heap.size, 0, none⟩ = some z0 ∧ X.cell? ⟨w.heap.size, 1, none⟩ = some z1 ∧ X.cell? ⟨w.heap.size, 2, none⟩ = some z2 ∧ X.cell? ⟨w.heap.size, 3, none⟩ = some z3 ∧ X.frozen? ⟨w.heap.size, 0, none⟩ = false ∧ X.frozen? ⟨w.heap.size, 1, none⟩ = false ∧ X.frozen? ⟨w.heap.size, 2, none⟩ = false ∧ X.frozen? ⟨w.heap.size, 3, none⟩ = false
  own : X.ownsRow ob 29 3 (.slice p L cap) L (cellsW ws)
  far : ∀ g, p = some ⟨g, 0, none⟩ → g ≠ NB
  cur : CurAt (w.heap.size + 1) (w.heap.size + 1) X
  below : Below w.heap.size w X
  lt : w.heap.size + 1 < ob ∧ ob ≤ NB ∧ NB < X.heap.size
theorem SmInv.on {w X Y : World} {NB ob : Nat} {N e s : Int} {p : Option Addr} {L cap : Nat} {ws : List W3} (h : SmInv w NB ob N e s p L cap ws X) (hc : CurAt (w.heap.size + 1) (w.heap.size + 1) Y) (hG : X.grownBy Y (some (w.heap.size + 1))) : SmInv w NB ob N e s p L cap ws Y := by
  obtain ⟨⟨b0, b1, b2, b3⟩, ⟨z0, z1, z2, z3, r0, r1, r2, r3, r4, r5, r6, r7⟩, ho, hf, _, hB, g1, g2, g3⟩ := h
  have n1 : some NB ≠ some (w.heap.size + 1) := by intro e; cases e; omega
  have n2 : some w.heap.size ≠ some (w.heap.size + 1) := by simp
  have hX : w.heap.size < X.heap.size := by omega
  exact ⟨⟨hG.cell b0 n1, hG.cell b1 n1, hG.cell b2 n1, hG.cell b3 n1⟩, ⟨z0, z1, z2, z3, hG.cell r0 n2, hG.cell r1 n2, hG.cell r2 n2, hG.cell r3 n2, (hG.frozen_far ⟨_, 0, none⟩ hX n2).trans r4, (hG.frozen_far ⟨_, 1, none⟩ hX n2).trans r5, (hG.frozen_far ⟨_, 2, none⟩ hX n2).trans r6, (hG.frozen_far ⟨_, 3, none⟩ hX n2).trans r7⟩,
    own_kept ho hG (fun k hk e => by have := (ho.lt k hk).1; cases e; omega), hf, hc, hB.grown hG hB.size (fun k hk => by cases hk; omega), g1, g2, by have := hG.size; omega⟩
theorem SmInv.store {w X : World} {NB ob g : Nat} {N e s : Int} {L cap : Nat} {ws : List W3} (h : SmInv w NB ob N e s (some ⟨g, 0, none⟩) L cap ws X) (k : Nat) (hk : k < ws.length) (x : Int) : SmInv w NB ob N e s (some ⟨g, 0, none⟩) L cap (setW ws k x) (X.setCell ⟨g, k * 3 + 2, none⟩ (.int .i64 x)) := by
  obtain ⟨⟨b0, b1, b2, b3⟩, ⟨z0, z1, z2, z3, r0, r1, r2, r3, r4, r5, r6, r7⟩, ho, hf, hc, hB, g1, g2, g3⟩ := h
  have hgb := (ho.lt g rfl).1
  have hgn := hf g rfl
  have hgw : g ≠ w.heap.size := by omega
  have c1 := fun j v => World.cell?_setCell_far X ⟨g, k * 3 + 2, none⟩ ⟨NB, j, none⟩ v hgn
  have c2 := fun j v => World.cell?_setCell_far X ⟨g, k * 3 + 2, none⟩ ⟨w.heap.size, j, none⟩ v hgw
  refine ⟨⟨(c1 0 _).trans b0, (c1 1 _).trans b1, (c1 2 _).trans b2, (c1 3 _).trans b3⟩, ⟨z0, z1, z2, z3, (c2 0 _).trans r0, (c2 1 _).trans r1, (c2 2 _).trans r2, (c2 3 _).trans r3, by simpa using r4, by simpa using r5, by simpa using r6, by simpa using r7⟩, ?_, hf, cur_set hc _ _ (show g ≠ w.heap.size + 1 by omega) (show w.heap.size + 1 ≤ g by omega), hB.setCell (show w.heap.size ≤ g by omega) _, g1, g2, by simpa using g3⟩
  rw [cells_setW ws k x hk]
  exact (ho.stored (k * 3 + 2) (.int .i64 x)).1
end Go.Proofs.Ytaececpphdaciaa
