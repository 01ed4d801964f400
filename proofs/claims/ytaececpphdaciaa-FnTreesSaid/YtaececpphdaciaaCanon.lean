/-
  CanonNet, in the model and in the program: scale and weights divided by their greatest common divisor.
-/
import Derived.Test.YtaececpphdaciaaGLap
import Derived.Deep.AppendLies
import Derived.Deep.RegionHeld3
namespace Go.Proofs.Ytaececpphdaciaa
open Go.RowKit

def gAll (s : Int) (ws : List W3) : Int := ws.foldl (fun g e => gcdV g e.2.2) s
theorem gAll_snoc (s : Int) (ws : List W3) (k : Nat) (h : k < ws.length) : gAll s (ws.take (k + 1)) = gcdV (gAll s (ws.take k)) ws[k].2.2 := by
  unfold gAll; rw [List.take_succ_eq_append_getElem h, List.foldl_append]; rfl
theorem gcdV_rangeC {g x : Int} (h1 : 1 ≤ g) (h2 : g ≤ 1000000000000) (x1 : 0 ≤ x) : 1 ≤ gcdV g x ∧ gcdV g x ≤ 1000000000000 := by
  rw [gcdV_of (by omega) (by omega)]
  have hp := Nat.gcd_pos_of_pos_left x.natAbs (show 0 < g.natAbs by omega)
  have hl := Nat.gcd_le_left x.natAbs (show 0 < g.natAbs by omega)
  omega
/-- Weights that are not negative and not too great, valid or not. -/
def WiresB (ws : List W3) : Prop := ∀ k, (h : k < ws.length) → 0 ≤ ws[k].2.2 ∧ ws[k].2.2 ≤ 1000000000000
theorem WiresB.of {n : Int} {ws : List W3} (h : WiresV n ws) : WiresB ws := fun k hk => by
  obtain ⟨_, _, _, a, b⟩ := h.1 k hk
  omega
theorem gAll_range {s : Int} {ws : List W3} (hw : WiresB ws) (s1 : 1 ≤ s) (s2 : s ≤ 1000000000000) : ∀ k, k ≤ ws.length → 1 ≤ gAll s (ws.take k) ∧ gAll s (ws.take k) ≤ 1000000000000
  | 0, _ => by simp [gAll]; omega
  | k + 1, h => by
    have ih := gAll_range hw s1 s2 k (by omega)
    rw [gAll_snoc s ws k (by omega)]
    exact gcdV_rangeC ih.1 ih.2 (hw k (by omega)).1
def divW (g : Int) (e : W3) : W3 := (e.1, e.2.1, e.2.2.tdiv g)
/-- What CanonNet answers: numbers, wires, and whether there is an answer. -/
noncomputable def canR (n e s : Int) (ws : List W3) : Int × Int × Int × List W3 × Bool :=
  if netB n e s ws = true then (n, e, s.tdiv (gAll s ws), ws.map (divW (gAll s ws)), true) else (0, 0, 0, [], false)
theorem canR_len (n e s : Int) (ws : List W3) (h : ws.length ≤ 1048576) : (canR n e s ws).2.2.2.1.length ≤ 1048576 := by
  unfold canR; split <;> simp <;> omega
theorem canR_no {n e s : Int} {ws : List W3} (h : netB n e s ws = false) : canR n e s ws = (0, 0, 0, [], false) := by simp [canR, h]
theorem canR_yes {n e s : Int} {ws : List W3} (h : netB n e s ws = true) : canR n e s ws = (n, e, s.tdiv (gAll s ws), ws.map (divW (gAll s ws)), true) := by simp [canR, h]

/-! ### append of one wire -/
theorem Try.infoWireB : (Try.prog.info? 29).map (fun i => (i.zero, i.size, i.bytes)) = some (some (.agg #[.int .i64 0, .int .i64 0, .int .i64 0]), 3, 24) := by kernel_rfl
theorem three_new (w : World) (x y z : Value) (t : TypeId) : ∀ j u, [x, y, z][j]? = some u → (w.alloc (.cells #[x, y, z] t)).cell? ((⟨w.heap.size, 0, none⟩ : Addr).add j) = some u := by
  intro j u hj
  have h3 : j = 0 ∨ j = 1 ∨ j = 2 := by
    rcases j with _ | _ | _ | j
    · simp
    · simp
    · simp
    · simp at hj
  rcases h3 with rfl | rfl | rfl <;>
  · simp at hj
    subst hj
    show World.cell? _ ⟨w.heap.size, _, none⟩ = _
    rw [World.cell?_alloc_new]; rfl
/-- 'append(v, x)' of one wire, where v is the call's own. -/
theorem append_wire {ops : Array Oper} {rest : List Oper} {o : Oper} {a : Act} {Q : Exit → Act → World → Prop} (wr : World) (hgd : o.guard = none) (s x : Operand)
    (ho : o.op = .call { callee := .builtin .append, args := #[s, x], argTypes := #[23, 23] })
    (base : Nat) (w0 : World) (v : Value) (ws : List W3) (u : W3) (hs : a.eval s = v) (hown : wr.ownsRow base 29 3 v ws.length (cellsW ws))
    {b1 : Nat} (hx : a.eval x = .slice (some ⟨b1, 0, none⟩) 1 1) (hb1 : b1 = wr.heap.size) (hn : ws.length + 1 ≤ 1099511627776) (hbase : base ≤ wr.heap.size) (hB : Below base w0 wr)
    (h : ∀ v' w', w'.ownsRow base 29 3 v' (ws ++ [u]).length (cellsW (ws ++ [u])) → wr.heap.size ≤ w'.heap.size → Below base w0 w' → wr.grownBy w' v.ownBlock → wpList Try.prog ops Q rest (a.put o.dst v') w') :
    wpList Try.prog ops Q (o :: rest) a (wr.alloc (.cells #[.int .i64 u.1, .int .i64 u.2.1, .int .i64 u.2.2] 29)) := by
  subst hb1
  obtain ⟨i0, hi, hz0, hz1, hz2⟩ := info_parts Try.infoWireB
  refine wpList_append_own _ hgd s x 23 ho base 29 i0 (.agg #[.int .i64 0, .int .i64 0, .int .i64 0]) 3 24 Try.underlying23 hi hz0 hz1 hz2 rfl (by decide) v ws.length (cellsW ws) hs (hown.alloc _) ⟨wr.heap.size, 0, none⟩ 1 1 [.int .i64 u.1, .int .i64 u.2.1, .int .i64 u.2.2] hx rfl (three_new _ _ _ _ _) (by simp [Value.oneCell']) (by unfold maxLen; omega) (by omega) (by simp; omega) ?_
  intro v' w' h1 h2 _
  have h3 := h2.size
  simp at h3
  refine h v' w' (by rw [cellsW_snoc, List.length_append]; exact h1) (by omega) ((hB.alloc hbase _).grown h2 (by simp; omega) (fun k hk => (hown.lt k hk).1)) ?_
  exact ⟨h2.os, h2.tape, h2.output, by omega, fun i hi hr => by rw [h2.block i (by simp; omega) hr, heap_alloc_old _ _ hi]⟩

theorem tdiv_range {x g m : Int} (h0 : 0 ≤ x) (hx : x ≤ m) (hg : 1 ≤ g) : 0 ≤ x.tdiv g ∧ x.tdiv g ≤ m :=
  ⟨Int.tdiv_nonneg h0 (by omega), Int.le_trans (Int.tdiv_le_self g h0) hx⟩
theorem divs_snoc (g : Int) (ws : List W3) (k : Nat) (h : k < ws.length) : (ws.take (k + 1)).map (divW g) = (ws.take k).map (divW g) ++ [divW g ws[k]] := by
  rw [List.take_succ_eq_append_getElem h, List.map_append]; rfl
theorem own_len {w : World} {base : Nat} {v : Value} {ws : List W3} {k : Nat} (hk : ws.length = k) (h : w.ownsRow base 29 3 v ws.length (cellsW ws)) : w.ownsRow base 29 3 v k (cellsW ws) := hk ▸ h

theorem box3_alloc {w : World} {g : Nat} {a b c : Value} {o : Obj} (h : w.cell? ⟨g, 0, none⟩ = some a ∧ w.cell? ⟨g, 1, none⟩ = some b ∧ w.cell? ⟨g, 2, none⟩ = some c ∧ g < w.heap.size) : (w.alloc o).cell? ⟨g, 0, none⟩ = some a ∧ (w.alloc o).cell? ⟨g, 1, none⟩ = some b ∧ (w.alloc o).cell? ⟨g, 2, none⟩ = some c ∧ g < (w.alloc o).heap.size := by
  obtain ⟨h0, h1, h2, h3⟩ := h
  refine ⟨?_, ?_, ?_, by simp; omega⟩
  · rw [World.cell?_alloc_old _ _ _ (show g ≠ _ by omega)]; exact h0
  · rw [World.cell?_alloc_old _ _ _ (show g ≠ _ by omega)]; exact h1
  · rw [World.cell?_alloc_old _ _ _ (show g ≠ _ by omega)]; exact h2
theorem box3_set {w : World} {g : Nat} {a b c v : Value} {p : Addr} (hp : p.block ≠ g) (h : w.cell? ⟨g, 0, none⟩ = some a ∧ w.cell? ⟨g, 1, none⟩ = some b ∧ w.cell? ⟨g, 2, none⟩ = some c ∧ g < w.heap.size) : (w.setCell p v).cell? ⟨g, 0, none⟩ = some a ∧ (w.setCell p v).cell? ⟨g, 1, none⟩ = some b ∧ (w.setCell p v).cell? ⟨g, 2, none⟩ = some c ∧ g < (w.setCell p v).heap.size := by
  obtain ⟨h0, h1, h2, h3⟩ := h
  refine ⟨?_, ?_, ?_, by simpa using h3⟩
  · rw [World.cell?_setCell_far _ _ _ _ hp]; exact h0
  · rw [World.cell?_setCell_far _ _ _ _ hp]; exact h1
  · rw [World.cell?_setCell_far _ _ _ _ hp]; exact h2

theorem after_append {W w1 : World} {row : Option Nat} (hG : W.grownBy w1 row) (B : Nat) (hB : B < W.heap.size) (hne : some B ≠ row) : (∀ o u, W.cell? ⟨B, o, none⟩ = some u → w1.cell? ⟨B, o, none⟩ = some u) ∧ (∀ o, W.frozen? ⟨B, o, none⟩ = false → w1.frozen? ⟨B, o, none⟩ = false) :=
  ⟨fun o _ h => (hG.cell_far ⟨B, o, none⟩ hB hne).trans h, fun o h => (hG.frozen_far ⟨B, o, none⟩ hB hne).trans h⟩

end Go.Proofs.Ytaececpphdaciaa
