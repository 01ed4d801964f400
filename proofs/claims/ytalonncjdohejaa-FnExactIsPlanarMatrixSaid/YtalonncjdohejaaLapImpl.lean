/-
  LaplacianOf in the program.
-/
import Derived.Test.YtalonncjdohejaaGLap
import Derived.Deep.RegionHeld3
import Derived.Deep.RegionLaw
namespace Go.Proofs.Ytalonncjdohejaa
open Go.RowKit

def rawRow (ws : List W3) (a b : Nat) : List Int := (List.range b).map fun (j : Nat) => -wBtw ws (a : Int) (j : Int)
theorem rawRow_snoc (ws : List W3) (a b : Nat) : rawRow ws a (b + 1) = rawRow ws a b ++ [-wBtw ws (a : Int) (b : Int)] := by simp [rawRow, List.range_succ]
theorem rawRow_length (ws : List W3) (a b : Nat) : (rawRow ws a b).length = b := by simp [rawRow]
theorem rawRow_all (ws : List W3) (a N : Nat) : (rawRow ws a N).set a (wAt ws (a : Int)) = lapRow ws a N := by
  apply List.ext_getElem
  · simp [rawRow, lapRow]
  · intro i h1 h2
    simp only [rawRow, lapRow, List.getElem_set, List.getElem_map, List.getElem_range, lapE]
/-- a rows done, b entries of the next one. -/
def LapSt (N : Nat) (ws : List W3) (a b : Nat) (M : MatI) : Prop :=
  M.length = N ∧ (∀ i, i < a → M[i]? = some (lapRow ws i N)) ∧ (a < N → M[a]? = some (rawRow ws a b)) ∧ ∀ i, a < i → i < N → M[i]? = some []
theorem LapSt.start (N : Nat) (ws : List W3) : LapSt N ws 0 0 (List.replicate N []) :=
  ⟨by simp, fun i h => absurd h (by omega), fun h => by simp [rawRow, h], fun i _ h => by simp [h]⟩
theorem LapSt.next {N : Nat} {ws : List W3} {a b : Nat} {M : MatI} (h : LapSt N ws a b M) (ha : a < N) : LapSt N ws a (b + 1) (M.set a (rawRow ws a (b + 1))) := by
  obtain ⟨h1, h2, h3, h4⟩ := h
  have hl : a < M.length := by omega
  refine ⟨by rw [List.length_set]; exact h1, fun i hi => ?_, fun _ => ?_, fun i hi hn => ?_⟩
  · rw [List.getElem?_set_ne (by omega)]; exact h2 i hi
  · rw [List.getElem?_set_self hl]
  · rw [List.getElem?_set_ne (by omega)]; exact h4 i hi hn
theorem LapSt.diag {N : Nat} {ws : List W3} {a : Nat} {M : MatI} (h : LapSt N ws a N M) (ha : a < N) : LapSt N ws (a + 1) 0 (M.set a ((rawRow ws a N).set a (wAt ws (a : Int)))) := by
  obtain ⟨h1, h2, h3, h4⟩ := h
  have hl : a < M.length := by omega
  refine ⟨by rw [List.length_set]; exact h1, fun i hi => ?_, fun hn => ?_, fun i hi hn => ?_⟩
  · by_cases e : i = a
    · subst e; rw [List.getElem?_set_self hl, rawRow_all]
    · rw [List.getElem?_set_ne (by omega)]; exact h2 i (by omega)
  · rw [List.getElem?_set_ne (by omega), h4 (a + 1) (by omega) hn]; rfl
  · rw [List.getElem?_set_ne (by omega)]; exact h4 i (by omega) hn
theorem LapSt.done {N : Nat} {ws : List W3} {M : MatI} (h : LapSt N ws N 0 M) : M = lapM N ws := by
  obtain ⟨h1, h2, h3, h4⟩ := h
  apply List.ext_getElem?
  intro i
  by_cases hi : i < N
  · rw [h2 i hi]; simp [lapM, lapRow, hi]
  · rw [List.getElem?_eq_none (by omega), List.getElem?_eq_none (by simp [lapM]; omega)]
theorem LapSt.row {N : Nat} {ws : List W3} {a b : Nat} {M : MatI} (h : LapSt N ws a b M) (ha : a < N) : ∃ hl : a < M.length, M[a] = rawRow ws a b := by
  have hl : a < M.length := by have := h.1; omega
  refine ⟨hl, ?_⟩
  have := h.2.2.1 ha
  rw [List.getElem?_eq_getElem hl] at this
  simpa using this

theorem four_keep {w w1 : World} {a b c d : Addr} {va vb vc vd : Value} (h : Below w.heap.size w w1)
    (k : w.cell? a = some va ∧ w.cell? b = some vb ∧ w.cell? c = some vc ∧ w.cell? d = some vd) :
    w1.cell? a = some va ∧ w1.cell? b = some vb ∧ w1.cell? c = some vc ∧ w1.cell? d = some vd := by
  obtain ⟨h1, h2, h3, h4⟩ := k
  refine ⟨?_, ?_, ?_, ?_⟩
  · rw [h.cell (World.block_lt_of_cell? w _ h1)]; exact h1
  · rw [h.cell (World.block_lt_of_cell? w _ h2)]; exact h2
  · rw [h.cell (World.block_lt_of_cell? w _ h3)]; exact h3
  · rw [h.cell (World.block_lt_of_cell? w _ h4)]; exact h4
theorem four_alloc {w : World} {a b c d : Addr} {va vb vc vd : Value} (o : Obj)
    (k : w.cell? a = some va ∧ w.cell? b = some vb ∧ w.cell? c = some vc ∧ w.cell? d = some vd) :
    (w.alloc o).cell? a = some va ∧ (w.alloc o).cell? b = some vb ∧ (w.alloc o).cell? c = some vc ∧ (w.alloc o).cell? d = some vd :=
  four_keep ((Below.refl w.heap.size w).alloc (Nat.le_refl _) o) k
theorem net4_grown {w w1 : World} {row : Option Nat} {B o1 o2 o3 o4 : Nat} {va vb vc vd : Value} (h : w.grownBy w1 row) (n1 : some B ≠ row)
    (k : w.cell? ⟨B, o1, none⟩ = some va ∧ w.cell? ⟨B, o2, none⟩ = some vb ∧ w.cell? ⟨B, o3, none⟩ = some vc ∧ w.cell? ⟨B, o4, none⟩ = some vd) :
    w1.cell? ⟨B, o1, none⟩ = some va ∧ w1.cell? ⟨B, o2, none⟩ = some vb ∧ w1.cell? ⟨B, o3, none⟩ = some vc ∧ w1.cell? ⟨B, o4, none⟩ = some vd := by
  obtain ⟨h1, h2, h3, h4⟩ := k
  exact ⟨h.cell h1 n1, h.cell h2 n1, h.cell h3 n1, h.cell h4 n1⟩
theorem four_set {w : World} {B g i o1 o2 o3 o4 : Nat} {u va vb vc vd : Value} (hne : g ≠ B)
    (k : w.cell? ⟨B, o1, none⟩ = some va ∧ w.cell? ⟨B, o2, none⟩ = some vb ∧ w.cell? ⟨B, o3, none⟩ = some vc ∧ w.cell? ⟨B, o4, none⟩ = some vd) :
    (w.setCell ⟨g, i, none⟩ u).cell? ⟨B, o1, none⟩ = some va ∧ (w.setCell ⟨g, i, none⟩ u).cell? ⟨B, o2, none⟩ = some vb ∧ (w.setCell ⟨g, i, none⟩ u).cell? ⟨B, o3, none⟩ = some vc ∧ (w.setCell ⟨g, i, none⟩ u).cell? ⟨B, o4, none⟩ = some vd := by
  obtain ⟨h1, h2, h3, h4⟩ := k
  exact ⟨(World.cell?_setCell_far _ _ _ _ hne).trans h1, (World.cell?_setCell_far _ _ _ _ hne).trans h2, (World.cell?_setCell_far _ _ _ _ hne).trans h3, (World.cell?_setCell_far _ _ _ _ hne).trans h4⟩
/-- A call of a Go function, as a step of a region that draws. -/
theorem step_call {P : Program} {ops : Array Oper} {o : Oper} {a : Act} {K : Act → World → Prop} {Q : Exit → Act → World → Prop} {E : Prop} {W : World} {f : FuncId} {args : Array Value} {R : Value → World → Prop}
    (hc : Calls P f args W (fun en w' => ∃ v, en = .returned v ∧ R v w')) (hgd : o.guard = none) (hrun : (execOp a.eval o).run P W = .ok (.enter f args) W)
    (h : ∀ v w', R v w' → K (a.put o.dst v) w') : if Region.wanted o (yielded ops a.tmps) = true then Oper.wp P o a W K Q else E := by
  have hw : Region.wanted o (yielded ops a.tmps) = true := by simp [Region.wanted, hgd]
  rw [if_pos hw]
  unfold Oper.wp
  rw [hrun]
  simp only [Oper.upon]
  refine Calls.mono hc fun e w'' he => ?_
  obtain ⟨v, rfl, hr⟩ := he
  exact h v w'' hr
/-- 'append(v, x)' of one number, as a step of a region that draws: and where the new slice lies. -/
theorem step_append_int {ops : Array Oper} {o : Oper} {a : Act} {K : Act → World → Prop} {Q : Exit → Act → World → Prop} {E : Prop} {W wr : World} {s x : Operand} {base : Nat} {v : Value} {q : List Int} {u : Int} {b1 : Nat}
    (hown : wr.ownsRow base 3 1 v q.length (cellsI q)) (hn : q.length + 1 ≤ 1099511627776) (hbase : base ≤ wr.heap.size) (hW : W = wr.alloc (.cells #[.int .i64 u] 3) ∨ W = (wr.alloc (.cells #[.int .i64 u] 3)).drew) (hgd : o.guard = none)
    (ho : o.op = .call { callee := .builtin .append, args := #[s, x], argTypes := #[49, 49] }) (hs : a.eval s = v) (hx : a.eval x = .slice (some ⟨b1, 0, none⟩) 1 1) (hb1 : b1 = wr.heap.size)
    (h : ∀ g cap w', w'.ownsRow base 3 1 (.slice (some ⟨g, 0, none⟩) (q.length + 1) cap) (q ++ [u]).length (cellsI (q ++ [u])) → wr.heap.size ≤ w'.heap.size → wr.grownBy w' v.ownBlock → (v.ownBlock = some g ∨ g = wr.heap.size + 1) → K (a.put o.dst (.slice (some ⟨g, 0, none⟩) (q.length + 1) cap)) w') :
    if Region.wanted o (yielded ops a.tmps) = true then Oper.wp Try.prog o a W K Q else E := by
  subst hb1
  obtain ⟨i0, hi, hz0, hz1, hz2⟩ := info_parts Try.infoInt
  have hS : W.heap.size = wr.heap.size + 1 := by rcases hW with rfl | rfl <;> simp
  have ho2 : W.ownsRow base 3 1 v q.length (cellsI q) := by
    rcases hW with rfl | rfl
    · exact hown.alloc _
    · exact hown.alloc _
  have hcs : ∀ j w, [Value.int .i64 u][j]? = some w → W.cell? ((⟨wr.heap.size, 0, none⟩ : Addr).add j) = some w := by
    rcases hW with rfl | rfl
    · exact one_new _ _ _
    · exact one_new _ _ _
  have hg0 : wr.grownBy W v.ownBlock := by
    rcases hW with rfl | rfl
    · exact World.grownBy_alloc _ _ _
    · exact ⟨rfl, rfl, rfl, by simp, fun k hk _ => heap_alloc_old _ _ hk⟩
  refine step_append_lies W hgd s x 49 ho base 3 i0 (.int .i64 0) 1 8 Try.underlying49 hi hz0 hz1 hz2 rfl (by decide) v q.length (cellsI q) hs ho2 ⟨wr.heap.size, 0, none⟩ 1 1 [.int .i64 u] hx rfl hcs (by simp [Value.oneCell']) (by omega) (by unfold maxLen; omega) (by omega) (by omega) (wr.heap.size + 1) hS ?_
  intro g cap w' h1 h2 h3 _
  have h4 := h2.size
  exact h _ _ w' (by rw [cellsI_snoc, List.length_append]; exact h1) (by omega) (grown_trans1 hg0 h2) h3
theorem set_cellsI (q : List Int) (k : Nat) (x : Int) : cellsI (q.set k x) = (cellsI q).set k (.int .i64 x) := by simp [cellsI, List.map_set]
theorem mat_zeros {w : World} {base : Nat} {v : Value} {N : Nat} (h : w.ownsRow base 49 1 v N (List.replicate N (.slice none 0 0))) : OwnsR w base v (List.replicate N (.slice none 0 0)) (List.replicate N []) := by
  refine ⟨by simpa using h, by simp, fun k r hr => ?_, fun i j a b _ ha _ => ?_⟩
  · rw [List.getElem?_replicate] at hr
    split at hr
    · rename_i hk
      cases hr
      refine ⟨by simpa using hk, ?_⟩
      simp only [List.getElem_replicate]
      exact World.ownsRow_nil _ _ _ _
    · cases hr
  · rw [List.getElem?_replicate] at ha
    split at ha
    · cases ha; exact .inl rfl
    · cases ha
end Go.Proofs.Ytalonncjdohejaa
