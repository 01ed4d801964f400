/-
  PotentialsOf, in the model and in the program.
  The current from one node to another one.
-/
import Derived.Test.YtaececpphdaciaaPotential
import Derived.Test.YtaececpphdaciaaGRatS
import Derived.Deep.AppendLies
namespace Go.Proofs.Ytaececpphdaciaa
open Go.RowKit

noncomputable def potAt (N : Nat) (e s : Int) (ws : List W3) (a b v : Nat) : P2 := (rOfN (s * potI (lapM N ws) N a b v) (treeR N e s ws), rOfD (s * potI (lapM N ws) N a b v) (treeR N e s ws))
noncomputable def potsK (N : Nat) (e s : Int) (ws : List W3) (a b k : Nat) : List P2 := (List.range k).map (potAt N e s ws a b)
noncomputable def potsR (n e s : Int) (ws : List W3) (a b : Int) : List P2 × Bool := if feedB n e s ws a b = true then (potsK n.toNat e s ws a.toNat b.toNat n.toNat, true) else ([], false)
theorem potsK_length (N : Nat) (e s : Int) (ws : List W3) (a b k : Nat) : (potsK N e s ws a b k).length = k := by simp [potsK]
theorem potsK_snoc (N : Nat) (e s : Int) (ws : List W3) (a b k : Nat) : potsK N e s ws a b (k + 1) = potsK N e s ws a b k ++ [potAt N e s ws a b k] := by simp [potsK, List.range_succ]
theorem potsK_get (N : Nat) (e s : Int) (ws : List W3) (a b k i : Nat) (h : i < (potsK N e s ws a b k).length) : (potsK N e s ws a b k)[i] = potAt N e s ws a b i := by simp [potsK]
theorem potsR_yes {N : Nat} {e s : Int} {ws : List W3} {a b : Nat} (h : feedB N e s ws a b = true) : potsR N e s ws a b = (potsK N e s ws a b N, true) := by
  unfold potsR; rw [if_pos h]; simp
theorem potsR_no {n e s : Int} {ws : List W3} {a b : Int} (h : feedB n e s ws a b = false) : potsR n e s ws a b = ([], false) := by
  unfold potsR; rw [if_neg (by simp [h])]
theorem own_emptyP (w : World) (base : Nat) (hb : base ≤ w.heap.size) : (w.alloc (.cells #[] 43)).ownsRow base 43 2 (.slice (some ⟨w.heap.size, 0, none⟩) 0 0) 0 [] :=
  World.ownsRow_lit w #[] 0 hb (Nat.zero_le _) rfl
theorem two_new (W : World) (x y : Value) (t : TypeId) : ∀ j w, [x, y][j]? = some w → (W.alloc (.cells #[x, y] t)).cell? ((⟨W.heap.size, 0, none⟩ : Addr).add j) = some w := by
  intro j w h
  rcases j with _ | _ | j
  · simp at h; subst h; simp [Addr.add, go_sem]
  · simp at h; subst h; simp [Addr.add, go_sem]
  · simp at h
/-- 'append(v, x)' of one fraction, as a step of a region that draws: and where the new slice lies. -/
theorem step_append_ratio {ops : Array Oper} {o : Oper} {a : Act} {K : Act → World → Prop} {Q : Exit → Act → World → Prop} {E : Prop} {W wr : World} {s x : Operand} {base : Nat} {v : Value} {q : List P2} {u : P2} {b1 : Nat}
    (hown : wr.ownsRow base 43 2 v q.length (cellsP q)) (hn : q.length + 1 ≤ 1099511627776) (hbase : base ≤ wr.heap.size) (hW : W = wr.alloc (.cells #[.int .i64 u.1, .int .i64 u.2] 43) ∨ W = (wr.alloc (.cells #[.int .i64 u.1, .int .i64 u.2] 43)).drew) (hgd : o.guard = none)
    (ho : o.op = .call { callee := .builtin .append, args := #[s, x], argTypes := #[47, 47] }) (hs : a.eval s = v) (hx : a.eval x = .slice (some ⟨b1, 0, none⟩) 1 1) (hb1 : b1 = wr.heap.size)
    (h : ∀ g cap w', w'.ownsRow base 43 2 (.slice (some ⟨g, 0, none⟩) (q.length + 1) cap) (q ++ [u]).length (cellsP (q ++ [u])) → wr.heap.size ≤ w'.heap.size → wr.grownBy w' v.ownBlock → (v.ownBlock = some g ∨ g = wr.heap.size + 1) → K (a.put o.dst (.slice (some ⟨g, 0, none⟩) (q.length + 1) cap)) w') :
    if Region.wanted o (yielded ops a.tmps) = true then Oper.wp Try.prog o a W K Q else E := by
  subst hb1
  obtain ⟨i0, hi, hz0, hz1, hz2⟩ := info_parts Try.infoRatio
  have hS : W.heap.size = wr.heap.size + 1 := by rcases hW with rfl | rfl <;> simp
  have ho2 : W.ownsRow base 43 2 v q.length (cellsP q) := by
    rcases hW with rfl | rfl
    · exact hown.alloc _
    · exact hown.alloc _
  have hcs : ∀ j w, [Value.int .i64 u.1, Value.int .i64 u.2][j]? = some w → W.cell? ((⟨wr.heap.size, 0, none⟩ : Addr).add j) = some w := by
    rcases hW with rfl | rfl
    · exact two_new _ _ _ _
    · exact two_new _ _ _ _
  have hg0 : wr.grownBy W v.ownBlock := by
    rcases hW with rfl | rfl
    · exact World.grownBy_alloc _ _ _
    · exact ⟨rfl, rfl, rfl, by simp, fun k hk _ => heap_alloc_old _ _ hk⟩
  refine step_append_lies W hgd s x 47 ho base 43 i0 (.agg #[.int .i64 0, .int .i64 0]) 2 16 Try.underlying47 hi hz0 hz1 hz2 rfl (by decide) v q.length (cellsP q) hs ho2 ⟨wr.heap.size, 0, none⟩ 1 1 [.int .i64 u.1, .int .i64 u.2] hx rfl hcs (by simp [Value.oneCell']) (by omega) (by unfold maxLen; omega) (by omega) (by omega) (wr.heap.size + 1) hS ?_
  intro g cap w' h1 h2 h3 _
  have h4 := h2.size
  exact h _ _ w' (by rw [cellsP_snoc, List.length_append]; exact h1) (by omega) (grown_trans1 hg0 h2) h3
theorem ret_ps {v : Value} {x y : Bool} (h : x = y) : Ending.returned (.tuple #[v, .bool x]) = .returned (.tuple #[v, .bool y]) := by rw [h]

section
variable {n e s : Int} {p : Option Addr} {ws : List W3} {cap B g j : Nat} {wa wb : World}
theorem el_keep (hb : Below wa.heap.size wa wb) (h : wa.cell? ⟨B, 0, none⟩ = some (.int .i64 n) ∧ wa.cell? ⟨B, 1, none⟩ = some (.int .i64 e) ∧ wa.cell? ⟨B, 2, none⟩ = some (.int .i64 s) ∧ wa.cell? ⟨B, 3, none⟩ = some (.slice p ws.length cap) ∧ (∃ z0 z1, wa.cell? ⟨g, j * 2, none⟩ = some z0 ∧ wa.cell? ⟨g, j * 2 + 1, none⟩ = some z1 ∧ wa.frozen? ⟨g, j * 2, none⟩ = false ∧ wa.frozen? ⟨g, j * 2 + 1, none⟩ = false) ∧ B < g ∧ g < wa.heap.size) :
    wb.cell? ⟨B, 0, none⟩ = some (.int .i64 n) ∧ wb.cell? ⟨B, 1, none⟩ = some (.int .i64 e) ∧ wb.cell? ⟨B, 2, none⟩ = some (.int .i64 s) ∧ wb.cell? ⟨B, 3, none⟩ = some (.slice p ws.length cap) ∧ (∃ z0 z1, wb.cell? ⟨g, j * 2, none⟩ = some z0 ∧ wb.cell? ⟨g, j * 2 + 1, none⟩ = some z1 ∧ wb.frozen? ⟨g, j * 2, none⟩ = false ∧ wb.frozen? ⟨g, j * 2 + 1, none⟩ = false) ∧ B < g ∧ g < wb.heap.size := by
  obtain ⟨a, b, c, d, ⟨u, v, k, k', x, y⟩, s', s''⟩ := h
  have := hb.size
  refine ⟨?_, ?_, ?_, ?_, ⟨u, v, ?_, ?_, ?_, ?_⟩, s', by omega⟩
  · rw [hb.cell (p := ⟨B, 0, none⟩) (show B < _ by omega)]; exact a
  · rw [hb.cell (p := ⟨B, 1, none⟩) (show B < _ by omega)]; exact b
  · rw [hb.cell (p := ⟨B, 2, none⟩) (show B < _ by omega)]; exact c
  · rw [hb.cell (p := ⟨B, 3, none⟩) (show B < _ by omega)]; exact d
  · rw [hb.cell (p := ⟨g, j * 2, none⟩) s'']; exact k
  · rw [hb.cell (p := ⟨g, j * 2 + 1, none⟩) s'']; exact k'
  · rw [hb.frozen (p := ⟨g, j * 2, none⟩) s'']; exact x
  · rw [hb.frozen (p := ⟨g, j * 2 + 1, none⟩) s'']; exact y
theorem el_drew (h : wa.cell? ⟨B, 0, none⟩ = some (.int .i64 n) ∧ wa.cell? ⟨B, 1, none⟩ = some (.int .i64 e) ∧ wa.cell? ⟨B, 2, none⟩ = some (.int .i64 s) ∧ wa.cell? ⟨B, 3, none⟩ = some (.slice p ws.length cap) ∧ (∃ z0 z1, wa.cell? ⟨g, j * 2, none⟩ = some z0 ∧ wa.cell? ⟨g, j * 2 + 1, none⟩ = some z1 ∧ wa.frozen? ⟨g, j * 2, none⟩ = false ∧ wa.frozen? ⟨g, j * 2 + 1, none⟩ = false) ∧ B < g ∧ g < wa.heap.size) :
    wa.drew.cell? ⟨B, 0, none⟩ = some (.int .i64 n) ∧ wa.drew.cell? ⟨B, 1, none⟩ = some (.int .i64 e) ∧ wa.drew.cell? ⟨B, 2, none⟩ = some (.int .i64 s) ∧ wa.drew.cell? ⟨B, 3, none⟩ = some (.slice p ws.length cap) ∧ (∃ z0 z1, wa.drew.cell? ⟨g, j * 2, none⟩ = some z0 ∧ wa.drew.cell? ⟨g, j * 2 + 1, none⟩ = some z1 ∧ wa.drew.frozen? ⟨g, j * 2, none⟩ = false ∧ wa.drew.frozen? ⟨g, j * 2 + 1, none⟩ = false) ∧ B < g ∧ g < wa.drew.heap.size := h
theorem el_set {i : Nat} {v : Value} (h : wa.cell? ⟨B, 0, none⟩ = some (.int .i64 n) ∧ wa.cell? ⟨B, 1, none⟩ = some (.int .i64 e) ∧ wa.cell? ⟨B, 2, none⟩ = some (.int .i64 s) ∧ wa.cell? ⟨B, 3, none⟩ = some (.slice p ws.length cap) ∧ (∃ z0 z1, wa.cell? ⟨g, j * 2, none⟩ = some z0 ∧ wa.cell? ⟨g, j * 2 + 1, none⟩ = some z1 ∧ wa.frozen? ⟨g, j * 2, none⟩ = false ∧ wa.frozen? ⟨g, j * 2 + 1, none⟩ = false) ∧ B < g ∧ g < wa.heap.size) :
    (wa.setCell ⟨g, i, none⟩ v).cell? ⟨B, 0, none⟩ = some (.int .i64 n) ∧ (wa.setCell ⟨g, i, none⟩ v).cell? ⟨B, 1, none⟩ = some (.int .i64 e) ∧ (wa.setCell ⟨g, i, none⟩ v).cell? ⟨B, 2, none⟩ = some (.int .i64 s) ∧ (wa.setCell ⟨g, i, none⟩ v).cell? ⟨B, 3, none⟩ = some (.slice p ws.length cap) ∧ (∃ z0 z1, (wa.setCell ⟨g, i, none⟩ v).cell? ⟨g, j * 2, none⟩ = some z0 ∧ (wa.setCell ⟨g, i, none⟩ v).cell? ⟨g, j * 2 + 1, none⟩ = some z1 ∧ (wa.setCell ⟨g, i, none⟩ v).frozen? ⟨g, j * 2, none⟩ = false ∧ (wa.setCell ⟨g, i, none⟩ v).frozen? ⟨g, j * 2 + 1, none⟩ = false) ∧ B < g ∧ g < (wa.setCell ⟨g, i, none⟩ v).heap.size := by
  obtain ⟨a, b, c, d, ⟨u, u', k, k', x, y⟩, s', s''⟩ := h
  refine ⟨by rw [World.cell?_setCell_far _ _ _ _ (show g ≠ B by omega)]; exact a, by rw [World.cell?_setCell_far _ _ _ _ (show g ≠ B by omega)]; exact b, by rw [World.cell?_setCell_far _ _ _ _ (show g ≠ B by omega)]; exact c, by rw [World.cell?_setCell_far _ _ _ _ (show g ≠ B by omega)]; exact d, ?_, s', by simpa using s''⟩
  by_cases h0 : i = j * 2
  · subst h0
    exact ⟨v, u', World.cell?_setCell_same _ _ _ k, (World.cell?_setCell_other _ _ _ _ (by simp)).trans k', by simpa using x, by simpa using y⟩
  · by_cases h1 : i = j * 2 + 1
    · subst h1
      exact ⟨u, v, (World.cell?_setCell_other _ _ _ _ (by simp)).trans k, World.cell?_setCell_same _ _ _ k', by simpa using x, by simpa using y⟩
    · exact ⟨u, u', (World.cell?_setCell_other _ _ _ _ (by first | (simp; done) | (simp; omega))).trans k, (World.cell?_setCell_other _ _ _ _ (by first | (simp; done) | (simp; omega))).trans k', by simpa using x, by simpa using y⟩
end
end Go.Proofs.Ytaececpphdaciaa

namespace Go.Proofs.Ytaececpphdaciaa
open Go.RowKit

noncomputable def curN (N : Nat) (ws : List W3) (a b x y : Nat) : Int := wBtw ws (x : Int) (y : Int) * (potI (lapM N ws) N a b x - potI (lapM N ws) N a b y)
noncomputable def curAt (N : Nat) (e s : Int) (ws : List W3) (a b x y : Nat) : P2 := (rOfN (curN N ws a b x y) (treeR N e s ws), rOfD (curN N ws a b x y) (treeR N e s ws))
noncomputable def curR (n e s : Int) (ws : List W3) (a b x y : Int) : Int × Int × Bool := if feedB n e s ws a b = true ∧ 0 ≤ x ∧ x < n ∧ 0 ≤ y ∧ y < n then ((curAt n.toNat e s ws a.toNat b.toNat x.toNat y.toNat).1, (curAt n.toNat e s ws a.toNat b.toNat x.toNat y.toNat).2, true) else (0, 0, false)
theorem curR_no {n e s : Int} {ws : List W3} {a b x y : Int} (h : ¬ (feedB n e s ws a b = true ∧ 0 ≤ x ∧ x < n ∧ 0 ≤ y ∧ y < n)) : curR n e s ws a b x y = (0, 0, false) := if_neg h
theorem curR_yes {N : Nat} {e s : Int} {ws : List W3} {a b x y : Nat} (h : feedB N e s ws a b = true) (hx : x < N) (hy : y < N) : curR N e s ws a b x y = ((curAt N e s ws a b x y).1, (curAt N e s ws a b x y).2, true) := by
  unfold curR; rw [if_pos ⟨h, by omega, by omega, by omega, by omega⟩]; simp
theorem cur_range {N : Nat} {e s : Int} {ws : List W3} (hb : netB N e s ws = true) {a b x y : Nat} (ha : a < N) (hb' : b < N) (hab : a ≠ b) (hx : x < N) (hy : y < N) : -2400000000000 ≤ curN N ws a b x y ∧ curN N ws a b x y ≤ 2400000000000 := by
  obtain ⟨_, h5, hw⟩ := net_nat hb
  obtain ⟨p1, p2⟩ := potI_range hw h5 a b x ha hb' hx hab
  obtain ⟨p3, p4⟩ := potI_range hw h5 a b y ha hb' hy hab
  obtain ⟨z1, z2⟩ := wBtw_le hw (x : Int) (y : Int)
  have h := mul_le2 (a := wBtw ws (x : Int) (y : Int)) (b := potI (lapM N ws) N a b x - potI (lapM N ws) N a b y) (A := 200) (B := 12000000000) (by omega) (by omega)
  unfold curN
  omega
end Go.Proofs.Ytaececpphdaciaa
