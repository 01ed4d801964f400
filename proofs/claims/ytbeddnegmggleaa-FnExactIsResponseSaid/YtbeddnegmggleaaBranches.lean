/-
  branchesOf in the program: a branch for each wire, linked to the potentials of its ends.
-/
import Derived.Test.YtbeddnegmggleaaPowImpl
import Derived.Test.YtbeddnegmggleaaGPots
namespace Go.Proofs.Ytbeddnegmggleaa
open Go.RowKit

def cells4 (gp op : Nat) (s : Int) (e : W3) : List Value := [.pointer (some ⟨gp, op + e.1.toNat * 2, none⟩), .pointer (some ⟨gp, op + e.2.1.toNat * 2, none⟩), .int .i64 (rOfN e.2.2 s), .int .i64 (rOfD e.2.2 s)]
def cellsR (gp op : Nat) (s : Int) (ws : List W3) : List Value := ws.flatMap (cells4 gp op s)
theorem cellsR_snoc (gp op : Nat) (s : Int) (ws : List W3) (e : W3) : cellsR gp op s (ws ++ [e]) = cellsR gp op s ws ++ cells4 gp op s e := by simp [cellsR]
theorem cellsR_length (gp op : Nat) (s : Int) : ∀ ws : List W3, (cellsR gp op s ws).length = ws.length * 4
  | [] => rfl
  | e :: r => by have := cellsR_length gp op s r; simp [cellsR, cells4] at *; omega
theorem Try.infoBranch : (Try.prog.info? 94).map (fun i => (i.zero, i.size, i.bytes)) = some (some (.agg #[.pointer none, .pointer none, .int .i64 0, .int .i64 0]), 4, 32) := by kernel_rfl
theorem four_new (W : World) (x y z u : Value) (t : TypeId) : ∀ j w, [x, y, z, u][j]? = some w → (W.alloc (.cells #[x, y, z, u] t)).cell? ((⟨W.heap.size, 0, none⟩ : Addr).add j) = some w := by
  intro j w h
  rcases j with _ | _ | _ | _ | j
  · simp at h; subst h; simp [Addr.add, go_sem]
  · simp at h; subst h; simp [Addr.add, go_sem]
  · simp at h; subst h; simp [Addr.add, go_sem]
  · simp at h; subst h; simp [Addr.add, go_sem]
  · simp at h
theorem reads_atW {w : World} {p : Option Addr} {n c : Nat} {ws : List W3} (h : ReadsW w (.slice p n c) ws) : ∀ k, (hk : k < ws.length) → ∃ g o, p = some ⟨g, o, none⟩ ∧ g < w.heap.size ∧ w.cell? ⟨g, o + k * 3, none⟩ = some (.int .i64 ws[k].1) ∧ w.cell? ⟨g, o + k * 3 + 1, none⟩ = some (.int .i64 ws[k].2.1) ∧ w.cell? ⟨g, o + k * 3 + 2, none⟩ = some (.int .i64 ws[k].2.2) := by
  intro k hk
  rcases h.2 with ⟨hx, _⟩ | ⟨g, o, cap, hv, hc⟩
  · subst hx; simp at hk
  · simp only [Value.slice.injEq] at hv
    obtain ⟨rfl, -, -⟩ := hv
    exact ⟨g, o, rfl, World.block_lt_of_cell? w _ (hc k hk).1, hc k hk⟩
/-- 'append(v, x)' of one branch, as a step of a region that draws. -/
theorem step_append_branch {ops : Array Oper} {o : Oper} {a : Act} {K : Act → World → Prop} {Q : Exit → Act → World → Prop} {E : Prop} {W wr : World} {s x : Operand} {base : Nat} {v : Value} {n : Nat} {xs : List Value} {p1 p2 : Addr} {c1 c2 : Int} {b1 : Nat}
    (hown : wr.ownsRow base 94 4 v n xs) (hn : n + 1 ≤ 1099511627776) (hbase : base ≤ wr.heap.size) (hW : W = wr.alloc (.cells #[.pointer (some p1), .pointer (some p2), .int .i64 c1, .int .i64 c2] 94) ∨ W = (wr.alloc (.cells #[.pointer (some p1), .pointer (some p2), .int .i64 c1, .int .i64 c2] 94)).drew) (hgd : o.guard = none)
    (ho : o.op = .call { callee := .builtin .append, args := #[s, x], argTypes := #[90, 90] }) (hs : a.eval s = v) (hx : a.eval x = .slice (some ⟨b1, 0, none⟩) 1 1) (hb1 : b1 = wr.heap.size)
    (h : ∀ g cap w', w'.ownsRow base 94 4 (.slice (some ⟨g, 0, none⟩) (n + 1) cap) (n + 1) (xs ++ [.pointer (some p1), .pointer (some p2), .int .i64 c1, .int .i64 c2]) → wr.heap.size ≤ w'.heap.size → wr.grownBy w' v.ownBlock → W.grownBy w' v.ownBlock → K (a.put o.dst (.slice (some ⟨g, 0, none⟩) (n + 1) cap)) w') :
    if Region.wanted o (yielded ops a.tmps) = true then Oper.wp Try.prog o a W K Q else E := by
  subst hb1
  obtain ⟨i0, hi, hz0, hz1, hz2⟩ := info_parts Try.infoBranch
  have hS : W.heap.size = wr.heap.size + 1 := by rcases hW with rfl | rfl <;> simp
  have ho2 : W.ownsRow base 94 4 v n xs := by
    rcases hW with rfl | rfl
    · exact hown.alloc _
    · exact hown.alloc _
  have hcs : ∀ j w, [Value.pointer (some p1), Value.pointer (some p2), Value.int .i64 c1, Value.int .i64 c2][j]? = some w → W.cell? ((⟨wr.heap.size, 0, none⟩ : Addr).add j) = some w := by
    rcases hW with rfl | rfl
    · exact four_new _ _ _ _ _ _
    · exact four_new _ _ _ _ _ _
  have hg0 : wr.grownBy W v.ownBlock := by
    rcases hW with rfl | rfl
    · exact World.grownBy_alloc _ _ _
    · exact ⟨rfl, rfl, rfl, by simp, fun k hk _ => heap_alloc_old _ _ hk⟩
  refine step_append_lies W hgd s x 90 ho base 94 i0 (.agg #[.pointer none, .pointer none, .int .i64 0, .int .i64 0]) 4 32 Try.underlying90 hi hz0 hz1 hz2 rfl (by decide) v n xs hs ho2 ⟨wr.heap.size, 0, none⟩ 1 1 [.pointer (some p1), .pointer (some p2), .int .i64 c1, .int .i64 c2] hx rfl hcs (by simp [Value.oneCell']) (by omega) (by unfold maxLen; omega) (by omega) (by omega) (wr.heap.size + 1) hS ?_
  intro g cap w' h1 h2 _ _
  have h4 := h2.size
  exact h _ _ w' h1 (by omega) (grown_trans1 hg0 h2) h2
theorem k6_grown {B G : Nat} {w wa wb : World} {row : Option Nat} {a0 a1 a2 a3 a4 a5 : Addr} {v0 v1 v2 v3 v4 v5 : Value} (hg : wa.grownBy wb row) 
    (h : wa.cell? a0 = some v0 ∧ wa.cell? a1 = some v1 ∧ wa.cell? a2 = some v2 ∧ wa.cell? a3 = some v3 ∧ wa.cell? a4 = some v4 ∧ wa.cell? a5 = some v5 ∧ G ≤ wa.heap.size ∧ B ≤ G ∧ Below B w wa)
    (hn : some a0.block ≠ row ∧ some a1.block ≠ row ∧ some a2.block ≠ row ∧ some a3.block ≠ row ∧ some a4.block ≠ row ∧ some a5.block ≠ row) (hr : ∀ k, row = some k → B ≤ k) :
    wb.cell? a0 = some v0 ∧ wb.cell? a1 = some v1 ∧ wb.cell? a2 = some v2 ∧ wb.cell? a3 = some v3 ∧ wb.cell? a4 = some v4 ∧ wb.cell? a5 = some v5 ∧ G ≤ wb.heap.size ∧ B ≤ G ∧ Below B w wb := by
  obtain ⟨c0, c1, c2, c3, c4, c5, h1, h2, h3⟩ := h
  obtain ⟨n0, n1, n2, n3, n4, n5⟩ := hn
  exact ⟨hg.cell c0 n0, hg.cell c1 n1, hg.cell c2 n2, hg.cell c3 n3, hg.cell c4 n4, hg.cell c5 n5, Nat.le_trans h1 hg.size, h2, h3.grown hg (by omega) hr⟩
set_option maxRecDepth 8000 in
set_option maxHeartbeats 12800000 in
theorem impl_branches (N : Nat) (e s : Int) (v : Value) (ws : List W3) (gp op cp : Nat) (w : World) (hb : netB N e s ws = true) (hr : ReadsW w v ws) (hw : ws.length ≤ 20) :
    Calls Try.prog 71 #[.agg #[.int .i64 N, .int .i64 e, .int .i64 s, v], .slice (some ⟨gp, op, none⟩) N cp] w fun en w' => ∃ v', en = .returned v' ∧ w'.ownsRow w.heap.size 94 4 v' ws.length (cellsR gp op s ws) ∧ Below w.heap.size w w' := by
  obtain ⟨_, h5, hwv⟩ := net_nat hb
  obtain ⟨s1, s2⟩ := net_scale hb
  obtain ⟨p, cap, rfl⟩ := hr.shape
  obtain ⟨W0, hW0⟩ : ∃ W0, W0 = w.alloc (.cells #[.int .i64 N, .int .i64 e, .int .i64 s, .slice p ws.length cap] 25) := ⟨_, rfl⟩
  have hsW : W0.heap.size = w.heap.size + 1 := by rw [hW0]; simp
  have hbox : boxN W0 w.heap.size N e s (.slice p ws.length cap) := by rw [hW0]; exact boxN.new w N e s _ 25
  have B0 : Below w.heap.size w W0 := by rw [hW0]; (repeat (first | exact Below.refl _ _ | (refine Below.setCell ?_ (by (first | exact Nat.le_refl _ | omega | (simp <;> omega) | simp)) _) | (refine Below.alloc ?_ (by (first | exact Nat.le_refl _ | omega | (simp <;> omega) | simp)) _) | (refine below_draws ?_ _)))
  have hrd : ReadsW W0 (.slice p ws.length cap) ws := by rw [hW0]; exact hr.later ((Below.refl w.heap.size w).alloc (Nat.le_refl _) _)
  have HRA := Lib.hid (reads_atW hrd)
  have HBX := Lib.hid hbox
  have HWV := Lib.hid hwv
  clear hr hrd hb hwv
  obtain ⟨x0, x1, x2, x3⟩ := hbox
  go_enter Try.func71, Try.ntmps71
  go_wp2
  rw [← hW0]
  clear hW0
  have HSW := Lib.hid hsW
  have hlen : (0 : Int) ≤ (ws.length : Int) := by omega
  clear x0 x1 x2 x3 hsW
  go_loopw [5, 11] (fun ov iv wr => ∃ k : Nat, k ≤ ws.length ∧ iv = .int .i64 k ∧ Hid (wr.ownsRow (w.heap.size + 1) 94 4 ov k (cellsR gp op s (ws.take k))) ∧ Hid (Below (w.heap.size + 1) W0 wr)) (fun _ iv _ => ws.length - (intOf iv).toNat)
  case atStart => exact ⟨0, Nat.zero_le _, rfl, Lib.hid (World.ownsRow_nil _ _ _ _), Lib.hid (Below.refl _ _)⟩
  case round =>
    obtain ⟨k, hk, rfl, hown, hB⟩ := hrel
    have hsz := hB.out.size
    rw [HSW.out] at hsz
    have hBw : Below w.heap.size w wr := B0.trans (hB.out.mono (by omega))
    by_cases hlt : k < ws.length
    · obtain ⟨q, o, rfl, hq, c0, c1, c2⟩ := HRA.out k hlt
      rw [HSW.out] at hq
      rw [← hB.out.cell (p := ⟨q, o + k * 3, none⟩) hq] at c0
      rw [← hB.out.cell (p := ⟨q, o + k * 3 + 1, none⟩) hq] at c1
      rw [← hB.out.cell (p := ⟨q, o + k * 3 + 2, none⟩) hq] at c2
      obtain ⟨v1, v2, v3, v4, v5⟩ := HWV.out.1 k hlt
      have v6 : ws[k].1 < (N : Int) := by omega
      have v7 : (0 : Int) ≤ ws[k].2.1 := by omega
      obtain ⟨x0, x1, x2, x3⟩ := HBX.out.below hB.out (Nat.lt_succ_self _)
      have hxl : w.heap.size < wr.heap.size := by omega
      have hA : Below wr.heap.size wr (wr.alloc (.cells #[.int .i64 ws[k].1, .int .i64 ws[k].2.1, .int .i64 ws[k].2.2] 82)) := (Below.refl _ _).alloc (Nat.le_refl _) _
      have hT : (wr.alloc (.cells #[.int .i64 ws[k].1, .int .i64 ws[k].2.1, .int .i64 ws[k].2.2] 82)).cell? ⟨wr.heap.size, 0, none⟩ = some (.int .i64 ws[k].1) ∧ (wr.alloc (.cells #[.int .i64 ws[k].1, .int .i64 ws[k].2.1, .int .i64 ws[k].2.2] 82)).cell? ⟨wr.heap.size, 1, none⟩ = some (.int .i64 ws[k].2.1) ∧ (wr.alloc (.cells #[.int .i64 ws[k].1, .int .i64 ws[k].2.1, .int .i64 ws[k].2.2] 82)).cell? ⟨wr.heap.size, 2, none⟩ = some (.int .i64 ws[k].2.2) ∧ (wr.alloc (.cells #[.int .i64 ws[k].1, .int .i64 ws[k].2.1, .int .i64 ws[k].2.2] 82)).cell? ⟨w.heap.size, 0, none⟩ = some (.int .i64 N) ∧ (wr.alloc (.cells #[.int .i64 ws[k].1, .int .i64 ws[k].2.1, .int .i64 ws[k].2.2] 82)).cell? ⟨w.heap.size, 1, none⟩ = some (.int .i64 e) ∧ (wr.alloc (.cells #[.int .i64 ws[k].1, .int .i64 ws[k].2.1, .int .i64 ws[k].2.2] 82)).cell? ⟨w.heap.size, 2, none⟩ = some (.int .i64 s) ∧ w.heap.size ≤ (wr.alloc (.cells #[.int .i64 ws[k].1, .int .i64 ws[k].2.1, .int .i64 ws[k].2.2] 82)).heap.size ∧ w.heap.size ≤ w.heap.size ∧ Below w.heap.size w (wr.alloc (.cells #[.int .i64 ws[k].1, .int .i64 ws[k].2.1, .int .i64 ws[k].2.2] 82)) := ⟨by simp [go_sem], by simp [go_sem], by simp [go_sem], (hA.cell (p := ⟨w.heap.size, 0, none⟩) hxl).trans x0, (hA.cell (p := ⟨w.heap.size, 1, none⟩) hxl).trans x1, (hA.cell (p := ⟨w.heap.size, 2, none⟩) hxl).trans x2, by simp; omega, Nat.le_refl _, hBw.trans (hA.mono hBw.size)⟩
      have E0 : Below wr.heap.size wr (wr.alloc (.cells #[.int .i64 ws[k].1, .int .i64 ws[k].2.1, .int .i64 ws[k].2.2] 82)).drew := below_draws hA 1
      have hsn : cellsR gp op s (ws.take (k + 1)) = cellsR gp op s (ws.take k) ++ cells4 gp op s ws[k] := by rw [List.take_succ_eq_append_getElem hlt, cellsR_snoc]
      have HSN := Lib.hid hsn; clear hsn
      obtain ⟨pu, cu, rfl⟩ := owns_shape hown.out
      go_wp2
      have hS := k6_drew hT
      clear hT
      go_region_held3 (fun w' => w'.cell? ⟨wr.heap.size, 0, none⟩ = some (.int .i64 ws[k].1) ∧ w'.cell? ⟨wr.heap.size, 1, none⟩ = some (.int .i64 ws[k].2.1) ∧ w'.cell? ⟨wr.heap.size, 2, none⟩ = some (.int .i64 ws[k].2.2) ∧ w'.cell? ⟨w.heap.size, 0, none⟩ = some (.int .i64 N) ∧ w'.cell? ⟨w.heap.size, 1, none⟩ = some (.int .i64 e) ∧ w'.cell? ⟨w.heap.size, 2, none⟩ = some (.int .i64 s) ∧ w.heap.size ≤ w'.heap.size ∧ w.heap.size ≤ w.heap.size ∧ Below w.heap.size w w')
        (first | exact hS | exact k6_alloc hS)
        (first
          | (go_at_call 19; with_reducible refine Calls.mono (impl_rOf ws[k].2.2 s _ (by omega) (by omega) (by omega) (by omega)) ?_; rintro en wa ⟨rfl, Ba⟩; replace hS := k6_keep Ba hS; have E1 := E0.trans (Ba.mono E0.size); have own2 := owns_later hown.out E1; have hk2 : w.heap.size + 1 ≤ wa.heap.size := Nat.le_trans hsz E1.size)
          | (refine step_append_branch own2 (show k + 1 ≤ 1099511627776 by omega) hk2 (by first | exact Or.inl rfl | exact Or.inr rfl) (by rfl) (by rfl) (by rfl) (by rfl) (by rfl) ?_; intro g3 c3 w3 hv3 hs3 hG3 hG3'; have hrw : ∀ z, (Value.slice pu k cu).ownBlock = some z → w.heap.size + 1 ≤ z ∧ z < wr.heap.size := fun z hz => hown.out.lt z hz; have hne : ∀ z, (z ≤ w.heap.size ∨ wr.heap.size ≤ z) → some z ≠ (Value.slice pu k cu).ownBlock := fun z hz he => hz.elim (fun h => absurd h (Nat.not_le.mpr (hrw z he.symm).1)) (fun h => absurd h (Nat.not_le.mpr (hrw z he.symm).2)); replace hS := k6_grown hG3 hS ⟨hne _ (.inr (Nat.le_refl _)), hne _ (.inr (Nat.le_refl _)), hne _ (.inr (Nat.le_refl _)), hne _ (.inl (Nat.le_refl _)), hne _ (.inl (Nat.le_refl _)), hne _ (.inl (Nat.le_refl _))⟩ (fun z hz => Nat.le_of_succ_le (hrw z hz).1)))
      have HOR : Hid (w3.ownsRow (w.heap.size + 1) 94 4 (.slice (some ⟨g3, 0, none⟩) (k + 1) c3) (k + 1) (cellsR gp op s (ws.take (k + 1)))) := Lib.hid (by rw [HSN.out]; exact hv3)
      have HBB : Hid (Below (w.heap.size + 1) W0 w3) := Lib.hid ((hB.out.trans (E1.mono hsz)).grown hG3 hk2 (fun z hz => (hrw z hz).1))
      clear hS hv3 hs3 hG3 hG3' own2 hk2 E1 Ba hne hrw E0 hA x0 x1 x2 x3 c0 c1 c2 hq
      go_wp2
      go_roundw
      case rel => exact ⟨k + 1, by omega, by go_num, HOR, HBB⟩
      case measure => simp [intOf]; omega
    · obtain rfl : k = ws.length := by omega
      rw [List.take_length] at hown
      go_wp2
      go_ret
      exact ⟨_, rfl, owns_mono hown.out (by omega), hBw⟩
end Go.Proofs.Ytbeddnegmggleaa
