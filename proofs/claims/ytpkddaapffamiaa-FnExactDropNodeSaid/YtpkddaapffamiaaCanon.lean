/-
  CanonNet, in the model and in the program: scale and weights divided by their greatest common divisor.
-/
import Derived.Test.YtpkddaapffamiaaGLap
import Derived.Deep.AppendLies
import Derived.Deep.RegionHeld3
namespace Go.Proofs.Ytpkddaapffamiaa
open Go.RowKit

def gAll (s : Int) (ws : List W3) : Int := ws.foldl (fun g e => gcdV g e.2.2) s
theorem gAll_snoc (s : Int) (ws : List W3) (k : Nat) (h : k < ws.length) : gAll s (ws.take (k + 1)) = gcdV (gAll s (ws.take k)) ws[k].2.2 := by
  unfold gAll; rw [List.take_succ_eq_append_getElem h, List.foldl_append]; rfl
theorem gcdV_rangeC {g x : Int} (h1 : 1 ≤ g) (h2 : g ≤ 1000000000000) (x1 : 0 ≤ x) : 1 ≤ gcdV g x ∧ gcdV g x ≤ 1000000000000 := by
  rw [gcdV_of (by omega) (by omega)]
  have hp := Nat.gcd_pos_of_pos_left x.natAbs (show 0 < g.natAbs by omega)
  have hl := Nat.gcd_le_left x.natAbs (show 0 < g.natAbs by omega)
  omega
/-- Weights that are not negative and not too great, valid or not. -/
def WiresB (ws : List W3) : Prop := ∀ k, (h : k < ws.length) → 0 ≤ ws[k].2.2 ∧ ws[k].2.2 ≤ 1000000000000
theorem WiresB.of {n : Int} {ws : List W3} (h : WiresV n ws) : WiresB ws := fun k hk => by
  obtain ⟨_, _, _, a, b⟩ := h.1 k hk
  omega
theorem gAll_range {s : Int} {ws : List W3} (hw : WiresB ws) (s1 : 1 ≤ s) (s2 : s ≤ 1000000000000) : ∀ k, k ≤ ws.length → 1 ≤ gAll s (ws.take k) ∧ gAll s (ws.take k) ≤ 1000000000000
  | 0, _ => by simp [gAll]; omega
  | k + 1, h => by
    have ih := gAll_range hw s1 s2 k (by omega)
    rw [gAll_snoc s ws k (by omega)]
    exact gcdV_rangeC ih.1 ih.2 (hw k (by omega)).1
def divW (g : Int) (e : W3) : W3 := (e.1, e.2.1, e.2.2.tdiv g)
/-- What CanonNet answers: numbers, wires, and whether there is an answer. -/
noncomputable def canR (n e s : Int) (ws : List W3) : Int × Int × Int × List W3 × Bool :=
  if netB n e s ws = true then (n, e, s.tdiv (gAll s ws), ws.map (divW (gAll s ws)), true) else (0, 0, 0, [], false)
theorem canR_len (n e s : Int) (ws : List W3) (h : ws.length ≤ 1048576) : (canR n e s ws).2.2.2.1.length ≤ 1048576 := by
  unfold canR; split <;> simp <;> omega
theorem canR_no {n e s : Int} {ws : List W3} (h : netB n e s ws = false) : canR n e s ws = (0, 0, 0, [], false) := by simp [canR, h]
theorem canR_yes {n e s : Int} {ws : List W3} (h : netB n e s ws = true) : canR n e s ws = (n, e, s.tdiv (gAll s ws), ws.map (divW (gAll s ws)), true) := by simp [canR, h]

/-! ### append of one wire -/
theorem Try.infoWireB : (Try.prog.info? 80).map (fun i => (i.zero, i.size, i.bytes)) = some (some (.agg #[.int .i64 0, .int .i64 0, .int .i64 0]), 3, 24) := by kernel_rfl
theorem three_new (w : World) (x y z : Value) (t : TypeId) : ∀ j u, [x, y, z][j]? = some u → (w.alloc (.cells #[x, y, z] t)).cell? ((⟨w.heap.size, 0, none⟩ : Addr).add j) = some u := by
  intro j u hj
  have h3 : j = 0 ∨ j = 1 ∨ j = 2 := by
    rcases j with _ | _ | _ | j
    · simp
    · simp
    · simp
    · simp at hj
  rcases h3 with rfl | rfl | rfl <;>
  · simp at hj
    subst hj
    show World.cell? _ ⟨w.heap.size, _, none⟩ = _
    rw [World.cell?_alloc_new]; rfl
/-- 'append(v, x)' of one wire, where v is the call's own. -/
theorem append_wire {ops : Array Oper} {rest : List Oper} {o : Oper} {a : Act} {Q : Exit → Act → World → Prop} (wr : World) (hgd : o.guard = none) (s x : Operand)
    (ho : o.op = .call { callee := .builtin .append, args := #[s, x], argTypes := #[23, 23] })
    (base : Nat) (w0 : World) (v : Value) (ws : List W3) (u : W3) (hs : a.eval s = v) (hown : wr.ownsRow base 80 3 v ws.length (cellsW ws))
    {b1 : Nat} (hx : a.eval x = .slice (some ⟨b1, 0, none⟩) 1 1) (hb1 : b1 = wr.heap.size) (hn : ws.length + 1 ≤ 1099511627776) (hbase : base ≤ wr.heap.size) (hB : Below base w0 wr)
    (h : ∀ v' w', w'.ownsRow base 80 3 v' (ws ++ [u]).length (cellsW (ws ++ [u])) → wr.heap.size ≤ w'.heap.size → Below base w0 w' → wr.grownBy w' v.ownBlock → wpList Try.prog ops Q rest (a.put o.dst v') w') :
    wpList Try.prog ops Q (o :: rest) a (wr.alloc (.cells #[.int .i64 u.1, .int .i64 u.2.1, .int .i64 u.2.2] 80)) := by
  subst hb1
  obtain ⟨i0, hi, hz0, hz1, hz2⟩ := info_parts Try.infoWireB
  refine wpList_append_own _ hgd s x 23 ho base 80 i0 (.agg #[.int .i64 0, .int .i64 0, .int .i64 0]) 3 24 Try.underlying23 hi hz0 hz1 hz2 rfl (by decide) v ws.length (cellsW ws) hs (hown.alloc _) ⟨wr.heap.size, 0, none⟩ 1 1 [.int .i64 u.1, .int .i64 u.2.1, .int .i64 u.2.2] hx rfl (three_new _ _ _ _ _) (by simp [Value.oneCell']) (by unfold maxLen; omega) (by omega) (by simp; omega) ?_
  intro v' w' h1 h2 _
  have h3 := h2.size
  simp at h3
  refine h v' w' (by rw [cellsW_snoc, List.length_append]; exact h1) (by omega) ((hB.alloc hbase _).grown h2 (by simp; omega) (fun k hk => (hown.lt k hk).1)) ?_
  exact ⟨h2.os, h2.tape, h2.output, by omega, fun i hi hr => by rw [h2.block i (by simp; omega) hr, heap_alloc_old _ _ hi]⟩

theorem tdiv_range {x g m : Int} (h0 : 0 ≤ x) (hx : x ≤ m) (hg : 1 ≤ g) : 0 ≤ x.tdiv g ∧ x.tdiv g ≤ m :=
  ⟨Int.tdiv_nonneg h0 (by omega), Int.le_trans (Int.tdiv_le_self g h0) hx⟩
theorem divs_snoc (g : Int) (ws : List W3) (k : Nat) (h : k < ws.length) : (ws.take (k + 1)).map (divW g) = (ws.take k).map (divW g) ++ [divW g ws[k]] := by
  rw [List.take_succ_eq_append_getElem h, List.map_append]; rfl
theorem own_len {w : World} {base : Nat} {v : Value} {ws : List W3} {k : Nat} (hk : ws.length = k) (h : w.ownsRow base 80 3 v ws.length (cellsW ws)) : w.ownsRow base 80 3 v k (cellsW ws) := hk ▸ h

theorem box3_alloc {w : World} {g : Nat} {a b c : Value} {o : Obj} (h : w.cell? ⟨g, 0, none⟩ = some a ∧ w.cell? ⟨g, 1, none⟩ = some b ∧ w.cell? ⟨g, 2, none⟩ = some c ∧ g < w.heap.size) : (w.alloc o).cell? ⟨g, 0, none⟩ = some a ∧ (w.alloc o).cell? ⟨g, 1, none⟩ = some b ∧ (w.alloc o).cell? ⟨g, 2, none⟩ = some c ∧ g < (w.alloc o).heap.size := by
  obtain ⟨h0, h1, h2, h3⟩ := h
  refine ⟨?_, ?_, ?_, by simp; omega⟩
  · rw [World.cell?_alloc_old _ _ _ (show g ≠ _ by omega)]; exact h0
  · rw [World.cell?_alloc_old _ _ _ (show g ≠ _ by omega)]; exact h1
  · rw [World.cell?_alloc_old _ _ _ (show g ≠ _ by omega)]; exact h2
theorem box3_set {w : World} {g : Nat} {a b c v : Value} {p : Addr} (hp : p.block ≠ g) (h : w.cell? ⟨g, 0, none⟩ = some a ∧ w.cell? ⟨g, 1, none⟩ = some b ∧ w.cell? ⟨g, 2, none⟩ = some c ∧ g < w.heap.size) : (w.setCell p v).cell? ⟨g, 0, none⟩ = some a ∧ (w.setCell p v).cell? ⟨g, 1, none⟩ = some b ∧ (w.setCell p v).cell? ⟨g, 2, none⟩ = some c ∧ g < (w.setCell p v).heap.size := by
  obtain ⟨h0, h1, h2, h3⟩ := h
  refine ⟨?_, ?_, ?_, by simpa using h3⟩
  · rw [World.cell?_setCell_far _ _ _ _ hp]; exact h0
  · rw [World.cell?_setCell_far _ _ _ _ hp]; exact h1
  · rw [World.cell?_setCell_far _ _ _ _ hp]; exact h2

theorem after_append {W w1 : World} {row : Option Nat} (hG : W.grownBy w1 row) (B : Nat) (hB : B < W.heap.size) (hne : some B ≠ row) : (∀ o u, W.cell? ⟨B, o, none⟩ = some u → w1.cell? ⟨B, o, none⟩ = some u) ∧ (∀ o, W.frozen? ⟨B, o, none⟩ = false → w1.frozen? ⟨B, o, none⟩ = false) :=
  ⟨fun o _ h => (hG.cell_far ⟨B, o, none⟩ hB hne).trans h, fun o h => (hG.frozen_far ⟨B, o, none⟩ hB hne).trans h⟩

set_option maxRecDepth 4000 in
set_option maxHeartbeats 6400000 in
theorem spec_l03Canon (n e s : Int) (v : Value) (ws : List W3) (w : World) (hr : ReadsW w v ws) (hw : WiresB ws) (s1 : 1 ≤ s) (s2 : s ≤ 1000000000000) (hlen : ws.length ≤ 1048576) :
    Calls Try.prog 132 #[.agg #[.int .i64 n, .int .i64 e, .int .i64 s, v]] w fun en w' => ∃ p c, en = .returned (.agg #[.int .i64 n, .int .i64 e, .int .i64 (s.tdiv (gAll s ws)), .slice p ws.length c]) ∧ w'.ownsRow w.heap.size 80 3 (.slice p ws.length c) ws.length (cellsW (ws.map (divW (gAll s ws)))) ∧ Below w.heap.size w w' := by
  have HGR := Lib.hid (gAll_range (ws := ws) hw s1 s2)
  obtain ⟨hm, hr1⟩ := hr
  rcases hr1 with ⟨hx, p, cap, rfl⟩ | ⟨g0, o, cap, rfl, hc⟩
  · subst hx
    have hgr := HGR.out 0 (Nat.zero_le _)
    have hGs : gAll s [] = s := rfl
    have HGS := Lib.hid hGs
    obtain ⟨T1, T2⟩ := tdiv_range (x := s) (g := s) (m := 1000000000000) (by omega) s2 s1
    have hG0 : (s == 0) = false := by simp; omega
    have hG1 : ¬ s = 0 := by omega
    have hWR : IntKind.i64.wrap 1 = 1 := by decide
    have hss : s.tdiv s = 1 := Int.tdiv_self hG1
    have hS0 : ((w.alloc (.cells #[.int .i64 n, .int .i64 e, .int .i64 s, .slice p 0 cap] 25)).alloc (.cells #[.int .i64 0, .int .i64 0, .int .i64 0, .slice none 0 0] 25)).drew.cell? ⟨w.heap.size, 0, none⟩ = some (.int .i64 n) ∧ ((w.alloc (.cells #[.int .i64 n, .int .i64 e, .int .i64 s, .slice p 0 cap] 25)).alloc (.cells #[.int .i64 0, .int .i64 0, .int .i64 0, .slice none 0 0] 25)).drew.cell? ⟨w.heap.size, 1, none⟩ = some (.int .i64 e) ∧ ((w.alloc (.cells #[.int .i64 n, .int .i64 e, .int .i64 s, .slice p 0 cap] 25)).alloc (.cells #[.int .i64 0, .int .i64 0, .int .i64 0, .slice none 0 0] 25)).drew.cell? ⟨w.heap.size, 2, none⟩ = some (.int .i64 s) ∧ w.heap.size < ((w.alloc (.cells #[.int .i64 n, .int .i64 e, .int .i64 s, .slice p 0 cap] 25)).alloc (.cells #[.int .i64 0, .int .i64 0, .int .i64 0, .slice none 0 0] 25)).drew.heap.size := ⟨by simp [go_sem], by simp [go_sem], by simp [go_sem], by simp; omega⟩
    have HSS := Lib.hid hss
    clear hgr hGs hw hss
    go_enter Try.func132, Try.ntmps132
    go_wp2
    refine wp_loop_rounds 1 ?_
    rw [rounds_succ]
    go_wp2
    go_region_held3 (fun w' => w'.cell? ⟨w.heap.size, 0, none⟩ = some (.int .i64 n) ∧ w'.cell? ⟨w.heap.size, 1, none⟩ = some (.int .i64 e) ∧ w'.cell? ⟨w.heap.size, 2, none⟩ = some (.int .i64 s) ∧ w.heap.size < w'.heap.size)
      (first | exact hS0 | exact box3_alloc hS0 | exact box3_set (by omega) hS0 | go_keep)
      (fail)
    clear hS0
    go_wp2
    refine wp_loop_rounds 1 ?_
    rw [rounds_succ]
    go_wp2
    exact bodyPost_ret (v := .agg #[.int .i64 n, .int .i64 e, .int .i64 1, .slice none 0 0]) (by simp (maxDischargeDepth := 8) [results, Try.results132, go_sem, *]) rfl ⟨none, 0, by rw [HGS.out, HSS.out], World.ownsRow_nil _ _ _ _, by (repeat (first | exact Below.refl _ _ | (refine Below.setCell ?_ (by (first | exact Nat.le_refl _ | omega | (simp <;> omega) | simp)) _) | (refine Below.alloc ?_ (by (first | exact Nat.le_refl _ | omega | (simp <;> omega) | simp)) _) | (refine below_draws ?_ _)))⟩
  have HC := Lib.hid hc; clear hc
  have HW := Lib.hid hw; clear hw
  go_enter Try.func132, Try.ntmps132
  go_wp2
  go_loopw [3, 14] (fun q i wr => ∃ k : Nat, k ≤ ws.length ∧ i = .int .i64 k ∧ q = .int .i64 (gAll s (ws.take k)) ∧ Below (w.heap.size + 2) ((w.alloc (.cells #[.int .i64 n, .int .i64 e, .int .i64 s, .slice (some ⟨g0, o, none⟩) ws.length cap] 25)).alloc (.cells #[.int .i64 0, .int .i64 0, .int .i64 0, .slice none 0 0] 25)) wr) (fun _ i _ => ws.length - (intOf i).toNat)
  case atStart => exact ⟨0, Nat.zero_le _, rfl, rfl, Below.refl _ _⟩
  case round =>
    obtain ⟨k, hk, rfl, rfl, hB⟩ := hrel
    have hS := hB.size
    simp at hS
    have hBw : Below w.heap.size w wr := by (repeat (first | exact Below.refl _ _ | (refine Below.setCell ?_ (by (first | exact Nat.le_refl _ | omega | (simp <;> omega) | simp)) _) | (refine Below.alloc ?_ (by (first | exact Nat.le_refl _ | omega | (simp <;> omega) | simp)) _) | (refine below_draws ?_ _) | exact hB | (refine Below.trans ?_ (Below.mono hB (by (first | exact Nat.le_refl _ | omega | (simp <;> omega) | simp))))))
    by_cases hlt : k < ws.length
    · obtain ⟨c0, c1, c2⟩ := HC.out k hlt
      have hg : g0 < w.heap.size := World.block_lt_of_cell? w _ c0
      rw [← hBw.cell (p := ⟨g0, o + k * 3, none⟩) hg] at c0
      rw [← hBw.cell (p := ⟨g0, o + k * 3 + 1, none⟩) hg] at c1
      rw [← hBw.cell (p := ⟨g0, o + k * 3 + 2, none⟩) hg] at c2
      have hne : g0 ≠ wr.heap.size := by omega
      have hgr := HGR.out k (by omega)
      have hv := HW.out k hlt
      have hsn := gAll_snoc s ws k hlt
      generalize gAll s (ws.take k) = G at *
      obtain ⟨G1, G2⟩ := hgr
      obtain ⟨v3, v4⟩ := hv
      have HSN := Lib.hid hsn; clear hsn
      go_wp2_with fail
      refine (spec_gcd _ _ _ (by omega) (by omega) (by omega) (by omega)).mono ?_
      rintro en w1 ⟨rfl, B1⟩
      obtain ⟨hc1, hf1⟩ := bcell B1
      have S1 := B1.size
      try simp at S1
      try (have _L1wr : wr.heap.size < w1.heap.size := by omega)
      have _M1wr : wr.heap.size ≤ w1.heap.size := by omega
      try (have _P1wr_1 : wr.heap.size + 1 < w1.heap.size := by omega)
      try (have _P1wr_2 : wr.heap.size + 1 + 1 < w1.heap.size := by omega)
      try (have _P1wr_3 : wr.heap.size + 1 + 1 + 1 < w1.heap.size := by omega)
      go_wp2
      go_roundw
      case rel => exact ⟨k + 1, by omega, by go_num, by rw [HSN.out], by (repeat (first | exact Below.refl _ _ | (refine Below.setCell ?_ (by (first | exact Nat.le_refl _ | omega | (simp <;> omega) | simp)) _) | (refine Below.alloc ?_ (by (first | exact Nat.le_refl _ | omega | (simp <;> omega) | simp)) _) | (refine below_draws ?_ _) | exact hB | (refine Below.trans ?_ (Below.mono hB (by (first | exact Nat.le_refl _ | omega | (simp <;> omega) | simp)))) | exact B1 | (refine Below.trans ?_ (Below.mono B1 (by (first | exact Nat.le_refl _ | omega | (simp <;> omega) | simp))))))⟩
      case measure => simp [intOf]; omega
    · obtain rfl : k = ws.length := by omega
      have hgr := HGR.out ws.length (Nat.le_refl _)
      rw [List.take_length] at hgr ⊢
      generalize hGe : gAll s ws = G at *
      have HGE := Lib.hid hGe; clear hGe
      rename World => wp
      obtain ⟨G1, G2⟩ := hgr
      obtain ⟨T1, T2⟩ := tdiv_range (x := s) (g := G) (m := 1000000000000) (by omega) s2 G1
      have hG0 : (G == 0) = false := by simp; omega
      have hG1 : ¬ G = 0 := by omega
      have hG2 : (G == -1) = false := by simp; omega
      have hWR : IntKind.i64.wrap (s.tdiv G) = s.tdiv G := IntWalk.i64_in _ (by omega)
      have b0 : wp.cell? ⟨w.heap.size, 0, none⟩ = some (.int .i64 n) := by rw [hB.cell (p := ⟨w.heap.size, 0, none⟩) (show w.heap.size < w.heap.size + 2 by omega)]; simp [go_sem]
      have b1 : wp.cell? ⟨w.heap.size, 1, none⟩ = some (.int .i64 e) := by rw [hB.cell (p := ⟨w.heap.size, 1, none⟩) (show w.heap.size < w.heap.size + 2 by omega)]; simp [go_sem]
      have b2 : wp.cell? ⟨w.heap.size, 2, none⟩ = some (.int .i64 s) := by rw [hB.cell (p := ⟨w.heap.size, 2, none⟩) (show w.heap.size < w.heap.size + 2 by omega)]; simp [go_sem]
      have b3 : wp.cell? ⟨w.heap.size, 3, none⟩ = some (.slice (some ⟨g0, o, none⟩) ws.length cap) := by rw [hB.cell (p := ⟨w.heap.size, 3, none⟩) (show w.heap.size < w.heap.size + 2 by omega)]; simp [go_sem]
      have hne : w.heap.size ≠ wp.heap.size := by omega
      have hne2 : wp.heap.size ≠ w.heap.size := by omega
      have hS0 : wp.drew.cell? ⟨w.heap.size, 0, none⟩ = some (.int .i64 n) ∧ wp.drew.cell? ⟨w.heap.size, 1, none⟩ = some (.int .i64 e) ∧ wp.drew.cell? ⟨w.heap.size, 2, none⟩ = some (.int .i64 s) ∧ w.heap.size < wp.drew.heap.size := ⟨b0, b1, b2, by show _ < wp.heap.size; omega⟩
      go_wp2
      go_region_held3 (fun w' => w'.cell? ⟨w.heap.size, 0, none⟩ = some (.int .i64 n) ∧ w'.cell? ⟨w.heap.size, 1, none⟩ = some (.int .i64 e) ∧ w'.cell? ⟨w.heap.size, 2, none⟩ = some (.int .i64 s) ∧ w.heap.size < w'.heap.size)
        (first | exact hS0 | exact box3_alloc hS0 | exact box3_set (by omega) hS0 | go_keep)
        (fail)
      have hBd : Below (w.heap.size + 2) ((w.alloc (.cells #[.int .i64 n, .int .i64 e, .int .i64 s, .slice (some ⟨g0, o, none⟩) ws.length cap] 25)).alloc (.cells #[.int .i64 0, .int .i64 0, .int .i64 0, .slice none 0 0] 25)) ((wp.alloc (.cells #[.int .i64 n, .int .i64 e, .int .i64 (s.tdiv G), .slice none 0 0] 25)).drew) := by (repeat (first | exact Below.refl _ _ | (refine Below.setCell ?_ (by (first | exact Nat.le_refl _ | omega | (simp <;> omega) | simp)) _) | (refine Below.alloc ?_ (by (first | exact Nat.le_refl _ | omega | (simp <;> omega) | simp)) _) | (refine below_draws ?_ _) | exact hB | (refine Below.trans ?_ (Below.mono hB (by (first | exact Nat.le_refl _ | omega | (simp <;> omega) | simp))))))
      have b3' : (wp.alloc (.cells #[.int .i64 n, .int .i64 e, .int .i64 (s.tdiv G), .slice none 0 0] 25)).cell? ⟨w.heap.size, 3, none⟩ = some (.slice (some ⟨g0, o, none⟩) ws.length cap) := (World.cell?_alloc_old wp _ ⟨w.heap.size, 3, none⟩ hne).trans b3
      clear hS0 b0 b1 b2
      go_wp2
      go_loopw [35] (fun i wi => ∃ (k : Nat) (v : Value) (os : List W3), k ≤ ws.length ∧ i = .int .i64 k ∧ Hid (os = (ws.take k).map (divW G)) ∧ wi.cell? ⟨wp.heap.size, 0, none⟩ = some (.int .i64 n) ∧ wi.cell? ⟨wp.heap.size, 1, none⟩ = some (.int .i64 e) ∧ wi.cell? ⟨wp.heap.size, 2, none⟩ = some (.int .i64 (s.tdiv G)) ∧ wi.cell? ⟨wp.heap.size, 3, none⟩ = some v ∧ wi.frozen? ⟨wp.heap.size, 3, none⟩ = false ∧ wi.ownsRow (wp.heap.size + 1) 80 3 v os.length (cellsW os) ∧ wp.heap.size < wi.heap.size ∧ Hid (Below (w.heap.size + 2) ((w.alloc (.cells #[.int .i64 n, .int .i64 e, .int .i64 s, .slice (some ⟨g0, o, none⟩) ws.length cap] 25)).alloc (.cells #[.int .i64 0, .int .i64 0, .int .i64 0, .slice none 0 0] 25)) wi)) (fun i _ => ws.length - (intOf i).toNat)
      case atStart => exact ⟨0, _, [], Nat.zero_le _, rfl, rfl, by simp, by simp, by simp, by simp, by simp, World.ownsRow_nil _ _ _ _, by simp, Lib.hid hBd⟩
      case round =>
        clear hBd hB hBw
        obtain ⟨k, v, os, hk, rfl, hos, b0, b1, b2, b3, f3, hown, hsz, hB⟩ := hrel
        have hosl : os.length ≤ 1048576 := by rw [hos.out]; simp; omega
        have hBw : Below w.heap.size w wr := by have hB := hB.out; (repeat (first | exact Below.refl _ _ | (refine Below.setCell ?_ (by (first | exact Nat.le_refl _ | omega | (simp <;> omega) | simp)) _) | (refine Below.alloc ?_ (by (first | exact Nat.le_refl _ | omega | (simp <;> omega) | simp)) _) | (refine below_draws ?_ _) | exact hB | (refine Below.trans ?_ (Below.mono hB (by (first | exact Nat.le_refl _ | omega | (simp <;> omega) | simp))))))
        have hSi := hB.out.size
        simp at hSi
        obtain ⟨pv, cv, rfl⟩ := owns_shape hown
        by_cases hlt : k < ws.length
        · obtain ⟨c0, c1, c2⟩ := HC.out k hlt
          have hg : g0 < w.heap.size := World.block_lt_of_cell? w _ c0
          rw [← hBw.cell (p := ⟨g0, o + k * 3, none⟩) hg] at c0
          rw [← hBw.cell (p := ⟨g0, o + k * 3 + 1, none⟩) hg] at c1
          rw [← hBw.cell (p := ⟨g0, o + k * 3 + 2, none⟩) hg] at c2
          have hne0 : g0 ≠ wr.heap.size := by omega
          have hneB : wp.heap.size ≠ wr.heap.size := by omega
          obtain ⟨v3, v4⟩ := HW.out k hlt
          obtain ⟨Q1, Q2⟩ := tdiv_range (x := ws[k].2.2) (g := G) (m := 1000000000000) (by omega) v4 G1
          have hnb := fun b hb => (hown.lt b hb).1
          have HNB := Lib.hid hnb
          have HSN := Lib.hid (divs_snoc G ws k hlt)
          clear hnb
          go_wp2_with (at_builtin; refine append_wire _ rfl _ _ rfl (wp.heap.size + 1) wr _ os (ws[k].1, ws[k].2.1, ws[k].2.2.tdiv G) rfl (owns_later hown (by (repeat (first | exact Below.refl _ _ | (refine Below.setCell ?_ (by (first | exact Nat.le_refl _ | omega | (simp <;> omega) | simp)) _) | (refine Below.alloc ?_ (by (first | exact Nat.le_refl _ | omega | (simp <;> omega) | simp)) _) | (refine below_draws ?_ _))))) rfl (by simp) (by omega) (by simp; omega) (by (repeat (first | exact Below.refl _ _ | (refine Below.setCell ?_ (by (first | exact Nat.le_refl _ | omega | (simp <;> omega) | simp)) _) | (refine Below.alloc ?_ (by (first | exact Nat.le_refl _ | omega | (simp <;> omega) | simp)) _) | (refine below_draws ?_ _)))) ?_; intro v' w1 hown1 hsz1 hB1 hG1; obtain ⟨p1, cv1, rfl⟩ := owns_shape hown1; have fc := after_append hG1 wp.heap.size (by simp; omega) (by intro e; have := HNB.out _ e.symm; omega); have e0 := fc.1 0 _ ((World.cell?_alloc_old wr (.cells #[.int .i64 ws[k].1, .int .i64 ws[k].2.1, .int .i64 (ws[k].2.2.tdiv G)] 80) ⟨wp.heap.size, 0, none⟩ hneB).trans b0); have e1 := fc.1 1 _ ((World.cell?_alloc_old wr (.cells #[.int .i64 ws[k].1, .int .i64 ws[k].2.1, .int .i64 (ws[k].2.2.tdiv G)] 80) ⟨wp.heap.size, 1, none⟩ hneB).trans b1); have e2 := fc.1 2 _ ((World.cell?_alloc_old wr (.cells #[.int .i64 ws[k].1, .int .i64 ws[k].2.1, .int .i64 (ws[k].2.2.tdiv G)] 80) ⟨wp.heap.size, 2, none⟩ hneB).trans b2); have e3 := fc.1 3 _ ((World.cell?_alloc_old wr (.cells #[.int .i64 ws[k].1, .int .i64 ws[k].2.1, .int .i64 (ws[k].2.2.tdiv G)] 80) ⟨wp.heap.size, 3, none⟩ hneB).trans b3); have e4 := fc.2 3 (by simp [go_sem, *]); clear fc hG1; simp at hsz1)
          refine ⟨⟨k + 1, .slice p1 (os.length + 1) cv1, os ++ [(ws[k].1, ws[k].2.1, ws[k].2.2.tdiv G)], by omega, by go_num, Lib.hid (by rw [HSN.out, hos.out]; rfl), ?_, ?_, ?_, ?_, ?_, ?_, ?_, Lib.hid ?_⟩, ?_⟩
          · simp [go_sem, *]
          · simp [go_sem, *]
          · simp [go_sem, *]
          · simp [go_sem, *]
          · simp [go_sem, *]
          · rw [show os.length + 1 = (os ++ [(ws[k].1, ws[k].2.1, ws[k].2.2.tdiv G)]).length by simp]
            ((repeat (refine ownsRow_setCell_below ?_ ?_ _; rotate_left; focus (first | omega | (simp; done) | (simp; omega)))); with_reducible exact hown1)
          · simp; omega
          · have hB := hB.out; (repeat (first | exact Below.refl _ _ | (refine Below.setCell ?_ (by (first | exact Nat.le_refl _ | omega | (simp <;> omega) | simp)) _) | (refine Below.alloc ?_ (by (first | exact Nat.le_refl _ | omega | (simp <;> omega) | simp)) _) | (refine below_draws ?_ _) | exact hB | (refine Below.trans ?_ (Below.mono hB (by (first | exact Nat.le_refl _ | omega | (simp <;> omega) | simp)))) | exact hB1 | (refine Below.trans ?_ (Below.mono hB1 (by (first | exact Nat.le_refl _ | omega | (simp <;> omega) | simp))))))
          · simp [intOf]; omega
        · obtain rfl : k = ws.length := by omega
          rw [List.take_length] at hos
          obtain rfl := hos.out
          have hol : (ws.map (divW G)).length = ws.length := by simp
          rw [hol] at b3 hown
          clear hol
          generalize hgo : ws.map (divW G) = os at *
          have HGO := Lib.hid hgo; clear hgo
          have r0 : wr.cell? ⟨w.heap.size + 1, 0, none⟩ = some (.int .i64 0) := by rw [hB.out.cell (p := ⟨w.heap.size + 1, 0, none⟩) (show w.heap.size + 1 < w.heap.size + 2 by omega)]; simp [go_sem]
          have q0 : wr.frozen? ⟨w.heap.size + 1, 0, none⟩ = false := by rw [hB.out.frozen (p := ⟨w.heap.size + 1, 0, none⟩) (show w.heap.size + 1 < w.heap.size + 2 by omega)]; simp [go_sem]
          have r1 : wr.cell? ⟨w.heap.size + 1, 1, none⟩ = some (.int .i64 0) := by rw [hB.out.cell (p := ⟨w.heap.size + 1, 1, none⟩) (show w.heap.size + 1 < w.heap.size + 2 by omega)]; simp [go_sem]
          have q1 : wr.frozen? ⟨w.heap.size + 1, 1, none⟩ = false := by rw [hB.out.frozen (p := ⟨w.heap.size + 1, 1, none⟩) (show w.heap.size + 1 < w.heap.size + 2 by omega)]; simp [go_sem]
          have r2 : wr.cell? ⟨w.heap.size + 1, 2, none⟩ = some (.int .i64 0) := by rw [hB.out.cell (p := ⟨w.heap.size + 1, 2, none⟩) (show w.heap.size + 1 < w.heap.size + 2 by omega)]; simp [go_sem]
          have q2 : wr.frozen? ⟨w.heap.size + 1, 2, none⟩ = false := by rw [hB.out.frozen (p := ⟨w.heap.size + 1, 2, none⟩) (show w.heap.size + 1 < w.heap.size + 2 by omega)]; simp [go_sem]
          have r3 : wr.cell? ⟨w.heap.size + 1, 3, none⟩ = some (.slice none 0 0) := by rw [hB.out.cell (p := ⟨w.heap.size + 1, 3, none⟩) (show w.heap.size + 1 < w.heap.size + 2 by omega)]; simp [go_sem]
          have q3 : wr.frozen? ⟨w.heap.size + 1, 3, none⟩ = false := by rw [hB.out.frozen (p := ⟨w.heap.size + 1, 3, none⟩) (show w.heap.size + 1 < w.heap.size + 2 by omega)]; simp [go_sem]
          have hneB : wp.heap.size ≠ w.heap.size + 1 := by omega
          have HBw := Lib.hid hBw
          have HOW := Lib.hid hown
          clear hown hBw hos
          go_wp2
          exact bodyPost_ret (v := .agg #[.int .i64 n, .int .i64 e, .int .i64 (s.tdiv G), .slice pv ws.length cv]) (by simp (maxDischargeDepth := 8) [results, Try.results132, go_sem, *]) rfl ⟨pv, cv, by rw [HGE.out], by rw [HGE.out, HGO.out]; refine owns_mono (base := wp.heap.size + 1) ?_ (by omega); have o1 := HOW.out; ((repeat (refine ownsRow_setCell_below ?_ ?_ _; rotate_left; focus (first | omega | (simp; done) | (simp; omega)))); with_reducible exact o1), by have hBw := HBw.out; (repeat (first | exact Below.refl _ _ | (refine Below.setCell ?_ (by (first | exact Nat.le_refl _ | omega | (simp <;> omega) | simp)) _) | (refine Below.alloc ?_ (by (first | exact Nat.le_refl _ | omega | (simp <;> omega) | simp)) _) | (refine below_draws ?_ _) | exact hBw | (refine Below.trans ?_ (Below.mono hBw (by (first | exact Nat.le_refl _ | omega | (simp <;> omega) | simp))))))⟩

end Go.Proofs.Ytpkddaapffamiaa
