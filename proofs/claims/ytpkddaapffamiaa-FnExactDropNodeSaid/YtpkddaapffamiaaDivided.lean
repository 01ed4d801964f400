/-
  CanonNet in the program.
-/
import Derived.Test.YtpkddaapffamiaaCanon
import Derived.Test.YtpkddaapffamiaaGNet
import Derived.Deep.RegionLaw
namespace Go.Proofs.Ytpkddaapffamiaa
open Go.RowKit

/-- 'append(v, x)' of one wire, as a step of a region that draws. -/
theorem step_append_wire {ops : Array Oper} {o : Oper} {a : Act} {K : Act → World → Prop} {Q : Exit → Act → World → Prop} {E : Prop} {u1 u2 u3 : Int} (W wr : World) (hW : W = wr.alloc (.cells #[.int .i64 u1, .int .i64 u2, .int .i64 u3] 80) ∨ W = (wr.alloc (.cells #[.int .i64 u1, .int .i64 u2, .int .i64 u3] 80)).drew) (hgd : o.guard = none) (s x : Operand)
    (ho : o.op = .call { callee := .builtin .append, args := #[s, x], argTypes := #[23, 23] })
    (base : Nat) (v : Value) (ws : List W3) (hs : a.eval s = v) (hown : wr.ownsRow base 80 3 v ws.length (cellsW ws))
    {b1 : Nat} (hx : a.eval x = .slice (some ⟨b1, 0, none⟩) 1 1) (hb1 : b1 = wr.heap.size) (hn : ws.length + 1 ≤ 1099511627776) (hbase : base ≤ wr.heap.size)
    (h : ∀ v' w', w'.ownsRow base 80 3 v' (ws ++ [(u1, u2, u3)]).length (cellsW (ws ++ [(u1, u2, u3)])) → wr.heap.size ≤ w'.heap.size → wr.grownBy w' v.ownBlock → K (a.put o.dst v') w') :
    if Region.wanted o (yielded ops a.tmps) = true then Oper.wp Try.prog o a W K Q else E := by
  subst hb1
  obtain ⟨i0, hi, hz0, hz1, hz2⟩ := info_parts Try.infoWireB
  have hS : W.heap.size = wr.heap.size + 1 := by rcases hW with rfl | rfl <;> simp
  have ho2 : W.ownsRow base 80 3 v ws.length (cellsW ws) := by
    rcases hW with rfl | rfl
    · exact hown.alloc _
    · exact hown.alloc _
  have hcs : ∀ j u, [Value.int .i64 u1, .int .i64 u2, .int .i64 u3][j]? = some u → W.cell? ((⟨wr.heap.size, 0, none⟩ : Addr).add j) = some u := by
    rcases hW with rfl | rfl
    · exact three_new _ _ _ _ _
    · exact three_new _ _ _ _ _
  have hg0 : wr.grownBy W v.ownBlock := by
    rcases hW with rfl | rfl
    · exact World.grownBy_alloc _ _ _
    · exact ⟨rfl, rfl, rfl, by simp, fun k hk _ => heap_alloc_old _ _ hk⟩
  refine step_append_lies W hgd s x 23 ho base 80 i0 (.agg #[.int .i64 0, .int .i64 0, .int .i64 0]) 3 24 Try.underlying23 hi hz0 hz1 hz2 rfl (by decide) v ws.length (cellsW ws) hs ho2 ⟨wr.heap.size, 0, none⟩ 1 1 [.int .i64 u1, .int .i64 u2, .int .i64 u3] hx rfl hcs (by simp [Value.oneCell']) (by omega) (by unfold maxLen; omega) (by omega) (by omega) (wr.heap.size + 1) hS ?_
  intro g cap w' h1 h2 _ _
  have h3 := h2.size
  refine h _ w' (by rw [cellsW_snoc, List.length_append]; exact h1) (by omega) (grown_trans hg0 h2)
theorem box3_mk {w : World} {g : Nat} {a b c : Value} (h0 : w.cell? ⟨g, 0, none⟩ = some a) (h1 : w.cell? ⟨g, 1, none⟩ = some b) (h2 : w.cell? ⟨g, 2, none⟩ = some c) (h3 : g < w.heap.size) : w.cell? ⟨g, 0, none⟩ = some a ∧ w.cell? ⟨g, 1, none⟩ = some b ∧ w.cell? ⟨g, 2, none⟩ = some c ∧ g < w.heap.size := ⟨h0, h1, h2, h3⟩
theorem mark_below' {w w' : World} {row : Option Nat} (h : w.grownBy w' row) {lo : Nat} (hr : ∀ k, row = some k → lo ≤ k) (hl : lo ≤ w.heap.size) : Below lo w w' :=
  (Below.refl lo w).grown h hl hr
set_option maxRecDepth 4000 in
set_option maxHeartbeats 12800000 in
theorem impl_divided (n e s : Int) (v : Value) (ws : List W3) (w : World) (hr : ReadsW w v ws) (hw : WiresB ws) (s1 : 1 ≤ s) (s2 : s ≤ 1000000000000) (hlen : ws.length ≤ 1048576) :
    Calls Try.prog 138 #[.agg #[.int .i64 n, .int .i64 e, .int .i64 s, v]] w fun en w' => ∃ p c, en = .returned (.agg #[.int .i64 n, .int .i64 e, .int .i64 (s.tdiv (gAll s ws)), .slice p ws.length c]) ∧ w'.ownsRow w.heap.size 80 3 (.slice p ws.length c) ws.length (cellsW (ws.map (divW (gAll s ws)))) ∧ Below w.heap.size w w' := by
  have HGR := Lib.hid (gAll_range (ws := ws) hw s1 s2)
  obtain ⟨hm, hr1⟩ := hr
  rcases hr1 with ⟨hx, p, cap, rfl⟩ | ⟨g0, o, cap, rfl, hc⟩
  · subst hx
    have hgr := HGR.out 0 (Nat.zero_le _)
    have hGs : gAll s [] = s := rfl
    have HGS := Lib.hid hGs
    obtain ⟨T1, T2⟩ := tdiv_range (x := s) (g := s) (m := 1000000000000) (by omega) s2 s1
    have hG0 : (s == 0) = false := by simp; omega
    have hG1 : ¬ s = 0 := by omega
    have hWR : IntKind.i64.wrap 1 = 1 := by decide
    have hss : s.tdiv s = 1 := Int.tdiv_self hG1
    have hS0 : ((w.alloc (.cells #[.int .i64 n, .int .i64 e, .int .i64 s, .slice p 0 cap] 25)).alloc (.cells #[.int .i64 0, .int .i64 0, .int .i64 0, .slice none 0 0] 25)).drew.cell? ⟨w.heap.size, 0, none⟩ = some (.int .i64 n) ∧ ((w.alloc (.cells #[.int .i64 n, .int .i64 e, .int .i64 s, .slice p 0 cap] 25)).alloc (.cells #[.int .i64 0, .int .i64 0, .int .i64 0, .slice none 0 0] 25)).drew.cell? ⟨w.heap.size, 1, none⟩ = some (.int .i64 e) ∧ ((w.alloc (.cells #[.int .i64 n, .int .i64 e, .int .i64 s, .slice p 0 cap] 25)).alloc (.cells #[.int .i64 0, .int .i64 0, .int .i64 0, .slice none 0 0] 25)).drew.cell? ⟨w.heap.size, 2, none⟩ = some (.int .i64 s) ∧ w.heap.size < ((w.alloc (.cells #[.int .i64 n, .int .i64 e, .int .i64 s, .slice p 0 cap] 25)).alloc (.cells #[.int .i64 0, .int .i64 0, .int .i64 0, .slice none 0 0] 25)).drew.heap.size := ⟨by simp [go_sem], by simp [go_sem], by simp [go_sem], by simp; omega⟩
    have HSS := Lib.hid hss
    clear hgr hGs hw hss
    go_enter Try.func138, Try.ntmps138
    go_wp2
    refine wp_loop_rounds 1 ?_
    rw [rounds_succ]
    go_wp2
    go_region_held3 (fun w' => w'.cell? ⟨w.heap.size, 0, none⟩ = some (.int .i64 n) ∧ w'.cell? ⟨w.heap.size, 1, none⟩ = some (.int .i64 e) ∧ w'.cell? ⟨w.heap.size, 2, none⟩ = some (.int .i64 s) ∧ w.heap.size < w'.heap.size)
      (first | exact hS0 | exact box3_alloc hS0 | exact box3_set (by omega) hS0 | go_keep)
      (fail)
    clear hS0
    go_wp2
    refine wp_loop_rounds 1 ?_
    rw [rounds_succ]
    go_wp2
    exact bodyPost_ret (v := .agg #[.int .i64 n, .int .i64 e, .int .i64 1, .slice none 0 0]) (by simp (maxDischargeDepth := 8) [results, Try.results138, go_sem, *]) rfl ⟨none, 0, by rw [HGS.out, HSS.out], World.ownsRow_nil _ _ _ _, by (repeat (first | exact Below.refl _ _ | (refine Below.setCell ?_ (by (first | exact Nat.le_refl _ | omega | (simp <;> omega) | simp)) _) | (refine Below.alloc ?_ (by (first | exact Nat.le_refl _ | omega | (simp <;> omega) | simp)) _) | (refine below_draws ?_ _)))⟩
  have HC := Lib.hid hc; clear hc
  have HW := Lib.hid hw; clear hw
  go_enter Try.func138, Try.ntmps138
  go_wp2
  go_loopw [3, 14] (fun q i wr => ∃ k : Nat, k ≤ ws.length ∧ i = .int .i64 k ∧ q = .int .i64 (gAll s (ws.take k)) ∧ Below (w.heap.size + 2) ((w.alloc (.cells #[.int .i64 n, .int .i64 e, .int .i64 s, .slice (some ⟨g0, o, none⟩) ws.length cap] 25)).alloc (.cells #[.int .i64 0, .int .i64 0, .int .i64 0, .slice none 0 0] 25)) wr) (fun _ i _ => ws.length - (intOf i).toNat)
  case atStart => exact ⟨0, Nat.zero_le _, rfl, rfl, Below.refl _ _⟩
  case round =>
    obtain ⟨k, hk, rfl, rfl, hB⟩ := hrel
    have hS := hB.size
    simp at hS
    have hBw : Below w.heap.size w wr := by (repeat (first | exact Below.refl _ _ | (refine Below.setCell ?_ (by (first | exact Nat.le_refl _ | omega | (simp <;> omega) | simp)) _) | (refine Below.alloc ?_ (by (first | exact Nat.le_refl _ | omega | (simp <;> omega) | simp)) _) | (refine below_draws ?_ _) | exact hB | (refine Below.trans ?_ (Below.mono hB (by (first | exact Nat.le_refl _ | omega | (simp <;> omega) | simp))))))
    by_cases hlt : k < ws.length
    · obtain ⟨c0, c1, c2⟩ := HC.out k hlt
      have hg : g0 < w.heap.size := World.block_lt_of_cell? w _ c0
      rw [← hBw.cell (p := ⟨g0, o + k * 3, none⟩) hg] at c0
      rw [← hBw.cell (p := ⟨g0, o + k * 3 + 1, none⟩) hg] at c1
      rw [← hBw.cell (p := ⟨g0, o + k * 3 + 2, none⟩) hg] at c2
      have hne : g0 ≠ wr.heap.size := by omega
      have hgr := HGR.out k (by omega)
      have hv := HW.out k hlt
      have hsn := gAll_snoc s ws k hlt
      generalize gAll s (ws.take k) = G at *
      obtain ⟨G1, G2⟩ := hgr
      obtain ⟨v3, v4⟩ := hv
      have HSN := Lib.hid hsn; clear hsn
      go_wp2_with fail
      refine (impl_gcd _ _ _ (by omega) (by omega) (by omega) (by omega)).mono ?_
      rintro en w1 ⟨rfl, B1⟩
      obtain ⟨hc1, hf1⟩ := bcell B1
      have S1 := B1.size
      try simp at S1
      try (have _L1wr : wr.heap.size < w1.heap.size := by omega)
      have _M1wr : wr.heap.size ≤ w1.heap.size := by omega
      try (have _P1wr_1 : wr.heap.size + 1 < w1.heap.size := by omega)
      try (have _P1wr_2 : wr.heap.size + 1 + 1 < w1.heap.size := by omega)
      try (have _P1wr_3 : wr.heap.size + 1 + 1 + 1 < w1.heap.size := by omega)
      go_wp2
      go_roundw
      case rel => exact ⟨k + 1, by omega, by go_num, by rw [HSN.out], by (repeat (first | exact Below.refl _ _ | (refine Below.setCell ?_ (by (first | exact Nat.le_refl _ | omega | (simp <;> omega) | simp)) _) | (refine Below.alloc ?_ (by (first | exact Nat.le_refl _ | omega | (simp <;> omega) | simp)) _) | (refine below_draws ?_ _) | exact hB | (refine Below.trans ?_ (Below.mono hB (by (first | exact Nat.le_refl _ | omega | (simp <;> omega) | simp)))) | exact B1 | (refine Below.trans ?_ (Below.mono B1 (by (first | exact Nat.le_refl _ | omega | (simp <;> omega) | simp))))))⟩
      case measure => simp [intOf]; omega
    · obtain rfl : k = ws.length := by omega
      have hgr := HGR.out ws.length (Nat.le_refl _)
      rw [List.take_length] at hgr ⊢
      generalize hGe : gAll s ws = G at *
      have HGE := Lib.hid hGe; clear hGe
      rename World => wp
      obtain ⟨G1, G2⟩ := hgr
      obtain ⟨T1, T2⟩ := tdiv_range (x := s) (g := G) (m := 1000000000000) (by omega) s2 G1
      have hG0 : (G == 0) = false := by simp; omega
      have hG1 : ¬ G = 0 := by omega
      have hG2 : (G == -1) = false := by simp; omega
      have hWR : IntKind.i64.wrap (s.tdiv G) = s.tdiv G := IntWalk.i64_in _ (by omega)
      have b0 : wp.cell? ⟨w.heap.size, 0, none⟩ = some (.int .i64 n) := by rw [hB.cell (p := ⟨w.heap.size, 0, none⟩) (show w.heap.size < w.heap.size + 2 by omega)]; simp [go_sem]
      have b1 : wp.cell? ⟨w.heap.size, 1, none⟩ = some (.int .i64 e) := by rw [hB.cell (p := ⟨w.heap.size, 1, none⟩) (show w.heap.size < w.heap.size + 2 by omega)]; simp [go_sem]
      have b2 : wp.cell? ⟨w.heap.size, 2, none⟩ = some (.int .i64 s) := by rw [hB.cell (p := ⟨w.heap.size, 2, none⟩) (show w.heap.size < w.heap.size + 2 by omega)]; simp [go_sem]
      have b3 : wp.cell? ⟨w.heap.size, 3, none⟩ = some (.slice (some ⟨g0, o, none⟩) ws.length cap) := by rw [hB.cell (p := ⟨w.heap.size, 3, none⟩) (show w.heap.size < w.heap.size + 2 by omega)]; simp [go_sem]
      have hne : w.heap.size ≠ wp.heap.size := by omega
      have hne2 : wp.heap.size ≠ w.heap.size := by omega
      have hS0 : wp.drew.cell? ⟨w.heap.size, 0, none⟩ = some (.int .i64 n) ∧ wp.drew.cell? ⟨w.heap.size, 1, none⟩ = some (.int .i64 e) ∧ wp.drew.cell? ⟨w.heap.size, 2, none⟩ = some (.int .i64 s) ∧ w.heap.size < wp.drew.heap.size := ⟨b0, b1, b2, by show _ < wp.heap.size; omega⟩
      go_wp2
      go_region_held3 (fun w' => w'.cell? ⟨w.heap.size, 0, none⟩ = some (.int .i64 n) ∧ w'.cell? ⟨w.heap.size, 1, none⟩ = some (.int .i64 e) ∧ w'.cell? ⟨w.heap.size, 2, none⟩ = some (.int .i64 s) ∧ w.heap.size < w'.heap.size)
        (first | exact hS0 | exact box3_alloc hS0 | exact box3_set (by omega) hS0 | go_keep)
        (fail)
      have hBd : Below (w.heap.size + 2) ((w.alloc (.cells #[.int .i64 n, .int .i64 e, .int .i64 s, .slice (some ⟨g0, o, none⟩) ws.length cap] 25)).alloc (.cells #[.int .i64 0, .int .i64 0, .int .i64 0, .slice none 0 0] 25)) ((wp.alloc (.cells #[.int .i64 n, .int .i64 e, .int .i64 (s.tdiv G), .slice none 0 0] 25)).drew) := by (repeat (first | exact Below.refl _ _ | (refine Below.setCell ?_ (by (first | exact Nat.le_refl _ | omega | (simp <;> omega) | simp)) _) | (refine Below.alloc ?_ (by (first | exact Nat.le_refl _ | omega | (simp <;> omega) | simp)) _) | (refine below_draws ?_ _) | exact hB | (refine Below.trans ?_ (Below.mono hB (by (first | exact Nat.le_refl _ | omega | (simp <;> omega) | simp))))))
      have b3' : (wp.alloc (.cells #[.int .i64 n, .int .i64 e, .int .i64 (s.tdiv G), .slice none 0 0] 25)).cell? ⟨w.heap.size, 3, none⟩ = some (.slice (some ⟨g0, o, none⟩) ws.length cap) := (World.cell?_alloc_old wp _ ⟨w.heap.size, 3, none⟩ hne).trans b3
      clear hS0 b0 b1 b2
      go_wp2
      go_loopw [35] (fun i wi => ∃ (k : Nat) (v : Value) (os : List W3), k ≤ ws.length ∧ i = .int .i64 k ∧ Hid (os = (ws.take k).map (divW G)) ∧ wi.cell? ⟨wp.heap.size, 0, none⟩ = some (.int .i64 n) ∧ wi.cell? ⟨wp.heap.size, 1, none⟩ = some (.int .i64 e) ∧ wi.cell? ⟨wp.heap.size, 2, none⟩ = some (.int .i64 (s.tdiv G)) ∧ wi.cell? ⟨wp.heap.size, 3, none⟩ = some v ∧ wi.frozen? ⟨wp.heap.size, 3, none⟩ = false ∧ wi.ownsRow (wp.heap.size + 1) 80 3 v os.length (cellsW os) ∧ wp.heap.size < wi.heap.size ∧ Hid (Below (w.heap.size + 2) ((w.alloc (.cells #[.int .i64 n, .int .i64 e, .int .i64 s, .slice (some ⟨g0, o, none⟩) ws.length cap] 25)).alloc (.cells #[.int .i64 0, .int .i64 0, .int .i64 0, .slice none 0 0] 25)) wi)) (fun i _ => ws.length - (intOf i).toNat)
      case atStart => exact ⟨0, _, [], Nat.zero_le _, rfl, rfl, by simp, by simp, by simp, by simp, by simp, World.ownsRow_nil _ _ _ _, by simp, Lib.hid hBd⟩
      case round =>
        clear hBd hB hBw
        obtain ⟨k, v, os, hk, rfl, hos, b0, b1, b2, b3, f3, hown, hsz, hB⟩ := hrel
        have hosl : os.length ≤ 1048576 := by rw [hos.out]; simp; omega
        have hBw : Below w.heap.size w wr := by have hB := hB.out; (repeat (first | exact Below.refl _ _ | (refine Below.setCell ?_ (by (first | exact Nat.le_refl _ | omega | (simp <;> omega) | simp)) _) | (refine Below.alloc ?_ (by (first | exact Nat.le_refl _ | omega | (simp <;> omega) | simp)) _) | (refine below_draws ?_ _) | exact hB | (refine Below.trans ?_ (Below.mono hB (by (first | exact Nat.le_refl _ | omega | (simp <;> omega) | simp))))))
        have hSi := hB.out.size
        simp at hSi
        obtain ⟨pv, cv, rfl⟩ := owns_shape hown
        by_cases hlt : k < ws.length
        · obtain ⟨c0, c1, c2⟩ := HC.out k hlt
          have hg : g0 < w.heap.size := World.block_lt_of_cell? w _ c0
          rw [← hBw.cell (p := ⟨g0, o + k * 3, none⟩) hg] at c0
          rw [← hBw.cell (p := ⟨g0, o + k * 3 + 1, none⟩) hg] at c1
          rw [← hBw.cell (p := ⟨g0, o + k * 3 + 2, none⟩) hg] at c2
          have hne0 : g0 ≠ wr.heap.size := by omega
          have hneB : wp.heap.size ≠ wr.heap.size := by omega
          obtain ⟨v3, v4⟩ := HW.out k hlt
          obtain ⟨Q1, Q2⟩ := tdiv_range (x := ws[k].2.2) (g := G) (m := 1000000000000) (by omega) v4 G1
          have hnb := fun b hb => (hown.lt b hb).1
          have HNB := Lib.hid hnb
          have HSN := Lib.hid (divs_snoc G ws k hlt)
          clear hnb
          have hQW : IntKind.i64.wrap (ws[k].2.2.tdiv G) = ws[k].2.2.tdiv G := IntWalk.i64_in _ (by omega)
          have HLT : Hid (∀ b, (Value.slice pv os.length cv).ownBlock = some b → b < wr.heap.size) := Lib.hid fun b hb => (hown.lt b hb).2
          have hown' := owns_later hown (show Below wr.heap.size wr (wr.alloc (.cells #[.int .i64 ws[k].1, .int .i64 ws[k].2.1, .int .i64 ws[k].2.2] 80)) by (repeat (first | exact Below.refl _ _ | (refine Below.setCell ?_ (by (first | exact Nat.le_refl _ | omega | (simp <;> omega) | simp)) _) | (refine Below.alloc ?_ (by (first | exact Nat.le_refl _ | omega | (simp <;> omega) | simp)) _) | (refine below_draws ?_ _))))
          have d0 := (World.cell?_alloc_old wr (.cells #[.int .i64 ws[k].1, .int .i64 ws[k].2.1, .int .i64 ws[k].2.2] 80) ⟨wp.heap.size, 0, none⟩ hneB).trans b0
          have d1 := (World.cell?_alloc_old wr (.cells #[.int .i64 ws[k].1, .int .i64 ws[k].2.1, .int .i64 ws[k].2.2] 80) ⟨wp.heap.size, 1, none⟩ hneB).trans b1
          have d2 := (World.cell?_alloc_old wr (.cells #[.int .i64 ws[k].1, .int .i64 ws[k].2.1, .int .i64 ws[k].2.2] 80) ⟨wp.heap.size, 2, none⟩ hneB).trans b2
          have d3 := (World.cell?_alloc_old wr (.cells #[.int .i64 ws[k].1, .int .i64 ws[k].2.1, .int .i64 ws[k].2.2] 80) ⟨wp.heap.size, 3, none⟩ hneB).trans b3
          have g3 : (wr.alloc (.cells #[.int .i64 ws[k].1, .int .i64 ws[k].2.1, .int .i64 ws[k].2.2] 80)).frozen? ⟨wp.heap.size, 3, none⟩ = false := by simp [go_sem, *]
          go_wp2
          go_region_law (first | ((refine step_append_wire _ (wr.alloc (.cells #[.int .i64 ws[k].1, .int .i64 ws[k].2.1, .int .i64 ws[k].2.2] 80)) (by first | exact Or.inl rfl | exact Or.inr rfl) (by rfl) _ _ (by rfl) (wp.heap.size + 1) _ os (by rfl) hown' (by rfl) (by simp) (by omega) (by simp; omega) ?_); intro v' w1 hown1 hsz1 hG1; obtain ⟨p1, cv1, rfl⟩ := owns_shape hown1; have fc := after_append hG1 wp.heap.size (by simp; omega) (by intro e; have := HNB.out _ e.symm; omega); have e0 := fc.1 0 _ d0; have e1 := fc.1 1 _ d1; have e2 := fc.1 2 _ d2; have e3 := fc.1 3 _ d3; have e4 := fc.2 3 g3; have hB1 := mark_below' hG1 (fun k hk => (hown.lt k hk).1) (by simp; omega); clear fc hG1; simp at hsz1))
          all_goals
            go_wp2
            refine ⟨⟨k + 1, .slice p1 (os.length + 1) cv1, os ++ [(ws[k].1, ws[k].2.1, ws[k].2.2.tdiv G)], by omega, by go_num, Lib.hid (by rw [HSN.out, hos.out]; rfl), ?_, ?_, ?_, ?_, ?_, ?_, ?_, Lib.hid ?_⟩, ?_⟩
            · simp [go_sem, *]
            · simp [go_sem, *]
            · simp [go_sem, *]
            · simp [go_sem, *]
            · simp [go_sem, *]
            · rw [show os.length + 1 = (os ++ [(ws[k].1, ws[k].2.1, ws[k].2.2.tdiv G)]).length by simp]
              ((repeat (refine ownsRow_setCell_below ?_ ?_ _; rotate_left; focus (first | omega | (simp; done) | (simp; omega)))); with_reducible exact hown1)
            · simp; omega
            · have hB := hB.out; (repeat (first | exact Below.refl _ _ | (refine Below.setCell ?_ (by (first | exact Nat.le_refl _ | omega | (simp <;> omega) | simp)) _) | (refine Below.alloc ?_ (by (first | exact Nat.le_refl _ | omega | (simp <;> omega) | simp)) _) | (refine below_draws ?_ _) | exact hB | (refine Below.trans ?_ (Below.mono hB (by (first | exact Nat.le_refl _ | omega | (simp <;> omega) | simp)))) | exact hB1 | (refine Below.trans ?_ (Below.mono hB1 (by (first | exact Nat.le_refl _ | omega | (simp <;> omega) | simp))))))
            · simp [intOf]; omega
        · obtain rfl : k = ws.length := by omega
          rw [List.take_length] at hos
          obtain rfl := hos.out
          have hol : (ws.map (divW G)).length = ws.length := by simp
          rw [hol] at b3 hown
          clear hol
          generalize hgo : ws.map (divW G) = os at *
          have HGO := Lib.hid hgo; clear hgo
          have r0 : wr.cell? ⟨w.heap.size + 1, 0, none⟩ = some (.int .i64 0) := by rw [hB.out.cell (p := ⟨w.heap.size + 1, 0, none⟩) (show w.heap.size + 1 < w.heap.size + 2 by omega)]; simp [go_sem]
          have q0 : wr.frozen? ⟨w.heap.size + 1, 0, none⟩ = false := by rw [hB.out.frozen (p := ⟨w.heap.size + 1, 0, none⟩) (show w.heap.size + 1 < w.heap.size + 2 by omega)]; simp [go_sem]
          have r1 : wr.cell? ⟨w.heap.size + 1, 1, none⟩ = some (.int .i64 0) := by rw [hB.out.cell (p := ⟨w.heap.size + 1, 1, none⟩) (show w.heap.size + 1 < w.heap.size + 2 by omega)]; simp [go_sem]
          have q1 : wr.frozen? ⟨w.heap.size + 1, 1, none⟩ = false := by rw [hB.out.frozen (p := ⟨w.heap.size + 1, 1, none⟩) (show w.heap.size + 1 < w.heap.size + 2 by omega)]; simp [go_sem]
          have r2 : wr.cell? ⟨w.heap.size + 1, 2, none⟩ = some (.int .i64 0) := by rw [hB.out.cell (p := ⟨w.heap.size + 1, 2, none⟩) (show w.heap.size + 1 < w.heap.size + 2 by omega)]; simp [go_sem]
          have q2 : wr.frozen? ⟨w.heap.size + 1, 2, none⟩ = false := by rw [hB.out.frozen (p := ⟨w.heap.size + 1, 2, none⟩) (show w.heap.size + 1 < w.heap.size + 2 by omega)]; simp [go_sem]
          have r3 : wr.cell? ⟨w.heap.size + 1, 3, none⟩ = some (.slice none 0 0) := by rw [hB.out.cell (p := ⟨w.heap.size + 1, 3, none⟩) (show w.heap.size + 1 < w.heap.size + 2 by omega)]; simp [go_sem]
          have q3 : wr.frozen? ⟨w.heap.size + 1, 3, none⟩ = false := by rw [hB.out.frozen (p := ⟨w.heap.size + 1, 3, none⟩) (show w.heap.size + 1 < w.heap.size + 2 by omega)]; simp [go_sem]
          have hneB : wp.heap.size ≠ w.heap.size + 1 := by omega
          have HBw := Lib.hid hBw
          have HOW := Lib.hid hown
          clear hown hBw hos
          go_wp2
          exact bodyPost_ret (v := .agg #[.int .i64 n, .int .i64 e, .int .i64 (s.tdiv G), .slice pv ws.length cv]) (by simp (maxDischargeDepth := 8) [results, Try.results138, go_sem, *]) rfl ⟨pv, cv, by rw [HGE.out], by rw [HGE.out, HGO.out]; refine owns_mono (base := wp.heap.size + 1) ?_ (by omega); have o1 := HOW.out; ((repeat (refine ownsRow_setCell_below ?_ ?_ _; rotate_left; focus (first | omega | (simp; done) | (simp; omega)))); with_reducible exact o1), by have hBw := HBw.out; (repeat (first | exact Below.refl _ _ | (refine Below.setCell ?_ (by (first | exact Nat.le_refl _ | omega | (simp <;> omega) | simp)) _) | (refine Below.alloc ?_ (by (first | exact Nat.le_refl _ | omega | (simp <;> omega) | simp)) _) | (refine below_draws ?_ _) | exact hBw | (refine Below.trans ?_ (Below.mono hBw (by (first | exact Nat.le_refl _ | omega | (simp <;> omega) | simp))))))⟩

end Go.Proofs.Ytpkddaapffamiaa
