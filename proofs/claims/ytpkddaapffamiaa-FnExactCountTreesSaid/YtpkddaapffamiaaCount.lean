/-
  CountTrees in the model and in the program.
-/
import Derived.Test.YtpkddaapffamiaaForestImpl
import Derived.Test.YtpkddaapffamiaaGForest
import Derived.Test.YtpkddaapffamiaaCanon
namespace Go.Proofs.Ytpkddaapffamiaa
open Go.RowKit

def one1 (e : W3) : W3 := (e.1, e.2.1, 1)
def ones (ws : List W3) : List W3 := ws.map one1
theorem ones_length (ws : List W3) : (ones ws).length = ws.length := by simp [ones]
theorem ones_snoc (ws : List W3) (k : Nat) (h : k < ws.length) : ones (ws.take (k + 1)) = ones (ws.take k) ++ [(ws[k].1, ws[k].2.1, 1)] := by
  unfold ones; rw [List.take_succ_eq_append_getElem h, List.map_append]; rfl
theorem ones_net {n e s : Int} {ws : List W3} (h : netB n e s ws = true) (s' : Int) (h1 : 1 ≤ s') (h2 : s' ≤ 1000) : netB n e s' (ones ws) = true := by
  obtain ⟨⟨a1, a2, a3, a4, a5, a6⟩, hw, hc⟩ := netB_iff.1 h
  refine netB_true ⟨⟨a1, a2, a3, a4, h1, h2⟩, ⟨fun k hk => ?_, fun k hk => ?_⟩, fun v hv0 hv1 S h0 hS => hc v hv0 hv1 S h0 (fun w hw' => ?_)⟩
  · have hk' : k < ws.length := by rwa [ones_length] at hk
    obtain ⟨v1, v2, v3, v4, v5⟩ := hw.1 k hk'
    simp only [ones, List.getElem_map, one1]
    exact ⟨v1, v2, v3, by show (1 : Int) ≤ 1; decide, by show (1 : Int) ≤ 200; decide⟩
  · have hk' : k + 1 < ws.length := by rwa [ones_length] at hk
    have := hw.2 k hk'
    simp only [ones, List.getElem_map, one1]
    exact this
  · exact hS (one1 w) (List.mem_map.2 ⟨w, hw', rfl⟩)
noncomputable def countR (n e s : Int) (ws : List W3) : Int := if netB n e s ws = true then treeR n e s (ones ws) else 0
theorem count_spec {n e s : Int} {ws : List W3} (h : netB n e s ws = true) : countR n e s ws = treeR n e 1 (ones ws) := by
  obtain ⟨⟨a1, a2, a3, a4, a5, a6⟩, hw, hc⟩ := netB_iff.1 h
  unfold countR treeR
  rw [if_pos h, if_pos (ones_net h s a5 a6), if_pos (ones_net h 1 (by omega) (by omega))]
theorem wires_few {n : Int} {ws : List W3} (hw : WiresV n ws) (hn : n ≤ 5) : ws.length ≤ 25 := by
  obtain ⟨N, hN⟩ : ∃ N : Nat, N = n.toNat := ⟨_, rfl⟩
  have hnd : (ws.map fun e => e.1 * 5 + e.2.1).Nodup := by
    rw [List.nodup_iff_pairwise_ne, List.pairwise_map]
    refine (pairW hw).imp_of_mem fun {a b} ha hb hab => ?_
    obtain ⟨v1, v2, v3, v4, v5⟩ := hw.mem ha
    obtain ⟨u1, u2, u3, u4, u5⟩ := hw.mem hb
    unfold wLt at hab
    omega
  have := queue_le (n := 25) hnd (fun v hv => by
    obtain ⟨e, he, rfl⟩ := List.mem_map.1 hv
    obtain ⟨v1, v2, v3, v4, v5⟩ := hw.mem he
    omega)
  simpa using this
theorem ReadsW.at3 {w : World} {p : Option Addr} {n c : Nat} {ws : List W3} (h : ReadsW w (.slice p n c) ws) : ∀ k, (h : k < ws.length) → ∃ g o, p = some ⟨g, o, none⟩ ∧ w.cell? ⟨g, o + k * 3, none⟩ = some (.int .i64 ws[k].1) ∧ w.cell? ⟨g, o + k * 3 + 1, none⟩ = some (.int .i64 ws[k].2.1) ∧ w.cell? ⟨g, o + k * 3 + 2, none⟩ = some (.int .i64 ws[k].2.2) := fun k hk => by
  rcases h.2 with ⟨hx, _⟩ | ⟨g, o, cap, hv, hc⟩
  · subst hx; simp at hk
  · simp only [Value.slice.injEq] at hv
    exact ⟨g, o, hv.1, hc k hk⟩
theorem append_wireC {ops : Array Oper} {rest : List Oper} {o : Oper} {a : Act} {Q : Exit → Act → World → Prop} {wr w0 : World} {s x : Operand} {base : Nat} {v : Value} {ws : List W3} {u1 u2 u3 : Int} {b1 : Nat} (hown : wr.ownsRow base 80 3 v ws.length (cellsW ws)) (hn : ws.length + 1 ≤ 1099511627776) (hbase : base ≤ wr.heap.size) (hB : Below base w0 wr)
    (hgd : o.guard = none) (ho : o.op = .call { callee := .builtin .append, args := #[s, x], argTypes := #[23, 23] }) (hs : a.eval s = v) (hx : a.eval x = .slice (some ⟨b1, 0, none⟩) 1 1) (hb1 : b1 = wr.heap.size)
    (h : ∀ v' w', w'.ownsRow base 80 3 v' (ws ++ [(u1, u2, u3)]).length (cellsW (ws ++ [(u1, u2, u3)])) → wr.heap.size ≤ w'.heap.size → Below base w0 w' → wr.grownBy w' v.ownBlock → wpList Try.prog ops Q rest (a.put o.dst v') w') :
    wpList Try.prog ops Q (o :: rest) a (wr.alloc (.cells #[.int .i64 u1, .int .i64 u2, .int .i64 u3] 80)) :=
  append_wire wr hgd s x ho base w0 v ws (u1, u2, u3) hs hown hx hb1 hn hbase hB h

set_option maxRecDepth 8000 in
set_option maxHeartbeats 12800000 in
theorem spec_count (n e s : Int) (v : Value) (ws : List W3) (w : World) (hr : ReadsW w v ws) :
    Calls Try.prog 36 #[.agg #[.int .i64 n, .int .i64 e, .int .i64 s, v]] w fun en w' => en = .returned (.int .i64 (countR n e s ws)) ∧ Below w.heap.size w w' := by
  have B0 := (Below.refl w.heap.size w).alloc (Nat.le_refl _) (.cells #[.int .i64 n, .int .i64 e, .int .i64 s, v] 25)
  have hbox := boxN.new w n e s v 25
  have hok := spec_netOk n e s v ws _ (hr.later B0)
  obtain ⟨p, cap, rfl⟩ := hr.shape
  cases hb : netB n e s ws
  · rw [hb] at hok
    have HF : Hid (countR n e s ws = 0) := Lib.hid (by unfold countR; rw [if_neg (by simp [hb])])
    clear hbox
    go_enter Try.func36, Try.ntmps36
    go_wp2_with fail
    refine hok.mono ?_
    rintro en w1 ⟨rfl, B1⟩
    go_wp2
    go_ret
    exact ⟨ret_i (by rw [HF.out]), by (repeat (first | exact Below.refl _ _ | (refine Below.setCell ?_ (by (first | exact Nat.le_refl _ | omega | (simp <;> omega) | simp)) _) | (refine Below.alloc ?_ (by (first | exact Nat.le_refl _ | omega | (simp <;> omega) | simp)) _) | (refine below_draws ?_ _) | exact B1 | (refine Below.trans ?_ (Below.mono B1 (by (first | exact Nat.le_refl _ | omega | (simp <;> omega) | simp))))))⟩
  rw [hb] at hok
  have HF := Lib.hid (count_spec hb)
  obtain ⟨⟨n1, n5, -⟩, hw, -⟩ := netB_iff.1 hb
  have hlen := wires_few hw n5
  clear hb hw
  have HC := Lib.hid hr.at3
  have HW := Lib.hid hr; clear hr
  go_enter Try.func36, Try.ntmps36
  go_wp2_with fail
  refine hok.mono ?_
  rintro en w1 ⟨rfl, B1⟩
  have S1 := B1.size
  simp at S1
  have hb1 := hbox.later B1
  obtain ⟨x0, x1, x2, x3⟩ := id hb1
  have C1 : Below w.heap.size w w1 := by (repeat (first | exact Below.refl _ _ | (refine Below.setCell ?_ (by (first | exact Nat.le_refl _ | omega | (simp <;> omega) | simp)) _) | (refine Below.alloc ?_ (by (first | exact Nat.le_refl _ | omega | (simp <;> omega) | simp)) _) | (refine below_draws ?_ _) | exact B1 | (refine Below.trans ?_ (Below.mono B1 (by (first | exact Nat.le_refl _ | omega | (simp <;> omega) | simp))))))
  clear hok B1 hbox
  have x3a := fun o => (World.cell?_alloc_old w1 o ⟨w.heap.size, 3, none⟩ (Nat.ne_of_lt hb1.lt)).trans x3
  have HX1 := Lib.hid hb1; clear hb1
  have hlt1 := HX1.out.lt
  go_wp2
  go_loopw [17] (fun i wr => ∃ (k : Nat) (v : Value), k ≤ ws.length ∧ i = .int .i64 k ∧ Hid (boxN wr w1.heap.size n e 1 v) ∧ Hid (wr.frozen? ⟨w1.heap.size, 3, none⟩ = false) ∧ Hid (wr.ownsRow (w1.heap.size + 1) 80 3 v (ones (ws.take k)).length (cellsW (ones (ws.take k)))) ∧ Hid (Below w1.heap.size w1 wr) ∧ w1.heap.size < wr.heap.size) (fun i _ => ws.length - (intOf i).toNat)
  case atStart => exact ⟨0, _, Nat.zero_le _, rfl, Lib.hid (boxN.new _ _ _ _ _ _), Lib.hid (by simp [go_sem]), Lib.hid (World.ownsRow_nil _ _ _ _), Lib.hid (by (repeat (first | exact Below.refl _ _ | (refine Below.setCell ?_ (by (first | exact Nat.le_refl _ | omega | (simp <;> omega) | simp)) _) | (refine Below.alloc ?_ (by (first | exact Nat.le_refl _ | omega | (simp <;> omega) | simp)) _) | (refine below_draws ?_ _)))), by simp⟩
  case round =>
    clear x0 x1 x2 x3 x3a
    obtain ⟨k, v, hk, rfl, hX, hFz, hown, hB, hsz⟩ := hrel
    have hBw : Below w.heap.size w wr := C1.trans (hB.out.mono (by omega))
    by_cases hlt : k < ws.length
    · obtain ⟨g, o, rfl, c0, c1, c2⟩ := HC.out k hlt
      have hg := World.block_lt_of_cell? w _ c0
      rw [← hBw.cell (p := ⟨g, o + k * 3, none⟩) hg] at c0
      rw [← hBw.cell (p := ⟨g, o + k * 3 + 1, none⟩) hg] at c1
      rw [← hBw.cell (p := ⟨g, o + k * 3 + 2, none⟩) hg] at c2
      have BA : Below wr.heap.size wr (wr.alloc (.cells #[.int .i64 ws[k].1, .int .i64 ws[k].2.1, .int .i64 ws[k].2.2] 80)) := by (repeat (first | exact Below.refl _ _ | (refine Below.setCell ?_ (by (first | exact Nat.le_refl _ | omega | (simp <;> omega) | simp)) _) | (refine Below.alloc ?_ (by (first | exact Nat.le_refl _ | omega | (simp <;> omega) | simp)) _) | (refine below_draws ?_ _)))
      obtain ⟨y0, y1, y2, y3⟩ := hX.out.later BA
      have own1 := owns_later hown.out BA
      have k1 : (ones (ws.take k)).length + 1 ≤ 1099511627776 := by rw [ones_length, List.length_take]; omega
      have k2 : w1.heap.size + 1 ≤ (wr.alloc (.cells #[.int .i64 ws[k].1, .int .i64 ws[k].2.1, .int .i64 ws[k].2.2] 80)).heap.size := by simp; omega
      have k3 : Below (w1.heap.size + 1) wr (wr.alloc (.cells #[.int .i64 ws[k].1, .int .i64 ws[k].2.1, .int .i64 ws[k].2.2] 80)) := (Below.refl _ _).alloc (by omega) _
      have HSN := Lib.hid (ones_snoc ws k hlt)
      have hne : some w1.heap.size ≠ v.ownBlock := fun h => by have := (own1.lt _ h.symm).1; omega
      have hfz1 : (wr.alloc (.cells #[.int .i64 ws[k].1, .int .i64 ws[k].2.1, .int .i64 ws[k].2.2] 80)).frozen? ⟨w1.heap.size, 3, none⟩ = false := (BA.frozen (p := ⟨w1.heap.size, 3, none⟩) hsz).trans hFz.out
      have Hfz := Lib.hid hfz1; clear hfz1
      have HX2 := Lib.hid (hX.out.later BA)
      clear BA
      go_wp2_with (at_builtin; refine append_wireC own1 k1 k2 k3 (by rfl) (by rfl) (by rfl) (by rfl) (by simp) ?_; intro v' w3 hown3 hsz3 hB3 hG3; obtain ⟨p3, cp3, rfl⟩ := owns_shape hown3; have z0 := hG3.cell HX2.out.1 hne; have z1 := hG3.cell HX2.out.2.1 hne; have z2 := hG3.cell HX2.out.2.2.1 hne; have z3 := hG3.cell HX2.out.2.2.2 hne; have fz3 : w3.frozen? ⟨w1.heap.size, 3, none⟩ = false := (hG3.frozen_far ⟨w1.heap.size, 3, none⟩ (by simp; omega) hne).trans Hfz.out; have HO3 := Lib.hid hown3; clear hown3)
      have hw3 : w1.heap.size < w3.heap.size := by simp at hsz3; omega
      have hBr : Below w1.heap.size w1 w3 := hB.out.trans (hB3.mono (Nat.le_succ _))
      have HBr := Lib.hid hBr
      clear hG3 own1 hB3 hBr y0 y1 y2 y3 c0 c1 c2
      go_wp2
      go_roundw
      case rel =>
        refine ⟨k + 1, .slice p3 ((ones (ws.take k)).length + 1) cp3, by omega, by go_num, Lib.hid ⟨?_, ?_, ?_, ?_⟩, Lib.hid ?_, Lib.hid ?_, Lib.hid (HBr.out.setCell (Nat.le_refl _) _), by simpa using hw3⟩
        · simp [go_sem, *]
        · simp [go_sem, *]
        · simp [go_sem, *]
        · simp [go_sem, *]
        · simp [go_sem, *]
        · rw [HSN.out]
          have o3 := HO3.out
          rw [show (ones (ws.take k)).length + 1 = (ones (ws.take k) ++ [(ws[k].1, ws[k].2.1, 1)]).length by simp]
          ((repeat (refine ownsRow_setCell_below ?_ ?_ _; rotate_left; focus (first | omega | (simp; done) | (simp; omega)))); with_reducible exact o3)
      case measure => simp [intOf]; omega
    · obtain rfl : k = ws.length := by omega
      have hown := hown.out
      rw [List.take_length] at hown
      obtain ⟨y0, y1, y2, y3⟩ := hX.out
      have hro := ReadsW.of_own hown
      go_wp2_with fail
      refine (spec_tree n e 1 _ (ones ws) _ hro).mono ?_
      rintro en w2 ⟨rfl, B2⟩
      go_wp2
      go_ret
      exact ⟨ret_i HF.out.symm, hBw.trans (B2.mono hBw.size)⟩
end Go.Proofs.Ytpkddaapffamiaa
