/-
  CountTrees in the program.
-/
import Derived.Test.YtaececpphdaciaaCount
namespace Go.Proofs.Ytaececpphdaciaa
open Go.RowKit

theorem own_emptyW (w : World) (base : Nat) (hb : base ≤ w.heap.size) : (w.alloc (.cells #[] 29)).ownsRow base 29 3 (.slice (some ⟨w.heap.size, 0, none⟩) 0 0) 0 (cellsW []) :=
  World.ownsRow_lit w #[] 0 hb (Nat.zero_le _) rfl
theorem cellsW_one (ws : List W3) : ∀ u ∈ cellsW ws, u.oneCell' = true := by
  intro u hu
  simp only [cellsW, List.mem_flatMap, cells3] at hu
  obtain ⟨e, _, he⟩ := hu
  simp at he
  rcases he with rfl | rfl | rfl <;> rfl
theorem news_wires {w : World} {g o : Nat} {ws : List W3} (hc : ∀ k (h : k < ws.length), w.cell? ⟨g, o + k * 3, none⟩ = some (.int .i64 ws[k].1) ∧ w.cell? ⟨g, o + k * 3 + 1, none⟩ = some (.int .i64 ws[k].2.1) ∧ w.cell? ⟨g, o + k * 3 + 2, none⟩ = some (.int .i64 ws[k].2.2)) :
    ∀ j u, (cellsW ws)[j]? = some u → w.cell? ((⟨g, o, none⟩ : Addr).add j) = some u := by
  intro j u hj
  have hjl : j < ws.length * 3 := by
    have := (List.getElem?_eq_some_iff.1 hj).1
    rwa [cellsW_length] at this
  obtain ⟨k, r, hr, rfl⟩ : ∃ k r, r < 3 ∧ j = k * 3 + r := ⟨j / 3, j % 3, by omega, by omega⟩
  have hk : k < ws.length := by omega
  obtain ⟨a0, a1, a2⟩ := cellsW_get ws k hk
  obtain ⟨b0, b1, b2⟩ := hc k hk
  rw [Addr.add_lit]
  rcases r with _ | _ | _ | r
  · rw [Nat.add_zero] at hj ⊢; rw [a0] at hj; cases hj; exact b0
  · rw [a1] at hj; cases hj; exact b1
  · rw [a2] at hj; cases hj; exact b2
  · omega
set_option maxHeartbeats 3200000 in
theorem clone_wires (v : Value) (ws : List W3) (w : World) (hr : ReadsW w v ws) (hlen : ws.length ≤ 25) :
    Calls Try.prog 64 #[v] w fun en w' => ∃ p c, en = .returned (.slice p ws.length c) ∧ w'.ownsRow w.heap.size 29 3 (.slice p ws.length c) ws.length (cellsW ws) ∧ Below w.heap.size w w' := by
  obtain ⟨i0, hi, hz0, hz1, hz2⟩ := info_parts Try.infoWireB
  have hnil := fun a n c wx => Lib.run_eql_slice_nil (P := Try.prog) wx 23 29 a n c 0 0 Try.underlying23
  obtain ⟨hm, hr1⟩ := hr
  rcases hr1 with ⟨rfl, p, cap, rfl⟩ | ⟨g, o, cap, rfl, hc⟩
  · rcases p with _ | ad
    · clear hi hz0 hz1 hz2
      go_enter Try.func64, Try.ntmps64
      go_wp2
      go_ret
      exact ⟨none, 0, rfl, World.ownsRow_nil _ _ _ _, by (repeat (first | exact Below.refl _ _ | (refine Below.setCell ?_ (by (first | exact Nat.le_refl _ | omega | (simp <;> omega) | simp)) _) | (refine Below.alloc ?_ (by (first | exact Nat.le_refl _ | omega | (simp <;> omega) | simp)) _) | (refine below_draws ?_ _)))⟩
    · go_enter Try.func64, Try.ntmps64
      go_wp2_with (at_builtin; refine wpList_append_own _ (by rfl) _ _ 23 (by rfl) w.heap.size 29 i0 (.agg #[.int .i64 0, .int .i64 0, .int .i64 0]) 3 24 Try.underlying23 hi hz0 hz1 hz2 (by rfl) (by decide) _ 0 (cellsW []) (by rfl) (own_emptyW w _ (Nat.le_refl _)) ad 0 cap [] (by rfl) rfl (fun j u h => by simp at h) (fun u h => by simp at h) (by unfold maxLen; omega) (by omega) (by simp) ?_; intro v' w' h1 h2 _; obtain ⟨p', c', rfl⟩ := owns_shape h1; have hB : Below w.heap.size w w' := Below.grown (by (repeat (first | exact Below.refl _ _ | (refine Below.setCell ?_ (by (first | exact Nat.le_refl _ | omega | (simp <;> omega) | simp)) _) | (refine Below.alloc ?_ (by (first | exact Nat.le_refl _ | omega | (simp <;> omega) | simp)) _) | (refine below_draws ?_ _)))) h2 (by simp) (fun k hk => by simp [Value.ownBlock] at hk; omega))
      go_wp2
      go_ret
      exact ⟨_, _, rfl, by simpa using h1, hB⟩
  · have hn : ∀ j u, (cellsW ws)[j]? = some u → (w.alloc (.cells #[] 29)).cell? ((⟨g, o, none⟩ : Addr).add j) = some u := by
      intro j u hj
      have h := news_wires hc j u hj
      exact (((Below.refl w.heap.size w).alloc (Nat.le_refl _) (.cells #[] 29)).cell (World.block_lt_of_cell? w _ h)).trans h
    have HN := Lib.hid hn; clear hn hc
    go_enter Try.func64, Try.ntmps64
    go_wp2_with (at_builtin; refine wpList_append_own _ (by rfl) _ _ 23 (by rfl) w.heap.size 29 i0 (.agg #[.int .i64 0, .int .i64 0, .int .i64 0]) 3 24 Try.underlying23 hi hz0 hz1 hz2 (by rfl) (by decide) _ 0 (cellsW []) (by rfl) (own_emptyW w _ (Nat.le_refl _)) ⟨g, o, none⟩ ws.length cap (cellsW ws) (by rfl) (cellsW_length ws) HN.out (cellsW_one ws) (by unfold maxLen; omega) (by omega) (by simp) ?_; intro v' w' h1 h2 _; rw [Nat.zero_add] at h1; obtain ⟨p', c', rfl⟩ := owns_shape h1; have hB : Below w.heap.size w w' := Below.grown (by (repeat (first | exact Below.refl _ _ | (refine Below.setCell ?_ (by (first | exact Nat.le_refl _ | omega | (simp <;> omega) | simp)) _) | (refine Below.alloc ?_ (by (first | exact Nat.le_refl _ | omega | (simp <;> omega) | simp)) _) | (refine below_draws ?_ _)))) h2 (by simp) (fun k hk => by simp [Value.ownBlock] at hk; omega))
    go_wp2
    go_ret
    exact ⟨_, _, rfl, by simpa [cellsW_nil] using h1, hB⟩
def wsK (ws : List W3) (k : Nat) : List W3 := ones (ws.take k) ++ ws.drop k
theorem cellsW_append (a b : List W3) : cellsW (a ++ b) = cellsW a ++ cellsW b := by simp [cellsW]
theorem wsK_set (ws : List W3) (k : Nat) (h : k < ws.length) : (cellsW (wsK ws k)).set (k * 3 + 2) (.int .i64 1) = cellsW (wsK ws (k + 1)) := by
  unfold wsK
  rw [ones_snoc ws k h, List.drop_eq_getElem_cons h, List.append_assoc]
  have hl : (cellsW (ones (ws.take k))).length = k * 3 := by rw [cellsW_length, ones_length, List.length_take]; omega
  rw [cellsW_append, cellsW_append, List.set_append_right _ _ (by omega), hl]
  have e : k * 3 + 2 - k * 3 = 2 := by omega
  rw [e]
  rfl
theorem wsK_length (ws : List W3) (k : Nat) : (wsK ws k).length = ws.length := by
  unfold wsK; rw [List.length_append, ones_length, List.length_take, List.length_drop]; omega

set_option maxRecDepth 8000 in
set_option maxHeartbeats 12800000 in
theorem impl_count (n e s : Int) (v : Value) (ws : List W3) (w : World) (hr : ReadsW w v ws) :
    Calls Try.prog 17 #[.agg #[.int .i64 n, .int .i64 e, .int .i64 s, v]] w fun en w' => en = .returned (.int .i64 (countR n e s ws)) ∧ Below w.heap.size w w' := by
  have B0 := (Below.refl w.heap.size w).alloc (Nat.le_refl _) (.cells #[.int .i64 n, .int .i64 e, .int .i64 s, v] 25)
  have hbox := boxN.new w n e s v 25
  have hfz : (w.alloc (.cells #[.int .i64 n, .int .i64 e, .int .i64 s, v] 25)).frozen? ⟨w.heap.size, 3, none⟩ = false := by simp [go_sem]
  have hok := impl_netOk n e s v ws _ (hr.later B0)
  obtain ⟨p, cap, rfl⟩ := hr.shape
  cases hb : netB n e s ws
  · rw [hb] at hok
    have HF : Hid (countR n e s ws = 0) := Lib.hid (by unfold countR; rw [if_neg (by simp [hb])])
    clear hbox hfz
    go_enter Try.func17, Try.ntmps17
    go_wp2_with fail
    refine hok.mono ?_
    rintro en w1 ⟨rfl, B1⟩
    go_wp2
    go_ret
    exact ⟨ret_i (by rw [HF.out]), by (repeat (first | exact Below.refl _ _ | (refine Below.setCell ?_ (by (first | exact Nat.le_refl _ | omega | (simp <;> omega) | simp)) _) | (refine Below.alloc ?_ (by (first | exact Nat.le_refl _ | omega | (simp <;> omega) | simp)) _) | (refine below_draws ?_ _) | exact B1 | (refine Below.trans ?_ (Below.mono B1 (by (first | exact Nat.le_refl _ | omega | (simp <;> omega) | simp))))))⟩
  rw [hb] at hok
  have HF : Hid (countR n e s ws = treeR n e s (ones ws)) := Lib.hid (by unfold countR; rw [if_pos hb])
  obtain ⟨⟨n1, n5, -⟩, hw, -⟩ := netB_iff.1 hb
  have hlen := wires_few hw n5
  clear hb hw
  have HW := Lib.hid hr; clear hr
  go_enter Try.func17, Try.ntmps17
  go_wp2_with fail
  refine hok.mono ?_
  rintro en w1 ⟨rfl, B1⟩
  have S1 := B1.size
  simp at S1
  have hb1 := hbox.later B1
  have hf1 := (B1.frozen (p := ⟨w.heap.size, 3, none⟩) (by simp)).trans hfz
  obtain ⟨x0, x1, x2, x3⟩ := id hb1
  have C1 : Below w.heap.size w w1 := by (repeat (first | exact Below.refl _ _ | (refine Below.setCell ?_ (by (first | exact Nat.le_refl _ | omega | (simp <;> omega) | simp)) _) | (refine Below.alloc ?_ (by (first | exact Nat.le_refl _ | omega | (simp <;> omega) | simp)) _) | (refine below_draws ?_ _) | exact B1 | (refine Below.trans ?_ (Below.mono B1 (by (first | exact Nat.le_refl _ | omega | (simp <;> omega) | simp))))))
  clear hok B1 hbox hfz
  go_wp2_with fail
  refine (clone_wires _ ws _ (HW.out.later C1) hlen).mono ?_
  rintro en w2 ⟨p2, c2, rfl, o2, B2⟩
  have S2 := B2.size
  have hb2 := hb1.later B2
  have hf2 := (B2.frozen (p := ⟨w.heap.size, 3, none⟩) hb1.lt).trans hf1
  have C2 : Below w.heap.size w w2 := C1.trans (B2.mono C1.size)
  clear x0 x1 x2 x3 hb1 hf1 C1 B2
  obtain ⟨x0, x1, x2, x3⟩ := id hb2
  have HO2 := Lib.hid o2; clear o2
  have HC2 := Lib.hid C2; clear C2
  have hw2 : w.heap.size < w2.heap.size := by omega
  go_wp2
  go_loopw [14] (fun i wr => ∃ (k : Nat), k ≤ ws.length ∧ i = .int .i64 k ∧ Hid (boxN wr w.heap.size n e s (.slice p2 ws.length c2)) ∧ Hid (wr.ownsRow w1.heap.size 29 3 (.slice p2 ws.length c2) ws.length (cellsW (wsK ws k))) ∧ Hid (Below w.heap.size w wr)) (fun i _ => ws.length - (intOf i).toNat)
  case atStart =>
    refine ⟨0, Nat.zero_le _, rfl, Lib.hid ⟨?_, ?_, ?_, ?_⟩, Lib.hid ?_, Lib.hid (HC2.out.setCell (Nat.le_refl _) _)⟩
    · simp [go_sem, *]
    · simp [go_sem, *]
    · simp [go_sem, *]
    · simp [go_sem, *]
    · have o2 := HO2.out
      have e0 : wsK ws 0 = ws := by simp [wsK, ones]
      rw [e0]
      ((repeat (refine ownsRow_setCell_below ?_ ?_ _; rotate_left; focus (first | omega | (simp; done) | (simp; omega)))); with_reducible exact o2)
  case round =>
    clear x0 x1 x2 x3 hb2 hf2
    obtain ⟨k, hk, rfl, hX, hown, hB⟩ := hrel
    obtain ⟨x0, x1, x2, x3⟩ := hX.out
    by_cases hlt : k < ws.length
    · have ho := hown.out
      obtain ⟨g, c3, hv, hg1, hg2⟩ := ho.form (by omega)
      simp only [Value.slice.injEq] at hv
      obtain ⟨rfl, -, rfl⟩ := hv
      have d2 := ho.cellAt (k * 3 + 2) (by omega)
      rw [List.getElem?_eq_getElem (by rw [cellsW_length, wsK_length]; omega)] at d2
      have f2 := ho.frozenAt (k * 3 + 2)
      have HS := Lib.hid (ho.stored (k * 3 + 2) (.int .i64 1)).1
      clear ho
      go_wp2
      go_roundw
      case rel =>
        refine ⟨k + 1, by omega, by go_num, Lib.hid ⟨?_, ?_, ?_, ?_⟩, Lib.hid ?_, Lib.hid (hB.out.setCell (p := ⟨g, k * 3 + 2, none⟩) (by show w.heap.size ≤ g; omega) _)⟩
        · exact (World.cell?_setCell_far _ _ _ _ (show g ≠ w.heap.size by omega)).trans hX.out.1
        · exact (World.cell?_setCell_far _ _ _ _ (show g ≠ w.heap.size by omega)).trans hX.out.2.1
        · exact (World.cell?_setCell_far _ _ _ _ (show g ≠ w.heap.size by omega)).trans hX.out.2.2.1
        · exact (World.cell?_setCell_far _ _ _ _ (show g ≠ w.heap.size by omega)).trans hX.out.2.2.2
        · rw [← wsK_set ws k hlt]
          exact HS.out
      case measure => simp [intOf]; omega
    · obtain rfl : k = ws.length := by omega
      have hro : ReadsW wr (.slice p2 ws.length c2) (ones ws) := by
        refine ReadsW.of_own (base := w1.heap.size) (e := 29) ?_
        have e1 : wsK ws ws.length = ones ws := by simp [wsK]
        have h := hown.out
        rw [e1] at h
        rw [ones_length]
        exact h
      go_wp2_with fail
      refine (impl_tree n e s _ (ones ws) _ hro).mono ?_
      rintro en w3 ⟨rfl, B3⟩
      go_wp2
      go_ret
      exact ⟨ret_i HF.out.symm, hB.out.trans (B3.mono hB.out.size)⟩
end Go.Proofs.Ytaececpphdaciaa
