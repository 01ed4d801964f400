/-
  MeshAll in the model.
-/
import Derived.Test.YthhnicbkldknlaaMeshAllMath
import Derived.Deep.RegionHeld3
import Derived.Deep.DeepCutAuto
namespace Go.Proofs.Ythhnicbkldknlaa
open Go.RowKit

theorem own_emptyW' (w : World) (base : Nat) (hb : base ≤ w.heap.size) : (w.alloc (.cells #[] 35)).ownsRow base 35 3 (.slice (some ⟨w.heap.size, 0, none⟩) 0 0) 0 (cellsW []) :=
  World.ownsRow_lit w #[] 0 hb (Nat.zero_le _) rfl
theorem cellsW_one' (ws : List W3) : ∀ u ∈ cellsW ws, u.oneCell' = true := by
  intro u hu
  simp only [cellsW, List.mem_flatMap, cells3] at hu
  obtain ⟨e, _, he⟩ := hu
  simp at he
  rcases he with rfl | rfl | rfl <;> rfl
theorem news_wires' {w : World} {g o : Nat} {ws : List W3} (hc : ∀ k (h : k < ws.length), w.cell? ⟨g, o + k * 3, none⟩ = some (.int .i64 ws[k].1) ∧ w.cell? ⟨g, o + k * 3 + 1, none⟩ = some (.int .i64 ws[k].2.1) ∧ w.cell? ⟨g, o + k * 3 + 2, none⟩ = some (.int .i64 ws[k].2.2)) :
    ∀ j u, (cellsW ws)[j]? = some u → w.cell? ((⟨g, o, none⟩ : Addr).add j) = some u := by
  intro j u hj
  have hjl : j < ws.length * 3 := by
    have := (List.getElem?_eq_some_iff.1 hj).1
    rwa [cellsW_length] at this
  obtain ⟨k, r, hr, rfl⟩ : ∃ k r, r < 3 ∧ j = k * 3 + r := ⟨j / 3, j % 3, by omega, by omega⟩
  have hk : k < ws.length := by omega
  obtain ⟨a0, a1, a2⟩ := cellsW_get ws k hk
  obtain ⟨b0, b1, b2⟩ := hc k hk
  rw [Addr.add_lit]
  rcases r with _ | _ | _ | r
  · rw [Nat.add_zero] at hj ⊢; rw [a0] at hj; cases hj; exact b0
  · rw [a1] at hj; cases hj; exact b1
  · rw [a2] at hj; cases hj; exact b2
  · omega
/-- 'append(v, xs...)' of all wires to an empty slice of one's own, as a step of a region that draws. -/
theorem step_copy_any {ops : Array Oper} {o : Oper} {a : Act} {K : Act → World → Prop} {Q : Exit → Act → World → Prop} {E : Prop} {d : Option Nat} (hd : o.dst = d) (wr : World) (hgd : o.guard = none) (s x : Operand)
    (ho : o.op = .call { callee := .builtin .append, args := #[s, x], argTypes := #[23, 23] })
    (base g : Nat) (hs : a.eval s = .slice (some ⟨g, 0, none⟩) 0 0) (hown : wr.ownsRow base 35 3 (.slice (some ⟨g, 0, none⟩) 0 0) 0 (cellsW []))
    {p : Option Addr} {m c : Nat} (hx : a.eval x = .slice p m c) (ws : List W3) (hns : ReadsW wr (.slice p m c) ws) (hn : ws.length ≤ 1048576) (hbase : base ≤ wr.heap.size)
    (h : ∀ v' w', w'.ownsRow base 35 3 v' ws.length (cellsW ws) → wr.heap.size ≤ w'.heap.size → wr.grownBy w' (some g) → K (a.put d v') w') :
    if Region.wanted o (yielded ops a.tmps) = true then Oper.wp Try.prog o a wr K Q else E := by
  rcases p with _ | ⟨g1, o1, n1⟩
  · have hz : ws = [] ∧ m = 0 := by
      rcases hns.2 with ⟨rfl, p', c', hv⟩ | ⟨g', o', c', hv, hc⟩
      · simp only [Value.slice.injEq] at hv
        exact ⟨rfl, hv.2.1⟩
      · simp at hv
    obtain ⟨rfl, rfl⟩ := hz
    subst hd
    have hw : Region.wanted o (yielded ops a.tmps) = true := by simp [Region.wanted, hgd]
    rw [if_pos hw]
    obtain ⟨i0, hi, hz0, hz1, hz2⟩ := info_parts Try.infoWireB
    have hr : (Builtin.append_ #[23, 23] o.type #[.slice (some ⟨g, 0, none⟩) 0 0, .slice none 0 c]).run Try.prog wr = .ok (.slice (some ⟨g, 0, none⟩) 0 0) wr := by
      simp [Builtin.append_, run_underlying Try.underlying23, sizeOf, typeInfo, hi, Builtin.lenOf, Builtin.firstCells, storeCells]
    unfold Oper.wp execOp
    simp only [ho, resolve, invoke, builtin, Sem.run_bind, Sem.run_pure, Result.andThen_ok, List.map_toArray, List.map_cons, List.map_nil, hs, hx, hr]
    exact h _ _ hown (Nat.le_refl _) ⟨rfl, rfl, rfl, Nat.le_refl _, fun _ _ _ => rfl⟩
  · have hn1 : (∃ o2, (⟨g1, o1, n1⟩ : Addr) = ⟨g1, o2, none⟩) ∨ ws = [] := by
      rcases hns.2 with ⟨h0, _⟩ | ⟨g', o', c', hv, hc⟩
      · exact .inr h0
      · simp only [Value.slice.injEq, Option.some.injEq, Addr.mk.injEq] at hv
        obtain ⟨⟨rfl, rfl, rfl⟩, -⟩ := hv
        exact .inl ⟨_, rfl⟩
    have hh : if Region.wanted o (yielded ops a.tmps) = true then Oper.wp Try.prog o a wr K Q else E := by
      subst hd
      have hw : Region.wanted o (yielded ops a.tmps) = true := by simp [Region.wanted, hgd]
      rw [if_pos hw]
      obtain ⟨i0, hi, hz0, hz1, hz2⟩ := info_parts Try.infoWireB
      have hc : m = ws.length ∧ ∀ j u, (cellsW ws)[j]? = some u → wr.cell? ((⟨g1, o1, n1⟩ : Addr).add j) = some u := by
        rcases hns.2 with ⟨rfl, p', c', hv⟩ | ⟨g', o', c', hv, hc⟩
        · simp only [Value.slice.injEq] at hv
          exact ⟨by simp; omega, fun j u hj => by simp [cellsW_nil] at hj⟩
        · simp only [Value.slice.injEq, Option.some.injEq, Addr.mk.injEq] at hv
          obtain ⟨⟨rfl, rfl, rfl⟩, rfl, rfl⟩ := hv
          exact ⟨rfl, news_wires' hc⟩
      obtain ⟨hm, hc⟩ := hc
      subst hm
      refine wp_append_own _ s x 23 ho base 35 i0 (.agg #[.int .i64 0, .int .i64 0, .int .i64 0]) 3 24 Try.underlying23 hi hz0 hz1 hz2 rfl (by decide) _ 0 (cellsW []) hs hown ⟨g1, o1, n1⟩ ws.length c (cellsW ws) hx (cellsW_length ws) hc (cellsW_one' ws) (by unfold maxLen; omega) (by omega) hbase ?_
      intro v' w' h1 h2 _
      rw [Nat.zero_add] at h1
      exact h v' w' (by simpa [cellsW_nil] using h1) h2.size h2
    exact hh
theorem grown_set (W : World) (B i : Nat) (v : Value) : W.grownBy (W.setCell ⟨B, i, none⟩ v) (some B) :=
  ⟨rfl, rfl, rfl, by simp, fun k _ hk => Below.heap_setCell _ _ _ k (fun e => hk (by rw [e]))⟩
theorem ReadsW.set {W : World} {B i : Nat} {v u : Value} {ws : List W3} (h : ReadsW W v ws) (hne : v.ownBlock ≠ some B) : ReadsW (W.setCell ⟨B, i, none⟩ u) v ws := h.kept (grown_set W B i u) (.inr hne)
theorem ReadsW.set4 {W : World} {B : Nat} {v u0 u1 u2 u3 : Value} {ws : List W3} (h : ReadsW W v ws) (hne : v.ownBlock ≠ some B) : ReadsW ((((W.setCell ⟨B, 0, none⟩ u0).setCell ⟨B, 1, none⟩ u1).setCell ⟨B, 2, none⟩ u2).setCell ⟨B, 3, none⟩ u3) v ws := (((h.set hne).set hne).set hne).set hne
theorem box4.put4 {g : Nat} {W : World} {a b c d a' b' c' d' : Value} (h : box4 W g a b c d) : box4 ((((W.setCell ⟨g, 0, none⟩ a').setCell ⟨g, 1, none⟩ b').setCell ⟨g, 2, none⟩ c').setCell ⟨g, 3, none⟩ d') g a' b' c' d' := by
  obtain ⟨h0, h1, h2, h3, f0, f1, f2, f3, hl⟩ := h
  refine ⟨?_, ?_, ?_, ?_, ?_, ?_, ?_, ?_, by simpa using hl⟩ <;> simp [go_sem, *]
theorem below_put4 {lo g : Nat} {w W : World} {a' b' c' d' : Value} (h : Below lo w W) (hg : lo ≤ g) : Below lo w ((((W.setCell ⟨g, 0, none⟩ a').setCell ⟨g, 1, none⟩ b').setCell ⟨g, 2, none⟩ c').setCell ⟨g, 3, none⟩ d') :=
  (((h.setCell (p := ⟨g, 0, none⟩) hg _).setCell (p := ⟨g, 1, none⟩) hg _).setCell (p := ⟨g, 2, none⟩) hg _).setCell (p := ⟨g, 3, none⟩) hg _
/-- A row of wires is not a block of another type. -/
theorem wires_apart {wr w2 : World} {row : Option Nat} {base n B : Nat} {v : Value} {xs : List Value} {cs : Array Value} {t : TypeId} (o2 : w2.ownsRow base 35 3 v n xs) (G : wr.grownBy w2 row) (hB : wr.heap[B]? = some (.cells cs t (0, 0))) (ht : t ≠ 35) (hr : some B ≠ row) : v.ownBlock ≠ some B := by
  intro hv
  have hlt : B < wr.heap.size := (Array.getElem?_eq_some_iff.1 hB).1
  have h2 := (G.block B hlt hr).trans hB
  rcases o2.2 with ⟨rfl, _⟩ | ⟨g, cap, cur, rfl, _, hgb, _⟩
  · simp [Value.ownBlock] at hv
  · obtain rfl : g = B := by simpa [Value.ownBlock] using hv
    rw [h2] at hgb
    simp only [Option.some.injEq, Obj.cells.injEq] at hgb
    exact ht hgb.2.1
set_option maxRecDepth 8000 in
set_option maxHeartbeats 12800000 in
theorem spec_meshAll_yes (N : Nat) (e s : Int) (p0 : Option Addr) (cap0 : Nat) (ws : List W3) (w : World) (hr : ReadsW w (.slice p0 ws.length cap0) ws) (hb : netB N e s ws = true) :
    Calls Try.prog 21 #[.agg #[.int .i64 N, .int .i64 e, .int .i64 s, .slice p0 ws.length cap0]] w (AnsN w (allR e N s ws)) := by
  have hV := netB_iff.1 hb
  have hlen := wiresV_len hV.2.1 hV.1.2.1
  obtain ⟨W0, hW0⟩ : ∃ W0, W0 = (w.alloc (.cells #[.int .i64 N, .int .i64 e, .int .i64 s, .slice p0 ws.length cap0] 25)).alloc (.cells #[.int .i64 0, .int .i64 0, .int .i64 0, .slice none 0 0] 25) := ⟨_, rfl⟩
  have hs0 : W0.heap.size = w.heap.size + 2 := by rw [hW0]; simp
  have HX : Hid (boxN W0 w.heap.size N e s (.slice p0 ws.length cap0)) := Lib.hid (by rw [hW0]; exact (boxN.new w N e s (.slice p0 ws.length cap0) 25).later (by (repeat (first | exact Below.refl _ _ | (refine Below.setCell ?_ (by (first | exact Nat.le_refl _ | omega | (simp <;> omega) | simp)) _) | (refine Below.alloc ?_ (by (first | exact Nat.le_refl _ | omega | (simp <;> omega) | simp)) _) | (refine below_draws ?_ _)))))
  have HZ : Hid (box4 W0 (w.heap.size + 1) (.int .i64 0) (.int .i64 0) (.int .i64 0) (.slice none 0 0)) := Lib.hid (by rw [hW0]; have h := box4.new (w.alloc (.cells #[.int .i64 N, .int .i64 e, .int .i64 s, .slice p0 ws.length cap0] 25)) (.int .i64 0) (.int .i64 0) (.int .i64 0) (.slice none 0 0) 25; simpa using h)
  have HB0 : Hid (Below w.heap.size w W0) := Lib.hid (by rw [hW0]; (repeat (first | exact Below.refl _ _ | (refine Below.setCell ?_ (by (first | exact Nat.le_refl _ | omega | (simp <;> omega) | simp)) _) | (refine Below.alloc ?_ (by (first | exact Nat.le_refl _ | omega | (simp <;> omega) | simp)) _) | (refine below_draws ?_ _))))
  have HR0 := Lib.hid (hr.later HB0.out)
  have hok := spec_netOk N e s _ ws W0 HR0.out
  rw [hb] at hok
  have HOK := Lib.hid hok
  have HV := Lib.hid hV
  obtain ⟨n', e', s', out, bb, hR⟩ : ∃ n' e' s' out bb, allR e N s ws = (n', e', s', out, bb) := ⟨_, _, _, _, _, rfl⟩
  rw [hR]
  have HRR := Lib.hid hR
  clear hR
  obtain ⟨x0, x1, x2, x3⟩ := HX.out
  clear hb hr hV hok
  go_enter Try.func21, Try.ntmps21
  go_wp2_with fail
  rw [← hW0]
  clear hW0
  refine HOK.out.mono ?_
  rintro en w1 ⟨rfl, B1⟩
  have HX1 := Lib.hid (HX.out.later B1)
  have S1 := B1.size
  have HR1 := Lib.hid (HR0.out.later B1)
  have hS0 : w1.cell? ⟨w.heap.size, 0, none⟩ = some (.int .i64 N) ∧ w1.cell? ⟨w.heap.size, 1, none⟩ = some (.int .i64 e) ∧ w1.cell? ⟨w.heap.size, 2, none⟩ = some (.int .i64 s) ∧ w1.cell? ⟨w.heap.size, 3, none⟩ = some (.slice p0 ws.length cap0) ∧ w1.cell? ⟨w.heap.size, 3, none⟩ = some (.slice p0 ws.length cap0) ∧ w1.cell? ⟨w.heap.size, 3, none⟩ = some (.slice p0 ws.length cap0) ∧ w1.heap.size ≤ w1.heap.size ∧ w1.heap.size ≤ w1.heap.size ∧ Below w1.heap.size w1 w1 := by
    obtain ⟨x0, x1, x2, x3⟩ := HX1.out
    exact ⟨x0, x1, x2, x3, x3, x3, Nat.le_refl _, Nat.le_refl _, Below.refl _ _⟩
  have HS1 := Lib.hid hS0
  clear x0 x1 x2 x3
  obtain ⟨x0, x1, x2, x3⟩ := HX1.out
  go_upto_region 3 with fail
  go_cut [4] (fun s4 wx => ∃ (B : Nat) (q : Option Addr) (c : Nat), s4 = .pointer (some ⟨B, 0, none⟩) ∧ box4 wx B (.int .i64 N) (.int .i64 e) (.int .i64 s) (.slice q ws.length c) ∧ ReadsW wx (.slice q ws.length c) ws ∧ (Value.slice q ws.length c).ownBlock ≠ some B ∧ w1.heap.size ≤ B ∧ w1.heap.size ≤ wx.heap.size ∧ Below w1.heap.size w1 wx)
  case first =>
    have hS := k6_drew hS0
    clear hS0
    refine wp_region_held_drew (S := fun w' => w'.cell? ⟨w.heap.size, 0, none⟩ = some (.int .i64 N) ∧ w'.cell? ⟨w.heap.size, 1, none⟩ = some (.int .i64 e) ∧ w'.cell? ⟨w.heap.size, 2, none⟩ = some (.int .i64 s) ∧ w'.cell? ⟨w.heap.size, 3, none⟩ = some (.slice p0 ws.length cap0) ∧ w'.cell? ⟨w.heap.size, 3, none⟩ = some (.slice p0 ws.length cap0) ∧ w'.cell? ⟨w.heap.size, 3, none⟩ = some (.slice p0 ws.length cap0) ∧ w1.heap.size ≤ w'.heap.size ∧ w1.heap.size ≤ w1.heap.size ∧ Below w1.heap.size w1 w') (by kernel_rfl) hS (fun hHeld => ?_)
    obtain ⟨wd, hwd⟩ : ∃ wd, wd = w1.drew := ⟨_, rfl⟩
    rw [← hwd] at hS ⊢
    have hszd : wd.heap.size ≤ w1.heap.size ∧ w1.heap.size ≤ wd.heap.size := by rw [hwd]; simp
    clear hwd
    refine take_on (i := 0) (d := some 11) (v := .pointer (some ⟨w.heap.size, 0, none⟩)) rfl rfl (by kernel_rfl) (by kernel_rfl) (by kernel_rfl) (fun _ _ _ h => h) (by rfl) (by (intro w hSw; (try dsimp only at hSw); go_simp)) (by assumption) ?_
    try simp only [Act.put, List.setIfInBounds_toArray, List.set_cons_zero, List.set_cons_succ]
    refine take_on (i := 1) (d := some 12) (v := .int .i64 N) rfl rfl (by kernel_rfl) (by kernel_rfl) (by kernel_rfl) (fun _ _ _ h => h) (by rfl) (by (intro w hSw; (try dsimp only at hSw); go_simp)) (by assumption) ?_
    try simp only [Act.put, List.setIfInBounds_toArray, List.set_cons_zero, List.set_cons_succ]
    refine take_on (i := 2) (d := some 13) (v := .pointer (some ⟨w.heap.size, 1, none⟩)) rfl rfl (by kernel_rfl) (by kernel_rfl) (by kernel_rfl) (fun _ _ _ h => h) (by rfl) (by (intro w hSw; (try dsimp only at hSw); go_simp)) (by assumption) ?_
    try simp only [Act.put, List.setIfInBounds_toArray, List.set_cons_zero, List.set_cons_succ]
    refine take_on (i := 3) (d := some 14) (v := .int .i64 e) rfl rfl (by kernel_rfl) (by kernel_rfl) (by kernel_rfl) (fun _ _ _ h => h) (by rfl) (by (intro w hSw; (try dsimp only at hSw); go_simp)) (by assumption) ?_
    try simp only [Act.put, List.setIfInBounds_toArray, List.set_cons_zero, List.set_cons_succ]
    refine take_on (i := 4) (d := some 15) (v := .pointer (some ⟨w.heap.size, 2, none⟩)) rfl rfl (by kernel_rfl) (by kernel_rfl) (by kernel_rfl) (fun _ _ _ h => h) (by rfl) (by (intro w hSw; (try dsimp only at hSw); go_simp)) (by assumption) ?_
    try simp only [Act.put, List.setIfInBounds_toArray, List.set_cons_zero, List.set_cons_succ]
    refine take_on (i := 5) (d := some 16) (v := .int .i64 s) rfl rfl (by kernel_rfl) (by kernel_rfl) (by kernel_rfl) (fun _ _ _ h => h) (by rfl) (by (intro w hSw; (try dsimp only at hSw); go_simp)) (by assumption) ?_
    try simp only [Act.put, List.setIfInBounds_toArray, List.set_cons_zero, List.set_cons_succ]
    refine take_on (i := 7) (d := some 18) (v := .pointer (some ⟨w.heap.size, 3, none⟩)) rfl rfl (by kernel_rfl) (by kernel_rfl) (by kernel_rfl) (fun _ _ _ h => h) (by rfl) (by (intro w hSw; (try dsimp only at hSw); go_simp)) (by assumption) ?_
    try simp only [Act.put, List.setIfInBounds_toArray, List.set_cons_zero, List.set_cons_succ]
    refine take_on (i := 8) (d := some 19) (v := .slice p0 ws.length cap0) rfl rfl (by kernel_rfl) (by kernel_rfl) (by kernel_rfl) (fun _ _ _ h => h) (by rfl) (by (intro w hSw; (try dsimp only at hSw); go_simp)) (by assumption) ?_
    try simp only [Act.put, List.setIfInBounds_toArray, List.set_cons_zero, List.set_cons_succ]
    refine wpAnyH_ready (rs := [6, 11]) (by kernel_rfl) (by simp) ?_
    refine AllReadyH.cons rfl (fun K hK => ?_) (AllReadyH.cons rfl (fun K hK => ?_) AllReadyH.nil)
    · skip
      go_simp
      have hb := own_emptyW' wd wd.heap.size (Nat.le_refl _)
      have hBb : Below wd.heap.size wd (wd.alloc (.cells #[] 35)) := by (repeat (first | exact Below.refl _ _ | (refine Below.setCell ?_ (by (first | exact Nat.le_refl _ | omega | (simp <;> omega) | simp)) _) | (refine Below.alloc ?_ (by (first | exact Nat.le_refl _ | omega | (simp <;> omega) | simp)) _) | (refine below_draws ?_ _)))
      obtain ⟨wb, hwb⟩ : ∃ wb, wb = wd.alloc (.cells #[] 35) := ⟨_, rfl⟩
      have hszb : wb.heap.size ≤ wd.heap.size + 1 ∧ wd.heap.size + 1 ≤ wb.heap.size := by rw [hwb]; simp
      rw [← hwb] at hb hBb ⊢
      clear hwb
      replace hS := k6_keep hBb hS
      refine hK.out _ _ hS (fun hHeld => ?_)
      clear hK K hHeld
      try simp only [Act.put, List.setIfInBounds_toArray, List.set_cons_zero, List.set_cons_succ]
      refine wpAnyH_ready (rs := [9, 11]) (by kernel_rfl) (by simp) ?_
      refine AllReadyH.cons rfl (fun K hK => ?_) (AllReadyH.cons rfl (fun K hK => ?_) AllReadyH.nil)
      · skip
        refine step_copy_any (d := some 20) (by rfl) wb (by rfl) _ _ (by rfl) _ _ (by rfl) hb (by rfl) ws (HR1.out.later hS.2.2.2.2.2.2.2.2) (by omega) (by omega) ?_
        intro v2 wa o2 S2 G2
        obtain ⟨q2, c2, rfl⟩ := owns_shape o2
        have hBa : Below w1.heap.size w1 wa := Below.grown hS.2.2.2.2.2.2.2.2 G2 (by omega) (fun k hk => by simp at hk; omega)
        replace hS := k6_keep hBa HS1.out
        refine hK.out _ _ hS (fun hHeld => ?_)
        clear hK K hHeld
        try simp only [Act.put, List.setIfInBounds_toArray, List.set_cons_zero, List.set_cons_succ]
        refine take_on (i := 10) (d := some 21) (v := .agg #[.int .i64 N, .int .i64 e, .int .i64 s, .slice q2 ws.length c2]) rfl rfl (by kernel_rfl) (by kernel_rfl) (by kernel_rfl) (fun _ _ _ h => h) (by rfl) (by (intro w hSw; (try dsimp only at hSw); go_simp)) (by assumption) ?_
        try simp only [Act.put, List.setIfInBounds_toArray, List.set_cons_zero, List.set_cons_succ]
        refine wpAnyH_ready (rs := [11]) (by kernel_rfl) (by simp) ?_
        refine AllReadyH.cons rfl (fun K hK => ?_) AllReadyH.nil
        go_simp
        obtain ⟨B, hBd⟩ : ∃ B, B = wa.heap.size := ⟨_, rfl⟩
        have hN := box4.new wa (.int .i64 0) (.int .i64 0) (.int .i64 0) (.slice none 0 0) 25
        have hH := heap_alloc_new wa (.cells #[.int .i64 0, .int .i64 0, .int .i64 0, .slice none 0 0] 25)
        have hBn : Below wa.heap.size wa (wa.alloc (.cells #[.int .i64 0, .int .i64 0, .int .i64 0, .slice none 0 0] 25)) := by (repeat (first | exact Below.refl _ _ | (refine Below.setCell ?_ (by (first | exact Nat.le_refl _ | omega | (simp <;> omega) | simp)) _) | (refine Below.alloc ?_ (by (first | exact Nat.le_refl _ | omega | (simp <;> omega) | simp)) _) | (refine below_draws ?_ _)))
        obtain ⟨wn, hwn⟩ : ∃ wn, wn = wa.alloc (.cells #[.int .i64 0, .int .i64 0, .int .i64 0, .slice none 0 0] 25) := ⟨_, rfl⟩
        have hszn : wn.heap.size ≤ wa.heap.size + 1 ∧ wa.heap.size + 1 ≤ wn.heap.size := by rw [hwn]; simp
        rw [← hwn] at hN hH hBn ⊢
        clear hwn
        rw [← hBd] at hN hH ⊢
        have hBd2 : B ≤ wa.heap.size ∧ wa.heap.size ≤ B := ⟨by omega, by omega⟩
        clear hBd
        replace hS := k6_keep hBn hS
        have hA : (Value.slice q2 ws.length c2).ownBlock ≠ some B := fun hh => by have h9 := (o2.lt _ hh).2; omega
        replace o2 := owns_later o2 hBn
        refine hK.out _ _ hS (fun hHeld => ?_)
        clear hK K hHeld
        try simp only [Act.put, List.setIfInBounds_toArray, List.set_cons_zero, List.set_cons_succ]
        obtain ⟨zz0, zz1, zz2, zz3, ff0, ff1, ff2, ff3, ll⟩ := id hN
        refine wpAnyH_ready (rs := [12]) (by kernel_rfl) (by simp) ?_
        refine AllReadyH.cons rfl (fun K hK => ?_) AllReadyH.nil
        go_simp
        replace hS := k6_keep (below_put4 (g := B) (a' := .int .i64 N) (b' := .int .i64 e) (c' := .int .i64 s) (d' := .slice q2 ws.length c2) hS.2.2.2.2.2.2.2.2 (by omega)) HS1.out
        refine hK.out _ _ hS (fun hHeld => ?_)
        clear hK K hHeld
        try simp only [Act.put]
        refine wpAnyH_done (by kernel_rfl) ?_ _
        go_wp2_with fail
        go_meet
        exact ⟨B, q2, c2, rfl, hN.put4, (ReadsW.of_own o2).set4 hA, hA, by omega, hS.2.2.2.2.2.2.1, hS.2.2.2.2.2.2.2.2⟩
      · skip
        go_simp
        obtain ⟨B, hBd⟩ : ∃ B, B = wb.heap.size := ⟨_, rfl⟩
        have hN := box4.new wb (.int .i64 0) (.int .i64 0) (.int .i64 0) (.slice none 0 0) 25
        have hH := heap_alloc_new wb (.cells #[.int .i64 0, .int .i64 0, .int .i64 0, .slice none 0 0] 25)
        have hBn : Below wb.heap.size wb (wb.alloc (.cells #[.int .i64 0, .int .i64 0, .int .i64 0, .slice none 0 0] 25)) := by (repeat (first | exact Below.refl _ _ | (refine Below.setCell ?_ (by (first | exact Nat.le_refl _ | omega | (simp <;> omega) | simp)) _) | (refine Below.alloc ?_ (by (first | exact Nat.le_refl _ | omega | (simp <;> omega) | simp)) _) | (refine below_draws ?_ _)))
        obtain ⟨wn, hwn⟩ : ∃ wn, wn = wb.alloc (.cells #[.int .i64 0, .int .i64 0, .int .i64 0, .slice none 0 0] 25) := ⟨_, rfl⟩
        have hszn : wn.heap.size ≤ wb.heap.size + 1 ∧ wb.heap.size + 1 ≤ wn.heap.size := by rw [hwn]; simp
        rw [← hwn] at hN hH hBn ⊢
        clear hwn
        rw [← hBd] at hN hH ⊢
        have hBd2 : B ≤ wb.heap.size ∧ wb.heap.size ≤ B := ⟨by omega, by omega⟩
        clear hBd
        replace hS := k6_keep hBn hS
        replace hb := owns_later hb hBn
        refine hK.out _ _ hS (fun hHeld => ?_)
        clear hK K hHeld
        try simp only [Act.put, List.setIfInBounds_toArray, List.set_cons_zero, List.set_cons_succ]
        refine wpAnyH_ready (rs := [9]) (by kernel_rfl) (by simp) ?_
        refine AllReadyH.cons rfl (fun K hK => ?_) AllReadyH.nil
        refine step_copy_any (d := some 20) (by rfl) wn (by rfl) _ _ (by rfl) _ _ (by rfl) hb (by rfl) ws (HR1.out.later hS.2.2.2.2.2.2.2.2) (by omega) (by omega) ?_
        intro v2 wa o2 S2 G2
        obtain ⟨q2, c2, rfl⟩ := owns_shape o2
        have hBa : Below w1.heap.size w1 wa := Below.grown hS.2.2.2.2.2.2.2.2 G2 (by omega) (fun k hk => by simp at hk; omega)
        replace hS := k6_keep hBa HS1.out
        have hA : (Value.slice q2 ws.length c2).ownBlock ≠ some B := wires_apart o2 G2 hH (by decide) (by simp; omega)
        replace hN := hN.grown G2 (by simp; omega)
        refine hK.out _ _ hS (fun hHeld => ?_)
        clear hK K hHeld
        try simp only [Act.put, List.setIfInBounds_toArray, List.set_cons_zero, List.set_cons_succ]
        refine take_on (i := 10) (d := some 21) (v := .agg #[.int .i64 N, .int .i64 e, .int .i64 s, .slice q2 ws.length c2]) rfl rfl (by kernel_rfl) (by kernel_rfl) (by kernel_rfl) (fun _ _ _ h => h) (by rfl) (by (intro w hSw; (try dsimp only at hSw); go_simp)) (by assumption) ?_
        try simp only [Act.put, List.setIfInBounds_toArray, List.set_cons_zero, List.set_cons_succ]
        obtain ⟨zz0, zz1, zz2, zz3, ff0, ff1, ff2, ff3, ll⟩ := id hN
        refine wpAnyH_ready (rs := [12]) (by kernel_rfl) (by simp) ?_
        refine AllReadyH.cons rfl (fun K hK => ?_) AllReadyH.nil
        go_simp
        replace hS := k6_keep (below_put4 (g := B) (a' := .int .i64 N) (b' := .int .i64 e) (c' := .int .i64 s) (d' := .slice q2 ws.length c2) hS.2.2.2.2.2.2.2.2 (by omega)) HS1.out
        refine hK.out _ _ hS (fun hHeld => ?_)
        clear hK K hHeld
        try simp only [Act.put]
        refine wpAnyH_done (by kernel_rfl) ?_ _
        go_wp2_with fail
        go_meet
        exact ⟨B, q2, c2, rfl, hN.put4, (ReadsW.of_own o2).set4 hA, hA, by omega, hS.2.2.2.2.2.2.1, hS.2.2.2.2.2.2.2.2⟩
    · skip
      go_simp
      obtain ⟨B, hBd⟩ : ∃ B, B = wd.heap.size := ⟨_, rfl⟩
      have hN := box4.new wd (.int .i64 0) (.int .i64 0) (.int .i64 0) (.slice none 0 0) 25
      have hH := heap_alloc_new wd (.cells #[.int .i64 0, .int .i64 0, .int .i64 0, .slice none 0 0] 25)
      have hBn : Below wd.heap.size wd (wd.alloc (.cells #[.int .i64 0, .int .i64 0, .int .i64 0, .slice none 0 0] 25)) := by (repeat (first | exact Below.refl _ _ | (refine Below.setCell ?_ (by (first | exact Nat.le_refl _ | omega | (simp <;> omega) | simp)) _) | (refine Below.alloc ?_ (by (first | exact Nat.le_refl _ | omega | (simp <;> omega) | simp)) _) | (refine below_draws ?_ _)))
      obtain ⟨wn, hwn⟩ : ∃ wn, wn = wd.alloc (.cells #[.int .i64 0, .int .i64 0, .int .i64 0, .slice none 0 0] 25) := ⟨_, rfl⟩
      have hszn : wn.heap.size ≤ wd.heap.size + 1 ∧ wd.heap.size + 1 ≤ wn.heap.size := by rw [hwn]; simp
      rw [← hwn] at hN hH hBn ⊢
      clear hwn
      rw [← hBd] at hN hH ⊢
      have hBd2 : B ≤ wd.heap.size ∧ wd.heap.size ≤ B := ⟨by omega, by omega⟩
      clear hBd
      replace hS := k6_keep hBn hS
      refine hK.out _ _ hS (fun hHeld => ?_)
      clear hK K hHeld
      try simp only [Act.put, List.setIfInBounds_toArray, List.set_cons_zero, List.set_cons_succ]
      refine wpAnyH_ready (rs := [6]) (by kernel_rfl) (by simp) ?_
      refine AllReadyH.cons rfl (fun K hK => ?_) AllReadyH.nil
      go_simp
      have hb := own_emptyW' wn wn.heap.size (Nat.le_refl _)
      have hBb : Below wn.heap.size wn (wn.alloc (.cells #[] 35)) := by (repeat (first | exact Below.refl _ _ | (refine Below.setCell ?_ (by (first | exact Nat.le_refl _ | omega | (simp <;> omega) | simp)) _) | (refine Below.alloc ?_ (by (first | exact Nat.le_refl _ | omega | (simp <;> omega) | simp)) _) | (refine below_draws ?_ _)))
      obtain ⟨wb, hwb⟩ : ∃ wb, wb = wn.alloc (.cells #[] 35) := ⟨_, rfl⟩
      have hszb : wb.heap.size ≤ wn.heap.size + 1 ∧ wn.heap.size + 1 ≤ wb.heap.size := by rw [hwb]; simp
      rw [← hwb] at hb hBb ⊢
      clear hwb
      replace hS := k6_keep hBb hS
      replace hH := (hBb.block B (by omega)).trans hH
      replace hN := hN.later hBb
      refine hK.out _ _ hS (fun hHeld => ?_)
      clear hK K hHeld
      try simp only [Act.put, List.setIfInBounds_toArray, List.set_cons_zero, List.set_cons_succ]
      refine wpAnyH_ready (rs := [9]) (by kernel_rfl) (by simp) ?_
      refine AllReadyH.cons rfl (fun K hK => ?_) AllReadyH.nil
      refine step_copy_any (d := some 20) (by rfl) wb (by rfl) _ _ (by rfl) _ _ (by rfl) hb (by rfl) ws (HR1.out.later hS.2.2.2.2.2.2.2.2) (by omega) (by omega) ?_
      intro v2 wa o2 S2 G2
      obtain ⟨q2, c2, rfl⟩ := owns_shape o2
      have hBa : Below w1.heap.size w1 wa := Below.grown hS.2.2.2.2.2.2.2.2 G2 (by omega) (fun k hk => by simp at hk; omega)
      replace hS := k6_keep hBa HS1.out
      have hA : (Value.slice q2 ws.length c2).ownBlock ≠ some B := wires_apart o2 G2 hH (by decide) (by simp; omega)
      replace hN := hN.grown G2 (by simp; omega)
      refine hK.out _ _ hS (fun hHeld => ?_)
      clear hK K hHeld
      try simp only [Act.put, List.setIfInBounds_toArray, List.set_cons_zero, List.set_cons_succ]
      refine take_on (i := 10) (d := some 21) (v := .agg #[.int .i64 N, .int .i64 e, .int .i64 s, .slice q2 ws.length c2]) rfl rfl (by kernel_rfl) (by kernel_rfl) (by kernel_rfl) (fun _ _ _ h => h) (by rfl) (by (intro w hSw; (try dsimp only at hSw); go_simp)) (by assumption) ?_
      try simp only [Act.put, List.setIfInBounds_toArray, List.set_cons_zero, List.set_cons_succ]
      obtain ⟨zz0, zz1, zz2, zz3, ff0, ff1, ff2, ff3, ll⟩ := id hN
      refine wpAnyH_ready (rs := [12]) (by kernel_rfl) (by simp) ?_
      refine AllReadyH.cons rfl (fun K hK => ?_) AllReadyH.nil
      go_simp
      replace hS := k6_keep (below_put4 (g := B) (a' := .int .i64 N) (b' := .int .i64 e) (c' := .int .i64 s) (d' := .slice q2 ws.length c2) hS.2.2.2.2.2.2.2.2 (by omega)) HS1.out
      refine hK.out _ _ hS (fun hHeld => ?_)
      clear hK K hHeld
      try simp only [Act.put]
      refine wpAnyH_done (by kernel_rfl) ?_ _
      go_wp2_with fail
      go_meet
      exact ⟨B, q2, c2, rfl, hN.put4, (ReadsW.of_own o2).set4 hA, hA, by omega, hS.2.2.2.2.2.2.1, hS.2.2.2.2.2.2.2.2⟩
  case rest =>
    obtain ⟨B, q, c, rfl, hbx, hrd, hap, hBl, hsw, hBw⟩ := hcut
    rename World => w3
    have HZ1 := Lib.hid (HZ.out.later B1)
    have HB01 := Lib.hid (HB0.out.trans (B1.mono HB0.out.size))
    have HZB : Hid (w.heap.size + 1 ≠ B) := Lib.hid (by omega)
    have HBX := Lib.hid hbx; have HRD := Lib.hid hrd; have HBW := Lib.hid hBw
    have HS1' : Hid (w.heap.size + 2 ≤ w1.heap.size) := Lib.hid (by omega)
    have HLW : Hid (w1.heap.size ≤ B) := Lib.hid hBl
    clear hS0 x0 x1 x2 x3 hbx hrd hBw hap B1
    go_wp2
    go_loopw [] (fun wi => ∃ (M : Nat) (s1 : Int) (ws1 : List W3) (q1 : Option Addr) (c1 : Nat), Hid (box4 wi B (.int .i64 M) (.int .i64 e) (.int .i64 s1) (.slice q1 ws1.length c1)) ∧ Hid (ReadsW wi (.slice q1 ws1.length c1) ws1) ∧ Hid (NetV M e s1 ws1) ∧ Hid (allR e M s1 ws1 = (n', e', s', out, bb)) ∧ w1.heap.size ≤ wi.heap.size ∧ Hid (Below w1.heap.size w1 wi)) (fun wi => match wi.cell? ⟨B, 0, none⟩ with | some (.int _ m) => m.toNat | _ => 0)
    case atStart => exact ⟨N, s, ws, q, c, HBX, HRD, HV, HRR, hsw, HBW⟩
    case round =>
      obtain ⟨M, s1, ws1, q1, c1, hbx, hrd, hVV, hAA, hsz, hB⟩ := hrel
      obtain ⟨b0, b1, b2, b3, bf0, bf1, bf2, bf3, bl⟩ := hbx.out
      have hM1 := hVV.out.1.1
      have hM5 := hVV.out.1.2.1
      have hml := wiresV_len hVV.out.2.1 hM5
      have hsB1 := hVV.out.1.2.2.2.2.1
      have hsB2 := hVV.out.1.2.2.2.2.2
      have hzb := HZB.out
      have hs1w := HS1'.out
      by_cases hlt : e < (M : Int)
      · obtain ⟨M, rfl⟩ : ∃ M', M = M' + 1 := ⟨M - 1, by omega⟩
        have hwp := wAt_conn hVV.out (by have := hVV.out.1.2.2.1; omega) M (by omega)
        have hmm : IntKind.i64.wrap (((M + 1 : Nat) : Int) - 1) = (M : Int) := by rw [IntWalk.i64_in _ (by omega)]; omega
        have hmm2 : wrap64 (((M + 1 : Nat) : Int) - 1) = (M : Int) := by unfold wrap64; omega
        have hmesh := fun W h => spec_mesh (M + 1) e s1 M (.slice q1 ws1.length c1) ws1 W h hVV.out (by omega) hwp
        obtain ⟨n2, e2, s2, out2, bb2, hR2⟩ : ∃ n2 e2 s2 out2 bb2, redR (((M + 1 : Nat) : Int) - 1) e (s1 * wAt ws1 (M : Int)) (meshR (M + 1) ws1 M) = (n2, e2, s2, out2, bb2) := ⟨_, _, _, _, _, rfl⟩
        rw [hR2] at hmesh
        have HMESH := Lib.hid hmesh
        have HR2 := Lib.hid hR2
        have HLT := Lib.hid hlt
        have hwa := wAt_le hVV.out.2.1 hM5 (M : Int) (by omega) (by omega)
        have hsr := (meshR_srt (v := M) hVV.out.2.1 (by omega) (by omega) hml).1
        have hsm : 1 ≤ s1 * wAt ws1 (M : Int) ∧ s1 * wAt ws1 (M : Int) ≤ 800000 := by
          have a1 := Int.mul_le_mul hsB2 hwa.2 hwa.1 (by omega : (0 : Int) ≤ 1000)
          have a2 := Int.mul_le_mul hsB1 hwp (by omega) (by omega : (0 : Int) ≤ s1)
          omega
        have HTW := Lib.hid (fun (hb : bb2 = true) => redR_twice (n := ((M + 1 : Nat) : Int) - 1) (e := e) hsm.1 (by omega) (hsr.bound (by omega)) (by rw [hR2, hb]))
        clear hmesh hR2 hwa hsr hsm hwp
        have hlt2 : e < (M : Int) + 1 := by omega
        cases bb2
        · have hzero : (n', e', s', out, bb) = (0, 0, 0, [], false) := hAA.out.symm.trans (allR_stop hlt HR2.out)
          simp only [Prod.mk.injEq] at hzero
          obtain ⟨rfl, rfl, rfl, rfl, rfl⟩ := hzero
          clear hlt
          go_wp2_with fail
          refine (HMESH.out _ hrd.out).mono ?_
          rintro en w4 ⟨p4, c4, rfl, o4, B4⟩
          have hz := (HZ1.out.below hB.out (by omega)).later B4
          have z0 := fun ob => (hz.alloc ob).1
          have z1 := fun ob => (hz.alloc ob).2.1
          have z2 := fun ob => (hz.alloc ob).2.2.1
          have z3 := fun ob => (hz.alloc ob).2.2.2.1
          have f0 := fun ob => (hz.alloc ob).2.2.2.2.1
          have f1 := fun ob => (hz.alloc ob).2.2.2.2.2.1
          have f2 := fun ob => (hz.alloc ob).2.2.2.2.2.2.1
          have f3 := fun ob => (hz.alloc ob).2.2.2.2.2.2.2.1
          clear hz
          have S4 := B4.size
          have hzne : w.heap.size + 1 ≠ w4.heap.size := by omega
          clear b0 b1 b2 b3 bf0 bf1 bf2 bf3
          go_wp2
          exact bodyPost_ret (v := .tuple #[.agg #[.int .i64 0, .int .i64 0, .int .i64 0, .slice none 0 0], .bool false]) (by simp (maxDischargeDepth := 8) [results, Try.results21, go_sem, *]) rfl (ansN_no (by have h1 := HB01.out; have h2 := hB.out; have h3 : Below w.heap.size w wr := h1.trans (h2.mono (by omega)); (repeat (first | exact Below.refl _ _ | (refine Below.setCell ?_ (by (first | exact Nat.le_refl _ | omega | (simp <;> omega) | simp)) _) | (refine Below.alloc ?_ (by (first | exact Nat.le_refl _ | omega | (simp <;> omega) | simp)) _) | (refine below_draws ?_ _) | exact h3 | (refine Below.trans ?_ (Below.mono h3 (by (first | exact Nat.le_refl _ | omega | (simp <;> omega) | simp)))) | exact B4 | (refine Below.trans ?_ (Below.mono B4 (by (first | exact Nat.le_refl _ | omega | (simp <;> omega) | simp))))))))
        · obtain ⟨hn2, he2, hV2, -⟩ := HTW.out rfl
          have hAA2 : Hid (allR e M s2 out2 = (n', e', s', out, bb)) := Lib.hid ((allR_go hlt HR2.out).symm.trans hAA.out)
          have hn2' : n2 = (M : Int) := by omega
          rw [show ((M + 1 : Nat) : Int) - 1 = (M : Int) by omega] at hV2
          have HV2 := Lib.hid hV2
          clear hn2 hV2
          subst hn2'
          subst he2
          clear hlt
          go_wp2_with fail
          refine (HMESH.out _ hrd.out).mono ?_
          rintro en w4 ⟨p4, c4, rfl, o4, B4⟩
          have hbx4 := hbx.out.later B4
          have HBX4 := Lib.hid hbx4
          have S4 := B4.size
          have HO4 := Lib.hid o4
          have HB4 := Lib.hid B4
          obtain ⟨y0, y1, y2, y3, yf0, yf1, yf2, yf3, yl⟩ := hbx4
          clear b0 b1 b2 b3 bf0 bf1 bf2 bf3
          have hbne : B ≠ w4.heap.size := by omega
          go_wp2
          have q1 := HBX4.out.put4 (a' := .int .i64 M) (b' := .int .i64 e2) (c' := .int .i64 s2) (d' := .slice p4 out2.length c4)
          have r1 := (ReadsW.of_own HO4.out).set4 (B := B) (u0 := .int .i64 M) (u1 := .int .i64 e2) (u2 := .int .i64 s2) (u3 := .slice p4 out2.length c4) (fun hh => by have h9 := (HO4.out.lt _ hh).1; omega)
          have b1 := below_put4 (g := B) (a' := .int .i64 M) (b' := .int .i64 e2) (c' := .int .i64 s2) (d' := .slice p4 out2.length c4) (hB.out.trans (HB4.out.mono (by omega))) (by omega)
          have g1 := hbx.out.1
          clear y0 y1 y2 y3 yf0 yf1 yf2 yf3 HBX4 HO4 HB4
          generalize (((w4.setCell ⟨B, 0, none⟩ (.int .i64 M)).setCell ⟨B, 1, none⟩ (.int .i64 e2)).setCell ⟨B, 2, none⟩ (.int .i64 s2)).setCell ⟨B, 3, none⟩ (.slice p4 out2.length c4) = W5 at *
          have sz5 := b1.size
          refine ⟨⟨M, s2, out2, p4, c4, Lib.hid (q1.alloc _), Lib.hid (r1.later ((Below.refl _ _).alloc (Nat.le_refl _) _)), HV2, hAA2, by simp; omega, Lib.hid (b1.alloc (by omega) _)⟩, ?_⟩
          rw [(q1.alloc _).1, g1]
          simp
      · have hred := fun W h => spec_reduced (M : Int) e s1 (.slice q1 ws1.length c1) ws1 W h (WiresB.of hVV.out.2.1) hsB1 (by omega) (by omega)
        simp only [← allR_end (ws := ws1) (s := s1) (show 1 ≤ M by omega) hlt, hAA.out] at hred
        have HRED := Lib.hid hred
        have hlt2 : ¬ e < (M : Int) := hlt
        clear hred hlt
        go_wp2_with fail
        refine (HRED.out _ hrd.out).mono ?_
        rintro en w4 ⟨p4, c4, rfl, o4, B4⟩
        have hz := (HZ1.out.below hB.out (by omega)).later B4
        obtain ⟨z0, z1, z2, z3, f0, f1, f2, f3, -⟩ := hz
        have S4 := B4.size
        have HO4 := Lib.hid o4
        have HB4 := Lib.hid B4
        clear b0 b1 b2 b3 bf0 bf1 bf2 bf3 o4 B4
        go_wp2
        exact bodyPost_ret (v := .tuple #[.agg #[.int .i64 n', .int .i64 e', .int .i64 s', .slice p4 out.length c4], .bool bb]) (by simp (maxDischargeDepth := 8) [results, Try.results21, go_sem, *]) rfl ⟨p4, c4, rfl, by refine owns_mono (base := wr.heap.size) ?_ (by omega); have o4 := HO4.out; ((repeat (refine ownsRow_setCell_below ?_ ?_ _; rotate_left; focus (first | omega | (simp; done) | (simp; omega)))); with_reducible exact o4), by have h1 := HB01.out; have h2 := hB.out; have h4 := HB4.out; have h3 : Below w.heap.size w wr := h1.trans (h2.mono (by omega)); (repeat (first | exact Below.refl _ _ | (refine Below.setCell ?_ (by (first | exact Nat.le_refl _ | omega | (simp <;> omega) | simp)) _) | (refine Below.alloc ?_ (by (first | exact Nat.le_refl _ | omega | (simp <;> omega) | simp)) _) | (refine below_draws ?_ _) | exact h3 | (refine Below.trans ?_ (Below.mono h3 (by (first | exact Nat.le_refl _ | omega | (simp <;> omega) | simp)))) | exact h4 | (refine Below.trans ?_ (Below.mono h4 (by (first | exact Nat.le_refl _ | omega | (simp <;> omega) | simp))))))⟩
/-- What MeshAll answers, for every network. -/
noncomputable def meshAllR (n e s : Int) (ws : List W3) : Int × Int × Int × List W3 × Bool := if netB n e s ws = true then allR e n.toNat s ws else (0, 0, 0, [], false)
theorem meshAllR_no {n e s : Int} {ws : List W3} (h : ¬ netB n e s ws = true) : meshAllR n e s ws = (0, 0, 0, [], false) := if_neg h
theorem meshAllR_yes {n e s : Int} {ws : List W3} (h : netB n e s ws = true) : meshAllR n e s ws = allR e n.toNat s ws := if_pos h
set_option maxRecDepth 4000 in
set_option maxHeartbeats 6400000 in
theorem spec_meshAll (n e s : Int) (v : Value) (ws : List W3) (w : World) (hr : ReadsW w v ws) :
    Calls Try.prog 21 #[.agg #[.int .i64 n, .int .i64 e, .int .i64 s, v]] w (AnsN w (meshAllR n e s ws)) := by
  by_cases hb : netB n e s ws = true
  · obtain ⟨n1, n5, -⟩ := (netB_iff.1 hb).1
    obtain ⟨N, rfl⟩ : ∃ N : Nat, n = N := ⟨n.toNat, by omega⟩
    obtain ⟨p0, cap0, rfl⟩ := hr.shape
    rw [meshAllR_yes hb, Int.toNat_natCast]
    exact spec_meshAll_yes N e s p0 cap0 ws w hr hb
  rw [meshAllR_no hb]
  obtain ⟨W0, hW0⟩ : ∃ W0, W0 = (w.alloc (.cells #[.int .i64 n, .int .i64 e, .int .i64 s, v] 25)).alloc (.cells #[.int .i64 0, .int .i64 0, .int .i64 0, .slice none 0 0] 25) := ⟨_, rfl⟩
  have hs0 : W0.heap.size = w.heap.size + 2 := by rw [hW0]; simp
  have HX : Hid (boxN W0 w.heap.size n e s v) := Lib.hid (by rw [hW0]; exact (boxN.new w n e s v 25).later (by (repeat (first | exact Below.refl _ _ | (refine Below.setCell ?_ (by (first | exact Nat.le_refl _ | omega | (simp <;> omega) | simp)) _) | (refine Below.alloc ?_ (by (first | exact Nat.le_refl _ | omega | (simp <;> omega) | simp)) _) | (refine below_draws ?_ _)))))
  have HZ : Hid (box4 W0 (w.heap.size + 1) (.int .i64 0) (.int .i64 0) (.int .i64 0) (.slice none 0 0)) := Lib.hid (by rw [hW0]; have h := box4.new (w.alloc (.cells #[.int .i64 n, .int .i64 e, .int .i64 s, v] 25)) (.int .i64 0) (.int .i64 0) (.int .i64 0) (.slice none 0 0) 25; simpa using h)
  have HB0 : Hid (Below w.heap.size w W0) := Lib.hid (by rw [hW0]; (repeat (first | exact Below.refl _ _ | (refine Below.setCell ?_ (by (first | exact Nat.le_refl _ | omega | (simp <;> omega) | simp)) _) | (refine Below.alloc ?_ (by (first | exact Nat.le_refl _ | omega | (simp <;> omega) | simp)) _) | (refine below_draws ?_ _))))
  have HOK := Lib.hid (spec_netOk n e s v ws W0 (hr.later HB0.out))
  obtain ⟨x0, x1, x2, x3⟩ := HX.out
  rw [show netB n e s ws = false by simpa using hb] at HOK
  clear hb hr
  go_enter Try.func21, Try.ntmps21
  go_wp2_with fail
  rw [← hW0]
  clear hW0
  refine HOK.out.mono ?_
  rintro en w1 ⟨rfl, B1⟩
  obtain ⟨z0, z1, z2, z3, f0, f1, f2, f3, -⟩ := HZ.out.later B1
  have S1 := B1.size
  clear x0 x1 x2 x3
  go_wp2
  exact bodyPost_ret (v := .tuple #[.agg #[.int .i64 0, .int .i64 0, .int .i64 0, .slice none 0 0], .bool false]) (by simp (maxDischargeDepth := 8) [results, Try.results21, go_sem, *]) rfl (ansN_no (by have h0 := HB0.out; (repeat (first | exact Below.refl _ _ | (refine Below.setCell ?_ (by (first | exact Nat.le_refl _ | omega | (simp <;> omega) | simp)) _) | (refine Below.alloc ?_ (by (first | exact Nat.le_refl _ | omega | (simp <;> omega) | simp)) _) | (refine below_draws ?_ _) | exact h0 | (refine Below.trans ?_ (Below.mono h0 (by (first | exact Nat.le_refl _ | omega | (simp <;> omega) | simp)))) | exact B1 | (refine Below.trans ?_ (Below.mono B1 (by (first | exact Nat.le_refl _ | omega | (simp <;> omega) | simp))))))))
end Go.Proofs.Ythhnicbkldknlaa
