/-
  LaplacianOf in the program.
-/
import Derived.Test.YtaececpphdaciaaGLap
import Derived.Deep.RegionHeld3
import Derived.Deep.RegionLaw
namespace Go.Proofs.Ytaececpphdaciaa
open Go.RowKit

def rawRow (ws : List W3) (a b : Nat) : List Int := (List.range b).map fun (j : Nat) => -wBtw ws (a : Int) (j : Int)
theorem rawRow_snoc (ws : List W3) (a b : Nat) : rawRow ws a (b + 1) = rawRow ws a b ++ [-wBtw ws (a : Int) (b : Int)] := by simp [rawRow, List.range_succ]
theorem rawRow_length (ws : List W3) (a b : Nat) : (rawRow ws a b).length = b := by simp [rawRow]
theorem rawRow_all (ws : List W3) (a N : Nat) : (rawRow ws a N).set a (wAt ws (a : Int)) = lapRow ws a N := by
  apply List.ext_getElem
  · simp [rawRow, lapRow]
  · intro i h1 h2
    simp only [rawRow, lapRow, List.getElem_set, List.getElem_map, List.getElem_range, lapE]
/-- a rows done, b entries of the next one. -/
def LapSt (N : Nat) (ws : List W3) (a b : Nat) (M : MatI) : Prop :=
  M.length = N ∧ (∀ i, i < a → M[i]? = some (lapRow ws i N)) ∧ (a < N → M[a]? = some (rawRow ws a b)) ∧ ∀ i, a < i → i < N → M[i]? = some []
theorem LapSt.start (N : Nat) (ws : List W3) : LapSt N ws 0 0 (List.replicate N []) :=
  ⟨by simp, fun i h => absurd h (by omega), fun h => by simp [rawRow, h], fun i _ h => by simp [h]⟩
theorem LapSt.next {N : Nat} {ws : List W3} {a b : Nat} {M : MatI} (h : LapSt N ws a b M) (ha : a < N) : LapSt N ws a (b + 1) (M.set a (rawRow ws a (b + 1))) := by
  obtain ⟨h1, h2, h3, h4⟩ := h
  have hl : a < M.length := by omega
  refine ⟨by rw [List.length_set]; exact h1, fun i hi => ?_, fun _ => ?_, fun i hi hn => ?_⟩
  · rw [List.getElem?_set_ne (by omega)]; exact h2 i hi
  · rw [List.getElem?_set_self hl]
  · rw [List.getElem?_set_ne (by omega)]; exact h4 i hi hn
theorem LapSt.diag {N : Nat} {ws : List W3} {a : Nat} {M : MatI} (h : LapSt N ws a N M) (ha : a < N) : LapSt N ws (a + 1) 0 (M.set a ((rawRow ws a N).set a (wAt ws (a : Int)))) := by
  obtain ⟨h1, h2, h3, h4⟩ := h
  have hl : a < M.length := by omega
  refine ⟨by rw [List.length_set]; exact h1, fun i hi => ?_, fun hn => ?_, fun i hi hn => ?_⟩
  · by_cases e : i = a
    · subst e; rw [List.getElem?_set_self hl, rawRow_all]
    · rw [List.getElem?_set_ne (by omega)]; exact h2 i (by omega)
  · rw [List.getElem?_set_ne (by omega), h4 (a + 1) (by omega) hn]; rfl
  · rw [List.getElem?_set_ne (by omega)]; exact h4 i (by omega) hn
theorem LapSt.done {N : Nat} {ws : List W3} {M : MatI} (h : LapSt N ws N 0 M) : M = lapM N ws := by
  obtain ⟨h1, h2, h3, h4⟩ := h
  apply List.ext_getElem?
  intro i
  by_cases hi : i < N
  · rw [h2 i hi]; simp [lapM, lapRow, hi]
  · rw [List.getElem?_eq_none (by omega), List.getElem?_eq_none (by simp [lapM]; omega)]
theorem LapSt.row {N : Nat} {ws : List W3} {a b : Nat} {M : MatI} (h : LapSt N ws a b M) (ha : a < N) : ∃ hl : a < M.length, M[a] = rawRow ws a b := by
  have hl : a < M.length := by have := h.1; omega
  refine ⟨hl, ?_⟩
  have := h.2.2.1 ha
  rw [List.getElem?_eq_getElem hl] at this
  simpa using this

theorem four_keep {w w1 : World} {a b c d : Addr} {va vb vc vd : Value} (h : Below w.heap.size w w1)
    (k : w.cell? a = some va ∧ w.cell? b = some vb ∧ w.cell? c = some vc ∧ w.cell? d = some vd) :
    w1.cell? a = some va ∧ w1.cell? b = some vb ∧ w1.cell? c = some vc ∧ w1.cell? d = some vd := by
  obtain ⟨h1, h2, h3, h4⟩ := k
  refine ⟨?_, ?_, ?_, ?_⟩
  · rw [h.cell (World.block_lt_of_cell? w _ h1)]; exact h1
  · rw [h.cell (World.block_lt_of_cell? w _ h2)]; exact h2
  · rw [h.cell (World.block_lt_of_cell? w _ h3)]; exact h3
  · rw [h.cell (World.block_lt_of_cell? w _ h4)]; exact h4
theorem four_alloc {w : World} {a b c d : Addr} {va vb vc vd : Value} (o : Obj)
    (k : w.cell? a = some va ∧ w.cell? b = some vb ∧ w.cell? c = some vc ∧ w.cell? d = some vd) :
    (w.alloc o).cell? a = some va ∧ (w.alloc o).cell? b = some vb ∧ (w.alloc o).cell? c = some vc ∧ (w.alloc o).cell? d = some vd :=
  four_keep ((Below.refl w.heap.size w).alloc (Nat.le_refl _) o) k
theorem net4_grown {w w1 : World} {row : Option Nat} {B o1 o2 o3 o4 : Nat} {va vb vc vd : Value} (h : w.grownBy w1 row) (n1 : some B ≠ row)
    (k : w.cell? ⟨B, o1, none⟩ = some va ∧ w.cell? ⟨B, o2, none⟩ = some vb ∧ w.cell? ⟨B, o3, none⟩ = some vc ∧ w.cell? ⟨B, o4, none⟩ = some vd) :
    w1.cell? ⟨B, o1, none⟩ = some va ∧ w1.cell? ⟨B, o2, none⟩ = some vb ∧ w1.cell? ⟨B, o3, none⟩ = some vc ∧ w1.cell? ⟨B, o4, none⟩ = some vd := by
  obtain ⟨h1, h2, h3, h4⟩ := k
  exact ⟨h.cell h1 n1, h.cell h2 n1, h.cell h3 n1, h.cell h4 n1⟩
theorem four_set {w : World} {B g i o1 o2 o3 o4 : Nat} {u va vb vc vd : Value} (hne : g ≠ B)
    (k : w.cell? ⟨B, o1, none⟩ = some va ∧ w.cell? ⟨B, o2, none⟩ = some vb ∧ w.cell? ⟨B, o3, none⟩ = some vc ∧ w.cell? ⟨B, o4, none⟩ = some vd) :
    (w.setCell ⟨g, i, none⟩ u).cell? ⟨B, o1, none⟩ = some va ∧ (w.setCell ⟨g, i, none⟩ u).cell? ⟨B, o2, none⟩ = some vb ∧ (w.setCell ⟨g, i, none⟩ u).cell? ⟨B, o3, none⟩ = some vc ∧ (w.setCell ⟨g, i, none⟩ u).cell? ⟨B, o4, none⟩ = some vd := by
  obtain ⟨h1, h2, h3, h4⟩ := k
  exact ⟨(World.cell?_setCell_far _ _ _ _ hne).trans h1, (World.cell?_setCell_far _ _ _ _ hne).trans h2, (World.cell?_setCell_far _ _ _ _ hne).trans h3, (World.cell?_setCell_far _ _ _ _ hne).trans h4⟩
/-- A call of a Go function, as a step of a region that draws. -/
theorem step_call {P : Program} {ops : Array Oper} {o : Oper} {a : Act} {K : Act → World → Prop} {Q : Exit → Act → World → Prop} {E : Prop} {W : World} {f : FuncId} {args : Array Value} {R : Value → World → Prop}
    (hc : Calls P f args W (fun en w' => ∃ v, en = .returned v ∧ R v w')) (hgd : o.guard = none) (hrun : (execOp a.eval o).run P W = .ok (.enter f args) W)
    (h : ∀ v w', R v w' → K (a.put o.dst v) w') : if Region.wanted o (yielded ops a.tmps) = true then Oper.wp P o a W K Q else E := by
  have hw : Region.wanted o (yielded ops a.tmps) = true := by simp [Region.wanted, hgd]
  rw [if_pos hw]
  unfold Oper.wp
  rw [hrun]
  simp only [Oper.upon]
  refine Calls.mono hc fun e w'' he => ?_
  obtain ⟨v, rfl, hr⟩ := he
  exact h v w'' hr
/-- 'append(v, x)' of one number, as a step of a region that draws: and where the new slice lies. -/
theorem step_append_int {ops : Array Oper} {o : Oper} {a : Act} {K : Act → World → Prop} {Q : Exit → Act → World → Prop} {E : Prop} {W wr : World} {s x : Operand} {base : Nat} {v : Value} {q : List Int} {u : Int} {b1 : Nat}
    (hown : wr.ownsRow base 3 1 v q.length (cellsI q)) (hn : q.length + 1 ≤ 1099511627776) (hbase : base ≤ wr.heap.size) (hW : W = wr.alloc (.cells #[.int .i64 u] 3) ∨ W = (wr.alloc (.cells #[.int .i64 u] 3)).drew) (hgd : o.guard = none)
    (ho : o.op = .call { callee := .builtin .append, args := #[s, x], argTypes := #[38, 38] }) (hs : a.eval s = v) (hx : a.eval x = .slice (some ⟨b1, 0, none⟩) 1 1) (hb1 : b1 = wr.heap.size)
    (h : ∀ g cap w', w'.ownsRow base 3 1 (.slice (some ⟨g, 0, none⟩) (q.length + 1) cap) (q ++ [u]).length (cellsI (q ++ [u])) → wr.heap.size ≤ w'.heap.size → wr.grownBy w' v.ownBlock → (v.ownBlock = some g ∨ g = wr.heap.size + 1) → K (a.put o.dst (.slice (some ⟨g, 0, none⟩) (q.length + 1) cap)) w') :
    if Region.wanted o (yielded ops a.tmps) = true then Oper.wp Try.prog o a W K Q else E := by
  subst hb1
  obtain ⟨i0, hi, hz0, hz1, hz2⟩ := info_parts Try.infoInt
  have hS : W.heap.size = wr.heap.size + 1 := by rcases hW with rfl | rfl <;> simp
  have ho2 : W.ownsRow base 3 1 v q.length (cellsI q) := by
    rcases hW with rfl | rfl
    · exact hown.alloc _
    · exact hown.alloc _
  have hcs : ∀ j w, [Value.int .i64 u][j]? = some w → W.cell? ((⟨wr.heap.size, 0, none⟩ : Addr).add j) = some w := by
    rcases hW with rfl | rfl
    · exact one_new _ _ _
    · exact one_new _ _ _
  have hg0 : wr.grownBy W v.ownBlock := by
    rcases hW with rfl | rfl
    · exact World.grownBy_alloc _ _ _
    · exact ⟨rfl, rfl, rfl, by simp, fun k hk _ => heap_alloc_old _ _ hk⟩
  refine step_append_lies W hgd s x 38 ho base 3 i0 (.int .i64 0) 1 8 Try.underlying38 hi hz0 hz1 hz2 rfl (by decide) v q.length (cellsI q) hs ho2 ⟨wr.heap.size, 0, none⟩ 1 1 [.int .i64 u] hx rfl hcs (by simp [Value.oneCell']) (by omega) (by unfold maxLen; omega) (by omega) (by omega) (wr.heap.size + 1) hS ?_
  intro g cap w' h1 h2 h3 _
  have h4 := h2.size
  exact h _ _ w' (by rw [cellsI_snoc, List.length_append]; exact h1) (by omega) (grown_trans1 hg0 h2) h3
theorem set_cellsI (q : List Int) (k : Nat) (x : Int) : cellsI (q.set k x) = (cellsI q).set k (.int .i64 x) := by simp [cellsI, List.map_set]
theorem mat_zeros {w : World} {base : Nat} {v : Value} {N : Nat} (h : w.ownsRow base 38 1 v N (List.replicate N (.slice none 0 0))) : OwnsR w base v (List.replicate N (.slice none 0 0)) (List.replicate N []) := by
  refine ⟨by simpa using h, by simp, fun k r hr => ?_, fun i j a b _ ha _ => ?_⟩
  · rw [List.getElem?_replicate] at hr
    split at hr
    · rename_i hk
      cases hr
      refine ⟨by simpa using hk, ?_⟩
      simp only [List.getElem_replicate]
      exact World.ownsRow_nil _ _ _ _
    · cases hr
  · rw [List.getElem?_replicate] at ha
    split at ha
    · cases ha; exact .inl rfl
    · cases ha
set_option maxRecDepth 8000 in
set_option maxHeartbeats 12800000 in
theorem impl_lap (n e s : Int) (v : Value) (ws : List W3) (w : World) (hr : ReadsW w v ws) :
    Calls Try.prog 20 #[.agg #[.int .i64 n, .int .i64 e, .int .i64 s, v]] w fun en w' => ∃ v', en = .returned v' ∧ OwnsM w' w.heap.size v' (lapR n e s ws) ∧ Below w.heap.size w w' := by
  have B0 := (Below.refl w.heap.size w).alloc (Nat.le_refl _) (.cells #[.int .i64 n, .int .i64 e, .int .i64 s, v] 25)
  have hbox := boxN.new w n e s v 25
  have hr0 := hr.later B0
  have hok := impl_netOk n e s v ws _ hr0
  obtain ⟨p, cap, rfl⟩ := hr.shape
  cases hb : netB n e s ws
  · rw [hb] at hok
    rw [lapR_no hb]
    clear hbox
    go_enter Try.func20, Try.ntmps20
    go_wp2_with fail
    refine hok.mono ?_
    rintro en w1 ⟨rfl, B1⟩
    go_wp2
    go_ret
    exact ⟨_, rfl, OwnsM.nil _ _, by (repeat (first | exact Below.refl _ _ | (refine Below.setCell ?_ (by (first | exact Nat.le_refl _ | omega | (simp <;> omega) | simp)) _) | (refine Below.alloc ?_ (by (first | exact Nat.le_refl _ | omega | (simp <;> omega) | simp)) _) | (refine below_draws ?_ _) | exact B1 | (refine Below.trans ?_ (Below.mono B1 (by (first | exact Nat.le_refl _ | omega | (simp <;> omega) | simp))))))⟩
  · rw [hb] at hok
    rw [lapR_yes hb]
    obtain ⟨⟨n1, n5, -⟩, hw, -⟩ := netB_iff.1 hb
    obtain ⟨N, rfl⟩ : ∃ N : Nat, n = N := ⟨n.toNat, by omega⟩
    rw [Int.toNat_natCast]
    have HW := Lib.hid hw; clear hw hb
    go_enter Try.func20, Try.ntmps20
    go_wp2_with fail
    refine hok.mono ?_
    rintro en w1 ⟨rfl, B1⟩
    have hbx := hbox.later B1
    obtain ⟨W0, hW0⟩ : ∃ W0, W0 = (w.alloc (.cells #[.int .i64 N, .int .i64 e, .int .i64 s, .slice p ws.length cap] 25)) := ⟨_, rfl⟩
    have hsW : W0.heap.size = w.heap.size + 1 := by rw [hW0]; simp
    have B0' : Below w.heap.size w W0 := by rw [hW0]; exact B0
    have hbox' : boxN W0 w.heap.size N e s (.slice p ws.length cap) := by rw [hW0]; exact hbox
    rw [← hW0] at B1
    have hrW := hr0
    rw [← hW0] at hrW
    rw [hsW] at B1
    clear B0 hr0 hok hbox hW0
    have HR := Lib.hid hrW; clear hrW
    have HBX := Lib.hid hbox'; clear hbox'
    have hs1 := B1.size
    rw [hsW] at hs1
    have HB0 := Lib.hid B0'; clear B0'
    obtain ⟨i0, hi, hz0, hz1, hz2⟩ := info_parts Try.infoRow
    obtain ⟨w2, hmk, own2, grow2⟩ := run_makeSlice_full w1 w1.heap.size 36 38 i0 (.slice none 0 0) 1 Try.underlying36 hi hz0 hz1 .i64 .i64 N (by omega) (by rw [hz2]; omega) (by unfold maxLen; omega) (Nat.le_refl _)
    have B2 : Below (w.heap.size + 1) W0 w2 := B1.grown grow2 hs1 (fun k hk => by cases hk)
    have hxs : (madeCells (Value.slice none 0 0).cells N).toList = List.replicate N (.slice none 0 0) := toList_madeCells_one _ _
    rw [Nat.mul_one, hxs] at own2
    have HO0 := Lib.hid (mat_zeros own2)
    have HB := Lib.hid B2
    clear hi hz0 hz1 hz2 grow2 own2 B1 B2 hxs
    have hgo : ∃ gO, gO = w1.heap.size := ⟨_, rfl⟩
    obtain ⟨gO, hgO⟩ := hgo
    rw [← hgO] at hmk HO0
    obtain ⟨x0, x1, x2, x3⟩ := hbx
    have HX0 : Hid (boxN w2 w.heap.size N e s (.slice p ws.length cap)) := Lib.hid (HBX.out.below HB.out (Nat.lt_succ_self _))
    have hgO' : w.heap.size + 1 ≤ gO := by omega
    clear hgO
    obtain ⟨q0, q1, q2, q3⟩ := HX0.out
    clear HX0
    go_wp2
    go_loopw [14] (fun av wr => ∃ (a : Nat) (rs : List Value) (M : MatI), a ≤ N ∧ av = .int .i64 a ∧ Hid (OwnsR wr (w.heap.size + 1) (.slice (some ⟨gO, 0, none⟩) N N) rs M) ∧ Hid (LapSt N ws a 0 M) ∧ Hid (Below (w.heap.size + 1) W0 wr)) (fun av _ => N - (intOf av).toNat)
    case atStart => exact ⟨0, _, _, Nat.zero_le _, rfl, Lib.hid (HO0.out.mono hgO'), Lib.hid (LapSt.start N ws), HB⟩
    case round =>
      clear x0 x1 x2 x3 q0 q1 q2 q3 hmk
      obtain ⟨a, rs, M, ha, rfl, hO, hL, hB⟩ := hrel
      obtain ⟨x0, x1, x2, x3⟩ := HBX.out.below hB.out (Nat.lt_succ_self _)
      by_cases hlt : a < N
      · obtain ⟨wo, hwo⟩ : ∃ wo, wo = wr := ⟨_, rfl⟩
        subst hwo
        go_wp2
        go_loopw [19] (fun bv wi => ∃ (b : Nat) (rs : List Value) (M : MatI), b ≤ N ∧ bv = .int .i64 b ∧ Hid (OwnsR wi (w.heap.size + 1) (.slice (some ⟨gO, 0, none⟩) N N) rs M) ∧ Hid (LapSt N ws a b M) ∧ Hid (Below (w.heap.size + 1) W0 wi)) (fun bv _ => N - (intOf bv).toNat)
        case atStart => exact ⟨0, rs, M, Nat.zero_le _, rfl, hO, hL, hB⟩
        case round =>
          clear x0 x1 x2 x3
          clear hO hL hB
          obtain ⟨b, rs, M, hbn, rfl, hO, hL, hB⟩ := hrel
          have hsz := hB.out.size
          rw [hsW] at hsz
          have hX := HBX.out.below hB.out (Nat.lt_succ_self _)
          obtain ⟨hal, hrow⟩ := hL.out.row hlt
          obtain ⟨r, hrs, hro⟩ := hO.out.row a hal
          rw [hrow] at hro
          have hO1 := hO.out.1
          rw [hL.out.1] at hO1
          have hoc := hO1.cellAt a (by omega)
          rw [hrs] at hoc
          have hof := hO1.frozenAt a
          have hrd := HR.out.later (show Below W0.heap.size W0 wr by rw [hsW]; exact hB.out)
          replace hrd := hrd.later (below_draws (Below.refl _ wr) 1)
          have hap := own_apart hO1 hro (Ne.symm int_ne_row)
          have hnG : some gO ≠ r.ownBlock := by
            rcases hap with h | h
            · simp [Value.ownBlock] at h
            · exact h
          have hnB : some w.heap.size ≠ r.ownBlock := fun h => by have := (hro.lt _ h.symm).1; omega
          clear hap
          by_cases hbl : b < N
          · obtain ⟨z1, z2⟩ := wBtw_le HW.out (a : Int) (b : Int)
            have hng : IntKind.i64.wrap (-wBtw ws (a : Int) (b : Int)) = -wBtw ws (a : Int) (b : Int) := IntWalk.i64_in _ (by omega)
            have hneB : gO ≠ w.heap.size := by omega
            have k1 : (rawRow ws a b).length + 1 ≤ 1099511627776 := by rw [rawRow_length]; omega
            have HSN := Lib.hid (rawRow_snoc ws a b)
            obtain ⟨pr, cr, hu5⟩ := owns_shape hro
            have hS : wr.drew.cell? ⟨w.heap.size, 0, none⟩ = some (.int .i64 N) ∧ wr.drew.cell? ⟨w.heap.size, 1, none⟩ = some (.int .i64 e) ∧ wr.drew.cell? ⟨w.heap.size, 2, none⟩ = some (.int .i64 s) ∧ wr.drew.cell? ⟨w.heap.size, 3, none⟩ = some (.slice p ws.length cap) := hX
            have hoc' : wr.drew.cell? ⟨gO, a, none⟩ = some r := hoc
            have HX := Lib.hid hX; clear hX
            have Hro := Lib.hid hro; clear hro
            have Hof := Lib.hid hof; clear hof
            have HO1 := Lib.hid hO1; clear hO1
            clear hoc
            subst hu5
            go_wp2
            obtain ⟨y0, y1, y2, y3⟩ := id hS
            go_region_law
              (first
                | (refine step_call (R := fun v w' => v = .int .i64 (wBtw ws (a : Int) (b : Int)) ∧ Below wr.drew.heap.size wr.drew w') ((impl_wBtw N e s a b _ ws _ hrd).mono (fun en w' h => ⟨_, h.1, rfl, h.2⟩)) (by rfl) (by go_simp) ?_; rintro v w2 ⟨rfl, B2⟩; have B2' : Below wr.heap.size wr w2 := (below_draws (Below.refl _ wr) 1).trans B2; have own2 := owns_later Hro.out B2'; have k2 : w.heap.size + 1 ≤ w2.heap.size := Nat.le_trans hsz B2'.size; have d2 := (B2.cell (p := ⟨gO, a, none⟩) (HO1.out.lt gO rfl).2).trans hoc'; have d2a := fun o => (World.cell?_alloc_old w2 o ⟨gO, a, none⟩ (Nat.ne_of_lt (Nat.lt_of_lt_of_le (HO1.out.lt gO rfl).2 B2'.size))).trans d2)
                | ((refine step_append_int own2 k1 k2 (by first | exact Or.inl rfl | exact Or.inr rfl) (by rfl) (by rfl) (by rfl) (by rfl) (by rfl) ?_); intro g3 c3 w3 hv3 hs3 hG3 hlie; have d3 := hG3.cell d2 hnG; have f3 : w3.frozen? ⟨gO, a, none⟩ = false := (hG3.frozen_far ⟨gO, a, none⟩ (Nat.lt_of_lt_of_le (HO1.out.lt gO rfl).2 B2'.size) hnG).trans ((B2'.frozen (p := ⟨gO, a, none⟩) (HO1.out.lt gO rfl).2).trans Hof.out)))
            all_goals
              have hOR := OwnsR.set_row (hO.out.later B2') hrs hG3 hv3 (by
                rcases hlie with h | h
                · exact .inl h.symm
                · exact .inr ⟨g3, rfl, by omega⟩)
              rw [← HSN.out] at hOR
              have HOR := Lib.hid hOR; clear hOR
              have HBB := Lib.hid (((hB.out.trans (B2'.mono hsz)).grown hG3 k2 (fun k hk => (own2.lt k hk).1)).setCell (p := ⟨gO, a, none⟩) hgO' (.slice (some ⟨g3, 0, none⟩) ((rawRow ws a b).length + 1) c3))
              clear hlie hv3 hs3 hG3 d2 d2a d3 f3 own2 B2 B2' y0 y1 y2 y3 hoc' hS
              go_wp2
              go_roundw
              case rel => exact ⟨b + 1, _, _, by omega, by go_num, HOR, Lib.hid (hL.out.next hlt), HBB⟩
              case measure => simp [intOf]; omega
          · obtain rfl : b = N := by omega
            have hlen := rawRow_length ws a b
            rw [hlen] at hro
            obtain ⟨gr, cr, hu5, hgr1, hgr2⟩ := hro.form (by omega)
            subst hu5
            have hoc' : wr.drew.cell? ⟨gO, a, none⟩ = some (.slice (some ⟨gr, 0, none⟩) b cr) := hoc
            have hX2 := HBX.out.below hB.out (Nat.lt_succ_self _)
            obtain ⟨y0, y1, y2, y3⟩ : boxN wr.drew w.heap.size b e s (.slice p ws.length cap) := hX2
            have Hro := Lib.hid hro; clear hro
            have HO1 := Lib.hid hO1; clear hO1
            clear hoc hof
            go_wp2
            go_region_law
              (first
                | (refine step_call (R := fun v w' => v = .int .i64 (wAt ws (a : Int)) ∧ Below wr.drew.heap.size wr.drew w') ((impl_wAt b e s a _ ws _ hrd).mono (fun en w' h => ⟨_, h.1, rfl, h.2⟩)) (by rfl) (by go_simp) ?_; rintro v w2 ⟨rfl, B2⟩; have B2' : Below wr.heap.size wr w2 := (below_draws (Below.refl _ wr) 1).trans B2; have own2 := owns_later Hro.out B2'; have d2 := (B2.cell (p := ⟨gO, a, none⟩) (HO1.out.lt gO rfl).2).trans hoc'; have dr := own2.cellAt a (by omega); rw [cellsI_get _ a (by omega)] at dr; have fr := own2.frozenAt a))
            all_goals
              have st := own2.stored a (.int .i64 (wAt ws (a : Int)))
              have hOR := OwnsR.row_changed (hO.out.later B2') hrs st.2 (q := (rawRow ws a b).set a (wAt ws (a : Int))) (by rw [set_cellsI, List.length_set, hlen]; exact st.1)
              have HOR := Lib.hid hOR; clear hOR
              have HBB := Lib.hid ((hB.out.trans (B2'.mono hsz)).setCell (p := ⟨gr, a, none⟩) hgr1 (.int .i64 (wAt ws (a : Int))))
              clear st d2 dr fr own2 B2 B2' y0 y1 y2 y3 hoc'
              go_wp2
              go_roundw
              case rel => exact ⟨a + 1, _, _, by omega, by go_num, HOR, Lib.hid (hL.out.diag hlt), HBB⟩
              case measure => simp [intOf]; omega
      · obtain rfl : a = N := by omega
        go_wp2
        go_ret
        refine ⟨_, rfl, ⟨rs, ?_⟩, HB0.out.trans (hB.out.mono (Nat.le_succ _))⟩
        rw [← hL.out.done]
        exact hO.out.mono (Nat.le_succ _)
end Go.Proofs.Ytaececpphdaciaa
