/-
  The ring of two lists, in the program: a copy of the first one, to which the second one's numbers are appended from its end.
-/
import Derived.Test.YtalonncjdohejaaBackward
import Derived.Test.YtalonncjdohejaaRimMath
import Derived.Test.YtalonncjdohejaaGMat
import Derived.Maps.AppendAt
import Derived.RangeFuncBox
namespace Go.Proofs.Ytalonncjdohejaa
open Go.RowKit Go.Shelf

theorem clone_ints (ad : Addr) (cap : Nat) (q : List Int) (w : World) (hr : ReadsI w (.slice (some ad) q.length cap) q) (hlen : q.length ≤ 1048576) :
    Calls Try.prog 67 #[.slice (some ad) q.length cap] w fun en w' => ∃ v', en = .returned v' ∧ w'.ownsRow w.heap.size 3 1 v' q.length (cellsI q) ∧ Below w.heap.size w w' := by
  have hnil := fun a n c wx => Lib.run_eql_slice_nil (P := Try.prog) wx 49 3 a n c 0 0 Try.underlying49
  have B0 : Below w.heap.size w (w.alloc (.cells #[] 3)) := (Below.refl _ _).alloc (Nat.le_refl _) _
  have own0 := own_emptyI w w.heap.size (Nat.le_refl _)
  have hr1 := hr.later B0
  go_enter Try.func67, Try.ntmps67
  go_wp2_with (at_builtin; refine append_ints _ (by rfl) _ _ (by rfl) w.heap.size _ [] (by rfl) own0 (by rfl) ⟨_, rfl⟩ q hr1 (by simp; omega) (by simp) ?_; intro v1 w1 o1 S1 G1)
  have B1 : Below w.heap.size w w1 := B0.grown G1 (by simp) (fun k hk => (own0.lt k hk).1)
  rw [List.nil_append] at o1
  go_wp2
  go_ret
  exact ⟨_, rfl, o1, B1⟩
attribute [local go_sem] Oper.semAt_some
theorem ownsRow_pos {W : World} {base : Nat} {e : TypeId} {size : Nat} {v : Value} {k : Nat} {xs : List Value} (hk : 0 < k) (h : W.ownsRow base e size v k xs) : ∃ g cap, v = .slice (some ⟨g, 0, none⟩) k cap := by
  rcases h.2 with ⟨_, h0⟩ | ⟨g, cap, _, rfl, _⟩
  · omega
  · exact ⟨g, cap, rfl⟩
theorem back_map (q : List Int) : ∀ k, k ≤ q.length → (backL q k).map (·.2) = q.reverse.take k
  | 0, _ => by simp [backL]
  | k + 1, h => by
    rw [backL_succ, List.map_append, back_map q k (by omega), List.take_succ_eq_append_getElem (by rw [List.length_reverse]; omega)]
    simp [List.getElem_reverse, show q.length - 1 - k < q.length by omega]
set_option maxRecDepth 100000 in
set_option maxHeartbeats 4000000 in
theorem impl_ring (vp vq : Value) (p q : List Int) (w : World) (hp1 : p.length ≤ 1048576) (hq1 : q.length ≤ 1048576) (hp0 : 0 < p.length) (hq0 : 0 < q.length) (hP : ReadsI w vp p) (hQ : ReadsI w vq q) :
    Calls Try.prog 86 #[vp, vq] w fun en w' => ∃ v', en = .returned v' ∧ w'.ownsRow w.heap.size 3 1 v' (rimL p q).length (cellsI (rimL p q)) ∧ Below w.heap.size w w' := by
  obtain ⟨gp, op, cp, rfl, _, _, hgp, _⟩ := hP.pos hp0
  obtain ⟨gq, oq, cq, rfl, hcq, _, hgq, hcell⟩ := hQ.pos hq0
  have hcl := clone_ints ⟨gp, op, none⟩ cp p w hP hp1
  obtain ⟨i0, hi, hz0, hz1, hz2⟩ := info_parts Try.infoInt
  have HCL := Lib.hid hcl
  have HQC := Lib.hid hcell
  clear hcl hcell hP hQ
  refine (callsIn_wide (n := 3)).1 ?_
  refine callsIn_of_wp_marks Try.func86 rfl trivial ?_ rfl
  simp only [Try.ntmps86, List.size_toArray, List.length_cons, List.length_nil, Nat.reduceAdd, Nat.reduceSub, Array.replicate_succ, Array.replicate_zero, List.push_toArray, List.append_toArray, List.nil_append, List.cons_append]
  gi_wp2_with (refine ⟨trivial, ?_⟩; first | (gi_at_call 67; refine (callsIn_wide.2 HCL.out).mono ?_; rintro e w1 ⟨v1, rfl, o1, B1⟩; obtain ⟨g1, c1, rfl⟩ := ownsRow_pos hp0 o1) | (gi_at_call 98; refine (callsIn_wide.2 (backward_any _ _ _ _)).mono ?_; rintro e w2 ⟨rfl, rfl⟩))
  have S1 := B1.size
  have bR := (Boxed.new w1 49 (.slice (some ⟨g1, 0, none⟩) p.length c1)).alloc (.cells #[.slice (some ⟨gq, oq, none⟩) q.length cq] 49)
  have bQ := Boxed.new (w1.alloc (.cells #[.slice (some ⟨g1, 0, none⟩) p.length c1] 49)) 49 (.slice (some ⟨gq, oq, none⟩) q.length cq)
  rw [World.size_alloc] at bQ
  have hB0 : Below w.heap.size w ((w1.alloc (.cells #[.slice (some ⟨g1, 0, none⟩) p.length c1] 49)).alloc (.cells #[.slice (some ⟨gq, oq, none⟩) q.length cq] 49)) := (B1.alloc S1 _).alloc (by simp; omega) _
  have o0 := (o1.alloc (.cells #[.slice (some ⟨g1, 0, none⟩) p.length c1] 49)).alloc (.cells #[.slice (some ⟨gq, oq, none⟩) q.length cq] 49)
  have hsz : ((w1.alloc (.cells #[.slice (some ⟨g1, 0, none⟩) p.length c1] 49)).alloc (.cells #[.slice (some ⟨gq, oq, none⟩) q.length cq] 49)).heap.size = w1.heap.size + 2 := by simp
  obtain ⟨W0, hW0⟩ : ∃ W0, (w1.alloc (.cells #[.slice (some ⟨g1, 0, none⟩) p.length c1] 49)).alloc (.cells #[.slice (some ⟨gq, oq, none⟩) q.length cq] 49) = W0 := ⟨_, rfl⟩
  rw [hW0] at bR bQ hB0 o0 hsz ⊢
  clear hW0
  have hcs : ∀ j, j < q.length → W0.cell? ⟨gq, oq + j, none⟩ = some (.int .i64 (q[j]?.getD 0)) := fun j hj => by
    have h := HQC.out j hj
    rw [← hB0.cell (p := ⟨gq, oq + j, none⟩) hgq] at h
    rw [h]; simp [hj]
  refine wpIn_rangeFunc_ownG rfl (by omega) (gf := 103) (lb := #[.pointer (some ⟨w1.heap.size + 1, 0, none⟩)]) rfl trivial (enters_of Try.func103 (by kernel_rfl) rfl)
    (back_stops Fence.wide _ trivial rfl (by omega) (w1.heap.size + 1) w.heap.size gq oq cq q hcq (by omega) hgq W0 (by omega) (by omega) bQ.cell hcs) (fun h k => h.trans k)
    (fun W l o o' hl h hc hk => ⟨belowK_b (w := W0) (by omega) W l o o' hl h hc hk, fun v hv => cell_kept hv (grownBy_putObj' W l o') (fun r e => by cases e; exact ⟨_, h, hc⟩)⟩) (Below.refl _ _) (fun _ => rfl)
    (fun pre W => ((∃ v, Boxed W w1.heap.size 49 v ∧ W.ownsRow w.heap.size 3 1 v (p.length + pre.length) (cellsI (p ++ pre.map (·.2))) ∧ True) ∧ Boxed W (w1.heap.size + 1) 49 (.slice (some ⟨gq, oq, none⟩) q.length cq)) ∧ Below w.heap.size w W)
    (fun _ _ _ => False)
    (OwnFrom.and (OwnFrom.and (Own.from (holdsRow_own w.heap.size w1.heap.size 49 3 1 (fun (pre : List (Nat × Int)) => p.length + pre.length) (fun pre => cellsI (p ++ pre.map (·.2))) (fun _ _ => True)) _) (Own.from (boxed_own _ _ _) _)) (ownFrom_below (Nat.le_refl _) (by omega)))
    (fun _ _ _ _ _ hs _ _ => hs)
    ⟨⟨⟨_, bR, by simpa only [List.map_nil, List.append_nil, List.length_nil, Nat.add_zero] using o0, trivial⟩, bQ⟩, hB0⟩
    (fun x => { tmps := #[.slice (some ⟨gp, op, none⟩) p.length cp, .slice (some ⟨gq, oq, none⟩) q.length cq, undef, undef, .slice none 0 0, .pointer (some ⟨w1.heap.size, 0, none⟩), undef, .int .i64 x.2, .slice (some ⟨gp, op, none⟩) p.length cp, .slice (some ⟨g1, 0, none⟩) p.length c1, .slice (some ⟨gq, oq, none⟩) q.length cq, .func (.func 103) #[] #[.pointer (some ⟨w1.heap.size + 1, 0, none⟩)], .int .i64 (x.1 : Int), .int .i64 x.2, undef, undef, undef, undef, undef], defers := [] }) ?assign ?body ?done ?stop
  case assign =>
    intro l x W K hK
    gi_wp2
    exact hK
  case body =>
    rintro l pre x W ⟨⟨⟨v, hv, hrow, -⟩, hbq⟩, hB⟩ hlt
    have hc := hv.cell
    have hBs := hB.size
    gi_wp2_with (gi_at_builtin; refine wpListIn_append_own _ rfl _ _ 49 rfl w.heap.size 3 i0 (.int .i64 0) 1 8 Try.underlying49 hi hz0 hz1 hz2 rfl (by decide) _ _ _ rfl (hrow.alloc _) ⟨W.heap.size, 0, none⟩ 1 1 [.int .i64 x.2] rfl rfl (cell_one_new _ _ _) (by simp [Value.oneCell']) (by unfold maxLen; omega) (by omega) (by simp; omega) ?_; intro v' w3 hown' hgrow _; obtain ⟨g', cap', rfl⟩ := ownsRow_succ hown'; obtain ⟨hv1, hv2, hr2, hk2, hb2⟩ := hv.appended (by decide) hrow hB.size (by omega) hown' hgrow; have hbq2 := (((hbq.alloc _).kept hgrow (hbq.not_row (by decide) hrow)).other (show w1.heap.size + 1 ≠ w1.heap.size by omega) (.slice (some ⟨g', 0, none⟩) (p.length + pre.length + 1) cap')); have hc1 := hv1.cell; have hf1 := hv1.frozen)
    have hr3 : (w3.setCell ⟨w1.heap.size, 0, none⟩ (.slice (some ⟨g', 0, none⟩) (p.length + pre.length + 1) cap')).ownsRow w.heap.size 3 1 (.slice (some ⟨g', 0, none⟩) (p.length + pre.length + 1) cap') (p.length + (pre ++ [x]).length) (cellsI (p ++ (pre ++ [x]).map (·.2))) := by
      rw [List.map_append, List.map_cons, List.map_nil, ← List.append_assoc, cellsI_snoc, List.length_append]
      exact hr2
    exact ⟨hk2.from _, ⟨hb2, fun u hu => by rw [hbq.cell] at hu; cases hu; exact hbq2.cell⟩, ⟨⟨_, hv2, hr3, trivial⟩, hbq2⟩, hB.trans hb2⟩
  case done =>
    rintro D ys W hD rfl ⟨⟨⟨v, hv, hrow, -⟩, hbq⟩, hB⟩ hK
    have hc := hv.cell
    rw [back_map q _ (Nat.le_refl _), rim_all, backL_length, ← rim_length] at hrow
    gi_wp2
    refine ⟨by simp, .inl ⟨_, _, rfl, run_takeDeferred hK, ?_⟩⟩
    exact ⟨_, results_tmp rfl _ _ _, v, rfl, ownsRow_putObj hrow _ hK rfl, hB.trans (belowK_b (w := W0) (by omega) W D _ _ hD hK rfl rfl)⟩
  case stop =>
    rintro D c pre W _ _ h _
    exact h.elim
end Go.Proofs.Ytalonncjdohejaa
