/-
  slices.Concat of two slices of numbers, the first of which may be nil: what is handed back is new memory.
-/
import Derived.Test.YtalonncjdohejaaGDet
import Derived.Deep.Upon
namespace Go.Proofs.Ytalonncjdohejaa
open Go.RowKit

/-- append(s, xs...): xs may be nil. -/
theorem append_intsN {ops : Array Oper} {rest : List Oper} {o : Oper} {a : Act} {Q : Exit → Act → World → Prop} (wr : World) (hgd : o.guard = none) (s x : Operand)
    (ho : o.op = .call { callee := .builtin .append, args := #[s, x], argTypes := #[49, 49] })
    (base : Nat) (v : Value) (q : List Int) (hs : a.eval s = v) (hown : wr.ownsRow base 3 1 v q.length (cellsI q))
    {p : Option Addr} {m c : Nat} (hx : a.eval x = .slice p m c) (hp : p = none → m = 0) (ns : List Int) (hns : ReadsI wr (.slice p m c) ns) (hn : q.length + ns.length ≤ 1099511627776) (hbase : base ≤ wr.heap.size)
    (h : ∀ v' w', w'.ownsRow base 3 1 v' (q ++ ns).length (cellsI (q ++ ns)) → wr.heap.size ≤ w'.heap.size → wr.grownBy w' v.ownBlock → wpList Try.prog ops Q rest (a.put o.dst v') w') :
    wpList Try.prog ops Q (o :: rest) a wr := by
  cases p with
  | some ad => exact append_ints wr hgd s x ho base v q hs hown hx ⟨ad, rfl⟩ ns hns hn hbase h
  | none =>
    obtain rfl := hp rfl
    have hml := hns.len
    obtain rfl : ns = [] := List.eq_nil_of_length_eq_zero (by omega)
    obtain ⟨i0, hi, hz0, hz1, hz2⟩ := info_parts Try.infoInt
    obtain ⟨cap, p', rfl, hc⟩ : ∃ cap p', v = .slice p' q.length cap ∧ q.length ≤ cap := by
      rcases hown.2 with ⟨hv0, hn0⟩ | ⟨g, cap, _, rfl, _, _, hle, _⟩
      · exact ⟨0, none, by rw [hn0]; exact hv0, by omega⟩
      · exact ⟨cap, _, rfl, hle⟩
    have hr := run_append_nothing (P := Try.prog) wr 49 49 o.type 3 i0 Try.underlying49 hi p' q.length cap hc (.slice none 0 c) (Src.ofNil wr Try.underlying49 c)
    refine wpList_plain hgd fun K hK => ?_
    unfold Oper.wp execOp
    simp only [ho, resolve, invoke, builtin, Sem.run_bind, Sem.run_pure, Result.andThen_ok, List.map_toArray, List.map_cons, List.map_nil, hs, hx, hr]
    exact hK _ _ (h _ _ (by rw [List.append_nil]; exact hown) (Nat.le_refl _) (World.grownBy.refl _ _))
set_option maxRecDepth 8000 in
set_option maxHeartbeats 6400000 in
theorem concat_own (b : Nat) (p1 p2 : Option Addr) (n1 c1 n2 c2 : Nat) (q1 q2 : List Int) (w : World) (h1 : w.cell? ⟨b, 0, none⟩ = some (.slice p1 n1 c1)) (h2 : w.cell? ⟨b, 1, none⟩ = some (.slice p2 n2 c2))
    (k1 : ReadsI w (.slice p1 n1 c1) q1) (k2 : ReadsI w (.slice p2 n2 c2) q2) (hp1 : p1 = none → n1 = 0) (hp2 : p2 = none → n2 = 0) (hl1 : q1.length ≤ 5) (hl2 : q2.length ≤ 5) :
    Calls Try.prog 83 #[.slice (some ⟨b, 0, none⟩) 2 2] w fun e w' => ∃ v', e = .returned v' ∧ w'.ownsRow w.heap.size 3 1 v' (q1 ++ q2).length (cellsI (q1 ++ q2)) ∧ Below w.heap.size w w' := by
  have e1 := k1.len
  have e2 := k2.len
  subst e1; subst e2
  have hb := World.block_lt_of_cell? w _ h1
  have H1 := Lib.hid k1; clear k1
  have H2 := Lib.hid k2; clear k2
  have P1 := Lib.hid hp1; clear hp1
  have P2 := Lib.hid hp2; clear hp2
  go_enter Try.func83, Try.ntmps83
  go_wp2
  refine wp_loop_rounds 3 ?_
  rw [rounds_succ]
  go_wp2
  rw [rounds_succ]
  go_wp2
  rw [rounds_succ]
  go_wp2_with fail
  refine (grow_nil' _ (q1.length + q2.length) (by simp) (by omega) w).mono ?_
  rintro en w1 ⟨v1, rfl, o1, B1⟩
  have hb1 := B1.size
  have d1 : w1.cell? ⟨b, 0, none⟩ = some (.slice p1 q1.length c1) := by rw [B1.cell (p := ⟨b, 0, none⟩) hb]; exact h1
  have d2 : w1.cell? ⟨b, 1, none⟩ = some (.slice p2 q2.length c2) := by rw [B1.cell (p := ⟨b, 1, none⟩) hb]; exact h2
  clear h1 h2
  go_wp2
  refine wp_loop_rounds 3 ?_
  rw [rounds_succ]
  go_wp2_with (at_builtin; refine append_intsN _ rfl _ _ rfl w.heap.size v1 [] rfl o1 rfl P1.out q1 (H1.out.later B1) (by simp; omega) hb1 ?_; intro v2 w2 o2 S2 G2)
  have B2 : Below w.heap.size w w2 := B1.grown G2 (by omega) (fun k hk => (o1.lt k hk).1)
  have d3 : w2.cell? ⟨b, 1, none⟩ = some (.slice p2 q2.length c2) := by rw [G2.cell_far ⟨b, 1, none⟩ (by simp; omega) (fun e => by have := (o1.lt b e.symm).1; omega)]; exact d2
  clear d1 d2
  go_wp2
  rw [rounds_succ]
  go_wp2_with (at_builtin; refine append_intsN _ rfl _ _ rfl w.heap.size v2 ([] ++ q1) rfl o2 rfl P2.out q2 (H2.out.later B2) (by simp; omega) (by omega) ?_; intro v3 w3 o3 S3 G3)
  have B3 : Below w.heap.size w w3 := B2.grown G3 (by omega) (fun k hk => (o2.lt k hk).1)
  go_wp2
  rw [rounds_succ]
  go_wp2
  go_ret
  rw [List.nil_append] at o3
  exact ⟨_, rfl, o3, B3⟩
/-- slices.Concat(xs, []int{x}), as a region lays it. -/
theorem concat_at (wr W : World) (x : Int) (px : Option Addr) (cx : Nat) (L : List Int) (t1 t2 : TypeId) (hW : W = ((wr.alloc (.cells #[.int .i64 x] t1)).alloc (.cells #[.slice px L.length cx, .slice (some ⟨wr.heap.size, 0, none⟩) 1 1] t2)).drew) (k1 : ReadsI wr (.slice px L.length cx) L) (hp : px = none → L.length = 0) (hl : L.length ≤ 4) :
    Calls Try.prog 83 #[.slice (some ⟨wr.heap.size + 1, 0, none⟩) 2 2] W fun e w' => ∃ v', e = .returned v' ∧ w'.ownsRow wr.heap.size 3 1 v' (L ++ [x]).length (cellsI (L ++ [x])) ∧ Below wr.heap.size wr w' := by
  have hB : Below wr.heap.size wr W := by rw [hW]; (repeat (first | exact Below.refl _ _ | (refine Below.setCell ?_ (by (first | exact Nat.le_refl _ | omega | (simp <;> omega) | simp)) _) | (refine Below.alloc ?_ (by (first | exact Nat.le_refl _ | omega | (simp <;> omega) | simp)) _) | (refine below_draws ?_ _)))
  have hs : W.heap.size = wr.heap.size + 2 := by rw [hW]; simp
  have h1 : W.cell? ⟨wr.heap.size + 1, 0, none⟩ = some (.slice px L.length cx) := by rw [hW]; simp [go_sem]
  have h2 : W.cell? ⟨wr.heap.size + 1, 1, none⟩ = some (.slice (some ⟨wr.heap.size, 0, none⟩) 1 1) := by rw [hW]; simp [go_sem]
  have h3 : W.cell? ⟨wr.heap.size, 0, none⟩ = some (.int .i64 x) := by rw [hW]; simp [go_sem]
  have k2 : ReadsI W (.slice (some ⟨wr.heap.size, 0, none⟩) 1 1) [x] := ⟨_, 1, rfl, Nat.le_refl _, by omega, .inr ⟨_, 0, rfl, fun j hj => by
    obtain rfl : j = 0 := by simp at hj; exact hj
    exact h3⟩⟩
  refine (concat_own (wr.heap.size + 1) px _ _ _ _ _ L [x] W h1 h2 (k1.later hB) k2 hp (fun h => by cases h) (by omega) (by simp)).mono ?_
  rintro e w' ⟨v', rfl, o1, B1⟩
  refine ⟨v', rfl, ⟨o1.1, ?_⟩, hB.trans (B1.mono (by omega))⟩
  rcases o1.2 with h0 | ⟨g, cap, cur, rfl, h1, h2, h3⟩
  · exact .inl h0
  · exact .inr ⟨g, cap, cur, rfl, by omega, h2, h3⟩
end Go.Proofs.Ytalonncjdohejaa
