/-
  l03Drop and l03Put in the model.
-/
import Derived.Test.YthhnicbkldknlaaInsMath
import Derived.Test.YthhnicbkldknlaaCanon
namespace Go.Proofs.Ythhnicbkldknlaa
open Go.RowKit

/-- 'append(v, x)' of one wire, where v is the call's own; and where the new slice lies. -/
theorem append_wire2 {ops : Array Oper} {rest : List Oper} {o : Oper} {a : Act} {Q : Exit → Act → World → Prop} (wr : World) (hgd : o.guard = none) (s x : Operand)
    (ho : o.op = .call { callee := .builtin .append, args := #[s, x], argTypes := #[23, 23] })
    (base : Nat) (w0 : World) (v : Value) (ws : List W3) (u : W3) (hs : a.eval s = v) (hown : wr.ownsRow base 35 3 v ws.length (cellsW ws))
    {b1 : Nat} (hx : a.eval x = .slice (some ⟨b1, 0, none⟩) 1 1) (hb1 : b1 = wr.heap.size) (hn : ws.length + 1 ≤ 1099511627776) (hbase : base ≤ wr.heap.size) (hB : Below base w0 wr)
    (h : ∀ v' w', w'.ownsRow base 35 3 v' (ws ++ [u]).length (cellsW (ws ++ [u])) → wr.heap.size ≤ w'.heap.size → Below base w0 w' → wr.grownBy w' v.ownBlock → (∀ j, v'.ownBlock = some j → v.ownBlock = some j ∨ wr.heap.size ≤ j) → wpList Try.prog ops Q rest (a.put o.dst v') w') :
    wpList Try.prog ops Q (o :: rest) a (wr.alloc (.cells #[.int .i64 u.1, .int .i64 u.2.1, .int .i64 u.2.2] 35)) := by
  subst hb1
  obtain ⟨i0, hi, hz0, hz1, hz2⟩ := info_parts Try.infoWireB
  refine wpList_append_lies _ hgd s x 23 ho base 35 i0 (.agg #[.int .i64 0, .int .i64 0, .int .i64 0]) 3 24 Try.underlying23 hi hz0 hz1 hz2 rfl (by decide) v ws.length (cellsW ws) hs (hown.alloc _) ⟨wr.heap.size, 0, none⟩ 1 1 [.int .i64 u.1, .int .i64 u.2.1, .int .i64 u.2.2] hx rfl (three_new _ _ _ _ _) (by simp [Value.oneCell']) (by omega) (by unfold maxLen; omega) (by omega) (by simp; omega) (wr.heap.size + 1) (by simp) ?_
  intro g cap w' h1 h2 hat _
  have h3 := h2.size
  simp at h3
  refine h _ w' (by rw [cellsW_snoc, List.length_append]; exact h1) (by omega) ((hB.alloc hbase _).grown h2 (by simp; omega) (fun k hk => (hown.lt k hk).1)) ?_ ?_
  · exact ⟨h2.os, h2.tape, h2.output, by omega, fun i hi hr => by rw [h2.block i (by simp; omega) hr, heap_alloc_old _ _ hi]⟩
  · intro j hj
    simp only [Value.ownBlock, Option.some.injEq] at hj
    subst hj
    rcases hat with hat | hat
    · exact .inl hat
    · exact .inr (by omega)

theorem own_empty (w : World) (base : Nat) (hb : base ≤ w.heap.size) : (w.alloc (.cells #[] 35)).ownsRow base 35 3 (.slice (some ⟨w.heap.size, 0, none⟩) 0 0) 0 [] :=
  World.ownsRow_lit w #[] 0 hb (Nat.zero_le _) rfl
theorem dropZ_snoc (ws : List W3) (k : Nat) (h : k < ws.length) : dropZ (ws.take (k + 1)) = if ws[k].2.2 = 0 then dropZ (ws.take k) else dropZ (ws.take k) ++ [ws[k]] := by
  unfold dropZ
  rw [List.take_succ_eq_append_getElem h, List.filter_append]
  by_cases h0 : ws[k].2.2 = 0 <;> simp [h0]

set_option maxRecDepth 4000 in
set_option maxHeartbeats 6400000 in
theorem spec_drop (v : Value) (ws : List W3) (w : World) (hr : ReadsW w v ws) (hlen : ws.length ≤ 1048580) :
    Calls Try.prog 94 #[v] w fun en w' => ∃ p c, en = .returned (.slice p (dropZ ws).length c) ∧ w'.ownsRow w.heap.size 35 3 (.slice p (dropZ ws).length c) (dropZ ws).length (cellsW (dropZ ws)) ∧ Below w.heap.size w w' := by
  obtain ⟨hm, hr1⟩ := hr
  have o0 := Lib.hid (own_empty w w.heap.size (Nat.le_refl _))
  rcases hr1 with ⟨hx, p, cap, rfl⟩ | ⟨g0, o, cap, rfl, hc⟩
  · subst hx
    go_enter Try.func94, Try.ntmps94
    go_wp2
    refine wp_loop_rounds 1 ?_
    rw [rounds_succ]
    go_wp2
    go_ret
    exact ⟨_, _, rfl, o0.out, by (repeat (first | exact Below.refl _ _ | (refine Below.setCell ?_ (by (first | exact Nat.le_refl _ | omega | (simp <;> omega) | simp)) _) | (refine Below.alloc ?_ (by (first | exact Nat.le_refl _ | omega | (simp <;> omega) | simp)) _) | (refine below_draws ?_ _)))⟩
  have HC := Lib.hid hc; clear hc
  go_enter Try.func94, Try.ntmps94
  go_wp2
  go_loopw [3, 9] (fun s3 i wr => ∃ (k : Nat) (os : List W3), k ≤ ws.length ∧ i = .int .i64 k ∧ os.length ≤ k ∧ Hid (os = dropZ (ws.take k)) ∧ wr.ownsRow w.heap.size 35 3 s3 os.length (cellsW os) ∧ w.heap.size < wr.heap.size ∧ Hid (Below w.heap.size w wr)) (fun _ i _ => ws.length - (intOf i).toNat)
  case atStart => exact ⟨0, [], Nat.zero_le _, rfl, Nat.le_refl _, Lib.hid rfl, o0.out, by simp, Lib.hid (by (repeat (first | exact Below.refl _ _ | (refine Below.setCell ?_ (by (first | exact Nat.le_refl _ | omega | (simp <;> omega) | simp)) _) | (refine Below.alloc ?_ (by (first | exact Nat.le_refl _ | omega | (simp <;> omega) | simp)) _) | (refine below_draws ?_ _))))⟩
  case round =>
    obtain ⟨k, os, hk, rfl, hol, hos, hown, hsz, hB⟩ := hrel
    obtain ⟨pv, cv, rfl⟩ := owns_shape hown
    by_cases hlt : k < ws.length
    · obtain ⟨c0, c1, c2⟩ := HC.out k hlt
      have hg : g0 < w.heap.size := World.block_lt_of_cell? w _ c0
      rw [← hB.out.cell (p := ⟨g0, o + k * 3, none⟩) hg] at c0
      rw [← hB.out.cell (p := ⟨g0, o + k * 3 + 1, none⟩) hg] at c1
      rw [← hB.out.cell (p := ⟨g0, o + k * 3 + 2, none⟩) hg] at c2
      have hne : g0 ≠ wr.heap.size := by omega
      have hsn := dropZ_snoc ws k hlt
      by_cases h0 : ws[k].2.2 = 0
      · rw [if_pos h0] at hsn
        have HS := Lib.hid hsn
        have h0' : (ws[k].2.2 == 0) = true := by simpa using h0
        clear hsn h0
        go_wp2
        go_roundw
        case rel => exact ⟨k + 1, os, by omega, by go_num, by omega, Lib.hid (by rw [HS.out, hos.out]), owns_later hown (by (repeat (first | exact Below.refl _ _ | (refine Below.setCell ?_ (by (first | exact Nat.le_refl _ | omega | (simp <;> omega) | simp)) _) | (refine Below.alloc ?_ (by (first | exact Nat.le_refl _ | omega | (simp <;> omega) | simp)) _) | (refine below_draws ?_ _)))), by simp; omega, Lib.hid (by have hB := hB.out; (repeat (first | exact Below.refl _ _ | (refine Below.setCell ?_ (by (first | exact Nat.le_refl _ | omega | (simp <;> omega) | simp)) _) | (refine Below.alloc ?_ (by (first | exact Nat.le_refl _ | omega | (simp <;> omega) | simp)) _) | (refine below_draws ?_ _) | exact hB | (refine Below.trans ?_ (Below.mono hB (by (first | exact Nat.le_refl _ | omega | (simp <;> omega) | simp)))))))⟩
        case measure => simp [intOf]; omega
      · rw [if_neg h0] at hsn
        have HS := Lib.hid hsn
        have h0' : (ws[k].2.2 == 0) = false := by simpa using h0
        clear hsn h0
        go_wp2_with (at_builtin; refine append_wire _ rfl _ _ rfl w.heap.size w _ os ws[k] rfl (owns_later hown (by (repeat (first | exact Below.refl _ _ | (refine Below.setCell ?_ (by (first | exact Nat.le_refl _ | omega | (simp <;> omega) | simp)) _) | (refine Below.alloc ?_ (by (first | exact Nat.le_refl _ | omega | (simp <;> omega) | simp)) _) | (refine below_draws ?_ _))))) rfl (by simp) (by omega) (by simp; omega) (by have hB := hB.out; (repeat (first | exact Below.refl _ _ | (refine Below.setCell ?_ (by (first | exact Nat.le_refl _ | omega | (simp <;> omega) | simp)) _) | (refine Below.alloc ?_ (by (first | exact Nat.le_refl _ | omega | (simp <;> omega) | simp)) _) | (refine below_draws ?_ _) | exact hB | (refine Below.trans ?_ (Below.mono hB (by (first | exact Nat.le_refl _ | omega | (simp <;> omega) | simp))))))) ?_; intro v' w1 hown1 hsz1 hB1 hG1)
        simp at hsz1
        refine ⟨⟨k + 1, os ++ [ws[k]], by omega, by go_num, by simp; omega, Lib.hid (by rw [HS.out, hos.out]), hown1, by omega, Lib.hid hB1⟩, ?_⟩
        simp [intOf]; omega
    · obtain rfl : k = ws.length := by omega
      rw [List.take_length] at hos
      obtain rfl := hos.out
      go_wp2
      go_ret
      exact ⟨pv, cv, rfl, hown, hB.out⟩
end Go.Proofs.Ythhnicbkldknlaa
