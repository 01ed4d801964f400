/-
  l03Drop and l03Put in the model.
-/
import Derived.Test.YtnbbmpilpeakiaaInsMath
import Derived.Test.YtnbbmpilpeakiaaCanon
namespace Go.Proofs.Ytnbbmpilpeakiaa
open Go.RowKit

/-- 'append(v, x)' of one wire, where v is the call's own; and where the new slice lies. -/
theorem append_wire2 {ops : Array Oper} {rest : List Oper} {o : Oper} {a : Act} {Q : Exit → Act → World → Prop} (wr : World) (hgd : o.guard = none) (s x : Operand)
    (ho : o.op = .call { callee := .builtin .append, args := #[s, x], argTypes := #[31, 31] })
    (base : Nat) (w0 : World) (v : Value) (ws : List W3) (u : W3) (hs : a.eval s = v) (hown : wr.ownsRow base 81 3 v ws.length (cellsW ws))
    {b1 : Nat} (hx : a.eval x = .slice (some ⟨b1, 0, none⟩) 1 1) (hb1 : b1 = wr.heap.size) (hn : ws.length + 1 ≤ 1099511627776) (hbase : base ≤ wr.heap.size) (hB : Below base w0 wr)
    (h : ∀ v' w', w'.ownsRow base 81 3 v' (ws ++ [u]).length (cellsW (ws ++ [u])) → wr.heap.size ≤ w'.heap.size → Below base w0 w' → wr.grownBy w' v.ownBlock → (∀ j, v'.ownBlock = some j → v.ownBlock = some j ∨ wr.heap.size ≤ j) → wpList Try.prog ops Q rest (a.put o.dst v') w') :
    wpList Try.prog ops Q (o :: rest) a (wr.alloc (.cells #[.int .i64 u.1, .int .i64 u.2.1, .int .i64 u.2.2] 81)) := by
  subst hb1
  obtain ⟨i0, hi, hz0, hz1, hz2⟩ := info_parts Try.infoWireB
  refine wpList_append_lies _ hgd s x 31 ho base 81 i0 (.agg #[.int .i64 0, .int .i64 0, .int .i64 0]) 3 24 Try.underlying31 hi hz0 hz1 hz2 rfl (by decide) v ws.length (cellsW ws) hs (hown.alloc _) ⟨wr.heap.size, 0, none⟩ 1 1 [.int .i64 u.1, .int .i64 u.2.1, .int .i64 u.2.2] hx rfl (three_new _ _ _ _ _) (by simp [Value.oneCell']) (by omega) (by unfold maxLen; omega) (by omega) (by simp; omega) (wr.heap.size + 1) (by simp) ?_
  intro g cap w' h1 h2 hat _
  have h3 := h2.size
  simp at h3
  refine h _ w' (by rw [cellsW_snoc, List.length_append]; exact h1) (by omega) ((hB.alloc hbase _).grown h2 (by simp; omega) (fun k hk => (hown.lt k hk).1)) ?_ ?_
  · exact ⟨h2.os, h2.tape, h2.output, by omega, fun i hi hr => by rw [h2.block i (by simp; omega) hr, heap_alloc_old _ _ hi]⟩
  · intro j hj
    simp only [Value.ownBlock, Option.some.injEq] at hj
    subst hj
    rcases hat with hat | hat
    · exact .inl hat
    · exact .inr (by omega)

theorem own_empty (w : World) (base : Nat) (hb : base ≤ w.heap.size) : (w.alloc (.cells #[] 81)).ownsRow base 81 3 (.slice (some ⟨w.heap.size, 0, none⟩) 0 0) 0 [] :=
  World.ownsRow_lit w #[] 0 hb (Nat.zero_le _) rfl
theorem dropZ_snoc (ws : List W3) (k : Nat) (h : k < ws.length) : dropZ (ws.take (k + 1)) = if ws[k].2.2 = 0 then dropZ (ws.take k) else dropZ (ws.take k) ++ [ws[k]] := by
  unfold dropZ
  rw [List.take_succ_eq_append_getElem h, List.filter_append]
  by_cases h0 : ws[k].2.2 = 0 <;> simp [h0]

end Go.Proofs.Ytnbbmpilpeakiaa
