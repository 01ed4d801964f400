/-
  CountTrees in the model and in the program.
-/
import Derived.Test.YtaececpphdaciaaForestImpl
import Derived.Test.YtaececpphdaciaaGForest
import Derived.Test.YtaececpphdaciaaCanon
namespace Go.Proofs.Ytaececpphdaciaa
open Go.RowKit

def one1 (e : W3) : W3 := (e.1, e.2.1, 1)
def ones (ws : List W3) : List W3 := ws.map one1
theorem ones_length (ws : List W3) : (ones ws).length = ws.length := by simp [ones]
theorem ones_snoc (ws : List W3) (k : Nat) (h : k < ws.length) : ones (ws.take (k + 1)) = ones (ws.take k) ++ [(ws[k].1, ws[k].2.1, 1)] := by
  unfold ones; rw [List.take_succ_eq_append_getElem h, List.map_append]; rfl
theorem ones_net {n e s : Int} {ws : List W3} (h : netB n e s ws = true) (s' : Int) (h1 : 1 ≤ s') (h2 : s' ≤ 1000) : netB n e s' (ones ws) = true := by
  obtain ⟨⟨a1, a2, a3, a4, a5, a6⟩, hw, hc⟩ := netB_iff.1 h
  refine netB_true ⟨⟨a1, a2, a3, a4, h1, h2⟩, ⟨fun k hk => ?_, fun k hk => ?_⟩, fun v hv0 hv1 S h0 hS => hc v hv0 hv1 S h0 (fun w hw' => ?_)⟩
  · have hk' : k < ws.length := by rwa [ones_length] at hk
    obtain ⟨v1, v2, v3, v4, v5⟩ := hw.1 k hk'
    simp only [ones, List.getElem_map, one1]
    exact ⟨v1, v2, v3, by show (1 : Int) ≤ 1; decide, by show (1 : Int) ≤ 200; decide⟩
  · have hk' : k + 1 < ws.length := by rwa [ones_length] at hk
    have := hw.2 k hk'
    simp only [ones, List.getElem_map, one1]
    exact this
  · exact hS (one1 w) (List.mem_map.2 ⟨w, hw', rfl⟩)
noncomputable def countR (n e s : Int) (ws : List W3) : Int := if netB n e s ws = true then treeR n e s (ones ws) else 0
theorem count_spec {n e s : Int} {ws : List W3} (h : netB n e s ws = true) : countR n e s ws = treeR n e 1 (ones ws) := by
  obtain ⟨⟨a1, a2, a3, a4, a5, a6⟩, hw, hc⟩ := netB_iff.1 h
  unfold countR treeR
  rw [if_pos h, if_pos (ones_net h s a5 a6), if_pos (ones_net h 1 (by omega) (by omega))]
theorem wires_few {n : Int} {ws : List W3} (hw : WiresV n ws) (hn : n ≤ 5) : ws.length ≤ 25 := by
  obtain ⟨N, hN⟩ : ∃ N : Nat, N = n.toNat := ⟨_, rfl⟩
  have hnd : (ws.map fun e => e.1 * 5 + e.2.1).Nodup := by
    rw [List.nodup_iff_pairwise_ne, List.pairwise_map]
    refine (pairW hw).imp_of_mem fun {a b} ha hb hab => ?_
    obtain ⟨v1, v2, v3, v4, v5⟩ := hw.mem ha
    obtain ⟨u1, u2, u3, u4, u5⟩ := hw.mem hb
    unfold wLt at hab
    omega
  have := queue_le (n := 25) hnd (fun v hv => by
    obtain ⟨e, he, rfl⟩ := List.mem_map.1 hv
    obtain ⟨v1, v2, v3, v4, v5⟩ := hw.mem he
    omega)
  simpa using this
theorem ReadsW.at3 {w : World} {p : Option Addr} {n c : Nat} {ws : List W3} (h : ReadsW w (.slice p n c) ws) : ∀ k, (h : k < ws.length) → ∃ g o, p = some ⟨g, o, none⟩ ∧ w.cell? ⟨g, o + k * 3, none⟩ = some (.int .i64 ws[k].1) ∧ w.cell? ⟨g, o + k * 3 + 1, none⟩ = some (.int .i64 ws[k].2.1) ∧ w.cell? ⟨g, o + k * 3 + 2, none⟩ = some (.int .i64 ws[k].2.2) := fun k hk => by
  rcases h.2 with ⟨hx, _⟩ | ⟨g, o, cap, hv, hc⟩
  · subst hx; simp at hk
  · simp only [Value.slice.injEq] at hv
    exact ⟨g, o, hv.1, hc k hk⟩
theorem append_wireC {ops : Array Oper} {rest : List Oper} {o : Oper} {a : Act} {Q : Exit → Act → World → Prop} {wr w0 : World} {s x : Operand} {base : Nat} {v : Value} {ws : List W3} {u1 u2 u3 : Int} {b1 : Nat} (hown : wr.ownsRow base 29 3 v ws.length (cellsW ws)) (hn : ws.length + 1 ≤ 1099511627776) (hbase : base ≤ wr.heap.size) (hB : Below base w0 wr)
    (hgd : o.guard = none) (ho : o.op = .call { callee := .builtin .append, args := #[s, x], argTypes := #[23, 23] }) (hs : a.eval s = v) (hx : a.eval x = .slice (some ⟨b1, 0, none⟩) 1 1) (hb1 : b1 = wr.heap.size)
    (h : ∀ v' w', w'.ownsRow base 29 3 v' (ws ++ [(u1, u2, u3)]).length (cellsW (ws ++ [(u1, u2, u3)])) → wr.heap.size ≤ w'.heap.size → Below base w0 w' → wr.grownBy w' v.ownBlock → wpList Try.prog ops Q rest (a.put o.dst v') w') :
    wpList Try.prog ops Q (o :: rest) a (wr.alloc (.cells #[.int .i64 u1, .int .i64 u2, .int .i64 u3] 29)) :=
  append_wire wr hgd s x ho base w0 v ws (u1, u2, u3) hs hown hx hb1 hn hbase hB h

end Go.Proofs.Ytaececpphdaciaa
