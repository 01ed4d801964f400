/-
  A network that is made wire by wire: it is valid, and its weights are small.
-/
import Derived.Test.YtbeddnegmggleaaPut3
namespace Go.Proofs.Ytbeddnegmggleaa
open Go.RowKit

/-- V nodes, wires in order with weights from 1 to X, every node reached. -/
structure GoodW (V : Nat) (X : Int) (ws : List W3) : Prop where
  mem : ∀ e ∈ ws, 0 ≤ e.1 ∧ e.1 < e.2.1 ∧ e.2.1 < V ∧ 1 ≤ e.2.2 ∧ e.2.2 ≤ X
  srt : ws.Pairwise wLt
  con : Conn V ws
theorem GoodW.start (X : Int) : GoodW 1 X [] := ⟨by simp, by simp, fun v h0 h1 S hS _ => by
  have : v = 0 := by omega
  subst this; exact hS⟩
theorem put3_mem (ws : List W3) (lo hi x : Int) (t : W3) : t ∈ put3 ws lo hi x false ↔ t = (lo, hi, x) ∨ (t ∈ ws ∧ ¬ (t.1 = lo ∧ t.2.1 = hi)) := by
  unfold put3; rw [mem_insW, sumW_no, mem_rest]
theorem put3_srt {ws : List W3} (h : ws.Pairwise wLt) (lo hi x : Int) : (put3 ws lo hi x false).Pairwise wLt := by
  unfold put3
  refine sorted_insW _ _ (List.Pairwise.filter _ h) fun e he => ?_
  exact ((mem_rest ws lo hi e).1 he).2
theorem put3_rch {ws : List W3} {lo hi x y : Int} (h : Rch ws y) : Rch (put3 ws lo hi x false) y := fun S hS hc => by
  refine h S hS fun e he => ?_
  by_cases hk : e.1 = lo ∧ e.2.1 = hi
  · rw [hk.1, hk.2]
    exact hc (lo, hi, x) ((put3_mem ws lo hi x _).2 (.inl rfl))
  · exact hc e ((put3_mem ws lo hi x e).2 (.inr ⟨he, hk⟩))
theorem GoodW.grow {V : Nat} {X : Int} {ws : List W3} (h : GoodW V X ws) (u : Nat) (hu : u < V) (x : Int) (h1 : 1 ≤ x) (h2 : x ≤ X) : GoodW (V + 1) X (put3 ws (u : Int) (V : Int) x false) where
  mem e he := by
    rcases (put3_mem _ _ _ _ _).1 he with rfl | ⟨hm, -⟩
    · exact ⟨by omega, by show (u : Int) < V; omega, by show (V : Int) < (V + 1 : Nat); omega, h1, h2⟩
    · have := h.mem e hm; omega
  srt := put3_srt h.srt _ _ _
  con y h0 h1' := by
    by_cases hy : y < V
    · exact put3_rch (h.con y h0 hy)
    · have e : y = V := by omega
      intro S hS hc
      have h3 : S (u : Int) := put3_rch (h.con u (by omega) (by omega)) S hS hc
      have h4 := hc ((u : Int), (V : Int), x) ((put3_mem ws _ _ x _).2 (.inl rfl))
      rw [e]; exact h4.1 h3
theorem GoodW.put {V : Nat} {X : Int} {ws : List W3} (h : GoodW V X ws) (lo hi : Nat) (hlt : lo < hi) (hhi : hi < V) (x : Int) (h1 : 1 ≤ x) (h2 : x ≤ X) : GoodW V X (put3 ws (lo : Int) (hi : Int) x false) where
  mem e he := by
    rcases (put3_mem _ _ _ _ _).1 he with rfl | ⟨hm, -⟩
    · exact ⟨by omega, by show (lo : Int) < hi; omega, by show (hi : Int) < V; omega, h1, h2⟩
    · exact h.mem e hm
  srt := put3_srt h.srt _ _ _
  con y h0 h1' := put3_rch (h.con y h0 h1')
theorem GoodW.wires {V : Nat} {X : Int} {ws : List W3} (h : GoodW V X ws) (hX : X ≤ 200) : WiresV V ws :=
  ⟨fun k hk => by have := h.mem ws[k] (List.getElem_mem hk); exact ⟨this.1, this.2.1, this.2.2.1, this.2.2.2.1, by omega⟩,
    fun k hk => List.pairwise_iff_getElem.1 h.srt k (k + 1) (by omega) hk (by omega)⟩
theorem GoodW.net {V : Nat} {X e s : Int} {ws : List W3} (h : GoodW V X ws) (hX : X ≤ 200) (h1 : 1 ≤ V) (h5 : V ≤ 5) (e1 : 1 ≤ e) (e2 : e ≤ V) (s1 : 1 ≤ s) (s2 : s ≤ 1000) : netB V e s ws = true :=
  netB_true ⟨⟨by omega, by omega, e1, e2, s1, s2⟩, h.wires hX, h.con⟩
theorem put3_length (ws : List W3) (lo hi x : Int) : (put3 ws lo hi x false).length ≤ ws.length + 1 := by
  unfold put3; rw [insW_length]
  have := List.length_filter_le (fun e => !atEnds lo hi e) ws
  unfold restW; omega
end Go.Proofs.Ytbeddnegmggleaa
