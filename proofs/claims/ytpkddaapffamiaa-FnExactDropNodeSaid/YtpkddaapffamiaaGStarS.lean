/-
  Ahead of StarMesh: in a network of two nodes or more every node has a wire.
  StarMesh in the model.
-/
import Derived.Test.YtpkddaapffamiaaDropSpec
import Derived.Test.YtpkddaapffamiaaGTree
namespace Go.Proofs.Ytpkddaapffamiaa
open Go.RowKit

theorem wire_at {n e s : Int} {ws : List W3} (h : NetV n e s ws) (h2 : 2 ≤ n) (v : Int) (h0 : 0 ≤ v) (h1 : v < n) : ∃ t ∈ ws, t.1 = v ∨ t.2.1 = v := by
  refine Classical.byContradiction fun hn => ?_
  have hno : ∀ t ∈ ws, t.1 ≠ v ∧ t.2.1 ≠ v := fun t ht => ⟨fun he => hn ⟨t, ht, .inl he⟩, fun he => hn ⟨t, ht, .inr he⟩⟩
  by_cases hv : v = 0
  · subst hv
    have := h.2.2 1 (by omega) (by omega) (fun x => x = 0) rfl (fun t ht => by have := hno t ht; simp [this.1, this.2])
    omega
  · have := h.2.2 v h0 h1 (fun x => x ≠ v) (fun e => hv e.symm) (fun t ht => by have := hno t ht; simp [this.1, this.2])
    exact this rfl
theorem wAt_conn {N : Nat} {e s : Int} {ws : List W3} (h : NetV N e s ws) (h2 : 2 ≤ N) (v : Nat) (hv : v < N) : 1 ≤ wAt ws (v : Int) := by
  obtain ⟨t, ht, ho⟩ := wire_at h (by omega) (v : Int) (by omega) (by omega)
  have hp := wBtw_mem h.2.1 ht
  obtain ⟨a0, a1, a2, _, _⟩ := h.2.1.mem ht
  have n5 : (N : Int) ≤ 5 := h.1.2.1
  have key : ∀ u : Nat, u < N → 0 < wBtw ws (v : Int) (u : Int) → 1 ≤ wAt ws (v : Int) := fun u hu hw => by
    have := (sumN_ge (f := fun k => wBtw ws (v : Int) (k : Int)) (fun k => (wBtw_le h.2.1 _ _).1) N u hu).1
    rw [wAt_sum h.2.1 (by omega) v hv]
    omega
  rcases ho with ho | ho
  · refine key t.2.1.toNat (by omega) ?_
    rw [show ((t.2.1.toNat : Nat) : Int) = t.2.1 by omega, ← ho]
    exact hp
  · refine key t.1.toNat (by omega) ?_
    rw [show ((t.1.toNat : Nat) : Int) = t.1 by omega, wBtw_comm, ← ho]
    exact hp
end Go.Proofs.Ytpkddaapffamiaa

namespace Go.Proofs.Ytpkddaapffamiaa
open Go.RowKit

/-- When a star can be replaced. -/
def StarOk (n e s x : Int) (ws : List W3) : Prop := netB n e s ws = true ∧ e ≤ x ∧ x < n
open Classical in
/-- The network without a node, whatever its neighbours. -/
noncomputable def starR (n e s x : Int) (ws : List W3) : Int × Int × Int × List W3 × Bool := if StarOk n e s x ws then redR (n - 1) e (s * wAt ws x) (meshR n.toNat ws x.toNat) else (0, 0, 0, [], false)
theorem starR_no {n e s x : Int} {ws : List W3} (h : ¬ StarOk n e s x ws) : starR n e s x ws = (0, 0, 0, [], false) := if_neg h
theorem starR_yes {n e s x : Int} {ws : List W3} (h : StarOk n e s x ws) : starR n e s x ws = redR (n - 1) e (s * wAt ws x) (meshR n.toNat ws x.toNat) := if_pos h
theorem starR_len (n e s x : Int) (ws : List W3) : (starR n e s x ws).2.2.2.1.length ≤ 50 := by
  by_cases h : StarOk n e s x ws
  · rw [starR_yes h]
    obtain ⟨hb, h1, h2⟩ := h
    have hV := netB_iff.1 hb
    obtain ⟨n1, n5, e1, -⟩ := hV.1
    have hlen := wiresV_len hV.2.1 n5
    have hV2 : WiresV n.toNat ws := by rw [show ((n.toNat : Nat) : Int) = n by omega]; exact hV.2.1
    have hm := (meshR_srt (v := x.toNat) hV2 (by omega) (by omega) hlen).2
    have := redR_len (n - 1) e (s * wAt ws x) (meshR n.toNat ws x.toNat)
    omega
  · rw [starR_no h]; simp
/-- What is known of a star that can be replaced. -/
theorem star_facts {N : Nat} {e s : Int} {X : Nat} {ws : List W3} (h : StarOk N e s X ws) : NetV N e s ws ∧ X < N ∧ N ≤ 5 ∧ 1 ≤ wAt ws (X : Int) := by
  obtain ⟨hb, h1, h2⟩ := h
  have hV := netB_iff.1 hb
  obtain ⟨n1, n5, e1, -⟩ := id hV.1
  exact ⟨hV, by omega, by omega, wAt_conn hV (by omega) X (by omega)⟩
end Go.Proofs.Ytpkddaapffamiaa
