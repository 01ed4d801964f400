/-
  DropNode in the model.
-/
import Derived.Test.YthhnicbkldknlaaMesh
import Derived.Test.YthhnicbkldknlaaGKir
namespace Go.Proofs.Ythhnicbkldknlaa
open Go.RowKit

theorem sumN_ge {f : Nat → Int} (h : ∀ k, 0 ≤ f k) : ∀ (n j : Nat), j < n → f j ≤ sumN f n ∧ 0 ≤ sumN f n
  | 0, _, hj => absurd hj (Nat.not_lt_zero _)
  | n + 1, j, hj => by
    have hn := h n
    have e : sumN f (n + 1) = sumN f n + f n := rfl
    have h0 : 0 ≤ sumN f n := by
      clear hj e
      induction n with
      | zero => simp [sumN]
      | succ n ih => have := ih (h n); have e : sumN f (n + 1) = sumN f n + f n := rfl; have := h n; omega
    by_cases hjn : j = n
    · subst hjn; omega
    · have := (sumN_ge h n j (by omega)).1; omega
theorem wAt_pos {N : Nat} {ws : List W3} (h : WiresV N ws) (hN : N ≤ 5) (x : Nat) (hx : x < N) (hl : 1 ≤ (nearK ws (x : Int) N).length) : 1 ≤ wAt ws (x : Int) := by
  obtain ⟨u, hu⟩ : ∃ u, u ∈ nearK ws (x : Int) N := ⟨_, List.getElem_mem (show 0 < (nearK ws (x : Int) N).length by omega)⟩
  obtain ⟨u0, u1, u2⟩ := nearK_mem hu
  have := (sumN_ge (f := fun k => wBtw ws (x : Int) (k : Int)) (fun k => (wBtw_le h _ _).1) N u.toNat (by omega)).1
  rw [wAt_sum h hN x hx]
  simp only [show ((u.toNat : Nat) : Int) = u by omega] at this
  omega
/-- When a node can be dropped. -/
def DropOk (n e s x : Int) (ws : List W3) : Prop := netB n e s ws = true ∧ e ≤ x ∧ x < n ∧ 1 ≤ (nearK ws x n.toNat).length ∧ (nearK ws x n.toNat).length ≤ 2
open Classical in
/-- The network without a node. -/
noncomputable def dropR (n e s x : Int) (ws : List W3) : Int × Int × Int × List W3 × Bool := if DropOk n e s x ws then redR (n - 1) e (s * wAt ws x) (meshR n.toNat ws x.toNat) else (0, 0, 0, [], false)
theorem dropR_no {n e s x : Int} {ws : List W3} (h : ¬ DropOk n e s x ws) : dropR n e s x ws = (0, 0, 0, [], false) := if_neg h
theorem dropR_yes {n e s x : Int} {ws : List W3} (h : DropOk n e s x ws) : dropR n e s x ws = redR (n - 1) e (s * wAt ws x) (meshR n.toNat ws x.toNat) := if_pos h
theorem redR_len (n e s : Int) (ws : List W3) : (redR n e s ws).2.2.2.1.length ≤ ws.length := by
  unfold redR
  split
  · have := dropZ_len ws; simpa using this
  · simp
theorem dropR_len (n e s x : Int) (ws : List W3) : (dropR n e s x ws).2.2.2.1.length ≤ 50 := by
  by_cases h : DropOk n e s x ws
  · rw [dropR_yes h]
    obtain ⟨hb, h1, h2, _, _⟩ := h
    have hV := netB_iff.1 hb
    obtain ⟨n1, n5, e1, -⟩ := hV.1
    have hlen := wiresV_len hV.2.1 n5
    have hV2 : WiresV n.toNat ws := by rw [show ((n.toNat : Nat) : Int) = n by omega]; exact hV.2.1
    have hm := (meshR_srt (v := x.toNat) hV2 (by omega) (by omega) hlen).2
    have := redR_len (n - 1) e (s * wAt ws x) (meshR n.toNat ws x.toNat)
    omega
  · rw [dropR_no h]; simp
end Go.Proofs.Ythhnicbkldknlaa
