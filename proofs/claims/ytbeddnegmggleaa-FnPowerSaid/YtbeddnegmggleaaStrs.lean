/-
  The laws' helpers on lists of strings: eqStringS, markStringS, heldStringS.
-/
import Derived.Test.YtbeddnegmggleaaMark
import Derived.Laws.AppendOwn
import Derived.Laws.OwnMore
import Derived.Deep.RegionHeld3
import Derived.Deep.QuietTactic
import Derived.BigQuiet
namespace Go.Proofs.Ytbeddnegmggleaa
open Go.RowKit

/-- The slice v reads as the values xs, one cell each. -/
def Reads (w : World) (v : Value) (xs : List Value) : Prop :=
  xs.length ≤ 9223372036854775807 ∧ ((xs = [] ∧ ∃ p cap, v = .slice p 0 cap) ∨
    ∃ g o cap, v = .slice (some ⟨g, o, none⟩) xs.length cap ∧ ∀ k (h : k < xs.length), w.cell? ⟨g, o + k, none⟩ = some xs[k])

theorem Reads.below {B : Nat} {w w' : World} {v : Value} {xs : List Value} (h : Reads w v xs) (hB : Below B w w') (hb : ∀ k, v.ownBlock = some k → k < B) : Reads w' v xs := by
  refine ⟨h.1, ?_⟩
  rcases h.2 with h0 | ⟨g, o, cap, rfl, hc⟩
  · exact .inl h0
  · refine .inr ⟨g, o, cap, rfl, fun k hk => ?_⟩
    rw [hB.cell (p := ⟨g, o + k, none⟩) (hb g rfl)]
    exact hc k hk
theorem Reads.of_own {w : World} {base : Nat} {e : TypeId} {v : Value} {n : Nat} {xs : List Value} (h : w.ownsRow base e 1 v n xs) : Reads w v xs := by
  obtain ⟨hl, h2⟩ := h
  have hn : xs.length = n := by omega
  rcases h2 with ⟨rfl, rfl⟩ | ⟨g, cap, cur, rfl, hb, hg, hnc, hcm, hcs, ht⟩
  · exact ⟨by omega, .inl ⟨List.eq_nil_of_length_eq_zero hn, none, 0, rfl⟩⟩
  · have hm : n ≤ 9223372036854775807 := by unfold maxLen at hcm; omega
    refine ⟨by omega, .inr ⟨g, 0, cap, by rw [hn], fun k hk => ?_⟩⟩
    have hh : w.ownsRow base e 1 (.slice (some ⟨g, 0, none⟩) n cap) n xs := ⟨hl, .inr ⟨g, cap, cur, rfl, hb, hg, hnc, hcm, hcs, ht⟩⟩
    rw [show 0 + k = k from by omega, hh.cellAt k (by omega), List.getElem?_eq_getElem hk]

/-- What the call owns is still owned behind anything that leaves its block alone. -/
theorem owns_belowS {B : Nat} {w w' : World} {base : Nat} {e : TypeId} {size : Nat} {v : Value} {n : Nat} {xs : List Value} (h : w.ownsRow base e size v n xs) (hB : Below B w w') (hb : ∀ k, v.ownBlock = some k → k < B) : w'.ownsRow base e size v n xs := by
  refine ⟨h.1, ?_⟩
  rcases h.2 with h0 | ⟨g, cap, cur, rfl, hg, hh, r⟩
  · exact .inl h0
  · exact .inr ⟨g, cap, cur, rfl, hg, by rw [hB.block g (hb g rfl)]; exact hh, r⟩
theorem owns_monoS {w : World} {base base' : Nat} {e : TypeId} {size : Nat} {v : Value} {n : Nat} {xs : List Value} (h : w.ownsRow base e size v n xs) (hb : base' ≤ base) : w.ownsRow base' e size v n xs := by
  refine ⟨h.1, ?_⟩
  rcases h.2 with h0 | ⟨g, cap, cur, rfl, hg, r⟩
  · exact .inl h0
  · exact .inr ⟨g, cap, cur, rfl, by omega, r⟩

/-- The texts of the marks k, k + 1, .. (n of them). -/
def marksS (k n : Nat) : List Value := (List.range n).map fun i => .string (markT (k + i))
theorem marksS_succ (k n : Nat) : marksS k (n + 1) = marksS k n ++ [.string (markT (k + n))] := by
  unfold marksS; rw [List.range_succ, List.map_append]; rfl
theorem marksS_length (k n : Nat) : (marksS k n).length = n := by simp [marksS]
theorem marksS_get (k n i : Nat) (h : i < (marksS k n).length) : (marksS k n)[i] = .string (markT (k + i)) := by simp [marksS]
theorem take_set_succ (ys : List Value) (j : Nat) (u : Value) (h : j < ys.length) : (ys.set j u).take (j + 1) = ys.take j ++ [u] := by
  rw [List.take_succ_eq_append_getElem (by simpa using h)]
  simp [List.take_set_of_le]

theorem held_keep {wr W w1 : World} {a : Addr} {u : Value} (hS : W.cell? a = some u ∧ Below wr.heap.size wr W) (hB1 : Below W.heap.size W w1) (ha : a.block < wr.heap.size) : w1.cell? a = some u ∧ Below wr.heap.size wr w1 := by
  have := hS.2.size
  exact ⟨by rw [hB1.cell (p := a) (by omega)]; exact hS.1, hS.2.trans (hB1.mono this)⟩

end Go.Proofs.Ytbeddnegmggleaa
