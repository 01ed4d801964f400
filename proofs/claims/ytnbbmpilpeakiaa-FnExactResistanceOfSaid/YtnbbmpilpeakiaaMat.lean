/-
  Slices of slices of numbers: how they read, what a call owns of them; the laws' copies, comparisons, marks and sizes of them.
-/
import Derived.Test.YtnbbmpilpeakiaaInts
namespace Go.Proofs.Ytnbbmpilpeakiaa
open Go.RowKit

abbrev MatI := List (List Int)
/-- The slice v reads as the rows m. -/
def ReadsII (w : World) (v : Value) (m : MatI) : Prop :=
  ∃ p cap, v = .slice p m.length cap ∧ m.length ≤ cap ∧ cap ≤ 9223372036854775807 ∧ (m = [] ∨ ∃ g o, p = some ⟨g, o, none⟩ ∧ ∀ k (h : k < m.length), ∃ r, w.cell? ⟨g, o + k, none⟩ = some r ∧ ReadsI w r m[k])
theorem ReadsII.later {w w' : World} {v : Value} {m : MatI} (h : ReadsII w v m) (hB : Below w.heap.size w w') : ReadsII w' v m := by
  obtain ⟨p, cap, rfl, h1, h2, h3⟩ := h
  refine ⟨p, cap, rfl, h1, h2, ?_⟩
  rcases h3 with h0 | ⟨g, o, rfl, hc⟩
  · exact .inl h0
  · exact .inr ⟨g, o, rfl, fun k hk => by
      obtain ⟨r, a, b⟩ := hc k hk
      exact ⟨r, by rw [hB.cell (p := ⟨g, o + k, none⟩) (World.block_lt_of_cell? w _ a)]; exact a, b.later hB⟩⟩
theorem ReadsII.shape {w : World} {v : Value} {m : MatI} (h : ReadsII w v m) : ∃ p cap, v = .slice p m.length cap ∧ m.length ≤ cap ∧ cap ≤ 9223372036854775807 := by
  obtain ⟨p, cap, rfl, h1, h2, h3⟩ := h
  exact ⟨p, cap, rfl, h1, h2⟩
theorem ReadsII.pos {w : World} {v : Value} {m : MatI} (h : ReadsII w v m) (hq : 0 < m.length) : ∃ g o cap, v = .slice (some ⟨g, o, none⟩) m.length cap ∧ m.length ≤ cap ∧ cap ≤ 9223372036854775807 ∧ g < w.heap.size ∧ ∀ k (h : k < m.length), ∃ r, w.cell? ⟨g, o + k, none⟩ = some r ∧ ReadsI w r m[k] := by
  obtain ⟨p, cap, rfl, h1, h2, h3⟩ := h
  rcases h3 with h0 | ⟨g, o, rfl, hc⟩
  · subst h0; simp at hq
  · obtain ⟨r, a, _⟩ := hc 0 hq
    exact ⟨g, o, cap, rfl, h1, h2, World.block_lt_of_cell? w _ a, hc⟩

/-- What a call owns of a slice of slices: the outer row, each row of it, no two in one block. -/
def OwnsII (w : World) (base : Nat) (v : Value) (m : MatI) : Prop :=
  ∃ rs : List Value, w.ownsRow base 105 1 v m.length rs ∧ rs.length = m.length ∧ (∀ k r, rs[k]? = some r → ∃ h : k < m.length, w.ownsRow base 3 1 r m[k].length (cellsI m[k])) ∧ rs.Pairwise (fun a b => ∀ g, a.ownBlock = some g → b.ownBlock ≠ some g)
theorem OwnsII.below {B : Nat} {w w' : World} {base : Nat} {v : Value} {m : MatI} (h : OwnsII w base v m) (hB : Below B w w') (hs : w.heap.size ≤ B) : OwnsII w' base v m := by
  obtain ⟨rs, h1, h2, h3, h4⟩ := h
  refine ⟨rs, owns_below h1 hB (fun k hk => by have := (h1.lt k hk).2; omega), h2, fun k r hr => ?_, h4⟩
  obtain ⟨hk, ho⟩ := h3 k r hr
  exact ⟨hk, owns_below ho hB (fun k hk => by have := (ho.lt k hk).2; omega)⟩
theorem OwnsII.later {w w' : World} {base : Nat} {v : Value} {m : MatI} (h : OwnsII w base v m) (hB : Below w.heap.size w w') : OwnsII w' base v m := h.below hB (Nat.le_refl _)
theorem OwnsII.mono {w : World} {base base' : Nat} {v : Value} {m : MatI} (h : OwnsII w base v m) (hb : base' ≤ base) : OwnsII w base' v m := by
  obtain ⟨rs, h1, h2, h3, h4⟩ := h
  refine ⟨rs, owns_mono h1 hb, h2, fun k r hr => ?_, h4⟩
  obtain ⟨hk, ho⟩ := h3 k r hr
  exact ⟨hk, owns_mono ho hb⟩
theorem OwnsII.reads {w : World} {base : Nat} {v : Value} {m : MatI} (h : OwnsII w base v m) : ReadsII w v m := by
  obtain ⟨rs, h1, h2, h3, h4⟩ := h
  rcases h1.2 with ⟨rfl, hn⟩ | ⟨g, cap, cur, rfl, hb, hg, hnc, hcm, hcs, ht⟩
  · exact ⟨none, 0, by rw [hn], by omega, by omega, .inl (List.eq_nil_of_length_eq_zero hn)⟩
  · unfold maxLen at hcm
    refine ⟨_, cap, rfl, hnc, by omega, .inr ⟨g, 0, rfl, fun k hk => ?_⟩⟩
    have hc := h1.cellAt k (by omega)
    rw [List.getElem?_eq_getElem (by omega)] at hc
    obtain ⟨_, ho⟩ := h3 k _ (List.getElem?_eq_getElem (by omega))
    exact ⟨_, by simpa using hc, ReadsI.of_own ho⟩
theorem OwnsII.nil (w : World) (base : Nat) : OwnsII w base (.slice none 0 0) [] := ⟨[], World.ownsRow_nil _ _ _ _, rfl, fun k r h => by simp at h, .nil⟩
theorem OwnsII.shape {w : World} {base : Nat} {v : Value} {m : MatI} (h : OwnsII w base v m) : ∃ p cap, v = .slice p m.length cap := by
  obtain ⟨rs, h1, _⟩ := h
  exact owns_shape h1

theorem Try.infoRow : (Try.prog.info? 105).map (fun i => (i.zero, i.size, i.bytes)) = some (some (.slice none 0 0), 1, 24) := by kernel_rfl

/-! ### comparisons -/
theorem rows2_keep {lo : Nat} {w0 w w1 : World} {a b : Addr} {ra rb : Value} {q : List Int} (h : Below w.heap.size w w1)
    (k : w.cell? a = some ra ∧ w.cell? b = some rb ∧ ReadsI w ra q ∧ ReadsI w rb q ∧ lo ≤ w.heap.size ∧ Below lo w0 w) :
    w1.cell? a = some ra ∧ w1.cell? b = some rb ∧ ReadsI w1 ra q ∧ ReadsI w1 rb q ∧ lo ≤ w1.heap.size ∧ Below lo w0 w1 := by
  obtain ⟨h1, h2, h3, h4, h5, h6⟩ := k
  have s := h.size
  refine ⟨?_, ?_, h3.later h, h4.later h, by omega, h6.trans (h.mono h5)⟩
  · rw [h.cell (World.block_lt_of_cell? w _ h1)]; exact h1
  · rw [h.cell (World.block_lt_of_cell? w _ h2)]; exact h2

end Go.Proofs.Ytnbbmpilpeakiaa
