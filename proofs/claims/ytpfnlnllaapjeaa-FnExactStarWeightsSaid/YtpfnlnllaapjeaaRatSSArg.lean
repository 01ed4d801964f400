/-
  A list of lists of fractions that came in.
-/
import Derived.Test.YtpfnlnllaapjeaaRatSS
import Derived.Test.YtpfnlnllaapjeaaRatArg
import Derived.ProofKit
import Derived.ChangeSame
import Derived.Deep.Slices
namespace Go.Proofs.Ytpfnlnllaapjeaa
open Go.ChangeShapes Go.WideShapes Go.ChangeAt Go.RowKit Go.Deep

/-- A list of lists of fractions among the arguments. -/
theorem open_ratioss {H : Type} {enc : TypeId × Value → H} {P : Program} {s t e q : TypeId} {f0 f1 : Field} (hs : P.underlying s = some (.slice t)) (ht : P.underlying t = some (.slice e)) (he : P.underlying e = some (.struct #[f0, f1])) (hone : oneCellFields P #[f0, f1] = true) (hC : P.cellsOf e = 2) (h0 : f0.type = q) (h1 : f1.type = q) (hq : P.underlying q = some (.int .i64)) (hc1 : P.cellsOf t = 1)
    {W : World} {n : Nat} {v : Value} {y : DataW H × List MemPlace} (h : DataW.trod enc P W 0 (fun _ => true) true n s [v] = some y) :
    ∃ m : MatP, ReadsPP W v m ∧ ∀ k (h : k < m.length), WfL m[k] := by
  rcases open_slice1 hs hc1 h with ⟨hcs, _⟩ | ⟨a, len, cap, m, n', V, D, Pl, hcs, _, hl, hm, hmm, _, hi⟩
  · simp at hcs
    subst hcs
    exact ⟨[], ⟨none, 0, rfl, Nat.le_refl _, by omega, .inl rfl⟩, fun k hk => absurd hk (by simp)⟩
  · simp at hcs
    subst hcs
    simp only [if_true] at hmm
    unfold maxLen at hm
    have hw : ∀ i, i < len → ∃ x : Value × List P2, W.cell? (a.add i) = some x.1 ∧ ReadsP W x.1 x.2 ∧ WfL x.2 := by
      intro i hil
      obtain ⟨hcell, ht'⟩ := hi i (by omega)
      obtain ⟨xs, hx, hx2⟩ := open_ratios ht he hone hC h0 h1 hq ht'
      exact ⟨(V i, xs), hcell, hx, hx2⟩
    by_cases hl0 : len = 0
    · subst hl0; exact ⟨[], ⟨some a, cap, rfl, Nat.zero_le _, by omega, .inl rfl⟩, fun k hk => absurd hk (by simp)⟩
    · obtain ⟨b, off, spot⟩ := a
      obtain ⟨x, hx, _⟩ := hw 0 (by omega)
      have hspot : spot = none := by simpa [Addr.add] using World.cell?_spot hx
      subst hspot
      obtain ⟨F, hF⟩ := Classical.skolem.1 (fun i : Fin len => hw i.1 i.2)
      refine ⟨List.ofFn fun i => (F i).2, ⟨some ⟨b, off, none⟩, cap, by simp, by simpa using hl, by omega, .inr ⟨b, off, rfl, fun k hk => ?_⟩⟩, fun k hk => ?_⟩
      · have hk' : k < len := by simpa using hk
        obtain ⟨g1, g2, _⟩ := hF ⟨k, hk'⟩
        rw [add_plain] at g1
        refine ⟨(F ⟨k, hk'⟩).1, by simpa [Nat.add_assoc] using g1, by simpa using g2⟩
      · have hk' : k < len := by simpa using hk
        obtain ⟨_, _, g3⟩ := hF ⟨k, hk'⟩
        simpa using g3
end Go.Proofs.Ytpfnlnllaapjeaa
