/-
  A list of fractions that came in.
-/
import Derived.Test.YtpfnlnllaapjeaaRats
import Derived.Test.YtpfnlnllaapjeaaGNet
namespace Go.Proofs.Ytpfnlnllaapjeaa
open Go.ChangeShapes Go.WideShapes Go.ChangeAt Go.RowKit Go.Deep

/-- All parts of the fractions are numbers of 64 bits. -/
def WfL (q : List P2) : Prop := ∀ k (h : k < q.length), (-9223372036854775808 ≤ q[k].1 ∧ q[k].1 ≤ 9223372036854775807) ∧ (-9223372036854775808 ≤ q[k].2 ∧ q[k].2 ≤ 9223372036854775807)
theorem wf64 {x : Int} (h : (Lit.int .i64 x).wf = true) : -9223372036854775808 ≤ x ∧ x ≤ 9223372036854775807 := by
  simp [Lit.wf, IntKind.min, IntKind.max, IntKind.bits, IntKind.signed] at h
  omega
/-- A list of fractions among the arguments: two numbers each. -/
theorem open_ratios {H : Type} {enc : TypeId × Value → H} {P : Program} {t e q : TypeId} {f0 f1 : Field} (ht : P.underlying t = some (.slice e)) (he : P.underlying e = some (.struct #[f0, f1])) (hone : oneCellFields P #[f0, f1] = true) (hC : P.cellsOf e = 2)
    (h0 : f0.type = q) (h1 : f1.type = q) (hq : P.underlying q = some (.int .i64))
    {W : World} {n : Nat} {v : Value} {y : DataW H × List MemPlace} (h : DataW.trod enc P W 0 (fun _ => true) true n t [v] = some y) :
    ∃ ws : List P2, ReadsP W v ws ∧ WfL ws := by
  rcases open_slice ht h with ⟨hcs, _⟩ | ⟨a, len, cap, m, n', D, Pl, hcs, _, hl, hm, hmm, _, hi⟩
  · simp at hcs
    exact ⟨[], ⟨by simp, .inl ⟨rfl, none, 0, hcs⟩⟩, fun k hk => absurd hk (by simp)⟩
  · simp at hcs
    subst hcs
    simp only [if_true] at hmm
    unfold maxLen at hm
    have hw : ∀ i, i < len → ∃ x : P2, W.cell? (a.add (i * 2)) = some (.int .i64 x.1) ∧ W.cell? (a.add (i * 2 + 1)) = some (.int .i64 x.2) ∧ (-9223372036854775808 ≤ x.1 ∧ x.1 ≤ 9223372036854775807) ∧ (-9223372036854775808 ≤ x.2 ∧ x.2 ≤ 9223372036854775807) := by
      intro i hil
      obtain ⟨cs', hc, ht'⟩ := hi i (by omega)
      rw [hC] at hc
      obtain ⟨_, hcl, hat⟩ := World.cells?_some hc
      obtain ⟨xs, n2, _, _, _, _, hg⟩ := DataW.trod_struct he ht'
      match cs', hcl with
      | [c0, c1], _ =>
        obtain ⟨o0, k0⟩ := hone_of hone 0 f0 rfl
        obtain ⟨o1, k1⟩ := hone_of hone 1 f1 rfl
        have g0 := hg 0 f0 rfl
        have g1 := hg 1 f1 rfl
        rw [o0, k0, h0] at g0
        rw [o1, k1, h1] at g1
        simp only [List.drop, List.take] at g0 g1
        have e0 : ∃ z0, DataW.trod enc P W 0 (fun _ => true) true n2 q [c0] = some z0 := ⟨_, g0.trans (List.getElem?_eq_getElem (by simp_all))⟩
        have e1 : ∃ z0, DataW.trod enc P W 0 (fun _ => true) true n2 q [c1] = some z0 := ⟨_, g1.trans (List.getElem?_eq_getElem (by simp_all))⟩
        obtain ⟨_, e0⟩ := e0
        obtain ⟨_, e1⟩ := e1
        obtain ⟨x0, i0, _, k0⟩ := DataW.trod_int hq e0
        obtain ⟨x1, i1, _, k1⟩ := DataW.trod_int hq e1
        simp at i0 i1
        subst i0; subst i1
        have q0 := hat 0 (by omega)
        have q1 := hat 1 (by omega)
        rw [Go.Deep.add_add] at q0 q1
        exact ⟨(x0, x1), by simpa using q0, by simpa using q1, wf64 k0, wf64 k1⟩
    by_cases hl0 : len = 0
    · subst hl0; exact ⟨[], ⟨by simp, .inl ⟨rfl, some a, cap, rfl⟩⟩, fun k hk => absurd hk (by simp)⟩
    · obtain ⟨b, off, spot⟩ := a
      obtain ⟨x, hx, _⟩ := hw 0 (by omega)
      have hspot : spot = none := by simpa [Addr.add] using World.cell?_spot hx
      subst hspot
      obtain ⟨F, hF⟩ := Classical.skolem.1 (fun i : Fin len => hw i.1 i.2)
      refine ⟨List.ofFn F, ⟨by simp; omega, .inr ⟨b, off, cap, by simp, fun k hk => ?_⟩⟩, fun k hk => ?_⟩
      · have hk' : k < len := by simpa using hk
        obtain ⟨g0, g1, _⟩ := hF ⟨k, hk'⟩
        have := And.intro g0 g1
        rw [add_plain, add_plain] at this
        simpa [Nat.add_assoc] using this
      · have hk' : k < len := by simpa using hk
        obtain ⟨_, _, g2⟩ := hF ⟨k, hk'⟩
        simpa using g2
end Go.Proofs.Ytpfnlnllaapjeaa
