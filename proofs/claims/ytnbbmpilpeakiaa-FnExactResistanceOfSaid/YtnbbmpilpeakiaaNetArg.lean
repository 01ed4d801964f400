/-
  A network that came in: its three numbers and its list of wires.
-/
import Derived.Test.YtnbbmpilpeakiaaWire
import Derived.ProofKit
import Derived.ChangeSame
import Derived.Lib.SmallJoins
import Derived.Deep.Slices
import Derived.Deep.Fields
namespace Go.Proofs.Ytnbbmpilpeakiaa
open Go.ChangeShapes Go.WideShapes Go.ChangeAt Go.RowKit Go.Deep

/-- A list of wires among the arguments: three numbers each. -/
theorem open_wires {H : Type} {enc : TypeId × Value → H} {P : Program} {t e q : TypeId} {f0 f1 f2 : Field} (ht : P.underlying t = some (.slice e)) (he : P.underlying e = some (.struct #[f0, f1, f2])) (hone : oneCellFields P #[f0, f1, f2] = true) (hC : P.cellsOf e = 3)
    (h0 : f0.type = q) (h1 : f1.type = q) (h2 : f2.type = q) (hq : P.underlying q = some (.int .i64))
    {W : World} {n : Nat} {v : Value} {y : DataW H × List MemPlace} (h : DataW.trod enc P W 0 (fun _ => true) true n t [v] = some y) :
    ∃ ws : List W3, ReadsW W v ws := by
  rcases open_slice ht h with ⟨hcs, _⟩ | ⟨a, len, cap, m, n', D, Pl, hcs, _, hl, hm, hmm, _, hi⟩
  · simp at hcs
    exact ⟨[], by simp, .inl ⟨rfl, none, 0, hcs⟩⟩
  · simp at hcs
    subst hcs
    simp only [if_true] at hmm
    unfold maxLen at hm
    have hw : ∀ i, i < len → ∃ x : W3, W.cell? (a.add (i * 3)) = some (.int .i64 x.1) ∧ W.cell? (a.add (i * 3 + 1)) = some (.int .i64 x.2.1) ∧ W.cell? (a.add (i * 3 + 2)) = some (.int .i64 x.2.2) := by
      intro i hil
      obtain ⟨cs', hc, ht'⟩ := hi i (by omega)
      rw [hC] at hc
      obtain ⟨_, hcl, hat⟩ := World.cells?_some hc
      obtain ⟨xs, n2, _, _, _, _, hg⟩ := DataW.trod_struct he ht'
      match cs', hcl with
      | [c0, c1, c2], _ =>
        obtain ⟨o0, k0⟩ := hone_of hone 0 f0 rfl
        obtain ⟨o1, k1⟩ := hone_of hone 1 f1 rfl
        obtain ⟨o2, k2⟩ := hone_of hone 2 f2 rfl
        have g0 := hg 0 f0 rfl
        have g1 := hg 1 f1 rfl
        have g2 := hg 2 f2 rfl
        rw [o0, k0, h0] at g0
        rw [o1, k1, h1] at g1
        rw [o2, k2, h2] at g2
        simp only [List.drop, List.take] at g0 g1 g2
        have e0 : ∃ z0, DataW.trod enc P W 0 (fun _ => true) true n2 q [c0] = some z0 := ⟨_, g0.trans (List.getElem?_eq_getElem (by simp_all))⟩
        have e1 : ∃ z0, DataW.trod enc P W 0 (fun _ => true) true n2 q [c1] = some z0 := ⟨_, g1.trans (List.getElem?_eq_getElem (by simp_all))⟩
        have e2 : ∃ z0, DataW.trod enc P W 0 (fun _ => true) true n2 q [c2] = some z0 := ⟨_, g2.trans (List.getElem?_eq_getElem (by simp_all))⟩
        obtain ⟨_, e0⟩ := e0
        obtain ⟨_, e1⟩ := e1
        obtain ⟨_, e2⟩ := e2
        obtain ⟨x0, i0, _, _⟩ := DataW.trod_int hq e0
        obtain ⟨x1, i1, _, _⟩ := DataW.trod_int hq e1
        obtain ⟨x2, i2, _, _⟩ := DataW.trod_int hq e2
        simp at i0 i1 i2
        subst i0; subst i1; subst i2
        have q0 := hat 0 (by omega)
        have q1 := hat 1 (by omega)
        have q2 := hat 2 (by omega)
        rw [Go.Deep.add_add] at q0 q1 q2
        exact ⟨(x0, x1, x2), by simpa using q0, by simpa using q1, by simpa using q2⟩
    by_cases hl0 : len = 0
    · subst hl0; exact ⟨[], by simp, .inl ⟨rfl, some a, cap, rfl⟩⟩
    · obtain ⟨b, off, spot⟩ := a
      obtain ⟨x, hx, _⟩ := hw 0 (by omega)
      have hspot : spot = none := by simpa [Addr.add] using World.cell?_spot hx
      subst hspot
      obtain ⟨F, hF⟩ := Classical.skolem.1 (fun i : Fin len => hw i.1 i.2)
      refine ⟨List.ofFn F, by simp; omega, .inr ⟨b, off, cap, by simp, fun k hk => ?_⟩⟩
      have hk' : k < len := by simpa using hk
      have := hF ⟨k, hk'⟩
      rw [add_plain, add_plain, add_plain] at this
      simpa [Nat.add_assoc] using this
end Go.Proofs.Ytnbbmpilpeakiaa
