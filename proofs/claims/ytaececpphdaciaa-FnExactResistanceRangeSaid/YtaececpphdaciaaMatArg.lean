/-
  Lists of numbers, and lists of such lists, that came in.
-/
import Derived.Test.YtaececpphdaciaaGLists
import Derived.ProofKit
import Derived.ChangeSame
import Derived.Deep.Slices
namespace Go.Proofs.Ytaececpphdaciaa
open Go.ChangeShapes Go.WideShapes Go.ChangeAt Go.RowKit Go.Deep

/-- A list of numbers among the arguments. -/
theorem open_ints {H : Type} {enc : TypeId × Value → H} {P : Program} {t q : TypeId} (ht : P.underlying t = some (.slice q)) (hq : P.underlying q = some (.int .i64)) (hc : P.cellsOf q = 1)
    {W : World} {n : Nat} {v : Value} {y : DataW H × List MemPlace} (h : DataW.trod enc P W 0 (fun _ => true) true n t [v] = some y) :
    ∃ xs : List Int, ReadsI W v xs := by
  rcases open_slice1 ht hc h with ⟨hcs, _⟩ | ⟨a, len, cap, m, n', V, D, Pl, hcs, _, hl, hm, hmm, _, hi⟩
  · simp at hcs
    subst hcs
    exact ⟨[], none, 0, rfl, Nat.le_refl _, by omega, .inl rfl⟩
  · simp at hcs
    subst hcs
    simp only [if_true] at hmm
    unfold maxLen at hm
    have hw : ∀ i, i < len → ∃ x : Int, W.cell? (a.add i) = some (.int .i64 x) := by
      intro i hil
      obtain ⟨hcell, ht'⟩ := hi i (by omega)
      obtain ⟨x0, i0, _, _⟩ := DataW.trod_int hq ht'
      simp at i0
      exact ⟨x0, by rw [hcell, i0]⟩
    by_cases hl0 : len = 0
    · subst hl0; exact ⟨[], some a, cap, rfl, Nat.zero_le _, by omega, .inl rfl⟩
    · obtain ⟨b, off, spot⟩ := a
      obtain ⟨x, hx⟩ := hw 0 (by omega)
      have hspot : spot = none := by simpa [Addr.add] using World.cell?_spot hx
      subst hspot
      obtain ⟨F, hF⟩ := Classical.skolem.1 (fun i : Fin len => hw i.1 i.2)
      refine ⟨List.ofFn F, some ⟨b, off, none⟩, cap, by simp, by simpa using hl, by omega, .inr ⟨b, off, rfl, fun k hk => ?_⟩⟩
      have hk' : k < len := by simpa using hk
      have := hF ⟨k, hk'⟩
      rw [add_plain] at this
      simpa [Nat.add_assoc] using this
/-- A list of lists of numbers among the arguments. -/
theorem open_intss {H : Type} {enc : TypeId × Value → H} {P : Program} {s t q : TypeId} (hs : P.underlying s = some (.slice t)) (ht : P.underlying t = some (.slice q)) (hq : P.underlying q = some (.int .i64)) (hc : P.cellsOf q = 1) (hc1 : P.cellsOf t = 1)
    {W : World} {n : Nat} {v : Value} {y : DataW H × List MemPlace} (h : DataW.trod enc P W 0 (fun _ => true) true n s [v] = some y) :
    ∃ m : MatI, ReadsII W v m := by
  rcases open_slice1 hs hc1 h with ⟨hcs, _⟩ | ⟨a, len, cap, m, n', V, D, Pl, hcs, _, hl, hm, hmm, _, hi⟩
  · simp at hcs
    subst hcs
    exact ⟨[], none, 0, rfl, Nat.le_refl _, by omega, .inl rfl⟩
  · simp at hcs
    subst hcs
    simp only [if_true] at hmm
    unfold maxLen at hm
    have hw : ∀ i, i < len → ∃ x : Value × List Int, W.cell? (a.add i) = some x.1 ∧ ReadsI W x.1 x.2 := by
      intro i hil
      obtain ⟨hcell, ht'⟩ := hi i (by omega)
      obtain ⟨xs, hx⟩ := open_ints ht hq hc ht'
      exact ⟨(V i, xs), hcell, hx⟩
    by_cases hl0 : len = 0
    · subst hl0; exact ⟨[], some a, cap, rfl, Nat.zero_le _, by omega, .inl rfl⟩
    · obtain ⟨b, off, spot⟩ := a
      obtain ⟨x, hx, _⟩ := hw 0 (by omega)
      have hspot : spot = none := by simpa [Addr.add] using World.cell?_spot hx
      subst hspot
      obtain ⟨F, hF⟩ := Classical.skolem.1 (fun i : Fin len => hw i.1 i.2)
      refine ⟨List.ofFn fun i => (F i).2, some ⟨b, off, none⟩, cap, by simp, by simpa using hl, by omega, .inr ⟨b, off, rfl, fun k hk => ?_⟩⟩
      have hk' : k < len := by simpa using hk
      obtain ⟨h1, h2⟩ := hF ⟨k, hk'⟩
      rw [add_plain] at h1
      refine ⟨(F ⟨k, hk'⟩).1, by simpa [Nat.add_assoc] using h1, by simpa using h2⟩
end Go.Proofs.Ytaececpphdaciaa
