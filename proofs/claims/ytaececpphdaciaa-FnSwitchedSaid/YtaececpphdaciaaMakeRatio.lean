/-
  spec.MakeRatio: some small fraction. And a code among the arguments.
-/
import Derived.Test.YtaececpphdaciaaGDraw
import Derived.Test.YtaececpphdaciaaGRatS
import Derived.Test.YtaececpphdaciaaRatLaws
import Derived.ProofKit
import Derived.ChangeSame
import Derived.Lib.SmallJoins
namespace Go.Proofs.Ytaececpphdaciaa
open Go.RowKit Go.ChangeShapes Go.WideShapes Go.ChangeAt

theorem bounds_u8'' {n : Int} (h : (Lit.int .u8 n).wf = true) : 0 ≤ n ∧ n < 256 := by
  have e : (decide (0 ≤ n) && decide (n ≤ 255)) = true := h
  simp at e; omega
/-- A slice of bytes among the arguments. -/
theorem open_bytes {H : Type} {enc : TypeId × Value → H} {P : Program} {t e : TypeId} (ht : P.underlying t = some (.slice e)) (he : P.underlying e = some (.int .u8)) (hc : P.cellsOf e = 1)
    {W : World} {a0 : Option Addr} {len cap : Nat} {d : DataW H} {p : List MemPlace} (h : DataW.Trod enc P W 0 (fun _ => true) true t (.slice a0 len cap) d p) : BytesAt W (.slice a0 len cap) len := by
  obtain ⟨fuel, hf⟩ := h
  rcases open_ints ht he hc hf with ⟨hcs, _⟩ | ⟨a, len', cap', zs, hcs, _, hl, hm, hz, _, hcell, hws⟩
  · simp [Value.cells] at hcs
    obtain ⟨rfl, rfl, rfl⟩ := hcs
    exact ⟨by omega, .inl ⟨rfl, none, 0, rfl⟩⟩
  · simp [Value.cells] at hcs
    obtain ⟨rfl, rfl, rfl⟩ := hcs
    simp only [if_true] at hz
    unfold maxLen at hm
    refine ⟨by omega, ?_⟩
    by_cases hl0 : len = 0
    · subst hl0; exact .inl ⟨rfl, some a, cap, rfl⟩
    · obtain ⟨b, off, spot⟩ := a
      have hspot : spot = none := by simpa [Addr.add] using World.cell?_spot (hcell 0 (by omega))
      subst hspot
      refine .inr ⟨b, off, cap, rfl, fun k hk => ?_⟩
      have h1 := hcell k (by omega)
      rw [add_plain] at h1
      have h2 := hws (zs.getD k 0) (by rw [List.getD_eq_getElem?_getD, List.getElem?_eq_getElem (show k < zs.length by omega)]; exact List.getElem_mem _)
      have h3 : 0 ≤ zs.getD k 0 ∧ zs.getD k 0 < 256 := bounds_u8'' h2
      refine ⟨UInt8.ofNat (zs.getD k 0).toNat, ?_⟩
      rw [h1, UInt8.toNat_ofNat']
      congr 2; omega
theorem BytesAt.on {w w' : World} {v : Value} {n : Nat} (h : BytesAt w v n) (hB : Below w.heap.size w w') : BytesAt w' v n := h.later hB (code_low h)

end Go.Proofs.Ytaececpphdaciaa
