/-
  A list of strings that came in: how it reads, its size (szStringS), its copy (toStringS).
-/
import Derived.Test.YtjbaianfopnciaaDoorSplit
import Derived.ProofKit
namespace Go.Proofs.YtjbaianfopnciaaDoor
open Go.ChangeShapes Go.WideShapes Go.ChangeAt Go.RowKit

theorem Reads.later {w w' : World} {v : Value} {xs : List Value} (h : Reads w v xs) (hB : Below w.heap.size w w') : Reads w' v xs := by
  refine ⟨h.1, ?_⟩
  rcases h.2 with h0 | ⟨g, o, cap, rfl, hc⟩
  · exact .inl h0
  · refine .inr ⟨g, o, cap, rfl, fun k hk => ?_⟩
    rw [hB.cell (p := ⟨g, o + k, none⟩) (block_lt_of_cell (hc k hk))]
    exact hc k hk

/-- A list of strings among the arguments. -/
theorem open_reads_strs {H : Type} {enc : TypeId × Value → H} {P : Program} {t e : TypeId} (ht : P.underlying t = some (.slice e)) (he : P.underlying e = some .string) (hc : P.cellsOf e = 1)
    {W : World} {a0 : Option Addr} {len cap : Nat} {d : DataW H} {p : List MemPlace} (h : DataW.Trod enc P W 0 (fun _ => true) true t (.slice a0 len cap) d p) :
    ∃ xs : List ByteArray, Reads W (.slice a0 len cap) (xs.map .string) ∧ ∀ s ∈ xs, s.size ≤ maxLen := by
  obtain ⟨fuel, hf⟩ := h
  rcases open_strings ht he hc hf with ⟨hcs, _⟩ | ⟨a, len', cap', ss, hcs, _, hl, hm, hz, _, hcell, hws⟩
  · simp [Value.cells] at hcs
    obtain ⟨rfl, rfl, rfl⟩ := hcs
    exact ⟨[], ⟨by simp, .inl ⟨rfl, none, 0, rfl⟩⟩, by simp⟩
  · simp [Value.cells] at hcs
    obtain ⟨rfl, rfl, rfl⟩ := hcs
    simp only [if_true] at hz
    unfold maxLen at hm
    have hlt : (ss.take len).length = len := by rw [List.length_take]; omega
    refine ⟨ss.take len, ⟨by simp; omega, ?_⟩, fun s hs => hws s (List.mem_of_mem_take hs)⟩
    by_cases hl0 : len = 0
    · subst hl0; exact .inl ⟨by simp, some a, cap, rfl⟩
    · obtain ⟨b, off, spot⟩ := a
      have hspot : spot = none := by simpa [Addr.add] using World.cell?_spot (hcell 0 (by omega))
      subst hspot
      refine .inr ⟨b, off, cap, by rw [List.length_map, hlt], fun k hk => ?_⟩
      have hk' : k < len := by rw [List.length_map, hlt] at hk; exact hk
      have := hcell k (by omega)
      rw [add_plain] at this
      rw [this]
      simp [List.getD, List.getElem?_eq_getElem (show k < ss.length by omega)]

def loopSz : Int → List ByteArray → Int
  | l, [] => l
  | l, x :: r => if l - x.size < 0 then -1 else loopSz (l - x.size) r
def szM (left : Int) (xs : List ByteArray) : Int := if left - xs.length < 0 then -1 else loopSz (left - xs.length) xs
def totalL : List ByteArray → Nat
  | [] => 0
  | x :: r => x.size + totalL r
theorem loopSz_le : ∀ (xs : List ByteArray) (l : Int), 0 ≤ loopSz l xs → 0 ≤ l → (totalL xs : Int) ≤ l
  | [], l, _, h => by simpa [totalL] using h
  | x :: r, l, h, h0 => by
    unfold loopSz at h
    split at h
    · omega
    · have := loopSz_le r (l - x.size) h (by omega)
      simp only [totalL]; omega
theorem szM_le (left : Int) (xs : List ByteArray) (h : 0 ≤ szM left xs) : (xs.length : Int) + totalL xs ≤ left := by
  unfold szM at h
  split at h
  · omega
  · have := loopSz_le xs _ h (by omega); omega
theorem drop_list (xs : List ByteArray) (k : Nat) (h : k < xs.length) : xs.drop k = xs[k] :: xs.drop (k + 1) := List.drop_eq_getElem_cons h
theorem loopSz_step (xs : List ByteArray) (k : Nat) (h : k < xs.length) (l : Int) : loopSz l (xs.drop k) = if l - xs[k].size < 0 then -1 else loopSz (l - xs[k].size) (xs.drop (k + 1)) := by
  rw [drop_list xs k h]; rfl
theorem ret_int {k : IntKind} {a b : Int} (h : a = b) : Ending.returned (.int k a) = .returned (.int k b) := by rw [h]

theorem take_set_map (ys : List Value) (xs : List ByteArray) (k : Nat) (hk : k < xs.length) (hy : ys.length = xs.length) (h : ys.take k = (xs.map Value.string).take k) : (ys.set k (.string xs[k])).take (k + 1) = (xs.map Value.string).take (k + 1) := by
  rw [take_set_succ ys k _ (by omega), h, List.take_succ_eq_append_getElem (by simpa using hk)]
  simp

end Go.Proofs.YtjbaianfopnciaaDoor
