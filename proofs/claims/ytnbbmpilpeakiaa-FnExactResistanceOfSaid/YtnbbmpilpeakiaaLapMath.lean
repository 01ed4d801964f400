/-
  The matrix of a network: its entries, its bounds.
-/
import Derived.Test.YtnbbmpilpeakiaaWeight
import Derived.Test.YtnbbmpilpeakiaaBetween
import Derived.Test.YtnbbmpilpeakiaaNetMath
import Derived.Test.YtnbbmpilpeakiaaMatOk
namespace Go.Proofs.Ytnbbmpilpeakiaa
open Go.RowKit

def lapE (ws : List W3) (a b : Nat) : Int := if a = b then wAt ws (a : Int) else -wBtw ws (a : Int) (b : Int)
def lapM (N : Nat) (ws : List W3) : MatI := (List.range N).map fun a => (List.range N).map fun b => lapE ws a b
theorem lapM_length (N : Nat) (ws : List W3) : (lapM N ws).length = N := by simp [lapM]
theorem lapM_row (N : Nat) (ws : List W3) (k : Nat) (h : k < (lapM N ws).length) : (lapM N ws)[k] = (List.range N).map fun b => lapE ws k b := by simp [lapM]
theorem wrap_small {x : Int} (h1 : -1000000000 ≤ x) (h2 : x ≤ 1000000000) : wrap64 x = x := by unfold wrap64; omega
theorem wLt_tr {a b c : W3} (h : wLt a b) (k : wLt b c) : wLt a c := by unfold wLt at *; omega
theorem sorted_ge {ws : List W3} (h : ∀ k, (h : k + 1 < ws.length) → wLt ws[k] ws[k + 1]) : ∀ d j, (hk : j + d + 1 < ws.length) → wLt (ws[j]'(by omega)) ws[j + d + 1]
  | 0, j, hk => h j hk
  | d + 1, j, hk => wLt_tr (sorted_ge h d j (by omega)) (h (j + d + 1) hk)
theorem pairW {n : Int} {ws : List W3} (h : WiresV n ws) : ws.Pairwise wLt := by
  rw [List.pairwise_iff_getElem]
  intro i j hi hj hij
  obtain ⟨d, rfl⟩ : ∃ d, j = i + d + 1 := ⟨j - i - 1, by omega⟩
  exact sorted_ge h.2 d i hj
/-- A wire at a node, and its other end. -/
def tch (x : Int) (e : W3) : Bool := (e.1 == x) || (e.2.1 == x)
def othr (x : Int) (e : W3) : Int := if e.1 = x then e.2.1 else e.1
theorem degree {n : Int} {ws : List W3} (h : WiresV n ws) (hn : n ≤ 5) (x : Int) (h0 : 0 ≤ x) (hx : x < n) : (ws.filter (tch x)).length ≤ 4 := by
  obtain ⟨N, rfl⟩ : ∃ N : Nat, n = N := ⟨n.toNat, by omega⟩
  have hmem : ∀ e ∈ ws.filter (tch x), wireV N e ∧ (e.1 = x ∨ e.2.1 = x) := fun e he => by
    rw [List.mem_filter] at he
    refine ⟨h.mem he.1, ?_⟩
    have := he.2
    unfold tch at this
    simpa using this
  have hp : (ws.filter (tch x)).Pairwise wLt := (pairW h).sublist List.filter_sublist
  have hnd : (x :: (ws.filter (tch x)).map (othr x)).Nodup := by
    rw [List.nodup_cons]
    constructor
    · intro hm
      obtain ⟨e, he, hxe⟩ := List.mem_map.1 hm
      obtain ⟨⟨v1, v2, v3, v4, v5⟩, ht⟩ := hmem e he
      unfold othr at hxe
      split at hxe <;> omega
    · rw [List.nodup_iff_pairwise_ne, List.pairwise_map]
      refine hp.imp_of_mem fun {a b} ha hb hab => ?_
      obtain ⟨⟨v1, v2, v3, v4, v5⟩, ht⟩ := hmem a ha
      obtain ⟨⟨u1, u2, u3, u4, u5⟩, hu⟩ := hmem b hb
      unfold wLt at hab
      unfold othr
      split <;> split <;> omega
  have hl := queue_le (n := N) hnd (fun v hv => by
    rcases List.mem_cons.1 hv with rfl | hv
    · exact ⟨h0, hx⟩
    · obtain ⟨e, he, rfl⟩ := List.mem_map.1 hv
      obtain ⟨⟨v1, v2, v3, v4, v5⟩, ht⟩ := hmem e he
      unfold othr
      split <;> omega)
  simp at hl
  omega
theorem wAt_range {n : Int} {ws : List W3} (h : WiresV n ws) (x : Int) : ∀ k, k ≤ ws.length → ((ws.take k).filter (tch x)).length ≤ 1000 → 0 ≤ wAt (ws.take k) x ∧ wAt (ws.take k) x ≤ 200 * ((ws.take k).filter (tch x)).length
  | 0, _, _ => by simp [wAt]
  | k + 1, hk, hl => by
    have hk' : k < ws.length := by omega
    obtain ⟨v1, v2, v3, v4, v5⟩ := h.1 k hk'
    rw [wAt_snoc ws k hk']
    have e : (ws.take (k + 1)).filter (tch x) = (ws.take k).filter (tch x) ++ [ws[k]].filter (tch x) := by rw [List.take_succ_eq_append_getElem hk', List.filter_append]
    rw [e, List.length_append] at hl ⊢
    have ih := wAt_range h x k (by omega) (by omega)
    by_cases ht : (ws[k].1 == x) = true ∨ (ws[k].2.1 == x) = true
    · rw [if_pos ht]
      have e2 : [ws[k]].filter (tch x) = [ws[k]] := by
        have : tch x ws[k] = true := by unfold tch; simpa using ht
        simp [this]
      rw [e2] at hl ⊢
      simp only [List.length_cons, List.length_nil] at hl ⊢
      rw [wrap_small (by omega) (by omega)]
      omega
    · rw [if_neg ht]
      omega
theorem wAt_le {n : Int} {ws : List W3} (h : WiresV n ws) (hn : n ≤ 5) (x : Int) (h0 : 0 ≤ x) (hx : x < n) : 0 ≤ wAt ws x ∧ wAt ws x ≤ 800 := by
  have hd := degree h hn x h0 hx
  have := wAt_range h x ws.length (Nat.le_refl _) (by rw [List.take_length]; omega)
  rw [List.take_length] at this
  omega
theorem wBtw_le {n : Int} {ws : List W3} (h : WiresV n ws) (a b : Int) : 0 ≤ wBtw ws a b ∧ wBtw ws a b ≤ 200 := by
  unfold wBtw
  split
  · omega
  · split
    · rename_i e he
      have hm := List.mem_of_find?_eq_some he
      obtain ⟨v1, v2, v3, v4, v5⟩ := h.mem hm
      omega
    · omega
theorem lapM_ok {N : Nat} {ws : List W3} (h : WiresV N ws) (hn : N ≤ 5) : matV (lapM N ws) := by
  refine ⟨by rw [lapM_length]; exact hn, fun k hk => ?_⟩
  rw [lapM_row]
  rw [lapM_length] at hk ⊢
  refine ⟨by simp, fun j hj => ?_⟩
  have hj' : j < N := by simpa using hj
  simp only [List.getElem_map, List.getElem_range]
  unfold lapE
  split
  · have := wAt_le h (by omega) (k : Int) (by omega) (by omega); omega
  · have := wBtw_le h (k : Int) (j : Int); omega
/-- What LaplacianOf answers. -/
noncomputable def lapR (n e s : Int) (ws : List W3) : MatI := if netB n e s ws = true then lapM n.toNat ws else []
theorem lapR_no {n e s : Int} {ws : List W3} (h : netB n e s ws = false) : lapR n e s ws = [] := by simp [lapR, h]
theorem lapR_yes {n e s : Int} {ws : List W3} (h : netB n e s ws = true) : lapR n e s ws = lapM n.toNat ws := by simp [lapR, h]
/-- The first b entries of a row; the first a rows. -/
def lapRow (ws : List W3) (a b : Nat) : List Int := (List.range b).map fun j => lapE ws a j
theorem lapRow_snoc (ws : List W3) (a b : Nat) : lapRow ws a (b + 1) = lapRow ws a b ++ [lapE ws a b] := by simp [lapRow, List.range_succ]
theorem lapRow_length (ws : List W3) (a b : Nat) : (lapRow ws a b).length = b := by simp [lapRow]
def lapTop (N : Nat) (ws : List W3) (a : Nat) : MatI := (List.range a).map fun i => lapRow ws i N
theorem lapTop_snoc (N : Nat) (ws : List W3) (a : Nat) : lapTop N ws (a + 1) = lapTop N ws a ++ [lapRow ws a N] := by simp [lapTop, List.range_succ]
theorem lapTop_all (N : Nat) (ws : List W3) : lapTop N ws N = lapM N ws := rfl
theorem lapTop_length (N : Nat) (ws : List W3) (a : Nat) : (lapTop N ws a).length = a := by simp [lapTop]
end Go.Proofs.Ytnbbmpilpeakiaa
