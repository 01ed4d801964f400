/-
  The rim of two lists of terminals, and how often it goes down.
-/
import Derived.Test.YtalonncjdohejaaGMinor
namespace Go.Proofs.Ytalonncjdohejaa
open Go.RowKit

def rimL (p q : List Int) : List Int := p ++ q.reverse
/-- How often the first k steps of a list go down. -/
def dnN (L : List Int) : Nat → Nat
  | 0 => 0
  | i + 1 => dnN L i + (if L.getD (i + 1) 0 < L.getD i 0 then 1 else 0)
/-- Does the step from the last one to the first one go down? -/
def wrN (L : List Int) : Nat := if L.getD 0 0 < L.getD (L.length - 1) 0 then 1 else 0
theorem dnN_le (L : List Int) : ∀ k, dnN L k ≤ k
  | 0 => Nat.le_refl _
  | k + 1 => by
    have := dnN_le L k
    unfold dnN
    split <;> omega
theorem wrN_le (L : List Int) : wrN L ≤ 1 := by unfold wrN; split <;> omega
def CircV (k : Int) (p q : List Int) : Prop := 1 ≤ k ∧ k ≤ 5 ∧ p.length = q.length ∧ p.length ≠ 0 ∧ linV k.toNat (rimL p q) ∧ dnN (rimL p q) ((rimL p q).length - 1) + wrN (rimL p q) = 1
noncomputable def circB (k : Int) (p q : List Int) : Bool := @decide (CircV k p q) (Classical.propDecidable _)
theorem circB_no {k : Int} {p q : List Int} (h : ¬ CircV k p q) : circB k p q = false := by unfold circB; rw [@decide_eq_false _ (Classical.propDecidable _) h]
theorem circB_yes {k : Int} {p q : List Int} (h : CircV k p q) : circB k p q = true := by unfold circB; rw [@decide_eq_true _ (Classical.propDecidable _) h]
theorem circB_iff {k : Int} {p q : List Int} : circB k p q = true ↔ CircV k p q := by unfold circB; rw [@decide_eq_true_eq _ (Classical.propDecidable _)]
theorem rim_length (p q : List Int) : (rimL p q).length = p.length + q.length := by simp [rimL]
/-- What the model has counted ahead of step i; what the program has. -/
def dD (L : List Int) (i : Nat) : Nat := if i < L.length then dnN L i else dnN L (L.length - 1) + wrN L
def rD (L : List Int) (i : Nat) : Nat := if i = 0 then 0 else wrN L + dnN L (i - 1)
theorem dD_zero {L : List Int} (h : 0 < L.length) : dD L 0 = 0 := by unfold dD; rw [if_pos h]; rfl
theorem dD_succ {L : List Int} {i j : Nat} (h : i < L.length) (hj : j < L.length) (hij : j = if i + 1 = L.length then 0 else i + 1) : dD L (i + 1) = dD L i + (if L[j] < L[i] then 1 else 0) := by
  unfold dD
  rw [if_pos h]
  by_cases e : i + 1 = L.length
  · rw [if_neg (by omega), show L.length - 1 = i by omega]
    rw [if_pos e] at hij
    subst hij
    congr 1
    unfold wrN
    rw [show L.length - 1 = i by omega]
    simp [h, hj]
  · rw [if_neg e] at hij
    subst hij
    rw [if_pos hj]
    show dnN L i + _ = _
    congr 1
    simp [h, hj]
theorem dD_le (L : List Int) (i : Nat) : dD L i ≤ L.length + i + 1 := by
  unfold dD
  have h1 := dnN_le L i
  have h2 := dnN_le L (L.length - 1)
  have h3 := wrN_le L
  split <;> omega
theorem dD_end (L : List Int) : dD L L.length = dnN L (L.length - 1) + wrN L := by unfold dD; rw [if_neg (Nat.lt_irrefl _)]
theorem rD_succ {L : List Int} {i j : Nat} (h : i < L.length) (hj : j < L.length) (hij : j = if i = 0 then L.length - 1 else i - 1) : rD L (i + 1) = rD L i + (if L[i] < L[j] then 1 else 0) := by
  unfold rD
  rw [if_neg (by omega), Nat.add_sub_cancel]
  by_cases e : i = 0
  · subst e
    rw [if_pos rfl]
    rw [if_pos rfl] at hij
    subst hij
    show wrN L + 0 = 0 + _
    unfold wrN
    simp [h, hj]
  · rw [if_neg e]
    rw [if_neg e] at hij
    obtain ⟨k, rfl⟩ : ∃ k, i = k + 1 := ⟨i - 1, by omega⟩
    obtain rfl : j = k := by omega
    show wrN L + (dnN L j + (if L.getD (j + 1) 0 < L.getD j 0 then 1 else 0)) = wrN L + dnN L j + _
    rw [Nat.add_assoc]
    simp [h, hj]
theorem rD_le (L : List Int) (i : Nat) : rD L i ≤ i + 1 := by
  unfold rD
  have h1 := dnN_le L (i - 1)
  have h3 := wrN_le L
  split <;> omega
theorem rD_end {L : List Int} (h : 0 < L.length) : rD L L.length = dnN L (L.length - 1) + wrN L := by unfold rD; rw [if_neg (by omega)]; omega
theorem circ_of {k : Int} {p q : List Int} (h1 : 1 ≤ k) (h5 : k ≤ 5) (hl : p.length = q.length) (h0 : p.length ≠ 0) (hv : linV k.toNat (rimL p q)) : circB k p q = decide (dnN (rimL p q) ((rimL p q).length - 1) + wrN (rimL p q) = 1) := by
  by_cases h : dnN (rimL p q) ((rimL p q).length - 1) + wrN (rimL p q) = 1
  · rw [circB_yes ⟨h1, h5, hl, h0, hv, h⟩, decide_eq_true h]
  · rw [circB_no (fun hh => h hh.2.2.2.2.2), decide_eq_false h]
theorem rim_take (p q : List Int) (t : Nat) (h : t < q.length) : p ++ (q.reverse.take (t + 1)) = (p ++ q.reverse.take t) ++ [q[q.length - 1 - t]'(by omega)] := by
  rw [List.take_succ_eq_append_getElem (by simpa using h), List.append_assoc]
  simp [List.getElem_reverse]
theorem rim_take' (p q : List Int) (t : Nat) (h : t ≤ q.length) : (p ++ q.reverse.take t).length = p.length + t := by simp; omega
theorem rim_all (p q : List Int) : p ++ q.reverse.take q.length = rimL p q := by
  unfold rimL; rw [List.take_of_length_le (by simp)]
end Go.Proofs.Ytalonncjdohejaa
