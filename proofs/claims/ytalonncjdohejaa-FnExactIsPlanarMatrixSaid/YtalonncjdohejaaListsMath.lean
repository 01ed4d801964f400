/-
  All lists of so many different terminals, and all pairs of them that follow each other on the rim.
-/
import Derived.Test.YtalonncjdohejaaRimMath
import Derived.Test.YtalonncjdohejaaNodes
namespace Go.Proofs.Ytalonncjdohejaa
open Go.RowKit

/-- What comes of one list: it with each number that it lacks. -/
def longer (k : Nat) (l : List Int) : List (List Int) := (woL k l).map fun x => l ++ [x]
def listsL (k : Nat) : Nat → List (List Int)
  | 0 => [[]]
  | s + 1 => (listsL k s).flatMap (longer k)
def partL (k : Nat) (L : List (List Int)) (j : Nat) : List (List Int) := (L.take j).flatMap (longer k)
theorem partL_zero (k : Nat) (L : List (List Int)) : partL k L 0 = [] := by simp [partL]
theorem partL_succ {k : Nat} {L : List (List Int)} {j : Nat} (h : j < L.length) : partL k L (j + 1) = partL k L j ++ longer k L[j] := by
  unfold partL; rw [List.take_succ_eq_append_getElem h, List.flatMap_append]; simp
theorem partL_all (k s : Nat) : partL k (listsL k s) (listsL k s).length = listsL k (s + 1) := by unfold partL; rw [List.take_length]; rfl
def longK (l : List Int) (t : Nat) : List (List Int) := (woL t l).map fun x => l ++ [x]
theorem longK_zero (l : List Int) : longK l 0 = [] := by simp [longK, woL, upTo]
theorem longK_in {t : Nat} {l : List Int} (h : decide ((t : Int) ∈ l) = true) : longK l (t + 1) = longK l t := by unfold longK; rw [woL_in h]
theorem longK_out {t : Nat} {l : List Int} (h : decide ((t : Int) ∈ l) = false) : longK l (t + 1) = longK l t ++ [l ++ [(t : Int)]] := by unfold longK; rw [woL_out h, List.map_append]; rfl
theorem longK_all (k : Nat) (l : List Int) : longK l k = longer k l := rfl
theorem longer_le (k : Nat) (l : List Int) : (longer k l).length ≤ k := by unfold longer; rw [List.length_map]; exact woL_le k l
theorem longK_le (t : Nat) (l : List Int) : (longK l t).length ≤ t := by unfold longK; rw [List.length_map]; exact woL_le t l
theorem flat_le {α β : Type} (f : α → List β) (k : Nat) (hf : ∀ a, (f a).length ≤ k) : ∀ l : List α, (l.flatMap f).length ≤ l.length * k
  | [] => by simp
  | a :: r => by
    have ih := flat_le f k hf r
    have := hf a
    rw [List.flatMap_cons, List.length_append, List.length_cons, Nat.succ_mul]
    omega
theorem lists_le (k : Nat) : ∀ s, (listsL k s).length ≤ k ^ s
  | 0 => by simp [listsL]
  | s + 1 => by
    have ih := lists_le k s
    have h := flat_le (longer k) k (longer_le k) (listsL k s)
    have := Nat.mul_le_mul_right k ih
    show ((listsL k s).flatMap (longer k)).length ≤ _
    rw [Nat.pow_succ]; omega
theorem lists_small {k s : Nat} (hk : k ≤ 5) (hs : s ≤ 3) : (listsL k s).length ≤ 125 := by
  have h := lists_le k s
  have h2 : k ^ s ≤ 5 ^ s := Nat.pow_le_pow_left hk s
  have h3 : 5 ^ s ≤ 5 ^ 3 := Nat.pow_le_pow_right (by omega) hs
  omega
theorem part_small {k s j : Nat} (hk : k ≤ 5) (hs : s ≤ 2) : (partL k (listsL k s) j).length ≤ 625 := by
  have h1 := lists_small hk (show s ≤ 3 by omega)
  have h := flat_le (longer k) k (longer_le k) ((listsL k s).take j)
  have h2 : ((listsL k s).take j).length ≤ 125 := by rw [List.length_take]; omega
  have := Nat.mul_le_mul h2 hk
  show (((listsL k s).take j).flatMap (longer k)).length ≤ _
  omega
theorem lists_len (k : Nat) : ∀ s, ∀ l ∈ listsL k s, l.length = s
  | 0, l, h => by simp [listsL] at h; simp [h]
  | s + 1, l, h => by
    obtain ⟨l', h1, h2⟩ := List.mem_flatMap.1 h
    obtain ⟨x, _, rfl⟩ := List.mem_map.1 h2
    simp [lists_len k s l' h1]
/-- The pairs of lists of one length, and all of them. -/
noncomputable def rowPairs (k : Nat) (p : List Int) (L : List (List Int)) : List MatI := (L.filter fun q => circB k p q).map fun q => [p, q]
noncomputable def pairsOf (k s : Nat) : List MatI := (listsL k s).flatMap fun p => rowPairs k p (listsL k s)
noncomputable def pairsK (k n : Nat) : List MatI := (List.range n).flatMap fun s => pairsOf k (s + 1)
theorem pairsK_zero (k : Nat) : pairsK k 0 = [] := rfl
theorem pairsK_succ (k n : Nat) : pairsK k (n + 1) = pairsK k n ++ pairsOf k (n + 1) := by simp [pairsK, List.range_succ]
noncomputable def rowP (k : Nat) (p : List Int) (L : List (List Int)) (j : Nat) : List MatI := ((L.take j).filter fun q => circB k p q).map fun q => [p, q]
noncomputable def partP (k : Nat) (L : List (List Int)) (i : Nat) : List MatI := (L.take i).flatMap fun p => rowPairs k p L
theorem rowP_zero (k : Nat) (p : List Int) (L : List (List Int)) : rowP k p L 0 = [] := by simp [rowP]
theorem rowP_yes {k : Nat} {p : List Int} {L : List (List Int)} {j : Nat} (h : j < L.length) (hc : circB k p L[j] = true) : rowP k p L (j + 1) = rowP k p L j ++ [[p, L[j]]] := by
  unfold rowP; rw [List.take_succ_eq_append_getElem h, List.filter_append, List.map_append]; simp [hc]
theorem rowP_no {k : Nat} {p : List Int} {L : List (List Int)} {j : Nat} (h : j < L.length) (hc : circB k p L[j] = false) : rowP k p L (j + 1) = rowP k p L j := by
  unfold rowP; rw [List.take_succ_eq_append_getElem h, List.filter_append, List.map_append]; simp [hc]
theorem rowP_all (k : Nat) (p : List Int) (L : List (List Int)) : rowP k p L L.length = rowPairs k p L := by unfold rowP rowPairs; rw [List.take_length]
theorem rowP_le (k : Nat) (p : List Int) (L : List (List Int)) (j : Nat) : (rowP k p L j).length ≤ L.length := by
  unfold rowP
  rw [List.length_map]
  have h1 := List.length_filter_le (fun q => circB k p q) (L.take j)
  have h2 : (L.take j).length ≤ L.length := by rw [List.length_take]; omega
  omega
theorem partP_zero (k : Nat) (L : List (List Int)) : partP k L 0 = [] := by simp [partP]
theorem partP_succ {k : Nat} {L : List (List Int)} {i : Nat} (h : i < L.length) : partP k L (i + 1) = partP k L i ++ rowPairs k L[i] L := by
  unfold partP; rw [List.take_succ_eq_append_getElem h, List.flatMap_append]; simp
theorem partP_all (k s : Nat) : partP k (listsL k s) (listsL k s).length = pairsOf k s := by unfold partP pairsOf; rw [List.take_length]
theorem partP_le (k : Nat) (L : List (List Int)) (i : Nat) : (partP k L i).length ≤ L.length * L.length := by
  have h := flat_le (fun p => rowPairs k p L) L.length (fun p => by rw [← rowP_all]; exact rowP_le k p L _) (L.take i)
  have h2 : (L.take i).length ≤ L.length := by rw [List.length_take]; omega
  have := Nat.mul_le_mul_right L.length h2
  show ((L.take i).flatMap fun p => rowPairs k p L).length ≤ _
  omega
theorem pairsOf_le {k s : Nat} (hk : k ≤ 5) (hs : s ≤ 3) : (pairsOf k s).length ≤ 15625 := by
  have h := partP_le k (listsL k s) (listsL k s).length
  rw [partP_all] at h
  have h1 := lists_small hk hs
  have := Nat.mul_le_mul h1 h1
  omega
theorem pairsK_le {k : Nat} (hk : k ≤ 5) : ∀ n, n ≤ 2 → (pairsK k n).length ≤ n * 15625
  | 0, _ => by simp [pairsK]
  | n + 1, h => by
    have ih := pairsK_le hk n (by omega)
    have := pairsOf_le hk (show n + 1 ≤ 3 by omega)
    rw [pairsK_succ, List.length_append]; omega
end Go.Proofs.Ytalonncjdohejaa
