/-
  The weights at a node are those of its wires to the other nodes.
-/
import Derived.Test.YtnbbmpilpeakiaaWithout
namespace Go.Proofs.Ytnbbmpilpeakiaa
open Go.RowKit

def sumN (f : Nat → Int) : Nat → Int
  | 0 => 0
  | k + 1 => sumN f k + f k
theorem sumN_zero {f : Nat → Int} : ∀ n, (∀ k, k < n → f k = 0) → sumN f n = 0
  | 0, _ => rfl
  | n + 1, h => by
    show sumN f n + f n = 0
    rw [sumN_zero n (fun k hk => h k (by omega)), h n (by omega)]; rfl
theorem sumN_one {f : Nat → Int} (j : Nat) : ∀ n, j < n → (∀ k, k < n → k ≠ j → f k = 0) → sumN f n = f j
  | 0, h, _ => absurd h (by omega)
  | n + 1, hj, h => by
    show sumN f n + f n = f j
    by_cases e : j = n
    · subst e
      rw [sumN_zero j (fun k hk => h k (by omega) (by omega))]; omega
    · rw [sumN_one j n (by omega) (fun k hk hkj => h k (by omega) hkj), h n (by omega) (fun e' => e e'.symm)]; omega
theorem sumN_add (f g : Nat → Int) : ∀ n, sumN (fun k => f k + g k) n = sumN f n + sumN g n
  | 0 => rfl
  | n + 1 => by
    show sumN (fun k => f k + g k) n + (f n + g n) = (sumN f n + f n) + (sumN g n + g n)
    rw [sumN_add f g n]; omega
theorem sumN_ext {f g : Nat → Int} : ∀ n, (∀ k, k < n → f k = g k) → sumN f n = sumN g n
  | 0, _ => rfl
  | n + 1, h => by
    show sumN f n + f n = sumN g n + g n
    rw [sumN_ext n (fun k hk => h k (by omega)), h n (by omega)]
/-- All wires between two nodes, all wires at a node. -/
def sJ (ws : List W3) (lo hi : Int) : Int := (ws.map fun e => if e.1 = lo ∧ e.2.1 = hi then e.2.2 else 0).sum
def sT (ws : List W3) (x : Int) : Int := (ws.map fun e => if e.1 = x ∨ e.2.1 = x then e.2.2 else 0).sum
theorem sJ_none (lo hi : Int) : ∀ ws : List W3, (∀ e ∈ ws, ¬ (e.1 = lo ∧ e.2.1 = hi)) → sJ ws lo hi = 0
  | [], _ => rfl
  | e :: r, h => by
    show (if e.1 = lo ∧ e.2.1 = hi then e.2.2 else 0) + sJ r lo hi = 0
    rw [if_neg (h e (by simp)), sJ_none lo hi r (fun x hx => h x (by simp [hx]))]; rfl
theorem wBtw_sJ (a b : Int) (hne : a ≠ b) : ∀ ws : List W3, ws.Pairwise wLt → wBtw ws a b = sJ ws (min a b) (max a b)
  | [], _ => by simp [wBtw, sJ]
  | e :: r, hp => by
    rw [List.pairwise_cons] at hp
    have ih := wBtw_sJ a b hne r hp.2
    show _ = (if e.1 = min a b ∧ e.2.1 = max a b then e.2.2 else 0) + sJ r (min a b) (max a b)
    by_cases h : e.1 = min a b ∧ e.2.1 = max a b
    · rw [if_pos h, sJ_none _ _ r (fun x hx hx2 => by have := hp.1 x hx; unfold wLt at this; omega)]
      have hb : ((e.1 == min a b) && (e.2.1 == max a b)) = true := by simp [h.1, h.2]
      unfold wBtw
      rw [if_neg hne, List.find?_cons_of_pos (p := fun e : W3 => (e.1 == min a b) && (e.2.1 == max a b)) hb]
      simp
    · rw [if_neg h, ← ih]
      have hb : ¬ ((e.1 == min a b) && (e.2.1 == max a b)) = true := by simp; intro h1; exact fun h2 => h ⟨h1, h2⟩
      unfold wBtw
      rw [if_neg hne, if_neg hne, List.find?_cons_of_neg (p := fun e : W3 => (e.1 == min a b) && (e.2.1 == max a b)) hb]
      simp
theorem sT_snoc (ws : List W3) (k : Nat) (h : k < ws.length) (x : Int) : sT (ws.take (k + 1)) x = sT (ws.take k) x + (if ws[k].1 = x ∨ ws[k].2.1 = x then ws[k].2.2 else 0) := by
  unfold sT; rw [List.take_succ_eq_append_getElem h, List.map_append, List.sum_append]; simp
theorem wAt_sT {n : Int} {ws : List W3} (h : WiresV n ws) (hn : n ≤ 5) (x : Int) (h0 : 0 ≤ x) (hx : x < n) : ∀ k, k ≤ ws.length → wAt (ws.take k) x = sT (ws.take k) x
  | 0, _ => by simp [wAt, sT]
  | k + 1, hk => by
    have hk' : k < ws.length := by omega
    have ih := wAt_sT h hn x h0 hx k (by omega)
    have hd := degree h hn x h0 hx
    have hl : ((ws.take k).filter (tch x)).length ≤ (ws.filter (tch x)).length := ((List.take_sublist k ws).filter (tch x)).length_le
    have hr := wAt_range h x k (by omega) (by omega)
    obtain ⟨v1, v2, v3, v4, v5⟩ := h.1 k hk'
    rw [wAt_snoc ws k hk', sT_snoc ws k hk', ← ih]
    by_cases ht : ws[k].1 = x ∨ ws[k].2.1 = x
    · rw [if_pos ht, if_pos (by simpa using ht), wrap_small (by omega) (by omega)]
    · rw [if_neg ht, if_neg (by simpa using ht)]; omega
theorem sT_sum (N x : Nat) (hx : x < N) : ∀ ws : List W3, (∀ e ∈ ws, wireV N e) → sT ws x = sumN (fun k => if k = x then 0 else sJ ws (min (x : Int) k) (max (x : Int) k)) N
  | [], _ => by
    rw [sumN_zero]
    · rfl
    · intro k _; split <;> rfl
  | e :: r, h => by
    have ih := sT_sum N x hx r (fun y hy => h y (by simp [hy]))
    obtain ⟨v1, v2, v3, v4, v5⟩ := h e (by simp)
    have hs : sumN (fun k => if k = x then 0 else sJ (e :: r) (min (x : Int) k) (max (x : Int) k)) N = sumN (fun k => if k = x then 0 else (if e.1 = min (x : Int) k ∧ e.2.1 = max (x : Int) k then e.2.2 else 0)) N + sumN (fun k => if k = x then 0 else sJ r (min (x : Int) k) (max (x : Int) k)) N := by
      rw [← sumN_add]
      refine sumN_ext N fun k _ => ?_
      by_cases hk : k = x
      · simp [hk]
      · simp only [if_neg hk]; rfl
    rw [hs, ← ih]
    show (if e.1 = (x : Int) ∨ e.2.1 = (x : Int) then e.2.2 else 0) + sT r x = _
    congr 1
    by_cases ht : e.1 = (x : Int)
    · rw [if_pos (.inl ht), sumN_one e.2.1.toNat N (by omega) (fun k _ hk => by
        by_cases hkx : k = x
        · rw [if_pos hkx]
        · rw [if_neg hkx, if_neg (by omega)])]
      rw [if_neg (by omega), if_pos (by omega)]
    · by_cases ht2 : e.2.1 = (x : Int)
      · rw [if_pos (.inr ht2), sumN_one e.1.toNat N (by omega) (fun k _ hk => by
          by_cases hkx : k = x
          · rw [if_pos hkx]
          · rw [if_neg hkx, if_neg (by omega)])]
        rw [if_neg (by omega), if_pos (by omega)]
      · rw [if_neg (by omega), sumN_zero N (fun k _ => by
          by_cases hkx : k = x
          · rw [if_pos hkx]
          · rw [if_neg hkx, if_neg (by omega)])]
theorem wBtw_self (ws : List W3) (a : Int) : wBtw ws a a = 0 := by unfold wBtw; rw [if_pos rfl]
theorem wBtw_comm (ws : List W3) (a b : Int) : wBtw ws a b = wBtw ws b a := by
  unfold wBtw
  rw [Int.min_comm, Int.max_comm]
  by_cases h : a = b
  · rw [if_pos h, if_pos h.symm]
  · rw [if_neg h, if_neg (Ne.symm h)]
/-- The weight at a node is the sum of the weights between it and all nodes. -/
theorem wAt_sum {N : Nat} {ws : List W3} (h : WiresV N ws) (hN : N ≤ 5) (x : Nat) (hx : x < N) : wAt ws (x : Int) = sumN (fun k => wBtw ws (x : Int) (k : Int)) N := by
  have h1 := wAt_sT h (by omega) (x : Int) (by omega) (by omega) ws.length (Nat.le_refl _)
  rw [List.take_length] at h1
  rw [h1, sT_sum N x hx ws (fun e he => h.mem he)]
  refine sumN_ext N fun k _ => ?_
  by_cases hk : k = x
  · rw [if_pos hk, hk, wBtw_self]
  · rw [if_neg hk, wBtw_sJ (x : Int) (k : Int) (by omega) ws (pairW h)]
end Go.Proofs.Ytnbbmpilpeakiaa
