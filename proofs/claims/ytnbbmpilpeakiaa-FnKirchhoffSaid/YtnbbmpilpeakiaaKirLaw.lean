/-
  Kirchhoff's laws in fractions, for networks of small weights.
-/
import Derived.Test.YtnbbmpilpeakiaaGTree
import Derived.Test.YtnbbmpilpeakiaaNetRat
import Derived.Test.YtnbbmpilpeakiaaGPots
import Derived.Test.YtnbbmpilpeakiaaResist
import Derived.Test.YtnbbmpilpeakiaaPotential
import Derived.Test.YtnbbmpilpeakiaaRatLaws
import Derived.Test.YtnbbmpilpeakiaaGoodNet
namespace Go.Proofs.Ytnbbmpilpeakiaa
open Go.RowKit

theorem sumN_le {f : Nat → Int} {X : Int} (h : ∀ k, 0 ≤ f k ∧ f k ≤ X) : ∀ n : Nat, 0 ≤ sumN f n ∧ sumN f n ≤ n * X
  | 0 => by simp [sumN]
  | n + 1 => by
    have ih := sumN_le h n
    have := h n
    show 0 ≤ sumN f n + f n ∧ sumN f n + f n ≤ ((n + 1 : Nat) : Int) * X
    have e : ((n + 1 : Nat) : Int) * X = n * X + X := by rw [Int.natCast_add, Int.add_mul]; simp
    omega
theorem GoodW.btw {V : Nat} {X : Int} {ws : List W3} (h : GoodW V X ws) (hX : 0 ≤ X) (a b : Int) : 0 ≤ wBtw ws a b ∧ wBtw ws a b ≤ X := by
  unfold wBtw
  by_cases hab : a = b
  · rw [if_pos hab]; omega
  · rw [if_neg hab]
    split
    · rename_i e he
      have := h.mem e (List.mem_of_find?_eq_some he)
      omega
    · omega
/-- The matrix of a network of weights up to 6: entries up to 30. -/
theorem GoodW.entry {V : Nat} {ws : List W3} (h : GoodW V 6 ws) (h5 : V ≤ 5) (r c : Int) : -30 ≤ at2 (lapM V ws) r c ∧ at2 (lapM V ws) r c ≤ 30 := by
  have hw := h.wires (by omega)
  by_cases hr : r.toNat < V
  · by_cases hc : c.toNat < V
    · have e : at2 (lapM V ws) r c = lapE ws r.toNat c.toNat := by
        have e1 : at2 (lapM V ws) r c = at2 (lapM V ws) (r.toNat : Int) (c.toNat : Int) := by unfold at2; rw [Int.toNat_natCast, Int.toNat_natCast]
        rw [e1]; exact at2_lap ws hr hc
      rw [e]; unfold lapE
      by_cases hk : r.toNat = c.toNat
      · rw [if_pos hk, wAt_sum hw h5 r.toNat hr]
        have := sumN_le (f := fun k => wBtw ws (r.toNat : Int) (k : Int)) (fun k => h.btw (by omega) _ _) V
        have h30 : (V : Int) * 6 ≤ 30 := by omega
        omega
      · rw [if_neg hk]
        have := h.btw (by omega) (r.toNat : Int) (c.toNat : Int)
        omega
    · have e : at2 (lapM V ws) r c = 0 := by
        unfold at2
        rw [List.getD_eq_getElem?_getD (l := (lapM V ws).getD r.toNat []), List.getElem?_eq_none, Option.getD_none]
        rw [List.getD_eq_getElem?_getD, List.getElem?_eq_getElem (by rw [lapM_length]; exact hr), Option.getD_some, lapM_row]
        simp; omega
      omega
  · have e : at2 (lapM V ws) r c = 0 := by
      unfold at2
      rw [List.getD_eq_getElem?_getD (l := lapM V ws), List.getElem?_eq_none (by rw [lapM_length]; omega)]
      simp
    omega
theorem GoodW.det {V : Nat} {ws : List W3} (h : GoodW V 6 ws) (h5 : V ≤ 5) (rows cols : List Int) (hl : rows.length = cols.length) (h4 : rows.length ≤ 4) : -19440000 ≤ detD (lapM V ws) rows cols ∧ detD (lapM V ws) rows cols ≤ 19440000 := by
  have hb := detD_leE (m := lapM V ws) (E := 30) (by omega) (fun r c => h.entry h5 r c) rows cols hl
  have hk : rows.length = 0 ∨ rows.length = 1 ∨ rows.length = 2 ∨ rows.length = 3 ∨ rows.length = 4 := by omega
  rcases hk with hk | hk | hk | hk | hk <;> rw [hk] at hb <;> simp [fac, pow] at hb <;> omega
theorem GoodW.det3 {V : Nat} {ws : List W3} (h : GoodW V 6 ws) (h5 : V ≤ 5) (rows cols : List Int) (hl : rows.length = cols.length) (h4 : rows.length ≤ 3) : -162000 ≤ detD (lapM V ws) rows cols ∧ detD (lapM V ws) rows cols ≤ 162000 := by
  have hb := detD_leE (m := lapM V ws) (E := 30) (by omega) (fun r c => h.entry h5 r c) rows cols hl
  have hk : rows.length = 0 ∨ rows.length = 1 ∨ rows.length = 2 ∨ rows.length = 3 := by omega
  rcases hk with hk | hk | hk | hk <;> rw [hk] at hb <;> simp [fac, pow] at hb <;> omega
/-- What the law of Kirchhoff wants of a network. -/
structure KirNet (N : Nat) (e s : Int) (ws : List W3) (a b : Nat) : Prop where
  good : GoodW N 6 ws
  net : netB N e s ws = true
  n2 : 2 ≤ N
  n5 : N ≤ 5
  s1 : 1 ≤ s
  s3 : s ≤ 3
  ha : a < N
  hb : b < N
  hab : a ≠ b
theorem KirNet.tree {N : Nat} {e s : Int} {ws : List W3} {a b : Nat} (k : KirNet N e s ws a b) : 0 < treeR N e s ws ∧ treeR N e s ws ≤ 19440000 := by
  refine ⟨tree_pos k.net, ?_⟩
  have hl := woL_len (N := N) (q := [0]) (by simp) (by have := k.n2; simp; omega)
  have := (k.good.det k.n5 (woL N [0]) (woL N [0]) rfl (by rw [hl]; have := k.n5; simp; omega)).2
  unfold treeR
  rw [if_pos k.net, Int.toNat_natCast]
  exact this
theorem KirNet.pot {N : Nat} {e s : Int} {ws : List W3} {a b : Nat} (k : KirNet N e s ws a b) (v : Nat) (hv : v < N) : -162000 ≤ potI (lapM N ws) N a b v ∧ potI (lapM N ws) N a b v ≤ 162000 := by
  have ha := k.ha
  have hb := k.hb
  have hab := k.hab
  have h5 := k.n5
  by_cases hvb : v = b
  · unfold potI; rw [if_pos hvb]; omega
  · rw [potI_yes hvb]
    have l1 := woL_two (N := N) (a := ((min a b : Nat) : Int)) (b := ((max a b : Nat) : Int)) (by omega) (by omega) (by omega)
    have l2 := woL_two (N := N) (a := ((min v b : Nat) : Int)) (b := ((max v b : Nat) : Int)) (by omega) (by omega) (by omega)
    have hr := k.good.det3 h5 (woL N [((min a b : Nat) : Int), ((max a b : Nat) : Int)]) (woL N [((min v b : Nat) : Int), ((max v b : Nat) : Int)]) (by rw [l1, l2]) (by rw [l1]; omega)
    rcases sgn_cases (idx a b + idx v b) with e | e <;> rw [e] <;> omega
/-- The potential of a node. -/
theorem KirNet.potV {N : Nat} {e s : Int} {ws : List W3} {a b : Nat} (k : KirNet N e s ws a b) (v : Nat) (hv : v < N) : IsV (potAt N e s ws a b v).1 (potAt N e s ws a b v).2 (s * potI (lapM N ws) N a b v) (treeR N e s ws) := by
  obtain ⟨t0, t1⟩ := k.tree
  have hp := k.pot v hv
  have := mulB (a := s) (b := potI (lapM N ws) N a b v) (A := 3) (B := 162000) (by have := k.s1; have := k.s3; omega) (by omega)
  exact rOf_isP t0 (by omega) (by omega)
theorem KirNet.curV {N : Nat} {e s : Int} {ws : List W3} {a b : Nat} (k : KirNet N e s ws a b) (v w : Nat) (hv : v < N) (hw : w < N) : IsV (curAt N e s ws a b v w).1 (curAt N e s ws a b v w).2 (curN N ws a b v w) (treeR N e s ws) := by
  obtain ⟨t0, t1⟩ := k.tree
  have h1 := k.pot v hv
  have h2 := k.pot w hw
  have hW := k.good.btw (by omega) (v : Int) (w : Int)
  have := mulB (a := wBtw ws (v : Int) (w : Int)) (b := potI (lapM N ws) N a b v - potI (lapM N ws) N a b w) (A := 6) (B := 324000) (by omega) (by omega)
  exact rOf_isP t0 (by unfold curN; omega) (by omega)
/-- The current follows the potentials. -/
theorem KirNet.follows {N : Nat} {e s : Int} {ws : List W3} {a b : Nat} (k : KirNet N e s ws a b) (v w : Nat) (hv : v < N) (hw : w < N) :
    rTimes (rDiff (potAt N e s ws a b v).1 (potAt N e s ws a b v).2 (potAt N e s ws a b w).1 (potAt N e s ws a b w).2).1 (rDiff (potAt N e s ws a b v).1 (potAt N e s ws a b v).2 (potAt N e s ws a b w).1 (potAt N e s ws a b w).2).2 (rOfN (wBtw ws (v : Int) (w : Int)) s) (rOfD (wBtw ws (v : Int) (w : Int)) s) = curAt N e s ws a b v w := by
  obtain ⟨t0, t1⟩ := k.tree
  have h1 := k.pot v hv
  have h2 := k.pot w hw
  have hW := k.good.btw (by omega) (v : Int) (w : Int)
  have V1 := k.potV v hv
  have V2 := k.potV w hw
  have C := k.curV v w hv hw
  have s1 := k.s1
  have s3 := k.s3
  unfold curN at C
  generalize potI (lapM N ws) N a b v = P at *
  generalize potI (lapM N ws) N a b w = Q at *
  generalize treeR N e s ws = T at *
  generalize wBtw ws (v : Int) (w : Int) = W at *
  have m1 := mulB (a := s) (b := P) (A := 3) (B := 162000) (by omega) (by omega)
  have m2 := mulB (a := s) (b := Q) (A := 3) (B := 162000) (by omega) (by omega)
  have m3 := mulB (a := s * P) (b := T) (A := 486000) (B := 19440000) (by omega) (by omega)
  have m4 := mulB (a := s * Q) (b := T) (A := 486000) (B := 19440000) (by omega) (by omega)
  have m5 := mulB (a := T) (b := T) (A := 19440000) (B := 19440000) (by omega) (by omega)
  have m6 := mulB (a := s * P) (b := s * Q) (A := 486000) (B := 486000) (by omega) (by omega)
  have D := (rDiff_is V1 V2 (by omega) (by omega) (by omega) (by omega)).cast (r := s * (P - Q)) (t := T) t0 (by grind)
  have R := rOf_isP (n := W) (d := s) (by omega) (by omega) (by omega)
  have m7 := mulB (a := s) (b := P - Q) (A := 3) (B := 324000) (by omega) (by omega)
  have m8 := mulB (a := s * (P - Q)) (b := s) (A := 972000) (B := 3) (by omega) (by omega)
  have m9 := mulB (a := W) (b := T) (A := 6) (B := 19440000) (by omega) (by omega)
  have m10 := mulB (a := T) (b := s) (A := 19440000) (B := 3) (by omega) (by omega)
  have m11 := mulB (a := s * (P - Q)) (b := W) (A := 972000) (B := 6) (by omega) (by omega)
  have M := rTimes_is D R (by omega) (by omega) (by omega) (by omega)
  exact M.pair C (by grind)
/-- The currents that flow off a node, added up. -/
noncomputable def flowN (N : Nat) (ws : List W3) (a b v k : Nat) : Int := sumN (fun w => curN N ws a b v w) k
noncomputable def flowAt (N : Nat) (e s : Int) (ws : List W3) (a b v k : Nat) : P2 := (rOfN (flowN N ws a b v k) (treeR N e s ws), rOfD (flowN N ws a b v k) (treeR N e s ws))
theorem KirNet.cur_le {N : Nat} {e s : Int} {ws : List W3} {a b : Nat} (k : KirNet N e s ws a b) (v w : Nat) (hv : v < N) (hw : w < N) : -1944000 ≤ curN N ws a b v w ∧ curN N ws a b v w ≤ 1944000 := by
  have h1 := k.pot v hv
  have h2 := k.pot w hw
  have hW := k.good.btw (by omega) (v : Int) (w : Int)
  have := mulB (a := wBtw ws (v : Int) (w : Int)) (b := potI (lapM N ws) N a b v - potI (lapM N ws) N a b w) (A := 6) (B := 324000) (by omega) (by omega)
  unfold curN; omega
theorem KirNet.flow_le {N : Nat} {e s : Int} {ws : List W3} {a b : Nat} (k : KirNet N e s ws a b) (v : Nat) (hv : v < N) : ∀ i, i ≤ N → -(i * 1944000) ≤ flowN N ws a b v i ∧ flowN N ws a b v i ≤ i * 1944000
  | 0, _ => by simp [flowN, sumN]
  | i + 1, hi => by
    have ih := k.flow_le v hv i (by omega)
    have hc := k.cur_le v i hv (by omega)
    have e : flowN N ws a b v (i + 1) = flowN N ws a b v i + curN N ws a b v i := rfl
    rw [e]; omega
theorem KirNet.flowV {N : Nat} {e s : Int} {ws : List W3} {a b : Nat} (k : KirNet N e s ws a b) (v i : Nat) (hv : v < N) (hi : i ≤ N) : IsV (flowAt N e s ws a b v i).1 (flowAt N e s ws a b v i).2 (flowN N ws a b v i) (treeR N e s ws) := by
  obtain ⟨t0, t1⟩ := k.tree
  have h := k.flow_le v hv i hi
  have := k.n5
  exact rOf_isP t0 (by omega) (by omega)
theorem KirNet.flow_zero {N : Nat} {e s : Int} {ws : List W3} {a b : Nat} (k : KirNet N e s ws a b) (v : Nat) (hv : v < N) : flowAt N e s ws a b v 0 = (0, 1) := by
  have h := k.flowV v 0 hv (by omega)
  exact h.pair zero_is (by show (0 : Int) * 1 = 0 * _; simp)
theorem KirNet.flow_step {N : Nat} {e s : Int} {ws : List W3} {a b : Nat} (k : KirNet N e s ws a b) (v i : Nat) (hv : v < N) (hi : i < N) :
    rSum (flowAt N e s ws a b v i).1 (flowAt N e s ws a b v i).2 (curAt N e s ws a b v i).1 (curAt N e s ws a b v i).2 = flowAt N e s ws a b v (i + 1) := by
  obtain ⟨t0, t1⟩ := k.tree
  have h := k.flow_le v hv i (by omega)
  have hc := k.cur_le v i hv hi
  have h5 := k.n5
  have F := k.flowV v i hv (by omega)
  have F' := k.flowV v (i + 1) hv (by omega)
  have C := k.curV v i hv hi
  have e1 : flowN N ws a b v (i + 1) = flowN N ws a b v i + curN N ws a b v i := rfl
  rw [e1] at F'
  generalize flowN N ws a b v i = X at *
  generalize curN N ws a b v i = Y at *
  generalize treeR N e s ws = T at *
  have m1 := mulB (a := X) (b := T) (A := 9720000) (B := 19440000) (by omega) (by omega)
  have m2 := mulB (a := Y) (b := T) (A := 1944000) (B := 19440000) (by omega) (by omega)
  have m3 := mulB (a := T) (b := T) (A := 19440000) (B := 19440000) (by omega) (by omega)
  have m4 := mulB (a := X) (b := Y) (A := 9720000) (B := 1944000) (by omega) (by omega)
  have S := rSum_is F C (by omega) (by omega) (by omega) (by omega)
  exact S.pair F' (by grind)
theorem KirNet.flow_end {N : Nat} {e s : Int} {ws : List W3} {a b : Nat} (k : KirNet N e s ws a b) (v : Nat) (hv : v < N) : flowAt N e s ws a b v N = if v = a then (1, 1) else if v = b then (-1, 1) else (0, 1) := by
  obtain ⟨t0, t1⟩ := k.tree
  have hw := k.good.wires (by omega)
  have F := k.flowV v N hv (Nat.le_refl _)
  have hk := kirchhoff hw k.n2 k.n5 a b v k.ha k.hb hv k.hab
  have hm := (min_same hw k.n2 k.n5 b k.hb).trans (minI_tree k.net).symm
  rw [hm] at hk
  have e1 : flowN N ws a b v N = _ := hk
  rw [e1] at F
  have one : IsV (-1) 1 (-1) 1 := ⟨by decide, by decide, rfl⟩
  by_cases hva : v = a
  · rw [if_pos hva] at F ⊢
    exact F.pair one_is (by omega)
  · rw [if_neg hva] at F ⊢
    by_cases hvb : v = b
    · rw [if_pos hvb] at F ⊢
      exact F.pair one (by omega)
    · rw [if_neg hvb] at F ⊢
      exact F.pair zero_is (by omega)
theorem KirNet.at_b {N : Nat} {e s : Int} {ws : List W3} {a b : Nat} (k : KirNet N e s ws a b) : potAt N e s ws a b b = (0, 1) := by
  have h := k.potV b k.hb
  refine h.pair zero_is ?_
  have e0 : potI (lapM N ws) N a b b = 0 := by unfold potI; rw [if_pos rfl]
  rw [e0]; simp
theorem KirNet.at_a {N : Nat} {e s : Int} {ws : List W3} {a b : Nat} (k : KirNet N e s ws a b) : resR N e s ws a b = ((potAt N e s ws a b a).1, (potAt N e s ws a b a).2, true) := by
  have ha := k.ha
  have hb := k.hb
  unfold resR potAt
  rw [if_pos ⟨k.net, by omega⟩, forest_forD k.net a b ha hb, potI_self _ _ _ _ k.hab]
end Go.Proofs.Ytnbbmpilpeakiaa
