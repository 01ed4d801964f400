/-
  Kirchhoff's laws in fractions, for networks of small weights.
  The power in networks of up to four nodes and weights up to 4: what the potentials dissipate, and what others do.
  The power of the potentials is the resistance; with another potential at a node that is fed nothing the power is more.
-/
import Derived.Test.YtpkddaapffamiaaGTree
import Derived.Test.YtpkddaapffamiaaNetRat
import Derived.Test.YtpkddaapffamiaaGPots
import Derived.Test.YtpkddaapffamiaaResist
import Derived.Test.YtpkddaapffamiaaPotential
import Derived.Test.YtpkddaapffamiaaRatLaws
import Derived.Test.YtpkddaapffamiaaGIns
import Derived.Test.YtpkddaapffamiaaGPow
namespace Go.Proofs.Ytpkddaapffamiaa
open Go.RowKit

theorem sumN_le {f : Nat → Int} {X : Int} (h : ∀ k, 0 ≤ f k ∧ f k ≤ X) : ∀ n : Nat, 0 ≤ sumN f n ∧ sumN f n ≤ n * X
  | 0 => by simp [sumN]
  | n + 1 => by
    have ih := sumN_le h n
    have := h n
    show 0 ≤ sumN f n + f n ∧ sumN f n + f n ≤ ((n + 1 : Nat) : Int) * X
    have e : ((n + 1 : Nat) : Int) * X = n * X + X := by rw [Int.natCast_add, Int.add_mul]; simp
    omega
theorem GoodW.btw {V : Nat} {X : Int} {ws : List W3} (h : GoodW V X ws) (hX : 0 ≤ X) (a b : Int) : 0 ≤ wBtw ws a b ∧ wBtw ws a b ≤ X := by
  unfold wBtw
  by_cases hab : a = b
  · rw [if_pos hab]; omega
  · rw [if_neg hab]
    split
    · rename_i e he
      have := h.mem e (List.mem_of_find?_eq_some he)
      omega
    · omega
/-- The matrix of a network of weights up to 6: entries up to 30. -/
theorem GoodW.entry {V : Nat} {ws : List W3} (h : GoodW V 6 ws) (h5 : V ≤ 5) (r c : Int) : -30 ≤ at2 (lapM V ws) r c ∧ at2 (lapM V ws) r c ≤ 30 := by
  have hw := h.wires (by omega)
  by_cases hr : r.toNat < V
  · by_cases hc : c.toNat < V
    · have e : at2 (lapM V ws) r c = lapE ws r.toNat c.toNat := by
        have e1 : at2 (lapM V ws) r c = at2 (lapM V ws) (r.toNat : Int) (c.toNat : Int) := by unfold at2; rw [Int.toNat_natCast, Int.toNat_natCast]
        rw [e1]; exact at2_lap ws hr hc
      rw [e]; unfold lapE
      by_cases hk : r.toNat = c.toNat
      · rw [if_pos hk, wAt_sum hw h5 r.toNat hr]
        have := sumN_le (f := fun k => wBtw ws (r.toNat : Int) (k : Int)) (fun k => h.btw (by omega) _ _) V
        have h30 : (V : Int) * 6 ≤ 30 := by omega
        omega
      · rw [if_neg hk]
        have := h.btw (by omega) (r.toNat : Int) (c.toNat : Int)
        omega
    · have e : at2 (lapM V ws) r c = 0 := by
        unfold at2
        rw [List.getD_eq_getElem?_getD (l := (lapM V ws).getD r.toNat []), List.getElem?_eq_none, Option.getD_none]
        rw [List.getD_eq_getElem?_getD, List.getElem?_eq_getElem (by rw [lapM_length]; exact hr), Option.getD_some, lapM_row]
        simp; omega
      omega
  · have e : at2 (lapM V ws) r c = 0 := by
      unfold at2
      rw [List.getD_eq_getElem?_getD (l := lapM V ws), List.getElem?_eq_none (by rw [lapM_length]; omega)]
      simp
    omega
theorem GoodW.det {V : Nat} {ws : List W3} (h : GoodW V 6 ws) (h5 : V ≤ 5) (rows cols : List Int) (hl : rows.length = cols.length) (h4 : rows.length ≤ 4) : -19440000 ≤ detD (lapM V ws) rows cols ∧ detD (lapM V ws) rows cols ≤ 19440000 := by
  have hb := detD_leE (m := lapM V ws) (E := 30) (by omega) (fun r c => h.entry h5 r c) rows cols hl
  have hk : rows.length = 0 ∨ rows.length = 1 ∨ rows.length = 2 ∨ rows.length = 3 ∨ rows.length = 4 := by omega
  rcases hk with hk | hk | hk | hk | hk <;> rw [hk] at hb <;> simp [fac, pow] at hb <;> omega
theorem GoodW.det3 {V : Nat} {ws : List W3} (h : GoodW V 6 ws) (h5 : V ≤ 5) (rows cols : List Int) (hl : rows.length = cols.length) (h4 : rows.length ≤ 3) : -162000 ≤ detD (lapM V ws) rows cols ∧ detD (lapM V ws) rows cols ≤ 162000 := by
  have hb := detD_leE (m := lapM V ws) (E := 30) (by omega) (fun r c => h.entry h5 r c) rows cols hl
  have hk : rows.length = 0 ∨ rows.length = 1 ∨ rows.length = 2 ∨ rows.length = 3 := by omega
  rcases hk with hk | hk | hk | hk <;> rw [hk] at hb <;> simp [fac, pow] at hb <;> omega
/-- What the law of Kirchhoff wants of a network. -/
structure KirNet (N : Nat) (e s : Int) (ws : List W3) (a b : Nat) : Prop where
  good : GoodW N 6 ws
  net : netB N e s ws = true
  n2 : 2 ≤ N
  n5 : N ≤ 5
  s1 : 1 ≤ s
  s3 : s ≤ 3
  ha : a < N
  hb : b < N
  hab : a ≠ b
theorem KirNet.tree {N : Nat} {e s : Int} {ws : List W3} {a b : Nat} (k : KirNet N e s ws a b) : 0 < treeR N e s ws ∧ treeR N e s ws ≤ 19440000 := by
  refine ⟨tree_pos k.net, ?_⟩
  have hl := woL_len (N := N) (q := [0]) (by simp) (by have := k.n2; simp; omega)
  have := (k.good.det k.n5 (woL N [0]) (woL N [0]) rfl (by rw [hl]; have := k.n5; simp; omega)).2
  unfold treeR
  rw [if_pos k.net, Int.toNat_natCast]
  exact this
theorem KirNet.pot {N : Nat} {e s : Int} {ws : List W3} {a b : Nat} (k : KirNet N e s ws a b) (v : Nat) (hv : v < N) : -162000 ≤ potI (lapM N ws) N a b v ∧ potI (lapM N ws) N a b v ≤ 162000 := by
  have ha := k.ha
  have hb := k.hb
  have hab := k.hab
  have h5 := k.n5
  by_cases hvb : v = b
  · unfold potI; rw [if_pos hvb]; omega
  · rw [potI_yes hvb]
    have l1 := woL_two (N := N) (a := ((min a b : Nat) : Int)) (b := ((max a b : Nat) : Int)) (by omega) (by omega) (by omega)
    have l2 := woL_two (N := N) (a := ((min v b : Nat) : Int)) (b := ((max v b : Nat) : Int)) (by omega) (by omega) (by omega)
    have hr := k.good.det3 h5 (woL N [((min a b : Nat) : Int), ((max a b : Nat) : Int)]) (woL N [((min v b : Nat) : Int), ((max v b : Nat) : Int)]) (by rw [l1, l2]) (by rw [l1]; omega)
    rcases sgn_cases (idx a b + idx v b) with e | e <;> rw [e] <;> omega
/-- The potential of a node. -/
theorem KirNet.potV {N : Nat} {e s : Int} {ws : List W3} {a b : Nat} (k : KirNet N e s ws a b) (v : Nat) (hv : v < N) : IsV (potAt N e s ws a b v).1 (potAt N e s ws a b v).2 (s * potI (lapM N ws) N a b v) (treeR N e s ws) := by
  obtain ⟨t0, t1⟩ := k.tree
  have hp := k.pot v hv
  have := mulB (a := s) (b := potI (lapM N ws) N a b v) (A := 3) (B := 162000) (by have := k.s1; have := k.s3; omega) (by omega)
  exact rOf_isP t0 (by omega) (by omega)
theorem KirNet.curV {N : Nat} {e s : Int} {ws : List W3} {a b : Nat} (k : KirNet N e s ws a b) (v w : Nat) (hv : v < N) (hw : w < N) : IsV (curAt N e s ws a b v w).1 (curAt N e s ws a b v w).2 (curN N ws a b v w) (treeR N e s ws) := by
  obtain ⟨t0, t1⟩ := k.tree
  have h1 := k.pot v hv
  have h2 := k.pot w hw
  have hW := k.good.btw (by omega) (v : Int) (w : Int)
  have := mulB (a := wBtw ws (v : Int) (w : Int)) (b := potI (lapM N ws) N a b v - potI (lapM N ws) N a b w) (A := 6) (B := 324000) (by omega) (by omega)
  exact rOf_isP t0 (by unfold curN; omega) (by omega)
/-- The current follows the potentials. -/
theorem KirNet.follows {N : Nat} {e s : Int} {ws : List W3} {a b : Nat} (k : KirNet N e s ws a b) (v w : Nat) (hv : v < N) (hw : w < N) :
    rTimes (rDiff (potAt N e s ws a b v).1 (potAt N e s ws a b v).2 (potAt N e s ws a b w).1 (potAt N e s ws a b w).2).1 (rDiff (potAt N e s ws a b v).1 (potAt N e s ws a b v).2 (potAt N e s ws a b w).1 (potAt N e s ws a b w).2).2 (rOfN (wBtw ws (v : Int) (w : Int)) s) (rOfD (wBtw ws (v : Int) (w : Int)) s) = curAt N e s ws a b v w := by
  obtain ⟨t0, t1⟩ := k.tree
  have h1 := k.pot v hv
  have h2 := k.pot w hw
  have hW := k.good.btw (by omega) (v : Int) (w : Int)
  have V1 := k.potV v hv
  have V2 := k.potV w hw
  have C := k.curV v w hv hw
  have s1 := k.s1
  have s3 := k.s3
  unfold curN at C
  generalize potI (lapM N ws) N a b v = P at *
  generalize potI (lapM N ws) N a b w = Q at *
  generalize treeR N e s ws = T at *
  generalize wBtw ws (v : Int) (w : Int) = W at *
  have m1 := mulB (a := s) (b := P) (A := 3) (B := 162000) (by omega) (by omega)
  have m2 := mulB (a := s) (b := Q) (A := 3) (B := 162000) (by omega) (by omega)
  have m3 := mulB (a := s * P) (b := T) (A := 486000) (B := 19440000) (by omega) (by omega)
  have m4 := mulB (a := s * Q) (b := T) (A := 486000) (B := 19440000) (by omega) (by omega)
  have m5 := mulB (a := T) (b := T) (A := 19440000) (B := 19440000) (by omega) (by omega)
  have m6 := mulB (a := s * P) (b := s * Q) (A := 486000) (B := 486000) (by omega) (by omega)
  have D := (rDiff_is V1 V2 (by omega) (by omega) (by omega) (by omega)).cast (r := s * (P - Q)) (t := T) t0 (by grind)
  have R := rOf_isP (n := W) (d := s) (by omega) (by omega) (by omega)
  have m7 := mulB (a := s) (b := P - Q) (A := 3) (B := 324000) (by omega) (by omega)
  have m8 := mulB (a := s * (P - Q)) (b := s) (A := 972000) (B := 3) (by omega) (by omega)
  have m9 := mulB (a := W) (b := T) (A := 6) (B := 19440000) (by omega) (by omega)
  have m10 := mulB (a := T) (b := s) (A := 19440000) (B := 3) (by omega) (by omega)
  have m11 := mulB (a := s * (P - Q)) (b := W) (A := 972000) (B := 6) (by omega) (by omega)
  have M := rTimes_is D R (by omega) (by omega) (by omega) (by omega)
  exact M.pair C (by grind)
/-- The currents that flow off a node, added up. -/
noncomputable def flowN (N : Nat) (ws : List W3) (a b v k : Nat) : Int := sumN (fun w => curN N ws a b v w) k
noncomputable def flowAt (N : Nat) (e s : Int) (ws : List W3) (a b v k : Nat) : P2 := (rOfN (flowN N ws a b v k) (treeR N e s ws), rOfD (flowN N ws a b v k) (treeR N e s ws))
theorem KirNet.cur_le {N : Nat} {e s : Int} {ws : List W3} {a b : Nat} (k : KirNet N e s ws a b) (v w : Nat) (hv : v < N) (hw : w < N) : -1944000 ≤ curN N ws a b v w ∧ curN N ws a b v w ≤ 1944000 := by
  have h1 := k.pot v hv
  have h2 := k.pot w hw
  have hW := k.good.btw (by omega) (v : Int) (w : Int)
  have := mulB (a := wBtw ws (v : Int) (w : Int)) (b := potI (lapM N ws) N a b v - potI (lapM N ws) N a b w) (A := 6) (B := 324000) (by omega) (by omega)
  unfold curN; omega
theorem KirNet.flow_le {N : Nat} {e s : Int} {ws : List W3} {a b : Nat} (k : KirNet N e s ws a b) (v : Nat) (hv : v < N) : ∀ i, i ≤ N → -(i * 1944000) ≤ flowN N ws a b v i ∧ flowN N ws a b v i ≤ i * 1944000
  | 0, _ => by simp [flowN, sumN]
  | i + 1, hi => by
    have ih := k.flow_le v hv i (by omega)
    have hc := k.cur_le v i hv (by omega)
    have e : flowN N ws a b v (i + 1) = flowN N ws a b v i + curN N ws a b v i := rfl
    rw [e]; omega
theorem KirNet.flowV {N : Nat} {e s : Int} {ws : List W3} {a b : Nat} (k : KirNet N e s ws a b) (v i : Nat) (hv : v < N) (hi : i ≤ N) : IsV (flowAt N e s ws a b v i).1 (flowAt N e s ws a b v i).2 (flowN N ws a b v i) (treeR N e s ws) := by
  obtain ⟨t0, t1⟩ := k.tree
  have h := k.flow_le v hv i hi
  have := k.n5
  exact rOf_isP t0 (by omega) (by omega)
theorem KirNet.flow_zero {N : Nat} {e s : Int} {ws : List W3} {a b : Nat} (k : KirNet N e s ws a b) (v : Nat) (hv : v < N) : flowAt N e s ws a b v 0 = (0, 1) := by
  have h := k.flowV v 0 hv (by omega)
  exact h.pair zero_is (by show (0 : Int) * 1 = 0 * _; simp)
theorem KirNet.flow_step {N : Nat} {e s : Int} {ws : List W3} {a b : Nat} (k : KirNet N e s ws a b) (v i : Nat) (hv : v < N) (hi : i < N) :
    rSum (flowAt N e s ws a b v i).1 (flowAt N e s ws a b v i).2 (curAt N e s ws a b v i).1 (curAt N e s ws a b v i).2 = flowAt N e s ws a b v (i + 1) := by
  obtain ⟨t0, t1⟩ := k.tree
  have h := k.flow_le v hv i (by omega)
  have hc := k.cur_le v i hv hi
  have h5 := k.n5
  have F := k.flowV v i hv (by omega)
  have F' := k.flowV v (i + 1) hv (by omega)
  have C := k.curV v i hv hi
  have e1 : flowN N ws a b v (i + 1) = flowN N ws a b v i + curN N ws a b v i := rfl
  rw [e1] at F'
  generalize flowN N ws a b v i = X at *
  generalize curN N ws a b v i = Y at *
  generalize treeR N e s ws = T at *
  have m1 := mulB (a := X) (b := T) (A := 9720000) (B := 19440000) (by omega) (by omega)
  have m2 := mulB (a := Y) (b := T) (A := 1944000) (B := 19440000) (by omega) (by omega)
  have m3 := mulB (a := T) (b := T) (A := 19440000) (B := 19440000) (by omega) (by omega)
  have m4 := mulB (a := X) (b := Y) (A := 9720000) (B := 1944000) (by omega) (by omega)
  have S := rSum_is F C (by omega) (by omega) (by omega) (by omega)
  exact S.pair F' (by grind)
theorem KirNet.flow_end {N : Nat} {e s : Int} {ws : List W3} {a b : Nat} (k : KirNet N e s ws a b) (v : Nat) (hv : v < N) : flowAt N e s ws a b v N = if v = a then (1, 1) else if v = b then (-1, 1) else (0, 1) := by
  obtain ⟨t0, t1⟩ := k.tree
  have hw := k.good.wires (by omega)
  have F := k.flowV v N hv (Nat.le_refl _)
  have hk := kirchhoff hw k.n2 k.n5 a b v k.ha k.hb hv k.hab
  have hm := (min_same hw k.n2 k.n5 b k.hb).trans (minI_tree k.net).symm
  rw [hm] at hk
  have e1 : flowN N ws a b v N = _ := hk
  rw [e1] at F
  have one : IsV (-1) 1 (-1) 1 := ⟨by decide, by decide, rfl⟩
  by_cases hva : v = a
  · rw [if_pos hva] at F ⊢
    exact F.pair one_is (by omega)
  · rw [if_neg hva] at F ⊢
    by_cases hvb : v = b
    · rw [if_pos hvb] at F ⊢
      exact F.pair one (by omega)
    · rw [if_neg hvb] at F ⊢
      exact F.pair zero_is (by omega)
theorem KirNet.at_b {N : Nat} {e s : Int} {ws : List W3} {a b : Nat} (k : KirNet N e s ws a b) : potAt N e s ws a b b = (0, 1) := by
  have h := k.potV b k.hb
  refine h.pair zero_is ?_
  have e0 : potI (lapM N ws) N a b b = 0 := by unfold potI; rw [if_pos rfl]
  rw [e0]; simp
theorem KirNet.at_a {N : Nat} {e s : Int} {ws : List W3} {a b : Nat} (k : KirNet N e s ws a b) : resR N e s ws a b = ((potAt N e s ws a b a).1, (potAt N e s ws a b a).2, true) := by
  have ha := k.ha
  have hb := k.hb
  unfold resR potAt
  rw [if_pos ⟨k.net, by omega⟩, forest_forD k.net a b ha hb, potI_self _ _ _ _ k.hab]
end Go.Proofs.Ytpkddaapffamiaa

namespace Go.Proofs.Ytpkddaapffamiaa
open Go.RowKit

/-- What RatioOf answers to n / d, where the value is p / q with small q. -/
theorem rOf_isQ {n d p q : Int} (hd : 0 < d) (n0 : n.natAbs ≤ 1000000000000000000) (_ : d.natAbs ≤ 1000000000000000000) (hq : 0 < q) (q0 : q ≤ 1000000000000000) (hx : n * q = p * d) : IsV (rOfN n d) (rOfD n d) p q := by
  obtain ⟨f1, f2, f3⟩ := rNum_facts (n := n) (d := d) (by omega) (by omega) (by omega)
  have hg : gcdV n d ≠ 0 := by
    rw [gcdV_of (a := n) (b := d) (by omega) (by omega)]
    have := Nat.gcd_pos_of_pos_right n.natAbs (show 0 < d.natAbs by omega)
    omega
  have hnn : (n.tdiv (gcdV n d)).natAbs ≤ n.natAbs := Int.natAbs_tdiv_le_natAbs n _
  have hN : (rNum n d).natAbs ≤ n.natAbs := by
    unfold rNum; split
    · rw [Int.natAbs_neg]; exact hnn
    · exact hnn
  have e1 : rNum n d * q * d = p * rDen n d * d := by
    have a1 : rNum n d * q * d = (rNum n d * d) * q := by grind
    rw [a1, f1]
    have a2 : n * rDen n d * q = (n * q) * rDen n d := by grind
    rw [a2, hx]; grind
  have e2 : rNum n d * q = p * rDen n d := Int.eq_of_mul_eq_mul_right (by omega) e1
  have hx' : (rNum n d).natAbs * q.natAbs = p.natAbs * (rDen n d).natAbs := by rw [← Int.natAbs_mul, ← Int.natAbs_mul, e2]
  have d1 : (rDen n d).natAbs ∣ q.natAbs := by
    have : (rDen n d).natAbs ∣ (rNum n d).natAbs * q.natAbs := by rw [hx']; exact Nat.dvd_mul_left _ _
    exact Nat.Coprime.dvd_of_dvd_mul_left (Nat.coprime_comm.1 f3) this
  have hle := Nat.le_of_dvd (by omega) d1
  have hok : rOk (rNum n d) (rDen n d) = true := rOk_mk (by omega) (by omega) (by omega) (by omega) f3
  have hB : rOfB n d = true := by unfold rOfB; simp [show d ≠ 0 by omega, hg, hok]
  have g1 : rOfN n d = rNum n d := by unfold rOfN; rw [if_pos hB]
  have g2 : rOfD n d = rDen n d := by unfold rOfD; rw [if_pos hB]
  rw [g1, g2]
  exact ⟨hok, hq, e2⟩
/-- The sum of two values over one divisor. -/
theorem rSum_same {n d m e p r q : Int} (h : IsV n d p q) (k : IsV m e r q) (b1 : (p * q).natAbs ≤ 500000000000000000) (b2 : (r * q).natAbs ≤ 500000000000000000) (b3 : (q * q).natAbs ≤ 1000000000000000000) (b4 : (p * r).natAbs ≤ 1000000000000000000) (b5 : q ≤ 1000000000000000) :
    IsV (rSum n d m e).1 (rSum n d m e).2 (p + r) q := by
  have hf := fit4_of h k (by omega) (by omega) (by omega) b4
  unfold rSum
  rw [if_pos hf]
  have c1 := abs_mul_le h.le.1 k.leD
  have c2 := abs_mul_le k.le.1 h.leD
  have c3 := abs_mul_le h.leD k.leD
  have hde := Int.mul_pos h.pos k.pos
  refine rOf_isQ (n := n * e + m * d) (d := d * e) hde (by omega) (by omega) h.2.1 b5 ?_
  have h1 := h.2.2
  have h2 := k.2.2
  have a1 : (n * e + m * d) * q = (n * q) * e + (m * q) * d := by grind
  rw [a1, h1, h2]; grind
theorem powE_nonneg {Z : Nat → Int} {e : W3} (h : 0 ≤ e.2.2) : 0 ≤ powE Z e := Int.mul_nonneg h (by
  rcases Int.le_total 0 (Z e.1.toNat - Z e.2.1.toNat) with h | h
  · exact Int.mul_nonneg h h
  · exact Int.mul_nonneg_of_nonpos_of_nonpos h h)
theorem powS_nonneg {Z : Nat → Int} : ∀ ws : List W3, (∀ e ∈ ws, 0 ≤ e.2.2) → 0 ≤ powS ws Z
  | [], _ => by simp [powS]
  | e :: r, h => by
    have h1 := powE_nonneg (Z := Z) (h e (by simp))
    have h2 := powS_nonneg (Z := Z) r (fun x hx => h x (by simp [hx]))
    show 0 ≤ powE Z e + powS r Z
    omega
theorem powS_append (Z : Nat → Int) (a b : List W3) : powS (a ++ b) Z = powS a Z + powS b Z := by simp [powS]
theorem powS_take {Z : Nat → Int} {ws : List W3} (h : ∀ e ∈ ws, 0 ≤ e.2.2) (k : Nat) (hk : k < ws.length) : 0 ≤ powS (ws.take k) Z ∧ powS (ws.take (k + 1)) Z = powS (ws.take k) Z + powE Z ws[k] ∧ powS (ws.take (k + 1)) Z ≤ powS ws Z := by
  have e1 : powS (ws.take (k + 1)) Z = powS (ws.take k) Z + powE Z ws[k] := by
    rw [List.take_succ_eq_append_getElem hk, powS_append]; simp [powS]
  have e2 : powS ws Z = powS (ws.take (k + 1)) Z + powS (ws.drop (k + 1)) Z := by rw [← powS_append, List.take_append_drop]
  have h1 := powS_nonneg (Z := Z) (ws.take k) (fun e he => h e (List.mem_of_mem_take he))
  have h2 := powS_nonneg (Z := Z) (ws.drop (k + 1)) (fun e he => h e (List.mem_of_mem_drop he))
  exact ⟨h1, e1, by omega⟩
theorem sq_le {x B : Int} (h : -B ≤ x ∧ x ≤ B) : 0 ≤ x * x ∧ x * x ≤ B * B := by
  have := mulB h h
  refine ⟨?_, this.2⟩
  rcases Int.le_total 0 x with h | h
  · exact Int.mul_nonneg h h
  · exact Int.mul_nonneg_of_nonpos_of_nonpos h h
/-- The power of potentials with the values Z / D, summed in the order of the wires. -/
theorem powK_is {N : Nat} {s D : Int} {q : List P2} {ws : List W3} {Z : Nat → Int} (hz : ∀ v : Nat, v < N → IsV (getP q (v : Int)).1 (getP q (v : Int)).2 (Z v) D) (hw : ∀ e ∈ ws, 0 ≤ e.1 ∧ e.1 < e.2.1 ∧ e.2.1 < N ∧ 1 ≤ e.2.2 ∧ e.2.2 ≤ 4) (s1 : 1 ≤ s) (s3 : s ≤ 3) (D1 : 0 < D) (D2 : D ≤ 12096) (hZ : ∀ v : Nat, v < N → -17664 ≤ Z v ∧ Z v ≤ 17664) (hS : powS ws Z ≤ 970000000) :
    ∀ k, k ≤ ws.length → IsV (powK s q ws k).1 (powK s q ws k).2 (powS (ws.take k) Z) (D * D * s) := by
  have hDD := mulB (a := D) (b := D) (A := 12096) (B := 12096) (by omega) (by omega)
  have hDp := Int.mul_pos D1 D1
  have hDs := mulB (a := D * D) (b := s) (A := 146313216) (B := 3) (by omega) (by omega)
  have hDsp := Int.mul_pos hDp (show 0 < s by omega)
  intro k
  induction k with
  | zero =>
    intro _
    rw [powK_zero]
    refine ⟨by decide, hDsp, ?_⟩
    simp [powS]
  | succ k ih =>
    intro hk
    have ih := ih (by omega)
    obtain ⟨v1, v2, v3, v4, v5⟩ := hw ws[k] (List.getElem_mem (by omega))
    obtain ⟨t1, t2, t3⟩ := powS_take (Z := Z) (ws := ws) (fun e he => by have := hw e he; omega) k (by omega)
    rw [powK_succ s q ws k (by omega), t2]
    generalize hA : ws[k] = w at *
    obtain ⟨a, ha⟩ : ∃ a : Nat, w.1 = a := ⟨w.1.toNat, by omega⟩
    obtain ⟨b, hb⟩ : ∃ b : Nat, w.2.1 = b := ⟨w.2.1.toNat, by omega⟩
    have za := hz a (by omega)
    have zb := hz b (by omega)
    have ba := hZ a (by omega)
    have bb := hZ b (by omega)
    have m1 := mulB (a := Z a) (b := D) (A := 17664) (B := 12096) ba (by omega)
    have m2 := mulB (a := Z b) (b := D) (A := 17664) (B := 12096) bb (by omega)
    have m3 := mulB (a := Z a) (b := Z b) (A := 17664) (B := 17664) ba bb
    have hd := (rDiff_is za zb (by omega) (by omega) (by omega) (by omega)).cast (r := Z a - Z b) (t := D) D1 (by grind)
    have hd' : IsV (dropE q w).1 (dropE q w).2 (Z a - Z b) D := by unfold dropE; rw [ha, hb]; exact hd
    have x1 : -35328 ≤ Z a - Z b ∧ Z a - Z b ≤ 35328 := by omega
    have m4 := mulB (a := Z a - Z b) (b := D) (A := 35328) (B := 12096) x1 (by omega)
    have m5 := sq_le x1
    have hq : IsV (sqE q w).1 (sqE q w).2 ((Z a - Z b) * (Z a - Z b)) (D * D) := by
      unfold sqE; exact rTimes_is hd' hd' (by omega) (by omega) (by omega) (by omega)
    have hr : IsV (rOfN w.2.2 s) (rOfD w.2.2 s) w.2.2 s := rOf_isP (by omega) (by omega) (by omega)
    have m6 := mulB (a := (Z a - Z b) * (Z a - Z b)) (b := s) (A := 1248067584) (B := 3) (by omega) (by omega)
    have m7 := mulB (a := w.2.2) (b := D * D) (A := 4) (B := 146313216) (by omega) (by omega)
    have m8 := mulB (a := (Z a - Z b) * (Z a - Z b)) (b := w.2.2) (A := 1248067584) (B := 4) (by omega) (by omega)
    have hp : IsV (pwE s q w).1 (pwE s q w).2 (powE Z w) (D * D * s) := by
      have h := rTimes_is hq hr (by omega) (by omega) (by omega) (by omega)
      have e1 : powE Z w = (Z a - Z b) * (Z a - Z b) * w.2.2 := by
        unfold powE; rw [ha, hb, Int.toNat_natCast, Int.toNat_natCast, Int.mul_comm]
      rw [e1]; exact h
    have hp0 := powE_nonneg (Z := Z) (e := w) (by omega)
    have n1 := mulB (a := powS (ws.take k) Z) (b := D * D * s) (A := 970000000) (B := 438939648) (by omega) (by omega)
    have n2 := mulB (a := powE Z w) (b := D * D * s) (A := 970000000) (B := 438939648) (by omega) (by omega)
    have n3 := mulB (a := D * D * s) (b := D * D * s) (A := 438939648) (B := 438939648) (by omega) (by omega)
    have n4 := mulB (a := powS (ws.take k) Z) (b := powE Z w) (A := 970000000) (B := 970000000) (by omega) (by omega)
    exact rSum_same ih hp (by omega) (by omega) (by omega) (by omega) (by omega)
/-! ### the bounds of the network -/
structure PowNet (N : Nat) (e s : Int) (ws : List W3) : Prop where
  good : GoodW N 4 ws
  net : netB N e s ws = true
  n2 : 2 ≤ N
  n4 : N ≤ 4
  s1 : 1 ≤ s
  s3 : s ≤ 3
theorem PowNet.kir {N : Nat} {e s : Int} {ws : List W3} (k : PowNet N e s ws) : KirNet N e s ws 0 1 :=
  ⟨⟨fun x hx => by have := k.good.mem x hx; omega, k.good.srt, k.good.con⟩, k.net, k.n2, by have := k.n4; omega, k.s1, k.s3, by have := k.n2; omega, by have := k.n2; omega, by omega⟩
theorem PowNet.wires {N : Nat} {e s : Int} {ws : List W3} (k : PowNet N e s ws) : WiresV N ws := k.good.wires (by omega)
theorem PowNet.at_le {N : Nat} {e s : Int} {ws : List W3} (k : PowNet N e s ws) (v : Nat) (hv : v < N) : 0 ≤ wAt ws (v : Int) ∧ wAt ws (v : Int) ≤ 12 := by
  have hn := k.n4
  rw [wAt_sum k.wires (by omega) v hv]
  have b := fun j : Nat => k.good.btw (by omega) (v : Int) (j : Int)
  have z : wBtw ws (v : Int) (v : Int) = 0 := by unfold wBtw; rw [if_pos rfl]
  have b0 := b 0
  have b1 := b 1
  have b2 := b 2
  have b3 := b 3
  have hN : N = 2 ∨ N = 3 ∨ N = 4 := by have := k.n2; omega
  have hv' : v = 0 ∨ v = 1 ∨ v = 2 ∨ v = 3 := by omega
  clear b k
  rcases hN with rfl | rfl | rfl <;> rcases hv' with rfl | rfl | rfl | rfl <;> simp only [sumN] <;> omega
theorem PowNet.lapE_le {N : Nat} {e s : Int} {ws : List W3} (k : PowNet N e s ws) (i j : Nat) (hi : i < N) : -16 ≤ lapE ws i j ∧ lapE ws i j ≤ 16 := by
  unfold lapE
  by_cases h : i = j
  · rw [if_pos h]; have := k.at_le i hi; omega
  · rw [if_neg h]; have := k.good.btw (by omega) (i : Int) (j : Int); omega
theorem PowNet.entry {N : Nat} {e s : Int} {ws : List W3} (k : PowNet N e s ws) (r c : Int) : -16 ≤ at2 (lapM N ws) r c ∧ at2 (lapM N ws) r c ≤ 16 := by
  by_cases hr : r.toNat < N
  · by_cases hc : c.toNat < N
    · have e : at2 (lapM N ws) r c = lapE ws r.toNat c.toNat := by
        have e1 : at2 (lapM N ws) r c = at2 (lapM N ws) (r.toNat : Int) (c.toNat : Int) := by unfold at2; rw [Int.toNat_natCast, Int.toNat_natCast]
        rw [e1]; exact at2_lap ws hr hc
      rw [e]; exact k.lapE_le _ _ hr
    · have e : at2 (lapM N ws) r c = 0 := by
        unfold at2
        rw [List.getD_eq_getElem?_getD (l := (lapM N ws).getD r.toNat []), List.getElem?_eq_none, Option.getD_none]
        rw [List.getD_eq_getElem?_getD, List.getElem?_eq_getElem (by rw [lapM_length]; exact hr), Option.getD_some, lapM_row]
        simp; omega
      omega
  · have e : at2 (lapM N ws) r c = 0 := by
      unfold at2
      rw [List.getD_eq_getElem?_getD (l := lapM N ws), List.getElem?_eq_none (by rw [lapM_length]; omega)]
      simp
    omega
theorem PowNet.pot {N : Nat} {e s : Int} {ws : List W3} (k : PowNet N e s ws) (v : Nat) (hv : v < N) : -512 ≤ potI (lapM N ws) N 0 1 v ∧ potI (lapM N ws) N 0 1 v ≤ 512 := by
  have h2 := k.n2
  have h4 := k.n4
  by_cases hvb : v = 1
  · unfold potI; rw [if_pos hvb]; omega
  · rw [potI_yes hvb]
    have l1 := woL_two (N := N) (a := ((min 0 1 : Nat) : Int)) (b := ((max 0 1 : Nat) : Int)) (by omega) (by omega) (by omega)
    have l2 := woL_two (N := N) (a := ((min v 1 : Nat) : Int)) (b := ((max v 1 : Nat) : Int)) (by omega) (by omega) (by omega)
    have hb := detD_leE (m := lapM N ws) (E := 16) (by omega) (fun r c => k.entry r c) (woL N [((min 0 1 : Nat) : Int), ((max 0 1 : Nat) : Int)]) (woL N [((min v 1 : Nat) : Int), ((max v 1 : Nat) : Int)]) (by rw [l1, l2])
    have hk : N - 2 = 0 ∨ N - 2 = 1 ∨ N - 2 = 2 := by omega
    rw [l1] at hb
    have hb' : -512 ≤ detD (lapM N ws) (woL N [((min 0 1 : Nat) : Int), ((max 0 1 : Nat) : Int)]) (woL N [((min v 1 : Nat) : Int), ((max v 1 : Nat) : Int)]) ∧ detD (lapM N ws) (woL N [((min 0 1 : Nat) : Int), ((max 0 1 : Nat) : Int)]) (woL N [((min v 1 : Nat) : Int), ((max v 1 : Nat) : Int)]) ≤ 512 := by
      generalize detD (lapM N ws) (woL N [((min 0 1 : Nat) : Int), ((max 0 1 : Nat) : Int)]) (woL N [((min v 1 : Nat) : Int), ((max v 1 : Nat) : Int)]) = X at *
      rcases hk with hk | hk | hk <;> rw [hk] at hb <;> simp [fac, pow] at hb <;> omega
    rcases sgn_cases (idx 0 1 + idx v 1) with e | e <;> rw [e] <;> omega
/-- Few enough trees: at most the product of the weights at three nodes. -/
theorem PowNet.tree {N : Nat} {e s : Int} {ws : List W3} (k : PowNet N e s ws) : 0 < treeR N e s ws ∧ treeR N e s ws ≤ 1728 := by
  refine ⟨tree_pos k.net, ?_⟩
  rw [minI_tree k.net]
  have hN : N = 2 ∨ N = 3 ∨ N = 4 := by have := k.n2; have := k.n4; omega
  have b := fun i j : Nat => k.good.btw (by omega) (i : Int) (j : Int)
  have a := k.at_le
  rcases hN with rfl | rfl | rfl
  · have a1 := a 1 (by omega)
    rw [minI_D1]
    show lapE ws 1 1 ≤ 1728
    unfold lapE
    rw [if_pos rfl]
    omega
  · have a1 := a 1 (by omega)
    have a2 := a 2 (by omega)
    have b12 := b 1 2
    rw [minI_D2]
    show lapE ws 1 1 * lapE ws 2 2 - lapE ws 1 2 * lapE ws 2 1 ≤ 1728
    unfold lapE
    rw [if_pos rfl, if_pos rfl, if_neg (by omega), if_neg (by omega), wBtw_comm ws ((2 : Nat) : Int) ((1 : Nat) : Int)]
    have m1 := mulB (a := wAt ws ((1 : Nat) : Int)) (b := wAt ws ((2 : Nat) : Int)) (A := 12) (B := 12) (by omega) (by omega)
    have m2 := Int.mul_nonneg b12.1 b12.1
    have e1 : -wBtw ws ((1 : Nat) : Int) ((2 : Nat) : Int) * -wBtw ws ((1 : Nat) : Int) ((2 : Nat) : Int) = wBtw ws ((1 : Nat) : Int) ((2 : Nat) : Int) * wBtw ws ((1 : Nat) : Int) ((2 : Nat) : Int) := Int.neg_mul_neg _ _
    omega
  · have a1 := a 1 (by omega)
    have a2 := a 2 (by omega)
    have a3 := a 3 (by omega)
    have b12 := (b 1 2).1
    have b13 := (b 1 3).1
    have b23 := (b 2 3).1
    rw [minI_D3]
    show lapE ws 1 1 * (lapE ws 2 2 * lapE ws 3 3 - lapE ws 2 3 * lapE ws 3 2) - lapE ws 1 2 * (lapE ws 2 1 * lapE ws 3 3 - lapE ws 2 3 * lapE ws 3 1) + lapE ws 1 3 * (lapE ws 2 1 * lapE ws 3 2 - lapE ws 2 2 * lapE ws 3 1) ≤ 1728
    have f11 : lapE ws 1 1 = wAt ws ((1 : Nat) : Int) := if_pos rfl
    have f22 : lapE ws 2 2 = wAt ws ((2 : Nat) : Int) := if_pos rfl
    have f33 : lapE ws 3 3 = wAt ws ((3 : Nat) : Int) := if_pos rfl
    have f12 : lapE ws 1 2 = -wBtw ws ((1 : Nat) : Int) ((2 : Nat) : Int) := if_neg (by omega)
    have f13 : lapE ws 1 3 = -wBtw ws ((1 : Nat) : Int) ((3 : Nat) : Int) := if_neg (by omega)
    have f23 : lapE ws 2 3 = -wBtw ws ((2 : Nat) : Int) ((3 : Nat) : Int) := if_neg (by omega)
    have f21 : lapE ws 2 1 = -wBtw ws ((1 : Nat) : Int) ((2 : Nat) : Int) := by rw [wBtw_comm]; exact if_neg (by omega)
    have f31 : lapE ws 3 1 = -wBtw ws ((1 : Nat) : Int) ((3 : Nat) : Int) := by rw [wBtw_comm]; exact if_neg (by omega)
    have f32 : lapE ws 3 2 = -wBtw ws ((2 : Nat) : Int) ((3 : Nat) : Int) := by rw [wBtw_comm]; exact if_neg (by omega)
    rw [f11, f22, f33, f12, f13, f23, f21, f31, f32]
    generalize wAt ws ((1 : Nat) : Int) = d1 at *
    generalize wAt ws ((2 : Nat) : Int) = d2 at *
    generalize wAt ws ((3 : Nat) : Int) = d3 at *
    generalize wBtw ws ((1 : Nat) : Int) ((2 : Nat) : Int) = x at *
    generalize wBtw ws ((1 : Nat) : Int) ((3 : Nat) : Int) = y at *
    generalize wBtw ws ((2 : Nat) : Int) ((3 : Nat) : Int) = z at *
    have m1 := mulB (a := d2) (b := d3) (A := 12) (B := 12) (by omega) (by omega)
    have m2 := mulB (a := d1) (b := d2 * d3) (A := 12) (B := 144) (by omega) (by omega)
    have p1 := Int.mul_nonneg a1.1 (Int.mul_nonneg b23 b23)
    have p2 := Int.mul_nonneg a2.1 (Int.mul_nonneg b13 b13)
    have p3 := Int.mul_nonneg a3.1 (Int.mul_nonneg b12 b12)
    have p4 := Int.mul_nonneg b12 (Int.mul_nonneg b13 b23)
    have e1 : d1 * (d2 * d3 - -z * -z) - -x * (-x * d3 - -z * -y) + -y * (-x * -z - d2 * -y) = d1 * (d2 * d3) - d1 * (z * z) - d2 * (y * y) - d3 * (x * x) - 2 * (x * (y * z)) := by grind
    omega
end Go.Proofs.Ytpkddaapffamiaa

namespace Go.Proofs.Ytpkddaapffamiaa
open Go.RowKit

theorem sign_ge {x : Int} (h : 0 ≤ x) : 0 ≤ x.sign := by
  rcases Int.lt_or_eq_of_le h with h | h
  · rw [Int.sign_eq_one_of_pos h]; decide
  · rw [← h]; decide
theorem sumN_ge {f : Nat → Int} (h : ∀ k, 0 ≤ f k) (j : Nat) : ∀ n, j < n → f j ≤ sumN f n
  | 0, hj => absurd hj (by omega)
  | n + 1, hj => by
    have hn : ∀ m, 0 ≤ sumN f m := fun m => by
      induction m with
      | zero => simp [sumN]
      | succ m ih => show 0 ≤ sumN f m + f m; have := h m; omega
    show f j ≤ sumN f n + f n
    have h1 := hn n
    have h2 := h n
    by_cases e : j = n
    · subst e; omega
    · have := sumN_ge h j n (by omega); omega
theorem PowNet.at_pos {N : Nat} {e s : Int} {ws : List W3} (k : PowNet N e s ws) (u : Nat) (hu : u < N) (h0 : u ≠ 0) : 0 < wAt ws (u : Int) := by
  obtain ⟨_, hw, hc⟩ := netB_iff.1 k.net
  have hx : ∃ x ∈ ws, x.1 = (u : Int) ∨ x.2.1 = (u : Int) := by
    refine Classical.byContradiction fun hno => ?_
    have := hc (u : Int) (by omega) (by omega) (fun v => v ≠ (u : Int)) (by omega) (fun x hx => by
      have h1 : x.1 ≠ (u : Int) := fun h => hno ⟨x, hx, .inl h⟩
      have h2 : x.2.1 ≠ (u : Int) := fun h => hno ⟨x, hx, .inr h⟩
      exact ⟨fun _ => h2, fun _ => h1⟩)
    exact this rfl
  obtain ⟨x, hx, hux⟩ := hx
  have hn := k.n4
  rw [wAt_sum k.wires (by omega) u hu]
  have hp := wBtw_mem k.wires hx
  have hv := k.wires.mem hx
  have hge := fun j (hj : j < N) => sumN_ge (f := fun j => wBtw ws (u : Int) (j : Int)) (fun j => (k.good.btw (by omega) (u : Int) (j : Int)).1) j N hj
  obtain ⟨v1, v2, v3, _, _⟩ := hv
  rcases hux with h | h
  · obtain ⟨j, hj⟩ : ∃ j : Nat, x.2.1 = j := ⟨x.2.1.toNat, by omega⟩
    have := hge j (by omega)
    rw [h, hj] at hp
    omega
  · obtain ⟨j, hj⟩ : ∃ j : Nat, x.1 = j := ⟨x.1.toNat, by omega⟩
    have := hge j (by omega)
    rw [h, hj, wBtw_comm] at hp
    omega
theorem powS_scale (c : Int) (P : Nat → Int) : ∀ ws : List W3, powS ws (fun v => c * P v) = c * c * powS ws P
  | [] => by simp [powS]
  | e :: r => by
    have ih := powS_scale c P r
    show powE (fun v => c * P v) e + powS r (fun v => c * P v) = c * c * (powE P e + powS r P)
    rw [ih]
    unfold powE
    grind
theorem PowNet.powP {N : Nat} {e s : Int} {ws : List W3} (k : PowNet N e s ws) : powS ws (potI (lapM N ws) N 0 1) = potI (lapM N ws) N 0 1 0 * treeR N e s ws := by
  have h2 := k.n2
  have h4 := k.n4
  rw [pow_pot k.wires h2 (by omega) 0 1 (by omega) (by omega) (by omega), min_same k.wires h2 (by omega) 1 (by omega), ← minI_tree k.net]
theorem PowNet.members {N : Nat} {e s : Int} {ws : List W3} (k : PowNet N e s ws) : ∀ x ∈ ws, 0 ≤ x.1 ∧ x.1 < x.2.1 ∧ x.2.1 < N ∧ 1 ≤ x.2.2 ∧ x.2.2 ≤ 4 := fun x hx => k.good.mem x hx
theorem getP_pots (N : Nat) (e s : Int) (ws : List W3) (v : Nat) (hv : v < N) : getP (potsK N e s ws 0 1 N) (v : Int) = potAt N e s ws 0 1 v := by
  rw [getP_at _ v (by rw [potsK_length]; exact hv), potsK_get]
theorem PowNet.xV {N : Nat} {e s : Int} {ws : List W3} (k : PowNet N e s ws) : IsV (powK s (potsK N e s ws 0 1 N) ws ws.length).1 (powK s (potsK N e s ws 0 1 N) ws ws.length).2 (s * potI (lapM N ws) N 0 1 0) (treeR N e s ws) := by
  obtain ⟨t0, t1⟩ := k.tree
  have s1 := k.s1
  have s3 := k.s3
  have h2 := k.n2
  have hb := fun v (hv : v < N) => mulB (a := s) (b := potI (lapM N ws) N 0 1 v) (A := 3) (B := 512) (by omega) (k.pot v hv)
  have hS : powS ws (fun v => s * potI (lapM N ws) N 0 1 v) = s * s * (potI (lapM N ws) N 0 1 0 * treeR N e s ws) := by rw [powS_scale, k.powP]
  have b1 := mulB (a := potI (lapM N ws) N 0 1 0) (b := treeR N e s ws) (A := 512) (B := 1728) (k.pot 0 (by omega)) (by omega)
  have b2 := mulB (a := s) (b := s) (A := 3) (B := 3) (by omega) (by omega)
  have b3 := mulB (a := s * s) (b := potI (lapM N ws) N 0 1 0 * treeR N e s ws) (A := 9) (B := 884736) (by omega) (by omega)
  have h := powK_is (N := N) (s := s) (D := treeR N e s ws) (q := potsK N e s ws 0 1 N) (ws := ws) (Z := fun v => s * potI (lapM N ws) N 0 1 v) (fun v hv => by rw [getP_pots N e s ws v hv]; exact k.kir.potV v hv) k.members s1 s3 t0 (by omega) (fun v hv => by have := hb v hv; omega) (by rw [hS]; omega) ws.length (Nat.le_refl _)
  rw [List.take_length, hS] at h
  exact h.cast t0 (by grind)
theorem PowNet.x {N : Nat} {e s : Int} {ws : List W3} (k : PowNet N e s ws) : powK s (potsK N e s ws 0 1 N) ws ws.length = potAt N e s ws 0 1 0 := by
  have h := k.xV.pair (k.kir.potV 0 (by have := k.n2; omega)) rfl
  exact h
/-- What a change at the last node does. -/
structure PowRun (s : Int) (q : List P2) (ws : List W3) (u : Nat) (r7 : P2) : Prop where
  okq : rOk (rSum (getP q u).1 (getP q u).2 r7.1 r7.2).1 (rSum (getP q u).1 (getP q u).2 r7.1 r7.2).2 = true
  ok : rOk (powK s (q.set u (rSum (getP q u).1 (getP q u).2 r7.1 r7.2)) ws ws.length).1 (powK s (q.set u (rSum (getP q u).1 (getP q u).2 r7.1 r7.2)) ws ws.length).2 = true
  cmp : 0 ≤ rCmp (powK s (q.set u (rSum (getP q u).1 (getP q u).2 r7.1 r7.2)) ws ws.length).1 (powK s (q.set u (rSum (getP q u).1 (getP q u).2 r7.1 r7.2)) ws ws.length).2 (powK s q ws ws.length).1 (powK s q ws ws.length).2
  same : rSum (getP q u).1 (getP q u).2 r7.1 r7.2 = getP q u ↔ powK s (q.set u (rSum (getP q u).1 (getP q u).2 r7.1 r7.2)) ws ws.length = powK s q ws ws.length
theorem PowNet.run {N : Nat} {e s : Int} {ws : List W3} (k : PowNet N e s ws) (u : Nat) (hu : u < N) (u2 : 2 ≤ u) (t : Int) (t0 : -4 ≤ t) (t1 : t ≤ 4) : PowRun s (potsK N e s ws 0 1 N) ws u (rOfN t 7, rOfD t 7) := by
  obtain ⟨T0, T1⟩ := k.tree
  have s1 := k.s1
  have s3 := k.s3
  have h2 := k.n2
  have h4 := k.n4
  have hP0 := k.pot 0 (by omega)
  have hPu := k.pot u hu
  have hx := k.xV
  have hA := k.at_le u hu
  have hA1 := k.at_pos u hu (by omega)
  obtain ⟨q, hq⟩ : ∃ q, q = potsK N e s ws 0 1 N := ⟨_, rfl⟩
  have hgp : ∀ v, v < N → getP q (v : Int) = potAt N e s ws 0 1 v := fun v hv => by rw [hq]; exact getP_pots N e s ws v hv
  have hql : q.length = N := by rw [hq]; exact potsK_length _ _ _ _ _ _ _
  have hv := fun v hv => k.kir.potV v hv
  have hkf : sumN (fun w => wBtw ws (u : Int) (w : Int) * (potI (lapM N ws) N 0 1 u - potI (lapM N ws) N 0 1 w)) N = 0 := by
    rw [kirchhoff k.wires h2 (by omega) 0 1 u (by omega) (by omega) hu (by omega), if_neg (by omega), if_neg (by omega)]
  have hpp := k.powP
  have hbP := fun v hv => k.pot v hv
  have hmem := k.members
  have hwi := k.wires
  rw [← hq] at hx ⊢
  clear k hq
  generalize hT : treeR N e s ws = T at *
  generalize hPP : potI (lapM N ws) N 0 1 = P at *
  -- the new fraction
  have r7 : IsV (rOfN t 7) (rOfD t 7) t 7 := rOf_isP (by omega) (by omega) (by omega)
  have hsP := mulB (a := s) (b := P u) (A := 3) (B := 512) (by omega) hPu
  have htT := mulB (a := t) (b := T) (A := 4) (B := 1728) (by omega) (by omega)
  have hsPt := mulB (a := s * P u) (b := t) (A := 1536) (B := 4) (by omega) (by omega)
  have hqu : IsV (rSum (getP q u).1 (getP q u).2 (rOfN t 7) (rOfD t 7)).1 (rSum (getP q u).1 (getP q u).2 (rOfN t 7) (rOfD t 7)).2 (s * P u * 7 + t * T) (T * 7) := by
    rw [hgp u hu]
    exact rSum_is (hv u hu) r7 (by omega) (by omega) (by omega) (by omega)
  generalize hqn : rSum (getP q u).1 (getP q u).2 (rOfN t 7) (rOfD t 7) = qn at *
  obtain ⟨Z, hZ⟩ : ∃ Z : Nat → Int, Z = fun v => if v = u then 7 * s * P v + t * T else 7 * s * P v := ⟨_, rfl⟩
  have hgs : ∀ v : Nat, v < N → IsV (getP (q.set u qn) (v : Int)).1 (getP (q.set u qn) (v : Int)).2 (Z v) (7 * T) := fun v hvN => by
    rw [getP_at _ v (by rw [List.length_set]; omega), List.getElem_set, hZ]
    by_cases huv : u = v
    · subst huv
      rw [if_pos rfl]
      simp only [if_true]
      exact hqu.cast (by omega) (by grind)
    · rw [if_neg huv]
      have : ¬ v = u := fun h => huv h.symm
      simp only [if_neg this]
      have e1 := hgp v hvN
      rw [getP_at _ v (by omega)] at e1
      rw [e1]
      exact (hv v hvN).cast (by omega) (by grind)
  have hZb : ∀ v : Nat, v < N → -17664 ≤ Z v ∧ Z v ≤ 17664 := fun v hvN => by
    have m1 := mulB (a := s) (b := P v) (A := 3) (B := 512) (by omega) (hbP v hvN)
    have e1 : 7 * s * P v = 7 * (s * P v) := by grind
    rw [hZ]
    simp only
    split <;> omega
  have hS : powS ws Z = 49 * (s * s) * (P 0 * T) + t * T * (t * T) * wAt ws (u : Int) := by
    rw [hZ, pow_shift hwi (by omega) (fun v => 7 * s * P v) u hu (t * T), powS_scale, hpp]
    have e1 : sumN (fun w => wBtw ws (u : Int) (w : Int) * (7 * s * P u - 7 * s * P w)) N = 0 := by
      have e2 : sumN (fun w => wBtw ws (u : Int) (w : Int) * (7 * s * P u - 7 * s * P w)) N = sumN (fun w => wBtw ws (u : Int) (w : Int) * (P u - P w) * (7 * s)) N := sumN_ext N fun w _ => by grind
      rw [e2, sumN_mul, hkf, Int.zero_mul]
    rw [e1]
    grind
  have b1 := mulB (a := P 0) (b := T) (A := 512) (B := 1728) hP0 (by omega)
  have b2 := mulB (a := s) (b := s) (A := 3) (B := 3) (by omega) (by omega)
  have b3 := mulB (a := s * s) (b := P 0 * T) (A := 9) (B := 884736) (by omega) (by omega)
  have b4 := sq_le (x := t * T) (B := 6912) (by omega)
  have b5 := mulB (a := t * T * (t * T)) (b := wAt ws (u : Int)) (A := 47775744) (B := 12) (by omega) (by omega)
  have e3 : 49 * (s * s) * (P 0 * T) = 49 * (s * s * (P 0 * T)) := by grind
  have hy := powK_is (N := N) (s := s) (D := 7 * T) (q := q.set u qn) (ws := ws) (Z := Z) hgs hmem s1 s3 (by omega) (by omega) hZb (by rw [hS]; omega) ws.length (Nat.le_refl _)
  rw [List.take_length, hS] at hy
  have hAt : 0 < T * T * T := Int.mul_pos (Int.mul_pos T0 T0) T0
  have hkey : (49 * (s * s) * (P 0 * T) + t * T * (t * T) * wAt ws (u : Int)) * T - s * P 0 * (7 * T * (7 * T) * s) = t * t * (T * T * T * wAt ws (u : Int)) := by grind
  have hTA : 0 < T * T * T * wAt ws (u : Int) := Int.mul_pos hAt hA1
  have htt := (sq_le (x := t) (B := 4) (by omega)).1
  refine ⟨?_, by show rOk (powK s (q.set u (rSum (getP q u).1 (getP q u).2 (rOfN t 7) (rOfD t 7))) ws ws.length).1 (powK s (q.set u (rSum (getP q u).1 (getP q u).2 (rOfN t 7) (rOfD t 7))) ws ws.length).2 = true; rw [hqn]; exact hy.1, ?_, ?_⟩
  · exact (by rw [show ((rOfN t 7, rOfD t 7) : P2).1 = rOfN t 7 from rfl, show ((rOfN t 7, rOfD t 7) : P2).2 = rOfD t 7 from rfl, hqn]; exact hqu.1)
  · show 0 ≤ rCmp (powK s (q.set u (rSum (getP q u).1 (getP q u).2 (rOfN t 7) (rOfD t 7))) ws ws.length).1 _ _ _
    rw [hqn, hy.cmp hx, hkey]
    exact sign_ge (Int.mul_nonneg htt (by omega))
  · show rSum (getP q u).1 (getP q u).2 (rOfN t 7) (rOfD t 7) = getP q u ↔ powK s (q.set u (rSum (getP q u).1 (getP q u).2 (rOfN t 7) (rOfD t 7))) ws ws.length = _
    rw [hqn]
    have hu' := hv u hu
    rw [← hgp u hu] at hu'
    constructor
    · intro h
      rw [h] at hqu
      have e1 := hqu.2.2
      have e2 := hu'.2.2
      have e3 : t * T * (getP q u).2 = 0 := by
        have a1 : (s * P u * 7 + t * T) * (getP q u).2 = (s * P u) * (getP q u).2 * 7 + t * T * (getP q u).2 := by grind
        have a2 : (getP q u).1 * (T * 7) = (getP q u).1 * T * 7 := by grind
        rw [a1, a2, e2] at e1
        omega
      have hd := hu'.pos
      have ht : t = 0 := by
        rcases Int.mul_eq_zero.1 e3 with h | h
        · rcases Int.mul_eq_zero.1 h with h | h
          · exact h
          · omega
        · omega
      subst ht
      refine hy.pair hx ?_
      have := hkey
      simp only [Int.zero_mul] at this ⊢
      omega
    · intro h
      rw [h] at hy
      have e1 := hy.2.2
      have e2 := hx.2.2
      have hd := hx.pos
      have e4 : ((49 * (s * s) * (P 0 * T) + t * T * (t * T) * wAt ws (u : Int)) * T - s * P 0 * (7 * T * (7 * T) * s)) * (powK s q ws ws.length).2 = 0 := by
        generalize powK s q ws ws.length = K at *
        have a1 : K.1 * (7 * T * (7 * T) * s) * T = K.1 * T * (7 * T * (7 * T) * s) := by grind
        rw [e1, e2] at a1
        have a2 : ((49 * (s * s) * (P 0 * T) + t * T * (t * T) * wAt ws (u : Int)) * T - s * P 0 * (7 * T * (7 * T) * s)) * K.2 = (49 * (s * s) * (P 0 * T) + t * T * (t * T) * wAt ws (u : Int)) * K.2 * T - s * P 0 * K.2 * (7 * T * (7 * T) * s) := by grind
        rw [a2, a1]; omega
      rw [hkey] at e4
      have ht : t = 0 := by
        rcases Int.mul_eq_zero.1 e4 with h | h
        · rcases Int.mul_eq_zero.1 h with h | h
          · rcases Int.mul_eq_zero.1 h with h | h <;> exact h
          · omega
        · omega
      subst ht
      refine hqu.pair hu' ?_
      grind
end Go.Proofs.Ytpkddaapffamiaa
