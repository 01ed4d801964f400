/-
  Ahead of TriangleStar: the wires that come of a triangle replaced by a star.
-/
import Derived.Test.YthhnicbkldknlaaStarMath
import Derived.Test.YthhnicbkldknlaaDropSpec
namespace Go.Proofs.Ythhnicbkldknlaa
open Go.RowKit Go.Maps

/-- No wire of the triangle a, b, c. -/
def notTri (a b c : Int) (e : W3) : Bool := !atEnds a b e && !atEnds b c e && !atEnds a c e
/-- The wires outside the triangle, times x. -/
def triK (ws : List W3) (a b c x : Int) : List W3 := mulW (ws.filter (notTri a b c)) x
def triF (ws : List W3) (a b c : Int) : Int := wBtw ws a b * wBtw ws b c * wBtw ws a c
def triS (ws : List W3) (a b c : Int) : Int := wBtw ws a b * wBtw ws b c + wBtw ws b c * wBtw ws a c + wBtw ws a c * wBtw ws a b
def triC1 (ws : List W3) (a b c : Int) : Int := triS ws a b c * wBtw ws a b * wBtw ws a c
def triC2 (ws : List W3) (a b c : Int) : Int := triS ws a b c * wBtw ws a b * wBtw ws b c
def triC3 (ws : List W3) (a b c : Int) : Int := triS ws a b c * wBtw ws b c * wBtw ws a c
/-- All wires of the network with the star, whose middle is N. -/
def triL (N : Int) (ws : List W3) (a b c : Int) : List W3 := put3 (put3 (put3 (triK ws a b c (triF ws a b c)) a N (triC1 ws a b c) true) b N (triC2 ws a b c) true) c N (triC3 ws a b c) true
/-- When a triangle can be replaced. -/
def TriOk (n e s a b c : Int) (ws : List W3) : Prop := netB n e s ws = true ∧ 0 ≤ a ∧ a < b ∧ b < c ∧ c < n ∧ wBtw ws a b ≠ 0 ∧ wBtw ws b c ≠ 0 ∧ wBtw ws a c ≠ 0
open Classical in
noncomputable def triR (n e s a b c : Int) (ws : List W3) : Int × Int × Int × List W3 × Bool := if TriOk n e s a b c ws then redR (n + 1) e (s * triF ws a b c) (triL n ws a b c) else (0, 0, 0, [], false)
theorem triR_no {n e s a b c : Int} {ws : List W3} (h : ¬ TriOk n e s a b c ws) : triR n e s a b c ws = (0, 0, 0, [], false) := if_neg h
theorem triR_yes {n e s a b c : Int} {ws : List W3} (h : TriOk n e s a b c ws) : triR n e s a b c ws = redR (n + 1) e (s * triF ws a b c) (triL n ws a b c) := if_pos h
theorem redR_many {n e s : Int} {ws : List W3} (h : 5 < n) : redR n e s ws = (0, 0, 0, [], false) := by
  unfold redR
  rw [if_neg]
  intro hb
  have := (netB_iff.1 hb).1.2.1
  omega
theorem mulW_snoc (l : List W3) (e : W3) (x : Int) : mulW (l ++ [e]) x = mulW l x ++ [(e.1, e.2.1, e.2.2 * x)] := by simp [mulW]
theorem tri_yes {ws : List W3} {a b c x : Int} {k : Nat} (h : k < ws.length) (hy : notTri a b c ws[k] = true) (hp : ws.Pairwise wLt) : triK (ws.take (k + 1)) a b c x = put3 (triK (ws.take k) a b c x) ws[k].1 ws[k].2.1 (ws[k].2.2 * x) true := by
  have e1 : triK (ws.take (k + 1)) a b c x = triK (ws.take k) a b c x ++ [(ws[k].1, ws[k].2.1, ws[k].2.2 * x)] := by
    unfold triK
    rw [List.take_succ_eq_append_getElem h, List.filter_append, ← mulW_snoc]
    simp [hy]
  rw [e1]
  refine (put3_last (L := triK (ws.take k) a b c x) (x := (ws[k].1, ws[k].2.1, ws[k].2.2 * x)) fun e he => ?_).symm
  obtain ⟨t, ht, rfl⟩ := List.mem_map.1 he
  obtain ⟨i, hi, rfl⟩ := List.getElem_of_mem (List.mem_filter.1 ht).1
  rw [List.getElem_take]
  have hik : i < k := by rw [List.length_take] at hi; omega
  exact List.pairwise_iff_getElem.1 hp i k (by omega) h hik
theorem tri_no {ws : List W3} {a b c x : Int} {k : Nat} (h : k < ws.length) (hy : notTri a b c ws[k] = false) : triK (ws.take (k + 1)) a b c x = triK (ws.take k) a b c x := by
  unfold triK
  rw [List.take_succ_eq_append_getElem h, List.filter_append]
  simp [hy]
theorem triK_del (ws : List W3) (a b c x : Int) : restW (restW (restW (mulW ws x) a b) b c) a c = triK ws a b c x := by
  unfold restW triK mulW
  rw [List.filter_map, List.filter_map, List.filter_map, List.filter_filter, List.filter_filter]
  congr 1
  refine List.filter_congr fun e _ => ?_
  show (((!atEnds a c e) && (!atEnds b c e)) && (!atEnds a b e)) = notTri a b c e
  unfold notTri
  cases atEnds a b e <;> cases atEnds b c e <;> cases atEnds a c e <;> rfl
theorem put3_new {L : List W3} {lo hi c : Int} (h : ∀ e ∈ L, ¬ (e.1 = lo ∧ e.2.1 = hi)) : put3 L lo hi c true = insW (lo, hi, c) (restW L lo hi) := by
  unfold put3; rw [sumW_none h]
/-- The program's map lists these wires. -/
theorem tri_lists {N : Nat} {ws : List W3} (h : WiresV N ws) (a b c : Int) (hab : a ≠ b) (hbc : b ≠ c) (hac : a ≠ c) :
    Lists (put2 (put2 (put2 (del2 (del2 (del2 (fAll (mulW ws (triF ws a b c))) a b) b c) a c) a N (triC1 ws a b c)) b N (triC2 ws a b c)) c N (triC3 ws a b c)) (triL N ws a b c) := by
  have h0 := (((lists_all2 (mulW_sorted (triF ws a b c) (pairW h))).del a b).del b c).del a c
  rw [triK_del] at h0
  have hK : ∀ e ∈ triK ws a b c (triF ws a b c), e.2.1 ≠ (N : Int) := fun e he => by
    obtain ⟨t, ht, rfl⟩ := List.mem_map.1 he
    obtain ⟨_, _, h3, _, _⟩ := h.mem (List.mem_filter.1 ht).1
    show t.2.1 ≠ _
    omega
  unfold triL
  have e1 : put3 (triK ws a b c (triF ws a b c)) a N (triC1 ws a b c) true = insW (a, (N : Int), triC1 ws a b c) (restW (triK ws a b c (triF ws a b c)) a N) := put3_new fun e he hc => hK e he hc.2
  have m1 : ∀ e ∈ put3 (triK ws a b c (triF ws a b c)) a N (triC1 ws a b c) true, e.2.1 = (N : Int) → e.1 = a := fun e he hn => by
    rcases mem_put3 he with ⟨h1, -⟩ | h1
    · exact h1
    · exact absurd hn (hK e h1)
  have e2 : put3 (put3 (triK ws a b c (triF ws a b c)) a N (triC1 ws a b c) true) b N (triC2 ws a b c) true = insW (b, (N : Int), triC2 ws a b c) (restW (put3 (triK ws a b c (triF ws a b c)) a N (triC1 ws a b c) true) b N) := put3_new fun e he hc => hab ((m1 e he hc.2).symm.trans hc.1)
  have m2 : ∀ e ∈ put3 (put3 (triK ws a b c (triF ws a b c)) a N (triC1 ws a b c) true) b N (triC2 ws a b c) true, e.2.1 = (N : Int) → e.1 = a ∨ e.1 = b := fun e he hn => by
    rcases mem_put3 he with ⟨h1, -⟩ | h1
    · exact .inr h1
    · exact .inl (m1 e h1 hn)
  have e3 : put3 (put3 (put3 (triK ws a b c (triF ws a b c)) a N (triC1 ws a b c) true) b N (triC2 ws a b c) true) c N (triC3 ws a b c) true = insW (c, (N : Int), triC3 ws a b c) (restW (put3 (put3 (triK ws a b c (triF ws a b c)) a N (triC1 ws a b c) true) b N (triC2 ws a b c) true) c N) := put3_new fun e he hc => by
    rcases m2 e he hc.2 with h1 | h1
    · exact hac (h1.symm.trans hc.1)
    · exact hbc (h1.symm.trans hc.1)
  have l1 := h0.put a N (triC1 ws a b c)
  rw [← e1] at l1
  have l2 := l1.put b N (triC2 ws a b c)
  rw [← e2] at l2
  have l3 := l2.put c N (triC3 ws a b c)
  rw [← e3] at l3
  exact l3
structure TriB (x y z : Int) : Prop where
  f : 1 ≤ x * y * z ∧ x * y * z ≤ 8000000
  s : 1 ≤ x * y + y * z + z * x ∧ x * y + y * z + z * x ≤ 120000
theorem mul_le200 {x y : Int} {X : Int} (x1 : 1 ≤ x) (x2 : x ≤ X) (y1 : 1 ≤ y) (y2 : y ≤ 200) : 1 ≤ x * y ∧ x * y ≤ X * 200 := by
  have h1 := Int.mul_le_mul x1 y1 (by omega) (by omega : (0 : Int) ≤ x)
  have h2 := Int.mul_le_mul x2 y2 (by omega) (by omega : (0 : Int) ≤ X)
  omega
theorem triB_of {x y z : Int} (x1 : 1 ≤ x) (x2 : x ≤ 200) (y1 : 1 ≤ y) (y2 : y ≤ 200) (z1 : 1 ≤ z) (z2 : z ≤ 200) : TriB x y z := by
  have a := mul_le200 x1 x2 y1 y2
  have b := mul_le200 y1 y2 z1 z2
  have c := mul_le200 z1 z2 x1 x2
  have d := mul_le200 a.1 a.2 z1 z2
  exact ⟨by omega, by omega⟩
/-- The bounds of all numbers of a triangle that can be replaced. -/
theorem tri_bounds {N : Nat} {ws : List W3} (h : WiresV N ws) {a b c : Int} (h1 : wBtw ws a b ≠ 0) (h2 : wBtw ws b c ≠ 0) (h3 : wBtw ws a c ≠ 0) :
    (1 ≤ triF ws a b c ∧ triF ws a b c ≤ 8000000) ∧ (1 ≤ triS ws a b c ∧ triS ws a b c ≤ 120000) ∧ (1 ≤ triC1 ws a b c ∧ triC1 ws a b c ≤ 4800000000) ∧ (1 ≤ triC2 ws a b c ∧ triC2 ws a b c ≤ 4800000000) ∧ (1 ≤ triC3 ws a b c ∧ triC3 ws a b c ≤ 4800000000) := by
  have x := wBtw_le h a b
  have y := wBtw_le h b c
  have z := wBtw_le h a c
  have hB := triB_of (x := wBtw ws a b) (y := wBtw ws b c) (z := wBtw ws a c) (by omega) x.2 (by omega) y.2 (by omega) z.2
  refine ⟨hB.f, hB.s, ?_, ?_, ?_⟩
  · have p := mul_le200 hB.s.1 hB.s.2 (show 1 ≤ wBtw ws a b by omega) x.2
    have q := mul_le200 p.1 p.2 (show 1 ≤ wBtw ws a c by omega) z.2
    unfold triC1 triS
    omega
  · have p := mul_le200 hB.s.1 hB.s.2 (show 1 ≤ wBtw ws a b by omega) x.2
    have q := mul_le200 p.1 p.2 (show 1 ≤ wBtw ws b c by omega) y.2
    unfold triC2 triS
    omega
  · have p := mul_le200 hB.s.1 hB.s.2 (show 1 ≤ wBtw ws b c by omega) y.2
    have q := mul_le200 p.1 p.2 (show 1 ≤ wBtw ws a c by omega) z.2
    unfold triC3 triS
    omega
theorem put3_heldN {N X Y lo hi c : Int} {L : List W3} (h : HeldG N (-1) X L) (h0 : 0 ≤ X) (hX : X ≤ 100000000000) (l0 : 0 ≤ lo) (lh : lo < hi) (hN : hi < N) (c1 : 1 ≤ c) (cY : c ≤ Y) (hY : Y ≤ 100000000000) : HeldG N (-1) (X + Y) (put3 L lo hi c true) :=
  h.put h0 (by omega) l0 lh hN (by omega) (by omega) c1 cY (by omega)
/-- Sorted, with positive weights that are not too great. -/
theorem triL_held {N : Nat} {ws : List W3} (h : WiresV N ws) {a b c : Int} (h0 : 0 ≤ a) (hab : a < b) (hbc : b < c) (hcN : c < N) (h1 : wBtw ws a b ≠ 0) (h2 : wBtw ws b c ≠ 0) (h3 : wBtw ws a c ≠ 0) : HeldG ((N : Int) + 1) (-1) 16000000000 (triL N ws a b c) := by
  obtain ⟨f, s, c1, c2, c3⟩ := tri_bounds h h1 h2 h3
  have hk : HeldG ((N : Int) + 1) (-1) 1600000000 (triK ws a b c (triF ws a b c)) := by
    refine ⟨mulW_sorted _ ((pairW h).filter _), fun e he => ?_⟩
    obtain ⟨t, ht, rfl⟩ := List.mem_map.1 he
    obtain ⟨t1, t2, t3, t4, t5⟩ := h.mem (List.mem_filter.1 ht).1
    have p1 := Int.mul_le_mul t4 f.1 (by omega) (by omega : (0 : Int) ≤ t.2.2)
    have p2 := Int.mul_le_mul t5 f.2 (by omega) (by omega : (0 : Int) ≤ 200)
    exact ⟨t1, t2, by show t.2.1 < _; omega, by show t.1 ≠ _; omega, by show t.2.1 ≠ _; omega, by show 1 ≤ t.2.2 * _; omega, by show t.2.2 * _ ≤ _; omega⟩
  have q1 := put3_heldN hk (by omega) (by omega) h0 (show a < (N : Int) by omega) (by omega) c1.1 c1.2 (by omega)
  have q2 := put3_heldN q1 (by omega) (by omega) (show 0 ≤ b by omega) (show b < (N : Int) by omega) (by omega) c2.1 c2.2 (by omega)
  have q3 := put3_heldN q2 (by omega) (by omega) (show 0 ≤ c by omega) (show c < (N : Int) by omega) (by omega) c3.1 c3.2 (by omega)
  exact q3.mono (by omega)
theorem triL_len (N : Int) (ws : List W3) (a b c : Int) : (triL N ws a b c).length ≤ ws.length + 3 := by
  have a1 := put3_len (triK ws a b c (triF ws a b c)) a N (triC1 ws a b c) true
  have a2 := put3_len (put3 (triK ws a b c (triF ws a b c)) a N (triC1 ws a b c) true) b N (triC2 ws a b c) true
  have a3 := put3_len (put3 (put3 (triK ws a b c (triF ws a b c)) a N (triC1 ws a b c) true) b N (triC2 ws a b c) true) c N (triC3 ws a b c) true
  have a4 : (triK ws a b c (triF ws a b c)).length ≤ ws.length := by unfold triK; rw [mulW_length]; exact List.length_filter_le _ _
  unfold triL
  omega
theorem triR_len (n e s a b c : Int) (ws : List W3) : (triR n e s a b c ws).2.2.2.1.length ≤ 50 := by
  by_cases h : TriOk n e s a b c ws
  · rw [triR_yes h]
    have hV := netB_iff.1 h.1
    have hlen := wiresV_len hV.2.1 hV.1.2.1
    have h1 := redR_len (n + 1) e (s * triF ws a b c) (triL n ws a b c)
    have h2 := triL_len n ws a b c
    omega
  · rw [triR_no h]; simp
theorem heldG_wf {N X : Int} {L : List W3} (h : HeldG N (-1) X L) (hN : N ≤ 1000000) : ∀ t ∈ L, (Lit.int .i64 t.1).wf = true ∧ (Lit.int .i64 t.2.1).wf = true := fun t ht => by
  have := h.mem t ht
  exact ⟨wf_of (by omega) (by omega), wf_of (by omega) (by omega)⟩
theorem heldG_dropZ {N v X : Int} {L : List W3} (h : HeldG N v X L) : dropZ L = L := List.filter_eq_self.2 fun t ht => by
  have := h.mem t ht
  simp; omega
theorem heldG_B {N v X : Int} {L : List W3} (h : HeldG N v X L) (hX : X ≤ 1000000000000) : WiresB L := fun k hk => by
  have := h.mem L[k] (List.getElem_mem hk)
  omega
theorem wrap_two {u v : Int} (e : u = v) (h : 1 ≤ v ∧ v ≤ 1000000000000) : wrap64 u = v ∧ IntKind.i64.wrap u = v := by
  subst e
  exact ⟨by unfold wrap64; omega, IntWalk.i64_in _ (by omega)⟩
/-- The numbers that come up on the way do not wrap round. -/
structure TriN (x y z s S F C1 C2 C3 : Int) : Prop where
  bx : 1 ≤ x ∧ x ≤ 200
  bY : 1 ≤ y ∧ y ≤ 200
  bz : 1 ≤ z ∧ z ≤ 200
  bs : 1 ≤ s ∧ s ≤ 1000
  hF : x * y * z = F
  hS : x * y + y * z + z * x = S
  h1 : S * x * z = C1
  h2 : S * x * y = C2
  h3 : S * y * z = C3
theorem triN_of {N : Nat} {ws : List W3} (h : WiresV N ws) {a b c s : Int} (h1 : wBtw ws a b ≠ 0) (h2 : wBtw ws b c ≠ 0) (h3 : wBtw ws a c ≠ 0) (s1 : 1 ≤ s) (s2 : s ≤ 1000) : TriN (wBtw ws a b) (wBtw ws b c) (wBtw ws a c) s (triS ws a b c) (triF ws a b c) (triC1 ws a b c) (triC2 ws a b c) (triC3 ws a b c) := by
  have x := wBtw_le h a b
  have y := wBtw_le h b c
  have z := wBtw_le h a c
  exact ⟨by omega, by omega, by omega, ⟨s1, s2⟩, rfl, rfl, rfl, rfl, rfl⟩
theorem TriN.F_le {x y z s S F C1 C2 C3 : Int} (h : TriN x y z s S F C1 C2 C3) : 1 ≤ F ∧ F ≤ 8000000 := by
  have a := mul_le200 h.bx.1 h.bx.2 h.bY.1 h.bY.2
  have b := mul_le200 a.1 a.2 h.bz.1 h.bz.2
  rw [h.hF] at b
  omega
theorem TriN.S_le {x y z s S F C1 C2 C3 : Int} (h : TriN x y z s S F C1 C2 C3) : 1 ≤ S ∧ S ≤ 120000 := by
  have a := mul_le200 h.bx.1 h.bx.2 h.bY.1 h.bY.2
  have b := mul_le200 h.bY.1 h.bY.2 h.bz.1 h.bz.2
  have c := mul_le200 h.bz.1 h.bz.2 h.bx.1 h.bx.2
  rw [← h.hS]
  omega
theorem TriN.sF {x y z s S F C1 C2 C3 : Int} (h : TriN x y z s S F C1 C2 C3) (u : Int) : u * x * y * z = u * F := by rw [← h.hF, Int.mul_assoc (u * x), Int.mul_assoc u, Int.mul_assoc x]
theorem TriN.sF_le {x y z s S F C1 C2 C3 : Int} (h : TriN x y z s S F C1 C2 C3) : 1 ≤ s * F ∧ s * F ≤ 8000000000 := by
  have f := h.F_le
  have a := Int.mul_le_mul h.bs.2 f.2 (by omega) (by omega : (0 : Int) ≤ 1000)
  have b := Int.mul_le_mul h.bs.1 f.1 (by omega) (by have := h.bs; omega : (0 : Int) ≤ s)
  omega
theorem TriN.wraps {x y z s S F C1 C2 C3 : Int} (h : TriN x y z s S F C1 C2 C3) : (wrap64 (x * y) = x * y ∧ IntKind.i64.wrap (x * y) = x * y) ∧ (wrap64 (y * z) = y * z ∧ IntKind.i64.wrap (y * z) = y * z) ∧ (wrap64 (z * x) = z * x ∧ IntKind.i64.wrap (z * x) = z * x) ∧ (wrap64 (x * y + y * z) = x * y + y * z ∧ IntKind.i64.wrap (x * y + y * z) = x * y + y * z) ∧ (wrap64 (x * y + y * z + z * x) = S ∧ IntKind.i64.wrap (x * y + y * z + z * x) = S) ∧ (wrap64 (s * x) = s * x ∧ IntKind.i64.wrap (s * x) = s * x) ∧ (wrap64 (s * x * y) = s * x * y ∧ IntKind.i64.wrap (s * x * y) = s * x * y) ∧ (wrap64 (s * x * y * z) = s * F ∧ IntKind.i64.wrap (s * x * y * z) = s * F) ∧ (wrap64 (S * x) = S * x ∧ IntKind.i64.wrap (S * x) = S * x) ∧ (wrap64 (S * y) = S * y ∧ IntKind.i64.wrap (S * y) = S * y) ∧ (wrap64 (S * x * z) = C1 ∧ IntKind.i64.wrap (S * x * z) = C1) ∧ (wrap64 (S * x * y) = C2 ∧ IntKind.i64.wrap (S * x * y) = C2) ∧ (wrap64 (S * y * z) = C3 ∧ IntKind.i64.wrap (S * y * z) = C3) := by
  have q1 := mul_le200 h.bx.1 h.bx.2 h.bY.1 h.bY.2
  have q2 := mul_le200 h.bY.1 h.bY.2 h.bz.1 h.bz.2
  have q3 := mul_le200 h.bz.1 h.bz.2 h.bx.1 h.bx.2
  have bS := h.S_le
  have q4 := mul_le200 h.bs.1 h.bs.2 h.bx.1 h.bx.2
  have q5 := mul_le200 q4.1 q4.2 h.bY.1 h.bY.2
  have q7 := mul_le200 bS.1 bS.2 h.bx.1 h.bx.2
  have q8 := mul_le200 bS.1 bS.2 h.bY.1 h.bY.2
  have c1 := mul_le200 q7.1 q7.2 h.bz.1 h.bz.2
  have c2 := mul_le200 q7.1 q7.2 h.bY.1 h.bY.2
  have c3 := mul_le200 q8.1 q8.2 h.bz.1 h.bz.2
  rw [h.h1] at c1
  rw [h.h2] at c2
  rw [h.h3] at c3
  have hsF := h.sF s
  have f := h.sF_le
  refine ⟨wrap_two rfl ?_, wrap_two rfl ?_, wrap_two rfl ?_, wrap_two rfl ?_, wrap_two h.hS ?_, wrap_two rfl ?_, wrap_two rfl ?_, wrap_two hsF ?_, wrap_two rfl ?_, wrap_two rfl ?_, wrap_two h.h1 ?_, wrap_two h.h2 ?_, wrap_two h.h3 ?_⟩ <;> clear hsF <;> omega
/-- The same for the weight of a wire. -/
theorem TriN.wire {x y z s S F C1 C2 C3 u : Int} (h : TriN x y z s S F C1 C2 C3) (u1 : 1 ≤ u) (u2 : u ≤ 200) : (wrap64 (u * x) = u * x ∧ IntKind.i64.wrap (u * x) = u * x) ∧ (wrap64 (u * x * y) = u * x * y ∧ IntKind.i64.wrap (u * x * y) = u * x * y) ∧ (wrap64 (u * x * y * z) = u * F ∧ IntKind.i64.wrap (u * x * y * z) = u * F) := by
  have q4 := mul_le200 u1 u2 h.bx.1 h.bx.2
  have q5 := mul_le200 q4.1 q4.2 h.bY.1 h.bY.2
  have f := h.F_le
  have a := Int.mul_le_mul u2 f.2 (by omega) (by omega : (0 : Int) ≤ 200)
  have b := Int.mul_le_mul u1 f.1 (by omega) (by omega : (0 : Int) ≤ u)
  have hsF := h.sF u
  refine ⟨wrap_two rfl ?_, wrap_two rfl ?_, wrap_two hsF ?_⟩ <;> clear hsF <;> omega
end Go.Proofs.Ythhnicbkldknlaa
