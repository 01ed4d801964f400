/-
  The weights at a node are those of its wires to the other nodes.
  Potentials by minors: they solve the equations of a network's matrix.
  TreeSum, ForestSum and CrossSum in the model.
  What TreeSum, ForestSum and CrossSum answer.
  The potentials of a network obey Kirchhoff's laws, and the minor without a node does not hang on the node.
-/
import Derived.Test.YtaececpphdaciaaGMinor
namespace Go.Proofs.Ytaececpphdaciaa
open Go.RowKit

def sumN (f : Nat → Int) : Nat → Int
  | 0 => 0
  | k + 1 => sumN f k + f k
theorem sumN_zero {f : Nat → Int} : ∀ n, (∀ k, k < n → f k = 0) → sumN f n = 0
  | 0, _ => rfl
  | n + 1, h => by
    show sumN f n + f n = 0
    rw [sumN_zero n (fun k hk => h k (by omega)), h n (by omega)]; rfl
theorem sumN_one {f : Nat → Int} (j : Nat) : ∀ n, j < n → (∀ k, k < n → k ≠ j → f k = 0) → sumN f n = f j
  | 0, h, _ => absurd h (by omega)
  | n + 1, hj, h => by
    show sumN f n + f n = f j
    by_cases e : j = n
    · subst e
      rw [sumN_zero j (fun k hk => h k (by omega) (by omega))]; omega
    · rw [sumN_one j n (by omega) (fun k hk hkj => h k (by omega) hkj), h n (by omega) (fun e' => e e'.symm)]; omega
theorem sumN_add (f g : Nat → Int) : ∀ n, sumN (fun k => f k + g k) n = sumN f n + sumN g n
  | 0 => rfl
  | n + 1 => by
    show sumN (fun k => f k + g k) n + (f n + g n) = (sumN f n + f n) + (sumN g n + g n)
    rw [sumN_add f g n]; omega
theorem sumN_ext {f g : Nat → Int} : ∀ n, (∀ k, k < n → f k = g k) → sumN f n = sumN g n
  | 0, _ => rfl
  | n + 1, h => by
    show sumN f n + f n = sumN g n + g n
    rw [sumN_ext n (fun k hk => h k (by omega)), h n (by omega)]
/-- All wires between two nodes, all wires at a node. -/
def sJ (ws : List W3) (lo hi : Int) : Int := (ws.map fun e => if e.1 = lo ∧ e.2.1 = hi then e.2.2 else 0).sum
def sT (ws : List W3) (x : Int) : Int := (ws.map fun e => if e.1 = x ∨ e.2.1 = x then e.2.2 else 0).sum
theorem sJ_none (lo hi : Int) : ∀ ws : List W3, (∀ e ∈ ws, ¬ (e.1 = lo ∧ e.2.1 = hi)) → sJ ws lo hi = 0
  | [], _ => rfl
  | e :: r, h => by
    show (if e.1 = lo ∧ e.2.1 = hi then e.2.2 else 0) + sJ r lo hi = 0
    rw [if_neg (h e (by simp)), sJ_none lo hi r (fun x hx => h x (by simp [hx]))]; rfl
theorem wBtw_sJ (a b : Int) (hne : a ≠ b) : ∀ ws : List W3, ws.Pairwise wLt → wBtw ws a b = sJ ws (min a b) (max a b)
  | [], _ => by simp [wBtw, sJ]
  | e :: r, hp => by
    rw [List.pairwise_cons] at hp
    have ih := wBtw_sJ a b hne r hp.2
    show _ = (if e.1 = min a b ∧ e.2.1 = max a b then e.2.2 else 0) + sJ r (min a b) (max a b)
    by_cases h : e.1 = min a b ∧ e.2.1 = max a b
    · rw [if_pos h, sJ_none _ _ r (fun x hx hx2 => by have := hp.1 x hx; unfold wLt at this; omega)]
      have hb : ((e.1 == min a b) && (e.2.1 == max a b)) = true := by simp [h.1, h.2]
      unfold wBtw
      rw [if_neg hne, List.find?_cons_of_pos (p := fun e : W3 => (e.1 == min a b) && (e.2.1 == max a b)) hb]
      simp
    · rw [if_neg h, ← ih]
      have hb : ¬ ((e.1 == min a b) && (e.2.1 == max a b)) = true := by simp; intro h1; exact fun h2 => h ⟨h1, h2⟩
      unfold wBtw
      rw [if_neg hne, if_neg hne, List.find?_cons_of_neg (p := fun e : W3 => (e.1 == min a b) && (e.2.1 == max a b)) hb]
      simp
theorem sT_snoc (ws : List W3) (k : Nat) (h : k < ws.length) (x : Int) : sT (ws.take (k + 1)) x = sT (ws.take k) x + (if ws[k].1 = x ∨ ws[k].2.1 = x then ws[k].2.2 else 0) := by
  unfold sT; rw [List.take_succ_eq_append_getElem h, List.map_append, List.sum_append]; simp
theorem wAt_sT {n : Int} {ws : List W3} (h : WiresV n ws) (hn : n ≤ 5) (x : Int) (h0 : 0 ≤ x) (hx : x < n) : ∀ k, k ≤ ws.length → wAt (ws.take k) x = sT (ws.take k) x
  | 0, _ => by simp [wAt, sT]
  | k + 1, hk => by
    have hk' : k < ws.length := by omega
    have ih := wAt_sT h hn x h0 hx k (by omega)
    have hd := degree h hn x h0 hx
    have hl : ((ws.take k).filter (tch x)).length ≤ (ws.filter (tch x)).length := ((List.take_sublist k ws).filter (tch x)).length_le
    have hr := wAt_range h x k (by omega) (by omega)
    obtain ⟨v1, v2, v3, v4, v5⟩ := h.1 k hk'
    rw [wAt_snoc ws k hk', sT_snoc ws k hk', ← ih]
    by_cases ht : ws[k].1 = x ∨ ws[k].2.1 = x
    · rw [if_pos ht, if_pos (by simpa using ht), wrap_small (by omega) (by omega)]
    · rw [if_neg ht, if_neg (by simpa using ht)]; omega
theorem sT_sum (N x : Nat) (hx : x < N) : ∀ ws : List W3, (∀ e ∈ ws, wireV N e) → sT ws x = sumN (fun k => if k = x then 0 else sJ ws (min (x : Int) k) (max (x : Int) k)) N
  | [], _ => by
    rw [sumN_zero]
    · rfl
    · intro k _; split <;> rfl
  | e :: r, h => by
    have ih := sT_sum N x hx r (fun y hy => h y (by simp [hy]))
    obtain ⟨v1, v2, v3, v4, v5⟩ := h e (by simp)
    have hs : sumN (fun k => if k = x then 0 else sJ (e :: r) (min (x : Int) k) (max (x : Int) k)) N = sumN (fun k => if k = x then 0 else (if e.1 = min (x : Int) k ∧ e.2.1 = max (x : Int) k then e.2.2 else 0)) N + sumN (fun k => if k = x then 0 else sJ r (min (x : Int) k) (max (x : Int) k)) N := by
      rw [← sumN_add]
      refine sumN_ext N fun k _ => ?_
      by_cases hk : k = x
      · simp [hk]
      · simp only [if_neg hk]; rfl
    rw [hs, ← ih]
    show (if e.1 = (x : Int) ∨ e.2.1 = (x : Int) then e.2.2 else 0) + sT r x = _
    congr 1
    by_cases ht : e.1 = (x : Int)
    · rw [if_pos (.inl ht), sumN_one e.2.1.toNat N (by omega) (fun k _ hk => by
        by_cases hkx : k = x
        · rw [if_pos hkx]
        · rw [if_neg hkx, if_neg (by omega)])]
      rw [if_neg (by omega), if_pos (by omega)]
    · by_cases ht2 : e.2.1 = (x : Int)
      · rw [if_pos (.inr ht2), sumN_one e.1.toNat N (by omega) (fun k _ hk => by
          by_cases hkx : k = x
          · rw [if_pos hkx]
          · rw [if_neg hkx, if_neg (by omega)])]
        rw [if_neg (by omega), if_pos (by omega)]
      · rw [if_neg (by omega), sumN_zero N (fun k _ => by
          by_cases hkx : k = x
          · rw [if_pos hkx]
          · rw [if_neg hkx, if_neg (by omega)])]
theorem wBtw_self (ws : List W3) (a : Int) : wBtw ws a a = 0 := by unfold wBtw; rw [if_pos rfl]
theorem wBtw_comm (ws : List W3) (a b : Int) : wBtw ws a b = wBtw ws b a := by
  unfold wBtw
  rw [Int.min_comm, Int.max_comm]
  by_cases h : a = b
  · rw [if_pos h, if_pos h.symm]
  · rw [if_neg h, if_neg (Ne.symm h)]
/-- The weight at a node is the sum of the weights between it and all nodes. -/
theorem wAt_sum {N : Nat} {ws : List W3} (h : WiresV N ws) (hN : N ≤ 5) (x : Nat) (hx : x < N) : wAt ws (x : Int) = sumN (fun k => wBtw ws (x : Int) (k : Int)) N := by
  have h1 := wAt_sT h (by omega) (x : Int) (by omega) (by omega) ws.length (Nat.le_refl _)
  rw [List.take_length] at h1
  rw [h1, sT_sum N x hx ws (fun e he => h.mem he)]
  refine sumN_ext N fun k _ => ?_
  by_cases hk : k = x
  · rw [if_pos hk, hk, wBtw_self]
  · rw [if_neg hk, wBtw_sJ (x : Int) (k : Int) (by omega) ws (pairW h)]
end Go.Proofs.Ytaececpphdaciaa

namespace Go.Proofs.Ytaececpphdaciaa
open Go.RowKit

theorem det1 (m : MatI) (r c : Int) : detD m [r] [c] = at2 m r c := by simp [detD, detP, sgn]
theorem det2 (m : MatI) (r s c d : Int) : detD m [r, s] [c, d] = at2 m r c * at2 m s d - at2 m r d * at2 m s c := by
  simp [detD, detP, sgn]; grind
theorem det3 (m : MatI) (r s t c d e : Int) : detD m [r, s, t] [c, d, e] = at2 m r c * (at2 m s d * at2 m t e - at2 m s e * at2 m t d) - at2 m r d * (at2 m s c * at2 m t e - at2 m s e * at2 m t c) + at2 m r e * (at2 m s c * at2 m t d - at2 m s d * at2 m t c) := by
  simp [detD, detP, sgn]; grind
theorem det4 (m : MatI) (r s t u c d e f : Int) : detD m [r, s, t, u] [c, d, e, f] = at2 m r c * detD m [s, t, u] [d, e, f] - at2 m r d * detD m [s, t, u] [c, e, f] + at2 m r e * detD m [s, t, u] [c, d, f] - at2 m r f * detD m [s, t, u] [c, d, e] := by
  show detP m (detD m [s, t, u]) r [c, d, e, f] 4 = _
  simp [detP, sgn]; grind
theorem w2_0 : woL 2 [0] = [1] := by decide
theorem w2_01 : woL 2 [0, 1] = [] := by decide
theorem w2_1 : woL 2 [1] = [0] := by decide
theorem w3_0 : woL 3 [0] = [1, 2] := by decide
theorem w3_01 : woL 3 [0, 1] = [2] := by decide
theorem w3_02 : woL 3 [0, 2] = [1] := by decide
theorem w3_1 : woL 3 [1] = [0, 2] := by decide
theorem w3_12 : woL 3 [1, 2] = [0] := by decide
theorem w3_2 : woL 3 [2] = [0, 1] := by decide
theorem w4_0 : woL 4 [0] = [1, 2, 3] := by decide
theorem w4_01 : woL 4 [0, 1] = [2, 3] := by decide
theorem w4_02 : woL 4 [0, 2] = [1, 3] := by decide
theorem w4_03 : woL 4 [0, 3] = [1, 2] := by decide
theorem w4_1 : woL 4 [1] = [0, 2, 3] := by decide
theorem w4_12 : woL 4 [1, 2] = [0, 3] := by decide
theorem w4_13 : woL 4 [1, 3] = [0, 2] := by decide
theorem w4_2 : woL 4 [2] = [0, 1, 3] := by decide
theorem w4_23 : woL 4 [2, 3] = [0, 1] := by decide
theorem w4_3 : woL 4 [3] = [0, 1, 2] := by decide
theorem w5_0 : woL 5 [0] = [1, 2, 3, 4] := by decide
theorem w5_01 : woL 5 [0, 1] = [2, 3, 4] := by decide
theorem w5_02 : woL 5 [0, 2] = [1, 3, 4] := by decide
theorem w5_03 : woL 5 [0, 3] = [1, 2, 4] := by decide
theorem w5_04 : woL 5 [0, 4] = [1, 2, 3] := by decide
theorem w5_1 : woL 5 [1] = [0, 2, 3, 4] := by decide
theorem w5_12 : woL 5 [1, 2] = [0, 3, 4] := by decide
theorem w5_13 : woL 5 [1, 3] = [0, 2, 4] := by decide
theorem w5_14 : woL 5 [1, 4] = [0, 2, 3] := by decide
theorem w5_2 : woL 5 [2] = [0, 1, 3, 4] := by decide
theorem w5_23 : woL 5 [2, 3] = [0, 1, 4] := by decide
theorem w5_24 : woL 5 [2, 4] = [0, 1, 3] := by decide
theorem w5_3 : woL 5 [3] = [0, 1, 2, 4] := by decide
theorem w5_34 : woL 5 [3, 4] = [0, 1, 2] := by decide
theorem w5_4 : woL 5 [4] = [0, 1, 2, 3] := by decide
def idx (v b : Nat) : Nat := if b < v then v - 1 else v
def potI (m : MatI) (N a b v : Nat) : Int := if v = b then 0 else sgn (idx a b + idx v b) * detD m (woL N [((min a b : Nat) : Int), ((max a b : Nat) : Int)]) (woL N [((min v b : Nat) : Int), ((max v b : Nat) : Int)])
/-- The minor without one node. -/
def minI (m : MatI) (N b : Nat) : Int := detD m (woL N [(b : Int)]) (woL N [(b : Int)])
set_option maxHeartbeats 8000000 in
theorem cramer2 (m : MatI) (a b v : Nat) (ha : a < 2) (hb : b < 2) (hv : v < 2) (hab : a ≠ b) (hvb : v ≠ b) : sumN (fun w => at2 m v w * potI m 2 a b w) 2 = if v = a then minI m 2 b else 0 := by
  have ha' : a = 0 ∨ a = 1 := by omega
  have hb' : b = 0 ∨ b = 1 := by omega
  have hv' : v = 0 ∨ v = 1 := by omega
  clear ha hb hv
  rcases ha' with rfl | rfl <;> rcases hb' with rfl | rfl <;> first | (exfalso; exact hab rfl) | (rcases hv' with rfl | rfl <;> first | (exfalso; exact hvb rfl) | (simp [sumN, potI, minI, idx, sgn, w2_0, w2_1, w2_01, det1, detD] <;> grind))
set_option maxHeartbeats 8000000 in
theorem cramer3 (m : MatI) (a b v : Nat) (ha : a < 3) (hb : b < 3) (hv : v < 3) (hab : a ≠ b) (hvb : v ≠ b) : sumN (fun w => at2 m v w * potI m 3 a b w) 3 = if v = a then minI m 3 b else 0 := by
  have ha' : a = 0 ∨ a = 1 ∨ a = 2 := by omega
  have hb' : b = 0 ∨ b = 1 ∨ b = 2 := by omega
  have hv' : v = 0 ∨ v = 1 ∨ v = 2 := by omega
  clear ha hb hv
  rcases ha' with rfl | rfl | rfl <;> rcases hb' with rfl | rfl | rfl <;> first | (exfalso; exact hab rfl) | (rcases hv' with rfl | rfl | rfl <;> first | (exfalso; exact hvb rfl) | (simp [sumN, potI, minI, idx, sgn, w3_0, w3_1, w3_2, w3_01, w3_02, w3_12, det1, det2] <;> grind))
set_option maxHeartbeats 8000000 in
theorem cramer4 (m : MatI) (a b v : Nat) (ha : a < 4) (hb : b < 4) (hv : v < 4) (hab : a ≠ b) (hvb : v ≠ b) : sumN (fun w => at2 m v w * potI m 4 a b w) 4 = if v = a then minI m 4 b else 0 := by
  have ha' : a = 0 ∨ a = 1 ∨ a = 2 ∨ a = 3 := by omega
  have hb' : b = 0 ∨ b = 1 ∨ b = 2 ∨ b = 3 := by omega
  have hv' : v = 0 ∨ v = 1 ∨ v = 2 ∨ v = 3 := by omega
  clear ha hb hv
  rcases ha' with rfl | rfl | rfl | rfl <;> rcases hb' with rfl | rfl | rfl | rfl <;> first | (exfalso; exact hab rfl) | (rcases hv' with rfl | rfl | rfl | rfl <;> first | (exfalso; exact hvb rfl) | (simp [sumN, potI, minI, idx, sgn, w4_0, w4_1, w4_2, w4_3, w4_01, w4_02, w4_03, w4_12, w4_13, w4_23, det2, det3] <;> grind))
set_option maxHeartbeats 8000000 in
theorem cramer5 (m : MatI) (a b v : Nat) (ha : a < 5) (hb : b < 5) (hv : v < 5) (hab : a ≠ b) (hvb : v ≠ b) : sumN (fun w => at2 m v w * potI m 5 a b w) 5 = if v = a then minI m 5 b else 0 := by
  have ha' : a = 0 ∨ a = 1 ∨ a = 2 ∨ a = 3 ∨ a = 4 := by omega
  have hb' : b = 0 ∨ b = 1 ∨ b = 2 ∨ b = 3 ∨ b = 4 := by omega
  have hv' : v = 0 ∨ v = 1 ∨ v = 2 ∨ v = 3 ∨ v = 4 := by omega
  clear ha hb hv
  rcases ha' with rfl | rfl | rfl | rfl | rfl <;> rcases hb' with rfl | rfl | rfl | rfl | rfl <;> first | (exfalso; exact hab rfl) | (rcases hv' with rfl | rfl | rfl | rfl | rfl <;> first | (exfalso; exact hvb rfl) | (simp [sumN, potI, minI, idx, sgn, w5_0, w5_1, w5_2, w5_3, w5_4, w5_01, w5_02, w5_03, w5_04, w5_12, w5_13, w5_14, w5_23, w5_24, w5_34, det4, det3] <;> grind))
end Go.Proofs.Ytaececpphdaciaa

namespace Go.Proofs.Ytaececpphdaciaa
open Go.RowKit

theorem net_small {n e s : Int} {ws : List W3} (h : netB n e s ws = true) : ∃ N : Nat, n = N ∧ 1 ≤ N ∧ N ≤ 5 ∧ WiresV n ws := by
  obtain ⟨⟨n1, n5, -⟩, hw, -⟩ := netB_iff.1 h
  exact ⟨n.toNat, by omega, by omega, by omega, hw⟩
theorem net_nat {N : Nat} {e s : Int} {ws : List W3} (h : netB N e s ws = true) : 1 ≤ N ∧ N ≤ 5 ∧ WiresV N ws := by
  obtain ⟨⟨n1, n5, -⟩, hw, -⟩ := netB_iff.1 h
  exact ⟨by omega, by omega, hw⟩
set_option maxHeartbeats 6400000 in
theorem spec_l04Minor (N : Nat) (e s : Int) (v vr vc : Value) (ws : List W3) (qr qc : List Int) (w : World) (hb : netB N e s ws = true) (hr : ReadsW w v ws) (hR : ReadsI w vr qr) (hC : ReadsI w vc qc) (hl : (woL N qr).length = (woL N qc).length) :
    Calls Try.prog 118 #[.agg #[.int .i64 N, .int .i64 e, .int .i64 s, v], vr, vc] w fun en w' => en = .returned (.int .i64 (detD (lapM N ws) (woL N qr) (woL N qc))) ∧ Below w.heap.size w w' := by
  obtain ⟨_, h5, hw⟩ := net_nat hb
  obtain ⟨p, cap, rfl⟩ := hr.shape
  obtain ⟨pr, cr, rfl, _, _⟩ := hR.shape
  obtain ⟨pc, cc, rfl, _, _⟩ := hC.shape
  have HB : Below w.heap.size w ((w.alloc (.cells #[.int .i64 N, .int .i64 e, .int .i64 s, .slice p ws.length cap] 25)).drew) := by (repeat (first | exact Below.refl _ _ | (refine Below.setCell ?_ (by (first | exact Nat.le_refl _ | omega | (simp <;> omega) | simp)) _) | (refine Below.alloc ?_ (by (first | exact Nat.le_refl _ | omega | (simp <;> omega) | simp)) _) | (refine below_draws ?_ _)))
  have hS : boxN ((w.alloc (.cells #[.int .i64 N, .int .i64 e, .int .i64 s, .slice p ws.length cap] 25)).drew) w.heap.size N e s (.slice p ws.length cap) := boxN.new w N e s (.slice p ws.length cap) 25
  unfold boxN at hS
  have HR := Lib.hid hR; clear hR
  have HC := Lib.hid hC; clear hC
  have HW := Lib.hid hr; clear hr
  have HM := Lib.hid (lapM_ok hw h5); clear hw
  have HBB := Lib.hid hb; clear hb
  have HL := Lib.hid hl; clear hl
  go_enter Try.func118, Try.ntmps118
  go_wp2
  go_region_held3 (fun w' => w'.cell? ⟨w.heap.size, 0, none⟩ = some (.int .i64 N) ∧ w'.cell? ⟨w.heap.size, 1, none⟩ = some (.int .i64 e) ∧ w'.cell? ⟨w.heap.size, 2, none⟩ = some (.int .i64 s) ∧ w'.cell? ⟨w.heap.size, 3, none⟩ = some (.slice p ws.length cap))
    (first | exact hS)
    (first
      | (go_at_call 127; refine (spec_lap N e s _ ws _ (HW.out.later HB)).mono ?_; rintro en w2 ⟨vL, rfl, oL, B2⟩; have hL := oL.reads; rw [lapR_yes HBB.out, Int.toNat_natCast] at hL; replace hS := four_keep B2 hS; have C2 := HB.trans (B2.mono HB.size))
      | (go_at_call 128; with_reducible refine (spec_without N h5 (.slice pr qr.length cr) qr _ (HR.out.later C2)).mono ?_; rintro en w3 ⟨v1, rfl, r1, B3⟩; have hL3 := hL.later B3; replace hS := four_keep B3 hS; have C3 := C2.trans (B3.mono C2.size))
      | (go_at_call 128; with_reducible refine (spec_without N h5 (.slice pc qc.length cc) qc _ (HC.out.later C3)).mono ?_; rintro en w4 ⟨v2, rfl, r2, B4⟩; have hL4 := hL3.later B4; have r14 := r1.later B4; replace hS := four_keep B4 hS; have C4 := C3.trans (B4.mono C3.size))
      | (go_at_call 126; refine (spec_det _ (lapM N ws) HM.out (woL N qr) (woL N qc) _ _ _ hL4 r14 r2 HL.out.symm (Nat.le_trans (woL_le N qr) h5) (by rw [lapM_length]; exact woL_mem) (by rw [lapM_length]; exact woL_mem)).mono ?_; rintro en w5 ⟨rfl, B5⟩; replace hS := four_keep B5 hS; have C5 := C4.trans (B5.mono C4.size)))
  all_goals
    go_wp2
    go_ret
    exact ⟨rfl, C5⟩
end Go.Proofs.Ytaececpphdaciaa

namespace Go.Proofs.Ytaececpphdaciaa
open Go.RowKit

noncomputable def treeR (n e s : Int) (ws : List W3) : Int := if netB n e s ws = true then detD (lapM n.toNat ws) (woL n.toNat [0]) (woL n.toNat [0]) else 0
noncomputable def forestR (n e s : Int) (ws : List W3) (a b : Int) : Int := if netB n e s ws = true ∧ 0 ≤ a ∧ a < n ∧ 0 ≤ b ∧ b < n ∧ a ≠ b then detD (lapM n.toNat ws) (woL n.toNat [a, b]) (woL n.toNat [a, b]) else 0
noncomputable def crossR (n e s : Int) (ws : List W3) (a b c d : Int) : Int × Bool := if netB n e s ws = true ∧ 0 ≤ a ∧ a < b ∧ b < n ∧ 0 ≤ c ∧ c < d ∧ d < n then (detD (lapM n.toNat ws) (woL n.toNat [a, b]) (woL n.toNat [c, d]), true) else (0, false)
theorem woL_two {N : Nat} {a b : Int} (h1 : 0 ≤ a ∧ a < N) (h2 : 0 ≤ b ∧ b < N) (h3 : a ≠ b) : (woL N [a, b]).length = N - 2 := by
  rw [woL_len (by simpa using h3) (by
    intro x hx
    simp only [List.mem_cons, List.not_mem_nil, or_false] at hx
    rcases hx with rfl | rfl
    · exact h1
    · exact h2)]
  rfl
theorem in_yes' (x lo hi lo' hi' : Int) (e1 : lo' = lo) (e2 : hi' = hi) (h1 : lo ≤ x) (h2 : x ≤ hi) (w : World) :
    Calls Try.prog 79 #[.int .i64 x, .int .i64 lo', .int .i64 hi'] w fun e w' => e = .returned (.bool true) ∧ w = w' := by
  subst e1; subst e2; exact in_yes x _ _ w h1 h2
theorem in_no' (x lo hi lo' hi' : Int) (e1 : lo' = lo) (e2 : hi' = hi) (h : ¬ (lo ≤ x ∧ x ≤ hi)) (w : World) :
    Calls Try.prog 79 #[.int .i64 x, .int .i64 lo', .int .i64 hi'] w fun e w' => e = .returned (.bool false) ∧ w = w' := by
  subst e1; subst e2; exact in_no x _ _ w h
theorem readsI_new1 (w : World) (x : Int) (t : TypeId) : ReadsI (w.alloc (.cells #[.int .i64 x] t)) (.slice (some ⟨w.heap.size, 0, none⟩) 1 1) [x] :=
  ⟨_, 1, rfl, Nat.le_refl _, by omega, .inr ⟨_, _, rfl, fun k hk => by
    have : k = 0 := by simpa using hk
    subst this
    simp [go_sem]⟩⟩
theorem readsI_new1' (w : World) (x : Int) (t : TypeId) (B : Nat) (hB : B = w.heap.size) : ReadsI (w.alloc (.cells #[.int .i64 x] t)) (.slice (some ⟨B, 0, none⟩) 1 1) [x] := by
  subst hB; exact readsI_new1 w x t
theorem readsI_new2 (w : World) (x y : Int) (t : TypeId) : ReadsI (w.alloc (.cells #[.int .i64 x, .int .i64 y] t)) (.slice (some ⟨w.heap.size, 0, none⟩) 2 2) [x, y] :=
  ⟨_, 2, rfl, Nat.le_refl _, by omega, .inr ⟨_, _, rfl, fun k hk => by
    rcases k with _ | _ | k
    · simp [go_sem]
    · simp [go_sem]
    · simp at hk; omega⟩⟩
theorem readsI_new2' (w : World) (x y : Int) (t : TypeId) (B : Nat) (hB : B = w.heap.size) : ReadsI (w.alloc (.cells #[.int .i64 x, .int .i64 y] t)) (.slice (some ⟨B, 0, none⟩) 2 2) [x, y] := by
  subst hB; exact readsI_new2 w x y t
end Go.Proofs.Ytaececpphdaciaa

namespace Go.Proofs.Ytaececpphdaciaa
open Go.RowKit

theorem sumN_mul (f : Nat → Int) (x : Int) : ∀ n, sumN (fun k => f k * x) n = sumN f n * x
  | 0 => by simp [sumN]
  | n + 1 => by
    show sumN (fun k => f k * x) n + f n * x = (sumN f n + f n) * x
    rw [sumN_mul f x n, Int.add_mul]
theorem sumN_sub (f g : Nat → Int) : ∀ n, sumN (fun k => f k - g k) n = sumN f n - sumN g n
  | 0 => rfl
  | n + 1 => by
    show sumN (fun k => f k - g k) n + (f n - g n) = (sumN f n + f n) - (sumN g n + g n)
    rw [sumN_sub f g n]; omega
theorem sumN_swap (f : Nat → Nat → Int) (m : Nat) : ∀ n, sumN (fun i => sumN (fun j => f i j) m) n = sumN (fun j => sumN (fun i => f i j) n) m
  | 0 => by
    exact (sumN_zero m (fun _ _ => rfl)).symm
  | n + 1 => by
    show sumN (fun i => sumN (fun j => f i j) m) n + sumN (fun j => f n j) m = _
    rw [sumN_swap f m n, ← sumN_add]
    exact sumN_ext m fun j _ => rfl
theorem sumN_two {f : Nat → Int} (a b : Nat) (hab : a ≠ b) (n : Nat) (ha : a < n) (hb : b < n) (h : ∀ k, k < n → k ≠ a → k ≠ b → f k = 0) : sumN f n = f a + f b := by
  have e : sumN f n = sumN (fun k => (if k = a then f k else 0) + (if k = a then 0 else f k)) n := sumN_ext n fun k _ => by
    by_cases hk : k = a
    · rw [if_pos hk, if_pos hk]; omega
    · rw [if_neg hk, if_neg hk]; omega
  rw [e, sumN_add, sumN_one a n ha (fun k _ hk => if_neg hk), sumN_one b n hb (fun k hk hkb => by
    by_cases hka : k = a
    · rw [if_pos hka]
    · rw [if_neg hka]; exact h k hk hka hkb), if_pos rfl, if_neg (fun e => hab e.symm)]
theorem at2_lap {N : Nat} (ws : List W3) {i j : Nat} (hi : i < N) (hj : j < N) : at2 (lapM N ws) (i : Int) (j : Int) = lapE ws i j := by
  have h1 : i < (lapM N ws).length := by rw [lapM_length]; exact hi
  have h2 : j < (lapM N ws)[i].length := by rw [lapM_row]; simp; exact hj
  rw [at2_get h1 h2]
  simp only [lapM_row, List.getElem_map, List.getElem_range]
/-- A row of the matrix times potentials is what flows off. -/
theorem lap_row {N : Nat} {ws : List W3} (h : WiresV N ws) (hN : N ≤ 5) (P : Nat → Int) (v : Nat) (hv : v < N) :
    sumN (fun w => at2 (lapM N ws) v w * P w) N = sumN (fun w => wBtw ws (v : Int) (w : Int) * (P v - P w)) N := by
  have e1 : sumN (fun w => at2 (lapM N ws) v w * P w) N = sumN (fun w => (if w = v then wAt ws (v : Int) * P w else 0) - wBtw ws (v : Int) (w : Int) * P w) N := sumN_ext N fun w hw => by
    rw [at2_lap ws hv hw]
    unfold lapE
    by_cases e : v = w
    · subst e
      rw [if_pos rfl, if_pos rfl, wBtw_self]; grind
    · rw [if_neg e, if_neg (Ne.symm e)]; grind
  have e2 : sumN (fun w => wBtw ws (v : Int) (w : Int) * (P v - P w)) N = sumN (fun w => wBtw ws (v : Int) (w : Int) * P v - wBtw ws (v : Int) (w : Int) * P w) N := sumN_ext N fun w _ => Int.mul_sub _ _ _
  rw [e1, e2, sumN_sub, sumN_sub, sumN_mul, sumN_one v N hv (fun k _ hk => if_neg hk), if_pos rfl, wAt_sum h hN v hv]
/-- All that flows off everywhere is nothing. -/
theorem flow_zero (ws : List W3) (N : Nat) (P : Nat → Int) : sumN (fun v => sumN (fun w => wBtw ws (v : Int) (w : Int) * (P v - P w)) N) N = 0 := by
  have e : sumN (fun v => sumN (fun w => wBtw ws (v : Int) (w : Int) * (P v - P w)) N) N = sumN (fun v => sumN (fun w => wBtw ws (v : Int) (w : Int) * P v) N) N - sumN (fun v => sumN (fun w => wBtw ws (v : Int) (w : Int) * P w) N) N := by
    rw [← sumN_sub]
    refine sumN_ext N fun v _ => ?_
    rw [← sumN_sub]
    exact sumN_ext N fun w _ => Int.mul_sub _ _ _
  have e2 : sumN (fun v => sumN (fun w => wBtw ws (v : Int) (w : Int) * P w) N) N = sumN (fun v => sumN (fun w => wBtw ws (v : Int) (w : Int) * P v) N) N := by
    rw [sumN_swap]
    exact sumN_ext N fun w _ => sumN_ext N fun v _ => by rw [wBtw_comm]
  rw [e, e2]; omega
theorem cramer {N : Nat} (h2 : 2 ≤ N) (h5 : N ≤ 5) (m : MatI) (a b v : Nat) (ha : a < N) (hb : b < N) (hv : v < N) (hab : a ≠ b) (hvb : v ≠ b) : sumN (fun w => at2 m v w * potI m N a b w) N = if v = a then minI m N b else 0 := by
  have hN : N = 2 ∨ N = 3 ∨ N = 4 ∨ N = 5 := by omega
  rcases hN with rfl | rfl | rfl | rfl
  · exact cramer2 m a b v ha hb hv hab hvb
  · exact cramer3 m a b v ha hb hv hab hvb
  · exact cramer4 m a b v ha hb hv hab hvb
  · exact cramer5 m a b v ha hb hv hab hvb
/-- Kirchhoff's law at every node, for the potentials by minors. -/
theorem kirchhoff {N : Nat} {ws : List W3} (h : WiresV N ws) (h2 : 2 ≤ N) (hN : N ≤ 5) (a b v : Nat) (ha : a < N) (hb : b < N) (hv : v < N) (hab : a ≠ b) :
    sumN (fun w => wBtw ws (v : Int) (w : Int) * (potI (lapM N ws) N a b v - potI (lapM N ws) N a b w)) N = if v = a then minI (lapM N ws) N b else if v = b then -minI (lapM N ws) N b else 0 := by
  have hX : ∀ u, u < N → u ≠ b → sumN (fun w => wBtw ws (u : Int) (w : Int) * (potI (lapM N ws) N a b u - potI (lapM N ws) N a b w)) N = if u = a then minI (lapM N ws) N b else 0 := fun u hu hub => by
    rw [← lap_row h hN (potI (lapM N ws) N a b) u hu]
    exact cramer h2 hN _ a b u ha hb hu hab hub
  by_cases hvb : v = b
  · subst hvb
    rw [if_neg (Ne.symm hab), if_pos rfl]
    have hz := flow_zero ws N (potI (lapM N ws) N a v)
    rw [sumN_two a v hab N ha hb (fun k hk hka hkv => by rw [hX k hk hkv, if_neg hka])] at hz
    rw [hX a ha hab, if_pos rfl] at hz
    omega
  · rw [hX v hv hvb]
    by_cases hva : v = a
    · rw [if_pos hva, if_pos hva]
    · rw [if_neg hva, if_neg hva, if_neg hvb]

set_option maxHeartbeats 8000000 in
theorem min_same2 {ws : List W3} (h0 : WiresV (2 : Nat) ws) (b : Nat) (hb : b < 2) : minI (lapM 2 ws) 2 b = minI (lapM 2 ws) 2 0 := by
  have d0 : at2 (lapM 2 ws) 0 0 = wBtw ws 0 1 := by
    have h := at2_lap (N := 2) ws (i := 0) (j := 0) (by omega) (by omega)
    rw [lapE, if_pos rfl, wAt_sum h0 (by omega) 0 (by omega)] at h
    have h' : at2 (lapM 2 ws) 0 0 = _ := h
    rw [h']
    simp [sumN, wBtw_self]
  have d1 : at2 (lapM 2 ws) 1 1 = wBtw ws 0 1 := by
    have h := at2_lap (N := 2) ws (i := 1) (j := 1) (by omega) (by omega)
    rw [lapE, if_pos rfl, wAt_sum h0 (by omega) 1 (by omega)] at h
    have h' : at2 (lapM 2 ws) 1 1 = _ := h
    rw [h']
    simp [sumN, wBtw_self, wBtw_comm ws 1 0]
  have hb' : b = 0 ∨ b = 1 := by omega
  clear hb h0
  rcases hb' with rfl | rfl <;> simp [minI, w2_0, w2_1, det1, d0, d1] <;> grind
set_option maxHeartbeats 8000000 in
theorem min_same3 {ws : List W3} (h0 : WiresV (3 : Nat) ws) (b : Nat) (hb : b < 3) : minI (lapM 3 ws) 3 b = minI (lapM 3 ws) 3 0 := by
  have e01 : at2 (lapM 3 ws) 0 1 = -wBtw ws 0 1 := by have h := at2_lap (N := 3) ws (i := 0) (j := 1) (by omega) (by omega); rw [lapE, if_neg (by omega)] at h; exact h
  have e02 : at2 (lapM 3 ws) 0 2 = -wBtw ws 0 2 := by have h := at2_lap (N := 3) ws (i := 0) (j := 2) (by omega) (by omega); rw [lapE, if_neg (by omega)] at h; exact h
  have e10 : at2 (lapM 3 ws) 1 0 = -wBtw ws 0 1 := by have h := at2_lap (N := 3) ws (i := 1) (j := 0) (by omega) (by omega); rw [lapE, if_neg (by omega), wBtw_comm] at h; exact h
  have e12 : at2 (lapM 3 ws) 1 2 = -wBtw ws 1 2 := by have h := at2_lap (N := 3) ws (i := 1) (j := 2) (by omega) (by omega); rw [lapE, if_neg (by omega)] at h; exact h
  have e20 : at2 (lapM 3 ws) 2 0 = -wBtw ws 0 2 := by have h := at2_lap (N := 3) ws (i := 2) (j := 0) (by omega) (by omega); rw [lapE, if_neg (by omega), wBtw_comm] at h; exact h
  have e21 : at2 (lapM 3 ws) 2 1 = -wBtw ws 1 2 := by have h := at2_lap (N := 3) ws (i := 2) (j := 1) (by omega) (by omega); rw [lapE, if_neg (by omega), wBtw_comm] at h; exact h
  have d0 : at2 (lapM 3 ws) 0 0 = wBtw ws 0 1 + wBtw ws 0 2 := by
    have h := at2_lap (N := 3) ws (i := 0) (j := 0) (by omega) (by omega)
    rw [lapE, if_pos rfl, wAt_sum h0 (by omega) 0 (by omega)] at h
    have h' : at2 (lapM 3 ws) 0 0 = _ := h
    rw [h']
    simp [sumN, wBtw_self]
  have d1 : at2 (lapM 3 ws) 1 1 = wBtw ws 0 1 + wBtw ws 1 2 := by
    have h := at2_lap (N := 3) ws (i := 1) (j := 1) (by omega) (by omega)
    rw [lapE, if_pos rfl, wAt_sum h0 (by omega) 1 (by omega)] at h
    have h' : at2 (lapM 3 ws) 1 1 = _ := h
    rw [h']
    simp [sumN, wBtw_self, wBtw_comm ws 1 0]
  have d2 : at2 (lapM 3 ws) 2 2 = wBtw ws 0 2 + wBtw ws 1 2 := by
    have h := at2_lap (N := 3) ws (i := 2) (j := 2) (by omega) (by omega)
    rw [lapE, if_pos rfl, wAt_sum h0 (by omega) 2 (by omega)] at h
    have h' : at2 (lapM 3 ws) 2 2 = _ := h
    rw [h']
    simp [sumN, wBtw_self, wBtw_comm ws 2 0, wBtw_comm ws 2 1]
  have hb' : b = 0 ∨ b = 1 ∨ b = 2 := by omega
  clear hb h0
  rcases hb' with rfl | rfl | rfl <;> simp [minI, w3_0, w3_1, w3_2, det2, e01, e02, e10, e12, e20, e21, d0, d1, d2] <;> grind
set_option maxHeartbeats 8000000 in
theorem min_same4 {ws : List W3} (h0 : WiresV (4 : Nat) ws) (b : Nat) (hb : b < 4) : minI (lapM 4 ws) 4 b = minI (lapM 4 ws) 4 0 := by
  have e01 : at2 (lapM 4 ws) 0 1 = -wBtw ws 0 1 := by have h := at2_lap (N := 4) ws (i := 0) (j := 1) (by omega) (by omega); rw [lapE, if_neg (by omega)] at h; exact h
  have e02 : at2 (lapM 4 ws) 0 2 = -wBtw ws 0 2 := by have h := at2_lap (N := 4) ws (i := 0) (j := 2) (by omega) (by omega); rw [lapE, if_neg (by omega)] at h; exact h
  have e03 : at2 (lapM 4 ws) 0 3 = -wBtw ws 0 3 := by have h := at2_lap (N := 4) ws (i := 0) (j := 3) (by omega) (by omega); rw [lapE, if_neg (by omega)] at h; exact h
  have e10 : at2 (lapM 4 ws) 1 0 = -wBtw ws 0 1 := by have h := at2_lap (N := 4) ws (i := 1) (j := 0) (by omega) (by omega); rw [lapE, if_neg (by omega), wBtw_comm] at h; exact h
  have e12 : at2 (lapM 4 ws) 1 2 = -wBtw ws 1 2 := by have h := at2_lap (N := 4) ws (i := 1) (j := 2) (by omega) (by omega); rw [lapE, if_neg (by omega)] at h; exact h
  have e13 : at2 (lapM 4 ws) 1 3 = -wBtw ws 1 3 := by have h := at2_lap (N := 4) ws (i := 1) (j := 3) (by omega) (by omega); rw [lapE, if_neg (by omega)] at h; exact h
  have e20 : at2 (lapM 4 ws) 2 0 = -wBtw ws 0 2 := by have h := at2_lap (N := 4) ws (i := 2) (j := 0) (by omega) (by omega); rw [lapE, if_neg (by omega), wBtw_comm] at h; exact h
  have e21 : at2 (lapM 4 ws) 2 1 = -wBtw ws 1 2 := by have h := at2_lap (N := 4) ws (i := 2) (j := 1) (by omega) (by omega); rw [lapE, if_neg (by omega), wBtw_comm] at h; exact h
  have e23 : at2 (lapM 4 ws) 2 3 = -wBtw ws 2 3 := by have h := at2_lap (N := 4) ws (i := 2) (j := 3) (by omega) (by omega); rw [lapE, if_neg (by omega)] at h; exact h
  have e30 : at2 (lapM 4 ws) 3 0 = -wBtw ws 0 3 := by have h := at2_lap (N := 4) ws (i := 3) (j := 0) (by omega) (by omega); rw [lapE, if_neg (by omega), wBtw_comm] at h; exact h
  have e31 : at2 (lapM 4 ws) 3 1 = -wBtw ws 1 3 := by have h := at2_lap (N := 4) ws (i := 3) (j := 1) (by omega) (by omega); rw [lapE, if_neg (by omega), wBtw_comm] at h; exact h
  have e32 : at2 (lapM 4 ws) 3 2 = -wBtw ws 2 3 := by have h := at2_lap (N := 4) ws (i := 3) (j := 2) (by omega) (by omega); rw [lapE, if_neg (by omega), wBtw_comm] at h; exact h
  have d0 : at2 (lapM 4 ws) 0 0 = wBtw ws 0 1 + wBtw ws 0 2 + wBtw ws 0 3 := by
    have h := at2_lap (N := 4) ws (i := 0) (j := 0) (by omega) (by omega)
    rw [lapE, if_pos rfl, wAt_sum h0 (by omega) 0 (by omega)] at h
    have h' : at2 (lapM 4 ws) 0 0 = _ := h
    rw [h']
    simp [sumN, wBtw_self]
  have d1 : at2 (lapM 4 ws) 1 1 = wBtw ws 0 1 + wBtw ws 1 2 + wBtw ws 1 3 := by
    have h := at2_lap (N := 4) ws (i := 1) (j := 1) (by omega) (by omega)
    rw [lapE, if_pos rfl, wAt_sum h0 (by omega) 1 (by omega)] at h
    have h' : at2 (lapM 4 ws) 1 1 = _ := h
    rw [h']
    simp [sumN, wBtw_self, wBtw_comm ws 1 0]
  have d2 : at2 (lapM 4 ws) 2 2 = wBtw ws 0 2 + wBtw ws 1 2 + wBtw ws 2 3 := by
    have h := at2_lap (N := 4) ws (i := 2) (j := 2) (by omega) (by omega)
    rw [lapE, if_pos rfl, wAt_sum h0 (by omega) 2 (by omega)] at h
    have h' : at2 (lapM 4 ws) 2 2 = _ := h
    rw [h']
    simp [sumN, wBtw_self, wBtw_comm ws 2 0, wBtw_comm ws 2 1]
  have d3 : at2 (lapM 4 ws) 3 3 = wBtw ws 0 3 + wBtw ws 1 3 + wBtw ws 2 3 := by
    have h := at2_lap (N := 4) ws (i := 3) (j := 3) (by omega) (by omega)
    rw [lapE, if_pos rfl, wAt_sum h0 (by omega) 3 (by omega)] at h
    have h' : at2 (lapM 4 ws) 3 3 = _ := h
    rw [h']
    simp [sumN, wBtw_self, wBtw_comm ws 3 0, wBtw_comm ws 3 1, wBtw_comm ws 3 2]
  have hb' : b = 0 ∨ b = 1 ∨ b = 2 ∨ b = 3 := by omega
  clear hb h0
  rcases hb' with rfl | rfl | rfl | rfl <;> simp [minI, w4_0, w4_1, w4_2, w4_3, det3, e01, e02, e03, e10, e12, e13, e20, e21, e23, e30, e31, e32, d0, d1, d2, d3] <;> grind
set_option maxHeartbeats 8000000 in
theorem min_same5 {ws : List W3} (h0 : WiresV (5 : Nat) ws) (b : Nat) (hb : b < 5) : minI (lapM 5 ws) 5 b = minI (lapM 5 ws) 5 0 := by
  have e01 : at2 (lapM 5 ws) 0 1 = -wBtw ws 0 1 := by have h := at2_lap (N := 5) ws (i := 0) (j := 1) (by omega) (by omega); rw [lapE, if_neg (by omega)] at h; exact h
  have e02 : at2 (lapM 5 ws) 0 2 = -wBtw ws 0 2 := by have h := at2_lap (N := 5) ws (i := 0) (j := 2) (by omega) (by omega); rw [lapE, if_neg (by omega)] at h; exact h
  have e03 : at2 (lapM 5 ws) 0 3 = -wBtw ws 0 3 := by have h := at2_lap (N := 5) ws (i := 0) (j := 3) (by omega) (by omega); rw [lapE, if_neg (by omega)] at h; exact h
  have e04 : at2 (lapM 5 ws) 0 4 = -wBtw ws 0 4 := by have h := at2_lap (N := 5) ws (i := 0) (j := 4) (by omega) (by omega); rw [lapE, if_neg (by omega)] at h; exact h
  have e10 : at2 (lapM 5 ws) 1 0 = -wBtw ws 0 1 := by have h := at2_lap (N := 5) ws (i := 1) (j := 0) (by omega) (by omega); rw [lapE, if_neg (by omega), wBtw_comm] at h; exact h
  have e12 : at2 (lapM 5 ws) 1 2 = -wBtw ws 1 2 := by have h := at2_lap (N := 5) ws (i := 1) (j := 2) (by omega) (by omega); rw [lapE, if_neg (by omega)] at h; exact h
  have e13 : at2 (lapM 5 ws) 1 3 = -wBtw ws 1 3 := by have h := at2_lap (N := 5) ws (i := 1) (j := 3) (by omega) (by omega); rw [lapE, if_neg (by omega)] at h; exact h
  have e14 : at2 (lapM 5 ws) 1 4 = -wBtw ws 1 4 := by have h := at2_lap (N := 5) ws (i := 1) (j := 4) (by omega) (by omega); rw [lapE, if_neg (by omega)] at h; exact h
  have e20 : at2 (lapM 5 ws) 2 0 = -wBtw ws 0 2 := by have h := at2_lap (N := 5) ws (i := 2) (j := 0) (by omega) (by omega); rw [lapE, if_neg (by omega), wBtw_comm] at h; exact h
  have e21 : at2 (lapM 5 ws) 2 1 = -wBtw ws 1 2 := by have h := at2_lap (N := 5) ws (i := 2) (j := 1) (by omega) (by omega); rw [lapE, if_neg (by omega), wBtw_comm] at h; exact h
  have e23 : at2 (lapM 5 ws) 2 3 = -wBtw ws 2 3 := by have h := at2_lap (N := 5) ws (i := 2) (j := 3) (by omega) (by omega); rw [lapE, if_neg (by omega)] at h; exact h
  have e24 : at2 (lapM 5 ws) 2 4 = -wBtw ws 2 4 := by have h := at2_lap (N := 5) ws (i := 2) (j := 4) (by omega) (by omega); rw [lapE, if_neg (by omega)] at h; exact h
  have e30 : at2 (lapM 5 ws) 3 0 = -wBtw ws 0 3 := by have h := at2_lap (N := 5) ws (i := 3) (j := 0) (by omega) (by omega); rw [lapE, if_neg (by omega), wBtw_comm] at h; exact h
  have e31 : at2 (lapM 5 ws) 3 1 = -wBtw ws 1 3 := by have h := at2_lap (N := 5) ws (i := 3) (j := 1) (by omega) (by omega); rw [lapE, if_neg (by omega), wBtw_comm] at h; exact h
  have e32 : at2 (lapM 5 ws) 3 2 = -wBtw ws 2 3 := by have h := at2_lap (N := 5) ws (i := 3) (j := 2) (by omega) (by omega); rw [lapE, if_neg (by omega), wBtw_comm] at h; exact h
  have e34 : at2 (lapM 5 ws) 3 4 = -wBtw ws 3 4 := by have h := at2_lap (N := 5) ws (i := 3) (j := 4) (by omega) (by omega); rw [lapE, if_neg (by omega)] at h; exact h
  have e40 : at2 (lapM 5 ws) 4 0 = -wBtw ws 0 4 := by have h := at2_lap (N := 5) ws (i := 4) (j := 0) (by omega) (by omega); rw [lapE, if_neg (by omega), wBtw_comm] at h; exact h
  have e41 : at2 (lapM 5 ws) 4 1 = -wBtw ws 1 4 := by have h := at2_lap (N := 5) ws (i := 4) (j := 1) (by omega) (by omega); rw [lapE, if_neg (by omega), wBtw_comm] at h; exact h
  have e42 : at2 (lapM 5 ws) 4 2 = -wBtw ws 2 4 := by have h := at2_lap (N := 5) ws (i := 4) (j := 2) (by omega) (by omega); rw [lapE, if_neg (by omega), wBtw_comm] at h; exact h
  have e43 : at2 (lapM 5 ws) 4 3 = -wBtw ws 3 4 := by have h := at2_lap (N := 5) ws (i := 4) (j := 3) (by omega) (by omega); rw [lapE, if_neg (by omega), wBtw_comm] at h; exact h
  have d0 : at2 (lapM 5 ws) 0 0 = wBtw ws 0 1 + wBtw ws 0 2 + wBtw ws 0 3 + wBtw ws 0 4 := by
    have h := at2_lap (N := 5) ws (i := 0) (j := 0) (by omega) (by omega)
    rw [lapE, if_pos rfl, wAt_sum h0 (by omega) 0 (by omega)] at h
    have h' : at2 (lapM 5 ws) 0 0 = _ := h
    rw [h']
    simp [sumN, wBtw_self]
  have d1 : at2 (lapM 5 ws) 1 1 = wBtw ws 0 1 + wBtw ws 1 2 + wBtw ws 1 3 + wBtw ws 1 4 := by
    have h := at2_lap (N := 5) ws (i := 1) (j := 1) (by omega) (by omega)
    rw [lapE, if_pos rfl, wAt_sum h0 (by omega) 1 (by omega)] at h
    have h' : at2 (lapM 5 ws) 1 1 = _ := h
    rw [h']
    simp [sumN, wBtw_self, wBtw_comm ws 1 0]
  have d2 : at2 (lapM 5 ws) 2 2 = wBtw ws 0 2 + wBtw ws 1 2 + wBtw ws 2 3 + wBtw ws 2 4 := by
    have h := at2_lap (N := 5) ws (i := 2) (j := 2) (by omega) (by omega)
    rw [lapE, if_pos rfl, wAt_sum h0 (by omega) 2 (by omega)] at h
    have h' : at2 (lapM 5 ws) 2 2 = _ := h
    rw [h']
    simp [sumN, wBtw_self, wBtw_comm ws 2 0, wBtw_comm ws 2 1]
  have d3 : at2 (lapM 5 ws) 3 3 = wBtw ws 0 3 + wBtw ws 1 3 + wBtw ws 2 3 + wBtw ws 3 4 := by
    have h := at2_lap (N := 5) ws (i := 3) (j := 3) (by omega) (by omega)
    rw [lapE, if_pos rfl, wAt_sum h0 (by omega) 3 (by omega)] at h
    have h' : at2 (lapM 5 ws) 3 3 = _ := h
    rw [h']
    simp [sumN, wBtw_self, wBtw_comm ws 3 0, wBtw_comm ws 3 1, wBtw_comm ws 3 2]
  have d4 : at2 (lapM 5 ws) 4 4 = wBtw ws 0 4 + wBtw ws 1 4 + wBtw ws 2 4 + wBtw ws 3 4 := by
    have h := at2_lap (N := 5) ws (i := 4) (j := 4) (by omega) (by omega)
    rw [lapE, if_pos rfl, wAt_sum h0 (by omega) 4 (by omega)] at h
    have h' : at2 (lapM 5 ws) 4 4 = _ := h
    rw [h']
    simp [sumN, wBtw_self, wBtw_comm ws 4 0, wBtw_comm ws 4 1, wBtw_comm ws 4 2, wBtw_comm ws 4 3]
  have hb' : b = 0 ∨ b = 1 ∨ b = 2 ∨ b = 3 ∨ b = 4 := by omega
  clear hb h0
  rcases hb' with rfl | rfl | rfl | rfl | rfl <;> simp [minI, w5_0, w5_1, w5_2, w5_3, w5_4, det4, det3, e01, e02, e03, e04, e10, e12, e13, e14, e20, e21, e23, e24, e30, e31, e32, e34, e40, e41, e42, e43, d0, d1, d2, d3, d4] <;> grind
theorem min_same {N : Nat} {ws : List W3} (h : WiresV N ws) (h2 : 2 ≤ N) (hN : N ≤ 5) (b : Nat) (hb : b < N) : minI (lapM N ws) N b = minI (lapM N ws) N 0 := by
  have h' : N = 2 ∨ N = 3 ∨ N = 4 ∨ N = 5 := by omega
  rcases h' with rfl | rfl | rfl | rfl
  · exact min_same2 h b hb
  · exact min_same3 h b hb
  · exact min_same4 h b hb
  · exact min_same5 h b hb
/-- The minor without node 0 is what TreeSum answers. -/
theorem minI_tree {N : Nat} {e s : Int} {ws : List W3} (h : netB N e s ws = true) : treeR N e s ws = minI (lapM N ws) N 0 := by
  unfold treeR minI; rw [if_pos h, Int.toNat_natCast]; rfl
end Go.Proofs.Ytaececpphdaciaa
