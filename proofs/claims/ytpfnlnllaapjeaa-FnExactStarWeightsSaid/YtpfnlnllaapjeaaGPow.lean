/-
  The power that potentials dissipate, as it is reckoned; whether all fractions of a list are valid.
  The power of one branch in the program.
  branchesOf in the program: a branch for each wire, linked to the potentials of its ends.
  PowerOf in the program: the sum of the branches' powers.
  PowerOf in the program: at every network and every list of fractions.
-/
import Derived.Test.YtpfnlnllaapjeaaRats
import Derived.Test.YtpfnlnllaapjeaaRatCalls
import Derived.Test.YtpfnlnllaapjeaaResist
import Derived.Test.YtpfnlnllaapjeaaGLists
import Derived.Test.YtpfnlnllaapjeaaGKeep
import Derived.Test.YtpfnlnllaapjeaaKept
import Derived.Deep.RegionHeld3
import Derived.Deep.DeepCutAuto
import Derived.Test.YtpfnlnllaapjeaaGPots
namespace Go.Proofs.Ytpfnlnllaapjeaa
open Go.RowKit

def getP (q : List P2) (k : Int) : P2 := q.getD k.toNat (0, 0)
def dropE (q : List P2) (e : W3) : P2 := rDiff (getP q e.1).1 (getP q e.1).2 (getP q e.2.1).1 (getP q e.2.1).2
def sqE (q : List P2) (e : W3) : P2 := rTimes (dropE q e).1 (dropE q e).2 (dropE q e).1 (dropE q e).2
def pwE (s : Int) (q : List P2) (e : W3) : P2 := rTimes (sqE q e).1 (sqE q e).2 (rOfN e.2.2 s) (rOfD e.2.2 s)
def powK (s : Int) (q : List P2) (ws : List W3) (k : Nat) : P2 := (ws.take k).foldl (fun S e => rSum S.1 S.2 (pwE s q e).1 (pwE s q e).2) (0, 1)
theorem powK_zero (s : Int) (q : List P2) (ws : List W3) : powK s q ws 0 = (0, 1) := by simp [powK]
theorem powK_succ (s : Int) (q : List P2) (ws : List W3) (k : Nat) (h : k < ws.length) : powK s q ws (k + 1) = rSum (powK s q ws k).1 (powK s q ws k).2 (pwE s q ws[k]).1 (pwE s q ws[k]).2 := by
  unfold powK
  rw [List.take_succ_eq_append_getElem h, List.foldl_append]
  rfl
theorem rOf_ok_or (n d : Int) : rOk (rOfN n d) (rOfD n d) = true ∨ (rOfN n d = 0 ∧ rOfD n d = 0) := by
  unfold rOfN rOfD
  cases hb : rOfB n d
  · right; simp
  · left
    have hk : rOk (rNum n d) (rDen n d) = true := by
      unfold rOfB at hb; simp only [Bool.and_eq_true] at hb; exact hb.2
    simpa using hk
theorem sum_ok_or (n d m e : Int) : rOk (rSum n d m e).1 (rSum n d m e).2 = true ∨ rSum n d m e = (0, 0) := by
  unfold rSum
  split
  · rcases rOf_ok_or (n * e + m * d) (d * e) with h | ⟨h1, h2⟩
    · exact .inl h
    · exact .inr (by rw [h1, h2])
  · exact .inr rfl
theorem powK_ok_or (s : Int) (q : List P2) (ws : List W3) : ∀ k, k ≤ ws.length → rOk (powK s q ws k).1 (powK s q ws k).2 = true ∨ powK s q ws k = (0, 0)
  | 0, _ => .inl (by rw [powK_zero]; decide)
  | k + 1, h => by rw [powK_succ s q ws k (by omega)]; exact sum_ok_or _ _ _ _
theorem powK_bad {s : Int} {q : List P2} {ws : List W3} {k : Nat} (hb : rOk (powK s q ws k).1 (powK s q ws k).2 = false) : ∀ m, k ≤ m → m ≤ ws.length → powK s q ws m = (0, 0)
  | 0, h, _ => by
    have : k = 0 := by omega
    subst this
    rw [powK_zero] at hb; exact absurd hb (by decide)
  | m + 1, h, hm => by
    by_cases hk : k = m + 1
    · subst hk
      rcases powK_ok_or s q ws (m + 1) hm with h | h
      · rw [h] at hb; cases hb
      · exact h
    · have ih := powK_bad hb m (by omega) (by omega)
      rw [powK_succ s q ws m (by omega), ih]
      unfold rSum fit4
      rw [show rOk ((0, 0) : P2).1 ((0, 0) : P2).2 = false by decide]
      simp
def allOkP (q : List P2) : Bool := q.all fun x => rOk x.1 x.2
noncomputable def powR (n e s : Int) (ws : List W3) (q : List P2) : Int × Int × Bool := if netB n e s ws = true ∧ (q.length : Int) = n ∧ allOkP q = true then ((powK s q ws ws.length).1, (powK s q ws ws.length).2, rOk (powK s q ws ws.length).1 (powK s q ws ws.length).2) else (0, 0, false)
theorem getP_at (q : List P2) (k : Nat) (h : k < q.length) : getP q k = q[k] := by simp [getP, h]
theorem allOk_get {q : List P2} (h : allOkP q = true) (k : Nat) (hk : k < q.length) : rOk q[k].1 q[k].2 = true := List.all_eq_true.1 h _ (List.getElem_mem hk)
theorem allOk_bad {q : List P2} (h : allOkP q = false) : ∃ k, ∃ hk : k < q.length, rOk q[k].1 q[k].2 = false ∧ ∀ j, (hj : j < k) → rOk (q[j]'(by omega)).1 (q[j]'(by omega)).2 = true := by
  have hx : ∃ x ∈ q, rOk x.1 x.2 = false := by
    unfold allOkP at h
    rw [List.all_eq_false] at h
    obtain ⟨x, hx, hb⟩ := h
    exact ⟨x, hx, by simpa using hb⟩
  obtain ⟨x, hx, hb⟩ := hx
  obtain ⟨k1, hk1, hek⟩ := List.getElem_of_mem hx
  obtain ⟨k0, ⟨h0, he⟩, hmin⟩ := least (fun k => ∃ h : k < q.length, rOk q[k].1 q[k].2 = false) k1 ⟨hk1, by rw [hek]; exact hb⟩
  exact ⟨k0, h0, he, fun j hj => by
    cases hc : rOk (q[j]'(by omega)).1 (q[j]'(by omega)).2
    · exact absurd ⟨by omega, hc⟩ (hmin j hj)
    · rfl⟩
def WfP (q : List P2) : Prop := ∀ k (h : k < q.length), In q[k].1 ∧ In q[k].2
set_option maxHeartbeats 3200000 in
theorem impl_allOk (v : Value) (q : List P2) (w : World) (h : ReadsP w v q) (hw : WfP q) :
    Calls Try.prog 100 #[v] w fun en w' => en = .returned (.bool (allOkP q)) ∧ Below w.heap.size w w' := by
  obtain ⟨p, cap, rfl⟩ := h.shape
  have hm := h.1
  by_cases h0 : q.length = 0
  · have HF : Hid (allOkP q = true) := Lib.hid (by unfold allOkP; rw [List.eq_nil_of_length_eq_zero h0]; rfl)
    rw [h0]
    clear h hm hw h0
    go_enter Try.func100, Try.ntmps100
    go_wp2
    refine wp_loop_rounds 1 ?_
    rw [rounds_succ]
    go_wp2
    go_ret
    exact ⟨ret_b HF.out.symm, Below.refl _ _⟩
  obtain ⟨g, o, c, hv, hg, hc⟩ := h.pos (by omega)
  simp only [Value.slice.injEq] at hv
  obtain ⟨rfl, -, rfl⟩ := hv
  have HC := Lib.hid hc
  have HW := Lib.hid hw
  clear h hw h0 hc
  cases ha : allOkP q
  · obtain ⟨k0, hk0, hbad, hok⟩ := allOk_bad ha
    have HB := Lib.hid hbad
    have HO := Lib.hid hok
    clear ha hbad hok
    go_enter Try.func100, Try.ntmps100
    go_wp2
    go_loopw [7] (fun i wr => ∃ k : Nat, k ≤ k0 ∧ i = .int .i64 k ∧ Hid (Below w.heap.size w wr)) (fun i _ => q.length - (intOf i).toNat)
    case atStart => exact ⟨0, Nat.zero_le _, rfl, Lib.hid (Below.refl _ _)⟩
    case round =>
      obtain ⟨k, hk, rfl, hB⟩ := hrel
      have hlt : k < q.length := by omega
      obtain ⟨c0, c1⟩ := HC.out k hlt
      obtain ⟨i1, i2⟩ := HW.out k hlt
      have hsz := hB.out.size
      rw [← hB.out.cell (p := ⟨g, o + k * 2, none⟩) hg] at c0
      rw [← hB.out.cell (p := ⟨g, o + k * 2 + 1, none⟩) hg] at c1
      have hcall := fun W => impl_rOk q[k].1 q[k].2 W i1.1 i1.2 i2.1 i2.2
      by_cases hkk : k < k0
      · rw [HO.out k hkk] at hcall
        go_wp2_with fail
        refine (hcall _).mono ?_
        rintro en w2 ⟨rfl, B2⟩
        have HB2 : Hid (Below w.heap.size w w2) := Lib.hid (by have h := hB.out; (repeat (first | exact Below.refl _ _ | (refine Below.setCell ?_ (by (first | exact Nat.le_refl _ | omega | (simp <;> omega) | simp)) _) | (refine Below.alloc ?_ (by (first | exact Nat.le_refl _ | omega | (simp <;> omega) | simp)) _) | (refine below_draws ?_ _) | exact h | (refine Below.trans ?_ (Below.mono h (by (first | exact Nat.le_refl _ | omega | (simp <;> omega) | simp)))) | exact B2 | (refine Below.trans ?_ (Below.mono B2 (by (first | exact Nat.le_refl _ | omega | (simp <;> omega) | simp)))))))
        clear hcall B2 c0 c1
        go_wp2
        go_roundw
        case rel => exact ⟨k + 1, by omega, by go_num, HB2⟩
        case measure => simp [intOf] <;> omega
      · obtain rfl : k = k0 := by omega
        rw [HB.out] at hcall
        go_wp2_with fail
        refine (hcall _).mono ?_
        rintro en w2 ⟨rfl, B2⟩
        have HB2 : Hid (Below w.heap.size w w2) := Lib.hid (by have h := hB.out; (repeat (first | exact Below.refl _ _ | (refine Below.setCell ?_ (by (first | exact Nat.le_refl _ | omega | (simp <;> omega) | simp)) _) | (refine Below.alloc ?_ (by (first | exact Nat.le_refl _ | omega | (simp <;> omega) | simp)) _) | (refine below_draws ?_ _) | exact h | (refine Below.trans ?_ (Below.mono h (by (first | exact Nat.le_refl _ | omega | (simp <;> omega) | simp)))) | exact B2 | (refine Below.trans ?_ (Below.mono B2 (by (first | exact Nat.le_refl _ | omega | (simp <;> omega) | simp)))))))
        clear hcall B2 c0 c1
        go_wp2
        go_ret
        exact ⟨rfl, HB2.out⟩
  · have HA := Lib.hid ha; clear ha
    go_enter Try.func100, Try.ntmps100
    go_wp2
    go_loopw [7] (fun i wr => ∃ k : Nat, k ≤ q.length ∧ i = .int .i64 k ∧ Hid (Below w.heap.size w wr)) (fun i _ => q.length - (intOf i).toNat)
    case atStart => exact ⟨0, Nat.zero_le _, rfl, Lib.hid (Below.refl _ _)⟩
    case round =>
      obtain ⟨k, hk, rfl, hB⟩ := hrel
      by_cases hlt : k < q.length
      · obtain ⟨c0, c1⟩ := HC.out k hlt
        obtain ⟨i1, i2⟩ := HW.out k hlt
        have hsz := hB.out.size
        rw [← hB.out.cell (p := ⟨g, o + k * 2, none⟩) hg] at c0
        rw [← hB.out.cell (p := ⟨g, o + k * 2 + 1, none⟩) hg] at c1
        have hcall := fun W => impl_rOk q[k].1 q[k].2 W i1.1 i1.2 i2.1 i2.2
        rw [allOk_get HA.out k hlt] at hcall
        go_wp2_with fail
        refine (hcall _).mono ?_
        rintro en w2 ⟨rfl, B2⟩
        have HB2 : Hid (Below w.heap.size w w2) := Lib.hid (by have h := hB.out; (repeat (first | exact Below.refl _ _ | (refine Below.setCell ?_ (by (first | exact Nat.le_refl _ | omega | (simp <;> omega) | simp)) _) | (refine Below.alloc ?_ (by (first | exact Nat.le_refl _ | omega | (simp <;> omega) | simp)) _) | (refine below_draws ?_ _) | exact h | (refine Below.trans ?_ (Below.mono h (by (first | exact Nat.le_refl _ | omega | (simp <;> omega) | simp)))) | exact B2 | (refine Below.trans ?_ (Below.mono B2 (by (first | exact Nat.le_refl _ | omega | (simp <;> omega) | simp)))))))
        clear hcall B2 c0 c1
        go_wp2
        go_roundw
        case rel => exact ⟨k + 1, by omega, by go_num, HB2⟩
        case measure => simp [intOf] <;> omega
      · obtain rfl : k = q.length := by omega
        go_wp2
        go_ret
        exact ⟨rfl, hB.out⟩
end Go.Proofs.Ytpfnlnllaapjeaa

namespace Go.Proofs.Ytpfnlnllaapjeaa
open Go.RowKit

theorem diff_in (n d m e : Int) : In (rDiff n d m e).1 ∧ In (rDiff n d m e).2 := by
  unfold rDiff
  split
  · exact rOf_in _ _
  · simp [In]
end Go.Proofs.Ytpfnlnllaapjeaa

namespace Go.Proofs.Ytpfnlnllaapjeaa
open Go.RowKit

def cells4 (gp op : Nat) (s : Int) (e : W3) : List Value := [.pointer (some ⟨gp, op + e.1.toNat * 2, none⟩), .pointer (some ⟨gp, op + e.2.1.toNat * 2, none⟩), .int .i64 (rOfN e.2.2 s), .int .i64 (rOfD e.2.2 s)]
def cellsR (gp op : Nat) (s : Int) (ws : List W3) : List Value := ws.flatMap (cells4 gp op s)
theorem cellsR_snoc (gp op : Nat) (s : Int) (ws : List W3) (e : W3) : cellsR gp op s (ws ++ [e]) = cellsR gp op s ws ++ cells4 gp op s e := by simp [cellsR]
theorem cellsR_length (gp op : Nat) (s : Int) : ∀ ws : List W3, (cellsR gp op s ws).length = ws.length * 4
  | [] => rfl
  | e :: r => by have := cellsR_length gp op s r; simp [cellsR, cells4] at *; omega
theorem four_new (W : World) (x y z u : Value) (t : TypeId) : ∀ j w, [x, y, z, u][j]? = some w → (W.alloc (.cells #[x, y, z, u] t)).cell? ((⟨W.heap.size, 0, none⟩ : Addr).add j) = some w := by
  intro j w h
  rcases j with _ | _ | _ | _ | j
  · simp at h; subst h; simp [Addr.add, go_sem]
  · simp at h; subst h; simp [Addr.add, go_sem]
  · simp at h; subst h; simp [Addr.add, go_sem]
  · simp at h; subst h; simp [Addr.add, go_sem]
  · simp at h
theorem reads_atW {w : World} {p : Option Addr} {n c : Nat} {ws : List W3} (h : ReadsW w (.slice p n c) ws) : ∀ k, (hk : k < ws.length) → ∃ g o, p = some ⟨g, o, none⟩ ∧ g < w.heap.size ∧ w.cell? ⟨g, o + k * 3, none⟩ = some (.int .i64 ws[k].1) ∧ w.cell? ⟨g, o + k * 3 + 1, none⟩ = some (.int .i64 ws[k].2.1) ∧ w.cell? ⟨g, o + k * 3 + 2, none⟩ = some (.int .i64 ws[k].2.2) := by
  intro k hk
  rcases h.2 with ⟨hx, _⟩ | ⟨g, o, cap, hv, hc⟩
  · subst hx; simp at hk
  · simp only [Value.slice.injEq] at hv
    obtain ⟨rfl, -, -⟩ := hv
    exact ⟨g, o, rfl, World.block_lt_of_cell? w _ (hc k hk).1, hc k hk⟩
theorem k6_grown {B G : Nat} {w wa wb : World} {row : Option Nat} {a0 a1 a2 a3 a4 a5 : Addr} {v0 v1 v2 v3 v4 v5 : Value} (hg : wa.grownBy wb row) 
    (h : wa.cell? a0 = some v0 ∧ wa.cell? a1 = some v1 ∧ wa.cell? a2 = some v2 ∧ wa.cell? a3 = some v3 ∧ wa.cell? a4 = some v4 ∧ wa.cell? a5 = some v5 ∧ G ≤ wa.heap.size ∧ B ≤ G ∧ Below B w wa)
    (hn : some a0.block ≠ row ∧ some a1.block ≠ row ∧ some a2.block ≠ row ∧ some a3.block ≠ row ∧ some a4.block ≠ row ∧ some a5.block ≠ row) (hr : ∀ k, row = some k → B ≤ k) :
    wb.cell? a0 = some v0 ∧ wb.cell? a1 = some v1 ∧ wb.cell? a2 = some v2 ∧ wb.cell? a3 = some v3 ∧ wb.cell? a4 = some v4 ∧ wb.cell? a5 = some v5 ∧ G ≤ wb.heap.size ∧ B ≤ G ∧ Below B w wb := by
  obtain ⟨c0, c1, c2, c3, c4, c5, h1, h2, h3⟩ := h
  obtain ⟨n0, n1, n2, n3, n4, n5⟩ := hn
  exact ⟨hg.cell c0 n0, hg.cell c1 n1, hg.cell c2 n2, hg.cell c3 n3, hg.cell c4 n4, hg.cell c5 n5, Nat.le_trans h1 hg.size, h2, h3.grown hg (by omega) hr⟩
end Go.Proofs.Ytpfnlnllaapjeaa

namespace Go.Proofs.Ytpfnlnllaapjeaa
open Go.RowKit

theorem sum_in' (n d m e : Int) : In (rSum n d m e).1 ∧ In (rSum n d m e).2 := by
  unfold rSum
  split
  · exact rOf_in _ _
  · exact ⟨⟨by decide, by decide⟩, ⟨by decide, by decide⟩⟩
theorem times_in' (n d m e : Int) : In (rTimes n d m e).1 ∧ In (rTimes n d m e).2 := times_in (Prod.eta _).symm
theorem powK_in (s : Int) (q : List P2) (ws : List W3) : ∀ k, k ≤ ws.length → In (powK s q ws k).1 ∧ In (powK s q ws k).2
  | 0, _ => by rw [powK_zero]; exact ⟨⟨by decide, by decide⟩, ⟨by decide, by decide⟩⟩
  | k + 1, h => by rw [powK_succ s q ws k (by omega)]; exact sum_in' _ _ _ _
theorem cellsR_get (gp op : Nat) (s : Int) : ∀ (ws : List W3) (k : Nat) (h : k < ws.length), (cellsR gp op s ws)[k * 4]? = some (.pointer (some ⟨gp, op + ws[k].1.toNat * 2, none⟩)) ∧ (cellsR gp op s ws)[k * 4 + 1]? = some (.pointer (some ⟨gp, op + ws[k].2.1.toNat * 2, none⟩)) ∧ (cellsR gp op s ws)[k * 4 + 2]? = some (.int .i64 (rOfN ws[k].2.2 s)) ∧ (cellsR gp op s ws)[k * 4 + 3]? = some (.int .i64 (rOfD ws[k].2.2 s))
  | [], k, h => absurd h (by simp)
  | x :: r, 0, _ => by simp [cellsR, cells4]
  | x :: r, k + 1, h => by
    have ih := cellsR_get gp op s r k (by simpa using h)
    have e : cellsR gp op s (x :: r) = cells4 gp op s x ++ cellsR gp op s r := by simp [cellsR]
    have e4 : (cells4 gp op s x).length = 4 := rfl
    have a0 : (k + 1) * 4 - 4 = k * 4 := by omega
    have a1 : (k + 1) * 4 + 1 - 4 = k * 4 + 1 := by omega
    have a2 : (k + 1) * 4 + 2 - 4 = k * 4 + 2 := by omega
    have a3 : (k + 1) * 4 + 3 - 4 = k * 4 + 3 := by omega
    refine ⟨?_, ?_, ?_, ?_⟩
    · rw [e, List.getElem?_append_right (by omega), e4, a0]; exact ih.1
    · rw [e, List.getElem?_append_right (by omega), e4, a1]; exact ih.2.1
    · rw [e, List.getElem?_append_right (by omega), e4, a2]; exact ih.2.2.1
    · rw [e, List.getElem?_append_right (by omega), e4, a3]; exact ih.2.2.2
theorem sum_at {s : Int} {q : List P2} {ws : List W3} {k : Nat} (h : k < ws.length) (W : World) : Calls Try.prog 193 #[.agg #[.int .i64 (powK s q ws k).1, .int .i64 (powK s q ws k).2], .agg #[.int .i64 (pwE s q ws[k]).1, .int .i64 (pwE s q ws[k]).2]] W fun en w' => en = .returned (.agg #[.int .i64 (powK s q ws (k + 1)).1, .int .i64 (powK s q ws (k + 1)).2]) ∧ Below W.heap.size W w' :=
  c_sum (powK_succ s q ws k h).symm (powK_in s q ws k (by omega)) (times_in' _ _ _ _) W
theorem set2 {W : World} {S : Nat} {a b c d : Int} (h0 : W.cell? ⟨S, 0, none⟩ = some (.int .i64 c)) (h1 : W.cell? ⟨S, 1, none⟩ = some (.int .i64 d)) (hf : ∀ o, W.frozen? ⟨S, o, none⟩ = false) :
    ((W.setCell ⟨S, 0, none⟩ (.int .i64 a)).setCell ⟨S, 1, none⟩ (.int .i64 b)).cell? ⟨S, 0, none⟩ = some (.int .i64 a) ∧ ((W.setCell ⟨S, 0, none⟩ (.int .i64 a)).setCell ⟨S, 1, none⟩ (.int .i64 b)).cell? ⟨S, 1, none⟩ = some (.int .i64 b) ∧ (∀ o, ((W.setCell ⟨S, 0, none⟩ (.int .i64 a)).setCell ⟨S, 1, none⟩ (.int .i64 b)).frozen? ⟨S, o, none⟩ = false) ∧ (∀ x o, x ≠ S → ((W.setCell ⟨S, 0, none⟩ (.int .i64 a)).setCell ⟨S, 1, none⟩ (.int .i64 b)).cell? ⟨x, o, none⟩ = W.cell? ⟨x, o, none⟩) ∧ ((W.setCell ⟨S, 0, none⟩ (.int .i64 a)).setCell ⟨S, 1, none⟩ (.int .i64 b)).heap.size = W.heap.size := by
  refine ⟨by simp [go_sem, h0], by simp [go_sem, h1], fun o => by simp [go_sem, hf], fun x o hx => ?_, by simp [World.setCell]⟩
  rw [World.cell?_setCell_other _ _ _ _ (fun e => hx (by injection e with e1; exact e1.symm)), World.cell?_setCell_other _ _ _ _ (fun e => hx (by injection e with e1; exact e1.symm))]
theorem c_rOf01 (w : World) : Calls Try.prog 73 #[.int .i64 0, .int .i64 1] w fun e w' => e = .returned (.agg #[.int .i64 0, .int .i64 1]) ∧ Below w.heap.size w w' := by
  have h := impl_rOf 0 1 w (by omega) (by omega) (by omega) (by omega)
  rw [show rOfN 0 1 = 0 by decide, show rOfD 0 1 = 1 by decide] at h
  exact h
end Go.Proofs.Ytpfnlnllaapjeaa

namespace Go.Proofs.Ytpfnlnllaapjeaa
open Go.RowKit

theorem wires_le {N : Nat} {e s : Int} {ws : List W3} (h : netB N e s ws = true) : ws.length ≤ 20 := by
  obtain ⟨_, h5, hw⟩ := net_nat h
  have hnd : (ws.map fun e => e.1 * 5 + e.2.1).Nodup := by
    rw [List.nodup_iff_pairwise_ne, List.pairwise_map]
    refine (pairW hw).imp_of_mem fun {a b} ha hb hab => ?_
    obtain ⟨v1, v2, v3, v4, v5⟩ := hw.mem ha
    obtain ⟨u1, u2, u3, u4, u5⟩ := hw.mem hb
    unfold wLt at hab
    omega
  have := queue_le (n := 20) hnd (fun v hv => by
    obtain ⟨e, he, rfl⟩ := List.mem_map.1 hv
    obtain ⟨v1, v2, v3, v4, v5⟩ := hw.mem he
    omega)
  simpa using this
theorem powR_no {n e s : Int} {ws : List W3} {q : List P2} (h : ¬ (netB n e s ws = true ∧ (q.length : Int) = n ∧ allOkP q = true)) : powR n e s ws q = (0, 0, false) := by unfold powR; rw [if_neg h]
theorem powR_yes {N : Nat} {e s : Int} {ws : List W3} {q : List P2} (h1 : netB N e s ws = true) (h2 : q.length = N) (h3 : allOkP q = true) : powR N e s ws q = ((powK s q ws ws.length).1, (powK s q ws ws.length).2, rOk (powK s q ws ws.length).1 (powK s q ws ws.length).2) := by
  unfold powR; rw [if_pos ⟨h1, by rw [h2], h3⟩]
theorem powR_in (n e s : Int) (ws : List W3) (q : List P2) : In (powR n e s ws q).1 ∧ In (powR n e s ws q).2.1 := by
  unfold powR
  split
  · exact powK_in s q ws _ (Nat.le_refl _)
  · simp [In]
end Go.Proofs.Ytpfnlnllaapjeaa
