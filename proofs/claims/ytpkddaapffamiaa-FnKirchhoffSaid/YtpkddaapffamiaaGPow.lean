/-
  The power that potentials dissipate, as it is reckoned; whether all fractions of a list are valid.
  The power of one branch in the program.
  branchesOf in the program: a branch for each wire, linked to the potentials of its ends.
  PowerOf in the program: the sum of the branches' powers.
  PowerOf in the program: at every network and every list of fractions.
-/
import Derived.Test.YtpkddaapffamiaaRats
import Derived.Test.YtpkddaapffamiaaRatCalls
import Derived.Test.YtpkddaapffamiaaResist
import Derived.Test.YtpkddaapffamiaaGLists
import Derived.Test.YtpkddaapffamiaaGKeep
import Derived.Test.YtpkddaapffamiaaKept
import Derived.Deep.RegionHeld3
import Derived.Deep.DeepCutAuto
import Derived.Test.YtpkddaapffamiaaGPots
namespace Go.Proofs.Ytpkddaapffamiaa
open Go.RowKit

def getP (q : List P2) (k : Int) : P2 := q.getD k.toNat (0, 0)
def dropE (q : List P2) (e : W3) : P2 := rDiff (getP q e.1).1 (getP q e.1).2 (getP q e.2.1).1 (getP q e.2.1).2
def sqE (q : List P2) (e : W3) : P2 := rTimes (dropE q e).1 (dropE q e).2 (dropE q e).1 (dropE q e).2
def pwE (s : Int) (q : List P2) (e : W3) : P2 := rTimes (sqE q e).1 (sqE q e).2 (rOfN e.2.2 s) (rOfD e.2.2 s)
def powK (s : Int) (q : List P2) (ws : List W3) (k : Nat) : P2 := (ws.take k).foldl (fun S e => rSum S.1 S.2 (pwE s q e).1 (pwE s q e).2) (0, 1)
theorem powK_zero (s : Int) (q : List P2) (ws : List W3) : powK s q ws 0 = (0, 1) := by simp [powK]
theorem powK_succ (s : Int) (q : List P2) (ws : List W3) (k : Nat) (h : k < ws.length) : powK s q ws (k + 1) = rSum (powK s q ws k).1 (powK s q ws k).2 (pwE s q ws[k]).1 (pwE s q ws[k]).2 := by
  unfold powK
  rw [List.take_succ_eq_append_getElem h, List.foldl_append]
  rfl
theorem rOf_ok_or (n d : Int) : rOk (rOfN n d) (rOfD n d) = true ∨ (rOfN n d = 0 ∧ rOfD n d = 0) := by
  unfold rOfN rOfD
  cases hb : rOfB n d
  · right; simp
  · left
    have hk : rOk (rNum n d) (rDen n d) = true := by
      unfold rOfB at hb; simp only [Bool.and_eq_true] at hb; exact hb.2
    simpa using hk
theorem sum_ok_or (n d m e : Int) : rOk (rSum n d m e).1 (rSum n d m e).2 = true ∨ rSum n d m e = (0, 0) := by
  unfold rSum
  split
  · rcases rOf_ok_or (n * e + m * d) (d * e) with h | ⟨h1, h2⟩
    · exact .inl h
    · exact .inr (by rw [h1, h2])
  · exact .inr rfl
theorem powK_ok_or (s : Int) (q : List P2) (ws : List W3) : ∀ k, k ≤ ws.length → rOk (powK s q ws k).1 (powK s q ws k).2 = true ∨ powK s q ws k = (0, 0)
  | 0, _ => .inl (by rw [powK_zero]; decide)
  | k + 1, h => by rw [powK_succ s q ws k (by omega)]; exact sum_ok_or _ _ _ _
theorem powK_bad {s : Int} {q : List P2} {ws : List W3} {k : Nat} (hb : rOk (powK s q ws k).1 (powK s q ws k).2 = false) : ∀ m, k ≤ m → m ≤ ws.length → powK s q ws m = (0, 0)
  | 0, h, _ => by
    have : k = 0 := by omega
    subst this
    rw [powK_zero] at hb; exact absurd hb (by decide)
  | m + 1, h, hm => by
    by_cases hk : k = m + 1
    · subst hk
      rcases powK_ok_or s q ws (m + 1) hm with h | h
      · rw [h] at hb; cases hb
      · exact h
    · have ih := powK_bad hb m (by omega) (by omega)
      rw [powK_succ s q ws m (by omega), ih]
      unfold rSum fit4
      rw [show rOk ((0, 0) : P2).1 ((0, 0) : P2).2 = false by decide]
      simp
def allOkP (q : List P2) : Bool := q.all fun x => rOk x.1 x.2
noncomputable def powR (n e s : Int) (ws : List W3) (q : List P2) : Int × Int × Bool := if netB n e s ws = true ∧ (q.length : Int) = n ∧ allOkP q = true then ((powK s q ws ws.length).1, (powK s q ws ws.length).2, rOk (powK s q ws ws.length).1 (powK s q ws ws.length).2) else (0, 0, false)
theorem getP_at (q : List P2) (k : Nat) (h : k < q.length) : getP q k = q[k] := by simp [getP, h]
theorem allOk_get {q : List P2} (h : allOkP q = true) (k : Nat) (hk : k < q.length) : rOk q[k].1 q[k].2 = true := List.all_eq_true.1 h _ (List.getElem_mem hk)
theorem allOk_bad {q : List P2} (h : allOkP q = false) : ∃ k, ∃ hk : k < q.length, rOk q[k].1 q[k].2 = false ∧ ∀ j, (hj : j < k) → rOk (q[j]'(by omega)).1 (q[j]'(by omega)).2 = true := by
  have hx : ∃ x ∈ q, rOk x.1 x.2 = false := by
    unfold allOkP at h
    rw [List.all_eq_false] at h
    obtain ⟨x, hx, hb⟩ := h
    exact ⟨x, hx, by simpa using hb⟩
  obtain ⟨x, hx, hb⟩ := hx
  obtain ⟨k1, hk1, hek⟩ := List.getElem_of_mem hx
  obtain ⟨k0, ⟨h0, he⟩, hmin⟩ := least (fun k => ∃ h : k < q.length, rOk q[k].1 q[k].2 = false) k1 ⟨hk1, by rw [hek]; exact hb⟩
  exact ⟨k0, h0, he, fun j hj => by
    cases hc : rOk (q[j]'(by omega)).1 (q[j]'(by omega)).2
    · exact absurd ⟨by omega, hc⟩ (hmin j hj)
    · rfl⟩
def WfP (q : List P2) : Prop := ∀ k (h : k < q.length), In q[k].1 ∧ In q[k].2
set_option maxHeartbeats 3200000 in
theorem impl_allOk (v : Value) (q : List P2) (w : World) (h : ReadsP w v q) (hw : WfP q) :
    Calls Try.prog 66 #[v] w fun en w' => en = .returned (.bool (allOkP q)) ∧ Below w.heap.size w w' := by
  obtain ⟨p, cap, rfl⟩ := h.shape
  have hm := h.1
  by_cases h0 : q.length = 0
  · have HF : Hid (allOkP q = true) := Lib.hid (by unfold allOkP; rw [List.eq_nil_of_length_eq_zero h0]; rfl)
    rw [h0]
    clear h hm hw h0
    go_enter Try.func66, Try.ntmps66
    go_wp2
    refine wp_loop_rounds 1 ?_
    rw [rounds_succ]
    go_wp2
    go_ret
    exact ⟨ret_b HF.out.symm, Below.refl _ _⟩
  obtain ⟨g, o, c, hv, hg, hc⟩ := h.pos (by omega)
  simp only [Value.slice.injEq] at hv
  obtain ⟨rfl, -, rfl⟩ := hv
  have HC := Lib.hid hc
  have HW := Lib.hid hw
  clear h hw h0 hc
  cases ha : allOkP q
  · obtain ⟨k0, hk0, hbad, hok⟩ := allOk_bad ha
    have HB := Lib.hid hbad
    have HO := Lib.hid hok
    clear ha hbad hok
    go_enter Try.func66, Try.ntmps66
    go_wp2
    go_loopw [7] (fun i wr => ∃ k : Nat, k ≤ k0 ∧ i = .int .i64 k ∧ Hid (Below w.heap.size w wr)) (fun i _ => q.length - (intOf i).toNat)
    case atStart => exact ⟨0, Nat.zero_le _, rfl, Lib.hid (Below.refl _ _)⟩
    case round =>
      obtain ⟨k, hk, rfl, hB⟩ := hrel
      have hlt : k < q.length := by omega
      obtain ⟨c0, c1⟩ := HC.out k hlt
      obtain ⟨i1, i2⟩ := HW.out k hlt
      have hsz := hB.out.size
      rw [← hB.out.cell (p := ⟨g, o + k * 2, none⟩) hg] at c0
      rw [← hB.out.cell (p := ⟨g, o + k * 2 + 1, none⟩) hg] at c1
      have hcall := fun W => impl_rOk q[k].1 q[k].2 W i1.1 i1.2 i2.1 i2.2
      by_cases hkk : k < k0
      · rw [HO.out k hkk] at hcall
        go_wp2_with fail
        refine (hcall _).mono ?_
        rintro en w2 ⟨rfl, B2⟩
        have HB2 : Hid (Below w.heap.size w w2) := Lib.hid (by have h := hB.out; (repeat (first | exact Below.refl _ _ | (refine Below.setCell ?_ (by (first | exact Nat.le_refl _ | omega | (simp <;> omega) | simp)) _) | (refine Below.alloc ?_ (by (first | exact Nat.le_refl _ | omega | (simp <;> omega) | simp)) _) | (refine below_draws ?_ _) | exact h | (refine Below.trans ?_ (Below.mono h (by (first | exact Nat.le_refl _ | omega | (simp <;> omega) | simp)))) | exact B2 | (refine Below.trans ?_ (Below.mono B2 (by (first | exact Nat.le_refl _ | omega | (simp <;> omega) | simp)))))))
        clear hcall B2 c0 c1
        go_wp2
        go_roundw
        case rel => exact ⟨k + 1, by omega, by go_num, HB2⟩
        case measure => simp [intOf] <;> omega
      · obtain rfl : k = k0 := by omega
        rw [HB.out] at hcall
        go_wp2_with fail
        refine (hcall _).mono ?_
        rintro en w2 ⟨rfl, B2⟩
        have HB2 : Hid (Below w.heap.size w w2) := Lib.hid (by have h := hB.out; (repeat (first | exact Below.refl _ _ | (refine Below.setCell ?_ (by (first | exact Nat.le_refl _ | omega | (simp <;> omega) | simp)) _) | (refine Below.alloc ?_ (by (first | exact Nat.le_refl _ | omega | (simp <;> omega) | simp)) _) | (refine below_draws ?_ _) | exact h | (refine Below.trans ?_ (Below.mono h (by (first | exact Nat.le_refl _ | omega | (simp <;> omega) | simp)))) | exact B2 | (refine Below.trans ?_ (Below.mono B2 (by (first | exact Nat.le_refl _ | omega | (simp <;> omega) | simp)))))))
        clear hcall B2 c0 c1
        go_wp2
        go_ret
        exact ⟨rfl, HB2.out⟩
  · have HA := Lib.hid ha; clear ha
    go_enter Try.func66, Try.ntmps66
    go_wp2
    go_loopw [7] (fun i wr => ∃ k : Nat, k ≤ q.length ∧ i = .int .i64 k ∧ Hid (Below w.heap.size w wr)) (fun i _ => q.length - (intOf i).toNat)
    case atStart => exact ⟨0, Nat.zero_le _, rfl, Lib.hid (Below.refl _ _)⟩
    case round =>
      obtain ⟨k, hk, rfl, hB⟩ := hrel
      by_cases hlt : k < q.length
      · obtain ⟨c0, c1⟩ := HC.out k hlt
        obtain ⟨i1, i2⟩ := HW.out k hlt
        have hsz := hB.out.size
        rw [← hB.out.cell (p := ⟨g, o + k * 2, none⟩) hg] at c0
        rw [← hB.out.cell (p := ⟨g, o + k * 2 + 1, none⟩) hg] at c1
        have hcall := fun W => impl_rOk q[k].1 q[k].2 W i1.1 i1.2 i2.1 i2.2
        rw [allOk_get HA.out k hlt] at hcall
        go_wp2_with fail
        refine (hcall _).mono ?_
        rintro en w2 ⟨rfl, B2⟩
        have HB2 : Hid (Below w.heap.size w w2) := Lib.hid (by have h := hB.out; (repeat (first | exact Below.refl _ _ | (refine Below.setCell ?_ (by (first | exact Nat.le_refl _ | omega | (simp <;> omega) | simp)) _) | (refine Below.alloc ?_ (by (first | exact Nat.le_refl _ | omega | (simp <;> omega) | simp)) _) | (refine below_draws ?_ _) | exact h | (refine Below.trans ?_ (Below.mono h (by (first | exact Nat.le_refl _ | omega | (simp <;> omega) | simp)))) | exact B2 | (refine Below.trans ?_ (Below.mono B2 (by (first | exact Nat.le_refl _ | omega | (simp <;> omega) | simp)))))))
        clear hcall B2 c0 c1
        go_wp2
        go_roundw
        case rel => exact ⟨k + 1, by omega, by go_num, HB2⟩
        case measure => simp [intOf] <;> omega
      · obtain rfl : k = q.length := by omega
        go_wp2
        go_ret
        exact ⟨rfl, hB.out⟩
end Go.Proofs.Ytpkddaapffamiaa

namespace Go.Proofs.Ytpkddaapffamiaa
open Go.RowKit

theorem diff_in (n d m e : Int) : In (rDiff n d m e).1 ∧ In (rDiff n d m e).2 := by
  unfold rDiff
  split
  · exact rOf_in _ _
  · simp [In]
set_option maxRecDepth 8000 in
set_option maxHeartbeats 6400000 in
theorem impl_power (g o1 o2 : Nat) (n d m e c1 c2 : Int) (w : World) (f0 : w.cell? ⟨g, o1, none⟩ = some (.int .i64 n)) (f1 : w.cell? ⟨g, o1 + 1, none⟩ = some (.int .i64 d)) (t0 : w.cell? ⟨g, o2, none⟩ = some (.int .i64 m)) (t1 : w.cell? ⟨g, o2 + 1, none⟩ = some (.int .i64 e)) (hn : In n ∧ In d) (hm : In m ∧ In e) (hc : In c1 ∧ In c2) :
    Calls Try.prog 68 #[.agg #[.pointer (some ⟨g, o1, none⟩), .pointer (some ⟨g, o2, none⟩), .int .i64 c1, .int .i64 c2]] w fun en w' => en = .returned (.agg #[.int .i64 (rTimes (rTimes (rDiff n d m e).1 (rDiff n d m e).2 (rDiff n d m e).1 (rDiff n d m e).2).1 (rTimes (rDiff n d m e).1 (rDiff n d m e).2 (rDiff n d m e).1 (rDiff n d m e).2).2 c1 c2).1, .int .i64 (rTimes (rTimes (rDiff n d m e).1 (rDiff n d m e).2 (rDiff n d m e).1 (rDiff n d m e).2).1 (rTimes (rDiff n d m e).1 (rDiff n d m e).2 (rDiff n d m e).1 (rDiff n d m e).2).2 c1 c2).2]) ∧ Below w.heap.size w w' := by
  have hI := diff_in n d m e
  have hgl : g < w.heap.size := World.block_lt_of_cell? w _ f0
  obtain ⟨D1, D2, hD⟩ : ∃ D1 D2, rDiff n d m e = (D1, D2) := ⟨_, _, rfl⟩
  rw [hD] at hI ⊢
  simp only at hI ⊢
  obtain ⟨Q1, Q2, hQ⟩ : ∃ Q1 Q2, rTimes D1 D2 D1 D2 = (Q1, Q2) := ⟨_, _, rfl⟩
  rw [hQ]
  simp only
  obtain ⟨R1, R2, hR⟩ : ∃ R1 R2, rTimes Q1 Q2 c1 c2 = (R1, R2) := ⟨_, _, rfl⟩
  rw [hR]
  simp only
  have Qd := Lib.hid (c_diff hD hn hm)
  have Qq := Lib.hid (c_times hQ hI hI)
  have Qr := Lib.hid (c_times hR (times_in hQ) hc)
  clear hD hQ hR hn hm hc hI
  go_enter Try.func68, Try.ntmps68
  obtain ⟨W1, hW1⟩ : ∃ W1, W1 = (w.alloc (.cells #[.pointer (some ⟨g, o1, none⟩), .pointer (some ⟨g, o2, none⟩), .int .i64 c1, .int .i64 c2] 88)).alloc (.cells #[.int .i64 0, .int .i64 0] 32) := ⟨_, rfl⟩
  have hsW : W1.heap.size = w.heap.size + 1 + 1 := by rw [hW1]; simp
  have hBW : Below w.heap.size w W1 := by rw [hW1]; (repeat (first | exact Below.refl _ _ | (refine Below.setCell ?_ (by (first | exact Nat.le_refl _ | omega | (simp <;> omega) | simp)) _) | (refine Below.alloc ?_ (by (first | exact Nat.le_refl _ | omega | (simp <;> omega) | simp)) _) | (refine below_draws ?_ _)))
  have hT : W1.cell? ⟨w.heap.size, 0, none⟩ = some (.pointer (some ⟨g, o1, none⟩)) ∧ W1.cell? ⟨w.heap.size, 1, none⟩ = some (.pointer (some ⟨g, o2, none⟩)) ∧ W1.cell? ⟨w.heap.size, 2, none⟩ = some (.int .i64 c1) ∧ W1.cell? ⟨w.heap.size, 3, none⟩ = some (.int .i64 c2) ∧ W1.cell? ⟨g, o1, none⟩ = some (.int .i64 n) ∧ W1.cell? ⟨g, o1 + 1, none⟩ = some (.int .i64 d) ∧ W1.cell? ⟨g, o2, none⟩ = some (.int .i64 m) ∧ W1.cell? ⟨g, o2 + 1, none⟩ = some (.int .i64 e) ∧ w.heap.size + 1 + 1 ≤ W1.heap.size ∧ W1.heap.size ≤ w.heap.size + 1 + 1 ∧ Below W1.heap.size W1 W1 := ⟨by rw [hW1]; simp [go_sem], by rw [hW1]; simp [go_sem], by rw [hW1]; simp [go_sem], by rw [hW1]; simp [go_sem], (hBW.cell (p := ⟨g, o1, none⟩) hgl).trans f0, (hBW.cell (p := ⟨g, o1 + 1, none⟩) hgl).trans f1, (hBW.cell (p := ⟨g, o2, none⟩) hgl).trans t0, (hBW.cell (p := ⟨g, o2 + 1, none⟩) hgl).trans t1, by omega, by omega, Below.refl _ _⟩
  have hR0 : W1.cell? ⟨w.heap.size + 1, 0, none⟩ = some (.int .i64 0) ∧ W1.cell? ⟨w.heap.size + 1, 1, none⟩ = some (.int .i64 0) ∧ W1.frozen? ⟨w.heap.size + 1, 0, none⟩ = false ∧ W1.frozen? ⟨w.heap.size + 1, 1, none⟩ = false := by rw [hW1]; exact ⟨by simp [go_sem], by simp [go_sem], by simp [go_sem], by simp [go_sem]⟩
  have HR0 := Lib.hid hR0; clear hR0
  have hL : w.heap.size < w.heap.size + 1 + 1 ∧ w.heap.size < w.heap.size + 1 + 1 ∧ w.heap.size < w.heap.size + 1 + 1 ∧ w.heap.size < w.heap.size + 1 + 1 ∧ g < w.heap.size + 1 + 1 ∧ g < w.heap.size + 1 + 1 ∧ g < w.heap.size + 1 + 1 ∧ g < w.heap.size + 1 + 1 := by omega
  clear f0 f1 t0 t1
  go_upto_region 1 with fail
  rw [← hW1]
  have HSW := Lib.hid hsW
  clear hW1 hsW
  go_cut [3] (fun s3 wx => ∃ q : Nat, s3 = .pointer (some ⟨q, 0, none⟩) ∧ (wx.cell? ⟨q, 0, none⟩ = some (.int .i64 D1) ∧ wx.cell? ⟨q, 1, none⟩ = some (.int .i64 D2) ∧ wx.frozen? ⟨q, 0, none⟩ = false ∧ wx.frozen? ⟨q, 1, none⟩ = false ∧ q < wx.heap.size ∧ w.heap.size + 1 + 1 ≤ q) ∧ wx.cell? ⟨w.heap.size, 0, none⟩ = some (.pointer (some ⟨g, o1, none⟩)) ∧ wx.cell? ⟨w.heap.size, 1, none⟩ = some (.pointer (some ⟨g, o2, none⟩)) ∧ wx.cell? ⟨w.heap.size, 2, none⟩ = some (.int .i64 c1) ∧ wx.cell? ⟨w.heap.size, 3, none⟩ = some (.int .i64 c2) ∧ wx.cell? ⟨g, o1, none⟩ = some (.int .i64 n) ∧ wx.cell? ⟨g, o1 + 1, none⟩ = some (.int .i64 d) ∧ wx.cell? ⟨g, o2, none⟩ = some (.int .i64 m) ∧ wx.cell? ⟨g, o2 + 1, none⟩ = some (.int .i64 e) ∧ w.heap.size + 1 + 1 ≤ wx.heap.size ∧ W1.heap.size ≤ w.heap.size + 1 + 1 ∧ Below W1.heap.size W1 wx)
  case first =>
    have hS := k8_drew hT
    go_region_held3 (fun w' => w'.cell? ⟨w.heap.size, 0, none⟩ = some (.pointer (some ⟨g, o1, none⟩)) ∧ w'.cell? ⟨w.heap.size, 1, none⟩ = some (.pointer (some ⟨g, o2, none⟩)) ∧ w'.cell? ⟨w.heap.size, 2, none⟩ = some (.int .i64 c1) ∧ w'.cell? ⟨w.heap.size, 3, none⟩ = some (.int .i64 c2) ∧ w'.cell? ⟨g, o1, none⟩ = some (.int .i64 n) ∧ w'.cell? ⟨g, o1 + 1, none⟩ = some (.int .i64 d) ∧ w'.cell? ⟨g, o2, none⟩ = some (.int .i64 m) ∧ w'.cell? ⟨g, o2 + 1, none⟩ = some (.int .i64 e) ∧ w.heap.size + 1 + 1 ≤ w'.heap.size ∧ W1.heap.size ≤ w.heap.size + 1 + 1 ∧ Below W1.heap.size W1 w')
      (first | exact hS | exact k8_alloc hS | exact k8_set hN.2.2.2.2.2 hL (k8_set hN.2.2.2.2.2 hL hS) | exact k8_set hS.2.2.2.2.2.2.2.2.1 hL (k8_set hS.2.2.2.2.2.2.2.2.1 hL (k8_alloc hS)))
      (first
        | (go_at_call 19; with_reducible refine Calls.mono (Qd.out _) ?_; rintro en wa ⟨rfl, Ba⟩; (first | (have hN := kept_new Ba hS.2.2.2.2.2.2.2.2.1) | (have hN := kept_newd Ba hS.2.2.2.2.2.2.2.2.1; (try simp only [World.size_alloc] at hN)) | (have hN := kept_on Ba hN) | skip); (first | with_reducible (replace hS := k8_keep Ba hS) | with_reducible (replace hS := k8_keep Ba (k8_allocd hS)) | with_reducible (replace hS := k8_keep Ba (k8_alloc hS)))))
    all_goals
      go_wp2_with fail
      go_meet
      first
      | exact ⟨_, rfl, kept_laid (lo := w.heap.size + 1 + 1) hS.2.2.2.2.2.2.2.2.1, k8_alloc hS⟩
      | exact ⟨_, rfl, kept_put hN, k8_set hN.2.2.2.2.2 hL (k8_set hN.2.2.2.2.2 hL hS)⟩
  case rest =>
    obtain ⟨q, rfl, ⟨r1, r2, r3, r4, r5, r6⟩, hS⟩ := hcut
    have hsW := HSW.out
    obtain ⟨b0, b1, b2, b3, b4, b5, b6, b7, z1, z2, z3⟩ := hS
    have hU : wc.cell? ⟨w.heap.size, 2, none⟩ = some (.int .i64 c1) ∧ wc.cell? ⟨w.heap.size, 3, none⟩ = some (.int .i64 c2) ∧ wc.cell? ⟨q, 0, none⟩ = some (.int .i64 D1) ∧ wc.cell? ⟨q, 1, none⟩ = some (.int .i64 D2) ∧ wc.cell? ⟨w.heap.size, 0, none⟩ = some (.pointer (some ⟨g, o1, none⟩)) ∧ wc.cell? ⟨w.heap.size, 1, none⟩ = some (.pointer (some ⟨g, o2, none⟩)) ∧ w.heap.size ≤ wc.heap.size ∧ w.heap.size ≤ w.heap.size ∧ Below w.heap.size w wc := ⟨b2, b3, r1, r2, b0, b1, by (have := z3.size; omega), Nat.le_refl _, hBW.trans (z3.mono hBW.size)⟩
    have hN6 : w.heap.size + 1 ≠ w.heap.size ∧ w.heap.size + 1 ≠ w.heap.size ∧ w.heap.size + 1 ≠ q ∧ w.heap.size + 1 ≠ q ∧ w.heap.size + 1 ≠ w.heap.size ∧ w.heap.size + 1 ≠ w.heap.size := by omega
    have E0 : Below W1.heap.size W1 wc.drew := below_draws z3 1
    clear b4 b5 b6 b7
    go_wp2
    have hS := k6_drew hU
    clear hU
    go_region_held3 (fun w' => w'.cell? ⟨w.heap.size, 2, none⟩ = some (.int .i64 c1) ∧ w'.cell? ⟨w.heap.size, 3, none⟩ = some (.int .i64 c2) ∧ w'.cell? ⟨q, 0, none⟩ = some (.int .i64 D1) ∧ w'.cell? ⟨q, 1, none⟩ = some (.int .i64 D2) ∧ w'.cell? ⟨w.heap.size, 0, none⟩ = some (.pointer (some ⟨g, o1, none⟩)) ∧ w'.cell? ⟨w.heap.size, 1, none⟩ = some (.pointer (some ⟨g, o2, none⟩)) ∧ w.heap.size ≤ w'.heap.size ∧ w.heap.size ≤ w.heap.size ∧ Below w.heap.size w w')
      (first | exact hS | exact k6_put hN6 (show w.heap.size ≤ w.heap.size + 1 by omega) (k6_put hN6 (show w.heap.size ≤ w.heap.size + 1 by omega) hS))
      (first
        | (go_at_call 18; with_reducible refine Calls.mono (Qq.out _) ?_; rintro en wa ⟨rfl, Ba⟩; replace hS := k6_keep Ba hS; have E1 := E0.trans (Ba.mono E0.size))
        | (go_at_call 18; with_reducible refine Calls.mono (Qr.out _) ?_; rintro en wb ⟨rfl, Bb⟩; replace hS := k6_keep Bb hS; have hB9 := E1.trans (Bb.mono E1.size); have g0 := (hB9.cell (p := ⟨w.heap.size + 1, 0, none⟩) (show w.heap.size + 1 < W1.heap.size by omega)).trans HR0.out.1; have g1 := (hB9.cell (p := ⟨w.heap.size + 1, 1, none⟩) (show w.heap.size + 1 < W1.heap.size by omega)).trans HR0.out.2.1; have g2 := (hB9.frozen (p := ⟨w.heap.size + 1, 0, none⟩) (show w.heap.size + 1 < W1.heap.size by omega)).trans HR0.out.2.2.1; have g3 := (hB9.frozen (p := ⟨w.heap.size + 1, 1, none⟩) (show w.heap.size + 1 < W1.heap.size by omega)).trans HR0.out.2.2.2))
    all_goals
      go_wp2
      exact bodyPost_ret (v := (.agg #[.int .i64 R1, .int .i64 R2])) (by simp (maxDischargeDepth := 8) [results, Try.results68, go_sem, *]) rfl ⟨rfl, (hS.2.2.2.2.2.2.2.2.setCell (p := ⟨w.heap.size + 1, 0, none⟩) (show w.heap.size ≤ w.heap.size + 1 by omega) _).setCell (p := ⟨w.heap.size + 1, 1, none⟩) (show w.heap.size ≤ w.heap.size + 1 by omega) _⟩
end Go.Proofs.Ytpkddaapffamiaa

namespace Go.Proofs.Ytpkddaapffamiaa
open Go.RowKit

def cells4 (gp op : Nat) (s : Int) (e : W3) : List Value := [.pointer (some ⟨gp, op + e.1.toNat * 2, none⟩), .pointer (some ⟨gp, op + e.2.1.toNat * 2, none⟩), .int .i64 (rOfN e.2.2 s), .int .i64 (rOfD e.2.2 s)]
def cellsR (gp op : Nat) (s : Int) (ws : List W3) : List Value := ws.flatMap (cells4 gp op s)
theorem cellsR_snoc (gp op : Nat) (s : Int) (ws : List W3) (e : W3) : cellsR gp op s (ws ++ [e]) = cellsR gp op s ws ++ cells4 gp op s e := by simp [cellsR]
theorem cellsR_length (gp op : Nat) (s : Int) : ∀ ws : List W3, (cellsR gp op s ws).length = ws.length * 4
  | [] => rfl
  | e :: r => by have := cellsR_length gp op s r; simp [cellsR, cells4] at *; omega
theorem Try.infoBranch : (Try.prog.info? 88).map (fun i => (i.zero, i.size, i.bytes)) = some (some (.agg #[.pointer none, .pointer none, .int .i64 0, .int .i64 0]), 4, 32) := by kernel_rfl
theorem four_new (W : World) (x y z u : Value) (t : TypeId) : ∀ j w, [x, y, z, u][j]? = some w → (W.alloc (.cells #[x, y, z, u] t)).cell? ((⟨W.heap.size, 0, none⟩ : Addr).add j) = some w := by
  intro j w h
  rcases j with _ | _ | _ | _ | j
  · simp at h; subst h; simp [Addr.add, go_sem]
  · simp at h; subst h; simp [Addr.add, go_sem]
  · simp at h; subst h; simp [Addr.add, go_sem]
  · simp at h; subst h; simp [Addr.add, go_sem]
  · simp at h
theorem reads_atW {w : World} {p : Option Addr} {n c : Nat} {ws : List W3} (h : ReadsW w (.slice p n c) ws) : ∀ k, (hk : k < ws.length) → ∃ g o, p = some ⟨g, o, none⟩ ∧ g < w.heap.size ∧ w.cell? ⟨g, o + k * 3, none⟩ = some (.int .i64 ws[k].1) ∧ w.cell? ⟨g, o + k * 3 + 1, none⟩ = some (.int .i64 ws[k].2.1) ∧ w.cell? ⟨g, o + k * 3 + 2, none⟩ = some (.int .i64 ws[k].2.2) := by
  intro k hk
  rcases h.2 with ⟨hx, _⟩ | ⟨g, o, cap, hv, hc⟩
  · subst hx; simp at hk
  · simp only [Value.slice.injEq] at hv
    obtain ⟨rfl, -, -⟩ := hv
    exact ⟨g, o, rfl, World.block_lt_of_cell? w _ (hc k hk).1, hc k hk⟩
/-- 'append(v, x)' of one branch, as a step of a region that draws. -/
theorem step_append_branch {ops : Array Oper} {o : Oper} {a : Act} {K : Act → World → Prop} {Q : Exit → Act → World → Prop} {E : Prop} {W wr : World} {s x : Operand} {base : Nat} {v : Value} {n : Nat} {xs : List Value} {p1 p2 : Addr} {c1 c2 : Int} {b1 : Nat}
    (hown : wr.ownsRow base 88 4 v n xs) (hn : n + 1 ≤ 1099511627776) (hbase : base ≤ wr.heap.size) (hW : W = wr.alloc (.cells #[.pointer (some p1), .pointer (some p2), .int .i64 c1, .int .i64 c2] 88) ∨ W = (wr.alloc (.cells #[.pointer (some p1), .pointer (some p2), .int .i64 c1, .int .i64 c2] 88)).drew) (hgd : o.guard = none)
    (ho : o.op = .call { callee := .builtin .append, args := #[s, x], argTypes := #[84, 84] }) (hs : a.eval s = v) (hx : a.eval x = .slice (some ⟨b1, 0, none⟩) 1 1) (hb1 : b1 = wr.heap.size)
    (h : ∀ g cap w', w'.ownsRow base 88 4 (.slice (some ⟨g, 0, none⟩) (n + 1) cap) (n + 1) (xs ++ [.pointer (some p1), .pointer (some p2), .int .i64 c1, .int .i64 c2]) → wr.heap.size ≤ w'.heap.size → wr.grownBy w' v.ownBlock → W.grownBy w' v.ownBlock → K (a.put o.dst (.slice (some ⟨g, 0, none⟩) (n + 1) cap)) w') :
    if Region.wanted o (yielded ops a.tmps) = true then Oper.wp Try.prog o a W K Q else E := by
  subst hb1
  obtain ⟨i0, hi, hz0, hz1, hz2⟩ := info_parts Try.infoBranch
  have hS : W.heap.size = wr.heap.size + 1 := by rcases hW with rfl | rfl <;> simp
  have ho2 : W.ownsRow base 88 4 v n xs := by
    rcases hW with rfl | rfl
    · exact hown.alloc _
    · exact hown.alloc _
  have hcs : ∀ j w, [Value.pointer (some p1), Value.pointer (some p2), Value.int .i64 c1, Value.int .i64 c2][j]? = some w → W.cell? ((⟨wr.heap.size, 0, none⟩ : Addr).add j) = some w := by
    rcases hW with rfl | rfl
    · exact four_new _ _ _ _ _ _
    · exact four_new _ _ _ _ _ _
  have hg0 : wr.grownBy W v.ownBlock := by
    rcases hW with rfl | rfl
    · exact World.grownBy_alloc _ _ _
    · exact ⟨rfl, rfl, rfl, by simp, fun k hk _ => heap_alloc_old _ _ hk⟩
  refine step_append_lies W hgd s x 84 ho base 88 i0 (.agg #[.pointer none, .pointer none, .int .i64 0, .int .i64 0]) 4 32 Try.underlying84 hi hz0 hz1 hz2 rfl (by decide) v n xs hs ho2 ⟨wr.heap.size, 0, none⟩ 1 1 [.pointer (some p1), .pointer (some p2), .int .i64 c1, .int .i64 c2] hx rfl hcs (by simp [Value.oneCell']) (by omega) (by unfold maxLen; omega) (by omega) (by omega) (wr.heap.size + 1) hS ?_
  intro g cap w' h1 h2 _ _
  have h4 := h2.size
  exact h _ _ w' h1 (by omega) (grown_trans1 hg0 h2) h2
theorem k6_grown {B G : Nat} {w wa wb : World} {row : Option Nat} {a0 a1 a2 a3 a4 a5 : Addr} {v0 v1 v2 v3 v4 v5 : Value} (hg : wa.grownBy wb row) 
    (h : wa.cell? a0 = some v0 ∧ wa.cell? a1 = some v1 ∧ wa.cell? a2 = some v2 ∧ wa.cell? a3 = some v3 ∧ wa.cell? a4 = some v4 ∧ wa.cell? a5 = some v5 ∧ G ≤ wa.heap.size ∧ B ≤ G ∧ Below B w wa)
    (hn : some a0.block ≠ row ∧ some a1.block ≠ row ∧ some a2.block ≠ row ∧ some a3.block ≠ row ∧ some a4.block ≠ row ∧ some a5.block ≠ row) (hr : ∀ k, row = some k → B ≤ k) :
    wb.cell? a0 = some v0 ∧ wb.cell? a1 = some v1 ∧ wb.cell? a2 = some v2 ∧ wb.cell? a3 = some v3 ∧ wb.cell? a4 = some v4 ∧ wb.cell? a5 = some v5 ∧ G ≤ wb.heap.size ∧ B ≤ G ∧ Below B w wb := by
  obtain ⟨c0, c1, c2, c3, c4, c5, h1, h2, h3⟩ := h
  obtain ⟨n0, n1, n2, n3, n4, n5⟩ := hn
  exact ⟨hg.cell c0 n0, hg.cell c1 n1, hg.cell c2 n2, hg.cell c3 n3, hg.cell c4 n4, hg.cell c5 n5, Nat.le_trans h1 hg.size, h2, h3.grown hg (by omega) hr⟩
set_option maxRecDepth 8000 in
set_option maxHeartbeats 12800000 in
theorem impl_branches (N : Nat) (e s : Int) (v : Value) (ws : List W3) (gp op cp : Nat) (w : World) (hb : netB N e s ws = true) (hr : ReadsW w v ws) (hw : ws.length ≤ 20) :
    Calls Try.prog 67 #[.agg #[.int .i64 N, .int .i64 e, .int .i64 s, v], .slice (some ⟨gp, op, none⟩) N cp] w fun en w' => ∃ v', en = .returned v' ∧ w'.ownsRow w.heap.size 88 4 v' ws.length (cellsR gp op s ws) ∧ Below w.heap.size w w' := by
  obtain ⟨_, h5, hwv⟩ := net_nat hb
  obtain ⟨s1, s2⟩ := net_scale hb
  obtain ⟨p, cap, rfl⟩ := hr.shape
  obtain ⟨W0, hW0⟩ : ∃ W0, W0 = w.alloc (.cells #[.int .i64 N, .int .i64 e, .int .i64 s, .slice p ws.length cap] 25) := ⟨_, rfl⟩
  have hsW : W0.heap.size = w.heap.size + 1 := by rw [hW0]; simp
  have hbox : boxN W0 w.heap.size N e s (.slice p ws.length cap) := by rw [hW0]; exact boxN.new w N e s _ 25
  have B0 : Below w.heap.size w W0 := by rw [hW0]; (repeat (first | exact Below.refl _ _ | (refine Below.setCell ?_ (by (first | exact Nat.le_refl _ | omega | (simp <;> omega) | simp)) _) | (refine Below.alloc ?_ (by (first | exact Nat.le_refl _ | omega | (simp <;> omega) | simp)) _) | (refine below_draws ?_ _)))
  have hrd : ReadsW W0 (.slice p ws.length cap) ws := by rw [hW0]; exact hr.later ((Below.refl w.heap.size w).alloc (Nat.le_refl _) _)
  have HRA := Lib.hid (reads_atW hrd)
  have HBX := Lib.hid hbox
  have HWV := Lib.hid hwv
  clear hr hrd hb hwv
  obtain ⟨x0, x1, x2, x3⟩ := hbox
  go_enter Try.func67, Try.ntmps67
  go_wp2
  rw [← hW0]
  clear hW0
  have HSW := Lib.hid hsW
  have hlen : (0 : Int) ≤ (ws.length : Int) := by omega
  clear x0 x1 x2 x3 hsW
  go_loopw [5, 11] (fun ov iv wr => ∃ k : Nat, k ≤ ws.length ∧ iv = .int .i64 k ∧ Hid (wr.ownsRow (w.heap.size + 1) 88 4 ov k (cellsR gp op s (ws.take k))) ∧ Hid (Below (w.heap.size + 1) W0 wr)) (fun _ iv _ => ws.length - (intOf iv).toNat)
  case atStart => exact ⟨0, Nat.zero_le _, rfl, Lib.hid (World.ownsRow_nil _ _ _ _), Lib.hid (Below.refl _ _)⟩
  case round =>
    obtain ⟨k, hk, rfl, hown, hB⟩ := hrel
    have hsz := hB.out.size
    rw [HSW.out] at hsz
    have hBw : Below w.heap.size w wr := B0.trans (hB.out.mono (by omega))
    by_cases hlt : k < ws.length
    · obtain ⟨q, o, rfl, hq, c0, c1, c2⟩ := HRA.out k hlt
      rw [HSW.out] at hq
      rw [← hB.out.cell (p := ⟨q, o + k * 3, none⟩) hq] at c0
      rw [← hB.out.cell (p := ⟨q, o + k * 3 + 1, none⟩) hq] at c1
      rw [← hB.out.cell (p := ⟨q, o + k * 3 + 2, none⟩) hq] at c2
      obtain ⟨v1, v2, v3, v4, v5⟩ := HWV.out.1 k hlt
      have v6 : ws[k].1 < (N : Int) := by omega
      have v7 : (0 : Int) ≤ ws[k].2.1 := by omega
      obtain ⟨x0, x1, x2, x3⟩ := HBX.out.below hB.out (Nat.lt_succ_self _)
      have hxl : w.heap.size < wr.heap.size := by omega
      have hA : Below wr.heap.size wr (wr.alloc (.cells #[.int .i64 ws[k].1, .int .i64 ws[k].2.1, .int .i64 ws[k].2.2] 80)) := (Below.refl _ _).alloc (Nat.le_refl _) _
      have hT : (wr.alloc (.cells #[.int .i64 ws[k].1, .int .i64 ws[k].2.1, .int .i64 ws[k].2.2] 80)).cell? ⟨wr.heap.size, 0, none⟩ = some (.int .i64 ws[k].1) ∧ (wr.alloc (.cells #[.int .i64 ws[k].1, .int .i64 ws[k].2.1, .int .i64 ws[k].2.2] 80)).cell? ⟨wr.heap.size, 1, none⟩ = some (.int .i64 ws[k].2.1) ∧ (wr.alloc (.cells #[.int .i64 ws[k].1, .int .i64 ws[k].2.1, .int .i64 ws[k].2.2] 80)).cell? ⟨wr.heap.size, 2, none⟩ = some (.int .i64 ws[k].2.2) ∧ (wr.alloc (.cells #[.int .i64 ws[k].1, .int .i64 ws[k].2.1, .int .i64 ws[k].2.2] 80)).cell? ⟨w.heap.size, 0, none⟩ = some (.int .i64 N) ∧ (wr.alloc (.cells #[.int .i64 ws[k].1, .int .i64 ws[k].2.1, .int .i64 ws[k].2.2] 80)).cell? ⟨w.heap.size, 1, none⟩ = some (.int .i64 e) ∧ (wr.alloc (.cells #[.int .i64 ws[k].1, .int .i64 ws[k].2.1, .int .i64 ws[k].2.2] 80)).cell? ⟨w.heap.size, 2, none⟩ = some (.int .i64 s) ∧ w.heap.size ≤ (wr.alloc (.cells #[.int .i64 ws[k].1, .int .i64 ws[k].2.1, .int .i64 ws[k].2.2] 80)).heap.size ∧ w.heap.size ≤ w.heap.size ∧ Below w.heap.size w (wr.alloc (.cells #[.int .i64 ws[k].1, .int .i64 ws[k].2.1, .int .i64 ws[k].2.2] 80)) := ⟨by simp [go_sem], by simp [go_sem], by simp [go_sem], (hA.cell (p := ⟨w.heap.size, 0, none⟩) hxl).trans x0, (hA.cell (p := ⟨w.heap.size, 1, none⟩) hxl).trans x1, (hA.cell (p := ⟨w.heap.size, 2, none⟩) hxl).trans x2, by simp; omega, Nat.le_refl _, hBw.trans (hA.mono hBw.size)⟩
      have E0 : Below wr.heap.size wr (wr.alloc (.cells #[.int .i64 ws[k].1, .int .i64 ws[k].2.1, .int .i64 ws[k].2.2] 80)).drew := below_draws hA 1
      have hsn : cellsR gp op s (ws.take (k + 1)) = cellsR gp op s (ws.take k) ++ cells4 gp op s ws[k] := by rw [List.take_succ_eq_append_getElem hlt, cellsR_snoc]
      have HSN := Lib.hid hsn; clear hsn
      obtain ⟨pu, cu, rfl⟩ := owns_shape hown.out
      go_wp2
      have hS := k6_drew hT
      clear hT
      go_region_held3 (fun w' => w'.cell? ⟨wr.heap.size, 0, none⟩ = some (.int .i64 ws[k].1) ∧ w'.cell? ⟨wr.heap.size, 1, none⟩ = some (.int .i64 ws[k].2.1) ∧ w'.cell? ⟨wr.heap.size, 2, none⟩ = some (.int .i64 ws[k].2.2) ∧ w'.cell? ⟨w.heap.size, 0, none⟩ = some (.int .i64 N) ∧ w'.cell? ⟨w.heap.size, 1, none⟩ = some (.int .i64 e) ∧ w'.cell? ⟨w.heap.size, 2, none⟩ = some (.int .i64 s) ∧ w.heap.size ≤ w'.heap.size ∧ w.heap.size ≤ w.heap.size ∧ Below w.heap.size w w')
        (first | exact hS | exact k6_alloc hS)
        (first
          | (go_at_call 20; with_reducible refine Calls.mono (impl_rOf ws[k].2.2 s _ (by omega) (by omega) (by omega) (by omega)) ?_; rintro en wa ⟨rfl, Ba⟩; replace hS := k6_keep Ba hS; have E1 := E0.trans (Ba.mono E0.size); have own2 := owns_later hown.out E1; have hk2 : w.heap.size + 1 ≤ wa.heap.size := Nat.le_trans hsz E1.size)
          | (refine step_append_branch own2 (show k + 1 ≤ 1099511627776 by omega) hk2 (by first | exact Or.inl rfl | exact Or.inr rfl) (by rfl) (by rfl) (by rfl) (by rfl) (by rfl) ?_; intro g3 c3 w3 hv3 hs3 hG3 hG3'; have hrw : ∀ z, (Value.slice pu k cu).ownBlock = some z → w.heap.size + 1 ≤ z ∧ z < wr.heap.size := fun z hz => hown.out.lt z hz; have hne : ∀ z, (z ≤ w.heap.size ∨ wr.heap.size ≤ z) → some z ≠ (Value.slice pu k cu).ownBlock := fun z hz he => hz.elim (fun h => absurd h (Nat.not_le.mpr (hrw z he.symm).1)) (fun h => absurd h (Nat.not_le.mpr (hrw z he.symm).2)); replace hS := k6_grown hG3 hS ⟨hne _ (.inr (Nat.le_refl _)), hne _ (.inr (Nat.le_refl _)), hne _ (.inr (Nat.le_refl _)), hne _ (.inl (Nat.le_refl _)), hne _ (.inl (Nat.le_refl _)), hne _ (.inl (Nat.le_refl _))⟩ (fun z hz => Nat.le_of_succ_le (hrw z hz).1)))
      have HOR : Hid (w3.ownsRow (w.heap.size + 1) 88 4 (.slice (some ⟨g3, 0, none⟩) (k + 1) c3) (k + 1) (cellsR gp op s (ws.take (k + 1)))) := Lib.hid (by rw [HSN.out]; exact hv3)
      have HBB : Hid (Below (w.heap.size + 1) W0 w3) := Lib.hid ((hB.out.trans (E1.mono hsz)).grown hG3 hk2 (fun z hz => (hrw z hz).1))
      clear hS hv3 hs3 hG3 hG3' own2 hk2 E1 Ba hne hrw E0 hA x0 x1 x2 x3 c0 c1 c2 hq
      go_wp2
      go_roundw
      case rel => exact ⟨k + 1, by omega, by go_num, HOR, HBB⟩
      case measure => simp [intOf]; omega
    · obtain rfl : k = ws.length := by omega
      rw [List.take_length] at hown
      go_wp2
      go_ret
      exact ⟨_, rfl, owns_mono hown.out (by omega), hBw⟩
end Go.Proofs.Ytpkddaapffamiaa

namespace Go.Proofs.Ytpkddaapffamiaa
open Go.RowKit

theorem sum_in' (n d m e : Int) : In (rSum n d m e).1 ∧ In (rSum n d m e).2 := by
  unfold rSum
  split
  · exact rOf_in _ _
  · exact ⟨⟨by decide, by decide⟩, ⟨by decide, by decide⟩⟩
theorem times_in' (n d m e : Int) : In (rTimes n d m e).1 ∧ In (rTimes n d m e).2 := times_in (Prod.eta _).symm
theorem powK_in (s : Int) (q : List P2) (ws : List W3) : ∀ k, k ≤ ws.length → In (powK s q ws k).1 ∧ In (powK s q ws k).2
  | 0, _ => by rw [powK_zero]; exact ⟨⟨by decide, by decide⟩, ⟨by decide, by decide⟩⟩
  | k + 1, h => by rw [powK_succ s q ws k (by omega)]; exact sum_in' _ _ _ _
theorem cellsR_get (gp op : Nat) (s : Int) : ∀ (ws : List W3) (k : Nat) (h : k < ws.length), (cellsR gp op s ws)[k * 4]? = some (.pointer (some ⟨gp, op + ws[k].1.toNat * 2, none⟩)) ∧ (cellsR gp op s ws)[k * 4 + 1]? = some (.pointer (some ⟨gp, op + ws[k].2.1.toNat * 2, none⟩)) ∧ (cellsR gp op s ws)[k * 4 + 2]? = some (.int .i64 (rOfN ws[k].2.2 s)) ∧ (cellsR gp op s ws)[k * 4 + 3]? = some (.int .i64 (rOfD ws[k].2.2 s))
  | [], k, h => absurd h (by simp)
  | x :: r, 0, _ => by simp [cellsR, cells4]
  | x :: r, k + 1, h => by
    have ih := cellsR_get gp op s r k (by simpa using h)
    have e : cellsR gp op s (x :: r) = cells4 gp op s x ++ cellsR gp op s r := by simp [cellsR]
    have e4 : (cells4 gp op s x).length = 4 := rfl
    have a0 : (k + 1) * 4 - 4 = k * 4 := by omega
    have a1 : (k + 1) * 4 + 1 - 4 = k * 4 + 1 := by omega
    have a2 : (k + 1) * 4 + 2 - 4 = k * 4 + 2 := by omega
    have a3 : (k + 1) * 4 + 3 - 4 = k * 4 + 3 := by omega
    refine ⟨?_, ?_, ?_, ?_⟩
    · rw [e, List.getElem?_append_right (by omega), e4, a0]; exact ih.1
    · rw [e, List.getElem?_append_right (by omega), e4, a1]; exact ih.2.1
    · rw [e, List.getElem?_append_right (by omega), e4, a2]; exact ih.2.2.1
    · rw [e, List.getElem?_append_right (by omega), e4, a3]; exact ih.2.2.2
theorem branches_at {w : World} {base : Nat} {v : Value} {gp op : Nat} {s : Int} {ws : List W3} (h : w.ownsRow base 88 4 v ws.length (cellsR gp op s ws)) : ∃ pv cv, v = .slice pv ws.length cv ∧ ∀ k, (hk : k < ws.length) → ∃ g, pv = some ⟨g, 0, none⟩ ∧ base ≤ g ∧ g < w.heap.size ∧ w.cell? ⟨g, k * 4, none⟩ = some (.pointer (some ⟨gp, op + ws[k].1.toNat * 2, none⟩)) ∧ w.cell? ⟨g, k * 4 + 1, none⟩ = some (.pointer (some ⟨gp, op + ws[k].2.1.toNat * 2, none⟩)) ∧ w.cell? ⟨g, k * 4 + 2, none⟩ = some (.int .i64 (rOfN ws[k].2.2 s)) ∧ w.cell? ⟨g, k * 4 + 3, none⟩ = some (.int .i64 (rOfD ws[k].2.2 s)) := by
  have hh := h
  obtain ⟨hl, h2⟩ := h
  rcases h2 with ⟨rfl, hn⟩ | ⟨g, cap, cur, rfl, hb, hg, hnc, hcm, hcs, ht⟩
  · exact ⟨none, 0, by rw [hn], fun k hk => by omega⟩
  · refine ⟨_, cap, rfl, fun k hk => ⟨g, rfl, hb, (hh.lt g rfl).2, ?_⟩⟩
    obtain ⟨a, b, c, d⟩ := cellsR_get gp op s ws k hk
    exact ⟨by rw [hh.cellAt (k * 4) (by omega), a], by rw [hh.cellAt (k * 4 + 1) (by omega), b], by rw [hh.cellAt (k * 4 + 2) (by omega), c], by rw [hh.cellAt (k * 4 + 3) (by omega), d]⟩
theorem power_at {q : List P2} {gp op N : Nat} {w : World} {s : Int} (hql : q.length = N) (hqc : gp < w.heap.size ∧ ∀ k, (h : k < q.length) → w.cell? ⟨gp, op + k * 2, none⟩ = some (.int .i64 q[k].1) ∧ w.cell? ⟨gp, op + k * 2 + 1, none⟩ = some (.int .i64 q[k].2)) (hwf : WfP q) (e : W3) (h1 : 0 ≤ e.1 ∧ e.1 < N) (h2 : 0 ≤ e.2.1 ∧ e.2.1 < N) (W : World) (hB : Below w.heap.size w W) :
    Calls Try.prog 68 #[.agg #[.pointer (some ⟨gp, op + e.1.toNat * 2, none⟩), .pointer (some ⟨gp, op + e.2.1.toNat * 2, none⟩), .int .i64 (rOfN e.2.2 s), .int .i64 (rOfD e.2.2 s)]] W fun en w' => en = .returned (.agg #[.int .i64 (pwE s q e).1, .int .i64 (pwE s q e).2]) ∧ Below W.heap.size W w' := by
  have l1 : e.1.toNat < q.length := by omega
  have l2 : e.2.1.toNat < q.length := by omega
  have e1 : getP q e.1 = q[e.1.toNat] := by simp [getP, l1]
  have e2 : getP q e.2.1 = q[e.2.1.toNat] := by simp [getP, l2]
  obtain ⟨a0, a1⟩ := hqc.2 _ l1
  obtain ⟨b0, b1⟩ := hqc.2 _ l2
  rw [← e1] at a0 a1
  rw [← e2] at b0 b1
  have i1 := hwf _ l1
  have i2 := hwf _ l2
  rw [← e1] at i1
  rw [← e2] at i2
  exact impl_power gp _ _ _ _ _ _ _ _ W ((hB.cell (p := ⟨gp, _, none⟩) hqc.1).trans a0) ((hB.cell (p := ⟨gp, _, none⟩) hqc.1).trans a1) ((hB.cell (p := ⟨gp, _, none⟩) hqc.1).trans b0) ((hB.cell (p := ⟨gp, _, none⟩) hqc.1).trans b1) i1 i2 (rOf_in _ _)
theorem sum_at {s : Int} {q : List P2} {ws : List W3} {k : Nat} (h : k < ws.length) (W : World) : Calls Try.prog 22 #[.agg #[.int .i64 (powK s q ws k).1, .int .i64 (powK s q ws k).2], .agg #[.int .i64 (pwE s q ws[k]).1, .int .i64 (pwE s q ws[k]).2]] W fun en w' => en = .returned (.agg #[.int .i64 (powK s q ws (k + 1)).1, .int .i64 (powK s q ws (k + 1)).2]) ∧ Below W.heap.size W w' :=
  c_sum (powK_succ s q ws k h).symm (powK_in s q ws k (by omega)) (times_in' _ _ _ _) W
theorem set2 {W : World} {S : Nat} {a b c d : Int} (h0 : W.cell? ⟨S, 0, none⟩ = some (.int .i64 c)) (h1 : W.cell? ⟨S, 1, none⟩ = some (.int .i64 d)) (hf : ∀ o, W.frozen? ⟨S, o, none⟩ = false) :
    ((W.setCell ⟨S, 0, none⟩ (.int .i64 a)).setCell ⟨S, 1, none⟩ (.int .i64 b)).cell? ⟨S, 0, none⟩ = some (.int .i64 a) ∧ ((W.setCell ⟨S, 0, none⟩ (.int .i64 a)).setCell ⟨S, 1, none⟩ (.int .i64 b)).cell? ⟨S, 1, none⟩ = some (.int .i64 b) ∧ (∀ o, ((W.setCell ⟨S, 0, none⟩ (.int .i64 a)).setCell ⟨S, 1, none⟩ (.int .i64 b)).frozen? ⟨S, o, none⟩ = false) ∧ (∀ x o, x ≠ S → ((W.setCell ⟨S, 0, none⟩ (.int .i64 a)).setCell ⟨S, 1, none⟩ (.int .i64 b)).cell? ⟨x, o, none⟩ = W.cell? ⟨x, o, none⟩) ∧ ((W.setCell ⟨S, 0, none⟩ (.int .i64 a)).setCell ⟨S, 1, none⟩ (.int .i64 b)).heap.size = W.heap.size := by
  refine ⟨by simp [go_sem, h0], by simp [go_sem, h1], fun o => by simp [go_sem, hf], fun x o hx => ?_, by simp [World.setCell]⟩
  rw [World.cell?_setCell_other _ _ _ _ (fun e => hx (by injection e with e1; exact e1.symm)), World.cell?_setCell_other _ _ _ _ (fun e => hx (by injection e with e1; exact e1.symm))]
theorem c_rOf01 (w : World) : Calls Try.prog 20 #[.int .i64 0, .int .i64 1] w fun e w' => e = .returned (.agg #[.int .i64 0, .int .i64 1]) ∧ Below w.heap.size w w' := by
  have h := impl_rOf 0 1 w (by omega) (by omega) (by omega) (by omega)
  rw [show rOfN 0 1 = 0 by decide, show rOfD 0 1 = 1 by decide] at h
  exact h
set_option maxRecDepth 8000 in
set_option maxHeartbeats 12800000 in
theorem impl_powOf_no1 (n e s : Int) (v pv : Value) (ws : List W3) (w : World) (hr : ReadsW w v ws) (hb : netB n e s ws = false) :
    Calls Try.prog 25 #[.agg #[.int .i64 n, .int .i64 e, .int .i64 s, v], pv] w fun en w' => en = .returned (.tuple #[.agg #[.int .i64 0, .int .i64 0], .bool false]) ∧ Below w.heap.size w w' := by
  have hok := impl_netOk n e s v ws _ (hr.later (show Below w.heap.size w ((w.alloc (.cells #[.int .i64 n, .int .i64 e, .int .i64 s, v] 25)).alloc (.cells #[.int .i64 0, .int .i64 0] 32)) by (repeat (first | exact Below.refl _ _ | (refine Below.setCell ?_ (by (first | exact Nat.le_refl _ | omega | (simp <;> omega) | simp)) _) | (refine Below.alloc ?_ (by (first | exact Nat.le_refl _ | omega | (simp <;> omega) | simp)) _) | (refine below_draws ?_ _)))))
  rw [hb] at hok
  obtain ⟨p, cap, rfl⟩ := hr.shape
  clear hr hb
  go_enter Try.func25, Try.ntmps25
  go_wp2_with fail
  refine hok.mono ?_
  rintro en w1 ⟨rfl, B1⟩
  obtain ⟨hc1, hf1⟩ := bcell B1
  have S1 := B1.size
  try simp at S1
  try (have _L1w : w.heap.size < w1.heap.size := by omega)
  have _M1w : w.heap.size ≤ w1.heap.size := by omega
  try (have _P1w_1 : w.heap.size + 1 < w1.heap.size := by omega)
  try (have _P1w_2 : w.heap.size + 1 + 1 < w1.heap.size := by omega)
  try (have _P1w_3 : w.heap.size + 1 + 1 + 1 < w1.heap.size := by omega)
  go_wp2
  exact bodyPost_ret (v := (.tuple #[.agg #[.int .i64 0, .int .i64 0], .bool false])) (by simp (maxDischargeDepth := 8) [results, Try.results25, go_sem, *]) rfl ⟨rfl, by (repeat (first | exact Below.refl _ _ | (refine Below.setCell ?_ (by (first | exact Nat.le_refl _ | omega | (simp <;> omega) | simp)) _) | (refine Below.alloc ?_ (by (first | exact Nat.le_refl _ | omega | (simp <;> omega) | simp)) _) | (refine below_draws ?_ _) | exact B1 | (refine Below.trans ?_ (Below.mono B1 (by (first | exact Nat.le_refl _ | omega | (simp <;> omega) | simp))))))⟩
set_option maxRecDepth 8000 in
set_option maxHeartbeats 12800000 in
theorem impl_powOf_no2 (n e s : Int) (v : Value) (pp : Option Addr) (m cp : Nat) (ws : List W3) (w : World) (hr : ReadsW w v ws) (hb : netB n e s ws = true) (hm : ¬ (m : Int) = n) :
    Calls Try.prog 25 #[.agg #[.int .i64 n, .int .i64 e, .int .i64 s, v], .slice pp m cp] w fun en w' => en = .returned (.tuple #[.agg #[.int .i64 0, .int .i64 0], .bool false]) ∧ Below w.heap.size w w' := by
  have hok := impl_netOk n e s v ws _ (hr.later (show Below w.heap.size w ((w.alloc (.cells #[.int .i64 n, .int .i64 e, .int .i64 s, v] 25)).alloc (.cells #[.int .i64 0, .int .i64 0] 32)) by (repeat (first | exact Below.refl _ _ | (refine Below.setCell ?_ (by (first | exact Nat.le_refl _ | omega | (simp <;> omega) | simp)) _) | (refine Below.alloc ?_ (by (first | exact Nat.le_refl _ | omega | (simp <;> omega) | simp)) _) | (refine below_draws ?_ _)))))
  rw [hb] at hok
  obtain ⟨p, cap, rfl⟩ := hr.shape
  clear hr hb
  go_enter Try.func25, Try.ntmps25
  go_wp2_with fail
  refine hok.mono ?_
  rintro en w1 ⟨rfl, B1⟩
  obtain ⟨hc1, hf1⟩ := bcell B1
  have S1 := B1.size
  try simp at S1
  try (have _L1w : w.heap.size < w1.heap.size := by omega)
  have _M1w : w.heap.size ≤ w1.heap.size := by omega
  try (have _P1w_1 : w.heap.size + 1 < w1.heap.size := by omega)
  try (have _P1w_2 : w.heap.size + 1 + 1 < w1.heap.size := by omega)
  try (have _P1w_3 : w.heap.size + 1 + 1 + 1 < w1.heap.size := by omega)
  have _ : w1.cell? ⟨w.heap.size, 0, none⟩ = some (.int .i64 n) := by rw [hc1 (w.heap.size) 0 (by first | omega | (simp; done) | (simp; omega))]; first | assumption | (simp; done) | simp [go_sem, *]
  have _ : w1.frozen? ⟨w.heap.size, 0, none⟩ = false := by rw [hf1 (w.heap.size) 0 (by first | omega | (simp; done) | (simp; omega))]; first | assumption | (simp; done) | simp [go_sem, *]
  have _ : w1.cell? ⟨w.heap.size, 1, none⟩ = some (.int .i64 e) := by rw [hc1 (w.heap.size) 1 (by first | omega | (simp; done) | (simp; omega))]; first | assumption | (simp; done) | simp [go_sem, *]
  have _ : w1.frozen? ⟨w.heap.size, 1, none⟩ = false := by rw [hf1 (w.heap.size) 1 (by first | omega | (simp; done) | (simp; omega))]; first | assumption | (simp; done) | simp [go_sem, *]
  have _ : w1.cell? ⟨w.heap.size, 2, none⟩ = some (.int .i64 s) := by rw [hc1 (w.heap.size) 2 (by first | omega | (simp; done) | (simp; omega))]; first | assumption | (simp; done) | simp [go_sem, *]
  have _ : w1.frozen? ⟨w.heap.size, 2, none⟩ = false := by rw [hf1 (w.heap.size) 2 (by first | omega | (simp; done) | (simp; omega))]; first | assumption | (simp; done) | simp [go_sem, *]
  have _ : w1.cell? ⟨w.heap.size, 3, none⟩ = some (.slice p ws.length cap) := by rw [hc1 (w.heap.size) 3 (by first | omega | (simp; done) | (simp; omega))]; first | assumption | (simp; done) | simp [go_sem, *]
  have _ : w1.frozen? ⟨w.heap.size, 3, none⟩ = false := by rw [hf1 (w.heap.size) 3 (by first | omega | (simp; done) | (simp; omega))]; first | assumption | (simp; done) | simp [go_sem, *]
  have _ : w1.cell? ⟨w.heap.size + 1, 0, none⟩ = some (.int .i64 0) := by rw [hc1 (w.heap.size + 1) 0 (by first | omega | (simp; done) | (simp; omega))]; first | assumption | (simp; done) | simp [go_sem, *]
  have _ : w1.frozen? ⟨w.heap.size + 1, 0, none⟩ = false := by rw [hf1 (w.heap.size + 1) 0 (by first | omega | (simp; done) | (simp; omega))]; first | assumption | (simp; done) | simp [go_sem, *]
  have _ : w1.cell? ⟨w.heap.size + 1, 1, none⟩ = some (.int .i64 0) := by rw [hc1 (w.heap.size + 1) 1 (by first | omega | (simp; done) | (simp; omega))]; first | assumption | (simp; done) | simp [go_sem, *]
  have _ : w1.frozen? ⟨w.heap.size + 1, 1, none⟩ = false := by rw [hf1 (w.heap.size + 1) 1 (by first | omega | (simp; done) | (simp; omega))]; first | assumption | (simp; done) | simp [go_sem, *]
  clear hc1 hf1
  go_wp2
  exact bodyPost_ret (v := (.tuple #[.agg #[.int .i64 0, .int .i64 0], .bool false])) (by simp (maxDischargeDepth := 8) [results, Try.results25, go_sem, *]) rfl ⟨rfl, by (repeat (first | exact Below.refl _ _ | (refine Below.setCell ?_ (by (first | exact Nat.le_refl _ | omega | (simp <;> omega) | simp)) _) | (refine Below.alloc ?_ (by (first | exact Nat.le_refl _ | omega | (simp <;> omega) | simp)) _) | (refine below_draws ?_ _) | exact B1 | (refine Below.trans ?_ (Below.mono B1 (by (first | exact Nat.le_refl _ | omega | (simp <;> omega) | simp))))))⟩
set_option maxRecDepth 8000 in
set_option maxHeartbeats 12800000 in
theorem impl_powOf_no3 (N : Nat) (e s : Int) (v : Value) (pp : Option Addr) (cp : Nat) (ws : List W3) (q : List P2) (w : World) (hr : ReadsW w v ws) (hb : netB N e s ws = true) (hq : ReadsP w (.slice pp N cp) q) (hwf : WfP q) (hok' : allOkP q = false) :
    Calls Try.prog 25 #[.agg #[.int .i64 N, .int .i64 e, .int .i64 s, v], .slice pp N cp] w fun en w' => en = .returned (.tuple #[.agg #[.int .i64 0, .int .i64 0], .bool false]) ∧ Below w.heap.size w w' := by
  have B0 : Below w.heap.size w ((w.alloc (.cells #[.int .i64 N, .int .i64 e, .int .i64 s, v] 25)).alloc (.cells #[.int .i64 0, .int .i64 0] 32)) := by (repeat (first | exact Below.refl _ _ | (refine Below.setCell ?_ (by (first | exact Nat.le_refl _ | omega | (simp <;> omega) | simp)) _) | (refine Below.alloc ?_ (by (first | exact Nat.le_refl _ | omega | (simp <;> omega) | simp)) _) | (refine below_draws ?_ _)))
  have hok := impl_netOk N e s v ws _ (hr.later B0)
  rw [hb] at hok
  obtain ⟨p, cap, rfl⟩ := hr.shape
  have cAll := fun (w' : World) (h : Below w.heap.size w w') => impl_allOk _ q w' (hq.later h) hwf
  rw [hok'] at cAll
  have HAll := Lib.hid cAll
  clear hr hb hq hwf hok' cAll
  go_enter Try.func25, Try.ntmps25
  go_wp2_with fail
  refine hok.mono ?_
  rintro en w1 ⟨rfl, B1⟩
  have HB1 := Lib.hid (show Below w.heap.size w w1 by (repeat (first | exact Below.refl _ _ | (refine Below.setCell ?_ (by (first | exact Nat.le_refl _ | omega | (simp <;> omega) | simp)) _) | (refine Below.alloc ?_ (by (first | exact Nat.le_refl _ | omega | (simp <;> omega) | simp)) _) | (refine below_draws ?_ _) | exact B1 | (refine Below.trans ?_ (Below.mono B1 (by (first | exact Nat.le_refl _ | omega | (simp <;> omega) | simp)))))))
  obtain ⟨hc1, hf1⟩ := bcell B1
  have S1 := B1.size
  try simp at S1
  try (have _L1w : w.heap.size < w1.heap.size := by omega)
  have _M1w : w.heap.size ≤ w1.heap.size := by omega
  try (have _P1w_1 : w.heap.size + 1 < w1.heap.size := by omega)
  try (have _P1w_2 : w.heap.size + 1 + 1 < w1.heap.size := by omega)
  try (have _P1w_3 : w.heap.size + 1 + 1 + 1 < w1.heap.size := by omega)
  have _ : w1.cell? ⟨w.heap.size, 0, none⟩ = some (.int .i64 N) := by rw [hc1 (w.heap.size) 0 (by first | omega | (simp; done) | (simp; omega))]; first | assumption | (simp; done) | simp [go_sem, *]
  have _ : w1.frozen? ⟨w.heap.size, 0, none⟩ = false := by rw [hf1 (w.heap.size) 0 (by first | omega | (simp; done) | (simp; omega))]; first | assumption | (simp; done) | simp [go_sem, *]
  have _ : w1.cell? ⟨w.heap.size, 1, none⟩ = some (.int .i64 e) := by rw [hc1 (w.heap.size) 1 (by first | omega | (simp; done) | (simp; omega))]; first | assumption | (simp; done) | simp [go_sem, *]
  have _ : w1.frozen? ⟨w.heap.size, 1, none⟩ = false := by rw [hf1 (w.heap.size) 1 (by first | omega | (simp; done) | (simp; omega))]; first | assumption | (simp; done) | simp [go_sem, *]
  have _ : w1.cell? ⟨w.heap.size, 2, none⟩ = some (.int .i64 s) := by rw [hc1 (w.heap.size) 2 (by first | omega | (simp; done) | (simp; omega))]; first | assumption | (simp; done) | simp [go_sem, *]
  have _ : w1.frozen? ⟨w.heap.size, 2, none⟩ = false := by rw [hf1 (w.heap.size) 2 (by first | omega | (simp; done) | (simp; omega))]; first | assumption | (simp; done) | simp [go_sem, *]
  have _ : w1.cell? ⟨w.heap.size, 3, none⟩ = some (.slice p ws.length cap) := by rw [hc1 (w.heap.size) 3 (by first | omega | (simp; done) | (simp; omega))]; first | assumption | (simp; done) | simp [go_sem, *]
  have _ : w1.frozen? ⟨w.heap.size, 3, none⟩ = false := by rw [hf1 (w.heap.size) 3 (by first | omega | (simp; done) | (simp; omega))]; first | assumption | (simp; done) | simp [go_sem, *]
  have _ : w1.cell? ⟨w.heap.size + 1, 0, none⟩ = some (.int .i64 0) := by rw [hc1 (w.heap.size + 1) 0 (by first | omega | (simp; done) | (simp; omega))]; first | assumption | (simp; done) | simp [go_sem, *]
  have _ : w1.frozen? ⟨w.heap.size + 1, 0, none⟩ = false := by rw [hf1 (w.heap.size + 1) 0 (by first | omega | (simp; done) | (simp; omega))]; first | assumption | (simp; done) | simp [go_sem, *]
  have _ : w1.cell? ⟨w.heap.size + 1, 1, none⟩ = some (.int .i64 0) := by rw [hc1 (w.heap.size + 1) 1 (by first | omega | (simp; done) | (simp; omega))]; first | assumption | (simp; done) | simp [go_sem, *]
  have _ : w1.frozen? ⟨w.heap.size + 1, 1, none⟩ = false := by rw [hf1 (w.heap.size + 1) 1 (by first | omega | (simp; done) | (simp; omega))]; first | assumption | (simp; done) | simp [go_sem, *]
  clear hc1 hf1
  go_wp2_with fail
  refine (HAll.out _ HB1.out).mono ?_
  rintro en w2 ⟨rfl, B2⟩
  obtain ⟨hc2, hf2⟩ := bcell B2
  have S2 := B2.size
  try simp at S2
  try (have _L2w : w.heap.size < w2.heap.size := by omega)
  have _M2w : w.heap.size ≤ w2.heap.size := by omega
  try (have _P2w_1 : w.heap.size + 1 < w2.heap.size := by omega)
  try (have _P2w_2 : w.heap.size + 1 + 1 < w2.heap.size := by omega)
  try (have _P2w_3 : w.heap.size + 1 + 1 + 1 < w2.heap.size := by omega)
  try (have _L2w1 : w1.heap.size < w2.heap.size := by omega)
  have _M2w1 : w1.heap.size ≤ w2.heap.size := by omega
  try (have _P2w1_1 : w1.heap.size + 1 < w2.heap.size := by omega)
  try (have _P2w1_2 : w1.heap.size + 1 + 1 < w2.heap.size := by omega)
  try (have _P2w1_3 : w1.heap.size + 1 + 1 + 1 < w2.heap.size := by omega)
  go_wp2
  exact bodyPost_ret (v := (.tuple #[.agg #[.int .i64 0, .int .i64 0], .bool false])) (by simp (maxDischargeDepth := 8) [results, Try.results25, go_sem, *]) rfl ⟨rfl, by (repeat (first | exact Below.refl _ _ | (refine Below.setCell ?_ (by (first | exact Nat.le_refl _ | omega | (simp <;> omega) | simp)) _) | (refine Below.alloc ?_ (by (first | exact Nat.le_refl _ | omega | (simp <;> omega) | simp)) _) | (refine below_draws ?_ _) | exact B1 | (refine Below.trans ?_ (Below.mono B1 (by (first | exact Nat.le_refl _ | omega | (simp <;> omega) | simp)))) | exact B2 | (refine Below.trans ?_ (Below.mono B2 (by (first | exact Nat.le_refl _ | omega | (simp <;> omega) | simp))))))⟩
set_option maxRecDepth 8000 in
set_option maxHeartbeats 12800000 in
theorem impl_powOf_yes (N : Nat) (e s : Int) (v : Value) (ws : List W3) (q : List P2) (gp op cp : Nat) (w : World) (hb : netB N e s ws = true) (hr : ReadsW w v ws) (hw : ws.length ≤ 20) (hql : q.length = N) (hqr : ReadsP w (.slice (some ⟨gp, op, none⟩) N cp) q) (hqc : gp < w.heap.size ∧ ∀ k, (h : k < q.length) → w.cell? ⟨gp, op + k * 2, none⟩ = some (.int .i64 q[k].1) ∧ w.cell? ⟨gp, op + k * 2 + 1, none⟩ = some (.int .i64 q[k].2)) (hwf : WfP q) (hok : allOkP q = true) :
    Calls Try.prog 25 #[.agg #[.int .i64 N, .int .i64 e, .int .i64 s, v], .slice (some ⟨gp, op, none⟩) N cp] w fun en w' => en = .returned (.tuple #[.agg #[.int .i64 (powK s q ws ws.length).1, .int .i64 (powK s q ws ws.length).2], .bool (rOk (powK s q ws ws.length).1 (powK s q ws ws.length).2)]) ∧ Below w.heap.size w w' := by
  obtain ⟨hN1, h5, hwv⟩ := net_nat hb
  obtain ⟨s1, s2⟩ := net_scale hb
  obtain ⟨p, cap, rfl⟩ := hr.shape
  obtain ⟨W1, hW1⟩ : ∃ W1, W1 = (w.alloc (.cells #[.int .i64 N, .int .i64 e, .int .i64 s, .slice p ws.length cap] 25)).alloc (.cells #[.int .i64 0, .int .i64 0] 32) := ⟨_, rfl⟩
  have hsW : W1.heap.size = w.heap.size + 1 + 1 := by rw [hW1]; simp
  have B0 : Below w.heap.size w W1 := by rw [hW1]; (repeat (first | exact Below.refl _ _ | (refine Below.setCell ?_ (by (first | exact Nat.le_refl _ | omega | (simp <;> omega) | simp)) _) | (refine Below.alloc ?_ (by (first | exact Nat.le_refl _ | omega | (simp <;> omega) | simp)) _) | (refine below_draws ?_ _)))
  have hbox : boxN W1 w.heap.size N e s (.slice p ws.length cap) := by rw [hW1]; exact (boxN.new w N e s _ 25).later ((Below.refl _ _).alloc (Nat.le_refl _) _)
  have z0 : W1.cell? ⟨w.heap.size + 1, 0, none⟩ = some (.int .i64 0) := by rw [hW1]; simp [go_sem]
  have z1 : W1.cell? ⟨w.heap.size + 1, 1, none⟩ = some (.int .i64 0) := by rw [hW1]; simp [go_sem]
  have zf : ∀ o, W1.frozen? ⟨w.heap.size + 1, o, none⟩ = false := by intro o; rw [hW1]; simp [go_sem]
  have cOk := impl_netOk N e s _ ws W1 (hr.later B0)
  rw [hb] at cOk
  have cAll := fun (w' : World) (h : Below w.heap.size w w') => impl_allOk _ q w' (hqr.later h) hwf
  rw [hok] at cAll
  have cBr := fun (w' : World) (h : Below w.heap.size w w') => impl_branches N e s _ ws gp op cp w' hb (hr.later h) hw
  have HBX := Lib.hid hbox; clear hbox
  have HZ := Lib.hid (And.intro z0 (And.intro z1 zf)); clear z0 z1 zf
  have HAll := Lib.hid cAll; clear cAll
  have HBr := Lib.hid cBr; clear cBr
  have HQ := Lib.hid hqc; clear hqc
  have HW := Lib.hid hwf; clear hwf
  have HWV := Lib.hid hwv; clear hwv
  have hlW : w.heap.size + 1 < W1.heap.size := by omega
  have HSW := Lib.hid hsW
  clear hb hr hqr hok hsW
  go_enter Try.func25, Try.ntmps25
  go_wp2_with fail
  rw [← hW1]
  refine cOk.mono ?_
  rintro en w1 ⟨rfl, B1⟩
  clear cOk hW1
  have hsz1 := B1.size
  have B1w : Below w.heap.size w w1 := B0.trans (B1.mono (by omega))
  obtain ⟨x0, x1, x2, x3⟩ := HBX.out.below B1 (by omega)
  go_wp2_with fail
  refine (HAll.out _ B1w).mono ?_
  rintro en w2 ⟨rfl, B2⟩
  have hsz2 := B2.size
  have B2w : Below w.heap.size w w2 := B1w.trans (B2.mono (by omega))
  have B12 : Below W1.heap.size W1 w2 := B1.trans (B2.mono hsz1)
  clear x0 x1 x2 x3
  obtain ⟨x0, x1, x2, x3⟩ := HBX.out.below B12 (by omega)
  go_wp2_with fail
  refine (c_rOf01 _).mono ?_
  rintro en w3 ⟨rfl, B3⟩
  have hsz3 := B3.size
  have B3w : Below w.heap.size w w3 := B2w.trans (B3.mono (by omega))
  have B13 : Below W1.heap.size W1 w3 := B12.trans (B3.mono (by omega))
  clear x0 x1 x2 x3
  obtain ⟨x0, x1, x2, x3⟩ := HBX.out.below B13 (by omega)
  have ne3 : w.heap.size ≠ w3.heap.size := by omega
  have y0 := fun ob => (World.cell?_alloc_old w3 ob ⟨w.heap.size, 0, none⟩ ne3).trans x0
  have y1 := fun ob => (World.cell?_alloc_old w3 ob ⟨w.heap.size, 1, none⟩ ne3).trans x1
  have y2 := fun ob => (World.cell?_alloc_old w3 ob ⟨w.heap.size, 2, none⟩ ne3).trans x2
  have y3 := fun ob => (World.cell?_alloc_old w3 ob ⟨w.heap.size, 3, none⟩ ne3).trans x3
  go_wp2_with fail
  refine (HBr.out _ (by have h := B3w; (repeat (first | exact Below.refl _ _ | (refine Below.setCell ?_ (by (first | exact Nat.le_refl _ | omega | (simp <;> omega) | simp)) _) | (refine Below.alloc ?_ (by (first | exact Nat.le_refl _ | omega | (simp <;> omega) | simp)) _) | (refine below_draws ?_ _) | exact h | (refine Below.trans ?_ (Below.mono h (by (first | exact Nat.le_refl _ | omega | (simp <;> omega) | simp)))))))).mono ?_
  rintro en w4 ⟨vb, rfl, own4, B4⟩
  clear y0 y1 y2 y3 x0 x1 x2 x3
  obtain ⟨pv, cv, rfl, hbr⟩ := branches_at own4
  have hsA : (w3.alloc (.cells #[.int .i64 0, .int .i64 1] 32)).heap.size = w3.heap.size + 1 := by simp
  have hsz4 := B4.size
  rw [hsA] at hsz4 B4
  have g0 : w4.cell? ⟨w3.heap.size, 0, none⟩ = some (.int .i64 0) := (B4.cell (p := ⟨w3.heap.size, 0, none⟩) (Nat.lt_succ_self _)).trans (by simp [go_sem])
  have g1 : w4.cell? ⟨w3.heap.size, 1, none⟩ = some (.int .i64 1) := (B4.cell (p := ⟨w3.heap.size, 1, none⟩) (Nat.lt_succ_self _)).trans (by simp [go_sem])
  have gf : ∀ o, w4.frozen? ⟨w3.heap.size, o, none⟩ = false := fun o => (B4.frozen (p := ⟨w3.heap.size, o, none⟩) (Nat.lt_succ_self _)).trans (by simp [go_sem])
  have B34 : Below w3.heap.size w3 w4 := ((Below.refl _ _).alloc (Nat.le_refl _) _).trans (B4.mono (Nat.le_succ _))
  have HBR : Hid (∀ k, (hk : k < ws.length) → ∃ g, pv = some ⟨g, 0, none⟩ ∧ w3.heap.size + 1 ≤ g ∧ g < w4.heap.size ∧ w4.cell? ⟨g, k * 4, none⟩ = some (.pointer (some ⟨gp, op + ws[k].1.toNat * 2, none⟩)) ∧ w4.cell? ⟨g, k * 4 + 1, none⟩ = some (.pointer (some ⟨gp, op + ws[k].2.1.toNat * 2, none⟩)) ∧ w4.cell? ⟨g, k * 4 + 2, none⟩ = some (.int .i64 (rOfN ws[k].2.2 s)) ∧ w4.cell? ⟨g, k * 4 + 3, none⟩ = some (.int .i64 (rOfD ws[k].2.2 s))) := Lib.hid (by rw [hsA] at hbr; exact hbr)
  have HG : Hid (w4.cell? ⟨w3.heap.size, 0, none⟩ = some (.int .i64 (powK s q ws 0).1) ∧ w4.cell? ⟨w3.heap.size, 1, none⟩ = some (.int .i64 (powK s q ws 0).2) ∧ ∀ o, w4.frozen? ⟨w3.heap.size, o, none⟩ = false) := Lib.hid (by rw [powK_zero]; exact ⟨g0, g1, gf⟩)
  have HB34 := Lib.hid B34
  clear own4 hbr g0 g1 gf B34 hsA ne3
  go_wp2
  go_loopw [30] (fun iv wr => ∃ k : Nat, k ≤ ws.length ∧ iv = .int .i64 k ∧ Hid (wr.cell? ⟨w3.heap.size, 0, none⟩ = some (.int .i64 (powK s q ws k).1) ∧ wr.cell? ⟨w3.heap.size, 1, none⟩ = some (.int .i64 (powK s q ws k).2) ∧ ∀ o, wr.frozen? ⟨w3.heap.size, o, none⟩ = false) ∧ Hid (Below w3.heap.size w3 wr) ∧ Hid (w4.heap.size ≤ wr.heap.size ∧ ∀ b o, b < w4.heap.size → b ≠ w3.heap.size → wr.cell? ⟨b, o, none⟩ = w4.cell? ⟨b, o, none⟩)) (fun iv _ => ws.length - (intOf iv).toNat)
  case atStart => exact ⟨0, Nat.zero_le _, rfl, HG, HB34, Lib.hid ⟨Nat.le_refl _, fun _ _ _ _ => rfl⟩⟩
  case round =>
    obtain ⟨k, hk, rfl, hS, hB, hK⟩ := hrel
    by_cases hlt : k < ws.length
    · obtain ⟨g, rfl, hgb, hgl, c0, c1, c2, c3⟩ := HBR.out k hlt
      have hgn : g ≠ w3.heap.size := by omega
      rw [← hK.out.2 g _ hgl hgn] at c0 c1 c2 c3
      obtain ⟨S0, S1, SF⟩ := hS.out
      have hsz := hK.out.1
      have hl3 : w3.heap.size < wr.heap.size := by omega
      have neW : w3.heap.size ≠ wr.heap.size := by omega
      have t0 := fun ob => (World.cell?_alloc_old wr ob ⟨w3.heap.size, 0, none⟩ neW).trans S0
      have t1 := fun ob => (World.cell?_alloc_old wr ob ⟨w3.heap.size, 1, none⟩ neW).trans S1
      obtain ⟨v1, v2, v3, v4, v5⟩ := HWV.out.1 k hlt
      have hBX : Below wr.heap.size wr (wr.alloc (.cells #[.pointer (some ⟨gp, op + ws[k].1.toNat * 2, none⟩), .pointer (some ⟨gp, op + ws[k].2.1.toNat * 2, none⟩), .int .i64 (rOfN ws[k].2.2 s), .int .i64 (rOfD ws[k].2.2 s)] 88)).drew := below_draws ((Below.refl _ _).alloc (Nat.le_refl _) _) 1
      have h3r := hB.out.size
      have hBw : Below w.heap.size w wr := B3w.trans (hB.out.mono B3w.size)
      have cP := power_at (s := s) hql HQ.out HW.out ws[k] ⟨v1, by omega⟩ ⟨by omega, v3⟩ _ (hBw.trans (hBX.mono hBw.size))
      have cS := sum_at (s := s) (q := q) hlt
      go_wp2
      go_region_law
        (first
          | (refine step_call (R := fun v w' => v = .agg #[.int .i64 (pwE s q ws[k]).1, .int .i64 (pwE s q ws[k]).2] ∧ Below _ _ w') (cP.mono (fun en w' h => ⟨_, h.1, rfl, h.2⟩)) (by rfl) (by go_simp) ?_; rintro v w5 ⟨rfl, B5⟩; have E5 := hBX.trans (B5.mono hBX.size); have t5 := (E5.cell (p := ⟨w3.heap.size, 0, none⟩) hl3).trans S0; have t6 := (E5.cell (p := ⟨w3.heap.size, 1, none⟩) hl3).trans S1)
          | (refine step_call (R := fun v w' => v = .agg #[.int .i64 (powK s q ws (k + 1)).1, .int .i64 (powK s q ws (k + 1)).2] ∧ Below _ _ w') ((cS _).mono (fun en w' h => ⟨_, h.1, rfl, h.2⟩)) (by rfl) (by go_simp) ?_; rintro v w6 ⟨rfl, B6⟩; have E6 := E5.trans (B6.mono E5.size); have t7 := (E6.cell (p := ⟨w3.heap.size, 0, none⟩) hl3).trans S0; have t8 := (E6.cell (p := ⟨w3.heap.size, 1, none⟩) hl3).trans S1; have t9 : ∀ o, w6.frozen? ⟨w3.heap.size, o, none⟩ = false := fun o => (E6.frozen (p := ⟨w3.heap.size, o, none⟩) hl3).trans (SF o)))
      all_goals
        obtain ⟨n0, n1, nf, nk, ns⟩ := set2 (a := (powK s q ws (k + 1)).1) (b := (powK s q ws (k + 1)).2) t7 t8 t9
        have HS2 := Lib.hid (And.intro n0 (And.intro n1 nf))
        have HB2 := Lib.hid (((hB.out.trans (E6.mono h3r)).setCell (p := ⟨w3.heap.size, 0, none⟩) (Nat.le_refl _) (.int .i64 (powK s q ws (k + 1)).1)).setCell (p := ⟨w3.heap.size, 1, none⟩) (Nat.le_refl _) (.int .i64 (powK s q ws (k + 1)).2))
        have HK2 : Hid (w4.heap.size ≤ ((w6.setCell ⟨w3.heap.size, 0, none⟩ (.int .i64 (powK s q ws (k + 1)).1)).setCell ⟨w3.heap.size, 1, none⟩ (.int .i64 (powK s q ws (k + 1)).2)).heap.size ∧ ∀ b o, b < w4.heap.size → b ≠ w3.heap.size → ((w6.setCell ⟨w3.heap.size, 0, none⟩ (.int .i64 (powK s q ws (k + 1)).1)).setCell ⟨w3.heap.size, 1, none⟩ (.int .i64 (powK s q ws (k + 1)).2)).cell? ⟨b, o, none⟩ = w4.cell? ⟨b, o, none⟩) := Lib.hid ⟨by rw [ns]; exact Nat.le_trans hsz E6.size, fun b o hb hn => ((nk b o hn).trans (E6.cell (p := ⟨b, o, none⟩) (Nat.lt_of_lt_of_le hb hsz))).trans (hK.out.2 b o hb hn)⟩
        clear n0 n1 nf nk ns t7 t8 t9 t5 t6 E5 E6 B5 B6 t0 t1 cP cS S0 S1 SF c0 c1 c2 c3 neW hBX hBw
        go_wp2
        go_roundw
        case rel => exact ⟨k + 1, by omega, by go_num, HS2, HB2, HK2⟩
        case measure => simp [intOf]; omega
    · obtain rfl : k = ws.length := by omega
      obtain ⟨S0, S1, SF⟩ := hS.out
      have h3r := hB.out.size
      have hsz := hK.out.1
      have hl3 : w3.heap.size < wr.heap.size := by omega
      have hBw : Below w.heap.size w wr := B3w.trans (hB.out.mono B3w.size)
      have B1r : Below W1.heap.size W1 wr := B13.trans (hB.out.mono B13.size)
      obtain ⟨z0, z1, zf⟩ := HZ.out
      have hlr : w.heap.size + 1 < wr.heap.size := Nat.lt_of_lt_of_le hlW B1r.size
      have r0 := (B1r.cell (p := ⟨w.heap.size + 1, 0, none⟩) hlW).trans z0
      have r1 := (B1r.cell (p := ⟨w.heap.size + 1, 1, none⟩) hlW).trans z1
      have rf := fun o => (B1r.frozen (p := ⟨w.heap.size + 1, o, none⟩) hlW).trans (zf o)
      obtain ⟨⟨i1, i2⟩, i3, i4⟩ := powK_in s q ws ws.length (Nat.le_refl _)
      have cK := fun W => impl_rOk (powK s q ws ws.length).1 (powK s q ws ws.length).2 W i1 i2 i3 i4
      go_wp2
      go_region_law
        (refine step_call (R := fun v w' => v = .bool (rOk (powK s q ws ws.length).1 (powK s q ws ws.length).2) ∧ Below _ _ w') ((cK wr.drew).mono (fun en w' h => ⟨_, h.1, rfl, h.2⟩)) (by rfl) (by go_simp) ?_; rintro v w5 ⟨rfl, B5⟩; have E5 : Below wr.heap.size wr w5 := (below_draws (Below.refl _ wr) 1).trans B5; have t5 := (E5.cell (p := ⟨w3.heap.size, 0, none⟩) hl3).trans S0; have t6 := (E5.cell (p := ⟨w3.heap.size, 1, none⟩) hl3).trans S1; have t7 := (E5.cell (p := ⟨w.heap.size + 1, 0, none⟩) hlr).trans r0; have t8 := (E5.cell (p := ⟨w.heap.size + 1, 1, none⟩) hlr).trans r1; have t9 : ∀ o, w5.frozen? ⟨w.heap.size + 1, o, none⟩ = false := fun o => (E5.frozen (p := ⟨w.heap.size + 1, o, none⟩) hlr).trans (rf o))
      all_goals
        obtain ⟨n0, n1, nf, nk, ns⟩ := set2 (a := (powK s q ws ws.length).1) (b := (powK s q ws ws.length).2) t7 t8 t9
        have HBB := Lib.hid (((hBw.trans (E5.mono hBw.size)).setCell (p := ⟨w.heap.size + 1, 0, none⟩) (Nat.le_succ _) (.int .i64 (powK s q ws ws.length).1)).setCell (p := ⟨w.heap.size + 1, 1, none⟩) (Nat.le_succ _) (.int .i64 (powK s q ws ws.length).2))
        clear nf nk ns t7 t8 t9 t5 t6 E5 B5 S0 S1 SF r0 r1 rf cK z0 z1 zf
        go_wp2
        exact bodyPost_ret (v := (.tuple #[.agg #[.int .i64 (powK s q ws ws.length).1, .int .i64 (powK s q ws ws.length).2], .bool (rOk (powK s q ws ws.length).1 (powK s q ws ws.length).2)])) (by simp (maxDischargeDepth := 8) [results, Try.results25, go_sem, *]) rfl ⟨rfl, HBB.out⟩
end Go.Proofs.Ytpkddaapffamiaa

namespace Go.Proofs.Ytpkddaapffamiaa
open Go.RowKit

theorem wires_le {N : Nat} {e s : Int} {ws : List W3} (h : netB N e s ws = true) : ws.length ≤ 20 := by
  obtain ⟨_, h5, hw⟩ := net_nat h
  have hnd : (ws.map fun e => e.1 * 5 + e.2.1).Nodup := by
    rw [List.nodup_iff_pairwise_ne, List.pairwise_map]
    refine (pairW hw).imp_of_mem fun {a b} ha hb hab => ?_
    obtain ⟨v1, v2, v3, v4, v5⟩ := hw.mem ha
    obtain ⟨u1, u2, u3, u4, u5⟩ := hw.mem hb
    unfold wLt at hab
    omega
  have := queue_le (n := 20) hnd (fun v hv => by
    obtain ⟨e, he, rfl⟩ := List.mem_map.1 hv
    obtain ⟨v1, v2, v3, v4, v5⟩ := hw.mem he
    omega)
  simpa using this
theorem powR_no {n e s : Int} {ws : List W3} {q : List P2} (h : ¬ (netB n e s ws = true ∧ (q.length : Int) = n ∧ allOkP q = true)) : powR n e s ws q = (0, 0, false) := by unfold powR; rw [if_neg h]
theorem powR_yes {N : Nat} {e s : Int} {ws : List W3} {q : List P2} (h1 : netB N e s ws = true) (h2 : q.length = N) (h3 : allOkP q = true) : powR N e s ws q = ((powK s q ws ws.length).1, (powK s q ws ws.length).2, rOk (powK s q ws ws.length).1 (powK s q ws ws.length).2) := by
  unfold powR; rw [if_pos ⟨h1, by rw [h2], h3⟩]
theorem powR_in (n e s : Int) (ws : List W3) (q : List P2) : In (powR n e s ws q).1 ∧ In (powR n e s ws q).2.1 := by
  unfold powR
  split
  · exact powK_in s q ws _ (Nat.le_refl _)
  · simp [In]
theorem impl_powOf (n e s : Int) (v pv : Value) (ws : List W3) (q : List P2) (w : World) (hr : ReadsW w v ws) (hq : ReadsP w pv q) (hwf : WfP q) :
    Calls Try.prog 25 #[.agg #[.int .i64 n, .int .i64 e, .int .i64 s, v], pv] w fun en w' => en = .returned (.tuple #[.agg #[.int .i64 (powR n e s ws q).1, .int .i64 (powR n e s ws q).2.1], .bool (powR n e s ws q).2.2]) ∧ Below w.heap.size w w' := by
  cases hb : netB n e s ws
  · rw [powR_no (fun h => by rw [hb] at h; exact absurd h.1 (by simp))]
    exact impl_powOf_no1 n e s v pv ws w hr hb
  obtain ⟨N, rfl⟩ : ∃ N : Nat, n = N := ⟨n.toNat, by have := net_n hb; omega⟩
  obtain ⟨p, cap, rfl⟩ := hq.shape
  by_cases hl : q.length = N
  case neg =>
    have hm : ¬ ((q.length : Nat) : Int) = (N : Int) := by omega
    rw [powR_no (fun h => hm h.2.1)]
    exact impl_powOf_no2 N e s v p q.length cap ws w hr hb hm
  cases ha : allOkP q
  · rw [powR_no (fun h => by rw [ha] at h; exact absurd h.2.2 (by simp))]
    rw [hl] at hq ⊢
    exact impl_powOf_no3 N e s v p cap ws q w hr hb hq hwf ha
  rw [powR_yes hb hl ha]
  obtain ⟨hN1, h5, hwv⟩ := net_nat hb
  obtain ⟨g, o, c, hv, hg, hc⟩ := hq.pos (by omega)
  simp only [Value.slice.injEq] at hv
  obtain ⟨rfl, -, rfl⟩ := hv
  rw [hl] at hq ⊢
  exact impl_powOf_yes N e s v ws q g o cap w hb hr (wires_le hb) hl hq ⟨hg, hc⟩ hwf ha
end Go.Proofs.Ytpkddaapffamiaa
