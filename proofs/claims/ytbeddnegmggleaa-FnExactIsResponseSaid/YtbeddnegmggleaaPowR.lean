/-
  The power that potentials dissipate, as it is reckoned; whether all fractions of a list are valid.
-/
import Derived.Test.YtbeddnegmggleaaRats
import Derived.Test.YtbeddnegmggleaaRatCalls
import Derived.Test.YtbeddnegmggleaaResist
import Derived.Test.YtbeddnegmggleaaGLists
namespace Go.Proofs.Ytbeddnegmggleaa
open Go.RowKit

def getP (q : List P2) (k : Int) : P2 := q.getD k.toNat (0, 0)
def dropE (q : List P2) (e : W3) : P2 := rDiff (getP q e.1).1 (getP q e.1).2 (getP q e.2.1).1 (getP q e.2.1).2
def sqE (q : List P2) (e : W3) : P2 := rTimes (dropE q e).1 (dropE q e).2 (dropE q e).1 (dropE q e).2
def pwE (s : Int) (q : List P2) (e : W3) : P2 := rTimes (sqE q e).1 (sqE q e).2 (rOfN e.2.2 s) (rOfD e.2.2 s)
def powK (s : Int) (q : List P2) (ws : List W3) (k : Nat) : P2 := (ws.take k).foldl (fun S e => rSum S.1 S.2 (pwE s q e).1 (pwE s q e).2) (0, 1)
theorem powK_zero (s : Int) (q : List P2) (ws : List W3) : powK s q ws 0 = (0, 1) := by simp [powK]
theorem powK_succ (s : Int) (q : List P2) (ws : List W3) (k : Nat) (h : k < ws.length) : powK s q ws (k + 1) = rSum (powK s q ws k).1 (powK s q ws k).2 (pwE s q ws[k]).1 (pwE s q ws[k]).2 := by
  unfold powK
  rw [List.take_succ_eq_append_getElem h, List.foldl_append]
  rfl
theorem rOf_ok_or (n d : Int) : rOk (rOfN n d) (rOfD n d) = true ∨ (rOfN n d = 0 ∧ rOfD n d = 0) := by
  unfold rOfN rOfD
  cases hb : rOfB n d
  · right; simp
  · left
    have hk : rOk (rNum n d) (rDen n d) = true := by
      unfold rOfB at hb; simp only [Bool.and_eq_true] at hb; exact hb.2
    simpa using hk
theorem sum_ok_or (n d m e : Int) : rOk (rSum n d m e).1 (rSum n d m e).2 = true ∨ rSum n d m e = (0, 0) := by
  unfold rSum
  split
  · rcases rOf_ok_or (n * e + m * d) (d * e) with h | ⟨h1, h2⟩
    · exact .inl h
    · exact .inr (by rw [h1, h2])
  · exact .inr rfl
theorem powK_ok_or (s : Int) (q : List P2) (ws : List W3) : ∀ k, k ≤ ws.length → rOk (powK s q ws k).1 (powK s q ws k).2 = true ∨ powK s q ws k = (0, 0)
  | 0, _ => .inl (by rw [powK_zero]; decide)
  | k + 1, h => by rw [powK_succ s q ws k (by omega)]; exact sum_ok_or _ _ _ _
theorem powK_bad {s : Int} {q : List P2} {ws : List W3} {k : Nat} (hb : rOk (powK s q ws k).1 (powK s q ws k).2 = false) : ∀ m, k ≤ m → m ≤ ws.length → powK s q ws m = (0, 0)
  | 0, h, _ => by
    have : k = 0 := by omega
    subst this
    rw [powK_zero] at hb; exact absurd hb (by decide)
  | m + 1, h, hm => by
    by_cases hk : k = m + 1
    · subst hk
      rcases powK_ok_or s q ws (m + 1) hm with h | h
      · rw [h] at hb; cases hb
      · exact h
    · have ih := powK_bad hb m (by omega) (by omega)
      rw [powK_succ s q ws m (by omega), ih]
      unfold rSum fit4
      rw [show rOk ((0, 0) : P2).1 ((0, 0) : P2).2 = false by decide]
      simp
def allOkP (q : List P2) : Bool := q.all fun x => rOk x.1 x.2
noncomputable def powR (n e s : Int) (ws : List W3) (q : List P2) : Int × Int × Bool := if netB n e s ws = true ∧ (q.length : Int) = n ∧ allOkP q = true then ((powK s q ws ws.length).1, (powK s q ws ws.length).2, rOk (powK s q ws ws.length).1 (powK s q ws ws.length).2) else (0, 0, false)
theorem getP_at (q : List P2) (k : Nat) (h : k < q.length) : getP q k = q[k] := by simp [getP, h]
theorem allOk_get {q : List P2} (h : allOkP q = true) (k : Nat) (hk : k < q.length) : rOk q[k].1 q[k].2 = true := List.all_eq_true.1 h _ (List.getElem_mem hk)
theorem allOk_bad {q : List P2} (h : allOkP q = false) : ∃ k, ∃ hk : k < q.length, rOk q[k].1 q[k].2 = false ∧ ∀ j, (hj : j < k) → rOk (q[j]'(by omega)).1 (q[j]'(by omega)).2 = true := by
  have hx : ∃ x ∈ q, rOk x.1 x.2 = false := by
    unfold allOkP at h
    rw [List.all_eq_false] at h
    obtain ⟨x, hx, hb⟩ := h
    exact ⟨x, hx, by simpa using hb⟩
  obtain ⟨x, hx, hb⟩ := hx
  obtain ⟨k1, hk1, hek⟩ := List.getElem_of_mem hx
  obtain ⟨k0, ⟨h0, he⟩, hmin⟩ := least (fun k => ∃ h : k < q.length, rOk q[k].1 q[k].2 = false) k1 ⟨hk1, by rw [hek]; exact hb⟩
  exact ⟨k0, h0, he, fun j hj => by
    cases hc : rOk (q[j]'(by omega)).1 (q[j]'(by omega)).2
    · exact absurd ⟨by omega, hc⟩ (hmin j hj)
    · rfl⟩
def WfP (q : List P2) : Prop := ∀ k (h : k < q.length), In q[k].1 ∧ In q[k].2
set_option maxHeartbeats 3200000 in
theorem impl_allOk (v : Value) (q : List P2) (w : World) (h : ReadsP w v q) (hw : WfP q) :
    Calls Try.prog 70 #[v] w fun en w' => en = .returned (.bool (allOkP q)) ∧ Below w.heap.size w w' := by
  obtain ⟨p, cap, rfl⟩ := h.shape
  have hm := h.1
  by_cases h0 : q.length = 0
  · have HF : Hid (allOkP q = true) := Lib.hid (by unfold allOkP; rw [List.eq_nil_of_length_eq_zero h0]; rfl)
    rw [h0]
    clear h hm hw h0
    go_enter Try.func70, Try.ntmps70
    go_wp2
    refine wp_loop_rounds 1 ?_
    rw [rounds_succ]
    go_wp2
    go_ret
    exact ⟨ret_b HF.out.symm, Below.refl _ _⟩
  obtain ⟨g, o, c, hv, hg, hc⟩ := h.pos (by omega)
  simp only [Value.slice.injEq] at hv
  obtain ⟨rfl, -, rfl⟩ := hv
  have HC := Lib.hid hc
  have HW := Lib.hid hw
  clear h hw h0 hc
  cases ha : allOkP q
  · obtain ⟨k0, hk0, hbad, hok⟩ := allOk_bad ha
    have HB := Lib.hid hbad
    have HO := Lib.hid hok
    clear ha hbad hok
    go_enter Try.func70, Try.ntmps70
    go_wp2
    go_loopw [7] (fun i wr => ∃ k : Nat, k ≤ k0 ∧ i = .int .i64 k ∧ Hid (Below w.heap.size w wr)) (fun i _ => q.length - (intOf i).toNat)
    case atStart => exact ⟨0, Nat.zero_le _, rfl, Lib.hid (Below.refl _ _)⟩
    case round =>
      obtain ⟨k, hk, rfl, hB⟩ := hrel
      have hlt : k < q.length := by omega
      obtain ⟨c0, c1⟩ := HC.out k hlt
      obtain ⟨i1, i2⟩ := HW.out k hlt
      have hsz := hB.out.size
      rw [← hB.out.cell (p := ⟨g, o + k * 2, none⟩) hg] at c0
      rw [← hB.out.cell (p := ⟨g, o + k * 2 + 1, none⟩) hg] at c1
      have hcall := fun W => impl_rOk q[k].1 q[k].2 W i1.1 i1.2 i2.1 i2.2
      by_cases hkk : k < k0
      · rw [HO.out k hkk] at hcall
        go_wp2_with fail
        refine (hcall _).mono ?_
        rintro en w2 ⟨rfl, B2⟩
        have HB2 : Hid (Below w.heap.size w w2) := Lib.hid (by have h := hB.out; (repeat (first | exact Below.refl _ _ | (refine Below.setCell ?_ (by (first | exact Nat.le_refl _ | omega | (simp <;> omega) | simp)) _) | (refine Below.alloc ?_ (by (first | exact Nat.le_refl _ | omega | (simp <;> omega) | simp)) _) | (refine below_draws ?_ _) | exact h | (refine Below.trans ?_ (Below.mono h (by (first | exact Nat.le_refl _ | omega | (simp <;> omega) | simp)))) | exact B2 | (refine Below.trans ?_ (Below.mono B2 (by (first | exact Nat.le_refl _ | omega | (simp <;> omega) | simp)))))))
        clear hcall B2 c0 c1
        go_wp2
        go_roundw
        case rel => exact ⟨k + 1, by omega, by go_num, HB2⟩
        case measure => simp [intOf] <;> omega
      · obtain rfl : k = k0 := by omega
        rw [HB.out] at hcall
        go_wp2_with fail
        refine (hcall _).mono ?_
        rintro en w2 ⟨rfl, B2⟩
        have HB2 : Hid (Below w.heap.size w w2) := Lib.hid (by have h := hB.out; (repeat (first | exact Below.refl _ _ | (refine Below.setCell ?_ (by (first | exact Nat.le_refl _ | omega | (simp <;> omega) | simp)) _) | (refine Below.alloc ?_ (by (first | exact Nat.le_refl _ | omega | (simp <;> omega) | simp)) _) | (refine below_draws ?_ _) | exact h | (refine Below.trans ?_ (Below.mono h (by (first | exact Nat.le_refl _ | omega | (simp <;> omega) | simp)))) | exact B2 | (refine Below.trans ?_ (Below.mono B2 (by (first | exact Nat.le_refl _ | omega | (simp <;> omega) | simp)))))))
        clear hcall B2 c0 c1
        go_wp2
        go_ret
        exact ⟨rfl, HB2.out⟩
  · have HA := Lib.hid ha; clear ha
    go_enter Try.func70, Try.ntmps70
    go_wp2
    go_loopw [7] (fun i wr => ∃ k : Nat, k ≤ q.length ∧ i = .int .i64 k ∧ Hid (Below w.heap.size w wr)) (fun i _ => q.length - (intOf i).toNat)
    case atStart => exact ⟨0, Nat.zero_le _, rfl, Lib.hid (Below.refl _ _)⟩
    case round =>
      obtain ⟨k, hk, rfl, hB⟩ := hrel
      by_cases hlt : k < q.length
      · obtain ⟨c0, c1⟩ := HC.out k hlt
        obtain ⟨i1, i2⟩ := HW.out k hlt
        have hsz := hB.out.size
        rw [← hB.out.cell (p := ⟨g, o + k * 2, none⟩) hg] at c0
        rw [← hB.out.cell (p := ⟨g, o + k * 2 + 1, none⟩) hg] at c1
        have hcall := fun W => impl_rOk q[k].1 q[k].2 W i1.1 i1.2 i2.1 i2.2
        rw [allOk_get HA.out k hlt] at hcall
        go_wp2_with fail
        refine (hcall _).mono ?_
        rintro en w2 ⟨rfl, B2⟩
        have HB2 : Hid (Below w.heap.size w w2) := Lib.hid (by have h := hB.out; (repeat (first | exact Below.refl _ _ | (refine Below.setCell ?_ (by (first | exact Nat.le_refl _ | omega | (simp <;> omega) | simp)) _) | (refine Below.alloc ?_ (by (first | exact Nat.le_refl _ | omega | (simp <;> omega) | simp)) _) | (refine below_draws ?_ _) | exact h | (refine Below.trans ?_ (Below.mono h (by (first | exact Nat.le_refl _ | omega | (simp <;> omega) | simp)))) | exact B2 | (refine Below.trans ?_ (Below.mono B2 (by (first | exact Nat.le_refl _ | omega | (simp <;> omega) | simp)))))))
        clear hcall B2 c0 c1
        go_wp2
        go_roundw
        case rel => exact ⟨k + 1, by omega, by go_num, HB2⟩
        case measure => simp [intOf] <;> omega
      · obtain rfl : k = q.length := by omega
        go_wp2
        go_ret
        exact ⟨rfl, hB.out⟩
end Go.Proofs.Ytbeddnegmggleaa
