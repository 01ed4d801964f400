/-
  The determinant in the program.
  What is asked of a list of rows or columns, in the model and in the program; the matrix in the program.
  MinorOf, in the model and in the program.
  The nodes that are not in a list; the minors of a network's matrix.
-/
import Derived.Test.YtaececpphdaciaaDetImpl
import Derived.Laws.EntriesVeiled
import Derived.Test.YtaececpphdaciaaGMat
import Derived.Test.YtaececpphdaciaaLapImpl
import Derived.Test.YtaececpphdaciaaNodes
namespace Go.Proofs.Ytaececpphdaciaa
open Go.RowKit

set_option maxHeartbeats 400000 in
theorem impl_det (v : Value) (m : MatI) (hm : matV m) (rows cols : List Int) (vr vc : Value) (w : World) (hM : ReadsII w v m) (hR : ReadsI w vr rows) (hC : ReadsI w vc cols) (hl : cols.length = rows.length) (h5 : rows.length ≤ 5)
    (hrr : ∀ x ∈ rows, 0 ≤ x ∧ x < m.length) (hcc : ∀ x ∈ cols, 0 ≤ x ∧ x < m.length) :
    Calls Try.prog 68 #[v, vr, vc] w fun e w' => e = .returned (.int .i64 (detD m rows cols)) ∧ Below w.heap.size w w' := by
  obtain ⟨pm, cm, rfl, _, _⟩ := hM.shape
  obtain ⟨pr, cr, rfl, _, _⟩ := hR.shape
  obtain ⟨pc, cc, rfl, _, _⟩ := hC.shape
  have hd := fun (bm bf : Nat) (w' : World) (hb : Below w.heap.size w w') (hk : capt w' bm bf (.slice pm m.length cm)) => det_clo bm bf _ m hm rows cols _ _ w' (hM.later hb) hk (hR.later hb) (hC.later hb) hl h5 hrr hcc
  clear hM hR hC hrr hcc hl
  have HD := Lib.hid hd; clear hd
  go_enter Try.func68, Try.ntmps68
  go_wp2_with fail
  with_reducible refine (HD.out w.heap.size (w.heap.size + 1) _ (by (repeat (first | exact Below.refl _ _ | (refine Below.setCell ?_ (by (first | exact Nat.le_refl _ | omega | (simp <;> omega) | simp)) _) | (refine Below.alloc ?_ (by (first | exact Nat.le_refl _ | omega | (simp <;> omega) | simp)) _) | (refine below_draws ?_ _)))) ?_).mono ?_
  · refine ⟨?_, ?_⟩ <;> simp [go_sem]
  · rintro en w1 ⟨rfl, B1⟩
    go_wp2
    go_ret
    exact ⟨rfl, by (repeat (first | exact Below.refl _ _ | (refine Below.setCell ?_ (by (first | exact Nat.le_refl _ | omega | (simp <;> omega) | simp)) _) | (refine Below.alloc ?_ (by (first | exact Nat.le_refl _ | omega | (simp <;> omega) | simp)) _) | (refine below_draws ?_ _) | exact B1 | (refine Below.trans ?_ (Below.mono B1 (by (first | exact Nat.le_refl _ | omega | (simp <;> omega) | simp))))))⟩

end Go.Proofs.Ytaececpphdaciaa

namespace Go.Proofs.Ytaececpphdaciaa
open Go.RowKit

/-- A list that is taken: different numbers below n. -/
def linV (n : Nat) (q : List Int) : Prop := (∀ x ∈ q, 0 ≤ x ∧ x < (n : Int)) ∧ q.Nodup
noncomputable def linB (n : Nat) (q : List Int) : Bool := @decide (linV n q) (Classical.propDecidable _)
theorem linB_yes {n : Nat} {q : List Int} (h : linV n q) : linB n q = true := by simp [linB, h]
theorem linB_no {n : Nat} {q : List Int} (h : ¬ linV n q) : linB n q = false := by simp [linB, h]
theorem linB_iff {n : Nat} {q : List Int} : linB n q = true ↔ linV n q := by simp [linB]
theorem lin_start (n : Nat) (q : List Int) : linV n (q.take 0) := by simp [linV]
theorem lin_range {n : Nat} {q : List Int} {k : Nat} (hk : k < q.length) (h : ¬ (0 ≤ q[k] ∧ q[k] < (n : Int))) : linB n q = false := linB_no fun hv => h (hv.1 _ (List.getElem_mem hk))
theorem lin_twice {n : Nat} {q : List Int} {k : Nat} (hk : k < q.length) (h : q[k] ∈ q.take k) : linB n q = false := linB_no fun hv => by
  have hd := hv.2
  rw [← List.take_append_drop k q, List.nodup_append] at hd
  have e := List.drop_eq_getElem_cons hk
  exact hd.2.2 _ h _ (by rw [e]; exact List.mem_cons_self) rfl
theorem lin_next {n : Nat} {q : List Int} {k : Nat} (hk : k < q.length) (hv : linV n (q.take k)) (h : 0 ≤ q[k] ∧ q[k] < (n : Int)) (hn : q[k] ∉ q.take k) : linV n (q.take (k + 1)) := by
  rw [List.take_succ_eq_append_getElem hk]
  refine ⟨fun x hx => ?_, ?_⟩
  · rcases List.mem_append.1 hx with hx | hx
    · exact hv.1 x hx
    · rw [List.mem_singleton] at hx; subst hx; exact h
  · rw [List.nodup_append]
    refine ⟨hv.2, by simp, fun a ha b hb => ?_⟩
    rw [List.mem_singleton] at hb
    subst hb
    intro e; exact hn (e ▸ ha)
theorem lin_end {n : Nat} {q : List Int} (hv : linV n (q.take q.length)) : linB n q = true := by rw [List.take_length] at hv; exact linB_yes hv
theorem lin_len {n : Nat} {q : List Int} (hv : linV n q) : q.length ≤ n := queue_le hv.2 hv.1

/-- The marks: k numbers read. -/
def MarkV (q : List Int) (ys : List Bool) (k : Nat) : Prop := ys.length = 5 ∧ ∀ j, (h : j < ys.length) → (ys[j] = true ↔ ((j : Nat) : Int) ∈ q.take k)
theorem MarkV.start (q : List Int) : MarkV q [false, false, false, false, false] 0 := ⟨rfl, fun j h => by
  simp only [List.take_zero, List.not_mem_nil, iff_false]
  rcases j with _ | _ | _ | _ | _ | j <;> simp at h ⊢
  omega⟩
theorem MarkV.next {q : List Int} {ys : List Bool} {k i : Nat} (h : MarkV q ys k) (hk : k < q.length) (hi : q[k] = (i : Int)) : MarkV q (ys.set i true) (k + 1) := by
  refine ⟨by rw [List.length_set]; exact h.1, fun j hj => ?_⟩
  rw [List.length_set] at hj
  rw [List.take_succ_eq_append_getElem hk, List.mem_append, List.mem_singleton, hi, List.getElem_set]
  by_cases e : i = j
  · subst e; simp
  · rw [if_neg e, h.2 j hj]
    constructor
    · intro h; exact .inl h
    · rintro (h | h)
      · exact h
      · omega

theorem ReadsI.ptr {w : World} {v : Value} {q : List Int} (h : ReadsI w v q) (k : Nat) (hk : k < q.length) : ∃ g o cap, v = .slice (some ⟨g, o, none⟩) q.length cap ∧ g < w.heap.size ∧ w.cell? ⟨g, o + k, none⟩ = some (.int .i64 q[k]) := by
  obtain ⟨g, o, cap, h1, _, _, h2, h3⟩ := h.pos (by omega)
  exact ⟨g, o, cap, h1, h2, h3 k hk⟩

set_option maxHeartbeats 6400000 in
theorem impl_lines (v : Value) (q : List Int) (n : Nat) (hn : n ≤ 5) (w : World) (hr : ReadsI w v q) :
    Calls Try.prog 67 #[v, .int .i64 n] w fun en w' => en = .returned (.bool (linB n q)) ∧ Below w.heap.size w w' := by
  by_cases hq : q = []
  · subst hq
    obtain ⟨p, cap, rfl, _, _⟩ := hr.shape
    have HF : Hid (linB n [] = true) := Lib.hid (linB_yes (by simp [linV]))
    simp only [List.length_nil]
    go_enter Try.func67, Try.ntmps67
    go_wp2
    refine wp_loop_rounds 1 ?_
    rw [rounds_succ]
    go_wp2
    go_ret
    exact ⟨ret_b HF.out.symm, by (repeat (first | exact Below.refl _ _ | (refine Below.setCell ?_ (by (first | exact Nat.le_refl _ | omega | (simp <;> omega) | simp)) _) | (refine Below.alloc ?_ (by (first | exact Nat.le_refl _ | omega | (simp <;> omega) | simp)) _) | (refine below_draws ?_ _)))⟩
  · obtain ⟨g, o, cap, rfl, hl, hm, hg, hc⟩ := hr.pos (by have := List.length_pos_iff.2 hq; omega)
    have HC := Lib.hid hc; clear hc
    clear hr hq
    go_enter Try.func67, Try.ntmps67
    go_wp2
    go_loopw [10] (fun i wr => ∃ (k : Nat) (ys : List Bool), k ≤ q.length ∧ i = .int .i64 k ∧ wr.ownsRow w.heap.size 122 1 (.slice (some ⟨w.heap.size, 0, none⟩) 5 5) 5 (cellsB ys) ∧ Hid (MarkV q ys k) ∧ Hid (linV n (q.take k)) ∧ Hid (Below w.heap.size w wr)) (fun i _ => q.length - (intOf i).toNat)
    case atStart =>
      refine ⟨0, [false, false, false, false, false], Nat.zero_le _, rfl, ?_, Lib.hid (MarkV.start q), Lib.hid (lin_start n q), Lib.hid (by (repeat (first | exact Below.refl _ _ | (refine Below.setCell ?_ (by (first | exact Nat.le_refl _ | omega | (simp <;> omega) | simp)) _) | (refine Below.alloc ?_ (by (first | exact Nat.le_refl _ | omega | (simp <;> omega) | simp)) _) | (refine below_draws ?_ _))))⟩
      exact World.ownsRow_lit w _ 5 (Nat.le_refl _) (by unfold maxLen; omega) rfl
    case round =>
      obtain ⟨k, ys, hk, rfl, hown, hM, hv, hB⟩ := hrel
      by_cases hlt : k < q.length
      · have c0 := HC.out k hlt
        rw [← hB.out.cell (p := ⟨g, o + k, none⟩) hg] at c0
        by_cases h0 : q[k] < 0
        · have HF := Lib.hid (lin_range (n := n) hlt (by omega))
          go_wp2
          go_ret
          exact ⟨ret_b HF.out.symm, hB.out⟩
        by_cases h1 : q[k] < (n : Int)
        case neg =>
          have HF := Lib.hid (lin_range (n := n) hlt (by omega))
          go_wp2
          go_ret
          exact ⟨ret_b HF.out.symm, hB.out⟩
        obtain ⟨i, hi⟩ : ∃ i : Nat, q[k] = i := ⟨q[k].toNat, by omega⟩
        have hm5 := hM.out.1
        have hi5 : i < 5 := by omega
        have d0 := hown.cellAt i (by omega)
        rw [cellsB_get ys i (by omega)] at d0
        have f0 := hown.frozenAt i
        have hmk := hM.out.2 i (by omega)
        rw [← hi] at hmk
        cases hb : ys[i]'(by omega)
        · have hx : q[k] ∉ q.take k := fun h => by rw [hmk.2 h] at hb; cases hb
          have HN := Lib.hid (lin_next hlt hv.out (by omega) hx)
          have HM2 := Lib.hid (hM.out.next hlt hi)
          have s1 := Lib.hid (hown.stored i (.bool true)).1
          rw [hb] at d0
          rw [hi] at c0 h0 h1
          clear hmk hb hx hi
          go_wp2
          go_roundw
          case rel => exact ⟨k + 1, ys.set i true, by omega, by go_num, by rw [cellsB_set]; exact s1.out, HM2, HN, Lib.hid (by have hB := hB.out; (repeat (first | exact Below.refl _ _ | (refine Below.setCell ?_ (by (first | exact Nat.le_refl _ | omega | (simp <;> omega) | simp)) _) | (refine Below.alloc ?_ (by (first | exact Nat.le_refl _ | omega | (simp <;> omega) | simp)) _) | (refine below_draws ?_ _) | exact hB | (refine Below.trans ?_ (Below.mono hB (by (first | exact Nat.le_refl _ | omega | (simp <;> omega) | simp)))))))⟩
          case measure => simp [intOf]; omega
        · have HF := Lib.hid (lin_twice (n := n) hlt (hmk.1 hb))
          rw [hb] at d0
          rw [hi] at c0 h0 h1
          clear hmk hb hi
          go_wp2
          all_goals
            go_ret
            exact ⟨ret_b HF.out.symm, hB.out⟩
      · obtain rfl : k = q.length := by omega
        have HF := Lib.hid (lin_end hv.out)
        go_wp2
        go_ret
        exact ⟨ret_b HF.out.symm, hB.out⟩

set_option maxHeartbeats 3200000 in
theorem impl_matrix (v : Value) (m : MatI) (w : World) (hr : ReadsII w v m) :
    Calls Try.prog 66 #[v] w fun en w' => en = .returned (.bool (matB m)) ∧ w = w' := by
  obtain ⟨p, cap, rfl, hl, hm, hr1⟩ := hr
  by_cases h5 : m.length ≤ 5
  case neg =>
    have HF : Hid (matB m = false) := Lib.hid (matB_no (fun h => h5 h.1))
    clear hr1
    go_enter Try.func66, Try.ntmps66
    go_wp2
    go_ret
    exact ⟨ret_b HF.out.symm, rfl⟩
  rcases hr1 with hx | ⟨g, o, rfl, hc⟩
  · subst hx
    have HF : Hid (matB [] = true) := Lib.hid (matB_yes ⟨by simp, fun k h => absurd h (by simp)⟩)
    simp only [List.length_nil]
    go_enter Try.func66, Try.ntmps66
    go_wp2
    refine wp_loop_rounds 1 ?_
    rw [rounds_succ]
    go_wp2
    go_ret
    exact ⟨ret_b HF.out.symm, rfl⟩
  obtain ⟨k0, hk0, hyes, hno⟩ := first_row m
  have HC := Lib.hid hc; clear hc
  have HY := Lib.hid hyes; clear hyes
  have HN := Lib.hid hno; clear hno
  go_enter Try.func66, Try.ntmps66
  go_wp2
  go_loopw [12] (fun i wr => ∃ (k : Nat), k ≤ k0 ∧ i = .int .i64 k ∧ wr = w) (fun i _ => m.length - (intOf i).toNat)
  case atStart => exact ⟨0, Nat.zero_le _, rfl, rfl⟩
  case round =>
    obtain ⟨k, hk, rfl, rfl⟩ := hrel
    by_cases hlt : k < m.length
    · obtain ⟨r, c0, hrd⟩ := HC.out k hlt
      by_cases hkk : k < k0
      · obtain ⟨hrl, hent⟩ := HY.out k hlt hkk
        obtain ⟨pr, cr, rfl, hlr, hcr, hrr⟩ := hrd
        rw [hrl] at c0
        rcases hrr with hx | ⟨gr, ro, rfl, hcell⟩
        · rw [hx] at hrl; simp at hrl; omega
        have HE := Lib.hid hent; clear hent
        have HL := Lib.hid hcell; clear hcell
        have HR := Lib.hid hrl
        rw [hrl] at hlr
        clear hrl
        go_wp2
        go_loopw [23] (fun i wi => ∃ (j : Nat), j ≤ m.length ∧ i = .int .i64 j ∧ wi = wr) (fun i _ => m.length - (intOf i).toNat)
        case atStart => exact ⟨0, Nat.zero_le _, rfl, rfl⟩
        case round =>
          obtain ⟨j, hj, rfl, rfl⟩ := hrel
          by_cases hjl : j < m.length
          · have hjr : j < m[k].length := by rw [HR.out]; exact hjl
            have d0 := HL.out j hjr
            obtain ⟨e1, e2⟩ := HE.out j hjr
            have e1' : decide (m[k][j] < -1000) = false := by simp; omega
            have e2' : decide (1000 < m[k][j]) = false := by simp; omega
            clear e1 e2
            go_wp2
            go_roundw
            case rel => exact ⟨j + 1, by omega, by go_num, by first | trivial | rfl⟩
            case measure => simp [intOf]; omega
          · obtain rfl : j = m.length := by omega
            go_wp2
            go_roundw
            case rel => exact ⟨k + 1, by omega, by go_num, by first | trivial | rfl⟩
            case measure => simp [intOf]; omega
      · obtain rfl : k = k0 := by omega
        have hbad := HN.out hlt
        have HF : Hid (matB m = false) := Lib.hid (matB_no (fun h => hbad (h.2 k hlt)))
        by_cases hrl : m[k].length = m.length
        · obtain ⟨j0, hj0, hbe, hok⟩ := first_entry _ _ hbad hrl
          obtain ⟨pr, cr, rfl, hlr, hcr, hrr⟩ := hrd
          rcases hrr with hx | ⟨gr, ro, rfl, hcell⟩
          · rw [hx] at hrl; simp at hrl; omega
          have HE := Lib.hid hok; clear hok
          have HL := Lib.hid hcell; clear hcell
          have HB := Lib.hid hbe; clear hbe
          rw [hrl] at c0
          rw [hrl] at hlr
          clear hbad
          go_wp2
          go_loopw [23] (fun i wi => ∃ (j : Nat), j ≤ j0 ∧ i = .int .i64 j ∧ wi = wr) (fun i _ => m.length - (intOf i).toNat)
          case atStart => exact ⟨0, Nat.zero_le _, rfl, rfl⟩
          case round =>
            obtain ⟨j, hj, rfl, rfl⟩ := hrel
            have hjr : j < m[k].length := by omega
            have d0 := HL.out j hjr
            by_cases hjl : j < j0
            · obtain ⟨e1, e2⟩ := HE.out j hjl
              have e1' : decide (m[k][j] < -1000) = false := by simp; omega
              have e2' : decide (1000 < m[k][j]) = false := by simp; omega
              clear e1 e2
              go_wp2
              go_roundw
              case rel => exact ⟨j + 1, by omega, by go_num, by first | trivial | rfl⟩
              case measure => simp [intOf]; omega
            · obtain rfl : j = j0 := by omega
              have hb := HB.out
              by_cases hb1 : m[k][j] < -1000
              · go_wp2
                go_ret
                exact ⟨ret_b HF.out.symm, by first | trivial | rfl⟩
              · have hb2 : 1000 < m[k][j] := by omega
                clear hb
                go_wp2
                go_ret
                exact ⟨ret_b HF.out.symm, by first | trivial | rfl⟩
        · obtain ⟨pr, cr, rfl, hlr, hcr⟩ := hrd.shape
          have hne : ((m[k].length : Int) == (m.length : Int)) = false := by simp; omega
          clear hrd hbad
          go_wp2
          go_ret
          exact ⟨ret_b HF.out.symm, by first | trivial | rfl⟩
    · obtain rfl : k = m.length := by omega
      have HF : Hid (matB m = true) := Lib.hid (matB_yes ⟨h5, fun j hj => HY.out j hj (by omega)⟩)
      go_wp2
      go_ret
      exact ⟨ret_b HF.out.symm, by first | trivial | rfl⟩
end Go.Proofs.Ytaececpphdaciaa

namespace Go.Proofs.Ytaececpphdaciaa
open Go.RowKit

theorem ret_ib {a b : Int} {c d : Bool} (h : (a, c) = (b, d)) : Ending.returned (.tuple #[.int .i64 a, .bool c]) = .returned (.tuple #[.int .i64 b, .bool d]) := by
  cases h; rfl
/-- What MinorOf answers. -/
noncomputable def minR (m : MatI) (rows cols : List Int) : Int × Bool :=
  if matB m = true ∧ rows.length = cols.length ∧ linB m.length rows = true ∧ linB m.length cols = true then (detD m rows cols, true) else (0, false)
set_option maxHeartbeats 3200000 in
theorem impl_minor (v vr vc : Value) (m : MatI) (rows cols : List Int) (w : World) (hM : ReadsII w v m) (hR : ReadsI w vr rows) (hC : ReadsI w vc cols) :
    Calls Try.prog 19 #[v, vr, vc] w fun e w' => e = .returned (.tuple #[.int .i64 (minR m rows cols).1, .bool (minR m rows cols).2]) ∧ Below w.heap.size w w' := by
  obtain ⟨pm, cm, rfl, _, _⟩ := hM.shape
  obtain ⟨pr, cr, rfl, _, _⟩ := hR.shape
  obtain ⟨pc, cc, rfl, _, _⟩ := hC.shape
  have HM := Lib.hid hM; clear hM
  have HR := Lib.hid hR; clear hR
  have HC := Lib.hid hC; clear hC
  cases hm : matB m
  · have HF : Hid (minR m rows cols = (0, false)) := Lib.hid (by simp [minR, hm])
    have hc := impl_matrix _ m w HM.out
    rw [hm] at hc
    clear hm
    go_enter Try.func19, Try.ntmps19
    go_wp2_with fail
    with_reducible refine hc.mono ?_
    rintro en w1 ⟨rfl, rfl⟩
    clear hc
    go_wp2
    go_ret2
    exact ⟨ret_ib (by rw [HF.out]), by (repeat (first | exact Below.refl _ _ | (refine Below.setCell ?_ (by (first | exact Nat.le_refl _ | omega | (simp <;> omega) | simp)) _) | (refine Below.alloc ?_ (by (first | exact Nat.le_refl _ | omega | (simp <;> omega) | simp)) _) | (refine below_draws ?_ _)))⟩
  have hc0 := impl_matrix _ m w HM.out
  rw [hm] at hc0
  have hv := matB_iff.1 hm
  have h5 := hv.1
  by_cases hl : rows.length = cols.length
  case neg =>
    have HF : Hid (minR m rows cols = (0, false)) := Lib.hid (by simp [minR, hl])
    have hne : ((rows.length : Int) == (cols.length : Int)) = false := by simp; omega
    have hne2 : ¬ ((rows.length : Int) = (cols.length : Int)) := by omega
    clear hl hm hv
    go_enter Try.func19, Try.ntmps19
    go_wp2_with fail
    with_reducible refine hc0.mono ?_
    rintro en w1 ⟨rfl, rfl⟩
    clear hc0
    go_wp2
    go_ret2
    exact ⟨ret_ib (by rw [HF.out]), by (repeat (first | exact Below.refl _ _ | (refine Below.setCell ?_ (by (first | exact Nat.le_refl _ | omega | (simp <;> omega) | simp)) _) | (refine Below.alloc ?_ (by (first | exact Nat.le_refl _ | omega | (simp <;> omega) | simp)) _) | (refine below_draws ?_ _)))⟩
  have heq : ((rows.length : Int) == (cols.length : Int)) = true := by simp; omega
  cases hr : linB m.length rows
  · have HF : Hid (minR m rows cols = (0, false)) := Lib.hid (by simp [minR, hr])
    have hc1 := impl_lines _ rows m.length h5 w HR.out
    rw [hr] at hc1
    rw [hl] at hc1 heq ⊢
    clear hl hm hv hr
    go_enter Try.func19, Try.ntmps19
    go_wp2_with fail
    with_reducible refine hc0.mono ?_
    rintro en w1 ⟨rfl, rfl⟩
    clear hc0
    go_wp2_with fail
    with_reducible refine hc1.mono ?_
    rintro en w2 ⟨rfl, B2⟩
    have S2 := B2.size
    clear hc1
    go_wp2
    go_ret2
    exact ⟨ret_ib (by rw [HF.out]), by (repeat (first | exact Below.refl _ _ | (refine Below.setCell ?_ (by (first | exact Nat.le_refl _ | omega | (simp <;> omega) | simp)) _) | (refine Below.alloc ?_ (by (first | exact Nat.le_refl _ | omega | (simp <;> omega) | simp)) _) | (refine below_draws ?_ _) | exact B2 | (refine Below.trans ?_ (Below.mono B2 (by (first | exact Nat.le_refl _ | omega | (simp <;> omega) | simp))))))⟩
  have hc1 := impl_lines _ rows m.length h5 w HR.out
  rw [hr] at hc1
  have hc2 := fun (w' : World) (hb : Below w.heap.size w w') => impl_lines _ cols m.length h5 w' (HC.out.later hb)
  cases hcc : linB m.length cols
  · have HF : Hid (minR m rows cols = (0, false)) := Lib.hid (by simp [minR, hcc])
    rw [hcc] at hc2
    rw [hl] at hc1 heq ⊢
    clear hl hm hv hr hcc
    go_enter Try.func19, Try.ntmps19
    go_wp2_with fail
    with_reducible refine hc0.mono ?_
    rintro en w1 ⟨rfl, rfl⟩
    clear hc0
    go_wp2_with fail
    with_reducible refine hc1.mono ?_
    rintro en w2 ⟨rfl, B2⟩
    have S2 := B2.size
    clear hc1
    go_wp2_with fail
    with_reducible refine (hc2 _ B2).mono ?_
    rintro en w3 ⟨rfl, B3⟩
    have S3 := B3.size
    clear hc2
    go_wp2
    go_ret2
    exact ⟨ret_ib (by rw [HF.out]), by (repeat (first | exact Below.refl _ _ | (refine Below.setCell ?_ (by (first | exact Nat.le_refl _ | omega | (simp <;> omega) | simp)) _) | (refine Below.alloc ?_ (by (first | exact Nat.le_refl _ | omega | (simp <;> omega) | simp)) _) | (refine below_draws ?_ _) | exact B2 | (refine Below.trans ?_ (Below.mono B2 (by (first | exact Nat.le_refl _ | omega | (simp <;> omega) | simp)))) | exact B3 | (refine Below.trans ?_ (Below.mono B3 (by (first | exact Nat.le_refl _ | omega | (simp <;> omega) | simp))))))⟩
  have HF : Hid (minR m rows cols = (detD m rows cols, true)) := Lib.hid (by simp [minR, hm, hl, hr, hcc])
  rw [hcc] at hc2
  have hlr := linB_iff.1 hr
  have hlc := linB_iff.1 hcc
  have hd := fun (w' : World) (hb : Below w.heap.size w w') => impl_det _ m hv rows cols _ _ w' (HM.out.later hb) (HR.out.later hb) (HC.out.later hb) hl.symm (by have := lin_len hlr; omega) hlr.1 hlc.1
  rw [hl] at hc1 hd heq ⊢
  clear hl hm hv hr hcc hlr hlc
  go_enter Try.func19, Try.ntmps19
  go_wp2_with fail
  with_reducible refine hc0.mono ?_
  rintro en w1 ⟨rfl, rfl⟩
  clear hc0
  go_wp2_with fail
  with_reducible refine hc1.mono ?_
  rintro en w2 ⟨rfl, B2⟩
  have S2 := B2.size
  clear hc1
  go_wp2_with fail
  with_reducible refine (hc2 _ B2).mono ?_
  rintro en w3 ⟨rfl, B3⟩
  have S3 := B3.size
  clear hc2
  go_wp2_with fail
  with_reducible refine (hd _ (B2.trans (B3.mono B2.size))).mono ?_
  rintro en w4 ⟨rfl, B4⟩
  have S4 := B4.size
  clear hd
  go_wp2
  go_ret2
  exact ⟨ret_ib (by rw [HF.out]), by (repeat (first | exact Below.refl _ _ | (refine Below.setCell ?_ (by (first | exact Nat.le_refl _ | omega | (simp <;> omega) | simp)) _) | (refine Below.alloc ?_ (by (first | exact Nat.le_refl _ | omega | (simp <;> omega) | simp)) _) | (refine below_draws ?_ _) | exact B2 | (refine Below.trans ?_ (Below.mono B2 (by (first | exact Nat.le_refl _ | omega | (simp <;> omega) | simp)))) | exact B3 | (refine Below.trans ?_ (Below.mono B3 (by (first | exact Nat.le_refl _ | omega | (simp <;> omega) | simp)))) | exact B4 | (refine Below.trans ?_ (Below.mono B4 (by (first | exact Nat.le_refl _ | omega | (simp <;> omega) | simp))))))⟩
end Go.Proofs.Ytaececpphdaciaa

namespace Go.Proofs.Ytaececpphdaciaa
open Go.RowKit

theorem woL_lin (N : Nat) (q : List Int) : linV N (woL N q) := ⟨woL_mem, (upTo_nodup N).filter _⟩
set_option maxHeartbeats 3200000 in
theorem spec_without (N : Nat) (hN : N ≤ 5) (v : Value) (q : List Int) (w : World) (hr : ReadsI w v q) :
    Calls Try.prog 128 #[.int .i64 N, v] w fun en w' => ∃ v', en = .returned v' ∧ ReadsI w' v' (woL N q) ∧ Below w.heap.size w w' := by
  obtain ⟨p, cap, rfl, _, _⟩ := hr.shape
  have HR := Lib.hid hr; clear hr
  go_enter Try.func128, Try.ntmps128
  go_wp2
  go_loopw [5, 6] (fun ov iv wr => ∃ (k : Nat), k ≤ N ∧ iv = .int .i64 k ∧ Hid (wr.ownsRow w.heap.size 3 1 ov (woL k q).length (cellsI (woL k q))) ∧ Hid (Below w.heap.size w wr)) (fun _ iv _ => N - (intOf iv).toNat)
  case atStart => exact ⟨0, Nat.zero_le _, rfl, Lib.hid (own_emptyI _ _ (Nat.le_refl _)), Lib.hid (by (repeat (first | exact Below.refl _ _ | (refine Below.setCell ?_ (by (first | exact Nat.le_refl _ | omega | (simp <;> omega) | simp)) _) | (refine Below.alloc ?_ (by (first | exact Nat.le_refl _ | omega | (simp <;> omega) | simp)) _) | (refine below_draws ?_ _))))⟩
  case round =>
    obtain ⟨k, hk, rfl, hown, hB⟩ := hrel
    by_cases hlt : k < N
    · have hcc := has_reads _ q (k : Int) wr (HR.out.later hB.out)
      cases hd : decide ((k : Int) ∈ q)
      · rw [hd] at hcc
        have HS := Lib.hid (woL_out hd)
        have k1 : (woL k q).length + 1 ≤ 1099511627776 := by have := woL_le k q; omega
        have k2 := hB.out.size
        have k3 := hB.out
        have own1 := hown.out
        clear hd
        go_wp2_with fail
        refine hcc.mono ?_
        rintro en w1 ⟨rfl, rfl⟩
        clear hcc
        go_wp2_with (at_builtin; refine append_int2 own1 k1 k2 k3 (by rfl) (by rfl) (by rfl) (by rfl) (by rfl) ?_; intro v' w3 hown3 hsz3 hB3 hG3)
        go_wp2
        go_roundw
        case rel => exact ⟨k + 1, by omega, by go_num, Lib.hid (by rw [HS.out]; exact hown3), Lib.hid hB3⟩
        case measure => simp [intOf]; omega
      · rw [hd] at hcc
        have HS := Lib.hid (woL_in hd)
        clear hd
        go_wp2_with fail
        refine hcc.mono ?_
        rintro en w1 ⟨rfl, rfl⟩
        clear hcc
        go_wp2
        go_roundw
        case rel => exact ⟨k + 1, by omega, by go_num, Lib.hid (by rw [HS.out]; exact hown.out), hB⟩
        case measure => simp [intOf]; omega
    · obtain rfl : k = N := by omega
      go_wp2
      go_ret
      exact ⟨_, rfl, ReadsI.of_own hown.out, hB.out⟩

theorem minR_net {N : Nat} {ws : List W3} (hw : WiresV N ws) (hN : N ≤ 5) {q r : List Int} (hl : (woL N q).length = (woL N r).length) : minR (lapM N ws) (woL N q) (woL N r) = (detD (lapM N ws) (woL N q) (woL N r), true) := by
  unfold minR
  rw [if_pos ⟨matB_yes (lapM_ok hw hN), hl, linB_yes (by rw [lapM_length]; exact woL_lin N q), linB_yes (by rw [lapM_length]; exact woL_lin N r)⟩]
end Go.Proofs.Ytaececpphdaciaa
