/-
  IsCircular in the model.
-/
import Derived.Test.YtalonncjdohejaaRimSpec
import Derived.Test.YtalonncjdohejaaWtMath
import Derived.Test.YtalonncjdohejaaGMat
import Derived.Test.YtalonncjdohejaaGKir
namespace Go.Proofs.Ytalonncjdohejaa
open Go.RowKit

set_option maxRecDepth 8000 in
set_option maxHeartbeats 6400000 in
theorem spec_circ (k : Int) (vp vq : Value) (p q : List Int) (w : World) (hp1 : p.length ≤ 1048576) (hq1 : q.length ≤ 1048576) (hP : ReadsI w vp p) (hQ : ReadsI w vq q) :
    Calls Try.prog 37 #[.int .i64 k, vp, vq] w fun en w' => en = .returned (.bool (circB k p q)) ∧ Below w.heap.size w w' := by
  obtain ⟨pp, cp, rfl, _, _⟩ := hP.shape
  obtain ⟨pq, cq, rfl, _, _⟩ := hQ.shape
  by_cases hn : 1 ≤ k ∧ k ≤ 5
  case neg =>
    have HN := Lib.hid (ret_w (circB_no (k := k) (p := p) (q := q) (fun h => hn ⟨h.1, h.2.1⟩)))
    clear hP hQ
    go_enter Try.func37, Try.ntmps37
    go_wp2_with fail
    refine (in_no k 1 5 _ hn).mono ?_
    rintro en w1 ⟨rfl, rfl⟩
    go_wp2
    go_ret
    exact ⟨HN.out, Below.refl _ _⟩
  obtain ⟨n1, n5⟩ := hn
  by_cases hl : p.length = q.length
  case neg =>
    have HN := Lib.hid (ret_w (circB_no (k := k) (p := p) (q := q) (fun h => hl h.2.2.1)))
    have hne : ((p.length : Int) == (q.length : Int)) = false := by rw [beq_eq_false_iff_ne]; omega
    have hne2 : ¬ ((p.length : Int) = (q.length : Int)) := by omega
    clear hP hQ hl
    go_enter Try.func37, Try.ntmps37
    go_wp2_with fail
    refine (in_yes k 1 5 _ n1 n5).mono ?_
    rintro en w1 ⟨rfl, rfl⟩
    go_wp2
    go_ret
    exact ⟨HN.out, Below.refl _ _⟩
  by_cases h0 : p.length = 0
  · have HN := Lib.hid (ret_w (circB_no (k := k) (p := p) (q := q) (fun h => h.2.2.2.1 h0)))
    rw [← hl, h0]
    clear hP hQ hl
    go_enter Try.func37, Try.ntmps37
    go_wp2_with fail
    refine (in_yes k 1 5 _ n1 n5).mono ?_
    rintro en w1 ⟨rfl, rfl⟩
    go_wp2
    go_ret
    exact ⟨HN.out, Below.refl _ _⟩
  have hrim := spec_rim _ _ p q w hp1 hq1 (by omega) hP hQ
  have hcir := fun hv => circ_of (p := p) (q := q) n1 n5 hl h0 hv
  have hcno : ∀ (h : ¬ linV k.toNat (rimL p q)), circB k p q = false := fun h => circB_no (fun hh => h hh.2.2.2.2.1)
  have hRl := rim_length p q
  have hRpos : 0 < (rimL p q).length := by omega
  have hRle : (rimL p q).length ≤ 2097152 := by omega
  rw [← hl] at hrim ⊢
  have h0n : ¬ ((p.length : Int) = 0) := by omega
  have h0b : ((p.length : Int) == 0) = false := by rw [beq_eq_false_iff_ne]; omega
  generalize circB k p q = CB at *
  generalize rimL p q = R at *
  obtain ⟨N, rfl⟩ : ∃ N : Nat, k = N := ⟨k.toNat, by omega⟩
  simp only [Int.toNat_natCast] at hcir hcno
  have HCI := Lib.hid hcir
  have HCN := Lib.hid hcno
  have HRIM := Lib.hid hrim
  clear hP hQ hl hcir hcno hRl hrim
  go_enter Try.func37, Try.ntmps37
  go_wp2_with fail
  refine (in_yes (N : Int) 1 5 _ n1 n5).mono ?_
  rintro en w1 ⟨rfl, rfl⟩
  go_wp2_with fail
  with_reducible refine HRIM.out.mono ?_
  rintro en w2 ⟨v2, rfl, o2, B2⟩
  obtain ⟨g, o, c, rfl, hc1, hc2, hg, hcell⟩ := (ReadsI.of_own o2).pos hRpos
  have HRD := Lib.hid (ReadsI.of_own o2)
  have HC := Lib.hid hcell
  have HB2 := Lib.hid B2
  obtain ⟨L, hL⟩ : ∃ L, R.length = L := ⟨_, rfl⟩
  rw [hL] at hRpos hRle hc1 HRD ⊢
  have HL := Lib.hid hL
  clear o2 B2 hcell hL
  go_wp2
  go_loopw [8, 31] (fun dv iv wr => ∃ i : Nat, i ≤ L ∧ iv = .int .i64 i ∧ dv = .int .i64 (dD R i : Nat) ∧ Hid (linV N (R.take i)) ∧ wr = w2) (fun _ iv _ => L - (intOf iv).toNat)
  case atStart => exact ⟨0, Nat.zero_le _, rfl, by rw [dD_zero (by rw [HL.out]; exact hRpos)]; rfl, Lib.hid (lin_start N R), rfl⟩
  case round =>
    obtain ⟨i, hi, rfl, rfl, hv, rfl⟩ := hrel
    rename World => wi
    by_cases hlt : i < L
    · have hiR : i < R.length := by rw [HL.out]; exact hlt
      have c0 := HC.out i hiR
      have hdl := dD_le R i
      rw [HL.out] at hdl
      by_cases hin : 0 ≤ R[i] ∧ R[i] ≤ (N : Int) - 1
      case neg =>
        have HN := Lib.hid (ret_w (HCN.out (fun h => hin (by have := h.1 _ (List.getElem_mem hiR); omega))))
        generalize R[i] = X at *
        go_wp2_with fail
        with_reducible refine (in_no' X 0 ((N : Int) - 1) _ _ (by first | rfl | omega) (by first | rfl | omega) hin _).mono ?_
        rintro en w3 ⟨rfl, rfl⟩
        go_wp2
        go_ret
        exact ⟨HN.out, HB2.out⟩
      have htk := HRD.out.take i (by omega)
      have hhas := has_reads _ (R.take i) R[i] wi htk
      have hic : i ≤ c := by omega
      by_cases hm : R[i] ∈ R.take i
      · have HN := Lib.hid (ret_w (HCN.out (fun h => by
          have h1 := lin_twice (n := N) hiR hm
          rw [linB_yes h] at h1; cases h1)))
        rw [decide_eq_true hm] at hhas
        have HH := Lib.hid hhas
        clear hhas htk hm
        generalize R[i] = X at *
        go_wp2_with fail
        with_reducible refine (in_yes' X 0 ((N : Int) - 1) _ _ (by first | rfl | omega) (by first | rfl | omega) hin.1 hin.2 _).mono ?_
        rintro en w3 ⟨rfl, rfl⟩
        go_wp2_with fail
        with_reducible refine HH.out.mono ?_
        rintro en w4 ⟨rfl, rfl⟩
        go_wp2
        go_ret
        exact ⟨HN.out, HB2.out⟩
      · have HNX := Lib.hid (lin_next hiR hv.out (by omega) hm)
        rw [decide_eq_false hm] at hhas
        have HH := Lib.hid hhas
        obtain ⟨j, hj⟩ : ∃ j, j = if i + 1 = L then 0 else i + 1 := ⟨_, rfl⟩
        have hjl : j < L := by split at hj <;> omega
        have hjR : j < R.length := by rw [HL.out]; exact hjl
        have hds := dD_succ hiR hjR (by rw [HL.out]; exact hj)
        have hmod : ((i : Int) + 1).tmod (L : Int) = (j : Int) := by
          rw [show ((i : Int) + 1) = ((i + 1 : Nat) : Int) by omega, ← Int.ofNat_tmod]
          congr 1
          split at hj
          · rename_i e; rw [e, Nat.mod_self, hj]
          · rw [Nat.mod_eq_of_lt (by omega), hj]
        have hL0 : ¬ ((L : Int) = 0) := by omega
        have hL0b : ((L : Int) == 0) = false := by rw [beq_eq_false_iff_ne]; omega
        have e0 := HC.out j hjR
        clear hhas htk hm hj
        generalize R[i] = X at *
        generalize R[j] = Y at *
        generalize dD R i = DN at *
        by_cases hd : Y < X
        · rw [if_pos hd] at hds
          have HDS := Lib.hid hds
          clear hds
          go_wp2_with fail
          with_reducible refine (in_yes' X 0 ((N : Int) - 1) _ _ (by first | rfl | omega) (by first | rfl | omega) hin.1 hin.2 _).mono ?_
          rintro en w3 ⟨rfl, rfl⟩
          go_wp2_with fail
          with_reducible refine HH.out.mono ?_
          rintro en w4 ⟨rfl, rfl⟩
          go_wp2
          go_roundw
          case rel => exact ⟨i + 1, by omega, by go_num, by rw [HDS.out]; first | rfl | go_num, HNX, by first | trivial | rfl⟩
          case measure => simp [intOf]; omega
        · rw [if_neg hd] at hds
          have HDS := Lib.hid hds
          have hdb : decide (Y < X) = false := by simp; omega
          clear hds
          go_wp2_with fail
          with_reducible refine (in_yes' X 0 ((N : Int) - 1) _ _ (by first | rfl | omega) (by first | rfl | omega) hin.1 hin.2 _).mono ?_
          rintro en w3 ⟨rfl, rfl⟩
          go_wp2_with fail
          with_reducible refine HH.out.mono ?_
          rintro en w4 ⟨rfl, rfl⟩
          go_wp2
          go_roundw
          case rel => exact ⟨i + 1, by omega, by go_num, by rw [HDS.out]; first | rfl | go_num, HNX, by first | trivial | rfl⟩
          case measure => simp [intOf]; omega
    · obtain rfl : i = L := by omega
      have hvv : linV N R := by have h := hv.out; rw [← HL.out, List.take_length] at h; exact h
      have hcb := HCI.out hvv
      rw [← dD_end R, HL.out] at hcb
      generalize dD R i = DN at *
      by_cases h1 : DN = 1
      · have HY : Hid (Ending.returned (.bool true) = .returned (.bool CB)) := Lib.hid (by rw [hcb, decide_eq_true h1])
        subst h1
        clear hcb
        go_wp2
        go_ret
        exact ⟨HY.out, HB2.out⟩
      · have HY : Hid (Ending.returned (.bool false) = .returned (.bool CB)) := Lib.hid (by rw [hcb, decide_eq_false h1])
        have h1b : ((DN : Int) == 1) = false := by rw [beq_eq_false_iff_ne]; omega
        have h1c : ¬ ((DN : Int) = 1) := by omega
        clear hcb h1
        go_wp2
        go_ret
        exact ⟨HY.out, HB2.out⟩
end Go.Proofs.Ytalonncjdohejaa
