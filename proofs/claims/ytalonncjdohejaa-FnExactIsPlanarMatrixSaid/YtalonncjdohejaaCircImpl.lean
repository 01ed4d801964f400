/-
  IsCircular in the program.
-/
import Derived.Test.YtalonncjdohejaaRing
import Derived.Test.YtalonncjdohejaaRounds
import Derived.Test.YtalonncjdohejaaGMinor
namespace Go.Proofs.Ytalonncjdohejaa
open Go.RowKit

theorem impl_canRim (k : Int) (w : World) : Calls Try.prog 38 #[.int .i64 k] w fun en w' => en = .returned (.bool (decide (1 ≤ k ∧ k ≤ 5))) ∧ w = w' := by
  obtain ⟨bb, hbb⟩ : ∃ bb, bb = decide (1 ≤ k ∧ k ≤ 5) := ⟨_, rfl⟩
  rw [← hbb]
  by_cases h1 : 1 ≤ k
  · by_cases h5 : k ≤ 5
    · have HY : Hid (Ending.returned (.bool true) = .returned (.bool bb)) := Lib.hid (by rw [hbb, decide_eq_true (show 1 ≤ k ∧ k ≤ 5 from ⟨h1, h5⟩)])
      clear hbb
      go_enter Try.func38, Try.ntmps38
      go_wp2
      go_ret
      exact ⟨HY.out, rfl⟩
    · have HY : Hid (Ending.returned (.bool false) = .returned (.bool bb)) := Lib.hid (by rw [hbb, decide_eq_false (show ¬ (1 ≤ k ∧ k ≤ 5) from fun h => h5 h.2)])
      have h5' : decide (k ≤ 5) = false := by simp; omega
      clear hbb
      go_enter Try.func38, Try.ntmps38
      go_wp2
      go_ret
      exact ⟨HY.out, rfl⟩
  · have HY : Hid (Ending.returned (.bool false) = .returned (.bool bb)) := Lib.hid (by rw [hbb, decide_eq_false (show ¬ (1 ≤ k ∧ k ≤ 5) from fun h => h1 h.1)])
    have h1' : decide (1 ≤ k) = false := by simp; omega
    clear hbb
    go_enter Try.func38, Try.ntmps38
    go_wp2
    go_ret
    exact ⟨HY.out, rfl⟩
set_option maxRecDepth 8000 in
set_option maxHeartbeats 6400000 in
theorem impl_circ (k : Int) (vp vq : Value) (p q : List Int) (w : World) (hp1 : p.length ≤ 1048576) (hq1 : q.length ≤ 1048576) (hP : ReadsI w vp p) (hQ : ReadsI w vq q) :
    Calls Try.prog 66 #[.int .i64 k, vp, vq] w fun en w' => en = .returned (.bool (circB k p q)) ∧ Below w.heap.size w w' := by
  obtain ⟨pp, cp, rfl, _, _⟩ := hP.shape
  obtain ⟨pq, cq, rfl, _, _⟩ := hQ.shape
  have hcan := impl_canRim k w
  by_cases hn : 1 ≤ k ∧ k ≤ 5
  case neg =>
    have HN := Lib.hid (ret_w (circB_no (k := k) (p := p) (q := q) (fun h => hn ⟨h.1, h.2.1⟩)))
    rw [decide_eq_false hn] at hcan
    have HCAN := Lib.hid hcan
    clear hP hQ hn hcan
    go_enter Try.func66, Try.ntmps66
    go_wp2_with fail
    with_reducible refine HCAN.out.mono ?_
    rintro en w1 ⟨rfl, rfl⟩
    go_wp2
    go_ret
    exact ⟨HN.out, Below.refl _ _⟩
  rw [decide_eq_true hn] at hcan
  have HCAN := Lib.hid hcan
  clear hcan
  obtain ⟨n1, n5⟩ := hn
  by_cases hl : p.length = q.length
  case neg =>
    have HN := Lib.hid (ret_w (circB_no (k := k) (p := p) (q := q) (fun h => hl h.2.2.1)))
    have hne : ((p.length : Int) == (q.length : Int)) = false := by rw [beq_eq_false_iff_ne]; omega
    have hne2 : ¬ ((p.length : Int) = (q.length : Int)) := by omega
    clear hP hQ hl
    go_enter Try.func66, Try.ntmps66
    go_wp2_with fail
    with_reducible refine HCAN.out.mono ?_
    rintro en w1 ⟨rfl, rfl⟩
    go_wp2
    go_ret
    exact ⟨HN.out, Below.refl _ _⟩
  by_cases h0 : p.length = 0
  · have HN := Lib.hid (ret_w (circB_no (k := k) (p := p) (q := q) (fun h => h.2.2.2.1 h0)))
    rw [← hl, h0]
    clear hP hQ hl
    go_enter Try.func66, Try.ntmps66
    go_wp2_with fail
    with_reducible refine HCAN.out.mono ?_
    rintro en w1 ⟨rfl, rfl⟩
    go_wp2
    go_ret
    exact ⟨HN.out, Below.refl _ _⟩
  have hrim := impl_ring _ _ p q w hp1 hq1 (by omega) (by omega) hP hQ
  have hcir := fun hv => circ_of (p := p) (q := q) n1 n5 hl h0 hv
  have hcno : ∀ (h : ¬ linV k.toNat (rimL p q)), circB k p q = false := fun h => circB_no (fun hh => h hh.2.2.2.2.1)
  have hRl := rim_length p q
  have hRpos : 0 < (rimL p q).length := by omega
  have hRle : (rimL p q).length ≤ 2097152 := by omega
  rw [← hl] at hrim ⊢
  have h0n : ¬ ((p.length : Int) = 0) := by omega
  have h0b : ((p.length : Int) == 0) = false := by rw [beq_eq_false_iff_ne]; omega
  generalize circB k p q = CB at *
  generalize rimL p q = R at *
  obtain ⟨N, rfl⟩ : ∃ N : Nat, k = N := ⟨k.toNat, by omega⟩
  simp only [Int.toNat_natCast] at hcir hcno
  have hN5 : N ≤ 5 := by omega
  have HRIM := Lib.hid hrim
  clear hP hQ hl hRl hrim
  cases hlb : linB N R
  · have HN := Lib.hid (ret_w (hcno (fun h => by rw [linB_yes h] at hlb; cases hlb)))
    clear hcir hcno
    go_enter Try.func66, Try.ntmps66
    go_wp2_with fail
    with_reducible refine HCAN.out.mono ?_
    rintro en w1 ⟨rfl, rfl⟩
    go_wp2_with fail
    with_reducible refine HRIM.out.mono ?_
    rintro en w2 ⟨v2, rfl, o2, B2⟩
    have hli := impl_lines v2 R N hN5 w2 (ReadsI.of_own o2)
    rw [hlb] at hli
    have HLI := Lib.hid hli
    have S2 := B2.size
    clear hli o2 hlb
    go_wp2_with fail
    with_reducible refine HLI.out.mono ?_
    rintro en w3 ⟨rfl, B3⟩
    have HF := Lib.hid (B2.trans (B3.mono S2))
    clear B2 B3
    go_wp2
    go_ret
    exact ⟨HN.out, HF.out⟩
  · have hcb := hcir (linB_iff.1 hlb)
    obtain ⟨DN, hDN⟩ : ∃ DN, DN = dnN R (R.length - 1) + wrN R := ⟨_, rfl⟩
    have hrd := fun v W (h : ReadsI W v R) => impl_rounds v R W hRpos hRle h
    rw [← hDN] at hcb
    simp only [← hDN] at hrd
    have HRD := Lib.hid hrd
    clear hcir hcno hrd hDN
    by_cases h1 : DN = 1
    · have HY : Hid (Ending.returned (.bool true) = .returned (.bool CB)) := Lib.hid (by rw [hcb, decide_eq_true h1])
      subst h1
      clear hcb
      go_enter Try.func66, Try.ntmps66
      go_wp2_with fail
      with_reducible refine HCAN.out.mono ?_
      rintro en w1 ⟨rfl, rfl⟩
      go_wp2_with fail
      with_reducible refine HRIM.out.mono ?_
      rintro en w2 ⟨v2, rfl, o2, B2⟩
      have hli := impl_lines v2 R N hN5 w2 (ReadsI.of_own o2)
      rw [hlb] at hli
      have HLI := Lib.hid hli
      have HR2 := Lib.hid (ReadsI.of_own o2)
      have S2 := B2.size
      clear hli o2 hlb
      go_wp2_with fail
      with_reducible refine HLI.out.mono ?_
      rintro en w3 ⟨rfl, B3⟩
      have S3 := B3.size
      go_wp2_with fail
      with_reducible refine (HRD.out _ _ (HR2.out.later B3)).mono ?_
      rintro en w4 ⟨rfl, B4⟩
      have HF := Lib.hid (B2.trans ((B3.trans (B4.mono S3)).mono S2))
      clear B2 B3 B4
      go_wp2
      go_ret
      exact ⟨HY.out, HF.out⟩
    · have HY : Hid (Ending.returned (.bool false) = .returned (.bool CB)) := Lib.hid (by rw [hcb, decide_eq_false h1])
      have h1b : ((DN : Int) == 1) = false := by rw [beq_eq_false_iff_ne]; omega
      have h1c : ¬ ((DN : Int) = 1) := by omega
      clear hcb h1
      go_enter Try.func66, Try.ntmps66
      go_wp2_with fail
      with_reducible refine HCAN.out.mono ?_
      rintro en w1 ⟨rfl, rfl⟩
      go_wp2_with fail
      with_reducible refine HRIM.out.mono ?_
      rintro en w2 ⟨v2, rfl, o2, B2⟩
      have hli := impl_lines v2 R N hN5 w2 (ReadsI.of_own o2)
      rw [hlb] at hli
      have HLI := Lib.hid hli
      have HR2 := Lib.hid (ReadsI.of_own o2)
      have S2 := B2.size
      clear hli o2 hlb
      go_wp2_with fail
      with_reducible refine HLI.out.mono ?_
      rintro en w3 ⟨rfl, B3⟩
      have S3 := B3.size
      go_wp2_with fail
      with_reducible refine (HRD.out _ _ (HR2.out.later B3)).mono ?_
      rintro en w4 ⟨rfl, B4⟩
      have HF := Lib.hid (B2.trans ((B3.trans (B4.mono S3)).mono S2))
      clear B2 B3 B4
      go_wp2
      go_ret
      exact ⟨HY.out, HF.out⟩
end Go.Proofs.Ytalonncjdohejaa
