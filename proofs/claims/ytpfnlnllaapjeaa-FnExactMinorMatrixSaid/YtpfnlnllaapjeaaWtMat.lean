/-
  IsWeightMatrix, in the model and in the program.
-/
import Derived.Test.YtpfnlnllaapjeaaWtMath
import Derived.Test.YtpfnlnllaapjeaaGMinor
import Derived.Test.YtpfnlnllaapjeaaGLists
namespace Go.Proofs.Ytpfnlnllaapjeaa
open Go.RowKit

set_option maxRecDepth 8000 in
set_option maxHeartbeats 6400000 in
theorem spec_isW (v : Value) (m : MatI) (w : World) (hr : ReadsII w v m) :
    Calls Try.prog 49 #[v] w fun en w' => en = .returned (.bool (isWB m)) ∧ Below w.heap.size w w' := by
  obtain ⟨p, cap, rfl, hm0, hm1⟩ := hr.shape
  have hmat := spec_matrix _ m w hr
  by_cases hn : (1 : Int) ≤ (m.length : Int) ∧ (m.length : Int) ≤ 5
  case neg =>
    have HN := Lib.hid (ret_w (isW_no (m := m) (fun h => hn (by have h1 := h.1; have h2 := h.2.1.1; omega))))
    clear hr hmat
    go_enter Try.func49, Try.ntmps49
    go_wp2_with fail
    refine (in_no (m.length : Int) 1 5 _ hn).mono ?_
    rintro en w1 ⟨rfl, rfl⟩
    go_wp2
    go_ret
    exact ⟨HN.out, Below.refl _ _⟩
  obtain ⟨n1, n5⟩ := hn
  have h0 : ¬ m.length = 0 := by omega
  cases hb : matB m
  · have HN := Lib.hid (ret_w (isW_no (m := m) (fun h => by rw [matB_yes h.2.1] at hb; cases hb)))
    rw [hb] at hmat
    clear hr hb
    go_enter Try.func49, Try.ntmps49
    go_wp2_with fail
    refine (in_yes (m.length : Int) 1 5 _ n1 n5).mono ?_
    rintro en w0 ⟨rfl, rfl⟩
    go_wp2_with fail
    with_reducible refine hmat.mono ?_
    rintro en w1 ⟨rfl, rfl⟩
    clear hmat
    go_wp2
    go_ret
    exact ⟨HN.out, Below.refl _ _⟩
  rw [hb] at hmat
  have hv := matB_iff.1 hb
  have h5 := hv.1
  obtain ⟨g, o, c, hvv, hg, hrows⟩ := rows_atI hr (by omega) (fun i hi => rowI_len hv hi)
  simp only [Value.slice.injEq] at hvv
  obtain ⟨rfl, -, rfl⟩ := hvv
  have HV := Lib.hid hv
  have HRW := Lib.hid hrows
  clear hrows hr hb hv
  go_enter Try.func49, Try.ntmps49
  go_wp2_with fail
  refine (in_yes (m.length : Int) 1 5 _ n1 n5).mono ?_
  rintro en w0 ⟨rfl, rfl⟩
  go_wp2_with fail
  with_reducible refine hmat.mono ?_
  rintro en w1 ⟨rfl, rfl⟩
  clear hmat
  go_wp2
  go_loopw [19] (fun iv wr => ∃ i : Nat, i ≤ m.length ∧ iv = .int .i64 i ∧ Hid (∀ a, a < i → (∀ j, j < m.length → QW m a j) ∧ sumI (rowI m a) m.length = 0) ∧ wr = w) (fun iv _ => m.length - (intOf iv).toNat)
  case atStart => exact ⟨0, Nat.zero_le _, rfl, Lib.hid (fun a ha => absurd ha (by omega)), rfl⟩
  case round =>
    obtain ⟨i, hi, rfl, hQ, rfl⟩ := hrel
    by_cases hil : i < m.length
    · obtain ⟨gi, oi, ci, a0, hgi, -, hel⟩ := HRW.out i hil
      have HEL := Lib.hid hel
      have HSI := Lib.hid (fun j (hj : j ≤ m.length) => sumI_in HV.out hil j hj)
      clear hel
      go_wp2
      go_loopw [5, 26] (fun sv jv wi => ∃ j : Nat, j ≤ m.length ∧ jv = .int .i64 j ∧ sv = .int .i64 (sumI (rowI m i) j) ∧ Hid (∀ b, b < j → QW m i b) ∧ wi = wr) (fun _ jv _ => m.length - (intOf jv).toNat)
      case atStart => exact ⟨0, Nat.zero_le _, rfl, by rw [sumI_zero], Lib.hid (fun a ha => absurd ha (by omega)), rfl⟩
      case round =>
        obtain ⟨j, hj, rfl, rfl, hq, rfl⟩ := hrel
        rename World => wi
        by_cases hjl : j < m.length
        · obtain ⟨gj, oj, cj, b0, hgj, -, hej⟩ := HRW.out j hjl
          have x0 := HEL.out j hjl
          have y0 := hej i hil
          have HNO : Hid (¬ QW m i j → Ending.returned (.bool false) = .returned (.bool (isWB m))) := Lib.hid (fun hx => ret_w (isW_no (fun h => hx ((h.2.2 i hil).1 j hjl))))
          have HYE : Hid (QW m i j → ∀ b, b < j + 1 → QW m i b) := Lib.hid (fun hx b hb => by
            by_cases h : b = j
            · subst h; exact hx
            · exact hq.out b (by omega))
          unfold QW at HNO
          have hXb := elI_in HV.out hil hjl
          obtain ⟨s1, s2⟩ := HSI.out j (by omega)
          obtain ⟨S, hS⟩ : ∃ S, S = sumI (rowI m i) j := ⟨_, rfl⟩
          have hSn := sumI_next HV.out hil hjl
          rw [← hS] at hSn s1 s2 ⊢
          have HYQ : Hid (elI m i j = elI m j i ∧ (i ≠ j → elI m i j ≤ 0) → QW m i j) := Lib.hid (fun h => h)
          generalize hX : elI m i j = X at *
          generalize hY : elI m j i = Y at *
          clear hej hX hY hS
          by_cases hxy : X = Y
          case neg =>
            have HN := Lib.hid (HNO.out (fun h => hxy h.1))
            clear hSn
            go_wp2
            go_ret
            exact ⟨HN.out, Below.refl _ _⟩
          subst hxy
          by_cases hij : i = j
          · have HY := Lib.hid (HYE.out (HYQ.out ⟨rfl, fun h => absurd hij h⟩))
            have HSN := Lib.hid hSn
            have hw : IntKind.i64.wrap (S + X) = S + X := IntWalk.i64_in _ (by omega)
            have hw2 : wrap64 (S + X) = S + X := by unfold wrap64; omega
            subst hij
            clear hSn
            go_wp2
            go_roundw
            case rel => exact ⟨i + 1, by omega, by go_num, by rw [HSN.out], HY, by first | trivial | rfl⟩
            case measure => simp [intOf]; omega
          · have hij' : ¬ ((i : Int) = (j : Int)) := by omega
            by_cases hpos : 0 < X
            · have HN := Lib.hid (HNO.out (fun h => by have := h.2 hij; omega))
              clear hSn
              go_wp2
              go_ret
              exact ⟨HN.out, Below.refl _ _⟩
            · have HY := Lib.hid (HYE.out (HYQ.out ⟨rfl, fun _ => by omega⟩))
              have HSN := Lib.hid hSn
              have hw : IntKind.i64.wrap (S + X) = S + X := IntWalk.i64_in _ (by omega)
              have hw2 : wrap64 (S + X) = S + X := by unfold wrap64; omega
              have hpos' : decide (0 < X) = false := by simp; omega
              clear hSn
              go_wp2
              go_roundw
              case rel => exact ⟨j + 1, by omega, by go_num, by rw [HSN.out], HY, by first | trivial | rfl⟩
              case measure => simp [intOf]; omega
        · obtain rfl : j = m.length := by omega
          by_cases hz : sumI (rowI m i) m.length = 0
          · have HT : Hid (∀ a, a < i + 1 → (∀ j, j < m.length → QW m a j) ∧ sumI (rowI m a) m.length = 0) := Lib.hid (fun a ha => by
              by_cases h : a = i
              · subst h; exact ⟨hq.out, hz⟩
              · exact hQ.out a (by omega))
            rw [hz]
            clear hz
            go_wp2
            go_roundw
            case rel => exact ⟨i + 1, by omega, by go_num, HT, by first | trivial | rfl⟩
            case measure => simp [intOf]; omega
          · have HN := Lib.hid (ret_w (isW_no (m := m) (fun h => hz (h.2.2 i hil).2)))
            generalize sumI (rowI m i) m.length = S at *
            go_wp2
            go_ret
            exact ⟨HN.out, Below.refl _ _⟩
    · obtain rfl : i = m.length := by omega
      have HY := Lib.hid (ret_w (isW_yes (m := m) ⟨by omega, HV.out, hQ.out⟩))
      go_wp2
      go_ret
      exact ⟨HY.out, Below.refl _ _⟩
set_option maxRecDepth 8000 in
set_option maxHeartbeats 6400000 in
theorem impl_isW (v : Value) (m : MatI) (w : World) (hr : ReadsII w v m) :
    Calls Try.prog 51 #[v] w fun en w' => en = .returned (.bool (isWB m)) ∧ Below w.heap.size w w' := by
  obtain ⟨p, cap, rfl, hm0, hm1⟩ := hr.shape
  have hmat := impl_matrix _ m w hr
  by_cases h0 : m.length = 0
  · have HN := Lib.hid (ret_w (isW_no (m := m) (fun h => by have h1 := h.1; rw [h0] at h1; cases h1)))
    rw [h0]
    clear hr hmat
    go_enter Try.func51, Try.ntmps51
    go_wp2
    go_ret
    exact ⟨HN.out, Below.refl _ _⟩
  have h0' : ((m.length : Int) == 0) = false := by rw [beq_eq_false_iff_ne]; omega
  have h0'' : ¬ ((m.length : Int) = 0) := by omega
  cases hb : matB m
  · have HN := Lib.hid (ret_w (isW_no (m := m) (fun h => by rw [matB_yes h.2.1] at hb; cases hb)))
    rw [hb] at hmat
    clear hr hb
    go_enter Try.func51, Try.ntmps51
    go_wp2_with fail
    with_reducible refine hmat.mono ?_
    rintro en w1 ⟨rfl, rfl⟩
    clear hmat
    go_wp2
    go_ret
    exact ⟨HN.out, Below.refl _ _⟩
  rw [hb] at hmat
  have hv := matB_iff.1 hb
  have h5 := hv.1
  obtain ⟨g, o, c, hvv, hg, hrows⟩ := rows_atI hr (by omega) (fun i hi => rowI_len hv hi)
  simp only [Value.slice.injEq] at hvv
  obtain ⟨rfl, -, rfl⟩ := hvv
  have HV := Lib.hid hv
  have HRW := Lib.hid hrows
  clear hrows hr hb hv
  go_enter Try.func51, Try.ntmps51
  go_wp2_with fail
  with_reducible refine hmat.mono ?_
  rintro en w1 ⟨rfl, rfl⟩
  clear hmat
  go_wp2
  go_loopw [18] (fun iv wr => ∃ i : Nat, i ≤ m.length ∧ iv = .int .i64 i ∧ Hid (∀ a, a < i → (∀ j, j < m.length → QW m a j) ∧ sumI (rowI m a) m.length = 0) ∧ wr = w) (fun iv _ => m.length - (intOf iv).toNat)
  case atStart => exact ⟨0, Nat.zero_le _, rfl, Lib.hid (fun a ha => absurd ha (by omega)), rfl⟩
  case round =>
    obtain ⟨i, hi, rfl, hQ, rfl⟩ := hrel
    by_cases hil : i < m.length
    · obtain ⟨gi, oi, ci, a0, hgi, -, hel⟩ := HRW.out i hil
      have HEL := Lib.hid hel
      have HSI := Lib.hid (fun j (hj : j ≤ m.length) => sumI_in HV.out hil j hj)
      clear hel
      go_wp2
      go_loopw [5, 25] (fun sv jv wi => ∃ j : Nat, j ≤ m.length ∧ jv = .int .i64 j ∧ sv = .int .i64 (sumI (rowI m i) j) ∧ Hid (∀ b, b < j → QW m i b) ∧ wi = wr) (fun _ jv _ => m.length - (intOf jv).toNat)
      case atStart => exact ⟨0, Nat.zero_le _, rfl, by rw [sumI_zero], Lib.hid (fun a ha => absurd ha (by omega)), rfl⟩
      case round =>
        obtain ⟨j, hj, rfl, rfl, hq, rfl⟩ := hrel
        rename World => wi
        by_cases hjl : j < m.length
        · obtain ⟨gj, oj, cj, b0, hgj, -, hej⟩ := HRW.out j hjl
          have x0 := HEL.out j hjl
          have y0 := hej i hil
          have HNO : Hid (¬ QW m i j → Ending.returned (.bool false) = .returned (.bool (isWB m))) := Lib.hid (fun hx => ret_w (isW_no (fun h => hx ((h.2.2 i hil).1 j hjl))))
          have HYE : Hid (QW m i j → ∀ b, b < j + 1 → QW m i b) := Lib.hid (fun hx b hb => by
            by_cases h : b = j
            · subst h; exact hx
            · exact hq.out b (by omega))
          unfold QW at HNO
          have hXb := elI_in HV.out hil hjl
          obtain ⟨s1, s2⟩ := HSI.out j (by omega)
          obtain ⟨S, hS⟩ : ∃ S, S = sumI (rowI m i) j := ⟨_, rfl⟩
          have hSn := sumI_next HV.out hil hjl
          rw [← hS] at hSn s1 s2 ⊢
          have HYQ : Hid (elI m i j = elI m j i ∧ (i ≠ j → elI m i j ≤ 0) → QW m i j) := Lib.hid (fun h => h)
          generalize hX : elI m i j = X at *
          generalize hY : elI m j i = Y at *
          clear hej hX hY hS
          by_cases hxy : X = Y
          case neg =>
            have HN := Lib.hid (HNO.out (fun h => hxy h.1))
            clear hSn
            go_wp2
            go_ret
            exact ⟨HN.out, Below.refl _ _⟩
          subst hxy
          by_cases hij : i = j
          · have HY := Lib.hid (HYE.out (HYQ.out ⟨rfl, fun h => absurd hij h⟩))
            have HSN := Lib.hid hSn
            have hw : IntKind.i64.wrap (S + X) = S + X := IntWalk.i64_in _ (by omega)
            have hw2 : wrap64 (S + X) = S + X := by unfold wrap64; omega
            subst hij
            clear hSn
            go_wp2
            go_roundw
            case rel => exact ⟨i + 1, by omega, by go_num, by rw [HSN.out], HY, by first | trivial | rfl⟩
            case measure => simp [intOf]; omega
          · have hij' : ¬ ((i : Int) = (j : Int)) := by omega
            by_cases hpos : 0 < X
            · have HN := Lib.hid (HNO.out (fun h => by have := h.2 hij; omega))
              clear hSn
              go_wp2
              go_ret
              exact ⟨HN.out, Below.refl _ _⟩
            · have HY := Lib.hid (HYE.out (HYQ.out ⟨rfl, fun _ => by omega⟩))
              have HSN := Lib.hid hSn
              have hw : IntKind.i64.wrap (S + X) = S + X := IntWalk.i64_in _ (by omega)
              have hw2 : wrap64 (S + X) = S + X := by unfold wrap64; omega
              have hpos' : decide (0 < X) = false := by simp; omega
              clear hSn
              go_wp2
              go_roundw
              case rel => exact ⟨j + 1, by omega, by go_num, by rw [HSN.out], HY, by first | trivial | rfl⟩
              case measure => simp [intOf]; omega
        · obtain rfl : j = m.length := by omega
          by_cases hz : sumI (rowI m i) m.length = 0
          · have HT : Hid (∀ a, a < i + 1 → (∀ j, j < m.length → QW m a j) ∧ sumI (rowI m a) m.length = 0) := Lib.hid (fun a ha => by
              by_cases h : a = i
              · subst h; exact ⟨hq.out, hz⟩
              · exact hQ.out a (by omega))
            rw [hz]
            clear hz
            go_wp2
            go_roundw
            case rel => exact ⟨i + 1, by omega, by go_num, HT, by first | trivial | rfl⟩
            case measure => simp [intOf]; omega
          · have HN := Lib.hid (ret_w (isW_no (m := m) (fun h => hz (h.2.2 i hil).2)))
            generalize sumI (rowI m i) m.length = S at *
            go_wp2
            go_ret
            exact ⟨HN.out, Below.refl _ _⟩
    · obtain rfl : i = m.length := by omega
      have HY := Lib.hid (ret_w (isW_yes (m := m) ⟨by omega, HV.out, hQ.out⟩))
      go_wp2
      go_ret
      exact ⟨HY.out, Below.refl _ _⟩
end Go.Proofs.Ytpfnlnllaapjeaa
