/-
  Star matrices in the program: a row that has 0, IsStarMatrix.
-/
import Derived.Test.YtpfnlnllaapjeaaStarProd
import Derived.Laws.StructEq
namespace Go.Proofs.Ytpfnlnllaapjeaa
open Go.RowKit Go.Maps

set_option maxRecDepth 8000 in
set_option maxHeartbeats 12800000 in
theorem indexP_any (v : Value) (q : List P2) (x1 x2 : Int) (w : World) (h : ReadsP w v q) (h0 : 0 < q.length) :
    Calls Try.prog 208 #[v, .agg #[.int .i64 x1, .int .i64 x2]] w fun en w' => ∃ r : Int, en = .returned (.int .i64 r) ∧ (0 ≤ r ↔ ((x1, x2) : P2) ∈ q) ∧ Below w.heap.size w w' := by
  have hle := h.1
  obtain ⟨g, o, c, rfl, hg, hc⟩ := h.pos h0
  have HC := Lib.hid hc
  clear hc h
  go_enter Try.func208, Try.ntmps208
  go_wp2
  go_loopw [8] (fun i wr => ∃ k : Nat, k ≤ q.length ∧ i = .int .i64 k ∧ Hid (∀ j (h : j < q.length), j < k → q[j] ≠ (x1, x2)) ∧ Hid (wr.cell? ⟨w.heap.size, 0, none⟩ = some (.int .i64 x1) ∧ wr.cell? ⟨w.heap.size, 1, none⟩ = some (.int .i64 x2)) ∧ Hid (Below w.heap.size w wr)) (fun i _ => q.length - (intOf i).toNat)
  case atStart => exact ⟨0, Nat.zero_le _, rfl, Lib.hid (fun j _ h => absurd h (by omega)), Lib.hid ⟨by simp [go_sem], by simp [go_sem]⟩, Lib.hid (by (repeat (first | exact Below.refl _ _ | (refine Below.setCell ?_ (by (first | exact Nat.le_refl _ | omega | (simp <;> omega) | simp)) _) | (refine Below.alloc ?_ (by (first | exact Nat.le_refl _ | omega | (simp <;> omega) | simp)) _) | (refine below_draws ?_ _))))⟩
  case round =>
    obtain ⟨k, hk, rfl, hN, hX, hB⟩ := hrel
    by_cases hlt : k < q.length
    · obtain ⟨c0, c1⟩ := HC.out k hlt
      rw [← hB.out.cell (p := ⟨g, _, none⟩) hg] at c0 c1
      obtain ⟨u0, u1⟩ := hX.out
      have HF : ∀ z, Hid (Below w.heap.size w (wr.drewN z)) := fun z => Lib.hid (below_draws hB.out z)
      have HXX : ∀ z, Hid ((wr.drewN z).cell? ⟨w.heap.size, 0, none⟩ = some (.int .i64 x1) ∧ (wr.drewN z).cell? ⟨w.heap.size, 1, none⟩ = some (.int .i64 x2)) := fun z => Lib.hid hX.out
      obtain ⟨e, he⟩ : ∃ e, q[k] = e := ⟨_, rfl⟩
      rw [he] at c0 c1
      obtain ⟨y1, y2⟩ := e
      simp only at c0 c1
      by_cases hxy : ((x1, x2) : P2) = (y1, y2)
      · have HQ : Hid (((x1, x2) : P2) ∈ q) := Lib.hid (by rw [hxy, ← he]; exact List.getElem_mem hlt)
        simp only [Prod.mk.injEq] at hxy
        obtain ⟨rfl, rfl⟩ := hxy
        clear he
        go_wp2
        go_quiet (fail)
        go_wp2
        go_ret
        exact ⟨k, rfl, ⟨fun _ => HQ.out, fun _ => by omega⟩, (HF _).out⟩
      · have HNE : Hid (∀ j (h : j < q.length), j < k + 1 → q[j] ≠ (x1, x2)) := Lib.hid (fun j h hj => by
          by_cases e : j = k
          · subst e; rw [he]; exact fun e => hxy e.symm
          · exact hN.out j h (by omega))
        have hp := p2_parts hxy
        simp only at hp
        clear he hxy
        rcases hp with f1 | ⟨f1, f2⟩
        · go_wp2
          go_quiet (fail)
          go_wp2
          go_roundw
          case rel => exact ⟨k + 1, by omega, by go_num, HNE, HXX _, HF _⟩
          case measure => simp [intOf]; omega
        · subst f1
          go_wp2
          go_quiet (fail)
          go_wp2
          go_roundw
          case rel => exact ⟨k + 1, by omega, by go_num, HNE, HXX _, HF _⟩
          case measure => simp [intOf]; omega
    · obtain rfl : k = q.length := by omega
      have HQ : Hid (¬ ((x1, x2) : P2) ∈ q) := Lib.hid (fun h => by
        obtain ⟨j, hj, e⟩ := List.getElem_of_mem h
        exact hN.out j hj hj e)
      go_wp2
      go_ret
      exact ⟨-1, rfl, ⟨fun h => absurd h (by omega), fun h => absurd h HQ.out⟩, hB.out⟩
set_option maxHeartbeats 3200000 in
theorem containsP_any (v : Value) (q : List P2) (x1 x2 : Int) (w : World) (h : ReadsP w v q) (h0 : 0 < q.length) :
    Calls Try.prog 189 #[v, .agg #[.int .i64 x1, .int .i64 x2]] w fun en w' => en = .returned (.bool (decide (((x1, x2) : P2) ∈ q))) ∧ Below w.heap.size w w' := by
  have B0 : Below w.heap.size w (w.alloc (.cells #[.int .i64 x1, .int .i64 x2] 33)) := by (repeat (first | exact Below.refl _ _ | (refine Below.setCell ?_ (by (first | exact Nat.le_refl _ | omega | (simp <;> omega) | simp)) _) | (refine Below.alloc ?_ (by (first | exact Nat.le_refl _ | omega | (simp <;> omega) | simp)) _) | (refine below_draws ?_ _)))
  have hc := indexP_any v q x1 x2 _ (h.later B0) h0
  clear h
  go_enter Try.func189, Try.ntmps189
  go_wp2_with fail
  refine hc.mono ?_
  rintro en w1 ⟨r, rfl, hr, B1⟩
  by_cases hq : ((x1, x2) : P2) ∈ q
  · have HQ : Hid (Ending.returned (.bool true) = .returned (.bool (decide (((x1, x2) : P2) ∈ q)))) := Lib.hid (ret_of (by simpa using hq))
    have hr2 : decide (0 ≤ r) = true := by simpa using hr.2 hq
    have hr3 : 0 ≤ r := hr.2 hq
    clear hr hq hc
    go_wp2
    go_ret
    exact ⟨HQ.out, B0.trans (B1.mono B0.size)⟩
  · have HQ : Hid (Ending.returned (.bool false) = .returned (.bool (decide (((x1, x2) : P2) ∈ q)))) := Lib.hid (ret_of (by simpa using hq))
    have hr2 : ¬ 0 ≤ r := fun h => hq (hr.1 h)
    have hr3 : decide (0 ≤ r) = false := by simpa using hr2
    clear hr hq hc hr2
    go_wp2
    go_ret
    exact ⟨HQ.out, B0.trans (B1.mono B0.size)⟩
def ZeroP (m : MatP) : Prop := ∃ i, i < m.length ∧ ((0, 1) : P2) ∈ rowP m i
noncomputable def zeroB (m : MatP) : Bool := @decide (ZeroP m) (Classical.propDecidable _)
theorem zero_no {m : MatP} (h : ¬ ZeroP m) : zeroB m = false := by unfold zeroB; rw [@decide_eq_false _ (Classical.propDecidable _) h]
theorem zero_yes {m : MatP} (h : ZeroP m) : zeroB m = true := by unfold zeroB; rw [@decide_eq_true _ (Classical.propDecidable _) h]
theorem zero_iff {m : MatP} : zeroB m = true ↔ ZeroP m := by unfold zeroB; rw [@decide_eq_true_eq _ (Classical.propDecidable _)]
set_option maxRecDepth 8000 in
set_option maxHeartbeats 12800000 in
theorem impl_hasZero (v : Value) (m : MatP) (w : World) (hr : ReadsPP w v m) (h1 : 1 ≤ m.length) (h5 : m.length ≤ 5) (hL : ∀ i, i < m.length → (rowP m i).length = m.length) :
    Calls Try.prog 149 #[v] w fun en w' => en = .returned (.bool (zeroB m)) ∧ Below w.heap.size w w' := by
  obtain ⟨g, o, c, rfl, hg, hrows⟩ := rows_at hr (by omega) hL
  have HRW := Lib.hid hrows
  have HLL := Lib.hid hL
  clear hr hrows hL
  go_enter Try.func149, Try.ntmps149
  go_wp2
  go_loopw [7] (fun iv wi => ∃ i : Nat, i ≤ m.length ∧ iv = .int .i64 i ∧ Hid (∀ a, a < i → ¬ ((0, 1) : P2) ∈ rowP m a) ∧ Hid (Below w.heap.size w wi)) (fun iv _ => m.length - (intOf iv).toNat)
  case atStart => exact ⟨0, Nat.zero_le _, rfl, Lib.hid (fun a h => absurd h (by omega)), Lib.hid (Below.refl _ _)⟩
  case round =>
    obtain ⟨i, hi, rfl, hA, hB⟩ := hrel
    have hsz := hB.out.size
    by_cases hil : i < m.length
    · obtain ⟨gi, oi, ci, a0, -, hri, -⟩ := HRW.out i hil
      rw [← hB.out.cell (p := ⟨g, o + i, none⟩) hg] at a0
      have HRI := Lib.hid (hri.later hB.out)
      have hl0 : 0 < (rowP m i).length := by rw [HLL.out i hil]; omega
      have HCC := Lib.hid (fun W h => containsP_any (.slice (some ⟨gi, oi, none⟩) m.length ci) (rowP m i) 0 1 W h hl0)
      clear hri hl0
      go_wp2_with fail
      refine (c_rOf01 _).mono ?_
      rintro en w2 ⟨rfl, B2⟩
      have S2 := B2.size
      have HRI2 := Lib.hid (HRI.out.later B2)
      have h2 := hB.out.trans (B2.mono hsz)
      have H2 := Lib.hid h2
      clear a0 B2 h2
      go_wp2_with fail
      refine (HCC.out _ HRI2.out).mono ?_
      rintro en w3 ⟨rfl, B3⟩
      have HF := Lib.hid (H2.out.trans (B3.mono (by omega)))
      clear B3
      by_cases hq : ((0, 1) : P2) ∈ rowP m i
      · have HY : Hid (Ending.returned (.bool true) = .returned (.bool (zeroB m))) := Lib.hid (ret_of (zero_yes ⟨i, hil, hq⟩))
        have hd : decide (((0, 1) : P2) ∈ rowP m i) = true := by simpa using hq
        rw [hd]
        clear hq hd
        go_wp2
        go_ret
        exact ⟨HY.out, HF.out⟩
      · have HT : Hid (∀ a, a < i + 1 → ¬ ((0, 1) : P2) ∈ rowP m a) := Lib.hid (fun a ha => by
          by_cases e : a = i
          · subst e; exact hq
          · exact hA.out a (by omega))
        have hd : decide (((0, 1) : P2) ∈ rowP m i) = false := by simpa using hq
        rw [hd]
        clear hq hd
        go_wp2
        go_roundw
        case rel => exact ⟨i + 1, by omega, by go_num, HT, HF⟩
        case measure => simp [intOf]; omega
    · obtain rfl : i = m.length := by omega
      have HN : Hid (Ending.returned (.bool false) = .returned (.bool (zeroB m))) := Lib.hid (ret_of (zero_no (fun ⟨a, ha, h⟩ => hA.out a ha h)))
      go_wp2
      go_ret
      exact ⟨HN.out, hB.out⟩
theorem rOk_num0 {d : Int} (h : rOk 0 d = true) : d = 1 := by
  have h1 := (rOk_iff.1 h).1
  have h2 := rOk_gcd h
  simp at h2
  omega
theorem star_nz {m : MatP} (hR : IsR m) : (∀ a b, a < m.length → b < m.length → (elP m a b).1 ≠ 0) ↔ zeroB m = false := by
  constructor
  · intro h
    refine zero_no ?_
    rintro ⟨i, hi, hm⟩
    obtain ⟨j, hj, e⟩ := List.getElem_of_mem hm
    have hl := hR.2.2.1 i hi
    exact h i j hi (by omega) (by rw [elP_at hj, e])
  · intro h a b ha hb h0
    have hq := (hR.2.2.2.1 a b ha hb).1
    rw [h0] at hq
    have h1 := rOk_num0 hq
    have hl := hR.2.2.1 a ha
    have hb' : b < (rowP m a).length := by omega
    have : ZeroP m := ⟨a, ha, by
      have e : elP m a b = (0, 1) := Prod.ext h0 h1
      rw [elP_at hb'] at e
      rw [← e]
      exact List.getElem_mem hb'⟩
    rw [zero_yes this] at h
    cases h
set_option maxRecDepth 8000 in
set_option maxHeartbeats 6400000 in
theorem impl_isStar (v : Value) (m : MatP) (w : World) (hr : ReadsPP w v m) (hwf : ∀ k (h : k < m.length), WfL m[k]) :
    Calls Try.prog 98 #[v] w fun en w' => en = .returned (.bool (isStarB m)) ∧ Below w.heap.size w w' := by
  obtain ⟨p, cap, rfl, hm0, hm1⟩ := hr.shape
  have hres := impl_isResp _ m w hr hwf
  cases hb : isRB m
  · have HN : Hid (Ending.returned (.bool false) = .returned (.bool (isStarB m))) := Lib.hid (ret_of (isStar_no (fun h => by rw [isRB_iff.2 h.1] at hb; cases hb)))
    rw [hb] at hres
    clear hb hr hwf
    go_enter Try.func98, Try.ntmps98
    go_wp2_with fail
    refine hres.mono ?_
    rintro en w1 ⟨rfl, B1⟩
    go_wp2
    go_ret
    exact ⟨HN.out, B1⟩
  have hR := isRB_iff.1 hb
  rw [hb] at hres
  clear hb
  by_cases h3 : 3 ≤ m.length
  case neg =>
    have HN : Hid (Ending.returned (.bool false) = .returned (.bool (isStarB m))) := Lib.hid (ret_of (isStar_no (fun h => h3 h.2.1)))
    have h3' : ¬ (3 : Int) ≤ (m.length : Int) := by omega
    have h3d : decide ((3 : Int) ≤ (m.length : Int)) = false := by simp; omega
    clear hR hr hwf h3'
    go_enter Try.func98, Try.ntmps98
    go_wp2_with fail
    refine hres.mono ?_
    rintro en w1 ⟨rfl, B1⟩
    go_wp2
    go_ret
    exact ⟨HN.out, B1⟩
  have h3d : decide ((3 : Int) ≤ (m.length : Int)) = true := by simp; omega
  have hz := fun W h => impl_hasZero (.slice p m.length cap) m W h (by omega) hR.2.1 hR.2.2.1
  cases hzb : zeroB m
  case true =>
    have HN : Hid (Ending.returned (.bool false) = .returned (.bool (isStarB m))) := Lib.hid (ret_of (isStar_no (fun h => by rw [(star_nz hR).1 h.2.2.1] at hzb; cases hzb)))
    simp only [hzb] at hz
    have HZ := Lib.hid hz
    have HR := Lib.hid hr
    clear hR hr hwf hz hzb
    go_enter Try.func98, Try.ntmps98
    go_wp2_with fail
    refine hres.mono ?_
    rintro en w1 ⟨rfl, B1⟩
    have S1 := B1.size
    go_wp2_with fail
    refine (HZ.out _ (HR.out.later B1)).mono ?_
    rintro en w2 ⟨rfl, B2⟩
    go_wp2
    go_ret
    exact ⟨HN.out, B1.trans (B2.mono S1)⟩
  simp only [hzb] at hz
  have hpr := fun W h => impl_prodAgree (.slice p m.length cap) m W h hwf (by omega) hR.2.1 hR.2.2.1
  obtain ⟨bb, hbb⟩ : ∃ bb, prodB m = bb := ⟨_, rfl⟩
  simp only [hbb] at hpr
  have HE : Hid (Ending.returned (.bool bb) = .returned (.bool (isStarB m))) := Lib.hid (ret_of (by
    cases bb
    · exact isStar_no (fun h => by rw [prod_yes (star_prod h)] at hbb; cases hbb)
    · exact isStar_yes (star_parts hR h3 ((star_nz hR).2 hzb) (prod_iff.1 hbb))))
  have HZ := Lib.hid hz
  have HP := Lib.hid hpr
  have HR := Lib.hid hr
  clear hR hr hwf hz hzb hpr hbb
  go_enter Try.func98, Try.ntmps98
  go_wp2_with fail
  refine hres.mono ?_
  rintro en w1 ⟨rfl, B1⟩
  have S1 := B1.size
  go_wp2_with fail
  refine (HZ.out _ (HR.out.later B1)).mono ?_
  rintro en w2 ⟨rfl, B2⟩
  have S2 := B2.size
  go_wp2_with fail
  refine (HP.out _ ((HR.out.later B1).later B2)).mono ?_
  rintro en w3 ⟨rfl, B3⟩
  cases bb
  · go_wp2
    go_ret
    exact ⟨HE.out, (B1.trans (B2.mono S1)).trans (B3.mono (by omega))⟩
  · go_wp2
    go_ret
    exact ⟨HE.out, (B1.trans (B2.mono S1)).trans (B3.mono (by omega))⟩
end Go.Proofs.Ytpfnlnllaapjeaa
