/-
  SameResponse in the model and in the program: whether two matrices of fractions are equal in every element.
-/
import Derived.Test.YtbeddnegmggleaaRatSS
import Derived.Laws.StructEq
import Derived.Deep.RegionHeld3
namespace Go.Proofs.Ytbeddnegmggleaa
open Go.RowKit

theorem take_ext {α : Type} {a b : List α} {k : Nat} (h : a.take k = b.take k) (ha : k < a.length) (hb : k < b.length) (he : a[k] = b[k]) : a.take (k + 1) = b.take (k + 1) := by
  rw [List.take_succ_eq_append_getElem ha, List.take_succ_eq_append_getElem hb, h, he]
theorem take_all {α : Type} {a b : List α} (hl : a.length = b.length) (h : a.take a.length = b.take a.length) : a = b := by
  rw [List.take_length] at h
  rw [h, hl, List.take_length]
theorem ne_at {α : Type} {a b : List α} {k : Nat} (ha : k < a.length) (hb : k < b.length) (he : a[k] ≠ b[k]) : a ≠ b := fun h => by subst h; exact he rfl
theorem ne_len {α : Type} {a b : List α} (h : a.length ≠ b.length) : a ≠ b := fun e => by subst e; exact h rfl
theorem dec_yes {α : Type} [DecidableEq α] {a b : α} (h : a = b) : Ending.returned (.bool true) = .returned (.bool (decide (a = b))) := by rw [decide_eq_true h]
theorem dec_no {α : Type} [DecidableEq α] {a b : α} (h : a ≠ b) : Ending.returned (.bool false) = .returned (.bool (decide (a = b))) := by rw [decide_eq_false h]
theorem p2_ne {a b : P2} (h : a ≠ b) : (a.1 == b.1) = false ∨ ((a.1 == b.1) = true ∧ (a.2 == b.2) = false) := by
  by_cases h1 : a.1 = b.1
  · right
    have h2 : a.2 ≠ b.2 := fun h2 => h (Prod.ext h1 h2)
    simp [h1, h2]
  · left; simpa using h1
theorem len_ne {a b : Nat} (h : a ≠ b) : ((a : Int) == (b : Int)) = false := by simp; omega
set_option maxHeartbeats 3200000 in
theorem impl_eqRow (va vb : Value) (a b : List P2) (w : World) (ha : ReadsP w va a) (hb : ReadsP w vb b) :
    Calls Try.prog 86 #[va, vb] w fun en w' => en = .returned (.bool (decide (a = b))) ∧ Below w.heap.size w w' := by
  obtain ⟨p, cap, rfl⟩ := ha.shape
  obtain ⟨p', cap', rfl⟩ := hb.shape
  have hm := ha.1
  have hm' := hb.1
  by_cases hl : a.length = b.length
  case neg =>
    have HN := Lib.hid (dec_no (ne_len hl))
    have hl' := len_ne hl
    clear ha hb hl
    go_enter Try.func86, Try.ntmps86
    go_wp2
    go_ret
    exact ⟨HN.out, Below.refl _ _⟩
  have HA := Lib.hid ha; clear ha
  have HB := Lib.hid hb; clear hb
  rw [← hl] at hm'
  generalize hlb : b.length = n at *
  subst hl
  have HL := Lib.hid hlb.symm
  go_enter Try.func86, Try.ntmps86
  go_wp2
  go_loopw [13] (fun i wr => ∃ k : Nat, k ≤ a.length ∧ i = .int .i64 k ∧ Hid (a.take k = b.take k) ∧ Hid (Below w.heap.size w wr)) (fun i _ => a.length - (intOf i).toNat)
  case atStart => exact ⟨0, Nat.zero_le _, rfl, Lib.hid rfl, Lib.hid (Below.refl _ _)⟩
  case round =>
    obtain ⟨k, hk, rfl, hE, hB⟩ := hrel
    by_cases hlt : k < a.length
    · have hlt' : k < b.length := by omega
      obtain ⟨g, o, c, hv, hg, hc⟩ := HA.out.pos (by omega)
      simp only [Value.slice.injEq] at hv
      obtain ⟨rfl, -, rfl⟩ := hv
      obtain ⟨g', o', c', hv, hg', hd⟩ := HB.out.pos (by omega)
      simp only [Value.slice.injEq] at hv
      obtain ⟨rfl, -, rfl⟩ := hv
      obtain ⟨c0, c1⟩ := hc k hlt
      obtain ⟨d0, d1⟩ := hd k hlt'
      have hsz := hB.out.size
      rw [← hB.out.cell (p := ⟨g, o + k * 2, none⟩) hg] at c0
      rw [← hB.out.cell (p := ⟨g, o + k * 2 + 1, none⟩) hg] at c1
      rw [← hB.out.cell (p := ⟨g', o' + k * 2, none⟩) hg'] at d0
      rw [← hB.out.cell (p := ⟨g', o' + k * 2 + 1, none⟩) hg'] at d1
      clear hc hd
      have HB2 : ∀ q, Hid (Below w.heap.size w (wr.drewN q)) := fun q => Lib.hid (below_draws hB.out q)
      by_cases he : a[k] = b[k]
      · have HT := Lib.hid (take_ext hE.out hlt hlt' he)
        have e1 : a[k].1 = b[k].1 := by rw [he]
        have e2 : a[k].2 = b[k].2 := by rw [he]
        rw [← e1] at d0
        rw [← e2] at d1
        clear he e1 e2
        go_wp2
        go_quiet (fail)
        go_wp2
        go_roundw
        case rel => exact ⟨k + 1, by omega, by go_num, HT, HB2 _⟩
        case measure => simp [intOf]; omega
      · have HN := Lib.hid (dec_no (ne_at hlt hlt' he))
        rcases p2_ne he with f1 | ⟨f1, f2⟩
        all_goals
          clear he
          go_wp2
          go_quiet (fail)
          go_wp2
          go_ret
          exact ⟨HN.out, (HB2 _).out⟩
    · obtain rfl : k = a.length := by omega
      have HY := Lib.hid (dec_yes (take_all HL.out hE.out))
      go_wp2
      go_ret
      exact ⟨HY.out, hB.out⟩
set_option maxHeartbeats 3200000 in
theorem impl_eqRows (va vb : Value) (a b : MatP) (w : World) (ha : ReadsPP w va a) (hb : ReadsPP w vb b) :
    Calls Try.prog 85 #[va, vb, .func (.func 86) #[] #[]] w fun en w' => en = .returned (.bool (decide (a = b))) ∧ Below w.heap.size w w' := by
  obtain ⟨p, cap, rfl, hm, hm1⟩ := ha.shape
  obtain ⟨p', cap', rfl, hm2, hm3⟩ := hb.shape
  by_cases hl : a.length = b.length
  case neg =>
    have HN := Lib.hid (dec_no (ne_len hl))
    have hl' := len_ne hl
    clear ha hb hl
    go_enter Try.func85, Try.ntmps85
    go_wp2
    go_ret
    exact ⟨HN.out, Below.refl _ _⟩
  have HA := Lib.hid ha; clear ha
  have HB := Lib.hid hb; clear hb
  rw [← hl] at hm2
  generalize hlb : b.length = n at *
  subst hl
  have HL := Lib.hid hlb.symm
  go_enter Try.func85, Try.ntmps85
  go_wp2
  go_loopw [17] (fun i wr => ∃ k : Nat, k ≤ a.length ∧ i = .int .i64 k ∧ Hid (a.take k = b.take k) ∧ Hid (Below w.heap.size w wr)) (fun i _ => a.length - (intOf i).toNat)
  case atStart => exact ⟨0, Nat.zero_le _, rfl, Lib.hid rfl, Lib.hid (Below.refl _ _)⟩
  case round =>
    obtain ⟨k, hk, rfl, hE, hB⟩ := hrel
    by_cases hlt : k < a.length
    · have hlt' : k < b.length := by omega
      obtain ⟨g, o, c, hv, -, -, hg, hc⟩ := HA.out.pos (by omega)
      simp only [Value.slice.injEq] at hv
      obtain ⟨rfl, -, rfl⟩ := hv
      obtain ⟨g', o', c', hv, -, -, hg', hd⟩ := HB.out.pos (by omega)
      simp only [Value.slice.injEq] at hv
      obtain ⟨rfl, -, rfl⟩ := hv
      obtain ⟨ra, c0, r0⟩ := hc k hlt
      obtain ⟨rb, d0, r1⟩ := hd k hlt'
      have hsz := hB.out.size
      rw [← hB.out.cell (p := ⟨g, o + k, none⟩) hg] at c0
      rw [← hB.out.cell (p := ⟨g', o' + k, none⟩) hg'] at d0
      have hcall := impl_eqRow ra rb a[k] b[k] wr (r0.later hB.out) (r1.later hB.out)
      clear hc hd r0 r1
      by_cases he : a[k] = b[k]
      · have HT := Lib.hid (take_ext hE.out hlt hlt' he)
        rw [decide_eq_true he] at hcall
        clear he
        go_wp2_with fail
        refine hcall.mono ?_
        rintro en w1 ⟨rfl, B1⟩
        have HB2 : Hid (Below w.heap.size w w1) := Lib.hid (hB.out.trans (B1.mono hsz))
        clear hcall c0 d0 B1
        go_wp2
        go_roundw
        case rel => exact ⟨k + 1, by omega, by go_num, HT, HB2⟩
        case measure => simp [intOf]; omega
      · have HN := Lib.hid (dec_no (ne_at hlt hlt' he))
        rw [decide_eq_false he] at hcall
        clear he
        go_wp2_with fail
        refine hcall.mono ?_
        rintro en w1 ⟨rfl, B1⟩
        have HB2 : Hid (Below w.heap.size w w1) := Lib.hid (hB.out.trans (B1.mono hsz))
        clear hcall c0 d0 B1
        go_wp2
        go_ret
        exact ⟨HN.out, HB2.out⟩
    · obtain rfl : k = a.length := by omega
      have HY := Lib.hid (dec_yes (take_all HL.out hE.out))
      go_wp2
      go_ret
      exact ⟨HY.out, hB.out⟩
set_option maxRecDepth 8000 in
theorem impl_sameResp (va vb : Value) (a b : MatP) (w : World) (ha : ReadsPP w va a) (hb : ReadsPP w vb b) :
    Calls Try.prog 29 #[va, vb] w fun en w' => en = .returned (.bool (decide (a = b))) ∧ Below w.heap.size w w' := by
  have hcall := impl_eqRows va vb a b w ha hb
  clear ha hb
  go_enter Try.func29, Try.ntmps29
  go_wp2_with fail
  refine hcall.mono ?_
  rintro en w1 ⟨rfl, B1⟩
  go_wp2
  go_ret
  exact ⟨rfl, B1⟩
set_option maxHeartbeats 6400000 in
theorem spec_sameResp (va vb : Value) (a b : MatP) (w : World) (ha : ReadsPP w va a) (hb : ReadsPP w vb b) :
    Calls Try.prog 58 #[va, vb] w fun en w' => en = .returned (.bool (decide (a = b))) ∧ Below w.heap.size w w' := by
  obtain ⟨p, cap, rfl, hm, hm1⟩ := ha.shape
  obtain ⟨p', cap', rfl, hm2, hm3⟩ := hb.shape
  by_cases hl : a.length = b.length
  case neg =>
    have HN := Lib.hid (dec_no (ne_len hl))
    have hl' := len_ne hl
    clear ha hb hl
    go_enter Try.func58, Try.ntmps58
    go_wp2
    go_ret
    exact ⟨HN.out, Below.refl _ _⟩
  have HA := Lib.hid ha; clear ha
  have HB := Lib.hid hb; clear hb
  rw [← hl] at hm2
  generalize hlb : b.length = n at *
  subst hl
  have HL := Lib.hid hlb.symm
  go_enter Try.func58, Try.ntmps58
  go_wp2
  go_loopw [16] (fun i wr => ∃ k : Nat, k ≤ a.length ∧ i = .int .i64 k ∧ Hid (a.take k = b.take k) ∧ Hid (Below w.heap.size w wr)) (fun i _ => a.length - (intOf i).toNat)
  case atStart => exact ⟨0, Nat.zero_le _, rfl, Lib.hid rfl, Lib.hid (Below.refl _ _)⟩
  case round =>
    obtain ⟨k, hk, rfl, hE, hB⟩ := hrel
    by_cases hlt : k < a.length
    · have hlt' : k < b.length := by omega
      obtain ⟨g, o, c, hv, -, -, hg, hc⟩ := HA.out.pos (by omega)
      simp only [Value.slice.injEq] at hv
      obtain ⟨rfl, -, rfl⟩ := hv
      obtain ⟨g', o', c', hv, -, -, hg', hd⟩ := HB.out.pos (by omega)
      simp only [Value.slice.injEq] at hv
      obtain ⟨rfl, -, rfl⟩ := hv
      obtain ⟨ra, c0, r0⟩ := hc k hlt
      obtain ⟨rb, d0, r1⟩ := hd k hlt'
      have HD0 := Lib.hid d0
      have hsz := hB.out.size
      rw [← hB.out.cell (p := ⟨g, o + k, none⟩) hg] at c0
      rw [← hB.out.cell (p := ⟨g', o' + k, none⟩) hg'] at d0
      obtain ⟨pa, ca, rfl⟩ := r0.shape
      obtain ⟨pb, cb, rfl⟩ := r1.shape
      have h9 := r0.1
      have h8 := r1.1
      have R0 := Lib.hid r0
      have R1 := Lib.hid r1
      clear hc hd r0 r1
      generalize hra : a[k] = x at *
      generalize hrb : b[k] = y at *
      have HRA := Lib.hid hra
      have HRB := Lib.hid hrb
      clear hra hrb
      by_cases hly : x.length = y.length
      case neg =>
        have HN := Lib.hid (dec_no (ne_at hlt hlt' (by rw [HRA.out, HRB.out]; exact ne_len hly)))
        have hl' := len_ne hly
        clear hly
        go_wp2
        go_ret
        exact ⟨HN.out, hB.out⟩
      have HLY := Lib.hid hly
      rw [← hly] at h8 d0
      have HD1 : Hid (w.cell? ⟨g', o' + k, none⟩ = some (.slice pb x.length cb)) := Lib.hid (by rw [hly]; exact HD0.out)
      have R1' : Hid (ReadsP w (.slice pb x.length cb) y) := Lib.hid (by rw [hly]; exact R1.out)
      clear HD0 R1 hly
      go_wp2
      go_loopw [31] (fun i wi => ∃ j : Nat, j ≤ x.length ∧ i = .int .i64 j ∧ Hid (x.take j = y.take j) ∧ Hid (Below w.heap.size w wi)) (fun i _ => x.length - (intOf i).toNat)
      case atStart => exact ⟨0, Nat.zero_le _, rfl, Lib.hid rfl, hB⟩
      case round =>
        clear hsz hB c0 d0
        rename World => wi
        obtain ⟨j, hj, rfl, hEj, hBj⟩ := hrel
        by_cases hjl : j < x.length
        · have hjl' : j < y.length := by have := HLY.out; omega
          obtain ⟨ga, oa, c, hv, hga, hca⟩ := R0.out.pos (by omega)
          simp only [Value.slice.injEq] at hv
          obtain ⟨rfl, -, rfl⟩ := hv
          obtain ⟨gb, ob, c', hv, hgb, hcb⟩ := R1'.out.pos (by omega)
          simp only [Value.slice.injEq] at hv
          obtain ⟨rfl, -, rfl⟩ := hv
          obtain ⟨a0, a1⟩ := hca j hjl
          obtain ⟨b0, b1⟩ := hcb j hjl'
          have hsj := hBj.out.size
          rw [← hBj.out.cell (p := ⟨ga, oa + j * 2, none⟩) hga] at a0
          rw [← hBj.out.cell (p := ⟨ga, oa + j * 2 + 1, none⟩) hga] at a1
          have l1 : gb < wi.heap.size := by omega
          have l2 : g' < wi.heap.size := by omega
          rw [← hBj.out.cell (p := ⟨gb, ob + j * 2, none⟩) hgb] at b0
          rw [← hBj.out.cell (p := ⟨gb, ob + j * 2 + 1, none⟩) hgb] at b1
          have d0 := HD1.out
          rw [← hBj.out.cell (p := ⟨g', o' + k, none⟩) hg'] at d0
          have n1 : gb ≠ wi.heap.size := by omega
          have n2 : g' ≠ wi.heap.size := by omega
          have y0 := fun z => (World.cell?_alloc_old wi z ⟨gb, ob + j * 2, none⟩ n1).trans b0
          have y1 := fun z => (World.cell?_alloc_old wi z ⟨gb, ob + j * 2 + 1, none⟩ n1).trans b1
          have y2 := fun z => (World.cell?_alloc_old wi z ⟨g', o' + k, none⟩ n2).trans d0
          have HB2 : ∀ u0 u1 q, Hid (Below w.heap.size w ((wi.alloc (.cells #[u0, u1] 31)).drewN q)) := fun u0 u1 q => Lib.hid (below_draws (hBj.out.alloc hsj _) q)
          clear hca hcb
          by_cases he : x[j] = y[j]
          · have HT := Lib.hid (take_ext hEj.out hjl hjl' he)
            have e1 : x[j].1 = y[j].1 := by rw [he]
            have e2 : x[j].2 = y[j].2 := by rw [he]
            rw [← e1] at y0 b0
            rw [← e2] at y1 b1
            clear he e1 e2
            go_wp2
            go_quiet (fail)
            go_wp2
            go_roundw
            case rel => exact ⟨j + 1, by omega, by go_num, HT, HB2 _ _ _⟩
            case measure => simp [intOf]; omega
          · have HN := Lib.hid (dec_no (ne_at hlt hlt' (by rw [HRA.out, HRB.out]; exact ne_at hjl hjl' he)))
            rcases p2_ne he with f1 | ⟨f1, f2⟩
            all_goals
              clear he
              go_wp2
              go_quiet (fail)
              go_wp2
              go_ret
              exact ⟨HN.out, (HB2 _ _ _).out⟩
        · obtain rfl : j = x.length := by omega
          have HT := Lib.hid (take_ext hE.out hlt hlt' (by rw [HRA.out, HRB.out]; exact take_all HLY.out hEj.out))
          go_wp2
          go_roundw
          case rel => exact ⟨k + 1, by omega, by go_num, HT, hBj⟩
          case measure => simp [intOf]; omega
    · obtain rfl : k = a.length := by omega
      have HY := Lib.hid (dec_yes (take_all HL.out hE.out))
      go_wp2
      go_ret
      exact ⟨HY.out, hB.out⟩
end Go.Proofs.Ytbeddnegmggleaa
