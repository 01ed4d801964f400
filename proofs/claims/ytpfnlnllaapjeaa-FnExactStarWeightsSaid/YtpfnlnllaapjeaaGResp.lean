/-
  What a response is: a matrix of valid fractions, symmetric, nothing positive off the diagonal, each row's sum 0; how its rows read.
  IsResponse in the model.
  IsResponse in the program.
-/
import Derived.Test.YtpfnlnllaapjeaaRatSS
import Derived.Test.YtpfnlnllaapjeaaRatArg
import Derived.Test.YtpfnlnllaapjeaaGPow
import Derived.Test.YtpfnlnllaapjeaaGKeep
import Derived.Test.YtpfnlnllaapjeaaKept
import Derived.Test.YtpfnlnllaapjeaaPowBoth
import Derived.Laws.StructEq
import Derived.Deep.RegionHeld3
import Derived.Deep.DeepCutAuto
namespace Go.Proofs.Ytpfnlnllaapjeaa
open Go.RowKit

def rowP (m : MatP) (i : Nat) : List P2 := m.getD i []
def elP (m : MatP) (i j : Nat) : P2 := (rowP m i).getD j (0, 0)
def sumK (r : List P2) (k : Nat) : P2 := (r.take k).foldl (fun S e => rSum S.1 S.2 e.1 e.2) (0, 1)
def QR (m : MatP) (i j : Nat) : Prop := rOk (elP m i j).1 (elP m i j).2 = true ∧ elP m i j = elP m j i ∧ (i ≠ j → (elP m i j).1 ≤ 0)
def IsR (m : MatP) : Prop := 1 ≤ m.length ∧ m.length ≤ 5 ∧ (∀ i, i < m.length → (rowP m i).length = m.length) ∧ (∀ i j, i < m.length → j < m.length → QR m i j) ∧ ∀ i, i < m.length → sumK (rowP m i) m.length = (0, 1)
noncomputable def isRB (m : MatP) : Bool := @decide (IsR m) (Classical.propDecidable _)
theorem isR_no {m : MatP} (h : ¬ IsR m) : Ending.returned (.bool false) = .returned (.bool (isRB m)) := by unfold isRB; rw [@decide_eq_false _ (Classical.propDecidable _) h]
theorem isR_yes {m : MatP} (h : IsR m) : Ending.returned (.bool true) = .returned (.bool (isRB m)) := by unfold isRB; rw [@decide_eq_true _ (Classical.propDecidable _) h]
theorem rowP_at {m : MatP} {i : Nat} (h : i < m.length) : rowP m i = m[i] := by simp [rowP, h]
theorem elP_at {m : MatP} {i j : Nat} (h : j < (rowP m i).length) : elP m i j = (rowP m i)[j] := by simp [elP, h]
theorem sumK_zero (r : List P2) : sumK r 0 = (0, 1) := by simp [sumK]
theorem sumK_succ (r : List P2) (k : Nat) (h : k < r.length) : sumK r (k + 1) = rSum (sumK r k).1 (sumK r k).2 r[k].1 r[k].2 := by
  unfold sumK
  rw [List.take_succ_eq_append_getElem h, List.foldl_append]
  rfl
theorem sumR_in (n d m e : Int) : In (rSum n d m e).1 ∧ In (rSum n d m e).2 := by
  unfold rSum
  split
  · exact rOf_in _ _
  · exact ⟨⟨by decide, by decide⟩, ⟨by decide, by decide⟩⟩
theorem sumK_in (r : List P2) : ∀ k, k ≤ r.length → In (sumK r k).1 ∧ In (sumK r k).2
  | 0, _ => by rw [sumK_zero]; exact ⟨⟨by decide, by decide⟩, ⟨by decide, by decide⟩⟩
  | k + 1, h => by rw [sumK_succ r k (by omega)]; exact sumR_in _ _ _ _
theorem rows_at {w : World} {v : Value} {m : MatP} (h : ReadsPP w v m) (h0 : 0 < m.length) (hL : ∀ i, i < m.length → (rowP m i).length = m.length) : ∃ g o c, v = .slice (some ⟨g, o, none⟩) m.length c ∧ g < w.heap.size ∧ ∀ i, i < m.length → ∃ gi oi ci, w.cell? ⟨g, o + i, none⟩ = some (.slice (some ⟨gi, oi, none⟩) m.length ci) ∧ gi < w.heap.size ∧ ReadsP w (.slice (some ⟨gi, oi, none⟩) m.length ci) (rowP m i) ∧ ∀ j, j < m.length → w.cell? ⟨gi, oi + j * 2, none⟩ = some (.int .i64 (elP m i j).1) ∧ w.cell? ⟨gi, oi + j * 2 + 1, none⟩ = some (.int .i64 (elP m i j).2) := by
  obtain ⟨g, o, c, rfl, _, _, hg, hc⟩ := h.pos h0
  refine ⟨g, o, c, rfl, hg, fun i hi => ?_⟩
  obtain ⟨r, hr, hp⟩ := hc i hi
  rw [← rowP_at hi] at hp
  have hl := hL i hi
  obtain ⟨gi, oi, ci, rfl, hgi, hcc⟩ := hp.pos (by omega)
  rw [hl] at hr hp
  exact ⟨gi, oi, ci, hr, hgi, hp, fun j hj => by
    have hj' : j < (rowP m i).length := by omega
    rw [elP_at hj']
    exact hcc j hj'⟩
theorem el_in {m : MatP} (hw : ∀ k (h : k < m.length), WfL m[k]) {i j : Nat} (hi : i < m.length) (hj : j < (rowP m i).length) : In (elP m i j).1 ∧ In (elP m i j).2 := by
  rw [elP_at hj]
  have h := hw i hi
  simp only [rowP_at hi] at hj ⊢
  exact h j hj
end Go.Proofs.Ytpfnlnllaapjeaa

namespace Go.Proofs.Ytpfnlnllaapjeaa
open Go.RowKit

theorem p2_parts {a b : P2} (h : a ≠ b) : (a.1 == b.1) = false ∨ (a.1 = b.1 ∧ (a.2 == b.2) = false) := by
  by_cases h1 : a.1 = b.1
  · right
    have h2 : a.2 ≠ b.2 := fun h2 => h (Prod.ext h1 h2)
    exact ⟨h1, by simpa using h2⟩
  · left; simpa using h1
theorem s01_parts {a : P2} (h : a ≠ (0, 1)) : (a.1 == 0) = false ∨ (a.1 = 0 ∧ (a.2 == 1) = false) := p2_parts h
set_option maxRecDepth 8000 in
set_option maxHeartbeats 12800000 in
theorem spec_isResp (v : Value) (m : MatP) (w : World) (hr : ReadsPP w v m) (hwf : ∀ k (h : k < m.length), WfL m[k]) :
    Calls Try.prog 141 #[v] w fun en w' => en = .returned (.bool (isRB m)) ∧ Below w.heap.size w w' := by
  obtain ⟨p, cap, rfl, hm0, hm1⟩ := hr.shape
  by_cases hn : (1 : Int) ≤ (m.length : Int) ∧ (m.length : Int) ≤ 5
  case neg =>
    have HN := Lib.hid (isR_no (m := m) (fun h => hn (by have h1 := h.1; have h2 := h.2.1; omega)))
    clear hr hwf
    go_enter Try.func141, Try.ntmps141
    go_wp2_with fail
    refine (in_no' (m.length : Int) 1 5 _ _ (by omega) (by omega) hn _).mono ?_
    rintro en w1 ⟨rfl, rfl⟩
    go_wp2
    go_ret
    exact ⟨HN.out, Below.refl _ _⟩
  obtain ⟨n1, n5⟩ := hn
  have HR := Lib.hid hr
  have HWF := Lib.hid hwf
  clear hr hwf
  go_enter Try.func141, Try.ntmps141
  go_wp2_with fail
  refine (in_yes' (m.length : Int) 1 5 _ _ (by omega) (by omega) n1 n5 _).mono ?_
  rintro en w1 ⟨rfl, rfl⟩
  go_wp2
  go_loopw [16] (fun i wr => ∃ k : Nat, k ≤ m.length ∧ i = .int .i64 k ∧ Hid (∀ j, j < k → (rowP m j).length = m.length) ∧ Hid (Below w.heap.size w wr)) (fun i _ => m.length - (intOf i).toNat)
  case atStart => exact ⟨0, Nat.zero_le _, rfl, Lib.hid (fun j hj => absurd hj (by omega)), Lib.hid (Below.refl _ _)⟩
  case round =>
    obtain ⟨k, hk, rfl, hL, hB⟩ := hrel
    by_cases hlt : k < m.length
    · obtain ⟨g, o, c, hv, -, -, hg, hc⟩ := HR.out.pos (by omega)
      simp only [Value.slice.injEq] at hv
      obtain ⟨rfl, -, rfl⟩ := hv
      obtain ⟨r, c0, r0⟩ := hc k hlt
      have hsz := hB.out.size
      rw [← hB.out.cell (p := ⟨g, o + k, none⟩) hg] at c0
      obtain ⟨pa, ca, rfl⟩ := r0.shape
      have h9 := r0.1
      have hrow := rowP_at hlt
      clear hc r0
      generalize m[k] = x at *
      by_cases hx : x.length = m.length
      · have HT : Hid (∀ j, j < k + 1 → (rowP m j).length = m.length) := Lib.hid (fun j hj => by
          by_cases h : j = k
          · subst h; rw [hrow]; exact hx
          · exact hL.out j (by omega))
        rw [hx] at c0
        clear hx hrow
        go_wp2
        go_roundw
        case rel => exact ⟨k + 1, by omega, by go_num, HT, hB⟩
        case measure => simp [intOf]; omega
      · have HN := Lib.hid (isR_no (m := m) (fun h => hx (by have h1 := h.2.2.1 k hlt; rw [hrow] at h1; exact h1)))
        have hx' : ((x.length : Int) == (m.length : Int)) = false := by simp; omega
        clear hx hrow
        go_wp2
        go_ret
        exact ⟨HN.out, hB.out⟩
    · obtain rfl : k = m.length := by omega
      rename World => wz
      have HL := Lib.hid hL.out
      have HRA := rows_at HR.out (by omega) HL.out
      obtain ⟨g, o, c, hv, hg, hrows⟩ := HRA
      simp only [Value.slice.injEq] at hv
      obtain ⟨rfl, -, rfl⟩ := hv
      have HRW := Lib.hid hrows
      clear hrows hk hlt hL
      go_wp2
      go_loopw [28] (fun iv wr => ∃ i : Nat, i ≤ m.length ∧ iv = .int .i64 i ∧ Hid (∀ a, a < i → (∀ j, j < m.length → QR m a j) ∧ sumK (rowP m a) m.length = (0, 1)) ∧ Hid (Below w.heap.size w wr)) (fun iv _ => m.length - (intOf iv).toNat)
      case atStart => exact ⟨0, Nat.zero_le _, rfl, Lib.hid (fun a ha => absurd ha (by omega)), hB⟩
      case round =>
        clear hB
        obtain ⟨i, hi, rfl, hQ, hB⟩ := hrel
        have hsz := hB.out.size
        by_cases hil : i < m.length
        · obtain ⟨gi, oi, ci, a0, hgi, hri, hel⟩ := HRW.out i hil
          rw [← hB.out.cell (p := ⟨g, o + i, none⟩) hg] at a0
          have HEL := Lib.hid hel
          have hlen := HL.out i hil
          have HSI := Lib.hid (sumK_in (rowP m i))
          have HSS := Lib.hid (sumK_succ (rowP m i))
          have HLEN := Lib.hid hlen
          have hgr : gi < wr.heap.size := by omega
          have hgr0 : g < wr.heap.size := by omega
          have HG : Hid ((wr.alloc (.cells #[.int .i64 0, .int .i64 1] 33)).cell? ⟨wr.heap.size, 0, none⟩ = some (.int .i64 (sumK (rowP m i) 0).1) ∧ (wr.alloc (.cells #[.int .i64 0, .int .i64 1] 33)).cell? ⟨wr.heap.size, 1, none⟩ = some (.int .i64 (sumK (rowP m i) 0).2) ∧ (∀ o, (wr.alloc (.cells #[.int .i64 0, .int .i64 1] 33)).frozen? ⟨wr.heap.size, o, none⟩ = false) ∧ wr.heap.size < (wr.alloc (.cells #[.int .i64 0, .int .i64 1] 33)).heap.size) := Lib.hid (by rw [sumK_zero]; exact ⟨by simp [go_sem], by simp [go_sem], fun o => by simp [go_sem], by simp⟩)
          have HB0 : Hid (Below wr.heap.size wr (wr.alloc (.cells #[.int .i64 0, .int .i64 1] 33))) := Lib.hid ((Below.refl _ _).alloc (Nat.le_refl _) _)
          clear hri hel hlen
          go_wp2
          go_loopw [36] (fun jv wi => ∃ j : Nat, j ≤ m.length ∧ jv = .int .i64 j ∧ Hid (∀ b, b < j → QR m i b) ∧ Hid (wi.cell? ⟨wr.heap.size, 0, none⟩ = some (.int .i64 (sumK (rowP m i) j).1) ∧ wi.cell? ⟨wr.heap.size, 1, none⟩ = some (.int .i64 (sumK (rowP m i) j).2) ∧ (∀ o, wi.frozen? ⟨wr.heap.size, o, none⟩ = false) ∧ wr.heap.size < wi.heap.size) ∧ Hid (Below wr.heap.size wr wi)) (fun jv _ => m.length - (intOf jv).toNat)
          case atStart => exact ⟨0, Nat.zero_le _, rfl, Lib.hid (fun a ha => absurd ha (by omega)), HG, HB0⟩
          case round =>
            clear HG HB0 a0
            obtain ⟨j, hj, rfl, hq, hS0, hBi⟩ := hrel
            rename World => wi
            obtain ⟨S0, S1, SF, hl3⟩ := hS0.out
            have hBw : Below w.heap.size w wi := hB.out.trans (hBi.out.mono hsz)
            have hsi := hBi.out.size
            by_cases hjl : j < m.length
            · obtain ⟨gj, oj, cj, b0, hgj, -, hej⟩ := HRW.out j hjl
              obtain ⟨x0, x1⟩ := HEL.out j hjl
              obtain ⟨e0, e1⟩ := hej i hil
              have hgi' : gi < wi.heap.size := by omega
              have hg' : g < wi.heap.size := by omega
              have hgj' : gj < wi.heap.size := by omega
              rw [← hBw.cell (p := ⟨gi, _, none⟩) hgi] at x0 x1
              rw [← hBw.cell (p := ⟨gj, _, none⟩) hgj] at e0 e1
              rw [← hBw.cell (p := ⟨g, _, none⟩) hg] at b0
              have hb : ∃ b : Bool, (b = true ∧ ¬ QR m i j) ∨ (b = false ∧ QR m i j) := by
                by_cases h : QR m i j
                · exact ⟨false, .inr ⟨rfl, h⟩⟩
                · exact ⟨true, .inl ⟨rfl, h⟩⟩
              obtain ⟨b, hb⟩ := hb
              have hin := el_in HWF.out hil (show j < (rowP m i).length by have := HLEN.out; omega)
              have hSn := HSS.out j (show j < (rowP m i).length by have := HLEN.out; omega)
              have iK := HSI.out j (by have := HLEN.out; omega)
              rw [← elP_at (show j < (rowP m i).length by have := HLEN.out; omega)] at hSn
              have HBQ := Lib.hid hb
              unfold QR at hb
              generalize hX : elP m i j = X at *
              generalize hY : elP m j i = Y at *
              obtain ⟨X1, X2⟩ := X
              obtain ⟨Y1, Y2⟩ := Y
              generalize hKK : sumK (rowP m i) j = K at *
              obtain ⟨K1, K2⟩ := K
              simp only at hb hin hSn x0 x1 e0 e1 S0 S1 iK
              obtain ⟨N1, N2, hNN⟩ : ∃ N1 N2, sumK (rowP m i) (j + 1) = (N1, N2) := ⟨_, _, rfl⟩
              have HNN := Lib.hid hNN
              rw [hNN] at hSn
              have cSum := Lib.hid (fun W => s_sum hSn.symm iK hin W)
              have cok := fun W => spec_rOk X1 X2 W hin.1.1 hin.1.2 hin.2.1 hin.2.2
              have HB := Lib.hid hb
              have hA : Below wi.heap.size wi (wi.alloc (.cells #[.int .i64 X1, .int .i64 X2] 33)) := (Below.refl _ _).alloc (Nat.le_refl _) _
              have hT : (wi.alloc (.cells #[.int .i64 X1, .int .i64 X2] 33)).cell? ⟨wi.heap.size, 0, none⟩ = some (.int .i64 X1) ∧ (wi.alloc (.cells #[.int .i64 X1, .int .i64 X2] 33)).cell? ⟨wi.heap.size, 1, none⟩ = some (.int .i64 X2) ∧ (wi.alloc (.cells #[.int .i64 X1, .int .i64 X2] 33)).cell? ⟨g, o + j, none⟩ = some (.slice (some ⟨gj, oj, none⟩) m.length cj) ∧ (wi.alloc (.cells #[.int .i64 X1, .int .i64 X2] 33)).cell? ⟨gj, oj + i * 2, none⟩ = some (.int .i64 Y1) ∧ (wi.alloc (.cells #[.int .i64 X1, .int .i64 X2] 33)).cell? ⟨gj, oj + i * 2 + 1, none⟩ = some (.int .i64 Y2) ∧ (wi.alloc (.cells #[.int .i64 X1, .int .i64 X2] 33)).cell? ⟨g, o + j, none⟩ = some (.slice (some ⟨gj, oj, none⟩) m.length cj) ∧ wi.heap.size + 1 ≤ (wi.alloc (.cells #[.int .i64 X1, .int .i64 X2] 33)).heap.size ∧ wi.heap.size ≤ wi.heap.size + 1 ∧ Below wi.heap.size wi (wi.alloc (.cells #[.int .i64 X1, .int .i64 X2] 33)) := ⟨by simp [go_sem], by simp [go_sem], (hA.cell (p := ⟨g, _, none⟩) hg').trans b0, (hA.cell (p := ⟨gj, _, none⟩) hgj').trans e0, (hA.cell (p := ⟨gj, _, none⟩) hgj').trans e1, (hA.cell (p := ⟨g, _, none⟩) hg').trans b0, by simp, Nat.le_succ _, hA⟩
              have HSS0 := Lib.hid (And.intro S0 (And.intro S1 SF))
              clear S0 S1 SF hb hNN hSn hin iK hA hX hY hKK b0 e0 e1
              go_upto_region 16 with fail
              go_cut [64] (fun s64 wx => s64 = .bool b ∧ wx.cell? ⟨wi.heap.size, 0, none⟩ = some (.int .i64 X1) ∧ wx.cell? ⟨wi.heap.size, 1, none⟩ = some (.int .i64 X2) ∧ wx.cell? ⟨g, o + j, none⟩ = some (.slice (some ⟨gj, oj, none⟩) m.length cj) ∧ wx.cell? ⟨gj, oj + i * 2, none⟩ = some (.int .i64 Y1) ∧ wx.cell? ⟨gj, oj + i * 2 + 1, none⟩ = some (.int .i64 Y2) ∧ wx.cell? ⟨g, o + j, none⟩ = some (.slice (some ⟨gj, oj, none⟩) m.length cj) ∧ wi.heap.size + 1 ≤ wx.heap.size ∧ wi.heap.size ≤ wi.heap.size + 1 ∧ Below wi.heap.size wi wx)
              case first =>
                have hS := k6_drew hT
                clear hT
                cases hk : rOk X1 X2
                · rw [hk] at cok
                  have COK := Lib.hid cok
                  have hbt : b = true := by
                    rcases HB.out with ⟨h, _⟩ | ⟨_, h⟩
                    · exact h
                    · exact absurd h.1 (by rw [hk]; simp)
                  subst hbt
                  clear hk cok
                  refine wp_region_held_drew (S := fun w' => w'.cell? ⟨wi.heap.size, 0, none⟩ = some (.int .i64 X1) ∧ w'.cell? ⟨wi.heap.size, 1, none⟩ = some (.int .i64 X2) ∧ w'.cell? ⟨g, o + j, none⟩ = some (.slice (some ⟨gj, oj, none⟩) m.length cj) ∧ w'.cell? ⟨gj, oj + i * 2, none⟩ = some (.int .i64 Y1) ∧ w'.cell? ⟨gj, oj + i * 2 + 1, none⟩ = some (.int .i64 Y2) ∧ w'.cell? ⟨g, o + j, none⟩ = some (.slice (some ⟨gj, oj, none⟩) m.length cj) ∧ wi.heap.size + 1 ≤ w'.heap.size ∧ wi.heap.size ≤ wi.heap.size + 1 ∧ Below wi.heap.size wi w') (by kernel_rfl) hS (fun hHeld => ?_)
                  refine take_on (i := 0) (d := some 41) (v := .agg #[.int .i64 X1, .int .i64 X2]) rfl rfl (by kernel_rfl) (by kernel_rfl) (by kernel_rfl) (fun _ _ _ h => h) (by rfl) (by (intro w hSw; (try dsimp only at hSw); go_simp)) (by assumption) ?_
                  try simp only [Act.put, List.setIfInBounds_toArray, List.set_cons_zero, List.set_cons_succ]
                  refine wpAnyH_ready (rs := [1]) (by kernel_rfl) (by simp) ?_
                  refine AllReadyH.cons rfl (fun K hK => ?_) AllReadyH.nil
                  go_simp
                  with_reducible refine Calls.mono (COK.out _) ?_
                  rintro en wa ⟨rfl, Ba⟩
                  replace hS := k6_keep Ba hS
                  go_wp2_with fail
                  refine hK.out _ _ hS (fun hHeld => ?_)
                  clear hK K
                  try simp only [Act.put, List.setIfInBounds_toArray, List.set_cons_zero, List.set_cons_succ]
                  refine take_on (i := 2) (d := some 43) (v := .bool true) rfl rfl (by kernel_rfl) (by kernel_rfl) (by kernel_rfl) (fun _ _ _ h => h) (by rfl) (by (intro w hSw; (try dsimp only at hSw); go_simp)) (by assumption) ?_
                  try simp only [Act.put, List.setIfInBounds_toArray, List.set_cons_zero, List.set_cons_succ]
                  refine take_on (i := 3) (d := some 44) (v := .bool true) rfl rfl (by kernel_rfl) (by kernel_rfl) (by kernel_rfl) (fun _ _ _ h => h) (by rfl) (by (intro w hSw; (try dsimp only at hSw); go_simp)) (by assumption) ?_
                  try simp only [Act.put, List.setIfInBounds_toArray, List.set_cons_zero, List.set_cons_succ]
                  refine take_off (i := 4) (d := some 45) rfl rfl (by kernel_rfl) (by kernel_rfl) (by kernel_rfl) (fun _ _ _ h => h) (by rfl) (by assumption) ?_
                  try simp only [Act.put, List.setIfInBounds_toArray, List.set_cons_zero, List.set_cons_succ]
                  refine take_off (i := 5) (d := some 46) rfl rfl (by kernel_rfl) (by kernel_rfl) (by kernel_rfl) (fun _ _ _ h => h) (by rfl) (by assumption) ?_
                  try simp only [Act.put, List.setIfInBounds_toArray, List.set_cons_zero, List.set_cons_succ]
                  refine take_off (i := 6) (d := some 47) rfl rfl (by kernel_rfl) (by kernel_rfl) (by kernel_rfl) (fun _ _ _ h => h) (by rfl) (by assumption) ?_
                  try simp only [Act.put, List.setIfInBounds_toArray, List.set_cons_zero, List.set_cons_succ]
                  refine take_off (i := 7) (d := some 48) rfl rfl (by kernel_rfl) (by kernel_rfl) (by kernel_rfl) (fun _ _ _ h => h) (by rfl) (by assumption) ?_
                  try simp only [Act.put, List.setIfInBounds_toArray, List.set_cons_zero, List.set_cons_succ]
                  refine take_off (i := 8) (d := some 49) rfl rfl (by kernel_rfl) (by kernel_rfl) (by kernel_rfl) (fun _ _ _ h => h) (by rfl) (by assumption) ?_
                  try simp only [Act.put, List.setIfInBounds_toArray, List.set_cons_zero, List.set_cons_succ]
                  refine take_off (i := 9) (d := some 50) rfl rfl (by kernel_rfl) (by kernel_rfl) (by kernel_rfl) (fun _ _ _ h => h) (by rfl) (by assumption) ?_
                  try simp only [Act.put, List.setIfInBounds_toArray, List.set_cons_zero, List.set_cons_succ]
                  refine take_off (i := 10) (d := some 51) rfl rfl (by kernel_rfl) (by kernel_rfl) (by kernel_rfl) (fun _ _ _ h => h) (by rfl) (by assumption) ?_
                  try simp only [Act.put, List.setIfInBounds_toArray, List.set_cons_zero, List.set_cons_succ]
                  refine take_off (i := 11) (d := some 52) rfl rfl (by kernel_rfl) (by kernel_rfl) (by kernel_rfl) (fun _ _ _ h => h) (by rfl) (by assumption) ?_
                  try simp only [Act.put, List.setIfInBounds_toArray, List.set_cons_zero, List.set_cons_succ]
                  refine take_off (i := 12) (d := some 53) rfl rfl (by kernel_rfl) (by kernel_rfl) (by kernel_rfl) (fun _ _ _ h => h) (by rfl) (by assumption) ?_
                  try simp only [Act.put, List.setIfInBounds_toArray, List.set_cons_zero, List.set_cons_succ]
                  refine take_on (i := 13) (d := some 54) (v := .bool true) rfl rfl (by kernel_rfl) (by kernel_rfl) (by kernel_rfl) (fun _ _ _ h => h) (by rfl) (by (intro w hSw; (try dsimp only at hSw); go_simp)) (by assumption) ?_
                  try simp only [Act.put, List.setIfInBounds_toArray, List.set_cons_zero, List.set_cons_succ]
                  refine take_on (i := 14) (d := some 55) (v := .bool true) rfl rfl (by kernel_rfl) (by kernel_rfl) (by kernel_rfl) (fun _ _ _ h => h) (by rfl) (by (intro w hSw; (try dsimp only at hSw); go_simp)) (by assumption) ?_
                  try simp only [Act.put, List.setIfInBounds_toArray, List.set_cons_zero, List.set_cons_succ]
                  refine take_off (i := 15) (d := some 56) rfl rfl (by kernel_rfl) (by kernel_rfl) (by kernel_rfl) (fun _ _ _ h => h) (by rfl) (by assumption) ?_
                  try simp only [Act.put, List.setIfInBounds_toArray, List.set_cons_zero, List.set_cons_succ]
                  refine take_off (i := 16) (d := some 57) rfl rfl (by kernel_rfl) (by kernel_rfl) (by kernel_rfl) (fun _ _ _ h => h) (by rfl) (by assumption) ?_
                  try simp only [Act.put, List.setIfInBounds_toArray, List.set_cons_zero, List.set_cons_succ]
                  refine take_off (i := 17) (d := some 58) rfl rfl (by kernel_rfl) (by kernel_rfl) (by kernel_rfl) (fun _ _ _ h => h) (by rfl) (by assumption) ?_
                  try simp only [Act.put, List.setIfInBounds_toArray, List.set_cons_zero, List.set_cons_succ]
                  refine take_off (i := 18) (d := some 59) rfl rfl (by kernel_rfl) (by kernel_rfl) (by kernel_rfl) (fun _ _ _ h => h) (by rfl) (by assumption) ?_
                  try simp only [Act.put, List.setIfInBounds_toArray, List.set_cons_zero, List.set_cons_succ]
                  refine take_off (i := 19) (d := some 60) rfl rfl (by kernel_rfl) (by kernel_rfl) (by kernel_rfl) (fun _ _ _ h => h) (by rfl) (by assumption) ?_
                  try simp only [Act.put, List.setIfInBounds_toArray, List.set_cons_zero, List.set_cons_succ]
                  refine take_off (i := 20) (d := some 61) rfl rfl (by kernel_rfl) (by kernel_rfl) (by kernel_rfl) (fun _ _ _ h => h) (by rfl) (by assumption) ?_
                  try simp only [Act.put, List.setIfInBounds_toArray, List.set_cons_zero, List.set_cons_succ]
                  refine take_off (i := 21) (d := some 62) rfl rfl (by kernel_rfl) (by kernel_rfl) (by kernel_rfl) (fun _ _ _ h => h) (by rfl) (by assumption) ?_
                  try simp only [Act.put, List.setIfInBounds_toArray, List.set_cons_zero, List.set_cons_succ]
                  refine take_off (i := 22) (d := some 63) rfl rfl (by kernel_rfl) (by kernel_rfl) (by kernel_rfl) (fun _ _ _ h => h) (by rfl) (by assumption) ?_
                  try simp only [Act.put, List.setIfInBounds_toArray, List.set_cons_zero, List.set_cons_succ]
                  refine take_on (i := 23) (d := some 64) (v := .bool true) rfl rfl (by kernel_rfl) (by kernel_rfl) (by kernel_rfl) (fun _ _ _ h => h) (by rfl) (by (intro w hSw; (try dsimp only at hSw); go_simp)) (by assumption) ?_
                  try simp only [Act.put, List.setIfInBounds_toArray, List.set_cons_zero, List.set_cons_succ]
                  refine wpAnyH_done (by kernel_rfl) ?_ _
                  go_wp2_with fail
                  go_meet
                  exact ⟨rfl, hS⟩
                rw [hk] at cok
                have COK := Lib.hid cok
                by_cases hxy : ((X1, X2) : P2) = (Y1, Y2)
                case neg =>
                  have hbt : b = true := by
                    rcases HB.out with ⟨h, _⟩ | ⟨_, h⟩
                    · exact h
                    · exact absurd h.2.1 hxy
                  subst hbt
                  have hp := p2_parts hxy
                  simp only at hp
                  rcases hp with f1 | ⟨f1, f2⟩
                  · clear hk cok hxy
                    refine wp_region_held_drew (S := fun w' => w'.cell? ⟨wi.heap.size, 0, none⟩ = some (.int .i64 X1) ∧ w'.cell? ⟨wi.heap.size, 1, none⟩ = some (.int .i64 X2) ∧ w'.cell? ⟨g, o + j, none⟩ = some (.slice (some ⟨gj, oj, none⟩) m.length cj) ∧ w'.cell? ⟨gj, oj + i * 2, none⟩ = some (.int .i64 Y1) ∧ w'.cell? ⟨gj, oj + i * 2 + 1, none⟩ = some (.int .i64 Y2) ∧ w'.cell? ⟨g, o + j, none⟩ = some (.slice (some ⟨gj, oj, none⟩) m.length cj) ∧ wi.heap.size + 1 ≤ w'.heap.size ∧ wi.heap.size ≤ wi.heap.size + 1 ∧ Below wi.heap.size wi w') (by kernel_rfl) hS (fun hHeld => ?_)
                    refine take_on (i := 0) (d := some 41) (v := .agg #[.int .i64 X1, .int .i64 X2]) rfl rfl (by kernel_rfl) (by kernel_rfl) (by kernel_rfl) (fun _ _ _ h => h) (by rfl) (by (intro w hSw; (try dsimp only at hSw); go_simp)) (by assumption) ?_
                    try simp only [Act.put, List.setIfInBounds_toArray, List.set_cons_zero, List.set_cons_succ]
                    refine wpAnyH_ready (rs := [1]) (by kernel_rfl) (by simp) ?_
                    refine AllReadyH.cons rfl (fun K hK => ?_) AllReadyH.nil
                    go_simp
                    with_reducible refine Calls.mono (COK.out _) ?_
                    rintro en wa ⟨rfl, Ba⟩
                    replace hS := k6_keep Ba hS
                    go_wp2_with fail
                    refine hK.out _ _ hS (fun hHeld => ?_)
                    clear hK K
                    try simp only [Act.put, List.setIfInBounds_toArray, List.set_cons_zero, List.set_cons_succ]
                    refine take_on (i := 2) (d := some 43) (v := .bool false) rfl rfl (by kernel_rfl) (by kernel_rfl) (by kernel_rfl) (fun _ _ _ h => h) (by rfl) (by (intro w hSw; (try dsimp only at hSw); go_simp)) (by assumption) ?_
                    try simp only [Act.put, List.setIfInBounds_toArray, List.set_cons_zero, List.set_cons_succ]
                    refine take_on (i := 3) (d := some 44) (v := .bool false) rfl rfl (by kernel_rfl) (by kernel_rfl) (by kernel_rfl) (fun _ _ _ h => h) (by rfl) (by (intro w hSw; (try dsimp only at hSw); go_simp)) (by assumption) ?_
                    try simp only [Act.put, List.setIfInBounds_toArray, List.set_cons_zero, List.set_cons_succ]
                    refine take_on (i := 4) (d := some 45) (v := .agg #[.int .i64 X1, .int .i64 X2]) rfl rfl (by kernel_rfl) (by kernel_rfl) (by kernel_rfl) (fun _ _ _ h => h) (by rfl) (by (intro w hSw; (try dsimp only at hSw); go_simp)) (by assumption) ?_
                    try simp only [Act.put, List.setIfInBounds_toArray, List.set_cons_zero, List.set_cons_succ]
                    refine take_on (i := 5) (d := some 46) (v := .slice (some ⟨g, o, none⟩) m.length cap) rfl rfl (by kernel_rfl) (by kernel_rfl) (by kernel_rfl) (fun _ _ _ h => h) (by rfl) (by (intro w hSw; (try dsimp only at hSw); go_simp)) (by assumption) ?_
                    try simp only [Act.put, List.setIfInBounds_toArray, List.set_cons_zero, List.set_cons_succ]
                    refine take_on (i := 6) (d := some 47) (v := .int .i64 j) rfl rfl (by kernel_rfl) (by kernel_rfl) (by kernel_rfl) (fun _ _ _ h => h) (by rfl) (by (intro w hSw; (try dsimp only at hSw); go_simp)) (by assumption) ?_
                    try simp only [Act.put, List.setIfInBounds_toArray, List.set_cons_zero, List.set_cons_succ]
                    refine take_on (i := 7) (d := some 48) (v := .pointer (some ⟨g, o + j, none⟩)) rfl rfl (by kernel_rfl) (by kernel_rfl) (by kernel_rfl) (fun _ _ _ h => h) (by rfl) (by (intro w hSw; (try dsimp only at hSw); go_simp)) (by assumption) ?_
                    try simp only [Act.put, List.setIfInBounds_toArray, List.set_cons_zero, List.set_cons_succ]
                    refine take_on (i := 8) (d := some 49) (v := .slice (some ⟨gj, oj, none⟩) m.length cj) rfl rfl (by kernel_rfl) (by kernel_rfl) (by kernel_rfl) (fun _ _ _ h => h) (by rfl) (by (intro w hSw; (try dsimp only at hSw); go_simp)) (by assumption) ?_
                    try simp only [Act.put, List.setIfInBounds_toArray, List.set_cons_zero, List.set_cons_succ]
                    refine take_on (i := 9) (d := some 50) (v := .int .i64 i) rfl rfl (by kernel_rfl) (by kernel_rfl) (by kernel_rfl) (fun _ _ _ h => h) (by rfl) (by (intro w hSw; (try dsimp only at hSw); go_simp)) (by assumption) ?_
                    try simp only [Act.put, List.setIfInBounds_toArray, List.set_cons_zero, List.set_cons_succ]
                    refine take_on (i := 10) (d := some 51) (v := .pointer (some ⟨gj, oj + i * 2, none⟩)) rfl rfl (by kernel_rfl) (by kernel_rfl) (by kernel_rfl) (fun _ _ _ h => h) (by rfl) (by (intro w hSw; (try dsimp only at hSw); go_simp)) (by assumption) ?_
                    try simp only [Act.put, List.setIfInBounds_toArray, List.set_cons_zero, List.set_cons_succ]
                    refine take_on (i := 11) (d := some 52) (v := .agg #[.int .i64 Y1, .int .i64 Y2]) rfl rfl (by kernel_rfl) (by kernel_rfl) (by kernel_rfl) (fun _ _ _ h => h) (by rfl) (by (intro w hSw; (try dsimp only at hSw); go_simp)) (by assumption) ?_
                    try simp only [Act.put, List.setIfInBounds_toArray, List.set_cons_zero, List.set_cons_succ]
                    refine take_on (i := 12) (d := some 53) (v := .bool true) rfl rfl (by kernel_rfl) (by kernel_rfl) (by kernel_rfl) (fun _ _ _ h => h) (by rfl) (by (intro w hSw; (try dsimp only at hSw); go_simp)) (by assumption) ?_
                    try simp only [Act.put, List.setIfInBounds_toArray, List.set_cons_zero, List.set_cons_succ]
                    refine take_on (i := 13) (d := some 54) (v := .bool true) rfl rfl (by kernel_rfl) (by kernel_rfl) (by kernel_rfl) (fun _ _ _ h => h) (by rfl) (by (intro w hSw; (try dsimp only at hSw); go_simp)) (by assumption) ?_
                    try simp only [Act.put, List.setIfInBounds_toArray, List.set_cons_zero, List.set_cons_succ]
                    refine take_on (i := 14) (d := some 55) (v := .bool true) rfl rfl (by kernel_rfl) (by kernel_rfl) (by kernel_rfl) (fun _ _ _ h => h) (by rfl) (by (intro w hSw; (try dsimp only at hSw); go_simp)) (by assumption) ?_
                    try simp only [Act.put, List.setIfInBounds_toArray, List.set_cons_zero, List.set_cons_succ]
                    refine take_off (i := 15) (d := some 56) rfl rfl (by kernel_rfl) (by kernel_rfl) (by kernel_rfl) (fun _ _ _ h => h) (by rfl) (by assumption) ?_
                    try simp only [Act.put, List.setIfInBounds_toArray, List.set_cons_zero, List.set_cons_succ]
                    refine take_off (i := 16) (d := some 57) rfl rfl (by kernel_rfl) (by kernel_rfl) (by kernel_rfl) (fun _ _ _ h => h) (by rfl) (by assumption) ?_
                    try simp only [Act.put, List.setIfInBounds_toArray, List.set_cons_zero, List.set_cons_succ]
                    refine take_off (i := 17) (d := some 58) rfl rfl (by kernel_rfl) (by kernel_rfl) (by kernel_rfl) (fun _ _ _ h => h) (by rfl) (by assumption) ?_
                    try simp only [Act.put, List.setIfInBounds_toArray, List.set_cons_zero, List.set_cons_succ]
                    refine take_off (i := 18) (d := some 59) rfl rfl (by kernel_rfl) (by kernel_rfl) (by kernel_rfl) (fun _ _ _ h => h) (by rfl) (by assumption) ?_
                    try simp only [Act.put, List.setIfInBounds_toArray, List.set_cons_zero, List.set_cons_succ]
                    refine take_off (i := 19) (d := some 60) rfl rfl (by kernel_rfl) (by kernel_rfl) (by kernel_rfl) (fun _ _ _ h => h) (by rfl) (by assumption) ?_
                    try simp only [Act.put, List.setIfInBounds_toArray, List.set_cons_zero, List.set_cons_succ]
                    refine take_off (i := 20) (d := some 61) rfl rfl (by kernel_rfl) (by kernel_rfl) (by kernel_rfl) (fun _ _ _ h => h) (by rfl) (by assumption) ?_
                    try simp only [Act.put, List.setIfInBounds_toArray, List.set_cons_zero, List.set_cons_succ]
                    refine take_off (i := 21) (d := some 62) rfl rfl (by kernel_rfl) (by kernel_rfl) (by kernel_rfl) (fun _ _ _ h => h) (by rfl) (by assumption) ?_
                    try simp only [Act.put, List.setIfInBounds_toArray, List.set_cons_zero, List.set_cons_succ]
                    refine take_off (i := 22) (d := some 63) rfl rfl (by kernel_rfl) (by kernel_rfl) (by kernel_rfl) (fun _ _ _ h => h) (by rfl) (by assumption) ?_
                    try simp only [Act.put, List.setIfInBounds_toArray, List.set_cons_zero, List.set_cons_succ]
                    refine take_on (i := 23) (d := some 64) (v := .bool true) rfl rfl (by kernel_rfl) (by kernel_rfl) (by kernel_rfl) (fun _ _ _ h => h) (by rfl) (by (intro w hSw; (try dsimp only at hSw); go_simp)) (by assumption) ?_
                    try simp only [Act.put, List.setIfInBounds_toArray, List.set_cons_zero, List.set_cons_succ]
                    refine wpAnyH_done (by kernel_rfl) ?_ _
                    go_wp2_with fail
                    go_meet
                    exact ⟨rfl, hS⟩
                  · subst f1
                    clear hk cok hxy
                    refine wp_region_held_drew (S := fun w' => w'.cell? ⟨wi.heap.size, 0, none⟩ = some (.int .i64 X1) ∧ w'.cell? ⟨wi.heap.size, 1, none⟩ = some (.int .i64 X2) ∧ w'.cell? ⟨g, o + j, none⟩ = some (.slice (some ⟨gj, oj, none⟩) m.length cj) ∧ w'.cell? ⟨gj, oj + i * 2, none⟩ = some (.int .i64 X1) ∧ w'.cell? ⟨gj, oj + i * 2 + 1, none⟩ = some (.int .i64 Y2) ∧ w'.cell? ⟨g, o + j, none⟩ = some (.slice (some ⟨gj, oj, none⟩) m.length cj) ∧ wi.heap.size + 1 ≤ w'.heap.size ∧ wi.heap.size ≤ wi.heap.size + 1 ∧ Below wi.heap.size wi w') (by kernel_rfl) hS (fun hHeld => ?_)
                    refine take_on (i := 0) (d := some 41) (v := .agg #[.int .i64 X1, .int .i64 X2]) rfl rfl (by kernel_rfl) (by kernel_rfl) (by kernel_rfl) (fun _ _ _ h => h) (by rfl) (by (intro w hSw; (try dsimp only at hSw); go_simp)) (by assumption) ?_
                    try simp only [Act.put, List.setIfInBounds_toArray, List.set_cons_zero, List.set_cons_succ]
                    refine wpAnyH_ready (rs := [1]) (by kernel_rfl) (by simp) ?_
                    refine AllReadyH.cons rfl (fun K hK => ?_) AllReadyH.nil
                    go_simp
                    with_reducible refine Calls.mono (COK.out _) ?_
                    rintro en wa ⟨rfl, Ba⟩
                    replace hS := k6_keep Ba hS
                    go_wp2_with fail
                    refine hK.out _ _ hS (fun hHeld => ?_)
                    clear hK K
                    try simp only [Act.put, List.setIfInBounds_toArray, List.set_cons_zero, List.set_cons_succ]
                    refine take_on (i := 2) (d := some 43) (v := .bool false) rfl rfl (by kernel_rfl) (by kernel_rfl) (by kernel_rfl) (fun _ _ _ h => h) (by rfl) (by (intro w hSw; (try dsimp only at hSw); go_simp)) (by assumption) ?_
                    try simp only [Act.put, List.setIfInBounds_toArray, List.set_cons_zero, List.set_cons_succ]
                    refine take_on (i := 3) (d := some 44) (v := .bool false) rfl rfl (by kernel_rfl) (by kernel_rfl) (by kernel_rfl) (fun _ _ _ h => h) (by rfl) (by (intro w hSw; (try dsimp only at hSw); go_simp)) (by assumption) ?_
                    try simp only [Act.put, List.setIfInBounds_toArray, List.set_cons_zero, List.set_cons_succ]
                    refine take_on (i := 4) (d := some 45) (v := .agg #[.int .i64 X1, .int .i64 X2]) rfl rfl (by kernel_rfl) (by kernel_rfl) (by kernel_rfl) (fun _ _ _ h => h) (by rfl) (by (intro w hSw; (try dsimp only at hSw); go_simp)) (by assumption) ?_
                    try simp only [Act.put, List.setIfInBounds_toArray, List.set_cons_zero, List.set_cons_succ]
                    refine take_on (i := 5) (d := some 46) (v := .slice (some ⟨g, o, none⟩) m.length cap) rfl rfl (by kernel_rfl) (by kernel_rfl) (by kernel_rfl) (fun _ _ _ h => h) (by rfl) (by (intro w hSw; (try dsimp only at hSw); go_simp)) (by assumption) ?_
                    try simp only [Act.put, List.setIfInBounds_toArray, List.set_cons_zero, List.set_cons_succ]
                    refine take_on (i := 6) (d := some 47) (v := .int .i64 j) rfl rfl (by kernel_rfl) (by kernel_rfl) (by kernel_rfl) (fun _ _ _ h => h) (by rfl) (by (intro w hSw; (try dsimp only at hSw); go_simp)) (by assumption) ?_
                    try simp only [Act.put, List.setIfInBounds_toArray, List.set_cons_zero, List.set_cons_succ]
                    refine take_on (i := 7) (d := some 48) (v := .pointer (some ⟨g, o + j, none⟩)) rfl rfl (by kernel_rfl) (by kernel_rfl) (by kernel_rfl) (fun _ _ _ h => h) (by rfl) (by (intro w hSw; (try dsimp only at hSw); go_simp)) (by assumption) ?_
                    try simp only [Act.put, List.setIfInBounds_toArray, List.set_cons_zero, List.set_cons_succ]
                    refine take_on (i := 8) (d := some 49) (v := .slice (some ⟨gj, oj, none⟩) m.length cj) rfl rfl (by kernel_rfl) (by kernel_rfl) (by kernel_rfl) (fun _ _ _ h => h) (by rfl) (by (intro w hSw; (try dsimp only at hSw); go_simp)) (by assumption) ?_
                    try simp only [Act.put, List.setIfInBounds_toArray, List.set_cons_zero, List.set_cons_succ]
                    refine take_on (i := 9) (d := some 50) (v := .int .i64 i) rfl rfl (by kernel_rfl) (by kernel_rfl) (by kernel_rfl) (fun _ _ _ h => h) (by rfl) (by (intro w hSw; (try dsimp only at hSw); go_simp)) (by assumption) ?_
                    try simp only [Act.put, List.setIfInBounds_toArray, List.set_cons_zero, List.set_cons_succ]
                    refine take_on (i := 10) (d := some 51) (v := .pointer (some ⟨gj, oj + i * 2, none⟩)) rfl rfl (by kernel_rfl) (by kernel_rfl) (by kernel_rfl) (fun _ _ _ h => h) (by rfl) (by (intro w hSw; (try dsimp only at hSw); go_simp)) (by assumption) ?_
                    try simp only [Act.put, List.setIfInBounds_toArray, List.set_cons_zero, List.set_cons_succ]
                    refine take_on (i := 11) (d := some 52) (v := .agg #[.int .i64 X1, .int .i64 Y2]) rfl rfl (by kernel_rfl) (by kernel_rfl) (by kernel_rfl) (fun _ _ _ h => h) (by rfl) (by (intro w hSw; (try dsimp only at hSw); go_simp)) (by assumption) ?_
                    try simp only [Act.put, List.setIfInBounds_toArray, List.set_cons_zero, List.set_cons_succ]
                    refine take_on (i := 12) (d := some 53) (v := .bool true) rfl rfl (by kernel_rfl) (by kernel_rfl) (by kernel_rfl) (fun _ _ _ h => h) (by rfl) (by (intro w hSw; (try dsimp only at hSw); go_simp)) (by assumption) ?_
                    try simp only [Act.put, List.setIfInBounds_toArray, List.set_cons_zero, List.set_cons_succ]
                    refine take_on (i := 13) (d := some 54) (v := .bool true) rfl rfl (by kernel_rfl) (by kernel_rfl) (by kernel_rfl) (fun _ _ _ h => h) (by rfl) (by (intro w hSw; (try dsimp only at hSw); go_simp)) (by assumption) ?_
                    try simp only [Act.put, List.setIfInBounds_toArray, List.set_cons_zero, List.set_cons_succ]
                    refine take_on (i := 14) (d := some 55) (v := .bool true) rfl rfl (by kernel_rfl) (by kernel_rfl) (by kernel_rfl) (fun _ _ _ h => h) (by rfl) (by (intro w hSw; (try dsimp only at hSw); go_simp)) (by assumption) ?_
                    try simp only [Act.put, List.setIfInBounds_toArray, List.set_cons_zero, List.set_cons_succ]
                    refine take_off (i := 15) (d := some 56) rfl rfl (by kernel_rfl) (by kernel_rfl) (by kernel_rfl) (fun _ _ _ h => h) (by rfl) (by assumption) ?_
                    try simp only [Act.put, List.setIfInBounds_toArray, List.set_cons_zero, List.set_cons_succ]
                    refine take_off (i := 16) (d := some 57) rfl rfl (by kernel_rfl) (by kernel_rfl) (by kernel_rfl) (fun _ _ _ h => h) (by rfl) (by assumption) ?_
                    try simp only [Act.put, List.setIfInBounds_toArray, List.set_cons_zero, List.set_cons_succ]
                    refine take_off (i := 17) (d := some 58) rfl rfl (by kernel_rfl) (by kernel_rfl) (by kernel_rfl) (fun _ _ _ h => h) (by rfl) (by assumption) ?_
                    try simp only [Act.put, List.setIfInBounds_toArray, List.set_cons_zero, List.set_cons_succ]
                    refine take_off (i := 18) (d := some 59) rfl rfl (by kernel_rfl) (by kernel_rfl) (by kernel_rfl) (fun _ _ _ h => h) (by rfl) (by assumption) ?_
                    try simp only [Act.put, List.setIfInBounds_toArray, List.set_cons_zero, List.set_cons_succ]
                    refine take_off (i := 19) (d := some 60) rfl rfl (by kernel_rfl) (by kernel_rfl) (by kernel_rfl) (fun _ _ _ h => h) (by rfl) (by assumption) ?_
                    try simp only [Act.put, List.setIfInBounds_toArray, List.set_cons_zero, List.set_cons_succ]
                    refine take_off (i := 20) (d := some 61) rfl rfl (by kernel_rfl) (by kernel_rfl) (by kernel_rfl) (fun _ _ _ h => h) (by rfl) (by assumption) ?_
                    try simp only [Act.put, List.setIfInBounds_toArray, List.set_cons_zero, List.set_cons_succ]
                    refine take_off (i := 21) (d := some 62) rfl rfl (by kernel_rfl) (by kernel_rfl) (by kernel_rfl) (fun _ _ _ h => h) (by rfl) (by assumption) ?_
                    try simp only [Act.put, List.setIfInBounds_toArray, List.set_cons_zero, List.set_cons_succ]
                    refine take_off (i := 22) (d := some 63) rfl rfl (by kernel_rfl) (by kernel_rfl) (by kernel_rfl) (fun _ _ _ h => h) (by rfl) (by assumption) ?_
                    try simp only [Act.put, List.setIfInBounds_toArray, List.set_cons_zero, List.set_cons_succ]
                    refine take_on (i := 23) (d := some 64) (v := .bool true) rfl rfl (by kernel_rfl) (by kernel_rfl) (by kernel_rfl) (fun _ _ _ h => h) (by rfl) (by (intro w hSw; (try dsimp only at hSw); go_simp)) (by assumption) ?_
                    try simp only [Act.put, List.setIfInBounds_toArray, List.set_cons_zero, List.set_cons_succ]
                    refine wpAnyH_done (by kernel_rfl) ?_ _
                    go_wp2_with fail
                    go_meet
                    exact ⟨rfl, hS⟩
                simp only [Prod.mk.injEq] at hxy
                obtain ⟨rfl, rfl⟩ := hxy
                by_cases hij : i = j
                · have hbf : b = false := by
                    rcases HB.out with ⟨_, h⟩ | ⟨h, _⟩
                    · exact absurd ⟨hk, rfl, fun h => absurd hij h⟩ h
                    · exact h
                  subst hbf
                  have hij' : ((i : Int) = (j : Int)) = True := by simp; omega
                  clear hk cok hij
                  refine wp_region_held_drew (S := fun w' => w'.cell? ⟨wi.heap.size, 0, none⟩ = some (.int .i64 X1) ∧ w'.cell? ⟨wi.heap.size, 1, none⟩ = some (.int .i64 X2) ∧ w'.cell? ⟨g, o + j, none⟩ = some (.slice (some ⟨gj, oj, none⟩) m.length cj) ∧ w'.cell? ⟨gj, oj + i * 2, none⟩ = some (.int .i64 X1) ∧ w'.cell? ⟨gj, oj + i * 2 + 1, none⟩ = some (.int .i64 X2) ∧ w'.cell? ⟨g, o + j, none⟩ = some (.slice (some ⟨gj, oj, none⟩) m.length cj) ∧ wi.heap.size + 1 ≤ w'.heap.size ∧ wi.heap.size ≤ wi.heap.size + 1 ∧ Below wi.heap.size wi w') (by kernel_rfl) hS (fun hHeld => ?_)
                  refine take_on (i := 0) (d := some 41) (v := .agg #[.int .i64 X1, .int .i64 X2]) rfl rfl (by kernel_rfl) (by kernel_rfl) (by kernel_rfl) (fun _ _ _ h => h) (by rfl) (by (intro w hSw; (try dsimp only at hSw); go_simp)) (by assumption) ?_
                  try simp only [Act.put, List.setIfInBounds_toArray, List.set_cons_zero, List.set_cons_succ]
                  refine wpAnyH_ready (rs := [1]) (by kernel_rfl) (by simp) ?_
                  refine AllReadyH.cons rfl (fun K hK => ?_) AllReadyH.nil
                  go_simp
                  with_reducible refine Calls.mono (COK.out _) ?_
                  rintro en wa ⟨rfl, Ba⟩
                  replace hS := k6_keep Ba hS
                  go_wp2_with fail
                  refine hK.out _ _ hS (fun hHeld => ?_)
                  clear hK K
                  try simp only [Act.put, List.setIfInBounds_toArray, List.set_cons_zero, List.set_cons_succ]
                  refine take_on (i := 2) (d := some 43) (v := .bool false) rfl rfl (by kernel_rfl) (by kernel_rfl) (by kernel_rfl) (fun _ _ _ h => h) (by rfl) (by (intro w hSw; (try dsimp only at hSw); go_simp)) (by assumption) ?_
                  try simp only [Act.put, List.setIfInBounds_toArray, List.set_cons_zero, List.set_cons_succ]
                  refine take_on (i := 3) (d := some 44) (v := .bool false) rfl rfl (by kernel_rfl) (by kernel_rfl) (by kernel_rfl) (fun _ _ _ h => h) (by rfl) (by (intro w hSw; (try dsimp only at hSw); go_simp)) (by assumption) ?_
                  try simp only [Act.put, List.setIfInBounds_toArray, List.set_cons_zero, List.set_cons_succ]
                  refine take_on (i := 4) (d := some 45) (v := .agg #[.int .i64 X1, .int .i64 X2]) rfl rfl (by kernel_rfl) (by kernel_rfl) (by kernel_rfl) (fun _ _ _ h => h) (by rfl) (by (intro w hSw; (try dsimp only at hSw); go_simp)) (by assumption) ?_
                  try simp only [Act.put, List.setIfInBounds_toArray, List.set_cons_zero, List.set_cons_succ]
                  refine take_on (i := 5) (d := some 46) (v := .slice (some ⟨g, o, none⟩) m.length cap) rfl rfl (by kernel_rfl) (by kernel_rfl) (by kernel_rfl) (fun _ _ _ h => h) (by rfl) (by (intro w hSw; (try dsimp only at hSw); go_simp)) (by assumption) ?_
                  try simp only [Act.put, List.setIfInBounds_toArray, List.set_cons_zero, List.set_cons_succ]
                  refine take_on (i := 6) (d := some 47) (v := .int .i64 j) rfl rfl (by kernel_rfl) (by kernel_rfl) (by kernel_rfl) (fun _ _ _ h => h) (by rfl) (by (intro w hSw; (try dsimp only at hSw); go_simp)) (by assumption) ?_
                  try simp only [Act.put, List.setIfInBounds_toArray, List.set_cons_zero, List.set_cons_succ]
                  refine take_on (i := 7) (d := some 48) (v := .pointer (some ⟨g, o + j, none⟩)) rfl rfl (by kernel_rfl) (by kernel_rfl) (by kernel_rfl) (fun _ _ _ h => h) (by rfl) (by (intro w hSw; (try dsimp only at hSw); go_simp)) (by assumption) ?_
                  try simp only [Act.put, List.setIfInBounds_toArray, List.set_cons_zero, List.set_cons_succ]
                  refine take_on (i := 8) (d := some 49) (v := .slice (some ⟨gj, oj, none⟩) m.length cj) rfl rfl (by kernel_rfl) (by kernel_rfl) (by kernel_rfl) (fun _ _ _ h => h) (by rfl) (by (intro w hSw; (try dsimp only at hSw); go_simp)) (by assumption) ?_
                  try simp only [Act.put, List.setIfInBounds_toArray, List.set_cons_zero, List.set_cons_succ]
                  refine take_on (i := 9) (d := some 50) (v := .int .i64 i) rfl rfl (by kernel_rfl) (by kernel_rfl) (by kernel_rfl) (fun _ _ _ h => h) (by rfl) (by (intro w hSw; (try dsimp only at hSw); go_simp)) (by assumption) ?_
                  try simp only [Act.put, List.setIfInBounds_toArray, List.set_cons_zero, List.set_cons_succ]
                  refine take_on (i := 10) (d := some 51) (v := .pointer (some ⟨gj, oj + i * 2, none⟩)) rfl rfl (by kernel_rfl) (by kernel_rfl) (by kernel_rfl) (fun _ _ _ h => h) (by rfl) (by (intro w hSw; (try dsimp only at hSw); go_simp)) (by assumption) ?_
                  try simp only [Act.put, List.setIfInBounds_toArray, List.set_cons_zero, List.set_cons_succ]
                  refine take_on (i := 11) (d := some 52) (v := .agg #[.int .i64 X1, .int .i64 X2]) rfl rfl (by kernel_rfl) (by kernel_rfl) (by kernel_rfl) (fun _ _ _ h => h) (by rfl) (by (intro w hSw; (try dsimp only at hSw); go_simp)) (by assumption) ?_
                  try simp only [Act.put, List.setIfInBounds_toArray, List.set_cons_zero, List.set_cons_succ]
                  refine take_on (i := 12) (d := some 53) (v := .bool false) rfl rfl (by kernel_rfl) (by kernel_rfl) (by kernel_rfl) (fun _ _ _ h => h) (by rfl) (by (intro w hSw; (try dsimp only at hSw); go_simp)) (by assumption) ?_
                  try simp only [Act.put, List.setIfInBounds_toArray, List.set_cons_zero, List.set_cons_succ]
                  refine take_on (i := 13) (d := some 54) (v := .bool false) rfl rfl (by kernel_rfl) (by kernel_rfl) (by kernel_rfl) (fun _ _ _ h => h) (by rfl) (by (intro w hSw; (try dsimp only at hSw); go_simp)) (by assumption) ?_
                  try simp only [Act.put, List.setIfInBounds_toArray, List.set_cons_zero, List.set_cons_succ]
                  refine take_on (i := 14) (d := some 55) (v := .bool false) rfl rfl (by kernel_rfl) (by kernel_rfl) (by kernel_rfl) (fun _ _ _ h => h) (by rfl) (by (intro w hSw; (try dsimp only at hSw); go_simp)) (by assumption) ?_
                  try simp only [Act.put, List.setIfInBounds_toArray, List.set_cons_zero, List.set_cons_succ]
                  refine take_on (i := 15) (d := some 56) (v := .int .i64 i) rfl rfl (by kernel_rfl) (by kernel_rfl) (by kernel_rfl) (fun _ _ _ h => h) (by rfl) (by (intro w hSw; (try dsimp only at hSw); go_simp)) (by assumption) ?_
                  try simp only [Act.put, List.setIfInBounds_toArray, List.set_cons_zero, List.set_cons_succ]
                  refine take_on (i := 16) (d := some 57) (v := .int .i64 j) rfl rfl (by kernel_rfl) (by kernel_rfl) (by kernel_rfl) (fun _ _ _ h => h) (by rfl) (by (intro w hSw; (try dsimp only at hSw); go_simp)) (by assumption) ?_
                  try simp only [Act.put, List.setIfInBounds_toArray, List.set_cons_zero, List.set_cons_succ]
                  refine take_on (i := 17) (d := some 58) (v := .bool false) rfl rfl (by kernel_rfl) (by kernel_rfl) (by kernel_rfl) (fun _ _ _ h => h) (by rfl) (by (intro w hSw; (try dsimp only at hSw); go_simp)) (by assumption) ?_
                  try simp only [Act.put, List.setIfInBounds_toArray, List.set_cons_zero, List.set_cons_succ]
                  refine take_on (i := 18) (d := some 59) (v := .bool false) rfl rfl (by kernel_rfl) (by kernel_rfl) (by kernel_rfl) (fun _ _ _ h => h) (by rfl) (by (intro w hSw; (try dsimp only at hSw); go_simp)) (by assumption) ?_
                  try simp only [Act.put, List.setIfInBounds_toArray, List.set_cons_zero, List.set_cons_succ]
                  refine take_off (i := 19) (d := some 60) rfl rfl (by kernel_rfl) (by kernel_rfl) (by kernel_rfl) (fun _ _ _ h => h) (by rfl) (by assumption) ?_
                  try simp only [Act.put, List.setIfInBounds_toArray, List.set_cons_zero, List.set_cons_succ]
                  refine take_off (i := 20) (d := some 61) rfl rfl (by kernel_rfl) (by kernel_rfl) (by kernel_rfl) (fun _ _ _ h => h) (by rfl) (by assumption) ?_
                  try simp only [Act.put, List.setIfInBounds_toArray, List.set_cons_zero, List.set_cons_succ]
                  refine take_off (i := 21) (d := some 62) rfl rfl (by kernel_rfl) (by kernel_rfl) (by kernel_rfl) (fun _ _ _ h => h) (by rfl) (by assumption) ?_
                  try simp only [Act.put, List.setIfInBounds_toArray, List.set_cons_zero, List.set_cons_succ]
                  refine take_on (i := 22) (d := some 63) (v := .bool false) rfl rfl (by kernel_rfl) (by kernel_rfl) (by kernel_rfl) (fun _ _ _ h => h) (by rfl) (by (intro w hSw; (try dsimp only at hSw); go_simp)) (by assumption) ?_
                  try simp only [Act.put, List.setIfInBounds_toArray, List.set_cons_zero, List.set_cons_succ]
                  refine take_on (i := 23) (d := some 64) (v := .bool false) rfl rfl (by kernel_rfl) (by kernel_rfl) (by kernel_rfl) (fun _ _ _ h => h) (by rfl) (by (intro w hSw; (try dsimp only at hSw); go_simp)) (by assumption) ?_
                  try simp only [Act.put, List.setIfInBounds_toArray, List.set_cons_zero, List.set_cons_succ]
                  refine wpAnyH_done (by kernel_rfl) ?_ _
                  go_wp2_with fail
                  go_meet
                  exact ⟨rfl, hS⟩
                · have hij' : ¬ (i : Int) = (j : Int) := by omega
                  by_cases hpos : 0 < X1
                  · have hbt : b = true := by
                      rcases HB.out with ⟨h, _⟩ | ⟨_, h⟩
                      · exact h
                      · have := h.2.2 hij; omega
                    subst hbt
                    clear hk cok hij
                    refine wp_region_held_drew (S := fun w' => w'.cell? ⟨wi.heap.size, 0, none⟩ = some (.int .i64 X1) ∧ w'.cell? ⟨wi.heap.size, 1, none⟩ = some (.int .i64 X2) ∧ w'.cell? ⟨g, o + j, none⟩ = some (.slice (some ⟨gj, oj, none⟩) m.length cj) ∧ w'.cell? ⟨gj, oj + i * 2, none⟩ = some (.int .i64 X1) ∧ w'.cell? ⟨gj, oj + i * 2 + 1, none⟩ = some (.int .i64 X2) ∧ w'.cell? ⟨g, o + j, none⟩ = some (.slice (some ⟨gj, oj, none⟩) m.length cj) ∧ wi.heap.size + 1 ≤ w'.heap.size ∧ wi.heap.size ≤ wi.heap.size + 1 ∧ Below wi.heap.size wi w') (by kernel_rfl) hS (fun hHeld => ?_)
                    refine take_on (i := 0) (d := some 41) (v := .agg #[.int .i64 X1, .int .i64 X2]) rfl rfl (by kernel_rfl) (by kernel_rfl) (by kernel_rfl) (fun _ _ _ h => h) (by rfl) (by (intro w hSw; (try dsimp only at hSw); go_simp)) (by assumption) ?_
                    try simp only [Act.put, List.setIfInBounds_toArray, List.set_cons_zero, List.set_cons_succ]
                    refine wpAnyH_ready (rs := [1]) (by kernel_rfl) (by simp) ?_
                    refine AllReadyH.cons rfl (fun K hK => ?_) AllReadyH.nil
                    go_simp
                    with_reducible refine Calls.mono (COK.out _) ?_
                    rintro en wa ⟨rfl, Ba⟩
                    replace hS := k6_keep Ba hS
                    go_wp2_with fail
                    refine hK.out _ _ hS (fun hHeld => ?_)
                    clear hK K
                    try simp only [Act.put, List.setIfInBounds_toArray, List.set_cons_zero, List.set_cons_succ]
                    refine take_on (i := 2) (d := some 43) (v := .bool false) rfl rfl (by kernel_rfl) (by kernel_rfl) (by kernel_rfl) (fun _ _ _ h => h) (by rfl) (by (intro w hSw; (try dsimp only at hSw); go_simp)) (by assumption) ?_
                    try simp only [Act.put, List.setIfInBounds_toArray, List.set_cons_zero, List.set_cons_succ]
                    refine take_on (i := 3) (d := some 44) (v := .bool false) rfl rfl (by kernel_rfl) (by kernel_rfl) (by kernel_rfl) (fun _ _ _ h => h) (by rfl) (by (intro w hSw; (try dsimp only at hSw); go_simp)) (by assumption) ?_
                    try simp only [Act.put, List.setIfInBounds_toArray, List.set_cons_zero, List.set_cons_succ]
                    refine take_on (i := 4) (d := some 45) (v := .agg #[.int .i64 X1, .int .i64 X2]) rfl rfl (by kernel_rfl) (by kernel_rfl) (by kernel_rfl) (fun _ _ _ h => h) (by rfl) (by (intro w hSw; (try dsimp only at hSw); go_simp)) (by assumption) ?_
                    try simp only [Act.put, List.setIfInBounds_toArray, List.set_cons_zero, List.set_cons_succ]
                    refine take_on (i := 5) (d := some 46) (v := .slice (some ⟨g, o, none⟩) m.length cap) rfl rfl (by kernel_rfl) (by kernel_rfl) (by kernel_rfl) (fun _ _ _ h => h) (by rfl) (by (intro w hSw; (try dsimp only at hSw); go_simp)) (by assumption) ?_
                    try simp only [Act.put, List.setIfInBounds_toArray, List.set_cons_zero, List.set_cons_succ]
                    refine take_on (i := 6) (d := some 47) (v := .int .i64 j) rfl rfl (by kernel_rfl) (by kernel_rfl) (by kernel_rfl) (fun _ _ _ h => h) (by rfl) (by (intro w hSw; (try dsimp only at hSw); go_simp)) (by assumption) ?_
                    try simp only [Act.put, List.setIfInBounds_toArray, List.set_cons_zero, List.set_cons_succ]
                    refine take_on (i := 7) (d := some 48) (v := .pointer (some ⟨g, o + j, none⟩)) rfl rfl (by kernel_rfl) (by kernel_rfl) (by kernel_rfl) (fun _ _ _ h => h) (by rfl) (by (intro w hSw; (try dsimp only at hSw); go_simp)) (by assumption) ?_
                    try simp only [Act.put, List.setIfInBounds_toArray, List.set_cons_zero, List.set_cons_succ]
                    refine take_on (i := 8) (d := some 49) (v := .slice (some ⟨gj, oj, none⟩) m.length cj) rfl rfl (by kernel_rfl) (by kernel_rfl) (by kernel_rfl) (fun _ _ _ h => h) (by rfl) (by (intro w hSw; (try dsimp only at hSw); go_simp)) (by assumption) ?_
                    try simp only [Act.put, List.setIfInBounds_toArray, List.set_cons_zero, List.set_cons_succ]
                    refine take_on (i := 9) (d := some 50) (v := .int .i64 i) rfl rfl (by kernel_rfl) (by kernel_rfl) (by kernel_rfl) (fun _ _ _ h => h) (by rfl) (by (intro w hSw; (try dsimp only at hSw); go_simp)) (by assumption) ?_
                    try simp only [Act.put, List.setIfInBounds_toArray, List.set_cons_zero, List.set_cons_succ]
                    refine take_on (i := 10) (d := some 51) (v := .pointer (some ⟨gj, oj + i * 2, none⟩)) rfl rfl (by kernel_rfl) (by kernel_rfl) (by kernel_rfl) (fun _ _ _ h => h) (by rfl) (by (intro w hSw; (try dsimp only at hSw); go_simp)) (by assumption) ?_
                    try simp only [Act.put, List.setIfInBounds_toArray, List.set_cons_zero, List.set_cons_succ]
                    refine take_on (i := 11) (d := some 52) (v := .agg #[.int .i64 X1, .int .i64 X2]) rfl rfl (by kernel_rfl) (by kernel_rfl) (by kernel_rfl) (fun _ _ _ h => h) (by rfl) (by (intro w hSw; (try dsimp only at hSw); go_simp)) (by assumption) ?_
                    try simp only [Act.put, List.setIfInBounds_toArray, List.set_cons_zero, List.set_cons_succ]
                    refine take_on (i := 12) (d := some 53) (v := .bool false) rfl rfl (by kernel_rfl) (by kernel_rfl) (by kernel_rfl) (fun _ _ _ h => h) (by rfl) (by (intro w hSw; (try dsimp only at hSw); go_simp)) (by assumption) ?_
                    try simp only [Act.put, List.setIfInBounds_toArray, List.set_cons_zero, List.set_cons_succ]
                    refine take_on (i := 13) (d := some 54) (v := .bool false) rfl rfl (by kernel_rfl) (by kernel_rfl) (by kernel_rfl) (fun _ _ _ h => h) (by rfl) (by (intro w hSw; (try dsimp only at hSw); go_simp)) (by assumption) ?_
                    try simp only [Act.put, List.setIfInBounds_toArray, List.set_cons_zero, List.set_cons_succ]
                    refine take_on (i := 14) (d := some 55) (v := .bool false) rfl rfl (by kernel_rfl) (by kernel_rfl) (by kernel_rfl) (fun _ _ _ h => h) (by rfl) (by (intro w hSw; (try dsimp only at hSw); go_simp)) (by assumption) ?_
                    try simp only [Act.put, List.setIfInBounds_toArray, List.set_cons_zero, List.set_cons_succ]
                    refine take_on (i := 15) (d := some 56) (v := .int .i64 i) rfl rfl (by kernel_rfl) (by kernel_rfl) (by kernel_rfl) (fun _ _ _ h => h) (by rfl) (by (intro w hSw; (try dsimp only at hSw); go_simp)) (by assumption) ?_
                    try simp only [Act.put, List.setIfInBounds_toArray, List.set_cons_zero, List.set_cons_succ]
                    refine take_on (i := 16) (d := some 57) (v := .int .i64 j) rfl rfl (by kernel_rfl) (by kernel_rfl) (by kernel_rfl) (fun _ _ _ h => h) (by rfl) (by (intro w hSw; (try dsimp only at hSw); go_simp)) (by assumption) ?_
                    try simp only [Act.put, List.setIfInBounds_toArray, List.set_cons_zero, List.set_cons_succ]
                    refine take_on (i := 17) (d := some 58) (v := .bool true) rfl rfl (by kernel_rfl) (by kernel_rfl) (by kernel_rfl) (fun _ _ _ h => h) (by rfl) (by (intro w hSw; (try dsimp only at hSw); go_simp)) (by assumption) ?_
                    try simp only [Act.put, List.setIfInBounds_toArray, List.set_cons_zero, List.set_cons_succ]
                    refine take_on (i := 18) (d := some 59) (v := .bool true) rfl rfl (by kernel_rfl) (by kernel_rfl) (by kernel_rfl) (fun _ _ _ h => h) (by rfl) (by (intro w hSw; (try dsimp only at hSw); go_simp)) (by assumption) ?_
                    try simp only [Act.put, List.setIfInBounds_toArray, List.set_cons_zero, List.set_cons_succ]
                    refine take_on (i := 19) (d := some 60) (v := .pointer (some ⟨wi.heap.size, 0, none⟩)) rfl rfl (by kernel_rfl) (by kernel_rfl) (by kernel_rfl) (fun _ _ _ h => h) (by rfl) (by (intro w hSw; (try dsimp only at hSw); go_simp)) (by assumption) ?_
                    try simp only [Act.put, List.setIfInBounds_toArray, List.set_cons_zero, List.set_cons_succ]
                    refine take_on (i := 20) (d := some 61) (v := .int .i64 X1) rfl rfl (by kernel_rfl) (by kernel_rfl) (by kernel_rfl) (fun _ _ _ h => h) (by rfl) (by (intro w hSw; (try dsimp only at hSw); go_simp)) (by assumption) ?_
                    try simp only [Act.put, List.setIfInBounds_toArray, List.set_cons_zero, List.set_cons_succ]
                    refine take_on (i := 21) (d := some 62) (v := .bool true) rfl rfl (by kernel_rfl) (by kernel_rfl) (by kernel_rfl) (fun _ _ _ h => h) (by rfl) (by (intro w hSw; (try dsimp only at hSw); go_simp)) (by assumption) ?_
                    try simp only [Act.put, List.setIfInBounds_toArray, List.set_cons_zero, List.set_cons_succ]
                    refine take_on (i := 22) (d := some 63) (v := .bool true) rfl rfl (by kernel_rfl) (by kernel_rfl) (by kernel_rfl) (fun _ _ _ h => h) (by rfl) (by (intro w hSw; (try dsimp only at hSw); go_simp)) (by assumption) ?_
                    try simp only [Act.put, List.setIfInBounds_toArray, List.set_cons_zero, List.set_cons_succ]
                    refine take_on (i := 23) (d := some 64) (v := .bool true) rfl rfl (by kernel_rfl) (by kernel_rfl) (by kernel_rfl) (fun _ _ _ h => h) (by rfl) (by (intro w hSw; (try dsimp only at hSw); go_simp)) (by assumption) ?_
                    try simp only [Act.put, List.setIfInBounds_toArray, List.set_cons_zero, List.set_cons_succ]
                    refine wpAnyH_done (by kernel_rfl) ?_ _
                    go_wp2_with fail
                    go_meet
                    exact ⟨rfl, hS⟩
                  · have hbf : b = false := by
                      rcases HB.out with ⟨_, h⟩ | ⟨h, _⟩
                      · exact absurd ⟨hk, rfl, fun _ => by omega⟩ h
                      · exact h
                    subst hbf
                    have hpos' : decide (0 < X1) = false := by simp; omega
                    clear hk cok hij
                    refine wp_region_held_drew (S := fun w' => w'.cell? ⟨wi.heap.size, 0, none⟩ = some (.int .i64 X1) ∧ w'.cell? ⟨wi.heap.size, 1, none⟩ = some (.int .i64 X2) ∧ w'.cell? ⟨g, o + j, none⟩ = some (.slice (some ⟨gj, oj, none⟩) m.length cj) ∧ w'.cell? ⟨gj, oj + i * 2, none⟩ = some (.int .i64 X1) ∧ w'.cell? ⟨gj, oj + i * 2 + 1, none⟩ = some (.int .i64 X2) ∧ w'.cell? ⟨g, o + j, none⟩ = some (.slice (some ⟨gj, oj, none⟩) m.length cj) ∧ wi.heap.size + 1 ≤ w'.heap.size ∧ wi.heap.size ≤ wi.heap.size + 1 ∧ Below wi.heap.size wi w') (by kernel_rfl) hS (fun hHeld => ?_)
                    refine take_on (i := 0) (d := some 41) (v := .agg #[.int .i64 X1, .int .i64 X2]) rfl rfl (by kernel_rfl) (by kernel_rfl) (by kernel_rfl) (fun _ _ _ h => h) (by rfl) (by (intro w hSw; (try dsimp only at hSw); go_simp)) (by assumption) ?_
                    try simp only [Act.put, List.setIfInBounds_toArray, List.set_cons_zero, List.set_cons_succ]
                    refine wpAnyH_ready (rs := [1]) (by kernel_rfl) (by simp) ?_
                    refine AllReadyH.cons rfl (fun K hK => ?_) AllReadyH.nil
                    go_simp
                    with_reducible refine Calls.mono (COK.out _) ?_
                    rintro en wa ⟨rfl, Ba⟩
                    replace hS := k6_keep Ba hS
                    go_wp2_with fail
                    refine hK.out _ _ hS (fun hHeld => ?_)
                    clear hK K
                    try simp only [Act.put, List.setIfInBounds_toArray, List.set_cons_zero, List.set_cons_succ]
                    refine take_on (i := 2) (d := some 43) (v := .bool false) rfl rfl (by kernel_rfl) (by kernel_rfl) (by kernel_rfl) (fun _ _ _ h => h) (by rfl) (by (intro w hSw; (try dsimp only at hSw); go_simp)) (by assumption) ?_
                    try simp only [Act.put, List.setIfInBounds_toArray, List.set_cons_zero, List.set_cons_succ]
                    refine take_on (i := 3) (d := some 44) (v := .bool false) rfl rfl (by kernel_rfl) (by kernel_rfl) (by kernel_rfl) (fun _ _ _ h => h) (by rfl) (by (intro w hSw; (try dsimp only at hSw); go_simp)) (by assumption) ?_
                    try simp only [Act.put, List.setIfInBounds_toArray, List.set_cons_zero, List.set_cons_succ]
                    refine take_on (i := 4) (d := some 45) (v := .agg #[.int .i64 X1, .int .i64 X2]) rfl rfl (by kernel_rfl) (by kernel_rfl) (by kernel_rfl) (fun _ _ _ h => h) (by rfl) (by (intro w hSw; (try dsimp only at hSw); go_simp)) (by assumption) ?_
                    try simp only [Act.put, List.setIfInBounds_toArray, List.set_cons_zero, List.set_cons_succ]
                    refine take_on (i := 5) (d := some 46) (v := .slice (some ⟨g, o, none⟩) m.length cap) rfl rfl (by kernel_rfl) (by kernel_rfl) (by kernel_rfl) (fun _ _ _ h => h) (by rfl) (by (intro w hSw; (try dsimp only at hSw); go_simp)) (by assumption) ?_
                    try simp only [Act.put, List.setIfInBounds_toArray, List.set_cons_zero, List.set_cons_succ]
                    refine take_on (i := 6) (d := some 47) (v := .int .i64 j) rfl rfl (by kernel_rfl) (by kernel_rfl) (by kernel_rfl) (fun _ _ _ h => h) (by rfl) (by (intro w hSw; (try dsimp only at hSw); go_simp)) (by assumption) ?_
                    try simp only [Act.put, List.setIfInBounds_toArray, List.set_cons_zero, List.set_cons_succ]
                    refine take_on (i := 7) (d := some 48) (v := .pointer (some ⟨g, o + j, none⟩)) rfl rfl (by kernel_rfl) (by kernel_rfl) (by kernel_rfl) (fun _ _ _ h => h) (by rfl) (by (intro w hSw; (try dsimp only at hSw); go_simp)) (by assumption) ?_
                    try simp only [Act.put, List.setIfInBounds_toArray, List.set_cons_zero, List.set_cons_succ]
                    refine take_on (i := 8) (d := some 49) (v := .slice (some ⟨gj, oj, none⟩) m.length cj) rfl rfl (by kernel_rfl) (by kernel_rfl) (by kernel_rfl) (fun _ _ _ h => h) (by rfl) (by (intro w hSw; (try dsimp only at hSw); go_simp)) (by assumption) ?_
                    try simp only [Act.put, List.setIfInBounds_toArray, List.set_cons_zero, List.set_cons_succ]
                    refine take_on (i := 9) (d := some 50) (v := .int .i64 i) rfl rfl (by kernel_rfl) (by kernel_rfl) (by kernel_rfl) (fun _ _ _ h => h) (by rfl) (by (intro w hSw; (try dsimp only at hSw); go_simp)) (by assumption) ?_
                    try simp only [Act.put, List.setIfInBounds_toArray, List.set_cons_zero, List.set_cons_succ]
                    refine take_on (i := 10) (d := some 51) (v := .pointer (some ⟨gj, oj + i * 2, none⟩)) rfl rfl (by kernel_rfl) (by kernel_rfl) (by kernel_rfl) (fun _ _ _ h => h) (by rfl) (by (intro w hSw; (try dsimp only at hSw); go_simp)) (by assumption) ?_
                    try simp only [Act.put, List.setIfInBounds_toArray, List.set_cons_zero, List.set_cons_succ]
                    refine take_on (i := 11) (d := some 52) (v := .agg #[.int .i64 X1, .int .i64 X2]) rfl rfl (by kernel_rfl) (by kernel_rfl) (by kernel_rfl) (fun _ _ _ h => h) (by rfl) (by (intro w hSw; (try dsimp only at hSw); go_simp)) (by assumption) ?_
                    try simp only [Act.put, List.setIfInBounds_toArray, List.set_cons_zero, List.set_cons_succ]
                    refine take_on (i := 12) (d := some 53) (v := .bool false) rfl rfl (by kernel_rfl) (by kernel_rfl) (by kernel_rfl) (fun _ _ _ h => h) (by rfl) (by (intro w hSw; (try dsimp only at hSw); go_simp)) (by assumption) ?_
                    try simp only [Act.put, List.setIfInBounds_toArray, List.set_cons_zero, List.set_cons_succ]
                    refine take_on (i := 13) (d := some 54) (v := .bool false) rfl rfl (by kernel_rfl) (by kernel_rfl) (by kernel_rfl) (fun _ _ _ h => h) (by rfl) (by (intro w hSw; (try dsimp only at hSw); go_simp)) (by assumption) ?_
                    try simp only [Act.put, List.setIfInBounds_toArray, List.set_cons_zero, List.set_cons_succ]
                    refine take_on (i := 14) (d := some 55) (v := .bool false) rfl rfl (by kernel_rfl) (by kernel_rfl) (by kernel_rfl) (fun _ _ _ h => h) (by rfl) (by (intro w hSw; (try dsimp only at hSw); go_simp)) (by assumption) ?_
                    try simp only [Act.put, List.setIfInBounds_toArray, List.set_cons_zero, List.set_cons_succ]
                    refine take_on (i := 15) (d := some 56) (v := .int .i64 i) rfl rfl (by kernel_rfl) (by kernel_rfl) (by kernel_rfl) (fun _ _ _ h => h) (by rfl) (by (intro w hSw; (try dsimp only at hSw); go_simp)) (by assumption) ?_
                    try simp only [Act.put, List.setIfInBounds_toArray, List.set_cons_zero, List.set_cons_succ]
                    refine take_on (i := 16) (d := some 57) (v := .int .i64 j) rfl rfl (by kernel_rfl) (by kernel_rfl) (by kernel_rfl) (fun _ _ _ h => h) (by rfl) (by (intro w hSw; (try dsimp only at hSw); go_simp)) (by assumption) ?_
                    try simp only [Act.put, List.setIfInBounds_toArray, List.set_cons_zero, List.set_cons_succ]
                    refine take_on (i := 17) (d := some 58) (v := .bool true) rfl rfl (by kernel_rfl) (by kernel_rfl) (by kernel_rfl) (fun _ _ _ h => h) (by rfl) (by (intro w hSw; (try dsimp only at hSw); go_simp)) (by assumption) ?_
                    try simp only [Act.put, List.setIfInBounds_toArray, List.set_cons_zero, List.set_cons_succ]
                    refine take_on (i := 18) (d := some 59) (v := .bool true) rfl rfl (by kernel_rfl) (by kernel_rfl) (by kernel_rfl) (fun _ _ _ h => h) (by rfl) (by (intro w hSw; (try dsimp only at hSw); go_simp)) (by assumption) ?_
                    try simp only [Act.put, List.setIfInBounds_toArray, List.set_cons_zero, List.set_cons_succ]
                    refine take_on (i := 19) (d := some 60) (v := .pointer (some ⟨wi.heap.size, 0, none⟩)) rfl rfl (by kernel_rfl) (by kernel_rfl) (by kernel_rfl) (fun _ _ _ h => h) (by rfl) (by (intro w hSw; (try dsimp only at hSw); go_simp)) (by assumption) ?_
                    try simp only [Act.put, List.setIfInBounds_toArray, List.set_cons_zero, List.set_cons_succ]
                    refine take_on (i := 20) (d := some 61) (v := .int .i64 X1) rfl rfl (by kernel_rfl) (by kernel_rfl) (by kernel_rfl) (fun _ _ _ h => h) (by rfl) (by (intro w hSw; (try dsimp only at hSw); go_simp)) (by assumption) ?_
                    try simp only [Act.put, List.setIfInBounds_toArray, List.set_cons_zero, List.set_cons_succ]
                    refine take_on (i := 21) (d := some 62) (v := .bool false) rfl rfl (by kernel_rfl) (by kernel_rfl) (by kernel_rfl) (fun _ _ _ h => h) (by rfl) (by (intro w hSw; (try dsimp only at hSw); go_simp)) (by assumption) ?_
                    try simp only [Act.put, List.setIfInBounds_toArray, List.set_cons_zero, List.set_cons_succ]
                    refine take_on (i := 22) (d := some 63) (v := .bool false) rfl rfl (by kernel_rfl) (by kernel_rfl) (by kernel_rfl) (fun _ _ _ h => h) (by rfl) (by (intro w hSw; (try dsimp only at hSw); go_simp)) (by assumption) ?_
                    try simp only [Act.put, List.setIfInBounds_toArray, List.set_cons_zero, List.set_cons_succ]
                    refine take_on (i := 23) (d := some 64) (v := .bool false) rfl rfl (by kernel_rfl) (by kernel_rfl) (by kernel_rfl) (fun _ _ _ h => h) (by rfl) (by (intro w hSw; (try dsimp only at hSw); go_simp)) (by assumption) ?_
                    try simp only [Act.put, List.setIfInBounds_toArray, List.set_cons_zero, List.set_cons_succ]
                    refine wpAnyH_done (by kernel_rfl) ?_ _
                    go_wp2_with fail
                    go_meet
                    exact ⟨rfl, hS⟩
              case rest =>
                rename World => X
                obtain ⟨rfl, b0, b1, -, -, -, -, z1, -, z3⟩ := hcut
                have hzs := z3.size
                cases b
                · have HQ : Hid (∀ b, b < j + 1 → QR m i b) := Lib.hid (fun b hb => by
                    by_cases h : b = j
                    · subst h
                      rcases HBQ.out with ⟨h, _⟩ | ⟨_, h⟩
                      · cases h
                      · exact h
                    · exact hq.out b (by omega))
                  obtain ⟨S0, S1, SF⟩ := HSS0.out
                  have t0 := (z3.cell (p := ⟨wr.heap.size, 0, none⟩) hl3).trans S0
                  have t1 := (z3.cell (p := ⟨wr.heap.size, 1, none⟩) hl3).trans S1
                  have tf := fun o => (z3.frozen (p := ⟨wr.heap.size, o, none⟩) hl3).trans (SF o)
                  have HZ := Lib.hid z3
                  have HTF := Lib.hid tf
                  have HT0 := Lib.hid (And.intro t0 t1)
                  clear S0 S1 SF z3 hT tf
                  go_wp2_with fail
                  refine (cSum.out _).mono ?_
                  rintro en w5 ⟨rfl, B5⟩
                  have hl5 : wr.heap.size < X.heap.size := by omega
                  have u0 := (B5.cell (p := ⟨wr.heap.size, 0, none⟩) hl5).trans t0
                  have u1 := (B5.cell (p := ⟨wr.heap.size, 1, none⟩) hl5).trans t1
                  have uf := fun o => (B5.frozen (p := ⟨wr.heap.size, o, none⟩) hl5).trans (HTF.out o)
                  have hT2 := t2_set (a := N1) (b := N2) ⟨u0, u1, uf, Nat.lt_of_lt_of_le hl5 B5.size⟩
                  have HS2 : Hid (_ ∧ _ ∧ (∀ o, _ = false) ∧ _) := Lib.hid hT2
                  have HB5 := Lib.hid ((((hBi.out.trans (HZ.out.mono hsi)).trans (B5.mono (by omega))).setCell (p := ⟨wr.heap.size, 0, none⟩) (Nat.le_refl _) (.int .i64 N1)).setCell (p := ⟨wr.heap.size, 1, none⟩) (Nat.le_refl _) (.int .i64 N2))
                  clear t0 t1 hT2 B5
                  go_wp2
                  go_roundw
                  case rel => exact ⟨j + 1, by omega, by go_num, HQ, Lib.hid (by rw [HNN.out]; exact HS2.out), HB5⟩
                  case measure => simp [intOf]; omega
                · have HN := Lib.hid (isR_no (m := m) (fun h => by
                    rcases HBQ.out with ⟨_, h2⟩ | ⟨h2, _⟩
                    · exact h2 (h.2.2.2.1 i j hil hjl)
                    · cases h2))
                  have HF := Lib.hid (hBw.trans (z3.mono hBw.size))
                  clear z3 hT
                  go_wp2
                  go_ret
                  exact ⟨HN.out, HF.out⟩
            · obtain rfl : j = m.length := by omega
              generalize hKK : sumK (rowP m i) m.length = K at *
              obtain ⟨K1, K2⟩ := K
              simp only at S0 S1
              by_cases hz : ((K1, K2) : P2) = (0, 1)
              · simp only [Prod.mk.injEq] at hz
                obtain ⟨rfl, rfl⟩ := hz
                have HQ : Hid (∀ a, a < i + 1 → (∀ j, j < m.length → QR m a j) ∧ sumK (rowP m a) m.length = (0, 1)) := Lib.hid (fun a ha => by
                  by_cases h : a = i
                  · subst h; exact ⟨hq.out, hKK⟩
                  · exact hQ.out a (by omega))
                have HF := Lib.hid hBw
                clear hKK
                go_wp2
                go_roundw
                case rel => exact ⟨i + 1, by omega, by go_num, HQ, HF⟩
                case measure => simp [intOf]; omega
              · have HN := Lib.hid (isR_no (m := m) (fun h => hz (by rw [← hKK]; exact h.2.2.2.2 i hil)))
                have hp := s01_parts hz
                simp only at hp
                have HF := Lib.hid hBw
                rcases hp with f1 | ⟨f1, f2⟩
                · clear hz hKK
                  go_wp2
                  go_ret
                  exact ⟨HN.out, HF.out⟩
                · subst f1
                  clear hz hKK
                  go_wp2
                  go_ret
                  exact ⟨HN.out, HF.out⟩
        · obtain rfl : i = m.length := by omega
          have HY := Lib.hid (isR_yes (m := m) ⟨by omega, by omega, HL.out, fun a b ha hb => (hQ.out a ha).1 b hb, fun a ha => (hQ.out a ha).2⟩)
          go_wp2
          go_ret
          exact ⟨HY.out, hB.out⟩
end Go.Proofs.Ytpfnlnllaapjeaa

namespace Go.Proofs.Ytpfnlnllaapjeaa
open Go.RowKit

set_option maxRecDepth 8000 in
set_option maxHeartbeats 6400000 in
theorem impl_rowSum (v : Value) (r : List P2) (w : World) (hr : ReadsP w v r) (hwf : WfP r) :
    Calls Try.prog 188 #[v] w fun en w' => en = .returned (.agg #[.int .i64 (sumK r r.length).1, .int .i64 (sumK r r.length).2]) ∧ Below w.heap.size w w' := by
  obtain ⟨p, cap, rfl⟩ := hr.shape
  have hm := hr.1
  have HR := Lib.hid hr
  have HW := Lib.hid hwf
  have HSI := Lib.hid (sumK_in r)
  have HSS := Lib.hid (sumK_succ r)
  obtain ⟨W1, hW1⟩ : ∃ W1, W1 = w.alloc (.cells #[.int .i64 0, .int .i64 0] 33) := ⟨_, rfl⟩
  have hsW : W1.heap.size = w.heap.size + 1 := by rw [hW1]; simp
  have B0 : Below w.heap.size w W1 := by rw [hW1]; (repeat (first | exact Below.refl _ _ | (refine Below.setCell ?_ (by (first | exact Nat.le_refl _ | omega | (simp <;> omega) | simp)) _) | (refine Below.alloc ?_ (by (first | exact Nat.le_refl _ | omega | (simp <;> omega) | simp)) _) | (refine below_draws ?_ _)))
  have HZ : Hid (W1.cell? ⟨w.heap.size, 0, none⟩ = some (.int .i64 0) ∧ W1.cell? ⟨w.heap.size, 1, none⟩ = some (.int .i64 0) ∧ ∀ o, W1.frozen? ⟨w.heap.size, o, none⟩ = false) := Lib.hid (by rw [hW1]; exact ⟨by simp [go_sem], by simp [go_sem], fun o => by simp [go_sem]⟩)
  have hlW : w.heap.size < W1.heap.size := by omega
  have HSW := Lib.hid hsW
  clear hr hwf hsW
  go_enter Try.func188, Try.ntmps188
  go_wp2_with fail
  rw [← hW1]
  refine (c_rOf01 _).mono ?_
  rintro en w1 ⟨rfl, B1⟩
  clear hW1
  have HB1 := Lib.hid B1
  have hs1 := B1.size
  have HG : Hid ((w1.alloc (.cells #[.int .i64 0, .int .i64 1] 33)).cell? ⟨w1.heap.size, 0, none⟩ = some (.int .i64 (sumK r 0).1) ∧ (w1.alloc (.cells #[.int .i64 0, .int .i64 1] 33)).cell? ⟨w1.heap.size, 1, none⟩ = some (.int .i64 (sumK r 0).2) ∧ (∀ o, (w1.alloc (.cells #[.int .i64 0, .int .i64 1] 33)).frozen? ⟨w1.heap.size, o, none⟩ = false) ∧ w1.heap.size < (w1.alloc (.cells #[.int .i64 0, .int .i64 1] 33)).heap.size) := Lib.hid (by rw [sumK_zero]; exact ⟨by simp [go_sem], by simp [go_sem], fun o => by simp [go_sem], by simp⟩)
  have HB0 : Hid (Below w1.heap.size w1 (w1.alloc (.cells #[.int .i64 0, .int .i64 1] 33))) := Lib.hid ((Below.refl _ _).alloc (Nat.le_refl _) _)
  clear B1
  go_wp2
  go_loopw [9] (fun jv wi => ∃ j : Nat, j ≤ r.length ∧ jv = .int .i64 j ∧ Hid (wi.cell? ⟨w1.heap.size, 0, none⟩ = some (.int .i64 (sumK r j).1) ∧ wi.cell? ⟨w1.heap.size, 1, none⟩ = some (.int .i64 (sumK r j).2) ∧ (∀ o, wi.frozen? ⟨w1.heap.size, o, none⟩ = false) ∧ w1.heap.size < wi.heap.size) ∧ Hid (Below w1.heap.size w1 wi)) (fun jv _ => r.length - (intOf jv).toNat)
  case atStart => exact ⟨0, Nat.zero_le _, rfl, HG, HB0⟩
  case round =>
    clear HG HB0
    obtain ⟨j, hj, rfl, hS0, hBi⟩ := hrel
    rename World => wi
    obtain ⟨S0, S1, SF, hl3⟩ := hS0.out
    have hsi := hBi.out.size
    have hBW : Below W1.heap.size W1 wi := HB1.out.trans (hBi.out.mono hs1)
    have hBw : Below w.heap.size w wi := B0.trans (hBW.mono B0.size)
    by_cases hjl : j < r.length
    · obtain ⟨g, o, c, hv, hg, hc⟩ := HR.out.pos (by omega)
      simp only [Value.slice.injEq] at hv
      obtain ⟨rfl, -, rfl⟩ := hv
      obtain ⟨x0, x1⟩ := hc j hjl
      rw [← hBw.cell (p := ⟨g, _, none⟩) hg] at x0 x1
      have hin := HW.out j hjl
      have hSn := HSS.out j hjl
      have iK := HSI.out j hj
      obtain ⟨N1, N2, hNN⟩ : ∃ N1 N2, sumK r (j + 1) = (N1, N2) := ⟨_, _, rfl⟩
      have HNN := Lib.hid hNN
      rw [hNN] at hSn
      generalize sumK r j = K at *
      obtain ⟨K1, K2⟩ := K
      generalize r[j] = X at *
      obtain ⟨X1, X2⟩ := X
      simp only at hin hSn x0 x1 S0 S1 iK
      have cSum := Lib.hid (fun W => c_sum hSn.symm iK hin W)
      have neW : w1.heap.size ≠ wi.heap.size := by omega
      have y0 := fun z => (World.cell?_alloc_old wi z ⟨w1.heap.size, 0, none⟩ neW).trans S0
      have y1 := fun z => (World.cell?_alloc_old wi z ⟨w1.heap.size, 1, none⟩ neW).trans S1
      have hA : Below wi.heap.size wi (wi.alloc (.cells #[.int .i64 X1, .int .i64 X2] 33)) := (Below.refl _ _).alloc (Nat.le_refl _) _
      have HA := Lib.hid hA
      have HSF := Lib.hid SF
      clear hNN hSn iK hin hc hA SF
      go_wp2_with fail
      refine (cSum.out _).mono ?_
      rintro en w5 ⟨rfl, B5⟩
      have h5 : Below wi.heap.size wi w5 := HA.out.trans (B5.mono HA.out.size)
      have u0 := (h5.cell (p := ⟨w1.heap.size, 0, none⟩) hl3).trans S0
      have u1 := (h5.cell (p := ⟨w1.heap.size, 1, none⟩) hl3).trans S1
      have uf := fun o => (h5.frozen (p := ⟨w1.heap.size, o, none⟩) hl3).trans (HSF.out o)
      have hT2 := t2_set (a := N1) (b := N2) ⟨u0, u1, uf, Nat.lt_of_lt_of_le hl3 h5.size⟩
      have HS2 : Hid (_ ∧ _ ∧ (∀ o, _ = false) ∧ _) := Lib.hid hT2
      have HB5 := Lib.hid (((hBi.out.trans (h5.mono hsi)).setCell (p := ⟨w1.heap.size, 0, none⟩) (Nat.le_refl _) (.int .i64 N1)).setCell (p := ⟨w1.heap.size, 1, none⟩) (Nat.le_refl _) (.int .i64 N2))
      clear hT2 B5 h5 y0 y1 S0 S1 x0 x1 neW hBW hBw
      go_wp2
      go_roundw
      case rel => exact ⟨j + 1, by omega, by go_num, Lib.hid (by rw [HNN.out]; exact HS2.out), HB5⟩
      case measure => simp [intOf]; omega
    · obtain rfl : j = r.length := by omega
      obtain ⟨K1, K2, hK⟩ : ∃ K1 K2, sumK r r.length = (K1, K2) := ⟨_, _, rfl⟩
      rw [hK] at S0 S1
      have HK := Lib.hid hK
      obtain ⟨z0, z1, zf⟩ := HZ.out
      have r0 := (hBW.cell (p := ⟨w.heap.size, 0, none⟩) hlW).trans z0
      have r1 := (hBW.cell (p := ⟨w.heap.size, 1, none⟩) hlW).trans z1
      have rf := fun o => (hBW.frozen (p := ⟨w.heap.size, o, none⟩) hlW).trans (zf o)
      have HF := Lib.hid hBw
      clear hK z0 z1 zf hBw hBW SF
      go_wp2
      exact bodyPost_ret (v := (.agg #[.int .i64 K1, .int .i64 K2])) (by simp (maxDischargeDepth := 8) [results, Try.results188, go_sem, *]) rfl ⟨by rw [HK.out], (HF.out.setCell (p := ⟨w.heap.size, 0, none⟩) (Nat.le_refl _) _).setCell (p := ⟨w.heap.size, 1, none⟩) (Nat.le_refl _) _⟩
theorem isR_of {m : MatP} (h1 : 1 ≤ m.length) (h5 : m.length ≤ 5) (hL : ∀ j, j < m.length → (rowP m j).length = m.length ∧ allOkP (rowP m j) = true) (hQ : ∀ a, a < m.length → (∀ b, b < a → elP m a b = elP m b a ∧ (elP m a b).1 ≤ 0) ∧ sumK (rowP m a) m.length = (0, 1)) : IsR m := by
  refine ⟨h1, h5, fun i hi => (hL i hi).1, fun i j hi hj => ⟨?_, ?_, ?_⟩, fun i hi => (hQ i hi).2⟩
  · have hj' : j < (rowP m i).length := by rw [(hL i hi).1]; exact hj
    rw [elP_at hj']
    exact allOk_get (hL i hi).2 j hj'
  · rcases Nat.lt_trichotomy j i with h | h | h
    · exact ((hQ i hi).1 j h).1
    · subst h; rfl
    · exact ((hQ j hj).1 i h).1.symm
  · intro hne
    rcases Nat.lt_trichotomy j i with h | h | h
    · exact ((hQ i hi).1 j h).2
    · exact absurd h.symm hne
    · have h2 := (hQ j hj).1 i h
      rw [← h2.1]; exact h2.2
set_option maxRecDepth 8000 in
set_option maxHeartbeats 12800000 in
theorem impl_isResp (v : Value) (m : MatP) (w : World) (hr : ReadsPP w v m) (hwf : ∀ k (h : k < m.length), WfL m[k]) :
    Calls Try.prog 148 #[v] w fun en w' => en = .returned (.bool (isRB m)) ∧ Below w.heap.size w w' := by
  obtain ⟨p, cap, rfl, hm0, hm1⟩ := hr.shape
  by_cases hn : (1 : Int) ≤ (m.length : Int) ∧ (m.length : Int) ≤ 5
  case neg =>
    have HN := Lib.hid (isR_no (m := m) (fun h => hn (by have h1 := h.1; have h2 := h.2.1; omega)))
    clear hr hwf
    by_cases h1 : (m.length : Int) < 1
    · clear hn
      go_enter Try.func148, Try.ntmps148
      go_wp2
      go_ret
      exact ⟨HN.out, Below.refl _ _⟩
    · have h5 : (5 : Int) < (m.length : Int) := by omega
      have h1' : decide ((m.length : Int) < 1) = false := by simp; omega
      clear hn
      go_enter Try.func148, Try.ntmps148
      go_wp2
      go_ret
      exact ⟨HN.out, Below.refl _ _⟩
  obtain ⟨n1, n5⟩ := hn
  have n1' : decide ((m.length : Int) < 1) = false := by simp; omega
  have n5' : decide ((5 : Int) < (m.length : Int)) = false := by simp; omega
  have HR := Lib.hid hr
  have HWF := Lib.hid hwf
  clear hr hwf
  go_enter Try.func148, Try.ntmps148
  go_wp2
  go_loopw [18] (fun i wr => ∃ k : Nat, k ≤ m.length ∧ i = .int .i64 k ∧ Hid (∀ j, j < k → (rowP m j).length = m.length ∧ allOkP (rowP m j) = true) ∧ Hid (Below w.heap.size w wr)) (fun i _ => m.length - (intOf i).toNat)
  case atStart => exact ⟨0, Nat.zero_le _, rfl, Lib.hid (fun j hj => absurd hj (by omega)), Lib.hid (Below.refl _ _)⟩
  case round =>
    obtain ⟨k, hk, rfl, hL, hB⟩ := hrel
    by_cases hlt : k < m.length
    · obtain ⟨g, o, c, hv, -, -, hg, hc⟩ := HR.out.pos (by omega)
      simp only [Value.slice.injEq] at hv
      obtain ⟨rfl, -, rfl⟩ := hv
      obtain ⟨r, c0, r0⟩ := hc k hlt
      have hsz := hB.out.size
      have hWk : WfP m[k] := HWF.out k hlt
      have cAll := impl_allOk r m[k] wr (r0.later hB.out) hWk
      rw [← hB.out.cell (p := ⟨g, o + k, none⟩) hg] at c0
      obtain ⟨pa, ca, rfl⟩ := r0.shape
      have h9 := r0.1
      have hrow := rowP_at hlt
      clear hc r0 hWk
      generalize m[k] = x at *
      by_cases hx : x.length = m.length
      · rw [hx] at c0 cAll
        cases ha : allOkP x
        · rw [ha] at cAll
          have HN := Lib.hid (isR_no (m := m) (fun h => by
            obtain ⟨j, hj, hb, _⟩ := allOk_bad ha
            have h1 := (h.2.2.2.1 k j hlt (by omega)).1
            rw [elP_at (by rw [hrow]; exact hj)] at h1
            simp only [hrow] at h1
            rw [hb] at h1; cases h1))
          have CA := Lib.hid cAll
          clear ha hx hrow cAll
          go_wp2_with fail
          refine CA.out.mono ?_
          rintro en w2 ⟨rfl, B2⟩
          have HF := Lib.hid (hB.out.trans (B2.mono hsz))
          clear B2 c0
          go_wp2
          go_ret
          exact ⟨HN.out, HF.out⟩
        · rw [ha] at cAll
          have HT : Hid (∀ j, j < k + 1 → (rowP m j).length = m.length ∧ allOkP (rowP m j) = true) := Lib.hid (fun j hj => by
            by_cases h : j = k
            · subst h; rw [hrow]; exact ⟨hx, ha⟩
            · exact hL.out j (by omega))
          have CA := Lib.hid cAll
          clear ha hx hrow cAll
          go_wp2_with fail
          refine CA.out.mono ?_
          rintro en w2 ⟨rfl, B2⟩
          have HF := Lib.hid (hB.out.trans (B2.mono hsz))
          clear B2 c0
          go_wp2
          go_roundw
          case rel => exact ⟨k + 1, by omega, by go_num, HT, HF⟩
          case measure => simp [intOf]; omega
      · have HN := Lib.hid (isR_no (m := m) (fun h => hx (by have h1 := h.2.2.1 k hlt; rw [hrow] at h1; exact h1)))
        have hx' : ((x.length : Int) == (m.length : Int)) = false := by simp; omega
        have hx2 : ¬ x.length = m.length := hx
        have hx3 : ¬ (x.length : Int) = (m.length : Int) := by omega
        clear hx hrow cAll
        go_wp2
        go_ret
        exact ⟨HN.out, hB.out⟩
    · obtain rfl : k = m.length := by omega
      rename World => wz
      have HL := Lib.hid hL.out
      have HRA := rows_at HR.out (by omega) (fun i hi => (HL.out i hi).1)
      obtain ⟨g, o, c, hv, hg, hrows⟩ := HRA
      simp only [Value.slice.injEq] at hv
      obtain ⟨rfl, -, rfl⟩ := hv
      have HRW := Lib.hid hrows
      clear hrows hk hlt hL
      go_wp2
      go_loopw [35] (fun iv wr => ∃ i : Nat, i ≤ m.length ∧ iv = .int .i64 i ∧ Hid (∀ a, a < i → (∀ b, b < a → elP m a b = elP m b a ∧ (elP m a b).1 ≤ 0) ∧ sumK (rowP m a) m.length = (0, 1)) ∧ Hid (Below w.heap.size w wr)) (fun iv _ => m.length - (intOf iv).toNat)
      case atStart => exact ⟨0, Nat.zero_le _, rfl, Lib.hid (fun a ha => absurd ha (by omega)), hB⟩
      case round =>
        clear hB
        obtain ⟨i, hi, rfl, hQ, hB⟩ := hrel
        have hsz := hB.out.size
        by_cases hil : i < m.length
        · obtain ⟨gi, oi, ci, a0, hgi, hri, hel⟩ := HRW.out i hil
          rw [← hB.out.cell (p := ⟨g, o + i, none⟩) hg] at a0
          have HEL := Lib.hid hel
          have HRI := Lib.hid hri
          have hi0 : (0 : Int) ≤ (i : Int) := by omega
          clear hri hel
          go_wp2
          go_loopw [41] (fun jv wi => ∃ j : Nat, j ≤ i ∧ jv = .int .i64 j ∧ Hid (∀ b, b < j → elP m i b = elP m b i ∧ (elP m i b).1 ≤ 0) ∧ Hid (Below w.heap.size w wi)) (fun jv _ => i - (intOf jv).toNat)
          case atStart => exact ⟨0, Nat.zero_le _, rfl, Lib.hid (fun a ha => absurd ha (by omega)), hB⟩
          case round =>
            clear hB a0 hsz
            obtain ⟨j, hj, rfl, hq, hBi⟩ := hrel
            rename World => wi
            have hsi := hBi.out.size
            by_cases hjl : j < i
            · have hjm : j < m.length := by omega
              obtain ⟨gj, oj, cj, b0, hgj, -, hej⟩ := HRW.out j hjm
              obtain ⟨x0, x1⟩ := HEL.out j hjm
              obtain ⟨e0, e1⟩ := hej i hil
              rw [← hBi.out.cell (p := ⟨gi, _, none⟩) hgi] at x0 x1
              rw [← hBi.out.cell (p := ⟨gj, _, none⟩) hgj] at e0 e1
              rw [← hBi.out.cell (p := ⟨g, _, none⟩) hg] at b0
              have HF : ∀ z, Hid (Below w.heap.size w (wi.drewN z)) := fun z => Lib.hid (below_draws hBi.out z)
              have HNO : Hid (¬ (elP m i j = elP m j i ∧ (elP m i j).1 ≤ 0) → Ending.returned (.bool false) = .returned (.bool (isRB m))) := Lib.hid (fun hx => isR_no (fun h => hx ⟨(h.2.2.2.1 i j hil hjm).2.1, (h.2.2.2.1 i j hil hjm).2.2 (by omega)⟩))
              have HYE : Hid (elP m i j = elP m j i ∧ (elP m i j).1 ≤ 0 → ∀ b, b < j + 1 → elP m i b = elP m b i ∧ (elP m i b).1 ≤ 0) := Lib.hid (fun hx b hb => by
                by_cases h : b = j
                · subst h; exact hx
                · exact hq.out b (by omega))
              clear hej
              generalize elP m i j = X at *
              generalize elP m j i = Y at *
              obtain ⟨X1, X2⟩ := X
              obtain ⟨Y1, Y2⟩ := Y
              simp only at x0 x1 e0 e1
              by_cases hxy : ((X1, X2) : P2) = (Y1, Y2)
              case neg =>
                have HN := Lib.hid (HNO.out (fun h => hxy h.1))
                have hp := p2_parts hxy
                simp only at hp
                rcases hp with f1 | ⟨f1, f2⟩
                · clear hxy
                  go_wp2
                  go_quiet (fail)
                  go_wp2
                  go_ret
                  exact ⟨HN.out, (HF _).out⟩
                · subst f1
                  clear hxy
                  go_wp2
                  go_quiet (fail)
                  go_wp2
                  go_ret
                  exact ⟨HN.out, (HF _).out⟩
              simp only [Prod.mk.injEq] at hxy
              obtain ⟨rfl, rfl⟩ := hxy
              by_cases hpos : 0 < X1
              · have HN := Lib.hid (HNO.out (fun h => by have := h.2; simp only at this; omega))
                go_wp2
                go_quiet (fail)
                go_wp2
                go_ret
                exact ⟨HN.out, (HF _).out⟩
              · have HY := Lib.hid (HYE.out ⟨rfl, by simp only; omega⟩)
                have hpos' : decide (0 < X1) = false := by simp; omega
                go_wp2
                go_quiet (fail)
                go_wp2
                go_roundw
                case rel => exact ⟨j + 1, by omega, by go_num, HY, HF _⟩
                case measure => simp [intOf]; omega
            · obtain rfl : j = i := by omega
              have hrs := HRI.out.later hBi.out
              have hWi : WfP (rowP m j) := by rw [rowP_at hil]; exact HWF.out j hil
              have cRow := impl_rowSum _ _ wi hrs hWi
              rw [(HL.out j hil).1] at cRow
              obtain ⟨K1, K2, hK⟩ : ∃ K1 K2, sumK (rowP m j) m.length = (K1, K2) := ⟨_, _, rfl⟩
              rw [hK] at cRow
              have CR := Lib.hid cRow
              have HK := Lib.hid hK
              clear cRow hrs hWi hK
              go_wp2_with fail
              refine CR.out.mono ?_
              rintro en w2 ⟨rfl, B2⟩
              have h2 := hBi.out.trans (B2.mono hsi)
              go_wp2_with fail
              refine (c_rOf01 _).mono ?_
              rintro en w3 ⟨rfl, B3⟩
              have HF := Lib.hid (h2.trans (B3.mono h2.size))
              clear B2 B3 h2
              by_cases hz : ((K1, K2) : P2) = (0, 1)
              · simp only [Prod.mk.injEq] at hz
                obtain ⟨rfl, rfl⟩ := hz
                have HQ : Hid (∀ a, a < j + 1 → (∀ b, b < a → elP m a b = elP m b a ∧ (elP m a b).1 ≤ 0) ∧ sumK (rowP m a) m.length = (0, 1)) := Lib.hid (fun a ha => by
                  by_cases h : a = j
                  · subst h; exact ⟨hq.out, HK.out⟩
                  · exact hQ.out a (by omega))
                go_wp2
                go_roundw
                case rel => exact ⟨j + 1, by omega, by go_num, HQ, HF⟩
                case measure => simp [intOf]; omega
              · have HN := Lib.hid (isR_no (m := m) (fun h => hz (by rw [← HK.out]; exact h.2.2.2.2 j hil)))
                have hp := s01_parts hz
                simp only at hp
                rcases hp with f1 | ⟨f1, f2⟩
                · clear hz
                  go_wp2
                  go_ret
                  exact ⟨HN.out, HF.out⟩
                · subst f1
                  clear hz
                  go_wp2
                  go_ret
                  exact ⟨HN.out, HF.out⟩
        · obtain rfl : i = m.length := by omega
          have HY := Lib.hid (isR_yes (isR_of (m := m) (by omega) (by omega) HL.out hQ.out))
          go_wp2
          go_ret
          exact ⟨HY.out, hB.out⟩
end Go.Proofs.Ytpfnlnllaapjeaa
