/-
  NetOk in the program.
  LaplacianOf in the model.
-/
import Derived.Test.YtaececpphdaciaaAllReached
import Derived.Test.YtaececpphdaciaaGMat
namespace Go.Proofs.Ytaececpphdaciaa
open Go.RowKit

set_option maxRecDepth 4000 in
set_option maxHeartbeats 6400000 in
theorem impl_netOk (n e s : Int) (v : Value) (ws : List W3) (w : World) (hr : ReadsW w v ws) :
    Calls Try.prog 56 #[.agg #[.int .i64 n, .int .i64 e, .int .i64 s, v]] w fun en w' => en = .returned (.bool (netB n e s ws)) ∧ Below w.heap.size w w' := by
  by_cases hN : NumsV n e s
  case neg =>
    have HF := Lib.hid (netB_false (ws := ws) (fun h : NetV n e s ws => hN h.1))
    unfold NumsV at hN
    clear hr
    by_cases h1 : n < 1
    · clear hN
      go_enter Try.func56, Try.ntmps56
      go_wp2
      all_goals go_ret
      all_goals exact ⟨ret_b HF.out.symm, by (repeat (first | exact Below.refl _ _ | (refine Below.setCell ?_ (by (first | exact Nat.le_refl _ | omega | (simp <;> omega) | simp)) _) | (refine Below.alloc ?_ (by (first | exact Nat.le_refl _ | omega | (simp <;> omega) | simp)) _) | (refine below_draws ?_ _)))⟩
    by_cases h2 : 5 < n
    · clear hN
      go_enter Try.func56, Try.ntmps56
      go_wp2
      all_goals go_ret
      all_goals exact ⟨ret_b HF.out.symm, by (repeat (first | exact Below.refl _ _ | (refine Below.setCell ?_ (by (first | exact Nat.le_refl _ | omega | (simp <;> omega) | simp)) _) | (refine Below.alloc ?_ (by (first | exact Nat.le_refl _ | omega | (simp <;> omega) | simp)) _) | (refine below_draws ?_ _)))⟩
    by_cases h3 : e < 1
    · clear hN
      go_enter Try.func56, Try.ntmps56
      go_wp2
      all_goals go_ret
      all_goals exact ⟨ret_b HF.out.symm, by (repeat (first | exact Below.refl _ _ | (refine Below.setCell ?_ (by (first | exact Nat.le_refl _ | omega | (simp <;> omega) | simp)) _) | (refine Below.alloc ?_ (by (first | exact Nat.le_refl _ | omega | (simp <;> omega) | simp)) _) | (refine below_draws ?_ _)))⟩
    by_cases h4 : n < e
    · clear hN
      go_enter Try.func56, Try.ntmps56
      go_wp2
      all_goals go_ret
      all_goals exact ⟨ret_b HF.out.symm, by (repeat (first | exact Below.refl _ _ | (refine Below.setCell ?_ (by (first | exact Nat.le_refl _ | omega | (simp <;> omega) | simp)) _) | (refine Below.alloc ?_ (by (first | exact Nat.le_refl _ | omega | (simp <;> omega) | simp)) _) | (refine below_draws ?_ _)))⟩
    by_cases h5 : s < 1
    · clear hN
      go_enter Try.func56, Try.ntmps56
      go_wp2
      all_goals go_ret
      all_goals exact ⟨ret_b HF.out.symm, by (repeat (first | exact Below.refl _ _ | (refine Below.setCell ?_ (by (first | exact Nat.le_refl _ | omega | (simp <;> omega) | simp)) _) | (refine Below.alloc ?_ (by (first | exact Nat.le_refl _ | omega | (simp <;> omega) | simp)) _) | (refine below_draws ?_ _)))⟩
    have h6 : 1000 < s := by omega
    clear hN
    go_enter Try.func56, Try.ntmps56
    go_wp2
    all_goals go_ret
    all_goals exact ⟨ret_b HF.out.symm, by (repeat (first | exact Below.refl _ _ | (refine Below.setCell ?_ (by (first | exact Nat.le_refl _ | omega | (simp <;> omega) | simp)) _) | (refine Below.alloc ?_ (by (first | exact Nat.le_refl _ | omega | (simp <;> omega) | simp)) _) | (refine below_draws ?_ _)))⟩
  obtain ⟨n1, n5, e1, en, s1, s2⟩ := id hN
  have hB0 : Below w.heap.size w (w.alloc (.cells #[.int .i64 n, .int .i64 e, .int .i64 s, v] 25)) := by (repeat (first | exact Below.refl _ _ | (refine Below.setCell ?_ (by (first | exact Nat.le_refl _ | omega | (simp <;> omega) | simp)) _) | (refine Below.alloc ?_ (by (first | exact Nat.le_refl _ | omega | (simp <;> omega) | simp)) _) | (refine below_draws ?_ _)))
  have hr0 := hr.later hB0
  have hw1 := wiresOk_any n e s v ws _ hr0
  by_cases hW : WiresV n ws
  case neg =>
    have HF := Lib.hid (netB_false (ws := ws) (fun h : NetV n e s ws => hW h.2.1))
    rw [wiresB_false hW] at hw1
    clear hN hW hr hr0
    go_enter Try.func56, Try.ntmps56
    go_wp2_with fail
    refine hw1.mono ?_
    rintro en w1 ⟨rfl, B1⟩
    obtain ⟨hc1, hf1⟩ := bcell B1
    have S1 := B1.size
    try simp at S1
    try (have _L1w : w.heap.size < w1.heap.size := by omega)
    have _M1w : w.heap.size ≤ w1.heap.size := by omega
    try (have _P1w_1 : w.heap.size + 1 < w1.heap.size := by omega)
    try (have _P1w_2 : w.heap.size + 1 + 1 < w1.heap.size := by omega)
    try (have _P1w_3 : w.heap.size + 1 + 1 + 1 < w1.heap.size := by omega)
    go_wp2
    go_ret
    exact ⟨ret_b HF.out.symm, by (repeat (first | exact Below.refl _ _ | (refine Below.setCell ?_ (by (first | exact Nat.le_refl _ | omega | (simp <;> omega) | simp)) _) | (refine Below.alloc ?_ (by (first | exact Nat.le_refl _ | omega | (simp <;> omega) | simp)) _) | (refine below_draws ?_ _) | exact B1 | (refine Below.trans ?_ (Below.mono B1 (by (first | exact Nat.le_refl _ | omega | (simp <;> omega) | simp))))))⟩
  have HF : Hid (connB n ws = netB n e s ws) := Lib.hid (by rw [Bool.eq_iff_iff, connB_iff, netB_iff]; exact ⟨fun h => ⟨hN, hW, h⟩, fun h => h.2.2⟩)
  rw [wiresB_true hW] at hw1
  have HW := Lib.hid hW
  clear hN hW hr
  go_enter Try.func56, Try.ntmps56
  go_wp2_with fail
  refine hw1.mono ?_
  rintro en w1 ⟨rfl, B1⟩
  replace hr0 := hr0.later B1
  obtain ⟨hc1, hf1⟩ := bcell B1
  have S1 := B1.size
  try simp at S1
  try (have _L1w : w.heap.size < w1.heap.size := by omega)
  have _M1w : w.heap.size ≤ w1.heap.size := by omega
  try (have _P1w_1 : w.heap.size + 1 < w1.heap.size := by omega)
  try (have _P1w_2 : w.heap.size + 1 + 1 < w1.heap.size := by omega)
  try (have _P1w_3 : w.heap.size + 1 + 1 + 1 < w1.heap.size := by omega)
  have _ : w1.cell? ⟨w.heap.size, 0, none⟩ = some (.int .i64 n) := by rw [hc1 (w.heap.size) 0 (by first | omega | (simp; done) | (simp; omega))]; first | assumption | (simp; done) | simp [go_sem, *]
  have _ : w1.frozen? ⟨w.heap.size, 0, none⟩ = false := by rw [hf1 (w.heap.size) 0 (by first | omega | (simp; done) | (simp; omega))]; first | assumption | (simp; done) | simp [go_sem, *]
  have _ : w1.cell? ⟨w.heap.size, 1, none⟩ = some (.int .i64 e) := by rw [hc1 (w.heap.size) 1 (by first | omega | (simp; done) | (simp; omega))]; first | assumption | (simp; done) | simp [go_sem, *]
  have _ : w1.frozen? ⟨w.heap.size, 1, none⟩ = false := by rw [hf1 (w.heap.size) 1 (by first | omega | (simp; done) | (simp; omega))]; first | assumption | (simp; done) | simp [go_sem, *]
  have _ : w1.cell? ⟨w.heap.size, 2, none⟩ = some (.int .i64 s) := by rw [hc1 (w.heap.size) 2 (by first | omega | (simp; done) | (simp; omega))]; first | assumption | (simp; done) | simp [go_sem, *]
  have _ : w1.frozen? ⟨w.heap.size, 2, none⟩ = false := by rw [hf1 (w.heap.size) 2 (by first | omega | (simp; done) | (simp; omega))]; first | assumption | (simp; done) | simp [go_sem, *]
  have _ : w1.cell? ⟨w.heap.size, 3, none⟩ = some (v) := by rw [hc1 (w.heap.size) 3 (by first | omega | (simp; done) | (simp; omega))]; first | assumption | (simp; done) | simp [go_sem, *]
  have _ : w1.frozen? ⟨w.heap.size, 3, none⟩ = false := by rw [hf1 (w.heap.size) 3 (by first | omega | (simp; done) | (simp; omega))]; first | assumption | (simp; done) | simp [go_sem, *]
  clear hc1 hf1
  go_wp2_with fail
  refine (reached_any n e s v ws _ hr0 HW.out n1 n5).mono ?_
  rintro en w2 ⟨rfl, B2⟩
  obtain ⟨hc2, hf2⟩ := bcell B2
  have S2 := B2.size
  try simp at S2
  try (have _L2w : w.heap.size < w2.heap.size := by omega)
  have _M2w : w.heap.size ≤ w2.heap.size := by omega
  try (have _P2w_1 : w.heap.size + 1 < w2.heap.size := by omega)
  try (have _P2w_2 : w.heap.size + 1 + 1 < w2.heap.size := by omega)
  try (have _P2w_3 : w.heap.size + 1 + 1 + 1 < w2.heap.size := by omega)
  try (have _L2w1 : w1.heap.size < w2.heap.size := by omega)
  have _M2w1 : w1.heap.size ≤ w2.heap.size := by omega
  try (have _P2w1_1 : w1.heap.size + 1 < w2.heap.size := by omega)
  try (have _P2w1_2 : w1.heap.size + 1 + 1 < w2.heap.size := by omega)
  try (have _P2w1_3 : w1.heap.size + 1 + 1 + 1 < w2.heap.size := by omega)
  go_wp2
  go_ret
  exact ⟨ret_b HF.out, by (repeat (first | exact Below.refl _ _ | (refine Below.setCell ?_ (by (first | exact Nat.le_refl _ | omega | (simp <;> omega) | simp)) _) | (refine Below.alloc ?_ (by (first | exact Nat.le_refl _ | omega | (simp <;> omega) | simp)) _) | (refine below_draws ?_ _) | exact B1 | (refine Below.trans ?_ (Below.mono B1 (by (first | exact Nat.le_refl _ | omega | (simp <;> omega) | simp)))) | exact B2 | (refine Below.trans ?_ (Below.mono B2 (by (first | exact Nat.le_refl _ | omega | (simp <;> omega) | simp))))))⟩
end Go.Proofs.Ytaececpphdaciaa

namespace Go.Proofs.Ytaececpphdaciaa
open Go.RowKit

/-- The block B of the world w holds this network. -/
def boxN (w : World) (B : Nat) (n e s : Int) (v : Value) : Prop :=
  w.cell? ⟨B, 0, none⟩ = some (.int .i64 n) ∧ w.cell? ⟨B, 1, none⟩ = some (.int .i64 e) ∧ w.cell? ⟨B, 2, none⟩ = some (.int .i64 s) ∧ w.cell? ⟨B, 3, none⟩ = some v
theorem boxN.lt {w : World} {B : Nat} {n e s : Int} {v : Value} (h : boxN w B n e s v) : B < w.heap.size := World.block_lt_of_cell? w _ h.1
theorem boxN.below {lo : Nat} {w w' : World} {B : Nat} {n e s : Int} {v : Value} (h : boxN w B n e s v) (hB : Below lo w w') (hl : B < lo) : boxN w' B n e s v :=
  ⟨(hB.cell (p := ⟨B, 0, none⟩) hl).trans h.1, (hB.cell (p := ⟨B, 1, none⟩) hl).trans h.2.1, (hB.cell (p := ⟨B, 2, none⟩) hl).trans h.2.2.1, (hB.cell (p := ⟨B, 3, none⟩) hl).trans h.2.2.2⟩
theorem boxN.later {w w' : World} {B : Nat} {n e s : Int} {v : Value} (h : boxN w B n e s v) (hB : Below w.heap.size w w') : boxN w' B n e s v := h.below hB h.lt
theorem boxN.new (w : World) (n e s : Int) (v : Value) (t : TypeId) : boxN (w.alloc (.cells #[.int .i64 n, .int .i64 e, .int .i64 s, v] t)) w.heap.size n e s v := by
  refine ⟨?_, ?_, ?_, ?_⟩ <;> simp [go_sem]
theorem row_new (w : World) (u : Value) (t : TypeId) : ∀ j x, [u][j]? = some x → (w.alloc (.cells #[u] t)).cell? ((⟨w.heap.size, 0, none⟩ : Addr).add j) = some x := by
  intro j x hj
  have hj0 : j = 0 := by
    rcases j with _ | j
    · rfl
    · simp at hj
  subst hj0
  simp only [List.getElem?_cons_zero, Option.some.injEq] at hj
  subst hj
  show World.cell? _ ⟨w.heap.size, 0, none⟩ = _
  rw [World.cell?_alloc_new]; rfl
/-- 'append(v, x)' of one row, where v is the call's own. -/
theorem append_row {ops : Array Oper} {rest : List Oper} {o : Oper} {a : Act} {Q : Exit → Act → World → Prop} (wr : World) (hgd : o.guard = none) (s x : Operand)
    (ho : o.op = .call { callee := .builtin .append, args := #[s, x], argTypes := #[36, 36] })
    (base : Nat) (v : Value) (xs : List Value) (u : Value) (hs : a.eval s = v) (hown : wr.ownsRow base 38 1 v xs.length xs)
    {b1 : Nat} (hx : a.eval x = .slice (some ⟨b1, 0, none⟩) 1 1) (hb1 : b1 = wr.heap.size) (hu : u.oneCell' = true) (hn : xs.length + 1 ≤ 1099511627776) (hbase : base ≤ wr.heap.size)
    (h : ∀ v' w', w'.ownsRow base 38 1 v' (xs ++ [u]).length (xs ++ [u]) → wr.heap.size ≤ w'.heap.size → wr.grownBy w' v.ownBlock → wpList Try.prog ops Q rest (a.put o.dst v') w') :
    wpList Try.prog ops Q (o :: rest) a (wr.alloc (.cells #[u] 38)) := by
  subst hb1
  obtain ⟨i0, hi, hz0, hz1, hz2⟩ := info_parts Try.infoRow
  refine wpList_append_own _ hgd s x 36 ho base 38 i0 (.slice none 0 0) 1 24 Try.underlying36 hi hz0 hz1 hz2 rfl (by decide) v xs.length xs hs (hown.alloc _) ⟨wr.heap.size, 0, none⟩ 1 1 [u] hx rfl (row_new _ _ _) (by simpa using hu) (by unfold maxLen; omega) (by omega) (by simp; omega) ?_
  intro v' w' h1 h2 _
  have h3 := h2.size
  simp at h3
  refine h v' w' (by simpa using h1) (by omega) ?_
  exact ⟨h2.os, h2.tape, h2.output, by omega, fun i hi hr => by rw [h2.block i (by simp; omega) hr, heap_alloc_old _ _ hi]⟩
theorem append_row2 {ops : Array Oper} {rest : List Oper} {o : Oper} {a : Act} {Q : Exit → Act → World → Prop} {wr : World} {s x : Operand} {base : Nat} {v : Value} {xs : List Value} {u : Value} {b1 : Nat} (hown : wr.ownsRow base 38 1 v xs.length xs) (hn : xs.length + 1 ≤ 1099511627776) (hbase : base ≤ wr.heap.size)
    (hgd : o.guard = none) (ho : o.op = .call { callee := .builtin .append, args := #[s, x], argTypes := #[36, 36] }) (hs : a.eval s = v) (hx : a.eval x = .slice (some ⟨b1, 0, none⟩) 1 1) (hb1 : b1 = wr.heap.size) (hu : u.oneCell' = true)
    (h : ∀ v' w', w'.ownsRow base 38 1 v' (xs ++ [u]).length (xs ++ [u]) → wr.heap.size ≤ w'.heap.size → wr.grownBy w' v.ownBlock → wpList Try.prog ops Q rest (a.put o.dst v') w') :
    wpList Try.prog ops Q (o :: rest) a (wr.alloc (.cells #[u] 38)) :=
  append_row wr hgd s x ho base v xs u hs hown hx hb1 hu hn hbase h
theorem mat_empty (w : World) (base : Nat) (hb : base ≤ w.heap.size) : OwnsM (w.alloc (.cells #[] 38)) base (.slice (some ⟨w.heap.size, 0, none⟩) 0 0) [] :=
  ⟨[], World.ownsRow_lit w #[] 0 hb (Nat.zero_le _) rfl, rfl, fun k r h => by simp at h, fun i j a b _ h => by simp at h⟩

set_option maxRecDepth 8000 in
set_option maxHeartbeats 12800000 in
theorem spec_lap (n e s : Int) (v : Value) (ws : List W3) (w : World) (hr : ReadsW w v ws) :
    Calls Try.prog 127 #[.agg #[.int .i64 n, .int .i64 e, .int .i64 s, v]] w fun en w' => ∃ v', en = .returned v' ∧ OwnsM w' w.heap.size v' (lapR n e s ws) ∧ Below w.heap.size w w' := by
  have B0 := (Below.refl w.heap.size w).alloc (Nat.le_refl _) (.cells #[.int .i64 n, .int .i64 e, .int .i64 s, v] 25)
  have hbox := boxN.new w n e s v 25
  have hr0 := hr.later B0
  have hok := spec_netOk n e s v ws _ hr0
  obtain ⟨p, cap, rfl⟩ := hr.shape
  cases hb : netB n e s ws
  · rw [hb] at hok
    rw [lapR_no hb]
    clear hbox
    go_enter Try.func127, Try.ntmps127
    go_wp2_with fail
    refine hok.mono ?_
    rintro en w1 ⟨rfl, B1⟩
    go_wp2
    go_ret
    exact ⟨_, rfl, OwnsM.nil _ _, by (repeat (first | exact Below.refl _ _ | (refine Below.setCell ?_ (by (first | exact Nat.le_refl _ | omega | (simp <;> omega) | simp)) _) | (refine Below.alloc ?_ (by (first | exact Nat.le_refl _ | omega | (simp <;> omega) | simp)) _) | (refine below_draws ?_ _) | exact B1 | (refine Below.trans ?_ (Below.mono B1 (by (first | exact Nat.le_refl _ | omega | (simp <;> omega) | simp))))))⟩
  · rw [hb] at hok
    rw [lapR_yes hb]
    obtain ⟨⟨n1, n5, -⟩, hw, -⟩ := netB_iff.1 hb
    obtain ⟨N, rfl⟩ : ∃ N : Nat, n = N := ⟨n.toNat, by omega⟩
    rw [Int.toNat_natCast]
    have HW := Lib.hid hw; clear hw hb
    go_enter Try.func127, Try.ntmps127
    go_wp2_with fail
    refine hok.mono ?_
    rintro en w1 ⟨rfl, B1⟩
    have hbx := hbox.later B1
    obtain ⟨W0, hW0⟩ : ∃ W0, W0 = (w.alloc (.cells #[.int .i64 N, .int .i64 e, .int .i64 s, .slice p ws.length cap] 25)) := ⟨_, rfl⟩
    have hsW : W0.heap.size = w.heap.size + 1 := by rw [hW0]; simp
    have B0' : Below w.heap.size w W0 := by rw [hW0]; exact B0
    have hbox' : boxN W0 w.heap.size N e s (.slice p ws.length cap) := by rw [hW0]; exact hbox
    rw [← hW0] at B1
    have hrW := hr0
    rw [← hW0] at hrW
    rw [hsW] at B1
    clear B0 hr0 hok hbox hW0
    have HR := Lib.hid hrW; clear hrW
    have HBX := Lib.hid hbox'; clear hbox'
    have HB := Lib.hid B1; clear B1
    have hs1 := HB.out.size
    have HB0 := Lib.hid B0'; clear B0'
    obtain ⟨x0, x1, x2, x3⟩ := hbx
    go_wp2
    go_loopw [3, 4] (fun ov av wr => ∃ (a : Nat), a ≤ N ∧ av = .int .i64 a ∧ Hid (OwnsM wr (w.heap.size + 1) ov (lapTop N ws a)) ∧ Hid (Below (w.heap.size + 1) W0 wr)) (fun _ av _ => N - (intOf av).toNat)
    case atStart =>
      refine ⟨0, Nat.zero_le _, rfl, Lib.hid (mat_empty _ _ (by omega)), Lib.hid (by have h := HB.out; (repeat (first | exact Below.refl _ _ | (refine Below.setCell ?_ (by (first | exact Nat.le_refl _ | omega | (simp <;> omega) | simp)) _) | (refine Below.alloc ?_ (by (first | exact Nat.le_refl _ | omega | (simp <;> omega) | simp)) _) | (refine below_draws ?_ _) | exact h | (refine Below.trans ?_ (Below.mono h (by (first | exact Nat.le_refl _ | omega | (simp <;> omega) | simp)))))))⟩
    case round =>
      clear x0 x1 x2 x3
      obtain ⟨a, ha, rfl, hO, hB⟩ := hrel
      have hX := Lib.hid (HBX.out.below hB.out (Nat.lt_succ_self _))
      have hszo := hB.out.size
      obtain ⟨x0, x1, x2, x3⟩ := hX.out
      by_cases hlt : a < N
      · obtain ⟨wo, hwo⟩ : ∃ wo, wo = wr := ⟨_, rfl⟩
        subst hwo
        go_wp2
        go_loopw [5, 6] (fun rv bv wi => ∃ (b : Nat), b ≤ N ∧ bv = .int .i64 b ∧ Hid (wi.ownsRow wo.heap.size 3 1 rv (lapRow ws a b).length (cellsI (lapRow ws a b))) ∧ Hid (Below wo.heap.size wo wi)) (fun _ bv _ => N - (intOf bv).toNat)
        case atStart => exact ⟨0, Nat.zero_le _, rfl, Lib.hid (own_emptyI _ _ (Nat.le_refl _)), Lib.hid (by (repeat (first | exact Below.refl _ _ | (refine Below.setCell ?_ (by (first | exact Nat.le_refl _ | omega | (simp <;> omega) | simp)) _) | (refine Below.alloc ?_ (by (first | exact Nat.le_refl _ | omega | (simp <;> omega) | simp)) _) | (refine below_draws ?_ _))))⟩
        case round =>
          clear x0 x1 x2 x3
          obtain ⟨b, hbn, rfl, hown, hBi⟩ := hrel
          obtain ⟨y0, y1, y2, y3⟩ := hX.out.later hBi.out
          have hBw : Below (w.heap.size + 1) W0 wr := hB.out.trans (hBi.out.mono (by omega))
          have hrd := HR.out.later (show Below W0.heap.size W0 wr by rw [hsW]; exact hBw)
          have hsz := hBi.out.size
          have hll := lapRow_length ws a b
          by_cases hbl : b < N
          · by_cases hab : a = b
            · have hE : lapE ws a b = wAt ws (a : Int) := if_pos hab
              have hsn := lapRow_snoc ws a b
              rw [hE] at hsn
              have HSN := Lib.hid hsn; clear hsn hE
              have heq : ((a : Int) == (b : Int)) = true := by simp; omega
              clear hab
              go_wp2_with fail
              refine (spec_wAt N e s a _ ws _ hrd).mono ?_
              rintro en w2 ⟨rfl, B2⟩
              have S2 := B2.size
              have own2 := owns_later hown.out B2
              have HB2 : Hid (Below wo.heap.size wo w2) := Lib.hid (hBi.out.trans (B2.mono hsz))
              clear hrd y0 y1 y2 y3 B2
              have k1 : (lapRow ws a b).length + 1 ≤ 1099511627776 := by omega
              have k2 : wo.heap.size ≤ w2.heap.size := by omega
              have k3 := HB2.out
              go_wp2_with (at_builtin; refine append_int2 own2 k1 k2 k3 (by rfl) (by rfl) (by rfl) (by rfl) (by rfl) ?_; intro v' w3 hown3 hsz3 hB3 hG3)
              go_wp2
              go_roundw
              case rel => exact ⟨b + 1, by omega, by go_num, Lib.hid (by rw [HSN.out]; exact hown3), Lib.hid hB3⟩
              case measure => simp [intOf]; omega
            · have hE : lapE ws a b = -wBtw ws (a : Int) (b : Int) := if_neg hab
              have hsn := lapRow_snoc ws a b
              rw [hE] at hsn
              obtain ⟨z1, z2⟩ := wBtw_le HW.out (a : Int) (b : Int)
              have HSN := Lib.hid hsn; clear hsn hE
              have heq : ((a : Int) == (b : Int)) = false := by simp; omega
              clear hab
              go_wp2_with fail
              refine (spec_wBtw N e s a b _ ws _ hrd).mono ?_
              rintro en w2 ⟨rfl, B2⟩
              have S2 := B2.size
              have own2 := owns_later hown.out B2
              have HB2 : Hid (Below wo.heap.size wo w2) := Lib.hid (hBi.out.trans (B2.mono hsz))
              have hng : IntKind.i64.wrap (-wBtw ws (a : Int) (b : Int)) = -wBtw ws (a : Int) (b : Int) := IntWalk.i64_in _ (by omega)
              clear hrd y0 y1 y2 y3 B2
              have k1 : (lapRow ws a b).length + 1 ≤ 1099511627776 := by omega
              have k2 : wo.heap.size ≤ w2.heap.size := by omega
              have k3 := HB2.out
              go_wp2_with (at_builtin; refine append_int2 own2 k1 k2 k3 (by rfl) (by rfl) (by rfl) (by rfl) (by rfl) ?_; intro v' w3 hown3 hsz3 hB3 hG3)
              go_wp2
              go_roundw
              case rel => exact ⟨b + 1, by omega, by go_num, Lib.hid (by rw [HSN.out]; exact hown3), Lib.hid hB3⟩
              case measure => simp [intOf]; omega
          · obtain rfl : b = N := by omega
            obtain ⟨rs, hrs0⟩ := hO.out
            have hrs := hrs0.later hBi.out
            have hown1 : wr.ownsRow (w.heap.size + 1) 38 1 u3 rs.length rs := by rw [hrs.2.1]; exact hrs.1
            have k1 : rs.length + 1 ≤ 1099511627776 := by have := hrs.2.1; rw [lapTop_length] at this; omega
            have k2 : w.heap.size + 1 ≤ wr.heap.size := by omega
            have hfar : ∀ (j : Nat) (x : Value), rs[j]? = some x → x.ownBlock = none ∨ x.ownBlock ≠ u5.ownBlock := fun j x hx => by
              obtain ⟨hj, hoj⟩ := hrs0.2.2.1 j x hx
              cases hxo : x.ownBlock with
              | none => exact .inl rfl
              | some gx =>
                right
                have h1 := (hoj.lt gx hxo).2
                intro e
                have h2 := (hown.out.lt gx e.symm).1
                omega
            have HRS := Lib.hid hrs
            have HFR := Lib.hid hfar
            have HO1 := Lib.hid (owns_mono hown.out (show w.heap.size + 1 ≤ wo.heap.size by omega))
            have HBW := Lib.hid hBw
            clear hrd hrs0 hrs hfar hBw
            obtain ⟨pr, cr, hu5⟩ := owns_shape hown.out
            rw [hll] at hu5
            subst hu5
            go_wp2_with (at_builtin; refine append_row2 hown1 k1 k2 (by rfl) (by rfl) (by rfl) (by rfl) (by rfl) (by rfl) ?_; intro v' w3 hv3 hs3 hG3)
            have HOR := Lib.hid (OwnsR.snoc HRS.out HO1.out HFR.out hG3 (by rw [show (lapTop b ws a ++ [lapRow ws a b]).length = (rs ++ [Value.slice pr b cr]).length by simp [HRS.out.2.1]]; exact hv3))
            have HB3 := Lib.hid (HBW.out.grown hG3 k2 (fun k hk => (hown1.lt k hk).1))
            go_wp2
            go_roundw
            case rel => exact ⟨a + 1, by omega, by go_num, Lib.hid ⟨_, by rw [lapTop_snoc]; exact HOR.out⟩, HB3⟩
            case measure => simp [intOf]; omega
      · obtain rfl : a = N := by omega
        go_wp2
        go_ret
        refine ⟨_, rfl, ?_, HB0.out.trans (hB.out.mono (Nat.le_succ _))⟩
        have h := hO.out
        rw [lapTop_all] at h
        exact h.mono (Nat.le_succ _)
end Go.Proofs.Ytaececpphdaciaa
