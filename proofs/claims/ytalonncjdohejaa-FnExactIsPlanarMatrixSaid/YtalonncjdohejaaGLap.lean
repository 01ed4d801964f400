/-
  NetOk in the program.
  LaplacianOf in the model.
-/
import Derived.Test.YtalonncjdohejaaAllReached
import Derived.Test.YtalonncjdohejaaGMat
namespace Go.Proofs.Ytalonncjdohejaa
open Go.RowKit

set_option maxRecDepth 4000 in
set_option maxHeartbeats 6400000 in
theorem impl_netOk (n e s : Int) (v : Value) (ws : List W3) (w : World) (hr : ReadsW w v ws) :
    Calls Try.prog 58 #[.agg #[.int .i64 n, .int .i64 e, .int .i64 s, v]] w fun en w' => en = .returned (.bool (netB n e s ws)) ∧ Below w.heap.size w w' := by
  by_cases hN : NumsV n e s
  case neg =>
    have HF := Lib.hid (netB_false (ws := ws) (fun h : NetV n e s ws => hN h.1))
    unfold NumsV at hN
    clear hr
    by_cases h1 : n < 1
    · clear hN
      go_enter Try.func58, Try.ntmps58
      go_wp2
      all_goals go_ret
      all_goals exact ⟨ret_b HF.out.symm, by (repeat (first | exact Below.refl _ _ | (refine Below.setCell ?_ (by (first | exact Nat.le_refl _ | omega | (simp <;> omega) | simp)) _) | (refine Below.alloc ?_ (by (first | exact Nat.le_refl _ | omega | (simp <;> omega) | simp)) _) | (refine below_draws ?_ _)))⟩
    by_cases h2 : 5 < n
    · clear hN
      go_enter Try.func58, Try.ntmps58
      go_wp2
      all_goals go_ret
      all_goals exact ⟨ret_b HF.out.symm, by (repeat (first | exact Below.refl _ _ | (refine Below.setCell ?_ (by (first | exact Nat.le_refl _ | omega | (simp <;> omega) | simp)) _) | (refine Below.alloc ?_ (by (first | exact Nat.le_refl _ | omega | (simp <;> omega) | simp)) _) | (refine below_draws ?_ _)))⟩
    by_cases h3 : e < 1
    · clear hN
      go_enter Try.func58, Try.ntmps58
      go_wp2
      all_goals go_ret
      all_goals exact ⟨ret_b HF.out.symm, by (repeat (first | exact Below.refl _ _ | (refine Below.setCell ?_ (by (first | exact Nat.le_refl _ | omega | (simp <;> omega) | simp)) _) | (refine Below.alloc ?_ (by (first | exact Nat.le_refl _ | omega | (simp <;> omega) | simp)) _) | (refine below_draws ?_ _)))⟩
    by_cases h4 : n < e
    · clear hN
      go_enter Try.func58, Try.ntmps58
      go_wp2
      all_goals go_ret
      all_goals exact ⟨ret_b HF.out.symm, by (repeat (first | exact Below.refl _ _ | (refine Below.setCell ?_ (by (first | exact Nat.le_refl _ | omega | (simp <;> omega) | simp)) _) | (refine Below.alloc ?_ (by (first | exact Nat.le_refl _ | omega | (simp <;> omega) | simp)) _) | (refine below_draws ?_ _)))⟩
    by_cases h5 : s < 1
    · clear hN
      go_enter Try.func58, Try.ntmps58
      go_wp2
      all_goals go_ret
      all_goals exact ⟨ret_b HF.out.symm, by (repeat (first | exact Below.refl _ _ | (refine Below.setCell ?_ (by (first | exact Nat.le_refl _ | omega | (simp <;> omega) | simp)) _) | (refine Below.alloc ?_ (by (first | exact Nat.le_refl _ | omega | (simp <;> omega) | simp)) _) | (refine below_draws ?_ _)))⟩
    have h6 : 1000 < s := by omega
    clear hN
    go_enter Try.func58, Try.ntmps58
    go_wp2
    all_goals go_ret
    all_goals exact ⟨ret_b HF.out.symm, by (repeat (first | exact Below.refl _ _ | (refine Below.setCell ?_ (by (first | exact Nat.le_refl _ | omega | (simp <;> omega) | simp)) _) | (refine Below.alloc ?_ (by (first | exact Nat.le_refl _ | omega | (simp <;> omega) | simp)) _) | (refine below_draws ?_ _)))⟩
  obtain ⟨n1, n5, e1, en, s1, s2⟩ := id hN
  have hB0 : Below w.heap.size w (w.alloc (.cells #[.int .i64 n, .int .i64 e, .int .i64 s, v] 40)) := by (repeat (first | exact Below.refl _ _ | (refine Below.setCell ?_ (by (first | exact Nat.le_refl _ | omega | (simp <;> omega) | simp)) _) | (refine Below.alloc ?_ (by (first | exact Nat.le_refl _ | omega | (simp <;> omega) | simp)) _) | (refine below_draws ?_ _)))
  have hr0 := hr.later hB0
  have hw1 := wiresOk_any n e s v ws _ hr0
  by_cases hW : WiresV n ws
  case neg =>
    have HF := Lib.hid (netB_false (ws := ws) (fun h : NetV n e s ws => hW h.2.1))
    rw [wiresB_false hW] at hw1
    clear hN hW hr hr0
    go_enter Try.func58, Try.ntmps58
    go_wp2_with fail
    refine hw1.mono ?_
    rintro en w1 ⟨rfl, B1⟩
    obtain ⟨hc1, hf1⟩ := bcell B1
    have S1 := B1.size
    try simp at S1
    try (have _L1w : w.heap.size < w1.heap.size := by omega)
    have _M1w : w.heap.size ≤ w1.heap.size := by omega
    try (have _P1w_1 : w.heap.size + 1 < w1.heap.size := by omega)
    try (have _P1w_2 : w.heap.size + 1 + 1 < w1.heap.size := by omega)
    try (have _P1w_3 : w.heap.size + 1 + 1 + 1 < w1.heap.size := by omega)
    go_wp2
    go_ret
    exact ⟨ret_b HF.out.symm, by (repeat (first | exact Below.refl _ _ | (refine Below.setCell ?_ (by (first | exact Nat.le_refl _ | omega | (simp <;> omega) | simp)) _) | (refine Below.alloc ?_ (by (first | exact Nat.le_refl _ | omega | (simp <;> omega) | simp)) _) | (refine below_draws ?_ _) | exact B1 | (refine Below.trans ?_ (Below.mono B1 (by (first | exact Nat.le_refl _ | omega | (simp <;> omega) | simp))))))⟩
  have HF : Hid (connB n ws = netB n e s ws) := Lib.hid (by rw [Bool.eq_iff_iff, connB_iff, netB_iff]; exact ⟨fun h => ⟨hN, hW, h⟩, fun h => h.2.2⟩)
  rw [wiresB_true hW] at hw1
  have HW := Lib.hid hW
  clear hN hW hr
  go_enter Try.func58, Try.ntmps58
  go_wp2_with fail
  refine hw1.mono ?_
  rintro en w1 ⟨rfl, B1⟩
  replace hr0 := hr0.later B1
  obtain ⟨hc1, hf1⟩ := bcell B1
  have S1 := B1.size
  try simp at S1
  try (have _L1w : w.heap.size < w1.heap.size := by omega)
  have _M1w : w.heap.size ≤ w1.heap.size := by omega
  try (have _P1w_1 : w.heap.size + 1 < w1.heap.size := by omega)
  try (have _P1w_2 : w.heap.size + 1 + 1 < w1.heap.size := by omega)
  try (have _P1w_3 : w.heap.size + 1 + 1 + 1 < w1.heap.size := by omega)
  have _ : w1.cell? ⟨w.heap.size, 0, none⟩ = some (.int .i64 n) := by rw [hc1 (w.heap.size) 0 (by first | omega | (simp; done) | (simp; omega))]; first | assumption | (simp; done) | simp [go_sem, *]
  have _ : w1.frozen? ⟨w.heap.size, 0, none⟩ = false := by rw [hf1 (w.heap.size) 0 (by first | omega | (simp; done) | (simp; omega))]; first | assumption | (simp; done) | simp [go_sem, *]
  have _ : w1.cell? ⟨w.heap.size, 1, none⟩ = some (.int .i64 e) := by rw [hc1 (w.heap.size) 1 (by first | omega | (simp; done) | (simp; omega))]; first | assumption | (simp; done) | simp [go_sem, *]
  have _ : w1.frozen? ⟨w.heap.size, 1, none⟩ = false := by rw [hf1 (w.heap.size) 1 (by first | omega | (simp; done) | (simp; omega))]; first | assumption | (simp; done) | simp [go_sem, *]
  have _ : w1.cell? ⟨w.heap.size, 2, none⟩ = some (.int .i64 s) := by rw [hc1 (w.heap.size) 2 (by first | omega | (simp; done) | (simp; omega))]; first | assumption | (simp; done) | simp [go_sem, *]
  have _ : w1.frozen? ⟨w.heap.size, 2, none⟩ = false := by rw [hf1 (w.heap.size) 2 (by first | omega | (simp; done) | (simp; omega))]; first | assumption | (simp; done) | simp [go_sem, *]
  have _ : w1.cell? ⟨w.heap.size, 3, none⟩ = some (v) := by rw [hc1 (w.heap.size) 3 (by first | omega | (simp; done) | (simp; omega))]; first | assumption | (simp; done) | simp [go_sem, *]
  have _ : w1.frozen? ⟨w.heap.size, 3, none⟩ = false := by rw [hf1 (w.heap.size) 3 (by first | omega | (simp; done) | (simp; omega))]; first | assumption | (simp; done) | simp [go_sem, *]
  clear hc1 hf1
  go_wp2_with fail
  refine (reached_any n e s v ws _ hr0 HW.out n1 n5).mono ?_
  rintro en w2 ⟨rfl, B2⟩
  obtain ⟨hc2, hf2⟩ := bcell B2
  have S2 := B2.size
  try simp at S2
  try (have _L2w : w.heap.size < w2.heap.size := by omega)
  have _M2w : w.heap.size ≤ w2.heap.size := by omega
  try (have _P2w_1 : w.heap.size + 1 < w2.heap.size := by omega)
  try (have _P2w_2 : w.heap.size + 1 + 1 < w2.heap.size := by omega)
  try (have _P2w_3 : w.heap.size + 1 + 1 + 1 < w2.heap.size := by omega)
  try (have _L2w1 : w1.heap.size < w2.heap.size := by omega)
  have _M2w1 : w1.heap.size ≤ w2.heap.size := by omega
  try (have _P2w1_1 : w1.heap.size + 1 < w2.heap.size := by omega)
  try (have _P2w1_2 : w1.heap.size + 1 + 1 < w2.heap.size := by omega)
  try (have _P2w1_3 : w1.heap.size + 1 + 1 + 1 < w2.heap.size := by omega)
  go_wp2
  go_ret
  exact ⟨ret_b HF.out, by (repeat (first | exact Below.refl _ _ | (refine Below.setCell ?_ (by (first | exact Nat.le_refl _ | omega | (simp <;> omega) | simp)) _) | (refine Below.alloc ?_ (by (first | exact Nat.le_refl _ | omega | (simp <;> omega) | simp)) _) | (refine below_draws ?_ _) | exact B1 | (refine Below.trans ?_ (Below.mono B1 (by (first | exact Nat.le_refl _ | omega | (simp <;> omega) | simp)))) | exact B2 | (refine Below.trans ?_ (Below.mono B2 (by (first | exact Nat.le_refl _ | omega | (simp <;> omega) | simp))))))⟩
end Go.Proofs.Ytalonncjdohejaa

namespace Go.Proofs.Ytalonncjdohejaa
open Go.RowKit

/-- The block B of the world w holds this network. -/
def boxN (w : World) (B : Nat) (n e s : Int) (v : Value) : Prop :=
  w.cell? ⟨B, 0, none⟩ = some (.int .i64 n) ∧ w.cell? ⟨B, 1, none⟩ = some (.int .i64 e) ∧ w.cell? ⟨B, 2, none⟩ = some (.int .i64 s) ∧ w.cell? ⟨B, 3, none⟩ = some v
theorem boxN.lt {w : World} {B : Nat} {n e s : Int} {v : Value} (h : boxN w B n e s v) : B < w.heap.size := World.block_lt_of_cell? w _ h.1
theorem boxN.below {lo : Nat} {w w' : World} {B : Nat} {n e s : Int} {v : Value} (h : boxN w B n e s v) (hB : Below lo w w') (hl : B < lo) : boxN w' B n e s v :=
  ⟨(hB.cell (p := ⟨B, 0, none⟩) hl).trans h.1, (hB.cell (p := ⟨B, 1, none⟩) hl).trans h.2.1, (hB.cell (p := ⟨B, 2, none⟩) hl).trans h.2.2.1, (hB.cell (p := ⟨B, 3, none⟩) hl).trans h.2.2.2⟩
theorem boxN.later {w w' : World} {B : Nat} {n e s : Int} {v : Value} (h : boxN w B n e s v) (hB : Below w.heap.size w w') : boxN w' B n e s v := h.below hB h.lt
theorem boxN.new (w : World) (n e s : Int) (v : Value) (t : TypeId) : boxN (w.alloc (.cells #[.int .i64 n, .int .i64 e, .int .i64 s, v] t)) w.heap.size n e s v := by
  refine ⟨?_, ?_, ?_, ?_⟩ <;> simp [go_sem]
theorem row_new (w : World) (u : Value) (t : TypeId) : ∀ j x, [u][j]? = some x → (w.alloc (.cells #[u] t)).cell? ((⟨w.heap.size, 0, none⟩ : Addr).add j) = some x := by
  intro j x hj
  have hj0 : j = 0 := by
    rcases j with _ | j
    · rfl
    · simp at hj
  subst hj0
  simp only [List.getElem?_cons_zero, Option.some.injEq] at hj
  subst hj
  show World.cell? _ ⟨w.heap.size, 0, none⟩ = _
  rw [World.cell?_alloc_new]; rfl
/-- 'append(v, x)' of one row, where v is the call's own. -/
theorem append_row {ops : Array Oper} {rest : List Oper} {o : Oper} {a : Act} {Q : Exit → Act → World → Prop} (wr : World) (hgd : o.guard = none) (s x : Operand)
    (ho : o.op = .call { callee := .builtin .append, args := #[s, x], argTypes := #[27, 27] })
    (base : Nat) (v : Value) (xs : List Value) (u : Value) (hs : a.eval s = v) (hown : wr.ownsRow base 49 1 v xs.length xs)
    {b1 : Nat} (hx : a.eval x = .slice (some ⟨b1, 0, none⟩) 1 1) (hb1 : b1 = wr.heap.size) (hu : u.oneCell' = true) (hn : xs.length + 1 ≤ 1099511627776) (hbase : base ≤ wr.heap.size)
    (h : ∀ v' w', w'.ownsRow base 49 1 v' (xs ++ [u]).length (xs ++ [u]) → wr.heap.size ≤ w'.heap.size → wr.grownBy w' v.ownBlock → wpList Try.prog ops Q rest (a.put o.dst v') w') :
    wpList Try.prog ops Q (o :: rest) a (wr.alloc (.cells #[u] 49)) := by
  subst hb1
  obtain ⟨i0, hi, hz0, hz1, hz2⟩ := info_parts Try.infoRow
  refine wpList_append_own _ hgd s x 27 ho base 49 i0 (.slice none 0 0) 1 24 Try.underlying27 hi hz0 hz1 hz2 rfl (by decide) v xs.length xs hs (hown.alloc _) ⟨wr.heap.size, 0, none⟩ 1 1 [u] hx rfl (row_new _ _ _) (by simpa using hu) (by unfold maxLen; omega) (by omega) (by simp; omega) ?_
  intro v' w' h1 h2 _
  have h3 := h2.size
  simp at h3
  refine h v' w' (by simpa using h1) (by omega) ?_
  exact ⟨h2.os, h2.tape, h2.output, by omega, fun i hi hr => by rw [h2.block i (by simp; omega) hr, heap_alloc_old _ _ hi]⟩
theorem append_row2 {ops : Array Oper} {rest : List Oper} {o : Oper} {a : Act} {Q : Exit → Act → World → Prop} {wr : World} {s x : Operand} {base : Nat} {v : Value} {xs : List Value} {u : Value} {b1 : Nat} (hown : wr.ownsRow base 49 1 v xs.length xs) (hn : xs.length + 1 ≤ 1099511627776) (hbase : base ≤ wr.heap.size)
    (hgd : o.guard = none) (ho : o.op = .call { callee := .builtin .append, args := #[s, x], argTypes := #[27, 27] }) (hs : a.eval s = v) (hx : a.eval x = .slice (some ⟨b1, 0, none⟩) 1 1) (hb1 : b1 = wr.heap.size) (hu : u.oneCell' = true)
    (h : ∀ v' w', w'.ownsRow base 49 1 v' (xs ++ [u]).length (xs ++ [u]) → wr.heap.size ≤ w'.heap.size → wr.grownBy w' v.ownBlock → wpList Try.prog ops Q rest (a.put o.dst v') w') :
    wpList Try.prog ops Q (o :: rest) a (wr.alloc (.cells #[u] 49)) :=
  append_row wr hgd s x ho base v xs u hs hown hx hb1 hu hn hbase h
theorem mat_empty (w : World) (base : Nat) (hb : base ≤ w.heap.size) : OwnsM (w.alloc (.cells #[] 49)) base (.slice (some ⟨w.heap.size, 0, none⟩) 0 0) [] :=
  ⟨[], World.ownsRow_lit w #[] 0 hb (Nat.zero_le _) rfl, rfl, fun k r h => by simp at h, fun i j a b _ h => by simp at h⟩

end Go.Proofs.Ytalonncjdohejaa
