/-
  The determinant of some rows and columns, as a sum over the first row; its bounds; appending a slice of numbers to one.
-/
import Derived.Test.YtnbbmpilpeakiaaMatOk
namespace Go.Proofs.Ytnbbmpilpeakiaa
open Go.RowKit

/-- The entry of a row and a column. -/
def at2 (m : MatI) (r c : Int) : Int := (m.getD r.toNat []).getD c.toNat 0
def sgn (k : Nat) : Int := if k % 2 = 0 then 1 else -1
/-- The first k summands. -/
def detP (m : MatI) (f : List Int → Int) (r : Int) (cols : List Int) : Nat → Int
  | 0 => 0
  | k + 1 => detP m f r cols k + sgn k * at2 m r (cols.getD k 0) * f (cols.eraseIdx k)
def detD (m : MatI) : List Int → List Int → Int
  | [], _ => 1
  | r :: rs, cols => detP m (detD m rs) r cols cols.length
theorem sgn_next (k : Nat) : -sgn k = sgn (k + 1) := by unfold sgn; split <;> split <;> omega
theorem sgn_cases (k : Nat) : sgn k = 1 ∨ sgn k = -1 := by unfold sgn; split <;> simp
theorem at2_le {m : MatI} (h : matV m) (r c : Int) : -1000 ≤ at2 m r c ∧ at2 m r c ≤ 1000 := by
  unfold at2
  rw [List.getD_eq_getElem?_getD (l := m), List.getD_eq_getElem?_getD]
  by_cases hr : r.toNat < m.length
  · rw [List.getElem?_eq_getElem hr, Option.getD_some]
    by_cases hc : c.toNat < m[r.toNat].length
    · rw [List.getElem?_eq_getElem hc, Option.getD_some]
      exact (h.2 _ hr).2 _ hc
    · rw [List.getElem?_eq_none (by omega), Option.getD_none]; omega
  · have e : m[r.toNat]? = none := List.getElem?_eq_none (by omega)
    rw [e]
    simp
theorem mul_le2 {a b A B : Int} (ha : -A ≤ a ∧ a ≤ A) (hb : -B ≤ b ∧ b ≤ B) : -(A * B) ≤ a * b ∧ a * b ≤ A * B := by
  have h1 : (a * b).natAbs ≤ A.natAbs * B.natAbs := by
    rw [Int.natAbs_mul]
    exact Nat.mul_le_mul (by omega) (by omega)
  have h2 : (A * B).natAbs = A.natAbs * B.natAbs := Int.natAbs_mul _ _
  have h3 : 0 ≤ A * B := Int.mul_nonneg (by omega) (by omega)
  omega
theorem sgn_mul_le {x : Int} (k : Nat) (h : -1000 ≤ x ∧ x ≤ 1000) : -1000 ≤ sgn k * x ∧ sgn k * x ≤ 1000 := by
  rcases sgn_cases k with e | e <;> rw [e] <;> omega
/-- The bound at n rows. -/
def lim : Nat → Int
  | 0 => 1
  | n + 1 => 5000 * lim n
theorem lim_pos (n : Nat) : 0 < lim n := by
  induction n with
  | zero => decide
  | succ n ih => unfold lim; omega
theorem lim_mono {n k : Nat} (h : n ≤ k) : lim n ≤ lim k := by
  induction k with
  | zero => obtain rfl : n = 0 := by omega
            exact Int.le_refl _
  | succ k ih =>
    by_cases e : n = k + 1
    · rw [e]; exact Int.le_refl _
    · have := ih (by omega)
      have := lim_pos k
      show lim n ≤ 5000 * lim k
      omega
theorem detP_le {m : MatI} (hm : matV m) (f : List Int → Int) (L : Int) (hf : ∀ q, q.length ≤ 4 → -L ≤ f q ∧ f q ≤ L) (r : Int) (cols : List Int) (hc : cols.length ≤ 5) :
    ∀ k, k ≤ cols.length → -(k * (1000 * L)) ≤ detP m f r cols k ∧ detP m f r cols k ≤ k * (1000 * L)
  | 0, _ => by simp [detP]
  | k + 1, hk => by
    have ih := detP_le hm f L hf r cols hc k (by omega)
    have h1 := sgn_mul_le k (at2_le hm r (cols.getD k 0))
    have h2 := hf (cols.eraseIdx k) (by rw [List.length_eraseIdx]; split <;> omega)
    have h3 := mul_le2 (A := 1000) (B := L) (by omega) h2
    have e : ((k + 1 : Nat) : Int) * (1000 * L) = k * (1000 * L) + 1000 * L := by
      rw [Int.natCast_add, Int.add_mul]; simp
    unfold detP
    rw [e]
    omega
theorem detD_le {m : MatI} (hm : matV m) : ∀ (rows cols : List Int), cols.length ≤ 5 → rows.length = cols.length → -lim rows.length ≤ detD m rows cols ∧ detD m rows cols ≤ lim rows.length
  | [], cols, _, _ => by simp [detD, lim]
  | r :: rs, cols, hc, hl => by
    simp only [List.length_cons] at hl
    have hf : ∀ q : List Int, q.length = rs.length → -lim rs.length ≤ detD m rs q ∧ detD m rs q ≤ lim rs.length := fun q hq => detD_le hm rs q (by omega) hq.symm
    have key : ∀ k, k ≤ cols.length → -(k * (1000 * lim rs.length)) ≤ detP m (detD m rs) r cols k ∧ detP m (detD m rs) r cols k ≤ k * (1000 * lim rs.length) := by
      intro k
      induction k with
      | zero => intro _; simp [detP]
      | succ k ih =>
        intro hk
        have ih := ih (by omega)
        have h1 := sgn_mul_le k (at2_le hm r (cols.getD k 0))
        have h2 := hf (cols.eraseIdx k) (by rw [List.length_eraseIdx, if_pos (by omega)]; omega)
        have h3 := mul_le2 (A := 1000) (B := lim rs.length) (by omega) h2
        have e : ((k + 1 : Nat) : Int) * (1000 * lim rs.length) = k * (1000 * lim rs.length) + 1000 * lim rs.length := by
          rw [Int.natCast_add, Int.add_mul]; simp
        unfold detP
        rw [e]
        omega
    have h := key cols.length (Nat.le_refl _)
    have hp := lim_pos rs.length
    have h5 : (cols.length : Int) * (1000 * lim rs.length) ≤ 5 * (1000 * lim rs.length) := Int.mul_le_mul_of_nonneg_right (by omega) (by omega)
    show -(5000 * lim rs.length) ≤ detP m (detD m rs) r cols cols.length ∧ detP m (detD m rs) r cols cols.length ≤ 5000 * lim rs.length
    omega
theorem detP_le5 {m : MatI} (hm : matV m) (rs : List Int) (r : Int) (cols : List Int) (hc : cols.length ≤ 5) (hl : cols.length = rs.length + 1) (k : Nat) (hk : k ≤ cols.length) :
    -3125000000000000000 ≤ detP m (detD m rs) r cols k ∧ detP m (detD m rs) r cols k ≤ 3125000000000000000 := by
  have hf : ∀ q : List Int, q.length = rs.length → -lim rs.length ≤ detD m rs q ∧ detD m rs q ≤ lim rs.length := fun q hq => detD_le hm rs q (by omega) hq.symm
  have key : ∀ k, k ≤ cols.length → -(k * (1000 * lim rs.length)) ≤ detP m (detD m rs) r cols k ∧ detP m (detD m rs) r cols k ≤ k * (1000 * lim rs.length) := by
    intro k
    induction k with
    | zero => intro _; simp [detP]
    | succ k ih =>
      intro hk
      have ih := ih (by omega)
      have h1 := sgn_mul_le k (at2_le hm r (cols.getD k 0))
      have h2 := hf (cols.eraseIdx k) (by rw [List.length_eraseIdx, if_pos (by omega)]; omega)
      have h3 := mul_le2 (A := 1000) (B := lim rs.length) (by omega) h2
      have e : ((k + 1 : Nat) : Int) * (1000 * lim rs.length) = k * (1000 * lim rs.length) + 1000 * lim rs.length := by
        rw [Int.natCast_add, Int.add_mul]; simp
      unfold detP
      rw [e]
      omega
  have h := key k hk
  have hp := lim_pos rs.length
  have h4 : lim rs.length ≤ lim 4 := lim_mono (by omega)
  have h4' : lim 4 = 625000000000000 := by decide
  have h5 : (k : Int) * (1000 * lim rs.length) ≤ 5 * (1000 * lim rs.length) := Int.mul_le_mul_of_nonneg_right (by omega) (by omega)
  omega
theorem detD_le5 {m : MatI} (hm : matV m) (rows cols : List Int) (hc : cols.length ≤ 4) (hl : rows.length = cols.length) : -625000000000000 ≤ detD m rows cols ∧ detD m rows cols ≤ 625000000000000 := by
  have h := detD_le hm rows cols (by omega) hl
  have h4 : lim rows.length ≤ lim 4 := lim_mono (by omega)
  have h4' : lim 4 = 625000000000000 := by decide
  omega
/-- What one round adds, as the machine's numbers have it. -/
theorem det_step {m : MatI} (hm : matV m) (rs : List Int) (r : Int) (cols : List Int) (hc : cols.length ≤ 5) (hl : cols.length = rs.length + 1) (k : Nat) (hk : k < cols.length) :
    ∃ s x D P sx T P' : Int, sgn k = s ∧ at2 m r cols[k] = x ∧ detD m rs (cols.eraseIdx k) = D ∧ detP m (detD m rs) r cols k = P ∧ detP m (detD m rs) r cols (k + 1) = P' ∧
      s * x = sx ∧ sx * D = T ∧ P + T = P' ∧ (s = 1 ∨ s = -1) ∧ (-1000 ≤ x ∧ x ≤ 1000) ∧ (-1000 ≤ sx ∧ sx ≤ 1000) ∧ (-625000000000000 ≤ D ∧ D ≤ 625000000000000) ∧
      (-625000000000000000 ≤ T ∧ T ≤ 625000000000000000) ∧ (-3125000000000000000 ≤ P ∧ P ≤ 3125000000000000000) ∧ (-3125000000000000000 ≤ P' ∧ P' ≤ 3125000000000000000) ∧ (x = 0 → P' = P) := by
  have e1 : cols.getD k 0 = cols[k] := by rw [List.getD_eq_getElem?_getD, List.getElem?_eq_getElem hk, Option.getD_some]
  have hP' : detP m (detD m rs) r cols (k + 1) = detP m (detD m rs) r cols k + sgn k * at2 m r cols[k] * detD m rs (cols.eraseIdx k) := by rw [← e1]; rfl
  have hx := at2_le hm r cols[k]
  have hsx := sgn_mul_le k hx
  have hD := detD_le5 hm rs (cols.eraseIdx k) (by rw [List.length_eraseIdx, if_pos hk]; omega) (by rw [List.length_eraseIdx, if_pos hk]; omega)
  have hT := mul_le2 (A := 1000) (B := 625000000000000) (by omega) hD
  refine ⟨_, _, _, _, _, _, _, rfl, rfl, rfl, rfl, rfl, rfl, rfl, hP'.symm, sgn_cases k, hx, hsx, hD, by omega, detP_le5 hm rs r cols hc hl k (by omega), detP_le5 hm rs r cols hc hl (k + 1) (by omega), fun h0 => ?_⟩
  rw [hP', h0]; simp

theorem erase_take_drop (cols : List Int) (k : Nat) : cols.eraseIdx k = cols.take k ++ cols.drop (k + 1) := List.eraseIdx_eq_take_drop_succ cols k
theorem own_emptyI (w : World) (base : Nat) (hb : base ≤ w.heap.size) : (w.alloc (.cells #[] 3)).ownsRow base 3 1 (.slice (some ⟨w.heap.size, 0, none⟩) 0 0) ([] : List Int).length (cellsI []) :=
  World.ownsRow_lit w #[] 0 hb (Nat.zero_le _) rfl
theorem cellsI_len (q : List Int) : (cellsI q).length = q.length := by simp [cellsI]
theorem ReadsI.dropI {w : World} {g o n cap : Nat} {q : List Int} (h : ReadsI w (.slice (some ⟨g, o, none⟩) n cap) q) (i : Nat) (hi : i ≤ q.length) : ReadsI w (.slice (if cap = i then some ⟨g, o, none⟩ else some ⟨g, o + i, none⟩) (n - i) (cap - i)) (q.drop i) := by
  by_cases e : cap = i
  · rw [if_pos e]
    obtain ⟨p, c, he, h1, h2, h3⟩ := h
    simp only [Value.slice.injEq] at he
    obtain ⟨-, rfl, rfl⟩ := he
    have hl : (q.drop i).length = 0 := by simp; omega
    have hn := List.eq_nil_of_length_eq_zero hl
    rw [hn]
    have hz : q.length - i = 0 := by omega
    rw [hz]
    exact ⟨some ⟨g, o, none⟩, cap - i, rfl, by simp, by omega, .inl rfl⟩
  · rw [if_neg e]; exact h.drop i hi
theorem news_of_reads {w : World} {a : Addr} {n c : Nat} {q : List Int} (h : ReadsI w (.slice (some a) n c) q) : ∀ j u, (cellsI q)[j]? = some u → w.cell? (a.add j) = some u := by
  intro j u hj
  by_cases hjq : j < q.length
  · rw [cellsI_get q j hjq] at hj
    simp only [Option.some.injEq] at hj
    subst hj
    obtain ⟨p', c', he, h1, h2, h3⟩ := h
    rcases h3 with hx | ⟨g', o', rfl, hc⟩
    · subst hx; simp at hjq
    · simp only [Value.slice.injEq, Option.some.injEq] at he
      obtain ⟨rfl, -, -⟩ := he
      rw [Addr.add_lit]; exact hc j hjq
  · rw [List.getElem?_eq_none (by rw [cellsI_len]; omega)] at hj; cases hj
theorem cellsI_append (a b : List Int) : cellsI (a ++ b) = cellsI a ++ cellsI b := by simp [cellsI]
theorem cellsI_one (q : List Int) : ∀ u ∈ cellsI q, u.oneCell' = true := by
  intro u hu
  simp only [cellsI, List.mem_map] at hu
  obtain ⟨x, _, rfl⟩ := hu
  rfl
theorem ReadsI.len {w : World} {p : Option Addr} {n c : Nat} {q : List Int} (h : ReadsI w (.slice p n c) q) : n = q.length := by
  obtain ⟨_, _, he, _⟩ := h
  simp only [Value.slice.injEq] at he
  omega
/-- 'append(v, x...)' of numbers that a slice reads as, where v is the call's own: at a plain region's list. -/
theorem append_ints {ops : Array Oper} {rest : List Oper} {o : Oper} {a : Act} {Q : Exit → Act → World → Prop} (wr : World) (hgd : o.guard = none) (s x : Operand)
    (ho : o.op = .call { callee := .builtin .append, args := #[s, x], argTypes := #[105, 105] })
    (base : Nat) (v : Value) (q : List Int) (hs : a.eval s = v) (hown : wr.ownsRow base 3 1 v q.length (cellsI q))
    {p : Option Addr} {m c : Nat} (hx : a.eval x = .slice p m c) (hp : ∃ ad, p = some ad) (ns : List Int) (hns : ReadsI wr (.slice p m c) ns) (hn : q.length + ns.length ≤ 1099511627776) (hbase : base ≤ wr.heap.size)
    (h : ∀ v' w', w'.ownsRow base 3 1 v' (q ++ ns).length (cellsI (q ++ ns)) → wr.heap.size ≤ w'.heap.size → wr.grownBy w' v.ownBlock → wpList Try.prog ops Q rest (a.put o.dst v') w') :
    wpList Try.prog ops Q (o :: rest) a wr := by
  obtain ⟨i0, hi, hz0, hz1, hz2⟩ := info_parts Try.infoInt
  have hml := hns.len
  obtain ⟨ad, rfl⟩ := hp
  refine wpList_append_own _ hgd s x 105 ho base 3 i0 (.int .i64 0) 1 8 Try.underlying105 hi hz0 hz1 hz2 rfl (by decide) v q.length (cellsI q) hs hown ad m c (cellsI ns) hx (by rw [cellsI_len, hml]; omega) (news_of_reads hns) (cellsI_one _) (by unfold maxLen; omega) (by omega) hbase ?_
  intro v' w' h1 h2 _
  refine h v' w' ?_ h2.size h2
  rw [cellsI_append, List.length_append, ← hml]; exact h1
/-- The same as a step of a region that draws. -/
theorem step_append_ints {ops : Array Oper} {o : Oper} {a : Act} {K : Act → World → Prop} {Q : Exit → Act → World → Prop} {E : Prop} (wr : World) (hgd : o.guard = none) (s x : Operand)
    (ho : o.op = .call { callee := .builtin .append, args := #[s, x], argTypes := #[105, 105] })
    (base : Nat) (v : Value) (q : List Int) (hs : a.eval s = v) (hown : wr.ownsRow base 3 1 v q.length (cellsI q))
    {p : Option Addr} {m c : Nat} (hx : a.eval x = .slice p m c) (hp : ∃ ad, p = some ad) (ns : List Int) (hns : ReadsI wr (.slice p m c) ns) (hn : q.length + ns.length ≤ 1099511627776) (hbase : base ≤ wr.heap.size)
    (h : ∀ v' w', w'.ownsRow base 3 1 v' (q ++ ns).length (cellsI (q ++ ns)) → wr.heap.size ≤ w'.heap.size → wr.grownBy w' v.ownBlock → K (a.put o.dst v') w') :
    if Region.wanted o (yielded ops a.tmps) = true then Oper.wp Try.prog o a wr K Q else E := by
  have hw : Region.wanted o (yielded ops a.tmps) = true := by simp [Region.wanted, hgd]
  rw [if_pos hw]
  obtain ⟨i0, hi, hz0, hz1, hz2⟩ := info_parts Try.infoInt
  have hml := hns.len
  obtain ⟨ad, rfl⟩ := hp
  refine wp_append_own _ s x 105 ho base 3 i0 (.int .i64 0) 1 8 Try.underlying105 hi hz0 hz1 hz2 rfl (by decide) v q.length (cellsI q) hs hown ad m c (cellsI ns) hx (by rw [cellsI_len, hml]; omega) (news_of_reads hns) (cellsI_one _) (by unfold maxLen; omega) (by omega) hbase ?_
  intro v' w' h1 h2 _
  refine h v' w' ?_ h2.size h2
  rw [cellsI_append, List.length_append, ← hml]; exact h1
end Go.Proofs.Ytnbbmpilpeakiaa
