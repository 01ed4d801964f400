/-
  The dissipated power: a sum over the wires, and what flows off at the nodes; a bound of determinants.
-/
import Derived.Test.YtnbbmpilpeakiaaTreeOne
namespace Go.Proofs.Ytnbbmpilpeakiaa
open Go.RowKit

/-- What one wire is between two nodes. -/
def cJ (v w : Nat) (e : W3) : Int := if v ≠ w ∧ e.1 = min (v : Int) w ∧ e.2.1 = max (v : Int) w then e.2.2 else 0
theorem wBtw_cJ {n : Int} {ws : List W3} (h : WiresV n ws) (v w : Nat) : wBtw ws (v : Int) (w : Int) = (ws.map (cJ v w)).sum := by
  by_cases e : v = w
  · subst e
    rw [wBtw_self]
    have hz : ∀ l : List W3, (l.map (cJ v v)).sum = 0 := fun l => by
      induction l with
      | nil => rfl
      | cons x r ih =>
        show cJ v v x + (r.map (cJ v v)).sum = 0
        rw [ih]; unfold cJ; rw [if_neg (fun hh => hh.1 rfl)]; rfl
    exact (hz ws).symm
  · rw [wBtw_sJ (v : Int) (w : Int) (by omega) ws (pairW h)]
    unfold sJ
    congr 1
    apply List.map_congr_left
    intro x _
    unfold cJ
    by_cases hx : x.1 = min (v : Int) w ∧ x.2.1 = max (v : Int) w
    · rw [if_pos hx, if_pos ⟨e, hx⟩]
    · rw [if_neg hx, if_neg (fun hh => hx hh.2)]
/-- The power that potentials dissipate, times the scale. -/
def powE (P : Nat → Int) (e : W3) : Int := e.2.2 * ((P e.1.toNat - P e.2.1.toNat) * (P e.1.toNat - P e.2.1.toNat))
def powS (ws : List W3) (P : Nat → Int) : Int := (ws.map (powE P)).sum
theorem one_wire (N : Nat) (P : Nat → Int) (e : W3) (h : wireV N e) : sumN (fun v => P v * sumN (fun w => cJ v w e * (P v - P w)) N) N = powE P e := by
  obtain ⟨v1, v2, v3, v4, v5⟩ := h
  obtain ⟨a, ha⟩ : ∃ a : Nat, e.1 = a := ⟨e.1.toNat, by omega⟩
  obtain ⟨b, hb⟩ : ∃ b : Nat, e.2.1 = b := ⟨e.2.1.toNat, by omega⟩
  have hab : a < b := by omega
  have hbN : b < N := by omega
  have inner : ∀ v, v < N → sumN (fun w => cJ v w e * (P v - P w)) N = if v = a then e.2.2 * (P a - P b) else if v = b then e.2.2 * (P b - P a) else 0 := fun v hv => by
    by_cases hva : v = a
    · subst hva
      rw [if_pos rfl, sumN_one b N hbN (fun w _ hw => by
        have : cJ v w e = 0 := by unfold cJ; rw [if_neg]; rintro ⟨h1, h2, h3⟩; omega
        rw [this, Int.zero_mul])]
      have : cJ v b e = e.2.2 := by unfold cJ; rw [if_pos]; exact ⟨by omega, by omega, by omega⟩
      rw [this]
    · rw [if_neg hva]
      by_cases hvb : v = b
      · subst hvb
        rw [if_pos rfl, sumN_one a N (by omega) (fun w _ hw => by
          have : cJ v w e = 0 := by unfold cJ; rw [if_neg]; rintro ⟨h1, h2, h3⟩; omega
          rw [this, Int.zero_mul])]
        have : cJ v a e = e.2.2 := by unfold cJ; rw [if_pos]; exact ⟨by omega, by omega, by omega⟩
        rw [this]
      · rw [if_neg hvb, sumN_zero N (fun w _ => by
          have : cJ v w e = 0 := by unfold cJ; rw [if_neg]; rintro ⟨h1, h2, h3⟩; omega
          rw [this, Int.zero_mul])]
  have hs : sumN (fun v => P v * sumN (fun w => cJ v w e * (P v - P w)) N) N = sumN (fun v => P v * (if v = a then e.2.2 * (P a - P b) else if v = b then e.2.2 * (P b - P a) else 0)) N := sumN_ext N fun v hv => by rw [inner v hv]
  rw [hs, sumN_two a b (by omega) N (by omega) hbN (fun k _ h1 h2 => by rw [if_neg h1, if_neg h2, Int.mul_zero])]
  rw [if_pos rfl, if_neg (by omega), if_pos rfl]
  unfold powE
  rw [ha, hb, Int.toNat_natCast, Int.toNat_natCast]
  grind
theorem pow_wires (N : Nat) (P : Nat → Int) : ∀ ws : List W3, (∀ e ∈ ws, wireV N e) → sumN (fun v => P v * sumN (fun w => (ws.map (cJ v w)).sum * (P v - P w)) N) N = powS ws P
  | [], _ => by
    rw [sumN_zero]
    · rfl
    · intro v _
      rw [sumN_zero N (fun w _ => by show (0 : Int) * _ = 0; rw [Int.zero_mul]), Int.mul_zero]
  | e :: r, h => by
    have ih := pow_wires N P r (fun x hx => h x (by simp [hx]))
    have h1 := one_wire N P e (h e (by simp))
    show _ = powE P e + powS r P
    rw [← ih, ← h1, ← sumN_add]
    refine sumN_ext N fun v _ => ?_
    rw [← Int.mul_add, ← sumN_add]
    congr 1
    refine sumN_ext N fun w _ => ?_
    show (cJ v w e + (r.map (cJ v w)).sum) * (P v - P w) = _
    rw [Int.add_mul]
/-- The power is the sum of the potentials times what flows off. -/
theorem pow_flow {N : Nat} {ws : List W3} (h : WiresV N ws) (P : Nat → Int) : powS ws P = sumN (fun v => P v * sumN (fun w => wBtw ws (v : Int) (w : Int) * (P v - P w)) N) N := by
  rw [← pow_wires N P ws (fun e he => h.mem he)]
  exact sumN_ext N fun v _ => by
    congr 1
    exact sumN_ext N fun w _ => by rw [wBtw_cJ h v w]
/-- The power of the potentials by minors. -/
theorem pow_pot {N : Nat} {ws : List W3} (h : WiresV N ws) (h2 : 2 ≤ N) (hN : N ≤ 5) (a b : Nat) (ha : a < N) (hb : b < N) (hab : a ≠ b) :
    powS ws (potI (lapM N ws) N a b) = potI (lapM N ws) N a b a * minI (lapM N ws) N b := by
  rw [pow_flow h, sumN_ext N (fun v hv => by rw [kirchhoff h h2 hN a b v ha hb hv hab]), sumN_two a b hab N ha hb (fun k _ h1 h2' => by rw [if_neg h1, if_neg h2', Int.mul_zero]), if_pos rfl]
  have e : potI (lapM N ws) N a b b = 0 := by unfold potI; rw [if_pos rfl]
  rw [e, Int.zero_mul]; omega
/-- Another potential at one node: the power is more by the square of the difference times the weight at the node, if nothing flows off there. -/
theorem pow_shift {N : Nat} {ws : List W3} (h : WiresV N ws) (hN : N ≤ 5) (P : Nat → Int) (u : Nat) (hu : u < N) (t : Int) :
    powS ws (fun v => if v = u then P v + t else P v) = powS ws P + 2 * t * sumN (fun w => wBtw ws (u : Int) (w : Int) * (P u - P w)) N + t * t * wAt ws (u : Int) := by
  have key : ∀ l : List W3, (∀ e ∈ l, wireV N e) → powS l (fun v => if v = u then P v + t else P v) = powS l P + 2 * t * sumN (fun w => (l.map (cJ u w)).sum * (P u - P w)) N + t * t * sumN (fun w => (l.map (cJ u w)).sum) N := fun l => by
    induction l with
    | nil =>
      intro _
      rw [sumN_zero N (fun w _ => by show (0 : Int) * _ = 0; rw [Int.zero_mul]), sumN_zero (f := fun w => (List.map (cJ u w) []).sum) N (fun w _ => rfl)]
      simp [powS]
    | cons e r ih =>
      intro hr
      have ih := ih (fun x hx => hr x (by simp [hx]))
      obtain ⟨v1, v2, v3, v4, v5⟩ := hr e (by simp)
      obtain ⟨a, ha⟩ : ∃ a : Nat, e.1 = a := ⟨e.1.toNat, by omega⟩
      obtain ⟨b, hb⟩ : ∃ b : Nat, e.2.1 = b := ⟨e.2.1.toNat, by omega⟩
      have hbN : b < N := by omega
      have s1 : sumN (fun w => ((e :: r).map (cJ u w)).sum * (P u - P w)) N = sumN (fun w => cJ u w e * (P u - P w)) N + sumN (fun w => (r.map (cJ u w)).sum * (P u - P w)) N := by
        rw [← sumN_add]; exact sumN_ext N fun w _ => by show (cJ u w e + (r.map (cJ u w)).sum) * _ = _; rw [Int.add_mul]
      have s2 : sumN (fun w => ((e :: r).map (cJ u w)).sum) N = sumN (fun w => cJ u w e) N + sumN (fun w => (r.map (cJ u w)).sum) N := by
        rw [← sumN_add]; exact sumN_ext N fun w _ => rfl
      have pe : powE (fun v => if v = u then P v + t else P v) e = powE P e + 2 * t * sumN (fun w => cJ u w e * (P u - P w)) N + t * t * sumN (fun w => cJ u w e) N := by
        by_cases hua : u = a
        · subst hua
          have z : ∀ w, w ≠ b → cJ u w e = 0 := fun w hw => by unfold cJ; rw [if_neg]; rintro ⟨h1, h2, h3⟩; omega
          have o : cJ u b e = e.2.2 := by unfold cJ; rw [if_pos]; exact ⟨by omega, by omega, by omega⟩
          rw [sumN_one b N hbN (fun w _ hw => by rw [z w hw, Int.zero_mul]), sumN_one b N hbN (fun w _ hw => z w hw), o]
          unfold powE
          rw [ha, hb, Int.toNat_natCast, Int.toNat_natCast]
          simp only [if_true]
          rw [if_neg (by omega)]
          grind
        · by_cases hub : u = b
          · subst hub
            have z : ∀ w, w ≠ a → cJ u w e = 0 := fun w hw => by unfold cJ; rw [if_neg]; rintro ⟨h1, h2, h3⟩; omega
            have o : cJ u a e = e.2.2 := by unfold cJ; rw [if_pos]; exact ⟨by omega, by omega, by omega⟩
            rw [sumN_one a N (by omega) (fun w _ hw => by rw [z w hw, Int.zero_mul]), sumN_one a N (by omega) (fun w _ hw => z w hw), o]
            unfold powE
            rw [ha, hb, Int.toNat_natCast, Int.toNat_natCast]
            simp only [if_true]
            rw [if_neg (by omega)]
            grind
          · have z : ∀ w, cJ u w e = 0 := fun w => by unfold cJ; rw [if_neg]; rintro ⟨h1, h2, h3⟩; omega
            rw [sumN_zero N (fun w _ => by rw [z w, Int.zero_mul]), sumN_zero N (fun w _ => z w)]
            unfold powE
            rw [ha, hb, Int.toNat_natCast, Int.toNat_natCast]
            have na : ¬ a = u := Ne.symm hua
            have nb : ¬ b = u := Ne.symm hub
            simp only [if_neg na, if_neg nb]
            omega
      show powE (fun v => if v = u then P v + t else P v) e + powS r (fun v => if v = u then P v + t else P v) = powE P e + powS r P + _ + _
      rw [pe, ih, s1, s2]
      grind
  rw [key ws (fun e he => h.mem he), wAt_sum h hN u hu, sumN_ext N (fun w _ => by rw [← wBtw_cJ h u w]), sumN_ext (f := fun w => (ws.map (cJ u w)).sum) N (fun w _ => (wBtw_cJ h u w).symm)]

/-! ### a bound that hangs on the entries -/
def fac : Nat → Int
  | 0 => 1
  | n + 1 => ((n + 1 : Nat) : Int) * fac n
def pow (E : Int) : Nat → Int
  | 0 => 1
  | n + 1 => E * pow E n
theorem fac_pos (n : Nat) : 0 < fac n := by
  induction n with
  | zero => decide
  | succ n ih => unfold fac; exact Int.mul_pos (by omega) ih
theorem pow_pos {E : Int} (hE : 0 ≤ E) (n : Nat) : 0 ≤ pow E n := by
  induction n with
  | zero => show (0 : Int) ≤ 1; decide
  | succ n ih => unfold pow; exact Int.mul_nonneg hE ih
theorem detD_leE {m : MatI} {E : Int} (hE : 0 ≤ E) (hm : ∀ r c, -E ≤ at2 m r c ∧ at2 m r c ≤ E) : ∀ (rows cols : List Int), rows.length = cols.length → -(fac rows.length * pow E rows.length) ≤ detD m rows cols ∧ detD m rows cols ≤ fac rows.length * pow E rows.length
  | [], _, _ => by simp [detD, fac, pow]
  | r :: rs, cols, hl => by
    simp only [List.length_cons] at hl
    have hf : ∀ q : List Int, q.length = rs.length → -(fac rs.length * pow E rs.length) ≤ detD m rs q ∧ detD m rs q ≤ fac rs.length * pow E rs.length := fun q hq => detD_leE hE hm rs q hq.symm
    have key : ∀ k, k ≤ cols.length → -(k * (E * (fac rs.length * pow E rs.length))) ≤ detP m (detD m rs) r cols k ∧ detP m (detD m rs) r cols k ≤ k * (E * (fac rs.length * pow E rs.length)) := by
      intro k
      induction k with
      | zero => intro _; simp [detP]
      | succ k ih =>
        intro hk
        have ih := ih (by omega)
        have h1 : -E ≤ sgn k * at2 m r (cols.getD k 0) ∧ sgn k * at2 m r (cols.getD k 0) ≤ E := by
          have := hm r (cols.getD k 0)
          rcases sgn_cases k with e | e <;> rw [e] <;> omega
        have h2 := hf (cols.eraseIdx k) (by rw [List.length_eraseIdx, if_pos (by omega)]; omega)
        have h3 := mul_le2 h1 h2
        have e : ((k + 1 : Nat) : Int) * (E * (fac rs.length * pow E rs.length)) = k * (E * (fac rs.length * pow E rs.length)) + E * (fac rs.length * pow E rs.length) := by
          rw [Int.natCast_add, Int.add_mul]; simp
        unfold detP
        rw [e]
        omega
    have h := key cols.length (Nat.le_refl _)
    have e : fac (rs.length + 1) * pow E (rs.length + 1) = (cols.length : Int) * (E * (fac rs.length * pow E rs.length)) := by
      show ((rs.length + 1 : Nat) : Int) * fac rs.length * (E * pow E rs.length) = _
      rw [hl]; grind
    show -(fac (rs.length + 1) * pow E (rs.length + 1)) ≤ detP m (detD m rs) r cols cols.length ∧ detP m (detD m rs) r cols cols.length ≤ fac (rs.length + 1) * pow E (rs.length + 1)
    rw [e]
    exact h
end Go.Proofs.Ytnbbmpilpeakiaa
