/-
  A fault: the weight of one wire is another one.
-/
import Derived.Test.YtaececpphdaciaaPutWireSpec
import Derived.Test.YtaececpphdaciaaGPut
namespace Go.Proofs.Ytaececpphdaciaa
open Go.RowKit

/-- The wire i has the weight x. -/
def fltW (ws : List W3) (i : Nat) (x : Int) : List W3 := ws.set i ((ws.getD i (0, 0, 0)).1, (ws.getD i (0, 0, 0)).2.1, x)
theorem rest_far : ∀ (ws : List W3) (lo hi : Int), (∀ t ∈ ws, ¬ (t.1 = lo ∧ t.2.1 = hi)) → restW ws lo hi = ws
  | [], _, _, _ => rfl
  | e :: r, lo, hi, h => by
    unfold restW
    rw [List.filter_cons_of_pos (by
      have := h e (by simp)
      simp only [atEnds, Bool.not_eq_true', Bool.and_eq_false_iff, beq_eq_false_iff_ne]
      by_cases c : e.1 = lo
      · exact .inr fun d => this ⟨c, d⟩
      · exact .inl c)]
    exact congrArg _ (rest_far r lo hi (fun t ht => h t (by simp [ht])))
theorem wLt_ne {a b : W3} (h : wLt a b) : ¬ (b.1 = a.1 ∧ b.2.1 = a.2.1) := by unfold wLt at h; omega
theorem put_set : ∀ (ws : List W3) (i : Nat) (x : Int), ws.Pairwise wLt → (h : i < ws.length) → insW (ws[i].1, ws[i].2.1, x) (restW ws ws[i].1 ws[i].2.1) = ws.set i (ws[i].1, ws[i].2.1, x)
  | [], i, _, _, h => by simp at h
  | e :: r, 0, x, hp, _ => by
    rw [List.pairwise_cons] at hp
    have h1 : restW (e :: r) e.1 e.2.1 = restW r e.1 e.2.1 := by
      unfold restW; rw [List.filter_cons_of_neg (by simp [atEnds])]
    have h2 := rest_far r e.1 e.2.1 (fun t ht => wLt_ne (hp.1 t ht))
    simp only [List.getElem_cons_zero, List.set_cons_zero]
    rw [h1, h2]
    cases r with
    | nil => rfl
    | cons f r =>
      unfold insW
      rw [if_pos (by have := hp.1 f (by simp); unfold wLt at *; simpa using this)]
  | e :: r, i + 1, x, hp, h => by
    rw [List.pairwise_cons] at hp
    have hi : i < r.length := by simpa using h
    have ih := put_set r i x hp.2 hi
    have hlt := hp.1 r[i] (List.getElem_mem hi)
    simp only [List.getElem_cons_succ, List.set_cons_succ]
    have h1 : restW (e :: r) r[i].1 r[i].2.1 = e :: restW r r[i].1 r[i].2.1 := by
      unfold restW
      rw [List.filter_cons_of_pos (by
        unfold wLt at hlt
        simp only [atEnds, Bool.not_eq_true', Bool.and_eq_false_iff, beq_eq_false_iff_ne]
        omega)]
    rw [h1]
    unfold insW
    rw [if_neg (by unfold wLt at *; simp only; omega), ih]
/-- What ApplyFault answers. -/
def FaultOk (i x : Int) (ws : List W3) : Prop := (0 ≤ i ∧ i < ws.length) ∧ (0 ≤ x ∧ x ≤ 12) ∧ (ws.getD i.toNat (0, 0, 0)).2.2 ≠ x
noncomputable instance (i x : Int) (ws : List W3) : Decidable (FaultOk i x ws) := by unfold FaultOk; infer_instance
noncomputable def faultR (n e s i x : Int) (ws : List W3) : Int × Int × Int × List W3 × Bool :=
  if netB n e s ws = true ∧ FaultOk i x ws then withR n e s (dropZ (fltW ws i.toNat x)) else (0, 0, 0, [], false)
theorem faultR_yes {n e s i x : Int} {ws : List W3} (h : netB n e s ws = true) (h1 : FaultOk i x ws) : faultR n e s i x ws = withR n e s (dropZ (fltW ws i.toNat x)) := if_pos ⟨h, h1⟩
theorem faultR_no {n e s i x : Int} {ws : List W3} (h : ¬ (netB n e s ws = true ∧ FaultOk i x ws)) : faultR n e s i x ws = (0, 0, 0, [], false) := if_neg h
theorem faultR_len (n e s i x : Int) (ws : List W3) : (faultR n e s i x ws).2.2.2.1.length ≤ 25 := by
  by_cases h : netB n e s ws = true ∧ FaultOk i x ws
  · rw [faultR_yes h.1 h.2]; exact withR_len
  · rw [faultR_no h]; simp
/-- By PutWire it is the same. -/
theorem fault_put {n e s i x : Int} {ws : List W3} (hi : 0 ≤ i ∧ i < ws.length) (hx : x ≤ 12) (hw : (ws.getD i.toNat (0, 0, 0)).2.2 ≠ x) :
    putR n e s (ws.getD i.toNat (0, 0, 0)).1 (ws.getD i.toNat (0, 0, 0)).2.1 x ws = faultR n e s i x ws := by
  by_cases hb : netB n e s ws = true
  case neg => rw [putR_no (fun h => hb h.1), faultR_no (fun h => hb h.1)]
  by_cases h0 : 0 ≤ x
  case neg => rw [putR_no (fun h => h0 h.2.2.2.2.1), faultR_no (fun h => h0 h.2.2.1.1)]
  have hk : i.toNat < ws.length := by omega
  have hg : ws.getD i.toNat (0, 0, 0) = ws[i.toNat] := by rw [List.getD_eq_getElem?_getD, List.getElem?_eq_getElem hk]; rfl
  have hV := netB_iff.1 hb
  have hwv := hV.2.1.1 i.toNat hk
  unfold wireV at hwv
  rw [faultR_yes hb ⟨hi, ⟨h0, hx⟩, hw⟩, putR_yes hb (by rw [hg]; unfold PutOk; omega)]
  have hmin : min (ws.getD i.toNat (0, 0, 0)).1 (ws.getD i.toNat (0, 0, 0)).2.1 = ws[i.toNat].1 := by rw [hg]; omega
  have hmax : max (ws.getD i.toNat (0, 0, 0)).1 (ws.getD i.toNat (0, 0, 0)).2.1 = ws[i.toNat].2.1 := by rw [hg]; omega
  rw [hmin, hmax]
  unfold put3 fltW
  rw [sumW_no, put_set ws i.toNat x hV.2.1.pairwise hk, hg]
end Go.Proofs.Ytaececpphdaciaa
