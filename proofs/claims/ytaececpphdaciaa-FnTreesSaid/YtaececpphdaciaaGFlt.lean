/-
  A fault: the weight of one wire is another one.
  Networks with other weights: what makes them valid, and the weight of one wire by PutWire.
-/
import Derived.Test.YtaececpphdaciaaPutWireSpec
import Derived.Test.YtaececpphdaciaaGPut
namespace Go.Proofs.Ytaececpphdaciaa
open Go.RowKit

/-- The wire i has the weight x. -/
def fltW (ws : List W3) (i : Nat) (x : Int) : List W3 := ws.set i ((ws.getD i (0, 0, 0)).1, (ws.getD i (0, 0, 0)).2.1, x)
theorem rest_far : ∀ (ws : List W3) (lo hi : Int), (∀ t ∈ ws, ¬ (t.1 = lo ∧ t.2.1 = hi)) → restW ws lo hi = ws
  | [], _, _, _ => rfl
  | e :: r, lo, hi, h => by
    unfold restW
    rw [List.filter_cons_of_pos (by
      have := h e (by simp)
      simp only [atEnds, Bool.not_eq_true', Bool.and_eq_false_iff, beq_eq_false_iff_ne]
      by_cases c : e.1 = lo
      · exact .inr fun d => this ⟨c, d⟩
      · exact .inl c)]
    exact congrArg _ (rest_far r lo hi (fun t ht => h t (by simp [ht])))
theorem wLt_ne {a b : W3} (h : wLt a b) : ¬ (b.1 = a.1 ∧ b.2.1 = a.2.1) := by unfold wLt at h; omega
theorem put_set : ∀ (ws : List W3) (i : Nat) (x : Int), ws.Pairwise wLt → (h : i < ws.length) → insW (ws[i].1, ws[i].2.1, x) (restW ws ws[i].1 ws[i].2.1) = ws.set i (ws[i].1, ws[i].2.1, x)
  | [], i, _, _, h => by simp at h
  | e :: r, 0, x, hp, _ => by
    rw [List.pairwise_cons] at hp
    have h1 : restW (e :: r) e.1 e.2.1 = restW r e.1 e.2.1 := by
      unfold restW; rw [List.filter_cons_of_neg (by simp [atEnds])]
    have h2 := rest_far r e.1 e.2.1 (fun t ht => wLt_ne (hp.1 t ht))
    simp only [List.getElem_cons_zero, List.set_cons_zero]
    rw [h1, h2]
    cases r with
    | nil => rfl
    | cons f r =>
      unfold insW
      rw [if_pos (by have := hp.1 f (by simp); unfold wLt at *; simpa using this)]
  | e :: r, i + 1, x, hp, h => by
    rw [List.pairwise_cons] at hp
    have hi : i < r.length := by simpa using h
    have ih := put_set r i x hp.2 hi
    have hlt := hp.1 r[i] (List.getElem_mem hi)
    simp only [List.getElem_cons_succ, List.set_cons_succ]
    have h1 : restW (e :: r) r[i].1 r[i].2.1 = e :: restW r r[i].1 r[i].2.1 := by
      unfold restW
      rw [List.filter_cons_of_pos (by
        unfold wLt at hlt
        simp only [atEnds, Bool.not_eq_true', Bool.and_eq_false_iff, beq_eq_false_iff_ne]
        omega)]
    rw [h1]
    unfold insW
    rw [if_neg (by unfold wLt at *; simp only; omega), ih]
/-- What ApplyFault answers. -/
def FaultOk (i x : Int) (ws : List W3) : Prop := (0 ≤ i ∧ i < ws.length) ∧ (0 ≤ x ∧ x ≤ 12) ∧ (ws.getD i.toNat (0, 0, 0)).2.2 ≠ x
noncomputable instance (i x : Int) (ws : List W3) : Decidable (FaultOk i x ws) := by unfold FaultOk; infer_instance
noncomputable def faultR (n e s i x : Int) (ws : List W3) : Int × Int × Int × List W3 × Bool :=
  if netB n e s ws = true ∧ FaultOk i x ws then withR n e s (dropZ (fltW ws i.toNat x)) else (0, 0, 0, [], false)
theorem faultR_yes {n e s i x : Int} {ws : List W3} (h : netB n e s ws = true) (h1 : FaultOk i x ws) : faultR n e s i x ws = withR n e s (dropZ (fltW ws i.toNat x)) := if_pos ⟨h, h1⟩
theorem faultR_no {n e s i x : Int} {ws : List W3} (h : ¬ (netB n e s ws = true ∧ FaultOk i x ws)) : faultR n e s i x ws = (0, 0, 0, [], false) := if_neg h
theorem faultR_len (n e s i x : Int) (ws : List W3) : (faultR n e s i x ws).2.2.2.1.length ≤ 25 := by
  by_cases h : netB n e s ws = true ∧ FaultOk i x ws
  · rw [faultR_yes h.1 h.2]; exact withR_len
  · rw [faultR_no h]; simp
/-- By PutWire it is the same. -/
theorem fault_put {n e s i x : Int} {ws : List W3} (hi : 0 ≤ i ∧ i < ws.length) (hx : x ≤ 12) (hw : (ws.getD i.toNat (0, 0, 0)).2.2 ≠ x) :
    putR n e s (ws.getD i.toNat (0, 0, 0)).1 (ws.getD i.toNat (0, 0, 0)).2.1 x ws = faultR n e s i x ws := by
  by_cases hb : netB n e s ws = true
  case neg => rw [putR_no (fun h => hb h.1), faultR_no (fun h => hb h.1)]
  by_cases h0 : 0 ≤ x
  case neg => rw [putR_no (fun h => h0 h.2.2.2.2.1), faultR_no (fun h => h0 h.2.2.1.1)]
  have hk : i.toNat < ws.length := by omega
  have hg : ws.getD i.toNat (0, 0, 0) = ws[i.toNat] := by rw [List.getD_eq_getElem?_getD, List.getElem?_eq_getElem hk]; rfl
  have hV := netB_iff.1 hb
  have hwv := hV.2.1.1 i.toNat hk
  unfold wireV at hwv
  rw [faultR_yes hb ⟨hi, ⟨h0, hx⟩, hw⟩, putR_yes hb (by rw [hg]; unfold PutOk; omega)]
  have hmin : min (ws.getD i.toNat (0, 0, 0)).1 (ws.getD i.toNat (0, 0, 0)).2.1 = ws[i.toNat].1 := by rw [hg]; omega
  have hmax : max (ws.getD i.toNat (0, 0, 0)).1 (ws.getD i.toNat (0, 0, 0)).2.1 = ws[i.toNat].2.1 := by rw [hg]; omega
  rw [hmin, hmax]
  unfold put3 fltW
  rw [sumW_no, put_set ws i.toNat x hV.2.1.pairwise hk, hg]
end Go.Proofs.Ytaececpphdaciaa

namespace Go.Proofs.Ytaececpphdaciaa
open Go.RowKit

/-- A network stays valid with other weights from 1 to 200. -/
theorem netB_weights {n e s : Int} {ws vs : List W3} (hb : netB n e s ws = true) (hl : vs.length = ws.length) (h : ∀ k, (h1 : k < vs.length) → (h2 : k < ws.length) → vs[k].1 = ws[k].1 ∧ vs[k].2.1 = ws[k].2.1 ∧ 1 ≤ vs[k].2.2 ∧ vs[k].2.2 ≤ 200) : netB n e s vs = true := by
  obtain ⟨hN, ⟨hw, hs⟩, hC⟩ := netB_iff.1 hb
  refine netB_iff.2 ⟨hN, ⟨fun k hk => ?_, fun k hk => ?_⟩, fun v h0 h1 S hS0 hS => ?_⟩
  · obtain ⟨a, b, c, d⟩ := h k hk (by omega)
    have hv := hw k (by omega)
    unfold wireV at hv ⊢
    omega
  · obtain ⟨a, b, -⟩ := h k (by omega) (by omega)
    obtain ⟨a', b', -⟩ := h (k + 1) hk (by omega)
    have hv := hs k (by omega)
    unfold wLt at hv ⊢
    omega
  · refine hC v h0 h1 S hS0 fun t ht => ?_
    obtain ⟨k, hk, rfl⟩ := List.mem_iff_getElem.1 ht
    obtain ⟨a, b, -⟩ := h k (by omega) hk
    rw [← a, ← b]
    exact hS _ (List.getElem_mem _)
theorem fltW_get (ws : List W3) (j : Nat) (x : Int) (k : Nat) (h1 : k < (fltW ws j x).length) (h2 : k < ws.length) : (fltW ws j x)[k].1 = ws[k].1 ∧ (fltW ws j x)[k].2.1 = ws[k].2.1 ∧ (fltW ws j x)[k].2.2 = if k = j then x else ws[k].2.2 := by
  unfold fltW
  by_cases h : k = j
  · subst h
    simp [List.getElem_set_self, List.getD_eq_getElem?_getD, List.getElem?_eq_getElem h2]
  · rw [if_neg h]
    simp [List.getElem_set_ne (Ne.symm h)]
theorem netB_flt {n e s : Int} {ws : List W3} {j : Nat} {x : Int} (hb : netB n e s ws = true) (h1 : 1 ≤ x) (h2 : x ≤ 200) : netB n e s (fltW ws j x) = true := by
  refine netB_weights hb (by simp [fltW]) fun k hk hk2 => ?_
  obtain ⟨a, b, c⟩ := fltW_get ws j x k hk hk2
  have hv := (netB_iff.1 hb).2.1.1 k hk2
  unfold wireV at hv
  refine ⟨a, b, ?_⟩
  rw [c]
  split <;> omega
theorem dropZ_same {ws : List W3} (h : ∀ e ∈ ws, e.2.2 ≠ 0) : dropZ ws = ws := by
  unfold dropZ
  exact List.filter_eq_self.2 fun e he => by simpa using h e he
theorem dropZ_valid {n e s : Int} {ws : List W3} (hb : netB n e s ws = true) : dropZ ws = ws :=
  dropZ_same fun t ht => by
    have := (netB_iff.1 hb).2.1.mem ht
    unfold wireV at this
    omega
/-- PutWire at the ends of a wire. -/
theorem put_wire {n e s x : Int} {j : Nat} {ws : List W3} (hb : netB n e s ws = true) (hk : j < ws.length) (h0 : 0 ≤ x) (h2 : x ≤ 200) :
    putR n e s ws[j].1 ws[j].2.1 x ws = withR n e s (dropZ (fltW ws j x)) := by
  have hV := netB_iff.1 hb
  have hwv := hV.2.1.1 j hk
  unfold wireV at hwv
  rw [putR_yes hb (by unfold PutOk; omega)]
  have hmin : min ws[j].1 ws[j].2.1 = ws[j].1 := by omega
  have hmax : max ws[j].1 ws[j].2.1 = ws[j].2.1 := by omega
  have hg : ws.getD j (0, 0, 0) = ws[j] := by rw [List.getD_eq_getElem?_getD, List.getElem?_eq_getElem hk]; rfl
  rw [hmin, hmax]
  unfold put3 fltW
  rw [sumW_no, put_set ws j x hV.2.1.pairwise hk, hg]
theorem put_more {n e s x : Int} {j : Nat} {ws : List W3} (hb : netB n e s ws = true) (hk : j < ws.length) (h0 : 1 ≤ x) (h2 : x ≤ 200) :
    putR n e s ws[j].1 ws[j].2.1 x ws = (n, e, s, fltW ws j x, true) := by
  rw [put_wire hb hk (by omega) h2, dropZ_valid (netB_flt hb h0 h2), withR_yes (netB_flt hb h0 h2)]
end Go.Proofs.Ytaececpphdaciaa
