/-
  Networks with other weights: what makes them valid, and the weight of one wire by PutWire.
-/
import Derived.Test.YtaececpphdaciaaFaultMath
namespace Go.Proofs.Ytaececpphdaciaa
open Go.RowKit

/-- A network stays valid with other weights from 1 to 200. -/
theorem netB_weights {n e s : Int} {ws vs : List W3} (hb : netB n e s ws = true) (hl : vs.length = ws.length) (h : ∀ k, (h1 : k < vs.length) → (h2 : k < ws.length) → vs[k].1 = ws[k].1 ∧ vs[k].2.1 = ws[k].2.1 ∧ 1 ≤ vs[k].2.2 ∧ vs[k].2.2 ≤ 200) : netB n e s vs = true := by
  obtain ⟨hN, ⟨hw, hs⟩, hC⟩ := netB_iff.1 hb
  refine netB_iff.2 ⟨hN, ⟨fun k hk => ?_, fun k hk => ?_⟩, fun v h0 h1 S hS0 hS => ?_⟩
  · obtain ⟨a, b, c, d⟩ := h k hk (by omega)
    have hv := hw k (by omega)
    unfold wireV at hv ⊢
    omega
  · obtain ⟨a, b, -⟩ := h k (by omega) (by omega)
    obtain ⟨a', b', -⟩ := h (k + 1) hk (by omega)
    have hv := hs k (by omega)
    unfold wLt at hv ⊢
    omega
  · refine hC v h0 h1 S hS0 fun t ht => ?_
    obtain ⟨k, hk, rfl⟩ := List.mem_iff_getElem.1 ht
    obtain ⟨a, b, -⟩ := h k (by omega) hk
    rw [← a, ← b]
    exact hS _ (List.getElem_mem _)
theorem fltW_get (ws : List W3) (j : Nat) (x : Int) (k : Nat) (h1 : k < (fltW ws j x).length) (h2 : k < ws.length) : (fltW ws j x)[k].1 = ws[k].1 ∧ (fltW ws j x)[k].2.1 = ws[k].2.1 ∧ (fltW ws j x)[k].2.2 = if k = j then x else ws[k].2.2 := by
  unfold fltW
  by_cases h : k = j
  · subst h
    simp [List.getElem_set_self, List.getD_eq_getElem?_getD, List.getElem?_eq_getElem h2]
  · rw [if_neg h]
    simp [List.getElem_set_ne (Ne.symm h)]
theorem netB_flt {n e s : Int} {ws : List W3} {j : Nat} {x : Int} (hb : netB n e s ws = true) (h1 : 1 ≤ x) (h2 : x ≤ 200) : netB n e s (fltW ws j x) = true := by
  refine netB_weights hb (by simp [fltW]) fun k hk hk2 => ?_
  obtain ⟨a, b, c⟩ := fltW_get ws j x k hk hk2
  have hv := (netB_iff.1 hb).2.1.1 k hk2
  unfold wireV at hv
  refine ⟨a, b, ?_⟩
  rw [c]
  split <;> omega
theorem dropZ_same {ws : List W3} (h : ∀ e ∈ ws, e.2.2 ≠ 0) : dropZ ws = ws := by
  unfold dropZ
  exact List.filter_eq_self.2 fun e he => by simpa using h e he
theorem dropZ_valid {n e s : Int} {ws : List W3} (hb : netB n e s ws = true) : dropZ ws = ws :=
  dropZ_same fun t ht => by
    have := (netB_iff.1 hb).2.1.mem ht
    unfold wireV at this
    omega
/-- PutWire at the ends of a wire. -/
theorem put_wire {n e s x : Int} {j : Nat} {ws : List W3} (hb : netB n e s ws = true) (hk : j < ws.length) (h0 : 0 ≤ x) (h2 : x ≤ 200) :
    putR n e s ws[j].1 ws[j].2.1 x ws = withR n e s (dropZ (fltW ws j x)) := by
  have hV := netB_iff.1 hb
  have hwv := hV.2.1.1 j hk
  unfold wireV at hwv
  rw [putR_yes hb (by unfold PutOk; omega)]
  have hmin : min ws[j].1 ws[j].2.1 = ws[j].1 := by omega
  have hmax : max ws[j].1 ws[j].2.1 = ws[j].2.1 := by omega
  have hg : ws.getD j (0, 0, 0) = ws[j] := by rw [List.getD_eq_getElem?_getD, List.getElem?_eq_getElem hk]; rfl
  rw [hmin, hmax]
  unfold put3 fltW
  rw [sumW_no, put_set ws j x hV.2.1.pairwise hk, hg]
theorem put_more {n e s x : Int} {j : Nat} {ws : List W3} (hb : netB n e s ws = true) (hk : j < ws.length) (h0 : 1 ≤ x) (h2 : x ≤ 200) :
    putR n e s ws[j].1 ws[j].2.1 x ws = (n, e, s, fltW ws j x, true) := by
  rw [put_wire hb hk (by omega) h2, dropZ_valid (netB_flt hb h0 h2), withR_yes (netB_flt hb h0 h2)]
end Go.Proofs.Ytaececpphdaciaa
