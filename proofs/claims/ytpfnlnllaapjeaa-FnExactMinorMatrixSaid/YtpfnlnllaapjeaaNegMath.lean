/-
  Minors of the negative elements of a matrix, as MinorMatrix takes them.
-/
import Derived.Test.YtpfnlnllaapjeaaWtMath
import Derived.Test.YtpfnlnllaapjeaaRimMath
import Derived.Test.YtpfnlnllaapjeaaGMat
namespace Go.Proofs.Ytpfnlnllaapjeaa
open Go.RowKit

def negRow (m : MatI) (q : List Int) (a : Int) (t : Nat) : List Int := (q.take t).map fun b => -at2 m a b
def negTop (m : MatI) (p q : List Int) (s : Nat) : MatI := (p.take s).map fun a => q.map fun b => -at2 m a b
def negM (m : MatI) (p q : List Int) : MatI := p.map fun a => q.map fun b => -at2 m a b
theorem negRow_snoc {m : MatI} {q : List Int} (a : Int) {t : Nat} (h : t < q.length) : negRow m q a (t + 1) = negRow m q a t ++ [-at2 m a q[t]] := by
  unfold negRow; rw [List.take_succ_eq_append_getElem h, List.map_append]; rfl
theorem negRow_length (m : MatI) (q : List Int) (a : Int) {t : Nat} (h : t ≤ q.length) : (negRow m q a t).length = t := by simp [negRow]; omega
theorem negRow_all (m : MatI) (q : List Int) (a : Int) : negRow m q a q.length = q.map fun b => -at2 m a b := by unfold negRow; rw [List.take_length]
theorem negTop_snoc {m : MatI} {p : List Int} (q : List Int) {s : Nat} (h : s < p.length) : negTop m p q (s + 1) = negTop m p q s ++ [negRow m q p[s] q.length] := by
  rw [negRow_all]; unfold negTop; rw [List.take_succ_eq_append_getElem h, List.map_append]; rfl
theorem negTop_length (m : MatI) (p q : List Int) {s : Nat} (h : s ≤ p.length) : (negTop m p q s).length = s := by simp [negTop]; omega
theorem negTop_all (m : MatI) (p q : List Int) : negTop m p q p.length = negM m p q := by unfold negTop negM; rw [List.take_length]
theorem negM_length (m : MatI) (p q : List Int) : (negM m p q).length = p.length := by simp [negM]
theorem at2_el {m : MatI} {a b : Nat} : at2 m (a : Int) (b : Int) = elI m a b := by unfold at2 elI rowI; simp
theorem negM_matV {m : MatI} (hv : matV m) {p q : List Int} (h5 : p.length ≤ 5) (hl : p.length = q.length) : matV (negM m p q) := by
  refine ⟨by rw [negM_length]; exact h5, fun k hk => ?_⟩
  rw [negM_length]
  simp only [negM, List.getElem_map]
  refine ⟨by simp [hl], fun j hj => ?_⟩
  simp only [List.getElem_map]
  have hkp : k < p.length := by rw [negM_length] at hk; exact hk
  have hjq : j < q.length := by simpa using hj
  have := at2_le hv p[k] q[j]
  omega
/-- What MinorMatrix answers where it answers. -/
def negD (m : MatI) (p q : List Int) : Int := if p.length % 2 = 1 then -detD m p q else detD m p q
theorem neg_det {m : MatI} {p q : List Int} (hl : p.length = q.length) (h0 : p.length ≠ 0) (h2 : p.length ≤ 2) : detD (negM m p q) (upTo p.length) (upTo p.length) = negD m p q := by
  match p, q, hl, h0, h2 with
  | [a], [c], _, _, _ =>
    show detD [[-at2 m a c]] [0] [0] = -detD m [a] [c]
    simp [detD, detP, sgn, at2]
  | [a, b], [c, d], _, _, _ =>
    have e1 : negM m [a, b] [c, d] = [[-at2 m a c, -at2 m a d], [-at2 m b c, -at2 m b d]] := rfl
    have e2 : upTo [a, b].length = [0, 1] := show upTo 2 = [0, 1] by decide
    have e3 : negD m [a, b] [c, d] = detD m [a, b] [c, d] := by simp [negD]
    rw [e1, e2, e3]
    have f : ∀ (M : MatI) (r s x y : Int), detD M [r, s] [x, y] = at2 M r x * at2 M s y - at2 M r y * at2 M s x := fun M r s x y => by
      simp [detD, detP, sgn]
      rw [Int.sub_eq_add_neg, Int.neg_mul]
    rw [f, f]
    have g1 : at2 [[-at2 m a c, -at2 m a d], [-at2 m b c, -at2 m b d]] 0 0 = -at2 m a c := rfl
    have g2 : at2 [[-at2 m a c, -at2 m a d], [-at2 m b c, -at2 m b d]] 0 1 = -at2 m a d := rfl
    have g3 : at2 [[-at2 m a c, -at2 m a d], [-at2 m b c, -at2 m b d]] 1 0 = -at2 m b c := rfl
    have g4 : at2 [[-at2 m a c, -at2 m a d], [-at2 m b c, -at2 m b d]] 1 1 = -at2 m b d := rfl
    rw [g1, g2, g3, g4]
    simp only [Int.neg_mul_neg]
noncomputable def mmR (m : MatI) (p q : List Int) : Int × Bool := if isWB m = true ∧ circB m.length p q = true then (negD m p q, true) else (0, false)
theorem mmR_no {m : MatI} {p q : List Int} (h : ¬ (isWB m = true ∧ circB m.length p q = true)) : mmR m p q = (0, false) := by unfold mmR; rw [if_neg h]
theorem mmR_yes {m : MatI} {p q : List Int} (h1 : isWB m = true) (h2 : circB m.length p q = true) : mmR m p q = (negD m p q, true) := by unfold mmR; rw [if_pos ⟨h1, h2⟩]
theorem circ_parts {N : Nat} {p q : List Int} (h : circB (N : Int) p q = true) : p.length = q.length ∧ p.length ≠ 0 ∧ p.length ≤ 2 ∧ (∀ x ∈ p, 0 ≤ x ∧ x < (N : Int)) ∧ (∀ x ∈ q, 0 ≤ x ∧ x < (N : Int)) := by
  obtain ⟨h1, h5, hl, h0, hv, -⟩ := circB_iff.1 h
  rw [Int.toNat_natCast] at hv
  have h3 := lin_len hv
  rw [rim_length] at h3
  refine ⟨hl, h0, by omega, fun x hx => hv.1 x (by unfold rimL; simp [hx]), fun x hx => hv.1 x (by unfold rimL; simp [hx])⟩
end Go.Proofs.Ytpfnlnllaapjeaa
