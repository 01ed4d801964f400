/-
  Ahead of DropNode in the program: what its map lists.
-/
import Derived.Test.YtpkddaapffamiaaGRenum
import Derived.Test.YtpkddaapffamiaaDropSpec
import Derived.Test.YtpkddaapffamiaaDivided
namespace Go.Proofs.Ytpkddaapffamiaa
open Go.RowKit Go.Maps

theorem held_pos {N : Nat} {ws : List W3} (h : WiresV N ws) (hN : N ≤ 5) (v : Nat) (hv : v < N) (h2 : (nearK ws (v : Int) N).length ≤ 2) (h1 : 1 ≤ wAt ws (v : Int)) : ∀ e ∈ heldW ws (v : Int) (wAt ws (v : Int)) (nearK ws (v : Int) N), 1 ≤ e.2.2 := by
  have hw := wAt_le h (by omega) (v : Int) (by omega) (by omega)
  have hn := fun b hb => nearK_mem (ws := ws) (v := (v : Int)) (k := N) (u := b) hb
  have hp := pairW h
  have base : ∀ e ∈ stayW ws (v : Int) (wAt ws (v : Int)), 1 ≤ e.2.2 := fun e he => by
    obtain ⟨t, ht, rfl⟩ := List.mem_map.1 he
    obtain ⟨a, b, c, d, f⟩ := h.mem (List.mem_filter.1 ht).1
    have := Int.mul_le_mul d h1 (by omega) (by omega : (0 : Int) ≤ t.2.2)
    show 1 ≤ t.2.2 * _
    omega
  have base2 : ∀ e ∈ stayW ws (v : Int) (wAt ws (v : Int)), 0 ≤ e.1 ∧ e.1 < e.2.1 ∧ e.2.1 < (N : Int) ∧ 0 ≤ e.2.2 ∧ e.2.2 ≤ 160000 := fun e he => stay_mem h hw.1 hw.2 he
  generalize nearK ws (v : Int) N = l at *
  intro e he
  match l, h2 with
  | [], _ => exact base e he
  | [a], _ => exact base e he
  | [a, b], _ =>
    have ha := (hn a (by simp)).2.2
    have hb := (hn b (by simp)).2.2
    have wa := (wBtw_le h (v : Int) a).2
    have wb := (wBtw_le h (v : Int) b).2
    have hm : 1 ≤ wBtw ws (v : Int) a * wBtw ws (v : Int) b := by
      have := Int.mul_le_mul (show 1 ≤ wBtw ws (v : Int) a by omega) (show 1 ≤ wBtw ws (v : Int) b by omega) (by omega) (by omega : 0 ≤ wBtw ws (v : Int) a)
      omega
    have hm2 : wBtw ws (v : Int) a * wBtw ws (v : Int) b ≤ 40000 := by
      have h1 := Int.mul_le_mul wa wb (by omega) (by omega : (0 : Int) ≤ 200)
      omega
    have hS : Srt 160000 (stayW ws (v : Int) (wAt ws (v : Int))) := ⟨stay_sorted _ _ hp, fun t ht => by have := base2 t ht; omega⟩
    have hsum := sumW_le hS (by omega) (by omega) a b _ (show 0 ≤ wBtw ws (v : Int) a * wBtw ws (v : Int) b by omega) (by omega)
    unfold heldW put3 at he
    rcases (mem_insW _ _ _).1 he with rfl | he
    · show 1 ≤ sumW _ _ _ _ true; omega
    · exact base e (List.mem_filter.1 he).1
theorem near_ne {N : Nat} {ws : List W3} {v : Int} : ∀ b ∈ nearK ws v N, b ≠ v := fun b hb e => by
  subst e
  have := (nearK_mem hb).2.2
  unfold wBtw at this
  rw [if_pos rfl] at this
  omega
/-- Nothing is left out of the model's list. -/
theorem mesh_drop {N : Nat} {ws : List W3} (h : WiresV N ws) (hN : N ≤ 5) (v : Nat) (hv : v < N) (h2 : (nearK ws (v : Int) N).length ≤ 2) (h1 : 1 ≤ wAt ws (v : Int)) : dropZ (meshR N ws v) = meshR N ws v := by
  have hp := held_pos h hN v hv h2 h1
  rw [mesh_held h v h2, specM_ren _ _ (held_sorted (pairW h)) (held_off near_ne)]
  refine List.filter_eq_self.2 fun e he => ?_
  obtain ⟨t, ht, rfl⟩ := List.mem_map.1 he
  have := hp t ht
  show ((t.2.2 != 0) = true)
  simp; omega
theorem redR_with {n e s : Int} {ws : List W3} (h : dropZ ws = ws) : redR n e s ws = withR n e (s.tdiv (gAll s ws)) (ws.map (divW (gAll s ws))) := by
  unfold redR withR; rw [h]
theorem lists_put2 {ws : List W3} (hp : ws.Pairwise wLt) : Lists (fAll ws) ws :=
  ⟨hp, fun x y c _ _ => by have := fAll_mem hp ws.length (Nat.le_refl _) x y c; rw [List.take_length] at this; exact this⟩
theorem held_lists {N : Nat} {ws : List W3} (h : WiresV N ws) (hN : N ≤ 5) (v : Nat) {a b : Int} (hl : nearK ws (v : Int) N = [a, b]) : Lists (add2 (fAll (stayW ws (v : Int) (wAt ws (v : Int)))) a b (wBtw ws (v : Int) a * wBtw ws (v : Int) b)) (heldW ws (v : Int) (wAt ws (v : Int)) (nearK ws (v : Int) N)) := by
  have hn := fun b hb => nearK_mem (ws := ws) (v := (v : Int)) (k := N) (u := b) hb
  rw [hl] at hn ⊢
  have ha := hn a (by simp)
  have hb := hn b (by simp)
  have wa := (wBtw_le h (v : Int) a)
  have wb := (wBtw_le h (v : Int) b)
  have hm0 : 0 ≤ wBtw ws (v : Int) a * wBtw ws (v : Int) b := Int.mul_nonneg wa.1 wb.1
  have hm2 : wBtw ws (v : Int) a * wBtw ws (v : Int) b ≤ 40000 := by
    have h1 := Int.mul_le_mul wa.2 wb.2 (by omega) (by omega : (0 : Int) ≤ 200)
    omega
  exact (lists_put2 (stay_sorted _ _ (pairW h))).add (wf_of (by omega) (by omega)) (wf_of (by omega) (by omega)) (wf_of (by omega) (by omega))
theorem fAll_last (l : List W3) (x y z : Int) : fAll (l ++ [(x, y, z)]) = put2 (fAll l) x y z := by unfold fAll; rw [List.foldl_append]; rfl
theorem below_drew (w : World) : Below w.heap.size w w.drew := (Below.refl _ _).drew
theorem six_mk {w : World} {B G : Nat} {w0 : World} {a0 a1 a2 a3 a4 a5 : Addr} {v0 v1 v2 v3 v4 v5 : Value} (h0 : w.cell? a0 = some v0) (h1 : w.cell? a1 = some v1) (h2 : w.cell? a2 = some v2) (h3 : w.cell? a3 = some v3) (h4 : w.cell? a4 = some v4) (h5 : w.cell? a5 = some v5) (h6 : G ≤ w.heap.size) (h7 : B ≤ G) (h8 : Below B w0 w) : w.cell? a0 = some v0 ∧ w.cell? a1 = some v1 ∧ w.cell? a2 = some v2 ∧ w.cell? a3 = some v3 ∧ w.cell? a4 = some v4 ∧ w.cell? a5 = some v5 ∧ G ≤ w.heap.size ∧ B ≤ G ∧ Below B w0 w := ⟨h0, h1, h2, h3, h4, h5, h6, h7, h8⟩
end Go.Proofs.Ytpkddaapffamiaa
