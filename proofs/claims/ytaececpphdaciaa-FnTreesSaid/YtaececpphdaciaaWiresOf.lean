/-
  wiresOf: the sorted list of the wires in a map.
-/
import Derived.Test.YtaececpphdaciaaGPair
import Derived.Test.YtaececpphdaciaaWireSort
import Derived.Test.YtaececpphdaciaaCanon
import Derived.Test.YtaececpphdaciaaGNet
namespace Go.Proofs.Ytaececpphdaciaa
open Go.RowKit Go.Maps

theorem below_of_grownW {w w' : World} (h : w.grownBy w' none) : Below w.heap.size w w' := ⟨h.os, h.tape, h.output, h.size, fun i hi => h.block i hi (by simp)⟩
theorem below_grown_new {B : Nat} {a w w' : World} {r : Nat} (hB : Below B a w) (h : w.grownBy w' (some r)) (hb : B ≤ r) (hs : B ≤ w.heap.size) : Below B a w' := hB.grown h hs (fun k hk => by cases hk; exact hb)

set_option maxRecDepth 4000 in
set_option maxHeartbeats 6400000 in
theorem wiresOf_any (b N : Nat) (f : Int → Int → Option Int) (w : World) (hN : N ≤ 1000000) (h : owns2 w b N f) :
    Calls Try.prog 101 #[.map (some b)] w fun en w' => ∃ (p : Option Addr) (cap : Nat) (L : List W3), en = .returned (.slice p L.length cap) ∧ w'.ownsRow w.heap.size 29 3 (.slice p L.length cap) L.length (cellsW L) ∧ Lists f L ∧ (∀ t ∈ L, (Lit.int .i64 t.1).wf = true ∧ (Lit.int .i64 t.2.1).wf = true) ∧ Below w.heap.size w w' := by
  obtain ⟨D, hown, hf⟩ := h
  have hsz := hown.size_le
  have hbl := hown.lt
  have HD := Lib.hid hf; clear hf
  go_enter Try.func101, Try.ntmps101
  go_wp2_with (at_range; refine wpList_range_own _ rfl _ 85 rfl 88 3 pair_law Try.underlying85 _ b N D rfl hown ?_; intro w0 hrg0 hg0 hs0)
  go_frame
  go_loopw [3] (fun s3 wr => ∃ (left : Lit → Bool) (cnt : Nat) (acc : List W3), wr.ranges Try.prog 88 (plainElem Try.prog 3) b w.heap.size N D left cnt ∧ wr.ownsRow (w.heap.size + 1) 29 3 s3 acc.length (cellsW acc) ∧ acc.length + cnt ≤ N ∧ Hid (Got f left acc) ∧ w.heap.size < wr.heap.size ∧ Hid (Below w.heap.size w wr)) (fun _ wr => wr.rangeLeft b w.heap.size)
  case atStart => exact ⟨_, _, [], hrg0, World.ownsRow_nil _ _ _ _, by simpa using hsz, Lib.hid (Got.start HD.out), by omega, Lib.hid (below_of_grownW hg0)⟩
  case round =>
    clear hrg0 hg0 hs0
    obtain ⟨left, cnt, acc, hrg, hown3, hcnt, hgot, hszr, hB⟩ := hrel
    obtain ⟨pv, cv, rfl⟩ := owns_shape hown3
    go_wp2_with (at_next; refine wpList_next_pairs _ rfl _ rfl b w.heap.size N D f HD.out left cnt rfl hrg ?_ ?_)
    · intro hl0
      have hnb := fun j hj => (hown3.lt j hj).1
      go_wp2_with (go_at_call 121; refine (sort_wires _ pv cv acc _ (by omega) hown3).mono ?_; rintro en w2 ⟨rfl, L, hp, hs, ho, hg⟩)
      go_ret
      obtain ⟨hLs, hLw⟩ := hgot.out.done hl0 hp hs
      rw [← hp.length_eq] at ho hg ⊢
      exact ⟨pv, cv, L, rfl, owns_mono ho (by omega), hLs, hLw, hB.out.grown hg (by omega) (fun j hj => by have := hnb j (by rw [← hp.length_eq]; exact hj); omega)⟩
    · intro x y c w1 cnt1 hx hy hc hlx hfx hrg1 hlt hg1 hs1 hen
      have hnb := fun j hj => (hown3.lt j hj).1
      have HNB := Lib.hid hnb
      have own1 := hown3.kept hg1 (ne_own (hi := w.heap.size + 1) hnb (fun k hk => by cases hk; omega))
      have hB1 := below_grown_new hB.out hg1 (Nat.le_refl _) (by omega)
      have HS := Lib.hid (hgot.out.step hx hy hlx hfx)
      have HRG := Lib.hid hrg1
      have HLE := Lib.hid hrg.left_eq
      clear hrg1 hnb hgot hB hg1 hown3 hrg
      go_wp2_with (at_builtin; refine append_wire _ rfl _ _ rfl (w.heap.size + 1) w1 _ acc (x, y, c) rfl (owns_later own1 (by (repeat (first | exact Below.refl _ _ | (refine Below.setCell ?_ (by (first | exact Nat.le_refl _ | omega | (simp <;> omega) | simp)) _) | (refine Below.alloc ?_ (by (first | exact Nat.le_refl _ | omega | (simp <;> omega) | simp)) _) | (refine below_draws ?_ _))))) rfl (by simp; omega) (by omega) (by simp; omega) (by (repeat (first | exact Below.refl _ _ | (refine Below.setCell ?_ (by (first | exact Nat.le_refl _ | omega | (simp <;> omega) | simp)) _) | (refine Below.alloc ?_ (by (first | exact Nat.le_refl _ | omega | (simp <;> omega) | simp)) _) | (refine below_draws ?_ _)))) ?_; intro v' w2 hown2 hsz2 hB2 hG2)
      have hG3 : World.grownBy _ w2 (Value.slice pv acc.length cv).ownBlock := hG2
      have hrg2 := (HRG.out.alloc _).kept hG3 (by intro e; have := HNB.out b e.symm; omega) (by intro e; have := HNB.out _ e.symm; omega)
      simp at hsz2
      refine ⟨⟨_, cnt1, acc ++ [(x, y, c)], hrg2, hown2, by simp; omega, HS, by omega, Lib.hid (by (repeat (first | exact Below.refl _ _ | (refine Below.setCell ?_ (by (first | exact Nat.le_refl _ | omega | (simp <;> omega) | simp)) _) | (refine Below.alloc ?_ (by (first | exact Nat.le_refl _ | omega | (simp <;> omega) | simp)) _) | (refine below_draws ?_ _) | exact hB1 | (refine Below.trans ?_ (Below.mono hB1 (by (first | exact Nat.le_refl _ | omega | (simp <;> omega) | simp)))) | exact hB2 | (refine Below.trans ?_ (Below.mono hB2 (by (first | exact Nat.le_refl _ | omega | (simp <;> omega) | simp)))))))⟩, ?_⟩
      rw [hrg2.left_eq, HLE.out]
      exact hlt
end Go.Proofs.Ytaececpphdaciaa
