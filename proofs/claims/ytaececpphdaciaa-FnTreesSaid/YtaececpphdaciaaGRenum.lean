/-
  renumbered: the map of the weights under new ends.
  renumbered, once a node is gone.
-/
import Derived.Test.YtaececpphdaciaaGPut
import Derived.Test.YtaececpphdaciaaGPair
import Derived.Test.YtaececpphdaciaaWiresOf
import Derived.Test.YtaececpphdaciaaBetween
namespace Go.Proofs.Ytaececpphdaciaa
open Go.RowKit Go.Maps

def joinI (a b v : Int) : Int := if v = b then a else if b < v then v - 1 else v
def swapI (a b v : Int) : Int := if v = a then b else if v = b then a else v
def keyJ (a b : Int) (e : W3) : Int × Int := (min (joinI a b e.1) (joinI a b e.2.1), max (joinI a b e.1) (joinI a b e.2.1))
def keyS (a b : Int) (e : W3) : Int × Int := (min (swapI a b e.1) (swapI a b e.2.1), max (swapI a b e.1) (swapI a b e.2.1))
theorem numWithout (g v : Int) (w : World) (h0 : 0 ≤ v) (h1 : v ≤ 5) : Calls Try.prog 63 #[.int .i64 g, .int .i64 v] w fun en w' => en = .returned (.int .i64 (renI g v)) ∧ w = w' := by
  by_cases h : g < v
  · rw [show renI g v = v - 1 from if_pos h]
    go_enter Try.func63, Try.ntmps63
    go_wp2
    go_ret
    exact ⟨rfl, rfl⟩
  · rw [show renI g v = v from if_neg h]
    go_enter Try.func63, Try.ntmps63
    go_wp2
    go_ret
    exact ⟨rfl, rfl⟩
theorem joined_clo (v a b : Int) (gB gA : Nat) (w : World) (cB : w.cell? ⟨gB, 0, none⟩ = some (.int .i64 b)) (cA : w.cell? ⟨gA, 0, none⟩ = some (.int .i64 a)) (h0 : 0 ≤ v) (h1 : v ≤ 5) :
    Calls Try.prog 62 #[.int .i64 v, .pointer (some ⟨gB, 0, none⟩), .pointer (some ⟨gA, 0, none⟩)] w fun en w' => en = .returned (.int .i64 (joinI a b v)) ∧ w = w' := by
  by_cases h : v = b
  · have HF : Hid (joinI a b v = a) := Lib.hid (if_pos h)
    have h' : (v == b) = true := by simpa using h
    clear h
    go_enter Try.func62, Try.ntmps62
    go_wp2
    go_ret
    exact ⟨ret_i HF.out.symm, rfl⟩
  · have h' : (v == b) = false := by simpa using h
    have HF : Hid (joinI a b v = renI b v) := Lib.hid (by unfold joinI renI; rw [if_neg h])
    have HN := Lib.hid (numWithout b v w h0 h1)
    clear h
    go_enter Try.func62, Try.ntmps62
    go_wp2_with fail
    refine HN.out.mono ?_
    rintro en w1 ⟨rfl, rfl⟩
    go_wp2
    go_ret
    exact ⟨ret_i HF.out.symm, rfl⟩
theorem ranges_later {w w' : World} {b r n cnt : Nat} {D : DataW Unit} {left : Lit → Bool} (h : w.ranges Try.prog 88 (plainElem Try.prog 3) b r n D left cnt) (hB : Below w.heap.size w w') : w'.ranges Try.prog 88 (plainElem Try.prog 3) b r n D left cnt :=
  h.kept (row := none) ⟨hB.os, hB.tape, hB.output, hB.size, fun i hi _ => hB.block i hi⟩ (by simp) (by simp)
theorem wrap_eq (x : Int) : IntKind.i64.wrap x = wrap64 x := by first | rfl | simp [wrap64, IntKind.wrap_i64]
theorem wf_wrap (x : Int) : (Lit.int .i64 (IntKind.i64.wrap x)).wf = true := by
  rw [wrap_eq]
  simp [Lit.wf, IntKind.min, IntKind.max, IntKind.bits, IntKind.signed]; unfold wrap64; omega
theorem four_grown {w w' : World} {row : Option Nat} {g p q : Nat} {x y u v : Value} (hg : w.grownBy w' row) (h1 : some g ≠ row) (h2 : some p ≠ row) (h3 : some q ≠ row)
    (h : w.cell? ⟨g, 0, none⟩ = some x ∧ w.cell? ⟨g, 1, none⟩ = some y ∧ w.cell? ⟨p, 0, none⟩ = some u ∧ w.cell? ⟨q, 0, none⟩ = some v ∧ g < w.heap.size) :
    w'.cell? ⟨g, 0, none⟩ = some x ∧ w'.cell? ⟨g, 1, none⟩ = some y ∧ w'.cell? ⟨p, 0, none⟩ = some u ∧ w'.cell? ⟨q, 0, none⟩ = some v ∧ g < w'.heap.size :=
  ⟨hg.cell h.1 h1, hg.cell h.2.1 h1, hg.cell h.2.2.1 h2, hg.cell h.2.2.2.1 h3, Nat.lt_of_lt_of_le h.2.2.2.2 hg.size⟩
theorem four_below {w w' : World} {g p q : Nat} {x y u v : Value} (hB : Below w.heap.size w w')
    (h : w.cell? ⟨g, 0, none⟩ = some x ∧ w.cell? ⟨g, 1, none⟩ = some y ∧ w.cell? ⟨p, 0, none⟩ = some u ∧ w.cell? ⟨q, 0, none⟩ = some v ∧ g < w.heap.size) :
    w'.cell? ⟨g, 0, none⟩ = some x ∧ w'.cell? ⟨g, 1, none⟩ = some y ∧ w'.cell? ⟨p, 0, none⟩ = some u ∧ w'.cell? ⟨q, 0, none⟩ = some v ∧ g < w'.heap.size :=
  four_grown (row := none) ⟨hB.os, hB.tape, hB.output, hB.size, fun i hi _ => hB.block i hi⟩ (by simp) (by simp) (by simp) h


set_option maxRecDepth 4000 in
set_option maxHeartbeats 6400000 in
theorem renum_join (a b : Int) (b0 N : Nat) (f : Int → Int → Option Int) (L : List W3) (gP gQ : Nat) (w : World) (hN : N ≤ 1000000) (h : owns2 w b0 N f) (hL : Lists f L) (wL : ∀ t ∈ L, (Lit.int .i64 t.1).wf = true ∧ (Lit.int .i64 t.2.1).wf = true)
    (cP : w.cell? ⟨gP, 0, none⟩ = some (.int .i64 b)) (cQ : w.cell? ⟨gQ, 0, none⟩ = some (.int .i64 a)) (hR : ∀ t ∈ L, 0 ≤ t.1 ∧ t.1 ≤ 5 ∧ 0 ≤ t.2.1 ∧ t.2.1 ≤ 5) (ha : 0 ≤ a ∧ a ≤ 5) (hb : 0 ≤ b ∧ b ≤ 5) :
    Calls Try.prog 61 #[.map (some b0), .func (.func 62) #[] #[.pointer (some ⟨gP, 0, none⟩), .pointer (some ⟨gQ, 0, none⟩)]] w fun en w' => ∃ b', en = .returned (.map (some b')) ∧ w.heap.size ≤ b' ∧ owns2 w' b' N (moveF (keyJ a b) L) ∧ Below w.heap.size w w' := by
  have hmm := @run_makeMap Try.prog
  have hgp := World.block_lt_of_cell? w _ cP
  have hgq := World.block_lt_of_cell? w _ cQ
  simp only at hgp hgq
  obtain ⟨D, hown, hf⟩ := h
  have hsz := hown.size_le
  have hbl := hown.lt
  have HD := Lib.hid hf; have HL := Lib.hid hL; have HWL := Lib.hid wL; have HR := Lib.hid hR
  have HCP := Lib.hid cP; have HCQ := Lib.hid cQ
  have o0 : Hid (owns2 (w.alloc (.map #[] 0)) w.heap.size 0 (moveF (keyJ a b) [])) := Lib.hid (owns2_made w)
  clear hf hL wL hR cP cQ
  go_enter Try.func61, Try.ntmps61
  go_wp2_with (at_range; refine wpList_range_own _ rfl _ 85 rfl 88 3 pair_law Try.underlying85 _ b0 N D rfl (hown.alloc _) ?_; intro w0 hrg0 hg0 hs0)
  rw [World.size_alloc]
  go_frame
  go_loopw [7] (fun _s7 wr => ∃ (left : Lit → Bool) (cnt : Nat) (acc : List W3), wr.ranges Try.prog 88 (plainElem Try.prog 3) b0 (w.heap.size + 1) N D left cnt ∧ owns2 wr w.heap.size acc.length (moveF (keyJ a b) acc) ∧ acc.length + cnt ≤ N ∧ Hid (Got f left acc) ∧ w.heap.size + 1 < wr.heap.size ∧ Hid (Below w.heap.size w wr)) (fun _ wr => wr.rangeLeft b0 (w.heap.size + 1))
  case atStart => exact ⟨_, _, [], by simpa using hrg0, o0.out.kept hg0 (by simp), by simpa using hsz, Lib.hid (Got.start HD.out), by simp at hs0; omega, Lib.hid (((Below.refl w.heap.size w).alloc (Nat.le_refl _) _).grown hg0 (by simp) (fun j hj => by cases hj))⟩
  case round =>
    clear hrg0 hg0 hs0
    obtain ⟨left, cnt, acc, hrg, hown5, hcnt, hgot, hszr, hB⟩ := hrel
    go_wp2_with (at_next; refine wpList_next_pairs _ rfl _ rfl b0 (w.heap.size + 1) N D f HD.out left cnt rfl hrg ?_ ?_)
    · intro hl0
      have hp := hgot.out.perm hl0 HL.out HWL.out
      have HO : Hid (owns2 wr w.heap.size N (moveF (keyJ a b) L)) := Lib.hid (by rw [← moveF_perm _ hp]; exact hown5.mono (by omega))
      clear hown5
      go_wp2
      go_ret
      exact ⟨_, rfl, Nat.le_refl _, HO.out, hB.out⟩
    · intro x y c w1 cnt1 hx hy hc hlx hfx hrg1 hlt hg1 hs1 hen
      obtain ⟨x0, x5, y0, y5⟩ := HR.out _ ((HL.out.2 x y c hx hy).2 hfx)
      simp only at x0 x5 y0 y5
      have own1 := Lib.hid (hown5.kept hg1 (by simp))
      have hB1 := Lib.hid (below_grown_new hB.out hg1 (show w.heap.size ≤ w.heap.size + 1 by omega) (by omega))
      have HS := Lib.hid (hgot.out.step hx hy hlx hfx)
      have HRG := Lib.hid hrg1
      have HLE := Lib.hid hrg.left_eq
      obtain ⟨lo, hi, he⟩ := ends_of (joinI a b x) (joinI a b y)
      obtain ⟨m1, m2⟩ := ends_min he
      have hkr : 0 ≤ joinI a b x ∧ joinI a b x ≤ 5 ∧ 0 ≤ joinI a b y ∧ joinI a b y ≤ 5 := by unfold joinI; constructor; split <;> (try split) <;> omega; constructor; split <;> (try split) <;> omega; constructor <;> split <;> (try split) <;> omega
      have hlo : (Lit.int .i64 lo).wf = true := wf_of (by omega) (by omega)
      have hhi : (Lit.int .i64 hi).wf = true := wf_of (by omega) (by omega)
      have HF : Hid (moveF (keyJ a b) (acc ++ [(x, y, c)]) = put2 (moveF (keyJ a b) acc) lo hi (IntKind.i64.wrap (((moveF (keyJ a b) acc) lo hi).getD 0 + c))) := Lib.hid (by rw [moveF_snoc, wrap_eq]; unfold add2 keyJ; simp only [m1, m2])
      have HE := Lib.hid he; have HLO := Lib.hid hlo; have HHI := Lib.hid hhi
      have hcp1 : w1.cell? ⟨gP, 0, none⟩ = some (.int .i64 b) := (hB1.out.cell (p := ⟨gP, 0, none⟩) hgp).trans HCP.out
      have hcq1 : w1.cell? ⟨gQ, 0, none⟩ = some (.int .i64 a) := (hB1.out.cell (p := ⟨gQ, 0, none⟩) hgq).trans HCQ.out
      have hS2 : (w1.alloc (.cells #[.int .i64 x, .int .i64 y] 88)).drew.cell? ⟨w1.heap.size, 0, none⟩ = some (.int .i64 x) ∧ (w1.alloc (.cells #[.int .i64 x, .int .i64 y] 88)).drew.cell? ⟨w1.heap.size, 1, none⟩ = some (.int .i64 y) ∧ (w1.alloc (.cells #[.int .i64 x, .int .i64 y] 88)).drew.cell? ⟨gP, 0, none⟩ = some (.int .i64 b) ∧ (w1.alloc (.cells #[.int .i64 x, .int .i64 y] 88)).drew.cell? ⟨gQ, 0, none⟩ = some (.int .i64 a) ∧ w1.heap.size < (w1.alloc (.cells #[.int .i64 x, .int .i64 y] 88)).drew.heap.size := ⟨by simp [go_sem], by simp [go_sem], (World.cell?_alloc_old w1 _ ⟨gP, 0, none⟩ (show gP ≠ _ by omega)).trans hcp1, (World.cell?_alloc_old w1 _ ⟨gQ, 0, none⟩ (show gQ ≠ _ by omega)).trans hcq1, by simp⟩
      have hs1q : w.heap.size + 1 < w1.heap.size := by omega
      generalize hFe : moveF (keyJ a b) acc = F0 at *
      have HC0 := Lib.hid hgot
      clear hrg1 hgot hB hg1 hown5 hrg he m1 m2 hkr hlo hhi hx hy hc hfx hlx hFe HC0 hs1 hszr
      go_wp2
      go_region_held3 (fun w' => w'.cell? ⟨w1.heap.size, 0, none⟩ = some (.int .i64 x) ∧ w'.cell? ⟨w1.heap.size, 1, none⟩ = some (.int .i64 y) ∧ w'.cell? ⟨gP, 0, none⟩ = some (.int .i64 b) ∧ w'.cell? ⟨gQ, 0, none⟩ = some (.int .i64 a) ∧ w1.heap.size < w'.heap.size)
        (first | exact hS2 | exact hS3 | exact hS4 | exact hS5)
        (first | (go_at_call 62; refine (joined_clo _ a b gP gQ _ hS2.2.2.1 hS2.2.2.2.1 (by omega) (by omega)).mono ?_; rintro en wz ⟨rfl, rfl⟩) | (go_at_call 59; refine (pairOf_any _ _ lo hi HE.out _).mono ?_; rintro en w2 ⟨rfl, B2⟩; have hS3 := four_below B2 hS2; obtain ⟨st, w3, hl2, hme, hl3, hg3, hst⟩ := run_add ((own1.out.later (by (repeat (first | exact Below.refl _ _ | (refine Below.setCell ?_ (by (first | exact Nat.le_refl _ | omega | (simp <;> omega) | simp)) _) | (refine Below.alloc ?_ (by (first | exact Nat.le_refl _ | omega | (simp <;> omega) | simp)) _) | (refine below_draws ?_ _))))).later B2) (by unfold maxLen; omega) HLO.out HHI.out; obtain ⟨w4, hes, hown4, hg4⟩ := hst (IntKind.i64.wrap ((F0 lo hi).getD 0 + c)) (wf_wrap _); have hS4 := four_grown hg3 (by simp; omega) (by simp; omega) (by simp; omega) hS3; have hS5 := four_grown hg4 (by simp; omega) (by simp; omega) (by simp; omega) hS3))
      all_goals
        go_wp2
        have hrg2 := (ranges_later (ranges_later HRG.out (show Below w1.heap.size w1 (w1.alloc (.cells #[.int .i64 x, .int .i64 y] 88)).drew by (repeat (first | exact Below.refl _ _ | (refine Below.setCell ?_ (by (first | exact Nat.le_refl _ | omega | (simp <;> omega) | simp)) _) | (refine Below.alloc ?_ (by (first | exact Nat.le_refl _ | omega | (simp <;> omega) | simp)) _) | (refine below_draws ?_ _))))) B2).kept hg4 (by simp; omega) (by simp)
        have S4 := hg4.size
        have S2 := B2.size
        simp at S2
        go_roundw
        case rel => exact ⟨_, cnt1, acc ++ [(x, y, c)], hrg2, by rw [HF.out]; simpa using hown4, by simp; omega, HS, by omega, Lib.hid (Below.grown (by have hB1 := hB1.out; (repeat (first | exact Below.refl _ _ | (refine Below.setCell ?_ (by (first | exact Nat.le_refl _ | omega | (simp <;> omega) | simp)) _) | (refine Below.alloc ?_ (by (first | exact Nat.le_refl _ | omega | (simp <;> omega) | simp)) _) | (refine below_draws ?_ _) | exact hB1 | (refine Below.trans ?_ (Below.mono hB1 (by (first | exact Nat.le_refl _ | omega | (simp <;> omega) | simp)))) | exact B2 | (refine Below.trans ?_ (Below.mono B2 (by (first | exact Nat.le_refl _ | omega | (simp <;> omega) | simp))))))) hg4 (by omega) (fun j hj => by cases hj; omega))⟩
        case measure => rw [hrg2.left_eq, HLE.out]; exact hlt

end Go.Proofs.Ytaececpphdaciaa

namespace Go.Proofs.Ytaececpphdaciaa
open Go.RowKit Go.Maps
end Go.Proofs.Ytaececpphdaciaa
