/-
  Lists of wires (three numbers each): how a slice of them reads, what a call owns of them; the laws' copies of a network.
  When a network is valid: its numbers, its wires, and that every node is reached.
  A network that came in: its three numbers and its list of wires.
  Five parameters of a law.
  WeightAt, in the model and in the program: the sum of the weights of the wires at a node.
  The laws' comparison, marking and holding of networks.
  Two networks in memory, and what is kept of them.
  Networks in memory, and what is kept of them.
  What a marking of a list of wires leaves as it was.
-/
import Derived.Test.YtaececpphdaciaaGBase
import Derived.Laws.AppendOwn
import Derived.Laws.OwnMore
import Derived.Deep.Slices
import Derived.Deep.Strs
import Derived.Deep.RegionHeld3
import Derived.Deep.QuietTactic
import Derived.BigQuiet
import Derived.ProofKit
import Derived.ChangeSame
import Derived.Lib.SmallJoins
import Derived.Deep.Fields
import Derived.Carry
namespace Go.Proofs.Ytaececpphdaciaa
open Go.RowKit

/-- A wire: its two ends and its weight. -/
abbrev W3 := Int × Int × Int
def cells3 (e : W3) : List Value := [.int .i64 e.1, .int .i64 e.2.1, .int .i64 e.2.2]
def cellsW (ws : List W3) : List Value := ws.flatMap cells3
theorem cellsW_nil : cellsW [] = [] := rfl
theorem cellsW_snoc (ws : List W3) (e : W3) : cellsW (ws ++ [e]) = cellsW ws ++ cells3 e := by simp [cellsW]
theorem cellsW_length : ∀ ws : List W3, (cellsW ws).length = ws.length * 3
  | [] => rfl
  | e :: r => by have := cellsW_length r; simp [cellsW, cells3] at *; omega
theorem cellsW_get : ∀ (ws : List W3) (k : Nat) (h : k < ws.length), (cellsW ws)[k * 3]? = some (.int .i64 ws[k].1) ∧ (cellsW ws)[k * 3 + 1]? = some (.int .i64 ws[k].2.1) ∧ (cellsW ws)[k * 3 + 2]? = some (.int .i64 ws[k].2.2)
  | [], k, h => absurd h (by simp)
  | e :: r, 0, _ => ⟨rfl, rfl, rfl⟩
  | e :: r, k + 1, h => by
    have ih := cellsW_get r k (by simpa using h)
    have hc : cellsW (e :: r) = Value.int .i64 e.1 :: Value.int .i64 e.2.1 :: Value.int .i64 e.2.2 :: cellsW r := rfl
    have a0 : (k + 1) * 3 = k * 3 + 1 + 1 + 1 := by omega
    have a1 : (k + 1) * 3 + 1 = k * 3 + 1 + 1 + 1 + 1 := by omega
    have a2 : (k + 1) * 3 + 2 = k * 3 + 2 + 1 + 1 + 1 := by omega
    rw [hc, a0]
    refine ⟨ih.1, ?_, ?_⟩
    · exact ih.2.1
    · exact ih.2.2

/-- The slice v reads as the wires ws. -/
def ReadsW (w : World) (v : Value) (ws : List W3) : Prop :=
  ws.length ≤ 9223372036854775807 ∧ ((ws = [] ∧ ∃ p cap, v = .slice p 0 cap) ∨
    ∃ g o cap, v = .slice (some ⟨g, o, none⟩) ws.length cap ∧ ∀ k (h : k < ws.length), w.cell? ⟨g, o + k * 3, none⟩ = some (.int .i64 ws[k].1) ∧ w.cell? ⟨g, o + k * 3 + 1, none⟩ = some (.int .i64 ws[k].2.1) ∧ w.cell? ⟨g, o + k * 3 + 2, none⟩ = some (.int .i64 ws[k].2.2))

theorem ReadsW.later {w w' : World} {v : Value} {ws : List W3} (h : ReadsW w v ws) (hB : Below w.heap.size w w') : ReadsW w' v ws := by
  refine ⟨h.1, ?_⟩
  rcases h.2 with h0 | ⟨g, o, cap, rfl, hc⟩
  · exact .inl h0
  · refine .inr ⟨g, o, cap, rfl, fun k hk => ?_⟩
    obtain ⟨a, b, c⟩ := hc k hk
    have hg := World.block_lt_of_cell? w _ a
    exact ⟨by rw [hB.cell (p := ⟨g, o + k * 3, none⟩) hg]; exact a, by rw [hB.cell (p := ⟨g, o + k * 3 + 1, none⟩) hg]; exact b, by rw [hB.cell (p := ⟨g, o + k * 3 + 2, none⟩) hg]; exact c⟩
theorem ReadsW.of_own {w : World} {base : Nat} {e : TypeId} {v : Value} {ws : List W3} (h : w.ownsRow base e 3 v ws.length (cellsW ws)) : ReadsW w v ws := by
  obtain ⟨hl, h2⟩ := h
  rcases h2 with ⟨rfl, hn⟩ | ⟨g, cap, cur, rfl, hb, hg, hnc, hcm, hcs, ht⟩
  · exact ⟨by omega, .inl ⟨List.eq_nil_of_length_eq_zero hn, none, 0, rfl⟩⟩
  · have hm : ws.length ≤ 9223372036854775807 := by unfold maxLen at hcm; omega
    have hh : w.ownsRow base e 3 (.slice (some ⟨g, 0, none⟩) ws.length cap) ws.length (cellsW ws) := ⟨hl, .inr ⟨g, cap, cur, rfl, hb, hg, hnc, hcm, hcs, ht⟩⟩
    refine ⟨by omega, .inr ⟨g, 0, cap, rfl, fun k hk => ?_⟩⟩
    obtain ⟨a, b, c⟩ := cellsW_get ws k hk
    simp only [Nat.zero_add]
    exact ⟨by rw [hh.cellAt (k * 3) (by omega), a], by rw [hh.cellAt (k * 3 + 1) (by omega), b], by rw [hh.cellAt (k * 3 + 2) (by omega), c]⟩

/-- What the call owns is still owned behind anything that leaves its block alone. -/
theorem owns_below {B : Nat} {w w' : World} {base : Nat} {e : TypeId} {size : Nat} {v : Value} {n : Nat} {xs : List Value} (h : w.ownsRow base e size v n xs) (hB : Below B w w') (hb : ∀ k, v.ownBlock = some k → k < B) : w'.ownsRow base e size v n xs := by
  refine ⟨h.1, ?_⟩
  rcases h.2 with h0 | ⟨g, cap, cur, rfl, hg, hh, r⟩
  · exact .inl h0
  · exact .inr ⟨g, cap, cur, rfl, hg, by rw [hB.block g (hb g rfl)]; exact hh, r⟩
theorem owns_later {w w' : World} {base : Nat} {e : TypeId} {size : Nat} {v : Value} {n : Nat} {xs : List Value} (h : w.ownsRow base e size v n xs) (hB : Below w.heap.size w w') : w'.ownsRow base e size v n xs :=
  owns_below h hB (fun k hk => (h.lt k hk).2)
theorem owns_mono {w : World} {base base' : Nat} {e : TypeId} {size : Nat} {v : Value} {n : Nat} {xs : List Value} (h : w.ownsRow base e size v n xs) (hb : base' ≤ base) : w.ownsRow base' e size v n xs := by
  refine ⟨h.1, ?_⟩
  rcases h.2 with h0 | ⟨g, cap, cur, rfl, hg, r⟩
  · exact .inl h0
  · exact .inr ⟨g, cap, cur, rfl, by omega, r⟩

theorem ReadsW.shape {w : World} {v : Value} {ws : List W3} (h : ReadsW w v ws) : ∃ p cap, v = .slice p ws.length cap := by
  rcases h.2 with ⟨hx, p, cap, rfl⟩ | ⟨g, o, cap, rfl, _⟩
  · exact ⟨p, cap, by rw [hx]; rfl⟩
  · exact ⟨_, cap, rfl⟩
theorem owns_shape {w : World} {base : Nat} {e : TypeId} {size : Nat} {v : Value} {n : Nat} {xs : List Value} (h : w.ownsRow base e size v n xs) : ∃ p cap, v = .slice p n cap := by
  rcases h.2 with ⟨rfl, rfl⟩ | ⟨g, cap, cur, rfl, _⟩
  · exact ⟨none, 0, rfl⟩
  · exact ⟨_, cap, rfl⟩

/-! ### sizes -/
def szW (left : Int) (ws : List W3) : Int := if left - ws.length < 0 then -1 else left - ws.length
theorem szWireS_any (v : Value) (ws : List W3) (left : Int) (w : World) (h0 : 0 ≤ left) (h1 : left ≤ 1048576) (hr : ReadsW w v ws) :
    Calls Try.prog 77 #[v, .int .i64 left] w fun e w' => e = .returned (.int .i64 (szW left ws)) ∧ w = w' := by
  obtain ⟨p, cap, rfl⟩ := hr.shape
  have hm := hr.1
  clear hr
  by_cases hneg : left - ws.length < 0
  · have HF : Hid (szW left ws = -1) := Lib.hid (if_pos hneg)
    go_enter Try.func77, Try.ntmps77
    go_wp2
    go_ret
    exact ⟨ret_i HF.out.symm, rfl⟩
  · have HF : Hid (szW left ws = left - ws.length) := Lib.hid (if_neg hneg)
    go_enter Try.func77, Try.ntmps77
    go_wp2
    go_ret
    exact ⟨ret_i HF.out.symm, rfl⟩

theorem szNet_any (n e s : Int) (v : Value) (ws : List W3) (left : Int) (w : World) (h0 : 0 ≤ left) (h1 : left ≤ 1048576) (hr : ReadsW w v ws) :
    Calls Try.prog 29 #[.agg #[.int .i64 n, .int .i64 e, .int .i64 s, v], .int .i64 left] w fun en w' => en = .returned (.int .i64 (szW left ws)) ∧ Below w.heap.size w w' := by
  have hr' := hr.later ((Below.refl w.heap.size w).alloc (Nat.le_refl _) (.cells #[.int .i64 n, .int .i64 e, .int .i64 s, v] 56))
  by_cases hneg : left - ws.length < 0
  · have HF : Hid (szW left ws = -1) := Lib.hid (if_pos hneg)
    have hc := szWireS_any v ws left _ h0 h1 hr'
    rw [HF.out] at hc
    go_enter Try.func29, Try.ntmps29
    go_wp2_with fail
    refine hc.mono ?_
    rintro en w1 ⟨rfl, rfl⟩
    go_wp2
    go_ret
    exact ⟨ret_i HF.out.symm, by (repeat (first | exact Below.refl _ _ | (refine Below.setCell ?_ (by (first | exact Nat.le_refl _ | omega | (simp <;> omega) | simp)) _) | (refine Below.alloc ?_ (by (first | exact Nat.le_refl _ | omega | (simp <;> omega) | simp)) _) | (refine below_draws ?_ _)))⟩
  · have HF : Hid (szW left ws = left - ws.length) := Lib.hid (if_neg hneg)
    have hc := szWireS_any v ws left _ h0 h1 hr'
    rw [HF.out] at hc
    go_enter Try.func29, Try.ntmps29
    go_wp2_with fail
    refine hc.mono ?_
    rintro en w1 ⟨rfl, rfl⟩
    go_wp2
    go_ret
    exact ⟨ret_i HF.out.symm, by (repeat (first | exact Below.refl _ _ | (refine Below.setCell ?_ (by (first | exact Nat.le_refl _ | omega | (simp <;> omega) | simp)) _) | (refine Below.alloc ?_ (by (first | exact Nat.le_refl _ | omega | (simp <;> omega) | simp)) _) | (refine below_draws ?_ _)))⟩

/-! ### copies -/
theorem toWire_any (a b c : Int) (w : World) :
    Calls Try.prog 111 #[.agg #[.int .i64 a, .int .i64 b, .int .i64 c]] w fun e w' => e = .returned (.agg #[.int .i64 a, .int .i64 b, .int .i64 c]) ∧ Below w.heap.size w w' := by
  go_enter Try.func111, Try.ntmps111
  go_wp2
  exact bodyPost_ret (v := (.agg #[.int .i64 a, .int .i64 b, .int .i64 c])) (by simp (maxDischargeDepth := 8) [results, Try.results111, go_sem, *]) rfl ⟨rfl, by (repeat (first | exact Below.refl _ _ | (refine Below.setCell ?_ (by (first | exact Nat.le_refl _ | omega | (simp <;> omega) | simp)) _) | (refine Below.alloc ?_ (by (first | exact Nat.le_refl _ | omega | (simp <;> omega) | simp)) _) | (refine below_draws ?_ _)))⟩

theorem Try.infoWire : (Try.prog.info? 29).map (fun i => (i.zero, i.size, i.bytes)) = some (some (.agg #[.int .i64 0, .int .i64 0, .int .i64 0]), 3, 24) := by kernel_rfl

theorem set3_take (ys : List Value) (ws : List W3) (k : Nat) (hk : k < ws.length) (hy : ys.length = ws.length * 3) (h : ys.take (k * 3) = cellsW (ws.take k)) :
    (((ys.set (k * 3) (.int .i64 ws[k].1)).set (k * 3 + 1) (.int .i64 ws[k].2.1)).set (k * 3 + 2) (.int .i64 ws[k].2.2)).take ((k + 1) * 3) = cellsW (ws.take (k + 1)) := by
  rw [List.take_succ_eq_append_getElem hk, cellsW_snoc, ← h]
  have e : (k + 1) * 3 = k * 3 + 1 + 1 + 1 := by omega
  rw [e, List.take_succ_eq_append_getElem (by simp; omega), List.take_succ_eq_append_getElem (by simp; omega), List.take_succ_eq_append_getElem (by simp; omega)]
  simp [List.take_set_of_le, cells3]

set_option maxHeartbeats 800000 in
theorem toWireS_any (v : Value) (ws : List W3) (w : World) (hn : ws.length ≤ 1048576) (hr : ReadsW w v ws) :
    Calls Try.prog 82 #[v] w fun e w' => ∃ v', e = .returned v' ∧ w'.ownsRow w.heap.size 29 3 v' ws.length (cellsW ws) ∧ Below w.heap.size w w' := by
  obtain ⟨i0, hi, hz0, hz1, hz2⟩ := info_parts Try.infoWire
  obtain ⟨w1, hmk, own1, grow1⟩ := run_makeSlice_full w w.heap.size 23 29 i0 (.agg #[.int .i64 0, .int .i64 0, .int .i64 0]) 3 Try.underlying23 hi hz0 hz1 .i64 .i64 ws.length (by omega) (by rw [hz2]; omega) (by unfold maxLen; omega) (Nat.le_refl _)
  have B1 : Below w.heap.size w w1 := (Below.refl _ _).grown grow1 (Nat.le_refl _) (fun k hk => by cases hk)
  clear grow1 hi hz0 hz1 hz2
  obtain ⟨hm, hr1⟩ := hr
  rcases hr1 with ⟨hx, p, cap, rfl⟩ | ⟨g, o, cap, rfl, hc⟩
  · subst hx
    have hmk' : (Instr.makeSlice 23 (.int .i64 0) (.int .i64 0)).run Try.prog w = .ok (.slice (some ⟨w.heap.size, 0, none⟩) 0 0) w1 := hmk
    have own2 : w1.ownsRow w.heap.size 29 3 (.slice (some ⟨w.heap.size, 0, none⟩) 0 0) 0 [] := by
      have h := List.eq_nil_of_length_eq_zero (own1.1.trans (by simp))
      rw [h] at own1; exact own1
    clear hm hmk
    go_enter Try.func82, Try.ntmps82
    go_wp2
    refine wp_loop_rounds 1 ?_
    rw [rounds_succ]
    go_wp2
    go_ret
    exact ⟨_, rfl, own2, B1⟩
  · have HC := Lib.hid hc; clear hc
    go_enter Try.func82, Try.ntmps82
    go_wp2
    go_loopw [4] (fun i wr => ∃ (k : Nat) (ys : List Value), k ≤ ws.length ∧ i = .int .i64 k ∧ wr.ownsRow w.heap.size 29 3 (.slice (some ⟨w.heap.size, 0, none⟩) ws.length ws.length) ws.length ys ∧ Hid (ys.take (k * 3) = cellsW (ws.take k)) ∧ Below w.heap.size w wr) (fun i _ => ws.length - (intOf i).toNat)
    case atStart => exact ⟨0, _, Nat.zero_le _, rfl, own1, rfl, B1⟩
    case round =>
      obtain ⟨k, ys, hk, rfl, hown, hh, hB⟩ := hrel
      by_cases hlt : k < ws.length
      · have hyl : ys.length = ws.length * 3 := by have := hown.1; omega
        obtain ⟨c0, c1, c2⟩ := HC.out k hlt
        have hg := World.block_lt_of_cell? w _ c0
        rw [← hB.cell (p := ⟨g, o + k * 3, none⟩) hg] at c0
        rw [← hB.cell (p := ⟨g, o + k * 3 + 1, none⟩) hg] at c1
        rw [← hB.cell (p := ⟨g, o + k * 3 + 2, none⟩) hg] at c2
        go_wp2_with fail
        refine (toWire_any _ _ _ _).mono ?_
        rintro e w2 ⟨rfl, B2⟩
        have own2 := owns_later hown B2
        have d0 := own2.cellAt (k * 3) (by omega)
        have d1 := own2.cellAt (k * 3 + 1) (by omega)
        have d2 := own2.cellAt (k * 3 + 2) (by omega)
        rw [List.getElem?_eq_getElem (by omega)] at d0 d1 d2
        have f0 := own2.frozenAt (k * 3)
        have f1 := own2.frozenAt (k * 3 + 1)
        have f2 := own2.frozenAt (k * 3 + 2)
        go_wp2
        go_roundw
        case rel =>
          have s1 := (own2.stored (k * 3) (.int .i64 ws[k].1)).1
          have s2 := (s1.stored (k * 3 + 1) (.int .i64 ws[k].2.1)).1
          have s3 := (s2.stored (k * 3 + 2) (.int .i64 ws[k].2.2)).1
          exact ⟨k + 1, _, by omega, by go_num, s3, set3_take ys ws k hlt hyl hh.out, (((hB.trans (B2.mono hB.size)).setCell (Nat.le_refl _) _).setCell (Nat.le_refl _) _).setCell (Nat.le_refl _) _⟩
        case measure => simp [intOf]; omega
      · obtain rfl : k = ws.length := by omega
        go_wp2
        go_ret
        have e := hh.out
        have hyl : ys.length = ws.length * 3 := by have := hown.1; omega
        rw [List.take_of_length_le (by omega), List.take_of_length_le (by simp)] at e
        rw [← e]
        exact ⟨_, rfl, hown, hB⟩

set_option maxHeartbeats 800000 in
theorem toNet_any (n e s : Int) (v : Value) (ws : List W3) (w : World) (hn : ws.length ≤ 1048576) (hr : ReadsW w v ws) :
    Calls Try.prog 31 #[.agg #[.int .i64 n, .int .i64 e, .int .i64 s, v]] w fun en w' => ∃ p' cap', en = .returned (.agg #[.int .i64 n, .int .i64 e, .int .i64 s, .slice p' ws.length cap']) ∧ w'.ownsRow w.heap.size 29 3 (.slice p' ws.length cap') ws.length (cellsW ws) ∧ Below w.heap.size w w' := by
  go_enter Try.func31, Try.ntmps31
  go_wp2_with fail
  refine (toWireS_any v ws _ hn (hr.later (by (repeat (first | exact Below.refl _ _ | (refine Below.setCell ?_ (by (first | exact Nat.le_refl _ | omega | (simp <;> omega) | simp)) _) | (refine Below.alloc ?_ (by (first | exact Nat.le_refl _ | omega | (simp <;> omega) | simp)) _) | (refine below_draws ?_ _)))))).mono ?_
  rintro en w1 ⟨v', rfl, o1, B1⟩
  obtain ⟨hc1, hf1⟩ := bcell B1
  have S1 := B1.size
  try simp at S1
  try (have _L1w : w.heap.size < w1.heap.size := by omega)
  have _M1w : w.heap.size ≤ w1.heap.size := by omega
  try (have _P1w_1 : w.heap.size + 1 < w1.heap.size := by omega)
  try (have _P1w_2 : w.heap.size + 1 + 1 < w1.heap.size := by omega)
  try (have _P1w_3 : w.heap.size + 1 + 1 + 1 < w1.heap.size := by omega)
  obtain ⟨p', cap', rfl⟩ := owns_shape o1
  simp only [World.size_alloc] at o1
  go_wp2
  refine bodyPost_ret (v := .agg #[.int .i64 n, .int .i64 e, .int .i64 s, .slice p' ws.length cap']) (by simp (maxDischargeDepth := 8) [results, Try.results31, go_sem, *]) rfl ?_
  refine ⟨p', cap', rfl, ?_, by (repeat (first | exact Below.refl _ _ | (refine Below.setCell ?_ (by (first | exact Nat.le_refl _ | omega | (simp <;> omega) | simp)) _) | (refine Below.alloc ?_ (by (first | exact Nat.le_refl _ | omega | (simp <;> omega) | simp)) _) | (refine below_draws ?_ _) | exact B1 | (refine Below.trans ?_ (Below.mono B1 (by (first | exact Nat.le_refl _ | omega | (simp <;> omega) | simp))))))⟩
  refine owns_mono (base := w.heap.size + 1 + 1 + 1) ?_ (by omega)
  ((repeat (refine ownsRow_setCell_below ?_ ?_ _; rotate_left; focus (first | omega | (simp; done) | (simp; omega)))); with_reducible exact o1)
end Go.Proofs.Ytaececpphdaciaa

namespace Go.Proofs.Ytaececpphdaciaa
open Go.RowKit

def wireV (n : Int) (e : W3) : Prop := 0 ≤ e.1 ∧ e.1 < e.2.1 ∧ e.2.1 < n ∧ 1 ≤ e.2.2 ∧ e.2.2 ≤ 200
def wLt (a b : W3) : Prop := a.1 < b.1 ∨ (a.1 = b.1 ∧ a.2.1 < b.2.1)
def WiresV (n : Int) (ws : List W3) : Prop := (∀ k, (h : k < ws.length) → wireV n ws[k]) ∧ ∀ k, (h : k + 1 < ws.length) → wLt ws[k] ws[k + 1]
def NumsV (n e s : Int) : Prop := 1 ≤ n ∧ n ≤ 5 ∧ 1 ≤ e ∧ e ≤ n ∧ 1 ≤ s ∧ s ≤ 1000
/-- A node that every set of nodes with node 0 has, if with one end of a wire it has the other. -/
def Rch (ws : List W3) (v : Int) : Prop := ∀ S : Int → Prop, S 0 → (∀ e ∈ ws, (S e.1 ↔ S e.2.1)) → S v
def Conn (n : Int) (ws : List W3) : Prop := ∀ v, 0 ≤ v → v < n → Rch ws v
def NetV (n e s : Int) (ws : List W3) : Prop := NumsV n e s ∧ WiresV n ws ∧ Conn n ws
noncomputable def netB (n e s : Int) (ws : List W3) : Bool := @decide (NetV n e s ws) (Classical.propDecidable _)
theorem netB_true {n e s : Int} {ws : List W3} (h : NetV n e s ws) : netB n e s ws = true := by simp [netB, h]
theorem netB_false {n e s : Int} {ws : List W3} (h : ¬ NetV n e s ws) : netB n e s ws = false := by simp [netB, h]
theorem netB_iff {n e s : Int} {ws : List W3} : netB n e s ws = true ↔ NetV n e s ws := by simp [netB]

theorem Rch.zero (ws : List W3) : Rch ws 0 := fun _ h _ => h
theorem Rch.step {ws : List W3} {e : W3} (he : e ∈ ws) : Rch ws e.1 ↔ Rch ws e.2.1 :=
  ⟨fun h S h0 hs => (hs e he).1 (h S h0 hs), fun h S h0 hs => (hs e he).2 (h S h0 hs)⟩

/-- A least k with P k. -/
theorem least (P : Nat → Prop) (n : Nat) (hn : P n) : ∃ k, P k ∧ ∀ j, j < k → ¬ P j := by
  induction n using Nat.strongRecOn with
  | ind n ih =>
    by_cases hm : ∃ j, j < n ∧ P j
    · obtain ⟨j, hj, hp⟩ := hm
      exact ih j hj hp
    · exact ⟨n, hn, fun j hj hp => hm ⟨j, hj, hp⟩⟩
/-- What is wrong first: a wire, or its place behind the one ahead of it. -/
theorem first_bad (n : Int) (ws : List W3) : WiresV n ws ∨ ∃ k, ∃ h : k < ws.length, (¬ wireV n ws[k] ∨ (wireV n ws[k] ∧ 0 < k ∧ ¬ wLt (ws[k - 1]'(by omega)) ws[k])) ∧ ∀ j, (hj : j < k) → wireV n (ws[j]'(by omega)) ∧ (0 < j → wLt (ws[j - 1]'(by omega)) (ws[j]'(by omega))) := by
  by_cases hx : ∃ k, ∃ h : k < ws.length, ¬ wireV n ws[k] ∨ (0 < k ∧ ¬ wLt (ws[k - 1]'(by omega)) ws[k])
  · right
    obtain ⟨k, hk⟩ := hx
    obtain ⟨m, ⟨hm, h1⟩, hmin⟩ := least (fun k => ∃ h : k < ws.length, ¬ wireV n ws[k] ∨ (0 < k ∧ ¬ wLt (ws[k - 1]'(by omega)) ws[k])) k hk
    refine ⟨m, hm, ?_, fun j hj => ?_⟩
    · by_cases h2 : wireV n ws[m]
      · rcases h1 with h1 | h1
        · exact absurd h2 h1
        · exact .inr ⟨h2, h1⟩
      · exact .inl h2
    · have := hmin j hj
      exact ⟨Classical.byContradiction fun h2 => this ⟨by omega, .inl h2⟩, fun h0 => Classical.byContradiction fun h2 => this ⟨by omega, .inr ⟨h0, h2⟩⟩⟩
  · left
    refine ⟨fun k h => Classical.byContradiction fun h2 => hx ⟨k, h, .inl h2⟩, fun k h => Classical.byContradiction fun h2 => hx ⟨k + 1, h, .inr ⟨by omega, ?_⟩⟩⟩
    simpa using h2
theorem bad_not {n : Int} {ws : List W3} {k : Nat} (h : k < ws.length) (hb : ¬ wireV n ws[k] ∨ (wireV n ws[k] ∧ 0 < k ∧ ¬ wLt (ws[k - 1]'(by omega)) ws[k])) : ¬ WiresV n ws := by
  rintro ⟨h1, h2⟩
  rcases hb with hb | ⟨-, h0, hb⟩
  · exact hb (h1 k h)
  · obtain ⟨j, rfl⟩ : ∃ j, k = j + 1 := ⟨k - 1, by omega⟩
    exact hb (by simpa using h2 j h)
theorem WiresV.mem {n : Int} {ws : List W3} (h : WiresV n ws) {e : W3} (he : e ∈ ws) : wireV n e := by
  obtain ⟨k, hk, rfl⟩ := List.getElem_of_mem he
  exact h.1 k hk

/-! ### lists without repeats -/
theorem len_le {α : Type} [DecidableEq α] : ∀ (a b : List α), a.Nodup → (∀ x ∈ a, x ∈ b) → a.length ≤ b.length
  | [], _, _, _ => Nat.zero_le _
  | x :: a, b, hn, hs => by
    rw [List.nodup_cons] at hn
    have hx : x ∈ b := hs x (by simp)
    have ih := len_le a (b.erase x) hn.2 (fun y hy => by
      have hne : y ≠ x := fun e => hn.1 (e ▸ hy)
      exact (List.mem_erase_of_ne hne).2 (hs y (by simp [hy])))
    have hl := List.length_erase_of_mem hx
    have hp := List.length_pos_of_mem hx
    simp only [List.length_cons]
    omega
def upTo (n : Nat) : List Int := (List.range n).map (fun k : Nat => (k : Int))
theorem upTo_length (n : Nat) : (upTo n).length = n := by simp [upTo]
theorem upTo_mem (n : Nat) (v : Int) : v ∈ upTo n ↔ 0 ≤ v ∧ v < n := by
  simp only [upTo, List.mem_map, List.mem_range]
  constructor
  · rintro ⟨k, hk, rfl⟩; omega
  · rintro ⟨h1, h2⟩; exact ⟨v.toNat, by omega, by omega⟩
theorem upTo_nodup (n : Nat) : (upTo n).Nodup := by
  unfold upTo
  rw [List.nodup_iff_pairwise_ne, List.pairwise_map]
  exact List.nodup_range.imp (fun h e => h (by omega))
theorem queue_le {n : Nat} {q : List Int} (hn : q.Nodup) (hr : ∀ v ∈ q, 0 ≤ v ∧ v < (n : Int)) : q.length ≤ n := by
  have := len_le q (upTo n) hn (fun v hv => (upTo_mem n v).2 (hr v hv))
  rwa [upTo_length] at this
/-- A queue of all that is reached has as many nodes as there are just if all are reached. -/
theorem queue_conn {n : Nat} {q : List Int} {ws : List W3} (hn : q.Nodup) (hr : ∀ v ∈ q, 0 ≤ v ∧ v < (n : Int)) (h0 : (0 : Int) ∈ q) (hq : ∀ v ∈ q, Rch ws v) (hc : ∀ e ∈ ws, (e.1 ∈ q ↔ e.2.1 ∈ q)) :
    q.length = n ↔ Conn n ws := by
  have hle := queue_le hn hr
  constructor
  · intro hl v h1 h2
    refine hq v (Classical.byContradiction fun hv => ?_)
    have := queue_le (n := n) (q := v :: q) (List.nodup_cons.2 ⟨hv, hn⟩) (fun x hx => by
      rcases List.mem_cons.1 hx with rfl | hx
      · exact ⟨h1, h2⟩
      · exact hr x hx)
    simp only [List.length_cons] at this
    omega
  · intro hC
    have := len_le (upTo n) q (upTo_nodup n) (fun v hv => by
      obtain ⟨h1, h2⟩ := (upTo_mem n v).1 hv
      exact hC v h1 h2 (fun v => v ∈ q) h0 hc)
    rw [upTo_length] at this
    omega

/-! ### rows of marks -/
theorem count_set : ∀ (xs : List Bool) (i : Nat) (h : i < xs.length), xs[i] = false → (xs.set i true).count true = xs.count true + 1
  | x :: xs, 0, _, hx => by simp at hx; simp [hx]
  | x :: xs, i + 1, h, hx => by
    have := count_set xs i (by simpa using h) (by simpa using hx)
    simp only [List.set_cons_succ, List.count_cons, this]
    omega
theorem set_same {xs : List Bool} {i : Nat} {b : Bool} (h : i < xs.length) (hx : xs[i] = b) : xs.set i b = xs := by
  subst hx; exact List.set_getElem_self h
/-- What one wire does to the marks. -/
def mark2 (xs : List Bool) (i j : Nat) : List Bool :=
  let b := xs.getD i false || xs.getD j false
  (xs.set i b).set j b
theorem mark2_length (xs : List Bool) (i j : Nat) : (mark2 xs i j).length = xs.length := by simp [mark2]
theorem mark2_same {xs : List Bool} {i j : Nat} (hi : i < xs.length) (hj : j < xs.length) (h : xs[i] = xs[j]) : mark2 xs i j = xs := by
  have e : (xs.getD i false || xs.getD j false) = xs[i] := by simp [List.getD, hi, hj, ← h]
  simp only [mark2, e]
  rw [List.set_getElem_self hi, h]; exact List.set_getElem_self hj
theorem mark2_count {xs : List Bool} {i j : Nat} (hi : i < xs.length) (hj : j < xs.length) (h : xs[i] ≠ xs[j]) : (mark2 xs i j).count true = xs.count true + 1 := by
  have hij : i ≠ j := fun e => h (by subst e; rfl)
  have e : (xs.getD i false || xs.getD j false) = true := by
    simp only [List.getD, List.getElem?_eq_getElem hi, List.getElem?_eq_getElem hj, Option.getD_some]
    cases h1 : xs[i] <;> cases h2 : xs[j] <;> simp_all
  simp only [mark2, e]
  cases h1 : xs[i]
  · have h2 : xs[j] = true := by cases h2 : xs[j] <;> simp_all
    have : ((xs.set i true).set j true) = xs.set i true := set_same (by simpa using hj) (by rw [List.getElem_set]; simp [h2])
    rw [this, count_set xs i hi h1]
  · have h2 : xs[j] = false := by cases h2 : xs[j] <;> simp_all
    rw [set_same hi h1, count_set xs j hj h2]
theorem mark2_get {xs : List Bool} {i j : Nat} (hi : i < xs.length) (hj : j < xs.length) (k : Nat) (hk : k < xs.length) (h : (mark2 xs i j)[k]'(by rw [mark2_length]; exact hk) = true) : xs[k] = true ∨ ((k = i ∨ k = j) ∧ (xs[i] = true ∨ xs[j] = true)) := by
  simp only [mark2, List.getD, List.getElem?_eq_getElem hi, List.getElem?_eq_getElem hj, Option.getD_some, List.getElem_set] at h
  by_cases h1 : j = k
  · rw [if_pos h1, Bool.or_eq_true] at h; exact .inr ⟨.inr h1.symm, h⟩
  · rw [if_neg h1] at h
    by_cases h2 : i = k
    · rw [if_pos h2, Bool.or_eq_true] at h; exact .inr ⟨.inl h2.symm, h⟩
    · rw [if_neg h2] at h; exact .inl h
theorem mark2_keeps {xs : List Bool} {i j : Nat} (hi : i < xs.length) (hj : j < xs.length) (k : Nat) (hk : k < xs.length) (h : xs[k] = true) : (mark2 xs i j)[k]'(by rw [mark2_length]; exact hk) = true := by
  simp only [mark2, List.getD, List.getElem?_eq_getElem hi, List.getElem?_eq_getElem hj, Option.getD_some, List.getElem_set]
  by_cases h1 : j = k
  · subst h1; simp [h]
  · rw [if_neg h1]
    by_cases h2 : i = k
    · subst h2; simp [h]
    · rw [if_neg h2]; exact h
theorem count_le_len (xs : List Bool) (n : Nat) (h : ∀ k, (hk : k < xs.length) → xs[k] = true → k < n) : xs.count true ≤ n := by
  have e : xs.count true = (xs.take n).count true + (xs.drop n).count true := by rw [← List.count_append, List.take_append_drop]
  have h2 : (xs.drop n).count true = 0 := by
    rw [List.count_eq_zero]
    intro hm
    obtain ⟨k, hk, he⟩ := List.getElem_of_mem hm
    rw [List.getElem_drop] at he
    have := h (n + k) (by simp at hk; omega) he
    omega
  have h3 : (xs.take n).count true ≤ (xs.take n).length := List.count_le_length
  simp only [List.length_take] at h3
  omega

/-- The marks hold just nodes that are reached. -/
def MarksOk (ws : List W3) (xs : List Bool) : Prop := xs.length = 5 ∧ xs[0]? = some true ∧ ∀ k, (hk : k < xs.length) → xs[k] = true → Rch ws k
def Closed (ws : List W3) (xs : List Bool) : Prop := ∀ e ∈ ws, xs[e.1.toNat]? = xs[e.2.1.toNat]?
theorem marks_step {n : Int} {ws : List W3} {xs : List Bool} (hw : WiresV n ws) (hn : n ≤ 5) (h : MarksOk ws xs) {e : W3} (he : e ∈ ws) : MarksOk ws (mark2 xs e.1.toNat e.2.1.toNat) := by
  obtain ⟨h1, h2, h3⟩ := h
  obtain ⟨v1, v2, v3, -, -⟩ := hw.mem he
  have hi : e.1.toNat < xs.length := by omega
  have hj : e.2.1.toNat < xs.length := by omega
  have e1 : ((e.1.toNat : Nat) : Int) = e.1 := by omega
  have e2 : ((e.2.1.toNat : Nat) : Int) = e.2.1 := by omega
  refine ⟨by rw [mark2_length]; exact h1, ?_, ?_⟩
  · rw [List.getElem?_eq_getElem (by rw [mark2_length]; omega), mark2_keeps hi hj 0 (by omega) (by rw [List.getElem?_eq_getElem (by omega)] at h2; simpa using h2)]
  · intro k hk ht
    rw [mark2_length] at hk
    rcases mark2_get hi hj k hk ht with h4 | ⟨h4, h5⟩
    · exact h3 k hk h4
    · have hr : Rch ws e.1 ∧ Rch ws e.2.1 := by
        rcases h5 with h5 | h5
        · have := h3 _ hi h5; rw [e1] at this; exact ⟨this, (Rch.step he).1 this⟩
        · have := h3 _ hj h5; rw [e2] at this; exact ⟨(Rch.step he).2 this, this⟩
      rcases h4 with rfl | rfl
      · rw [e1]; exact hr.1
      · rw [e2]; exact hr.2
theorem marks_count {n : Int} {ws : List W3} {xs : List Bool} (hw : WiresV n ws) (hn1 : 1 ≤ n) (h : MarksOk ws xs) : xs.count true ≤ n.toNat := by
  refine count_le_len xs n.toNat fun k hk ht => ?_
  have := h.2.2 k hk ht (fun v => 0 ≤ v ∧ v < n) ⟨by omega, by omega⟩ (fun e he => by
    obtain ⟨v1, v2, v3, -, -⟩ := hw.mem he
    constructor <;> intro _ <;> omega)
  omega
theorem marks_conn {n : Int} {ws : List W3} {xs : List Bool} (hn1 : 1 ≤ n) (hn : n ≤ 5) (h : MarksOk ws xs) (hc : Closed ws xs) : Conn n ws ↔ ∀ k, (hk : k < n.toNat) → xs[k]? = some true := by
  obtain ⟨h1, h2, h3⟩ := h
  constructor
  · intro hC k hk
    have := hC k (by omega) (by omega) (fun v => xs[v.toNat]? = some true) (by simpa using h2) (fun e he => by rw [hc e he])
    simpa using this
  · intro hA v v1 v2
    have := hA v.toNat (by omega)
    rw [List.getElem?_eq_getElem (by omega)] at this
    have := h3 v.toNat (by omega) (by simpa using this)
    rwa [show ((v.toNat : Nat) : Int) = v by omega] at this
end Go.Proofs.Ytaececpphdaciaa

namespace Go.Proofs.Ytaececpphdaciaa
open Go.ChangeShapes Go.WideShapes Go.ChangeAt Go.RowKit Go.Deep

/-- A list of wires among the arguments: three numbers each. -/
theorem open_wires {H : Type} {enc : TypeId × Value → H} {P : Program} {t e q : TypeId} {f0 f1 f2 : Field} (ht : P.underlying t = some (.slice e)) (he : P.underlying e = some (.struct #[f0, f1, f2])) (hone : oneCellFields P #[f0, f1, f2] = true) (hC : P.cellsOf e = 3)
    (h0 : f0.type = q) (h1 : f1.type = q) (h2 : f2.type = q) (hq : P.underlying q = some (.int .i64))
    {W : World} {n : Nat} {v : Value} {y : DataW H × List MemPlace} (h : DataW.trod enc P W 0 (fun _ => true) true n t [v] = some y) :
    ∃ ws : List W3, ReadsW W v ws := by
  rcases open_slice ht h with ⟨hcs, _⟩ | ⟨a, len, cap, m, n', D, Pl, hcs, _, hl, hm, hmm, _, hi⟩
  · simp at hcs
    exact ⟨[], by simp, .inl ⟨rfl, none, 0, hcs⟩⟩
  · simp at hcs
    subst hcs
    simp only [if_true] at hmm
    unfold maxLen at hm
    have hw : ∀ i, i < len → ∃ x : W3, W.cell? (a.add (i * 3)) = some (.int .i64 x.1) ∧ W.cell? (a.add (i * 3 + 1)) = some (.int .i64 x.2.1) ∧ W.cell? (a.add (i * 3 + 2)) = some (.int .i64 x.2.2) := by
      intro i hil
      obtain ⟨cs', hc, ht'⟩ := hi i (by omega)
      rw [hC] at hc
      obtain ⟨_, hcl, hat⟩ := World.cells?_some hc
      obtain ⟨xs, n2, _, _, _, _, hg⟩ := DataW.trod_struct he ht'
      match cs', hcl with
      | [c0, c1, c2], _ =>
        obtain ⟨o0, k0⟩ := hone_of hone 0 f0 rfl
        obtain ⟨o1, k1⟩ := hone_of hone 1 f1 rfl
        obtain ⟨o2, k2⟩ := hone_of hone 2 f2 rfl
        have g0 := hg 0 f0 rfl
        have g1 := hg 1 f1 rfl
        have g2 := hg 2 f2 rfl
        rw [o0, k0, h0] at g0
        rw [o1, k1, h1] at g1
        rw [o2, k2, h2] at g2
        simp only [List.drop, List.take] at g0 g1 g2
        have e0 : ∃ z0, DataW.trod enc P W 0 (fun _ => true) true n2 q [c0] = some z0 := ⟨_, g0.trans (List.getElem?_eq_getElem (by simp_all))⟩
        have e1 : ∃ z0, DataW.trod enc P W 0 (fun _ => true) true n2 q [c1] = some z0 := ⟨_, g1.trans (List.getElem?_eq_getElem (by simp_all))⟩
        have e2 : ∃ z0, DataW.trod enc P W 0 (fun _ => true) true n2 q [c2] = some z0 := ⟨_, g2.trans (List.getElem?_eq_getElem (by simp_all))⟩
        obtain ⟨_, e0⟩ := e0
        obtain ⟨_, e1⟩ := e1
        obtain ⟨_, e2⟩ := e2
        obtain ⟨x0, i0, _, _⟩ := DataW.trod_int hq e0
        obtain ⟨x1, i1, _, _⟩ := DataW.trod_int hq e1
        obtain ⟨x2, i2, _, _⟩ := DataW.trod_int hq e2
        simp at i0 i1 i2
        subst i0; subst i1; subst i2
        have q0 := hat 0 (by omega)
        have q1 := hat 1 (by omega)
        have q2 := hat 2 (by omega)
        rw [Go.Deep.add_add] at q0 q1 q2
        exact ⟨(x0, x1, x2), by simpa using q0, by simpa using q1, by simpa using q2⟩
    by_cases hl0 : len = 0
    · subst hl0; exact ⟨[], by simp, .inl ⟨rfl, some a, cap, rfl⟩⟩
    · obtain ⟨b, off, spot⟩ := a
      obtain ⟨x, hx, _⟩ := hw 0 (by omega)
      have hspot : spot = none := by simpa [Addr.add] using World.cell?_spot hx
      subst hspot
      obtain ⟨F, hF⟩ := Classical.skolem.1 (fun i : Fin len => hw i.1 i.2)
      refine ⟨List.ofFn F, by simp; omega, .inr ⟨b, off, cap, by simp, fun k hk => ?_⟩⟩
      have hk' : k < len := by simpa using hk
      have := hF ⟨k, hk'⟩
      rw [add_plain, add_plain, add_plain] at this
      simpa [Nat.add_assoc] using this
end Go.Proofs.Ytaececpphdaciaa

namespace Go.Proofs.Ytaececpphdaciaa
open Go.ChangeShapes Go.RowKit
variable {H : Type} {enc : TypeId × Value → H} {P : Program} {w : World} {base : Nat} {spare : Nat → Bool} {held : Bool}

theorem trodAll_five {t t' t'' t3 t4 : TypeId} {args : Array Value} {ds : List (DataW H)} {ps : List MemPlace} (h : DataW.TrodAll enc P w base spare held [t, t', t'', t3, t4] args.toList ds ps) :
    ∃ v v' v'' v3 v4 d d' d'' d3 d4 p p' p'' p3 p4, args = #[v, v', v'', v3, v4] ∧ ds = [d, d', d'', d3, d4] ∧ ps = p ++ p' ++ p'' ++ p3 ++ p4 ∧ DataW.Trod enc P w base spare held t v d p ∧ DataW.Trod enc P w base spare held t' v' d' p' ∧ DataW.Trod enc P w base spare held t'' v'' d'' p'' ∧ DataW.Trod enc P w base spare held t3 v3 d3 p3 ∧ DataW.Trod enc P w base spare held t4 v4 d4 p4 := by
  obtain ⟨v, vs, d, ds', p, q, hargs, rfl, rfl, hd, hrest⟩ := trodAll_cons h
  obtain ⟨v', vs', d', ds'', p', q', rfl, rfl, rfl, hd', hrest'⟩ := trodAll_cons hrest
  obtain ⟨v'', vs'', d'', ds''', p'', q'', rfl, rfl, rfl, hd'', hrest''⟩ := trodAll_cons hrest'
  obtain ⟨v3, vs3, d3, ds3, p3, q3, rfl, rfl, rfl, hd3, hrest3⟩ := trodAll_cons hrest''
  obtain ⟨v4, vs4, d4, ds4, p4, q4, rfl, rfl, rfl, hd4, hrest4⟩ := trodAll_cons hrest3
  obtain ⟨rfl, rfl, rfl⟩ := trodAll_nil hrest4
  exact ⟨v, v', v'', v3, v4, d, d', d'', d3, d4, p, p', p'', p3, p4, by cases args; simp_all, rfl, by simp, hd, hd', hd'', hd3, hd4⟩
theorem trodAll_mk5 {t t' t'' t3 t4 : TypeId} {v v' v'' v3 v4 : Value} {d d' d'' d3 d4 : DataW H} {p p' p'' p3 p4 : List MemPlace} (h : DataW.Trod enc P w base spare held t v d p) (h' : DataW.Trod enc P w base spare held t' v' d' p')
    (h'' : DataW.Trod enc P w base spare held t'' v'' d'' p'') (h3 : DataW.Trod enc P w base spare held t3 v3 d3 p3) (h4 : DataW.Trod enc P w base spare held t4 v4 d4 p4) : DataW.TrodAll enc P w base spare held [t, t', t'', t3, t4] [v, v', v'', v3, v4] [d, d', d'', d3, d4] (p ++ (p' ++ (p'' ++ (p3 ++ p4)))) := ⟨p, p' ++ (p'' ++ (p3 ++ p4)), h, trodAll_mk4 h' h'' h3 h4, rfl⟩
end Go.Proofs.Ytaececpphdaciaa

namespace Go.Proofs.Ytaececpphdaciaa
open Go.RowKit

/-- What WeightAt answers. -/
def wAt (ws : List W3) (v : Int) : Int := ws.foldl (fun s e => if (e.1 == v) = true ∨ (e.2.1 == v) = true then wrap64 (s + e.2.2) else s) 0
theorem wAt_snoc (ws : List W3) (k : Nat) (h : k < ws.length) (v : Int) : wAt (ws.take (k + 1)) v = if (ws[k].1 == v) = true ∨ (ws[k].2.1 == v) = true then wrap64 (wAt (ws.take k) v + ws[k].2.2) else wAt (ws.take k) v := by
  unfold wAt; rw [List.take_succ_eq_append_getElem h, List.foldl_append]; rfl
theorem wAt_yes (ws : List W3) (k : Nat) (h : k < ws.length) (v : Int) (hy : (ws[k].1 == v) = true ∨ (ws[k].2.1 == v) = true) : wAt (ws.take (k + 1)) v = wrap64 (wAt (ws.take k) v + ws[k].2.2) := by
  rw [wAt_snoc ws k h, if_pos hy]
theorem wAt_no (ws : List W3) (k : Nat) (h : k < ws.length) (v : Int) (h1 : (ws[k].1 == v) = false) (h2 : (ws[k].2.1 == v) = false) : wAt (ws.take (k + 1)) v = wAt (ws.take k) v := by
  rw [wAt_snoc ws k h, if_neg (by simp [h1, h2])]

set_option maxHeartbeats 800000 in
theorem spec_wAt (n e s x : Int) (v : Value) (ws : List W3) (w : World) (hr : ReadsW w v ws) :
    Calls Try.prog 134 #[.agg #[.int .i64 n, .int .i64 e, .int .i64 s, v], .int .i64 x] w fun en w' => en = .returned (.int .i64 (wAt ws x)) ∧ Below w.heap.size w w' := by
  obtain ⟨hm, hr1⟩ := hr
  rcases hr1 with ⟨hx, p, cap, rfl⟩ | ⟨g, o, cap, rfl, hc⟩
  · subst hx
    have HF := Lib.hid (show wAt [] x = 0 from rfl)
    go_enter Try.func134, Try.ntmps134
    go_wp2
    refine wp_loop_rounds 1 ?_
    rw [rounds_succ]
    go_wp2
    go_ret
    exact ⟨ret_i HF.out.symm, by (repeat (first | exact Below.refl _ _ | (refine Below.setCell ?_ (by (first | exact Nat.le_refl _ | omega | (simp <;> omega) | simp)) _) | (refine Below.alloc ?_ (by (first | exact Nat.le_refl _ | omega | (simp <;> omega) | simp)) _) | (refine below_draws ?_ _)))⟩
  · have HC := Lib.hid hc; clear hc
    go_enter Try.func134, Try.ntmps134
    go_wp2
    go_loopw [5, 11] (fun q i wr => ∃ (k : Nat), k ≤ ws.length ∧ i = .int .i64 k ∧ q = .int .i64 (wAt (ws.take k) x) ∧ Below w.heap.size w wr) (fun _ i _ => ws.length - (intOf i).toNat)
    case atStart => exact ⟨0, Nat.zero_le _, rfl, rfl, by (repeat (first | exact Below.refl _ _ | (refine Below.setCell ?_ (by (first | exact Nat.le_refl _ | omega | (simp <;> omega) | simp)) _) | (refine Below.alloc ?_ (by (first | exact Nat.le_refl _ | omega | (simp <;> omega) | simp)) _) | (refine below_draws ?_ _)))⟩
    case round =>
      obtain ⟨k, hk, rfl, rfl, hB⟩ := hrel
      by_cases hlt : k < ws.length
      · obtain ⟨c0, c1, c2⟩ := HC.out k hlt
        have hg := World.block_lt_of_cell? w _ c0
        have hS := hB.size
        rw [← hB.cell (p := ⟨g, o + k * 3, none⟩) hg] at c0
        rw [← hB.cell (p := ⟨g, o + k * 3 + 1, none⟩) hg] at c1
        rw [← hB.cell (p := ⟨g, o + k * 3 + 2, none⟩) hg] at c2
        by_cases h1 : (ws[k].1 == x) = true
        · have HS := Lib.hid (wAt_yes ws k hlt x (.inl h1))
          go_wp2
          go_roundw
          case rel => exact ⟨k + 1, by omega, by go_num, by rw [HS.out], by (repeat (first | exact Below.refl _ _ | (refine Below.setCell ?_ (by (first | exact Nat.le_refl _ | omega | (simp <;> omega) | simp)) _) | (refine Below.alloc ?_ (by (first | exact Nat.le_refl _ | omega | (simp <;> omega) | simp)) _) | (refine below_draws ?_ _) | exact hB | (refine Below.trans ?_ (Below.mono hB (by (first | exact Nat.le_refl _ | omega | (simp <;> omega) | simp))))))⟩
          case measure => simp [intOf]; omega
        · have h1 : (ws[k].1 == x) = false := by simpa using h1
          by_cases h2 : (ws[k].2.1 == x) = true
          · have HS := Lib.hid (wAt_yes ws k hlt x (.inr h2))
            go_wp2
            go_roundw
            case rel => exact ⟨k + 1, by omega, by go_num, by rw [HS.out], by (repeat (first | exact Below.refl _ _ | (refine Below.setCell ?_ (by (first | exact Nat.le_refl _ | omega | (simp <;> omega) | simp)) _) | (refine Below.alloc ?_ (by (first | exact Nat.le_refl _ | omega | (simp <;> omega) | simp)) _) | (refine below_draws ?_ _) | exact hB | (refine Below.trans ?_ (Below.mono hB (by (first | exact Nat.le_refl _ | omega | (simp <;> omega) | simp))))))⟩
            case measure => simp [intOf]; omega
          · have h2 : (ws[k].2.1 == x) = false := by simpa using h2
            have HS := Lib.hid (wAt_no ws k hlt x h1 h2)
            go_wp2
            go_roundw
            case rel => exact ⟨k + 1, by omega, by go_num, by rw [HS.out], by (repeat (first | exact Below.refl _ _ | (refine Below.setCell ?_ (by (first | exact Nat.le_refl _ | omega | (simp <;> omega) | simp)) _) | (refine Below.alloc ?_ (by (first | exact Nat.le_refl _ | omega | (simp <;> omega) | simp)) _) | (refine below_draws ?_ _) | exact hB | (refine Below.trans ?_ (Below.mono hB (by (first | exact Nat.le_refl _ | omega | (simp <;> omega) | simp))))))⟩
            case measure => simp [intOf]; omega
      · obtain rfl : k = ws.length := by omega
        go_wp2
        go_ret
        exact ⟨ret_i (by rw [List.take_length]), hB⟩

set_option maxHeartbeats 800000 in
theorem impl_wAt (n e s x : Int) (v : Value) (ws : List W3) (w : World) (hr : ReadsW w v ws) :
    Calls Try.prog 21 #[.agg #[.int .i64 n, .int .i64 e, .int .i64 s, v], .int .i64 x] w fun en w' => en = .returned (.int .i64 (wAt ws x)) ∧ Below w.heap.size w w' := by
  obtain ⟨hm, hr1⟩ := hr
  rcases hr1 with ⟨hx, p, cap, rfl⟩ | ⟨g, o, cap, rfl, hc⟩
  · subst hx
    have HF := Lib.hid (show wAt [] x = 0 from rfl)
    go_enter Try.func21, Try.ntmps21
    go_wp2
    refine wp_loop_rounds 1 ?_
    rw [rounds_succ]
    go_wp2
    go_ret
    exact ⟨ret_i HF.out.symm, by (repeat (first | exact Below.refl _ _ | (refine Below.setCell ?_ (by (first | exact Nat.le_refl _ | omega | (simp <;> omega) | simp)) _) | (refine Below.alloc ?_ (by (first | exact Nat.le_refl _ | omega | (simp <;> omega) | simp)) _) | (refine below_draws ?_ _)))⟩
  · have HC := Lib.hid hc; clear hc
    go_enter Try.func21, Try.ntmps21
    go_wp2
    go_loopw [5, 11] (fun q i wr => ∃ (k : Nat), k ≤ ws.length ∧ i = .int .i64 k ∧ q = .int .i64 (wAt (ws.take k) x) ∧ Below w.heap.size w wr) (fun _ i _ => ws.length - (intOf i).toNat)
    case atStart => exact ⟨0, Nat.zero_le _, rfl, rfl, by (repeat (first | exact Below.refl _ _ | (refine Below.setCell ?_ (by (first | exact Nat.le_refl _ | omega | (simp <;> omega) | simp)) _) | (refine Below.alloc ?_ (by (first | exact Nat.le_refl _ | omega | (simp <;> omega) | simp)) _) | (refine below_draws ?_ _)))⟩
    case round =>
      obtain ⟨k, hk, rfl, rfl, hB⟩ := hrel
      by_cases hlt : k < ws.length
      · obtain ⟨c0, c1, c2⟩ := HC.out k hlt
        have hg := World.block_lt_of_cell? w _ c0
        have hS := hB.size
        rw [← hB.cell (p := ⟨g, o + k * 3, none⟩) hg] at c0
        rw [← hB.cell (p := ⟨g, o + k * 3 + 1, none⟩) hg] at c1
        rw [← hB.cell (p := ⟨g, o + k * 3 + 2, none⟩) hg] at c2
        by_cases h1 : (ws[k].1 == x) = true
        · have HS := Lib.hid (wAt_yes ws k hlt x (.inl h1))
          go_wp2
          go_roundw
          case rel => exact ⟨k + 1, by omega, by go_num, by rw [HS.out], by (repeat (first | exact Below.refl _ _ | (refine Below.setCell ?_ (by (first | exact Nat.le_refl _ | omega | (simp <;> omega) | simp)) _) | (refine Below.alloc ?_ (by (first | exact Nat.le_refl _ | omega | (simp <;> omega) | simp)) _) | (refine below_draws ?_ _) | exact hB | (refine Below.trans ?_ (Below.mono hB (by (first | exact Nat.le_refl _ | omega | (simp <;> omega) | simp))))))⟩
          case measure => simp [intOf]; omega
        · have h1 : (ws[k].1 == x) = false := by simpa using h1
          by_cases h2 : (ws[k].2.1 == x) = true
          · have HS := Lib.hid (wAt_yes ws k hlt x (.inr h2))
            go_wp2
            go_roundw
            case rel => exact ⟨k + 1, by omega, by go_num, by rw [HS.out], by (repeat (first | exact Below.refl _ _ | (refine Below.setCell ?_ (by (first | exact Nat.le_refl _ | omega | (simp <;> omega) | simp)) _) | (refine Below.alloc ?_ (by (first | exact Nat.le_refl _ | omega | (simp <;> omega) | simp)) _) | (refine below_draws ?_ _) | exact hB | (refine Below.trans ?_ (Below.mono hB (by (first | exact Nat.le_refl _ | omega | (simp <;> omega) | simp))))))⟩
            case measure => simp [intOf]; omega
          · have h2 : (ws[k].2.1 == x) = false := by simpa using h2
            have HS := Lib.hid (wAt_no ws k hlt x h1 h2)
            go_wp2
            go_roundw
            case rel => exact ⟨k + 1, by omega, by go_num, by rw [HS.out], by (repeat (first | exact Below.refl _ _ | (refine Below.setCell ?_ (by (first | exact Nat.le_refl _ | omega | (simp <;> omega) | simp)) _) | (refine Below.alloc ?_ (by (first | exact Nat.le_refl _ | omega | (simp <;> omega) | simp)) _) | (refine below_draws ?_ _) | exact hB | (refine Below.trans ?_ (Below.mono hB (by (first | exact Nat.le_refl _ | omega | (simp <;> omega) | simp))))))⟩
            case measure => simp [intOf]; omega
      · obtain rfl : k = ws.length := by omega
        go_wp2
        go_ret
        exact ⟨ret_i (by rw [List.take_length]), hB⟩
end Go.Proofs.Ytaececpphdaciaa

namespace Go.Proofs.Ytaececpphdaciaa
open Go.RowKit

theorem eqWire_same (a b c : Int) (w : World) :
    Calls Try.prog 112 #[.agg #[.int .i64 a, .int .i64 b, .int .i64 c], .agg #[.int .i64 a, .int .i64 b, .int .i64 c]] w fun e w' => e = .returned (.bool true) ∧ Below w.heap.size w w' := by
  go_enter Try.func112, Try.ntmps112
  go_wp2
  go_ret
  exact ⟨rfl, by (repeat (first | exact Below.refl _ _ | (refine Below.setCell ?_ (by (first | exact Nat.le_refl _ | omega | (simp <;> omega) | simp)) _) | (refine Below.alloc ?_ (by (first | exact Nat.le_refl _ | omega | (simp <;> omega) | simp)) _) | (refine below_draws ?_ _)))⟩

theorem six_keep {B : Nat} {W w w1 : World} {a b c d e f : Addr} {u1 u2 u3 : Value} (h : Below w.heap.size w w1)
    (k : w.cell? a = some u1 ∧ w.cell? b = some u2 ∧ w.cell? c = some u3 ∧ w.cell? d = some u1 ∧ w.cell? e = some u2 ∧ w.cell? f = some u3 ∧ B ≤ w.heap.size ∧ Below B W w) :
    w1.cell? a = some u1 ∧ w1.cell? b = some u2 ∧ w1.cell? c = some u3 ∧ w1.cell? d = some u1 ∧ w1.cell? e = some u2 ∧ w1.cell? f = some u3 ∧ B ≤ w1.heap.size ∧ Below B W w1 := by
  obtain ⟨h1, h2, h3, h4, h5, h6, h7, h8⟩ := k
  have s := h.size
  refine ⟨?_, ?_, ?_, ?_, ?_, ?_, by omega, h8.trans (h.mono h7)⟩
  · rw [h.cell (World.block_lt_of_cell? w _ h1)]; exact h1
  · rw [h.cell (World.block_lt_of_cell? w _ h2)]; exact h2
  · rw [h.cell (World.block_lt_of_cell? w _ h3)]; exact h3
  · rw [h.cell (World.block_lt_of_cell? w _ h4)]; exact h4
  · rw [h.cell (World.block_lt_of_cell? w _ h5)]; exact h5
  · rw [h.cell (World.block_lt_of_cell? w _ h6)]; exact h6

set_option maxHeartbeats 800000 in
theorem eqWireS_same (va vb : Value) (ws : List W3) (w : World) (ha : ReadsW w va ws) (hb : ReadsW w vb ws) :
    Calls Try.prog 83 #[va, vb] w fun e w' => e = .returned (.bool true) ∧ Below w.heap.size w w' := by
  obtain ⟨hm, ha2⟩ := ha
  obtain ⟨-, hb2⟩ := hb
  by_cases h0 : ws.length = 0
  · obtain ⟨p, cap, rfl⟩ := ReadsW.shape (w := w) (v := va) (ws := ws) ⟨hm, ha2⟩
    obtain ⟨q, cbp, rfl⟩ := ReadsW.shape (w := w) (v := vb) (ws := ws) ⟨hm, hb2⟩
    rw [h0]
    clear ha2 hb2 hm h0
    go_enter Try.func83, Try.ntmps83
    go_wp2
    refine wp_loop_rounds 1 ?_
    rw [rounds_succ]
    go_wp2
    go_ret
    exact ⟨rfl, by (repeat (first | exact Below.refl _ _ | (refine Below.setCell ?_ (by (first | exact Nat.le_refl _ | omega | (simp <;> omega) | simp)) _) | (refine Below.alloc ?_ (by (first | exact Nat.le_refl _ | omega | (simp <;> omega) | simp)) _) | (refine below_draws ?_ _)))⟩
  · rcases ha2 with ⟨hx, _⟩ | ⟨g, o, cap, rfl, hc⟩
    · exact absurd (by simp [hx]) h0
    rcases hb2 with ⟨hx, _⟩ | ⟨q, u, cbp, rfl, hd⟩
    · exact absurd (by simp [hx]) h0
    have HC := Lib.hid hc; clear hc
    have HD := Lib.hid hd; clear hd
    clear h0
    go_enter Try.func83, Try.ntmps83
    go_wp2
    go_loopw [5] (fun i wr => ∃ (k : Nat), k ≤ ws.length ∧ i = .int .i64 k ∧ Below w.heap.size w wr) (fun i _ => ws.length - (intOf i).toNat)
    case atStart => exact ⟨0, Nat.zero_le _, rfl, by (repeat (first | exact Below.refl _ _ | (refine Below.setCell ?_ (by (first | exact Nat.le_refl _ | omega | (simp <;> omega) | simp)) _) | (refine Below.alloc ?_ (by (first | exact Nat.le_refl _ | omega | (simp <;> omega) | simp)) _) | (refine below_draws ?_ _)))⟩
    case round =>
      obtain ⟨k, hk, rfl, hB⟩ := hrel
      by_cases hlt : k < ws.length
      · obtain ⟨c0, c1, c2⟩ := HC.out k hlt
        obtain ⟨d0, d1, d2⟩ := HD.out k hlt
        have hg := World.block_lt_of_cell? w _ c0
        have hq := World.block_lt_of_cell? w _ d0
        have hS0 := hB.size
        rw [← hB.cell (p := ⟨g, o + k * 3, none⟩) hg] at c0
        rw [← hB.cell (p := ⟨g, o + k * 3 + 1, none⟩) hg] at c1
        rw [← hB.cell (p := ⟨g, o + k * 3 + 2, none⟩) hg] at c2
        rw [← hB.cell (p := ⟨q, u + k * 3, none⟩) hq] at d0
        rw [← hB.cell (p := ⟨q, u + k * 3 + 1, none⟩) hq] at d1
        rw [← hB.cell (p := ⟨q, u + k * 3 + 2, none⟩) hq] at d2
        clear hg hq
        have hS : wr.drew.cell? ⟨g, o + k * 3, none⟩ = some (.int .i64 ws[k].1) ∧ wr.drew.cell? ⟨g, o + k * 3 + 1, none⟩ = some (.int .i64 ws[k].2.1) ∧ wr.drew.cell? ⟨g, o + k * 3 + 2, none⟩ = some (.int .i64 ws[k].2.2) ∧ wr.drew.cell? ⟨q, u + k * 3, none⟩ = some (.int .i64 ws[k].1) ∧ wr.drew.cell? ⟨q, u + k * 3 + 1, none⟩ = some (.int .i64 ws[k].2.1) ∧ wr.drew.cell? ⟨q, u + k * 3 + 2, none⟩ = some (.int .i64 ws[k].2.2) ∧ w.heap.size ≤ wr.drew.heap.size ∧ Below w.heap.size w wr.drew := ⟨c0, c1, c2, d0, d1, d2, hS0, below_draws hB 1⟩
        go_wp2
        go_region_held3 (fun w' => w'.cell? ⟨g, o + k * 3, none⟩ = some (.int .i64 ws[k].1) ∧ w'.cell? ⟨g, o + k * 3 + 1, none⟩ = some (.int .i64 ws[k].2.1) ∧ w'.cell? ⟨g, o + k * 3 + 2, none⟩ = some (.int .i64 ws[k].2.2) ∧ w'.cell? ⟨q, u + k * 3, none⟩ = some (.int .i64 ws[k].1) ∧ w'.cell? ⟨q, u + k * 3 + 1, none⟩ = some (.int .i64 ws[k].2.1) ∧ w'.cell? ⟨q, u + k * 3 + 2, none⟩ = some (.int .i64 ws[k].2.2) ∧ w.heap.size ≤ w'.heap.size ∧ Below w.heap.size w w')
          (first | exact hS)
          (first | (go_at_call 112; refine (eqWire_same _ _ _ _).mono ?_; rintro en w1 ⟨rfl, B1⟩; replace hS := six_keep B1 hS))
        all_goals
          go_wp2
          go_roundw
          case rel => exact ⟨k + 1, by omega, by go_num, hS.2.2.2.2.2.2.2⟩
          case measure => simp [intOf]; omega
      · obtain rfl : k = ws.length := by omega
        go_wp2
        go_ret
        exact ⟨rfl, by (repeat (first | exact Below.refl _ _ | (refine Below.setCell ?_ (by (first | exact Nat.le_refl _ | omega | (simp <;> omega) | simp)) _) | (refine Below.alloc ?_ (by (first | exact Nat.le_refl _ | omega | (simp <;> omega) | simp)) _) | (refine below_draws ?_ _) | exact hB | (refine Below.trans ?_ (Below.mono hB (by (first | exact Nat.le_refl _ | omega | (simp <;> omega) | simp))))))⟩

theorem eqNet_same (n e s : Int) (va vb : Value) (ws : List W3) (w : World) (ha : ReadsW w va ws) (hb : ReadsW w vb ws) :
    Calls Try.prog 34 #[.agg #[.int .i64 n, .int .i64 e, .int .i64 s, va], .agg #[.int .i64 n, .int .i64 e, .int .i64 s, vb]] w fun en w' => en = .returned (.bool true) ∧ Below w.heap.size w w' := by
  have hB0 : Below w.heap.size w ((w.alloc (.cells #[.int .i64 n, .int .i64 e, .int .i64 s, va] 25)).alloc (.cells #[.int .i64 n, .int .i64 e, .int .i64 s, vb] 25)) := by (repeat (first | exact Below.refl _ _ | (refine Below.setCell ?_ (by (first | exact Nat.le_refl _ | omega | (simp <;> omega) | simp)) _) | (refine Below.alloc ?_ (by (first | exact Nat.le_refl _ | omega | (simp <;> omega) | simp)) _) | (refine below_draws ?_ _)))
  have hc := eqWireS_same va vb ws _ (ha.later hB0) (hb.later hB0)
  go_enter Try.func34, Try.ntmps34
  go_wp2_with fail
  refine hc.mono ?_
  rintro en w1 ⟨rfl, B1⟩
  go_wp2
  go_ret
  exact ⟨rfl, by (repeat (first | exact Below.refl _ _ | (refine Below.setCell ?_ (by (first | exact Nat.le_refl _ | omega | (simp <;> omega) | simp)) _) | (refine Below.alloc ?_ (by (first | exact Nat.le_refl _ | omega | (simp <;> omega) | simp)) _) | (refine below_draws ?_ _) | exact B1 | (refine Below.trans ?_ (Below.mono B1 (by (first | exact Nat.le_refl _ | omega | (simp <;> omega) | simp))))))⟩

/-! ### marks -/
/-- n wires of running numbers from k on. -/
def mks (k n : Nat) : List W3 := (List.range n).map fun i => (((k + i * 3 : Nat) : Int), ((k + i * 3 + 1 : Nat) : Int), ((k + i * 3 + 2 : Nat) : Int))
theorem mks_length (k n : Nat) : (mks k n).length = n := by simp [mks]
theorem mks_get (k n i : Nat) (h : i < (mks k n).length) : (mks k n)[i] = (((k + i * 3 : Nat) : Int), ((k + i * 3 + 1 : Nat) : Int), ((k + i * 3 + 2 : Nat) : Int)) := by simp [mks]
theorem mks_take (k n i : Nat) (h : i ≤ n) : (mks k n).take i = mks k i := by
  unfold mks; rw [← List.map_take, List.take_range, Nat.min_eq_left h]

theorem grown_trans {a b c : World} {row : Option Nat} (h : a.grownBy b row) (k : b.grownBy c row) : a.grownBy c row :=
  ⟨k.os.trans h.os, k.tape.trans h.tape, k.output.trans h.output, Nat.le_trans h.size k.size, fun i hi hr => (k.block i (Nat.lt_of_lt_of_le hi h.size) hr).trans (h.block i hi hr)⟩
theorem grown_of_below {w w' : World} {row : Option Nat} (h : Below w.heap.size w w') : w.grownBy w' row :=
  ⟨h.os, h.tape, h.output, h.size, fun i hi _ => h.block i hi⟩
theorem ReadsW.kept {w w' : World} {row : Option Nat} {v : Value} {ws : List W3} (h : ReadsW w v ws) (hg : w.grownBy w' row) (hne : v.ownBlock = none ∨ v.ownBlock ≠ row) : ReadsW w' v ws := by
  refine ⟨h.1, ?_⟩
  rcases h.2 with h0 | ⟨g, o, cap, rfl, hc⟩
  · exact .inl h0
  · have hr : some g ≠ row := by
      rcases hne with h | h
      · exact absurd h (by simp [Value.ownBlock])
      · exact h
    refine .inr ⟨g, o, cap, rfl, fun k hk => ?_⟩
    obtain ⟨a, b, c⟩ := hc k hk
    exact ⟨hg.cell a hr, hg.cell b hr, hg.cell c hr⟩

set_option maxHeartbeats 800000 in
theorem markWireS_any (v : Value) (n k : Nat) (xs : List Value) (base : Nat) (w : World) (hk : 1 ≤ k) (hkn : k + n * 3 ≤ 8000000) (h : w.ownsRow base 29 3 v n xs) :
    Calls Try.prog 84 #[v, .int .i64 k] w fun e w' => e = .returned (.int .i64 ((k + n * 3 : Nat) : Int)) ∧ w'.ownsRow base 29 3 v n (cellsW (mks k n)) ∧ w.grownBy w' v.ownBlock := by
  have hl := h.1
  have h0 := h
  rcases h.2 with ⟨rfl, rfl⟩ | ⟨g, cap, cur, rfl, hg, hh, hnc, hcm, _, _⟩
  · go_enter Try.func84, Try.ntmps84
    go_wp2
    refine wp_loop_rounds 1 ?_
    rw [rounds_succ]
    go_wp2
    go_ret
    exact ⟨rfl, World.ownsRow_nil _ _ _ _, World.grownBy.refl _ _⟩
  · unfold maxLen at hcm
    clear hh h
    have HL := Lib.hid hl; clear hl
    go_enter Try.func84, Try.ntmps84
    go_wp2
    go_loopw [1, 5] (fun q i wr => ∃ (j : Nat) (ys : List Value), j ≤ n ∧ i = .int .i64 j ∧ q = .int .i64 ((k + j * 3 : Nat) : Int) ∧ wr.ownsRow base 29 3 (.slice (some ⟨g, 0, none⟩) n cap) n ys ∧ Hid (ys.take (j * 3) = cellsW (mks k j)) ∧ Hid (w.grownBy wr (some g))) (fun _ i _ => n - (intOf i).toNat)
    case atStart => exact ⟨0, xs, Nat.zero_le _, rfl, rfl, h0, rfl, Lib.hid (World.grownBy.refl _ _)⟩
    case round =>
      obtain ⟨j, ys, hj, rfl, rfl, hown, hh, hB⟩ := hrel
      by_cases hlt : j < n
      · have hyl : ys.length = n * 3 := by have := hown.1; omega
        have d0 := hown.cellAt (j * 3) (by omega)
        have d1 := hown.cellAt (j * 3 + 1) (by omega)
        have d2 := hown.cellAt (j * 3 + 2) (by omega)
        rw [List.getElem?_eq_getElem (by omega)] at d0 d1 d2
        have f0 := hown.frozenAt (j * 3)
        have f1 := hown.frozenAt (j * 3 + 1)
        have f2 := hown.frozenAt (j * 3 + 2)
        have s1 := hown.stored (j * 3) (.int .i64 ((k + j * 3 : Nat) : Int))
        have s2 := s1.1.stored (j * 3 + 1) (.int .i64 ((k + j * 3 + 1 : Nat) : Int))
        have s3 := s2.1.stored (j * 3 + 2) (.int .i64 ((k + j * 3 + 2 : Nat) : Int))
        have HG : Hid (w.grownBy _ (some g)) := Lib.hid (grown_trans (grown_trans (grown_trans hB.out s1.2) s2.2) s3.2)
        have HT := Lib.hid (set3_take ys (mks k n) j (by rw [mks_length]; exact hlt) (by rw [mks_length]; exact hyl) (by rw [mks_take k n j (by omega)]; exact hh.out))
        rw [mks_get] at HT
        rw [mks_take k n (j + 1) (by omega)] at HT
        have HO := Lib.hid s3.1
        clear s1 s2 s3
        go_wp2
        go_roundw
        case rel =>
          refine ⟨j + 1, _, by omega, by go_num, by go_num, ?_, HT, ?_⟩
          · have := HO.out; simpa [Int.add_assoc] using this
          · have := HG.out; exact Lib.hid (by simpa [Int.add_assoc] using this)
        case measure => simp [intOf]; omega
      · have hyl : ys.length = n * 3 := by have := hown.1; omega
        go_wp2
        go_ret
        have hjn : j = n := by omega
        subst hjn
        refine ⟨by congr 1, ?_, hB.out⟩
        have e := hh.out
        rw [List.take_of_length_le (by omega)] at e
        rw [← e]; exact hown

set_option maxHeartbeats 800000 in
theorem heldWireS_any (v : Value) (n k : Nat) (w : World) (hk : 1 ≤ k) (hkn : k + n * 3 ≤ 8000000) (h : ReadsW w v (mks k n)) :
    Calls Try.prog 85 #[v, .int .i64 k] w fun e w' => e = .returned (.int .i64 ((k + n * 3 : Nat) : Int)) ∧ w = w' := by
  have hl := mks_length k n
  obtain ⟨hm, h2⟩ := h
  rcases h2 with ⟨hx, p, cap, rfl⟩ | ⟨g, o, cap, rfl, hc⟩
  · have hn : n = 0 := by rw [hx] at hl; simpa using hl.symm
    subst hn
    clear hl hx hm
    go_enter Try.func85, Try.ntmps85
    go_wp2
    refine wp_loop_rounds 1 ?_
    rw [rounds_succ]
    go_wp2
    go_ret
    exact ⟨rfl, rfl⟩
  · have hc : ∀ j, j < n → w.cell? ⟨g, o + j * 3, none⟩ = some (.int .i64 ((k + j * 3 : Nat) : Int)) ∧ w.cell? ⟨g, o + j * 3 + 1, none⟩ = some (.int .i64 ((k + j * 3 + 1 : Nat) : Int)) ∧ w.cell? ⟨g, o + j * 3 + 2, none⟩ = some (.int .i64 ((k + j * 3 + 2 : Nat) : Int)) := fun j hj => by
      have := hc j (by omega)
      rw [mks_get] at this
      exact this
    rw [hl] at hm ⊢
    clear hl
    have HC := Lib.hid hc; clear hc
    go_enter Try.func85, Try.ntmps85
    go_wp2
    go_loopw [1, 5] (fun q i wr => ∃ (j : Nat), j ≤ n ∧ i = .int .i64 j ∧ q = .int .i64 ((k + j * 3 : Nat) : Int) ∧ wr = w) (fun _ i _ => n - (intOf i).toNat)
    case atStart => exact ⟨0, Nat.zero_le _, rfl, rfl, rfl⟩
    case round =>
      obtain ⟨j, hj, rfl, rfl, rfl⟩ := hrel
      by_cases hlt : j < n
      · obtain ⟨c0, c1, c2⟩ := HC.out j hlt
        go_wp2
        go_roundw
        case rel => exact ⟨j + 1, by omega, by go_num, by go_num, by first | trivial | rfl⟩
        case measure => simp [intOf]; omega
      · go_wp2
        go_ret
        have hjn : j = n := by omega
        subst hjn
        exact ⟨by congr 1, by trivial⟩

theorem markNet_at (q a e s : Int) (p : Option Addr) (cap : Nat) (n k : Nat) (xs : List Value) (base : Nat) (w : World) (hq : q = k) (hk : 1 ≤ k) (hkn : k + n * 3 ≤ 8000000) (h : w.ownsRow base 29 3 (.slice p n cap) n xs) :
    Calls Try.prog 35 #[.agg #[.int .i64 a, .int .i64 e, .int .i64 s, .slice p n cap], .int .i64 q] w fun en w' => en = .returned (.int .i64 (q + n * 3)) ∧ w'.ownsRow base 29 3 (.slice p n cap) n (cellsW (mks k n)) ∧ w.grownBy w' (Value.slice p n cap).ownBlock := by
  subst hq
  have hg : w.grownBy (w.alloc (.cells #[.int .i64 a, .int .i64 e, .int .i64 s, .slice p n cap] 25)) (Value.slice p n cap).ownBlock := World.grownBy_alloc _ _ _
  have ho := h.alloc (.cells #[.int .i64 a, .int .i64 e, .int .i64 s, .slice p n cap] 25)
  have hc := markWireS_any (.slice p n cap) n k xs base _ hk hkn ho
  go_enter Try.func35, Try.ntmps35
  go_wp2_with fail
  refine hc.mono ?_
  rintro en w1 ⟨rfl, o1, g1⟩
  go_wp2
  go_ret
  exact ⟨by congr 1, o1, grown_trans hg g1⟩
theorem heldNet_at (q a e s : Int) (p : Option Addr) (cap : Nat) (n k : Nat) (w : World) (hq : q = k) (hk : 1 ≤ k) (hkn : k + n * 3 ≤ 8000000) (h : ReadsW w (.slice p n cap) (mks k n)) :
    Calls Try.prog 36 #[.agg #[.int .i64 a, .int .i64 e, .int .i64 s, .slice p n cap], .int .i64 q] w fun en w' => en = .returned (.int .i64 (q + n * 3)) ∧ Below w.heap.size w w' := by
  subst hq
  have hB0 : Below w.heap.size w (w.alloc (.cells #[.int .i64 a, .int .i64 e, .int .i64 s, .slice p n cap] 25)) := by (repeat (first | exact Below.refl _ _ | (refine Below.setCell ?_ (by (first | exact Nat.le_refl _ | omega | (simp <;> omega) | simp)) _) | (refine Below.alloc ?_ (by (first | exact Nat.le_refl _ | omega | (simp <;> omega) | simp)) _) | (refine below_draws ?_ _)))
  have hc := heldWireS_any (.slice p n cap) n k _ hk hkn (h.later hB0)
  go_enter Try.func36, Try.ntmps36
  go_wp2_with fail
  refine hc.mono ?_
  rintro en w1 ⟨rfl, rfl⟩
  go_wp2
  go_ret
  exact ⟨by congr 1, by (repeat (first | exact Below.refl _ _ | (refine Below.setCell ?_ (by (first | exact Nat.le_refl _ | omega | (simp <;> omega) | simp)) _) | (refine Below.alloc ?_ (by (first | exact Nat.le_refl _ | omega | (simp <;> omega) | simp)) _) | (refine below_draws ?_ _)))⟩
end Go.Proofs.Ytaececpphdaciaa

namespace Go.Proofs.Ytaececpphdaciaa
open Go.RowKit

theorem net2_keep {lo g q : Nat} {w0 w w1 : World} {a0 a1 a2 a3 b0 b1 b2 b3 va vb : Value} {ws vs : List W3} (h : Below w.heap.size w w1)
    (k : (w.cell? ⟨g, 0, none⟩ = some a0 ∧ w.cell? ⟨g, 1, none⟩ = some a1 ∧ w.cell? ⟨g, 2, none⟩ = some a2 ∧ w.cell? ⟨g, 3, none⟩ = some a3) ∧ (w.cell? ⟨q, 0, none⟩ = some b0 ∧ w.cell? ⟨q, 1, none⟩ = some b1 ∧ w.cell? ⟨q, 2, none⟩ = some b2 ∧ w.cell? ⟨q, 3, none⟩ = some b3) ∧ ReadsW w va ws ∧ ReadsW w vb vs ∧ lo ≤ w.heap.size ∧ Below lo w0 w) :
    (w1.cell? ⟨g, 0, none⟩ = some a0 ∧ w1.cell? ⟨g, 1, none⟩ = some a1 ∧ w1.cell? ⟨g, 2, none⟩ = some a2 ∧ w1.cell? ⟨g, 3, none⟩ = some a3) ∧ (w1.cell? ⟨q, 0, none⟩ = some b0 ∧ w1.cell? ⟨q, 1, none⟩ = some b1 ∧ w1.cell? ⟨q, 2, none⟩ = some b2 ∧ w1.cell? ⟨q, 3, none⟩ = some b3) ∧ ReadsW w1 va ws ∧ ReadsW w1 vb vs ∧ lo ≤ w1.heap.size ∧ Below lo w0 w1 := by
  obtain ⟨⟨x0, x1, x2, x3⟩, ⟨y0, y1, y2, y3⟩, ra, rb, s, b⟩ := k
  have hg := World.block_lt_of_cell? w _ x0
  have hq := World.block_lt_of_cell? w _ y0
  have sz := h.size
  refine ⟨⟨?_, ?_, ?_, ?_⟩, ⟨?_, ?_, ?_, ?_⟩, ra.later h, rb.later h, by omega, b.trans (h.mono s)⟩
  · exact (h.cell (p := ⟨g, 0, none⟩) hg).trans x0
  · exact (h.cell (p := ⟨g, 1, none⟩) hg).trans x1
  · exact (h.cell (p := ⟨g, 2, none⟩) hg).trans x2
  · exact (h.cell (p := ⟨g, 3, none⟩) hg).trans x3
  · exact (h.cell (p := ⟨q, 0, none⟩) hq).trans y0
  · exact (h.cell (p := ⟨q, 1, none⟩) hq).trans y1
  · exact (h.cell (p := ⟨q, 2, none⟩) hq).trans y2
  · exact (h.cell (p := ⟨q, 3, none⟩) hq).trans y3
theorem net2_drew {lo g q : Nat} {w0 w : World} {a0 a1 a2 a3 b0 b1 b2 b3 va vb : Value} {ws vs : List W3}
    (k : (w.cell? ⟨g, 0, none⟩ = some a0 ∧ w.cell? ⟨g, 1, none⟩ = some a1 ∧ w.cell? ⟨g, 2, none⟩ = some a2 ∧ w.cell? ⟨g, 3, none⟩ = some a3) ∧ (w.cell? ⟨q, 0, none⟩ = some b0 ∧ w.cell? ⟨q, 1, none⟩ = some b1 ∧ w.cell? ⟨q, 2, none⟩ = some b2 ∧ w.cell? ⟨q, 3, none⟩ = some b3) ∧ ReadsW w va ws ∧ ReadsW w vb vs ∧ lo ≤ w.heap.size ∧ Below lo w0 w) :
    (w.drew.cell? ⟨g, 0, none⟩ = some a0 ∧ w.drew.cell? ⟨g, 1, none⟩ = some a1 ∧ w.drew.cell? ⟨g, 2, none⟩ = some a2 ∧ w.drew.cell? ⟨g, 3, none⟩ = some a3) ∧ (w.drew.cell? ⟨q, 0, none⟩ = some b0 ∧ w.drew.cell? ⟨q, 1, none⟩ = some b1 ∧ w.drew.cell? ⟨q, 2, none⟩ = some b2 ∧ w.drew.cell? ⟨q, 3, none⟩ = some b3) ∧ ReadsW w.drew va ws ∧ ReadsW w.drew vb vs ∧ lo ≤ w.drew.heap.size ∧ Below lo w0 w.drew :=
  ⟨k.1, k.2.1, k.2.2.1, k.2.2.2.1, k.2.2.2.2.1, below_draws k.2.2.2.2.2 1⟩
end Go.Proofs.Ytaececpphdaciaa

namespace Go.Proofs.Ytaececpphdaciaa
open Go.RowKit

theorem netk2_2 {w1 : World} {lo : Nat} {g0 g1 : Nat} {w0 w : World} {a0_0 a0_1 a0_2 a0_3 a1_0 a1_1 a1_2 a1_3 v0 v1 : Value} {r0 r1 : List W3} (h : Below w.heap.size w w1) (k : (w.cell? ⟨g0, 0, none⟩ = some a0_0 ∧ w.cell? ⟨g0, 1, none⟩ = some a0_1 ∧ w.cell? ⟨g0, 2, none⟩ = some a0_2 ∧ w.cell? ⟨g0, 3, none⟩ = some a0_3) ∧ (w.cell? ⟨g1, 0, none⟩ = some a1_0 ∧ w.cell? ⟨g1, 1, none⟩ = some a1_1 ∧ w.cell? ⟨g1, 2, none⟩ = some a1_2 ∧ w.cell? ⟨g1, 3, none⟩ = some a1_3) ∧ ReadsW w v0 r0 ∧ ReadsW w v1 r1 ∧ lo ≤ w.heap.size ∧ Below lo w0 w) :
    (w1.cell? ⟨g0, 0, none⟩ = some a0_0 ∧ w1.cell? ⟨g0, 1, none⟩ = some a0_1 ∧ w1.cell? ⟨g0, 2, none⟩ = some a0_2 ∧ w1.cell? ⟨g0, 3, none⟩ = some a0_3) ∧ (w1.cell? ⟨g1, 0, none⟩ = some a1_0 ∧ w1.cell? ⟨g1, 1, none⟩ = some a1_1 ∧ w1.cell? ⟨g1, 2, none⟩ = some a1_2 ∧ w1.cell? ⟨g1, 3, none⟩ = some a1_3) ∧ ReadsW w1 v0 r0 ∧ ReadsW w1 v1 r1 ∧ lo ≤ w1.heap.size ∧ Below lo w0 w1 := by
  obtain ⟨⟨x0_0, x0_1, x0_2, x0_3⟩, ⟨x1_0, x1_1, x1_2, x1_3⟩, q0, q1, s, b⟩ := k
  have sz := h.size
  have hg0 := World.block_lt_of_cell? w _ x0_0
  have hg1 := World.block_lt_of_cell? w _ x1_0
  refine ⟨⟨?_, ?_, ?_, ?_⟩, ⟨?_, ?_, ?_, ?_⟩, q0.later h, q1.later h, by omega, b.trans (h.mono s)⟩
  · exact (h.cell (p := ⟨g0, 0, none⟩) hg0).trans x0_0
  · exact (h.cell (p := ⟨g0, 1, none⟩) hg0).trans x0_1
  · exact (h.cell (p := ⟨g0, 2, none⟩) hg0).trans x0_2
  · exact (h.cell (p := ⟨g0, 3, none⟩) hg0).trans x0_3
  · exact (h.cell (p := ⟨g1, 0, none⟩) hg1).trans x1_0
  · exact (h.cell (p := ⟨g1, 1, none⟩) hg1).trans x1_1
  · exact (h.cell (p := ⟨g1, 2, none⟩) hg1).trans x1_2
  · exact (h.cell (p := ⟨g1, 3, none⟩) hg1).trans x1_3
theorem netd2_2 {lo : Nat} {g0 g1 : Nat} {w0 w : World} {a0_0 a0_1 a0_2 a0_3 a1_0 a1_1 a1_2 a1_3 v0 v1 : Value} {r0 r1 : List W3} (k : (w.cell? ⟨g0, 0, none⟩ = some a0_0 ∧ w.cell? ⟨g0, 1, none⟩ = some a0_1 ∧ w.cell? ⟨g0, 2, none⟩ = some a0_2 ∧ w.cell? ⟨g0, 3, none⟩ = some a0_3) ∧ (w.cell? ⟨g1, 0, none⟩ = some a1_0 ∧ w.cell? ⟨g1, 1, none⟩ = some a1_1 ∧ w.cell? ⟨g1, 2, none⟩ = some a1_2 ∧ w.cell? ⟨g1, 3, none⟩ = some a1_3) ∧ ReadsW w v0 r0 ∧ ReadsW w v1 r1 ∧ lo ≤ w.heap.size ∧ Below lo w0 w) :
    (w.drew.cell? ⟨g0, 0, none⟩ = some a0_0 ∧ w.drew.cell? ⟨g0, 1, none⟩ = some a0_1 ∧ w.drew.cell? ⟨g0, 2, none⟩ = some a0_2 ∧ w.drew.cell? ⟨g0, 3, none⟩ = some a0_3) ∧ (w.drew.cell? ⟨g1, 0, none⟩ = some a1_0 ∧ w.drew.cell? ⟨g1, 1, none⟩ = some a1_1 ∧ w.drew.cell? ⟨g1, 2, none⟩ = some a1_2 ∧ w.drew.cell? ⟨g1, 3, none⟩ = some a1_3) ∧ ReadsW w.drew v0 r0 ∧ ReadsW w.drew v1 r1 ∧ lo ≤ w.drew.heap.size ∧ Below lo w0 w.drew := by
  obtain ⟨⟨x0_0, x0_1, x0_2, x0_3⟩, ⟨x1_0, x1_1, x1_2, x1_3⟩, q0, q1, s, b⟩ := k
  exact ⟨⟨x0_0, x0_1, x0_2, x0_3⟩, ⟨x1_0, x1_1, x1_2, x1_3⟩, q0, q1, s, below_draws b 1⟩
theorem netk4_4 {w1 : World} {lo : Nat} {g0 g1 g2 g3 : Nat} {w0 w : World} {a0_0 a0_1 a0_2 a0_3 a1_0 a1_1 a1_2 a1_3 a2_0 a2_1 a2_2 a2_3 a3_0 a3_1 a3_2 a3_3 v0 v1 v2 v3 : Value} {r0 r1 r2 r3 : List W3} (h : Below w.heap.size w w1) (k : (w.cell? ⟨g0, 0, none⟩ = some a0_0 ∧ w.cell? ⟨g0, 1, none⟩ = some a0_1 ∧ w.cell? ⟨g0, 2, none⟩ = some a0_2 ∧ w.cell? ⟨g0, 3, none⟩ = some a0_3) ∧ (w.cell? ⟨g1, 0, none⟩ = some a1_0 ∧ w.cell? ⟨g1, 1, none⟩ = some a1_1 ∧ w.cell? ⟨g1, 2, none⟩ = some a1_2 ∧ w.cell? ⟨g1, 3, none⟩ = some a1_3) ∧ (w.cell? ⟨g2, 0, none⟩ = some a2_0 ∧ w.cell? ⟨g2, 1, none⟩ = some a2_1 ∧ w.cell? ⟨g2, 2, none⟩ = some a2_2 ∧ w.cell? ⟨g2, 3, none⟩ = some a2_3) ∧ (w.cell? ⟨g3, 0, none⟩ = some a3_0 ∧ w.cell? ⟨g3, 1, none⟩ = some a3_1 ∧ w.cell? ⟨g3, 2, none⟩ = some a3_2 ∧ w.cell? ⟨g3, 3, none⟩ = some a3_3) ∧ ReadsW w v0 r0 ∧ ReadsW w v1 r1 ∧ ReadsW w v2 r2 ∧ ReadsW w v3 r3 ∧ lo ≤ w.heap.size ∧ Below lo w0 w) :
    (w1.cell? ⟨g0, 0, none⟩ = some a0_0 ∧ w1.cell? ⟨g0, 1, none⟩ = some a0_1 ∧ w1.cell? ⟨g0, 2, none⟩ = some a0_2 ∧ w1.cell? ⟨g0, 3, none⟩ = some a0_3) ∧ (w1.cell? ⟨g1, 0, none⟩ = some a1_0 ∧ w1.cell? ⟨g1, 1, none⟩ = some a1_1 ∧ w1.cell? ⟨g1, 2, none⟩ = some a1_2 ∧ w1.cell? ⟨g1, 3, none⟩ = some a1_3) ∧ (w1.cell? ⟨g2, 0, none⟩ = some a2_0 ∧ w1.cell? ⟨g2, 1, none⟩ = some a2_1 ∧ w1.cell? ⟨g2, 2, none⟩ = some a2_2 ∧ w1.cell? ⟨g2, 3, none⟩ = some a2_3) ∧ (w1.cell? ⟨g3, 0, none⟩ = some a3_0 ∧ w1.cell? ⟨g3, 1, none⟩ = some a3_1 ∧ w1.cell? ⟨g3, 2, none⟩ = some a3_2 ∧ w1.cell? ⟨g3, 3, none⟩ = some a3_3) ∧ ReadsW w1 v0 r0 ∧ ReadsW w1 v1 r1 ∧ ReadsW w1 v2 r2 ∧ ReadsW w1 v3 r3 ∧ lo ≤ w1.heap.size ∧ Below lo w0 w1 := by
  obtain ⟨⟨x0_0, x0_1, x0_2, x0_3⟩, ⟨x1_0, x1_1, x1_2, x1_3⟩, ⟨x2_0, x2_1, x2_2, x2_3⟩, ⟨x3_0, x3_1, x3_2, x3_3⟩, q0, q1, q2, q3, s, b⟩ := k
  have sz := h.size
  have hg0 := World.block_lt_of_cell? w _ x0_0
  have hg1 := World.block_lt_of_cell? w _ x1_0
  have hg2 := World.block_lt_of_cell? w _ x2_0
  have hg3 := World.block_lt_of_cell? w _ x3_0
  refine ⟨⟨?_, ?_, ?_, ?_⟩, ⟨?_, ?_, ?_, ?_⟩, ⟨?_, ?_, ?_, ?_⟩, ⟨?_, ?_, ?_, ?_⟩, q0.later h, q1.later h, q2.later h, q3.later h, by omega, b.trans (h.mono s)⟩
  · exact (h.cell (p := ⟨g0, 0, none⟩) hg0).trans x0_0
  · exact (h.cell (p := ⟨g0, 1, none⟩) hg0).trans x0_1
  · exact (h.cell (p := ⟨g0, 2, none⟩) hg0).trans x0_2
  · exact (h.cell (p := ⟨g0, 3, none⟩) hg0).trans x0_3
  · exact (h.cell (p := ⟨g1, 0, none⟩) hg1).trans x1_0
  · exact (h.cell (p := ⟨g1, 1, none⟩) hg1).trans x1_1
  · exact (h.cell (p := ⟨g1, 2, none⟩) hg1).trans x1_2
  · exact (h.cell (p := ⟨g1, 3, none⟩) hg1).trans x1_3
  · exact (h.cell (p := ⟨g2, 0, none⟩) hg2).trans x2_0
  · exact (h.cell (p := ⟨g2, 1, none⟩) hg2).trans x2_1
  · exact (h.cell (p := ⟨g2, 2, none⟩) hg2).trans x2_2
  · exact (h.cell (p := ⟨g2, 3, none⟩) hg2).trans x2_3
  · exact (h.cell (p := ⟨g3, 0, none⟩) hg3).trans x3_0
  · exact (h.cell (p := ⟨g3, 1, none⟩) hg3).trans x3_1
  · exact (h.cell (p := ⟨g3, 2, none⟩) hg3).trans x3_2
  · exact (h.cell (p := ⟨g3, 3, none⟩) hg3).trans x3_3
theorem netd4_4 {lo : Nat} {g0 g1 g2 g3 : Nat} {w0 w : World} {a0_0 a0_1 a0_2 a0_3 a1_0 a1_1 a1_2 a1_3 a2_0 a2_1 a2_2 a2_3 a3_0 a3_1 a3_2 a3_3 v0 v1 v2 v3 : Value} {r0 r1 r2 r3 : List W3} (k : (w.cell? ⟨g0, 0, none⟩ = some a0_0 ∧ w.cell? ⟨g0, 1, none⟩ = some a0_1 ∧ w.cell? ⟨g0, 2, none⟩ = some a0_2 ∧ w.cell? ⟨g0, 3, none⟩ = some a0_3) ∧ (w.cell? ⟨g1, 0, none⟩ = some a1_0 ∧ w.cell? ⟨g1, 1, none⟩ = some a1_1 ∧ w.cell? ⟨g1, 2, none⟩ = some a1_2 ∧ w.cell? ⟨g1, 3, none⟩ = some a1_3) ∧ (w.cell? ⟨g2, 0, none⟩ = some a2_0 ∧ w.cell? ⟨g2, 1, none⟩ = some a2_1 ∧ w.cell? ⟨g2, 2, none⟩ = some a2_2 ∧ w.cell? ⟨g2, 3, none⟩ = some a2_3) ∧ (w.cell? ⟨g3, 0, none⟩ = some a3_0 ∧ w.cell? ⟨g3, 1, none⟩ = some a3_1 ∧ w.cell? ⟨g3, 2, none⟩ = some a3_2 ∧ w.cell? ⟨g3, 3, none⟩ = some a3_3) ∧ ReadsW w v0 r0 ∧ ReadsW w v1 r1 ∧ ReadsW w v2 r2 ∧ ReadsW w v3 r3 ∧ lo ≤ w.heap.size ∧ Below lo w0 w) :
    (w.drew.cell? ⟨g0, 0, none⟩ = some a0_0 ∧ w.drew.cell? ⟨g0, 1, none⟩ = some a0_1 ∧ w.drew.cell? ⟨g0, 2, none⟩ = some a0_2 ∧ w.drew.cell? ⟨g0, 3, none⟩ = some a0_3) ∧ (w.drew.cell? ⟨g1, 0, none⟩ = some a1_0 ∧ w.drew.cell? ⟨g1, 1, none⟩ = some a1_1 ∧ w.drew.cell? ⟨g1, 2, none⟩ = some a1_2 ∧ w.drew.cell? ⟨g1, 3, none⟩ = some a1_3) ∧ (w.drew.cell? ⟨g2, 0, none⟩ = some a2_0 ∧ w.drew.cell? ⟨g2, 1, none⟩ = some a2_1 ∧ w.drew.cell? ⟨g2, 2, none⟩ = some a2_2 ∧ w.drew.cell? ⟨g2, 3, none⟩ = some a2_3) ∧ (w.drew.cell? ⟨g3, 0, none⟩ = some a3_0 ∧ w.drew.cell? ⟨g3, 1, none⟩ = some a3_1 ∧ w.drew.cell? ⟨g3, 2, none⟩ = some a3_2 ∧ w.drew.cell? ⟨g3, 3, none⟩ = some a3_3) ∧ ReadsW w.drew v0 r0 ∧ ReadsW w.drew v1 r1 ∧ ReadsW w.drew v2 r2 ∧ ReadsW w.drew v3 r3 ∧ lo ≤ w.drew.heap.size ∧ Below lo w0 w.drew := by
  obtain ⟨⟨x0_0, x0_1, x0_2, x0_3⟩, ⟨x1_0, x1_1, x1_2, x1_3⟩, ⟨x2_0, x2_1, x2_2, x2_3⟩, ⟨x3_0, x3_1, x3_2, x3_3⟩, q0, q1, q2, q3, s, b⟩ := k
  exact ⟨⟨x0_0, x0_1, x0_2, x0_3⟩, ⟨x1_0, x1_1, x1_2, x1_3⟩, ⟨x2_0, x2_1, x2_2, x2_3⟩, ⟨x3_0, x3_1, x3_2, x3_3⟩, q0, q1, q2, q3, s, below_draws b 1⟩
end Go.Proofs.Ytaececpphdaciaa

namespace Go.Proofs.Ytaececpphdaciaa
open Go.RowKit

theorem mark_far {w w' : World} {row : Option Nat} (h : w.grownBy w' row) {lo hi : Nat} (hr : ∀ k, row = some k → lo ≤ k ∧ k < hi) : ∀ b o u, (b < lo ∨ hi ≤ b) → w.cell? ⟨b, o, none⟩ = some u → w'.cell? ⟨b, o, none⟩ = some u := fun b o u hb hc =>
  h.cell hc (by intro e; have := hr b e.symm; omega)
theorem mark_below {w w' : World} {row : Option Nat} (h : w.grownBy w' row) {lo hi : Nat} (hr : ∀ k, row = some k → lo ≤ k ∧ k < hi) (hl : lo ≤ w.heap.size) : Below lo w w' :=
  (Below.refl lo w).grown h hl (fun k hk => (hr k hk).1)
theorem ReadsW.of_own' {w : World} {base : Nat} {e : TypeId} {v : Value} {k n : Nat} (h : w.ownsRow base e 3 v n (cellsW (mks k n))) : ReadsW w v (mks k n) :=
  ReadsW.of_own (by rw [mks_length]; exact h)
theorem ne_own {u : Value} {row : Option Nat} {hi : Nat} (h1 : ∀ k, u.ownBlock = some k → hi ≤ k) (h2 : ∀ k, row = some k → k < hi) : u.ownBlock = none ∨ u.ownBlock ≠ row := by
  cases hu : u.ownBlock with
  | none => exact .inl rfl
  | some k =>
    right
    rintro rfl
    have a := h1 k hu
    have b := h2 k rfl
    omega
end Go.Proofs.Ytaececpphdaciaa
