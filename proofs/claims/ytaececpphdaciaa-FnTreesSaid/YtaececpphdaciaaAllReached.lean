/-
  allReached in the program: whether every node is reached from node 0.
-/
import Derived.Test.YtaececpphdaciaaWiresOk
namespace Go.Proofs.Ytaececpphdaciaa
open Go.RowKit

def cellsB (xs : List Bool) : List Value := xs.map Value.bool
theorem cellsB_length (xs : List Bool) : (cellsB xs).length = xs.length := by simp [cellsB]
theorem cellsB_get (xs : List Bool) (k : Nat) (h : k < xs.length) : (cellsB xs)[k]? = some (.bool xs[k]) := by simp [cellsB, h]
theorem cellsB_set (xs : List Bool) (k : Nat) (b : Bool) : cellsB (xs.set k b) = (cellsB xs).set k (.bool b) := by simp [cellsB, List.map_set]

theorem index_no (g n cap : Nat) (hn : n ≤ 5) (xs : List Bool) (hx : n ≤ xs.length) (w : World) (hc : ∀ k, (h : k < n) → w.cell? ⟨g, k, none⟩ = some (.bool (xs[k]'(by omega)))) (ha : ∀ k, (h : k < n) → xs[k]'(by omega) = true) :
    Calls Try.prog 131 #[.slice (some ⟨g, 0, none⟩) n cap, .bool false] w fun en w' => en = .returned (.int .i64 (-1)) ∧ w = w' := by
  have HC : Hid (∀ k, (h : k < n) → w.cell? ⟨g, k, none⟩ = some (.bool true)) := Lib.hid fun k h => by rw [hc k h, ha k h]
  clear hc ha
  go_enter Try.func131, Try.ntmps131
  go_wp2
  go_loopw [8] (fun i wr => ∃ (k : Nat), k ≤ n ∧ i = .int .i64 k ∧ wr = w) (fun i _ => n - (intOf i).toNat)
  case atStart => exact ⟨0, Nat.zero_le _, rfl, rfl⟩
  case round =>
    obtain ⟨k, hk, rfl, rfl⟩ := hrel
    by_cases hlt : k < n
    · have c0 := HC.out k hlt
      go_wp2
      go_roundw
      case rel => exact ⟨k + 1, by omega, by go_num, by first | trivial | rfl⟩
      case measure => simp [intOf]; omega
    · obtain rfl : k = n := by omega
      go_wp2
      go_ret
      exact ⟨rfl, by first | trivial | rfl⟩
theorem index_yes (g n cap : Nat) (hn : n ≤ 5) (xs : List Bool) (hx : n ≤ xs.length) (w : World) (hc : ∀ k, (h : k < n) → w.cell? ⟨g, k, none⟩ = some (.bool (xs[k]'(by omega)))) (k0 : Nat) (h0 : k0 < n) (hf : xs[k0]'(by omega) = false) (ha : ∀ k, (h : k < k0) → xs[k]'(by omega) = true) :
    Calls Try.prog 131 #[.slice (some ⟨g, 0, none⟩) n cap, .bool false] w fun en w' => en = .returned (.int .i64 (k0 : Int)) ∧ w = w' := by
  have HC : Hid (∀ k, (h : k < k0) → w.cell? ⟨g, k, none⟩ = some (.bool true)) := Lib.hid fun k h => by rw [hc k (by omega), ha k h]
  have h1 : w.cell? ⟨g, k0, none⟩ = some (.bool false) := by rw [hc k0 h0, hf]
  clear hc ha hf
  go_enter Try.func131, Try.ntmps131
  go_wp2
  go_loopw [8] (fun i wr => ∃ (k : Nat), k ≤ k0 ∧ i = .int .i64 k ∧ wr = w) (fun i _ => n - (intOf i).toNat)
  case atStart => exact ⟨0, Nat.zero_le _, rfl, rfl⟩
  case round =>
    obtain ⟨k, hk, rfl, rfl⟩ := hrel
    have hlt : k < n := by omega
    by_cases hkk : k < k0
    · have c0 := HC.out k hkk
      go_wp2
      go_roundw
      case rel => exact ⟨k + 1, by omega, by go_num, by first | trivial | rfl⟩
      case measure => simp [intOf]; omega
    · obtain rfl : k = k0 := by omega
      go_wp2
      go_ret
      exact ⟨rfl, by first | trivial | rfl⟩
/-- Whether one of the first n marks is missing. -/
def lacks (n : Nat) (xs : List Bool) : Bool := decide (∃ k, k < n ∧ xs[k]? = some false)
theorem contains_any (g n cap : Nat) (hn : n ≤ 5) (xs : List Bool) (hx : n ≤ xs.length) (w : World) (hc : ∀ k, (h : k < n) → w.cell? ⟨g, k, none⟩ = some (.bool (xs[k]'(by omega)))) :
    Calls Try.prog 120 #[.slice (some ⟨g, 0, none⟩) n cap, .bool false] w fun en w' => en = .returned (.bool (lacks n xs)) ∧ w = w' := by
  by_cases hx : ∃ k, ∃ h : k < n, xs[k]'(by omega) = false
  · obtain ⟨k1, hk1⟩ := hx
    obtain ⟨k0, ⟨h0, hf⟩, hmin⟩ := least (fun k => ∃ h : k < n, xs[k]'(by omega) = false) k1 hk1
    have hi := index_yes g n cap hn xs (by omega) w hc k0 h0 hf (fun k h => by
      have := hmin k h
      cases hb : xs[k]'(by omega)
      · exact absurd ⟨by omega, hb⟩ this
      · rfl)
    have HF : Hid (lacks n xs = true) := Lib.hid (by unfold lacks; rw [decide_eq_true_eq]; exact ⟨k0, h0, by rw [List.getElem?_eq_getElem (by omega), hf]⟩)
    clear hc hmin hk1
    go_enter Try.func120, Try.ntmps120
    go_wp2_with fail
    refine hi.mono ?_
    rintro en w1 ⟨rfl, rfl⟩
    go_wp2
    go_ret
    exact ⟨ret_b HF.out.symm, rfl⟩
  · have hi := index_no g n cap hn xs (by omega) w hc (fun k h => by
      cases hb : xs[k]'(by omega)
      · exact absurd ⟨k, h, hb⟩ hx
      · rfl)
    have HF : Hid (lacks n xs = false) := Lib.hid (by unfold lacks; rw [decide_eq_false_iff_not]; rintro ⟨k, h, he⟩; rw [List.getElem?_eq_getElem (by omega)] at he; exact hx ⟨k, h, by simpa using he⟩)
    clear hc hx
    go_enter Try.func120, Try.ntmps120
    go_wp2_with fail
    refine hi.mono ?_
    rintro en w1 ⟨rfl, rfl⟩
    go_wp2
    go_ret
    exact ⟨ret_b HF.out.symm, rfl⟩

/-- Marks after p passes. -/
def Pass (ws : List W3) (xs : List Bool) (p : Nat) : Prop := MarksOk ws xs ∧ (Closed ws xs ∨ p + 1 ≤ xs.count true)
/-- Within a pass that began at ys: k wires done. -/
def InPass (ws : List W3) (ys xs : List Bool) (p k : Nat) : Prop :=
  MarksOk ws xs ∧ (Closed ws ys → xs = ys) ∧ ((xs = ys ∧ ∀ j, (h : j < ws.length) → j < k → xs[ws[j].1.toNat]? = xs[ws[j].2.1.toNat]?) ∨ ys.count true + 1 ≤ xs.count true) ∧ Pass ws ys p
theorem Pass.start (ws : List W3) : Pass ws [true, false, false, false, false] 0 :=
  ⟨⟨rfl, rfl, fun k hk ht => by
    rcases k with _ | k
    · exact Rch.zero ws
    · exfalso; rcases k with _ | _ | _ | _ | k <;> simp at ht hk <;> omega⟩, .inr (by decide)⟩
theorem InPass.start {ws : List W3} {ys : List Bool} {p : Nat} (h : Pass ws ys p) : InPass ws ys ys p 0 := ⟨h.1, fun _ => rfl, .inl ⟨rfl, fun j _ h => absurd h (by omega)⟩, h⟩
theorem InPass.next {n : Int} {ws : List W3} {ys xs : List Bool} {p k : Nat} (hw : WiresV n ws) (hn : n ≤ 5) (h : InPass ws ys xs p k) (hk : k < ws.length) : InPass ws ys (mark2 xs ws[k].1.toNat ws[k].2.1.toNat) p (k + 1) := by
  obtain ⟨h1, h2, h3, h4⟩ := h
  have hm : ws[k] ∈ ws := List.getElem_mem hk
  obtain ⟨v1, v2, v3, -, -⟩ := hw.mem hm
  have hl := h1.1
  have hi : ws[k].1.toNat < xs.length := by omega
  have hj : ws[k].2.1.toNat < xs.length := by omega
  refine ⟨marks_step hw hn h1 hm, fun hc => ?_, ?_, h4⟩
  · have e := h2 hc
    have hx : xs[ws[k].1.toNat] = xs[ws[k].2.1.toNat] := by
      have := hc _ hm
      rw [← e, List.getElem?_eq_getElem hi, List.getElem?_eq_getElem hj] at this
      simpa using this
    rw [mark2_same hi hj hx, e]
  · by_cases hx : xs[ws[k].1.toNat] = xs[ws[k].2.1.toNat]
    · rw [mark2_same hi hj hx]
      rcases h3 with ⟨e, h3⟩ | h3
      · refine .inl ⟨e, fun j hjl hjk => ?_⟩
        by_cases hc : j < k
        · exact h3 j hjl hc
        · obtain rfl : j = k := by omega
          rw [List.getElem?_eq_getElem hi, List.getElem?_eq_getElem hj, hx]
      · exact .inr h3
    · right
      rw [mark2_count hi hj hx]
      rcases h3 with ⟨e, -⟩ | h3
      · rw [e]; exact Nat.le_refl _
      · omega
theorem InPass.done {ws : List W3} {ys xs : List Bool} {p : Nat} (h : InPass ws ys xs p ws.length) : Pass ws xs (p + 1) := by
  obtain ⟨h1, h2, h3, h4⟩ := h
  refine ⟨h1, ?_⟩
  rcases h3 with ⟨e, h3⟩ | h3
  · left
    intro w hw
    obtain ⟨j, hj, rfl⟩ := List.getElem_of_mem hw
    exact h3 j hj hj
  · rcases h4.2 with h5 | h5
    · left; rw [h2 h5]; exact h5
    · right; omega
noncomputable def connB (n : Int) (ws : List W3) : Bool := @decide (Conn n ws) (Classical.propDecidable _)
theorem connB_iff {n : Int} {ws : List W3} : connB n ws = true ↔ Conn n ws := by simp [connB]
theorem Pass.conn {n : Int} {ws : List W3} {xs : List Bool} {p : Nat} (hw : WiresV n ws) (hn1 : 1 ≤ n) (hn : n ≤ 5) (h : Pass ws xs p) (hp : n.toNat ≤ p) : (!lacks n.toNat xs) = connB n ws := by
  have hc : Closed ws xs := by
    rcases h.2 with h2 | h2
    · exact h2
    · have := marks_count hw hn1 h.1; omega
  have hm := marks_conn hn1 hn h.1 hc
  rw [Bool.eq_iff_iff, connB_iff, hm]
  unfold lacks
  simp only [Bool.not_eq_true', decide_eq_false_iff_not]
  have hl := h.1.1
  constructor
  · intro h k hk
    cases hb : xs[k]'(by omega)
    · exact absurd ⟨k, hk, by rw [List.getElem?_eq_getElem (by omega), hb]⟩ h
    · rw [List.getElem?_eq_getElem (by omega), hb]
  · rintro h ⟨k, hk, he⟩
    rw [h k hk] at he
    simp at he

theorem far_cell {wr : World} {B i j c d : Nat} {u v x : Value} {o : Obj} (hB : B ≠ c) (hc : c < wr.heap.size) (h : wr.cell? ⟨c, d, none⟩ = some x) : (((wr.setCell ⟨B, i, none⟩ u).setCell ⟨B, j, none⟩ v).alloc o).drew.cell? ⟨c, d, none⟩ = some x := by
  show World.cell? (World.alloc _ _) _ = _
  rw [World.cell?_alloc_old _ _ _ (show c ≠ _ by simp; omega), World.cell?_setCell_far _ _ _ _ (show B ≠ c from hB), World.cell?_setCell_far _ _ _ _ (show B ≠ c from hB)]
  exact h
theorem mark2_cells (xs : List Bool) (i j : Nat) (b : Bool) (hb : (xs.getD i false || xs.getD j false) = b) : cellsB (mark2 xs i j) = ((cellsB xs).set i (.bool b)).set j (.bool b) := by
  subst hb; simp [mark2, cellsB_set]

set_option maxRecDepth 4000 in
set_option maxHeartbeats 6400000 in
theorem reached_any (n e s : Int) (v : Value) (ws : List W3) (w : World) (hr : ReadsW w v ws) (hw : WiresV n ws) (hn1 : 1 ≤ n) (hn5 : n ≤ 5) :
    Calls Try.prog 99 #[.agg #[.int .i64 n, .int .i64 e, .int .i64 s, v]] w fun en w' => en = .returned (.bool (connB n ws)) ∧ Below w.heap.size w w' := by
  obtain ⟨N, rfl⟩ : ∃ N : Nat, n = N := ⟨n.toNat, by omega⟩
  obtain ⟨hm, hr1⟩ := id hr
  rcases hr1 with ⟨hx, p, cap, rfl⟩ | ⟨g, o, cap, rfl, hc⟩
  · subst hx
    clear hr
    have HW := Lib.hid hw; clear hw
    have HP : Hid (Pass [] [true, false, false, false, false] 0) := Lib.hid (Pass.start [])
    go_enter Try.func99, Try.ntmps99
    go_wp2
    go_loopw [10] (fun i wr => ∃ (q : Nat) (ys : List Bool), q ≤ N ∧ i = .int .i64 q ∧ Hid (Pass [] ys q) ∧ wr.ownsRow (w.heap.size + 1) 122 1 (.slice (some ⟨w.heap.size + 1, 0, none⟩) 5 5) 5 (cellsB ys) ∧ wr.cell? ⟨w.heap.size, 0, none⟩ = some (.int .i64 N) ∧ wr.cell? ⟨w.heap.size, 3, none⟩ = some (.slice p 0 cap) ∧ w.heap.size + 1 < wr.heap.size ∧ Hid (Below w.heap.size w wr)) (fun i _ => N - (intOf i).toNat)
    case atStart =>
      refine ⟨0, _, Nat.zero_le _, rfl, HP, ?_, by simp, by simp, by simp, Lib.hid (by (repeat (first | exact Below.refl _ _ | (refine Below.setCell ?_ (by (first | exact Nat.le_refl _ | omega | (simp <;> omega) | simp)) _) | (refine Below.alloc ?_ (by (first | exact Nat.le_refl _ | omega | (simp <;> omega) | simp)) _) | (refine below_draws ?_ _))))⟩
      have h := World.ownsRow_lit (e := 122) (size := 1) (base := w.heap.size + 1) (w.alloc (.cells #[.int .i64 N, .int .i64 e, .int .i64 s, .slice p 0 cap] 25)) #[.bool true, .bool false, .bool false, .bool false, .bool false] 5 (by simp) (by unfold maxLen; omega) rfl
      simpa [cellsB] using h
    case round =>
      obtain ⟨q, ys, hp, rfl, hP, hown, b0, b3, hsz, hB⟩ := hrel
      by_cases hlt : q < N
      · go_wp2
        refine wp_loop_rounds 1 ?_
        rw [rounds_succ]
        go_wp2
        go_roundw
        case rel => exact ⟨q + 1, ys, by omega, by go_num, Lib.hid (InPass.done (ws := []) (InPass.start hP.out)), hown, b0, b3, hsz, hB⟩
        case measure => simp [intOf]; omega
      · obtain rfl : q = N := by omega
        have hF := hP.out.conn HW.out hn1 hn5 (by omega)
        rw [Int.toNat_natCast] at hF
        have hl := hP.out.1.1
        have hcon := contains_any (w.heap.size + 1) q 5 (by omega) ys (by omega) wr (fun k h => by rw [hown.cellAt k (by omega), cellsB_get ys k (by omega)])
        have HF := Lib.hid hF; clear hF
        go_wp2_with fail
        refine hcon.mono ?_
        rintro en w1 ⟨rfl, rfl⟩
        go_wp2
        go_ret
        exact ⟨ret_b HF.out, hB.out⟩
  have HC := Lib.hid hc; clear hc
  have HW := Lib.hid hw; clear hw
  clear hr
  have HP := Lib.hid (Pass.start ws)
  go_enter Try.func99, Try.ntmps99
  go_wp2
  go_loopw [10] (fun i wr => ∃ (p : Nat) (ys : List Bool), p ≤ N ∧ i = .int .i64 p ∧ Hid (Pass ws ys p) ∧ wr.ownsRow (w.heap.size + 1) 122 1 (.slice (some ⟨w.heap.size + 1, 0, none⟩) 5 5) 5 (cellsB ys) ∧ wr.cell? ⟨w.heap.size, 0, none⟩ = some (.int .i64 N) ∧ wr.cell? ⟨w.heap.size, 3, none⟩ = some (.slice (some ⟨g, o, none⟩) ws.length cap) ∧ w.heap.size + 1 < wr.heap.size ∧ Hid (Below w.heap.size w wr)) (fun i _ => N - (intOf i).toNat)
  case atStart =>
    refine ⟨0, _, Nat.zero_le _, rfl, HP, ?_, by simp, by simp, by simp, Lib.hid (by (repeat (first | exact Below.refl _ _ | (refine Below.setCell ?_ (by (first | exact Nat.le_refl _ | omega | (simp <;> omega) | simp)) _) | (refine Below.alloc ?_ (by (first | exact Nat.le_refl _ | omega | (simp <;> omega) | simp)) _) | (refine below_draws ?_ _))))⟩
    have h := World.ownsRow_lit (e := 122) (size := 1) (base := w.heap.size + 1) (w.alloc (.cells #[.int .i64 N, .int .i64 e, .int .i64 s, .slice (some ⟨g, o, none⟩) ws.length cap] 25)) #[.bool true, .bool false, .bool false, .bool false, .bool false] 5 (by simp) (by unfold maxLen; omega) rfl
    simpa [cellsB] using h
  case round =>
    obtain ⟨p, ys, hp, rfl, hP, hown, b0, b3, hsz, hB⟩ := hrel
    by_cases hlt : p < N
    · have hI := Lib.hid (InPass.start hP.out)
      go_wp2
      go_loopw [15] (fun i wi => ∃ (k : Nat) (xs : List Bool), k ≤ ws.length ∧ i = .int .i64 k ∧ Hid (InPass ws ys xs p k) ∧ wi.ownsRow (w.heap.size + 1) 122 1 (.slice (some ⟨w.heap.size + 1, 0, none⟩) 5 5) 5 (cellsB xs) ∧ wi.cell? ⟨w.heap.size, 0, none⟩ = some (.int .i64 N) ∧ wi.cell? ⟨w.heap.size, 3, none⟩ = some (.slice (some ⟨g, o, none⟩) ws.length cap) ∧ w.heap.size + 1 < wi.heap.size ∧ Hid (Below w.heap.size w wi)) (fun i _ => ws.length - (intOf i).toNat)
      case atStart => exact ⟨0, ys, Nat.zero_le _, rfl, hI, hown, b0, b3, hsz, hB⟩
      case round =>
        clear hown b0 b3 hsz hB hI
        obtain ⟨k, xs, hk, rfl, hI, hown, b0, b3, hsz, hB⟩ := hrel
        by_cases hkl : k < ws.length
        · obtain ⟨v0, v1, v2, -, -⟩ := HW.out.1 k hkl
          obtain ⟨c0, c1, c2⟩ := HC.out k hkl
          have hg : g < w.heap.size := World.block_lt_of_cell? w _ c0
          rw [← hB.out.cell (p := ⟨g, o + k * 3, none⟩) hg] at c0
          rw [← hB.out.cell (p := ⟨g, o + k * 3 + 1, none⟩) hg] at c1
          rw [← hB.out.cell (p := ⟨g, o + k * 3 + 2, none⟩) hg] at c2
          obtain ⟨A, hA⟩ : ∃ A : Nat, ws[k].1 = (A : Int) := ⟨ws[k].1.toNat, by omega⟩
          obtain ⟨E, hE⟩ : ∃ E : Nat, ws[k].2.1 = (E : Int) := ⟨ws[k].2.1.toNat, by omega⟩
          have hl := hI.out.1.1
          have hN := InPass.next HW.out hn5 hI.out hkl
          rw [hA] at c0 v0 v1
          rw [hE] at c1 v1 v2
          rw [hA, hE] at hN
          simp only [Int.toNat_natCast] at hN
          have hA5 : A < 5 := by omega
          have hE5 : E < 5 := by omega
          have cA := hown.cellAt A (by omega)
          have cE := hown.cellAt E (by omega)
          rw [cellsB_get xs A (by omega)] at cA
          rw [cellsB_get xs E (by omega)] at cE
          have fA := hown.frozenAt A
          have fE := hown.frozenAt E
          have hne : w.heap.size + 1 ≠ wr.heap.size := by omega
          have hne2 : w.heap.size ≠ wr.heap.size := by omega
          have hgr : g ≠ wr.heap.size := by omega
          have hAE : A ≠ E := by omega
          obtain ⟨b, hb⟩ : ∃ b, (xs.getD A false || xs.getD E false) = b := ⟨_, rfl⟩
          have hcl := mark2_cells xs A E b hb
          simp only [List.getD, List.getElem?_eq_getElem (show A < xs.length by omega), List.getElem?_eq_getElem (show E < xs.length by omega), Option.getD_some] at hb
          have HN := Lib.hid hN; clear hN
          have HCL := Lib.hid hcl; clear hcl
          have ho1 := Lib.hid (((hown.stored A (.bool b)).1.stored E (.bool b)).1.alloc (.cells #[.int .i64 A, .int .i64 E, .int .i64 ws[k].2.2] 29))
          have ho2 := Lib.hid (((hown.stored E (.bool b)).1.stored A (.bool b)).1.alloc (.cells #[.int .i64 A, .int .i64 E, .int .i64 ws[k].2.2] 29))
          have hcm := Lib.hid (List.set_comm (.bool b) (.bool b) (l := cellsB xs) hAE)
          generalize xs[A] = x at cA hb
          generalize xs[E] = y at cE hb
          have hl := Lib.hid hl
          clear hA hE hI
          cases x
          · rw [Bool.false_or] at hb
            rw [hb] at cE
            clear hb
            go_wp2
            go_region_with (fail)
            all_goals
              go_wp2
              go_roundw
              case rel => exact ⟨k + 1, mark2 xs A E, by omega, by go_num, HN, by first | (rw [HCL.out]; exact ho1.out) | (rw [HCL.out, hcm.out]; exact ho2.out), far_cell (by omega) (by omega) b0, far_cell (by omega) (by omega) b3, by simp; omega, Lib.hid (by have hB := hB.out; (repeat (first | exact Below.refl _ _ | (refine Below.setCell ?_ (by (first | exact Nat.le_refl _ | omega | (simp <;> omega) | simp)) _) | (refine Below.alloc ?_ (by (first | exact Nat.le_refl _ | omega | (simp <;> omega) | simp)) _) | (refine below_draws ?_ _) | exact hB | (refine Below.trans ?_ (Below.mono hB (by (first | exact Nat.le_refl _ | omega | (simp <;> omega) | simp)))))))⟩
              case measure => simp [intOf]; omega
          · rw [Bool.true_or] at hb
            subst hb
            go_wp2
            go_region_with (fail)
            all_goals
              go_wp2
              go_roundw
              case rel => exact ⟨k + 1, mark2 xs A E, by omega, by go_num, HN, by first | (rw [HCL.out]; exact ho1.out) | (rw [HCL.out, hcm.out]; exact ho2.out), far_cell (by omega) (by omega) b0, far_cell (by omega) (by omega) b3, by simp; omega, Lib.hid (by have hB := hB.out; (repeat (first | exact Below.refl _ _ | (refine Below.setCell ?_ (by (first | exact Nat.le_refl _ | omega | (simp <;> omega) | simp)) _) | (refine Below.alloc ?_ (by (first | exact Nat.le_refl _ | omega | (simp <;> omega) | simp)) _) | (refine below_draws ?_ _) | exact hB | (refine Below.trans ?_ (Below.mono hB (by (first | exact Nat.le_refl _ | omega | (simp <;> omega) | simp)))))))⟩
              case measure => simp [intOf]; omega
        · obtain rfl : k = ws.length := by omega
          go_wp2
          go_roundw
          case rel => exact ⟨p + 1, xs, by omega, by go_num, Lib.hid hI.out.done, hown, b0, b3, hsz, hB⟩
          case measure => simp [intOf]; omega
    · obtain rfl : p = N := by omega
      have hF := hP.out.conn HW.out hn1 hn5 (by omega)
      rw [Int.toNat_natCast] at hF
      have hl := hP.out.1.1
      have hcon := contains_any (w.heap.size + 1) p 5 (by omega) ys (by omega) wr (fun k h => by rw [hown.cellAt k (by omega), cellsB_get ys k (by omega)])
      have HF := Lib.hid hF; clear hF
      go_wp2_with fail
      refine hcon.mono ?_
      rintro en w1 ⟨rfl, rfl⟩
      go_wp2
      go_ret
      exact ⟨ret_b HF.out, hB.out⟩
end Go.Proofs.Ytaececpphdaciaa
