/-
  Slices of numbers: how they read; the laws' copies, comparisons, marks and sizes of them.
-/
import Derived.Test.YtidgggdgblfanaaReach
namespace Go.Proofs.Ytidgggdgblfanaa
open Go.RowKit

/-- The slice v reads as the numbers q. -/
def ReadsI (w : World) (v : Value) (q : List Int) : Prop :=
  ∃ p cap, v = .slice p q.length cap ∧ q.length ≤ cap ∧ cap ≤ 9223372036854775807 ∧ (q = [] ∨ ∃ g o, p = some ⟨g, o, none⟩ ∧ ∀ k (h : k < q.length), w.cell? ⟨g, o + k, none⟩ = some (.int .i64 q[k]))

theorem ReadsI.later {w w' : World} {v : Value} {q : List Int} (h : ReadsI w v q) (hB : Below w.heap.size w w') : ReadsI w' v q := by
  obtain ⟨p, cap, rfl, h1, h2, h3⟩ := h
  refine ⟨p, cap, rfl, h1, h2, ?_⟩
  rcases h3 with h0 | ⟨g, o, rfl, hc⟩
  · exact .inl h0
  · exact .inr ⟨g, o, rfl, fun k hk => by
      have a := hc k hk
      rw [hB.cell (p := ⟨g, o + k, none⟩) (World.block_lt_of_cell? w _ a)]; exact a⟩
theorem ReadsI.same {w w' : World} {v : Value} {q : List Int} (h : ReadsI w v q) (hB : ∀ b o u, w.cell? ⟨b, o, none⟩ = some u → w'.cell? ⟨b, o, none⟩ = some u) : ReadsI w' v q := by
  obtain ⟨p, cap, rfl, h1, h2, h3⟩ := h
  refine ⟨p, cap, rfl, h1, h2, ?_⟩
  rcases h3 with h0 | ⟨g, o, rfl, hc⟩
  · exact .inl h0
  · exact .inr ⟨g, o, rfl, fun k hk => hB _ _ _ (hc k hk)⟩
theorem ReadsI.kept {w w' : World} {row : Option Nat} {v : Value} {q : List Int} (h : ReadsI w v q) (hg : w.grownBy w' row) (hne : v.ownBlock = none ∨ v.ownBlock ≠ row) : ReadsI w' v q := by
  obtain ⟨p, cap, rfl, h1, h2, h3⟩ := h
  refine ⟨p, cap, rfl, h1, h2, ?_⟩
  rcases h3 with h0 | ⟨g, o, rfl, hc⟩
  · exact .inl h0
  · have hr : some g ≠ row := by
      rcases hne with h | h
      · exact absurd h (by simp [Value.ownBlock])
      · exact h
    exact .inr ⟨g, o, rfl, fun k hk => hg.cell (hc k hk) hr⟩
theorem ReadsI.of_own {w : World} {base : Nat} {v : Value} {q : List Int} (h : w.ownsRow base 3 1 v q.length (cellsI q)) : ReadsI w v q := by
  have hh := h
  obtain ⟨hl, h2⟩ := h
  rcases h2 with ⟨rfl, hn⟩ | ⟨g, cap, cur, rfl, hb, hg, hnc, hcm, hcs, ht⟩
  · rw [List.eq_nil_of_length_eq_zero hn]
    exact ⟨none, 0, rfl, Nat.le_refl _, by omega, .inl rfl⟩
  · unfold maxLen at hcm
    refine ⟨_, cap, rfl, hnc, by omega, .inr ⟨g, 0, rfl, fun k hk => ?_⟩⟩
    have := hh.cellAt k (by omega)
    rw [cellsI_get q k hk] at this
    simpa using this
theorem ReadsI.shape {w : World} {v : Value} {q : List Int} (h : ReadsI w v q) : ∃ p cap, v = .slice p q.length cap ∧ q.length ≤ cap ∧ cap ≤ 9223372036854775807 := by
  obtain ⟨p, cap, rfl, h1, h2, h3⟩ := h
  exact ⟨p, cap, rfl, h1, h2⟩
theorem ReadsI.nil (w : World) (p : Option Addr) (cap : Nat) (h : cap ≤ 9223372036854775807) : ReadsI w (.slice p 0 cap) [] := ⟨p, cap, rfl, Nat.zero_le _, h, .inl rfl⟩
theorem ReadsI.at {w : World} {g o n cap : Nat} {q : List Int} (h : ReadsI w (.slice (some ⟨g, o, none⟩) n cap) q) (k : Nat) (hk : k < q.length) : w.cell? ⟨g, o + k, none⟩ = some (.int .i64 q[k]) := by
  obtain ⟨p, c, he, h1, h2, h3⟩ := h
  rcases h3 with h0 | ⟨g', o', rfl, hc⟩
  · subst h0; simp at hk
  · simp only [Value.slice.injEq, Option.some.injEq, Addr.mk.injEq] at he
    obtain ⟨⟨rfl, rfl, -⟩, -, -⟩ := he
    exact hc k hk
theorem ReadsI.pos {w : World} {v : Value} {q : List Int} (h : ReadsI w v q) (hq : 0 < q.length) : ∃ g o cap, v = .slice (some ⟨g, o, none⟩) q.length cap ∧ q.length ≤ cap ∧ cap ≤ 9223372036854775807 ∧ g < w.heap.size ∧ ∀ k (h : k < q.length), w.cell? ⟨g, o + k, none⟩ = some (.int .i64 q[k]) := by
  obtain ⟨p, cap, rfl, h1, h2, h3⟩ := h
  rcases h3 with h0 | ⟨g, o, rfl, hc⟩
  · subst h0; simp at hq
  · exact ⟨g, o, cap, rfl, h1, h2, World.block_lt_of_cell? w _ (hc 0 hq), hc⟩
/-- The first i of them. -/
theorem ReadsI.take {w : World} {g o n cap : Nat} {q : List Int} (h : ReadsI w (.slice (some ⟨g, o, none⟩) n cap) q) (i : Nat) (hi : i ≤ q.length) : ReadsI w (.slice (some ⟨g, o, none⟩) i cap) (q.take i) := by
  have hat := fun k hk => h.at k hk
  obtain ⟨p, c, he, h1, h2, h3⟩ := h
  simp only [Value.slice.injEq] at he
  obtain ⟨-, rfl, rfl⟩ := he
  have hl : (q.take i).length = i := by simp; omega
  refine ⟨_, cap, by rw [hl], by omega, h2, .inr ⟨g, o, rfl, fun k hk => ?_⟩⟩
  rw [List.getElem_take]
  exact hat k (by omega)
/-- All behind the first i. -/
theorem ReadsI.drop {w : World} {g o n cap : Nat} {q : List Int} (h : ReadsI w (.slice (some ⟨g, o, none⟩) n cap) q) (i : Nat) (hi : i ≤ q.length) : ReadsI w (.slice (some ⟨g, o + i, none⟩) (n - i) (cap - i)) (q.drop i) := by
  have hat := fun k hk => h.at k hk
  obtain ⟨p, c, he, h1, h2, h3⟩ := h
  simp only [Value.slice.injEq] at he
  obtain ⟨-, rfl, rfl⟩ := he
  have hl : (q.drop i).length = q.length - i := by simp
  refine ⟨_, cap - i, by rw [hl], by omega, by omega, .inr ⟨g, o + i, rfl, fun k hk => ?_⟩⟩
  rw [List.getElem_drop, Nat.add_assoc]
  exact hat (i + k) (by omega)

/-! ### the laws' copies and comparisons -/
theorem cellsI_snoc (l : List Int) (x : Int) : cellsI (l ++ [x]) = cellsI l ++ [.int .i64 x] := by simp [cellsI]
theorem grown_trans1 {a b c : World} {row : Option Nat} (h : a.grownBy b row) (k : b.grownBy c row) : a.grownBy c row :=
  ⟨k.os.trans h.os, k.tape.trans h.tape, k.output.trans h.output, Nat.le_trans h.size k.size, fun i hi hr => (k.block i (Nat.lt_of_lt_of_le hi h.size) hr).trans (h.block i hi hr)⟩
theorem set1_take (ys : List Value) (q : List Int) (k : Nat) (hk : k < q.length) (hy : ys.length = q.length) (h : ys.take k = cellsI (q.take k)) :
    (ys.set k (.int .i64 q[k])).take (k + 1) = cellsI (q.take (k + 1)) := by
  rw [List.take_succ_eq_append_getElem hk]
  rw [cellsI_snoc, ← h, List.take_succ_eq_append_getElem (by simp; omega)]
  simp [List.take_set_of_le]

set_option maxHeartbeats 800000 in
theorem toIntS_any (v : Value) (q : List Int) (w : World) (hn : q.length ≤ 1048576) (hr : ReadsI w v q) :
    Calls Try.prog 21 #[v] w fun e w' => ∃ v', e = .returned v' ∧ w'.ownsRow w.heap.size 3 1 v' q.length (cellsI q) ∧ Below w.heap.size w w' := by
  obtain ⟨i0, hi, hz0, hz1, hz2⟩ := info_parts Try.infoInt
  obtain ⟨w1, hmk, own1, grow1⟩ := run_makeSlice_full w w.heap.size 37 3 i0 (.int .i64 0) 1 Try.underlying37 hi hz0 hz1 .i64 .i64 q.length (by omega) (by rw [hz2]; omega) (by unfold maxLen; omega) (Nat.le_refl _)
  have B1 : Below w.heap.size w w1 := (Below.refl _ _).grown grow1 (Nat.le_refl _) (fun k hk => by cases hk)
  clear grow1 hi hz0 hz1 hz2
  obtain ⟨p, cap, rfl, h1, h2, hr1⟩ := hr
  rcases hr1 with hx | ⟨g, o, rfl, hc⟩
  · subst hx
    have hmk' : (Instr.makeSlice 37 (.int .i64 0) (.int .i64 0)).run Try.prog w = .ok (.slice (some ⟨w.heap.size, 0, none⟩) 0 0) w1 := hmk
    have own2 : w1.ownsRow w.heap.size 3 1 (.slice (some ⟨w.heap.size, 0, none⟩) 0 0) 0 [] := by
      have h := List.eq_nil_of_length_eq_zero (own1.1.trans (by simp))
      rw [h] at own1; exact own1
    clear hmk
    simp only [List.length_nil]
    go_enter Try.func21, Try.ntmps21
    go_wp2
    refine wp_loop_rounds 1 ?_
    rw [rounds_succ]
    go_wp2
    go_ret
    exact ⟨_, rfl, own2, B1⟩
  · have HC := Lib.hid hc; clear hc
    go_enter Try.func21, Try.ntmps21
    go_wp2
    go_loopw [4] (fun i wr => ∃ (k : Nat) (ys : List Value), k ≤ q.length ∧ i = .int .i64 k ∧ wr.ownsRow w.heap.size 3 1 (.slice (some ⟨w.heap.size, 0, none⟩) q.length q.length) q.length ys ∧ Hid (ys.take k = cellsI (q.take k)) ∧ Below w.heap.size w wr) (fun i _ => q.length - (intOf i).toNat)
    case atStart => exact ⟨0, _, Nat.zero_le _, rfl, own1, rfl, B1⟩
    case round =>
      obtain ⟨k, ys, hk, rfl, hown, hh, hB⟩ := hrel
      by_cases hlt : k < q.length
      · have hyl : ys.length = q.length := by have := hown.1; omega
        have c0 := HC.out k hlt
        have hg := World.block_lt_of_cell? w _ c0
        rw [← hB.cell (p := ⟨g, o + k, none⟩) hg] at c0
        have d0 := hown.cellAt k (by omega)
        rw [List.getElem?_eq_getElem (by omega)] at d0
        have f0 := hown.frozenAt k
        go_wp2
        go_roundw
        case rel =>
          have s1 := (hown.stored k (.int .i64 q[k])).1
          exact ⟨k + 1, _, by omega, by go_num, s1, set1_take ys q k hlt hyl hh.out, hB.setCell (Nat.le_refl _) _⟩
        case measure => simp [intOf]; omega
      · obtain rfl : k = q.length := by omega
        go_wp2
        go_ret
        have e := hh.out
        have hyl : ys.length = q.length := by have := hown.1; omega
        rw [List.take_of_length_le (by omega), List.take_of_length_le (by simp)] at e
        rw [← e]
        exact ⟨_, rfl, hown, hB⟩

set_option maxHeartbeats 800000 in
theorem eqIntS_same (va vb : Value) (q : List Int) (w : World) (ha : ReadsI w va q) (hb : ReadsI w vb q) :
    Calls Try.prog 23 #[va, vb] w fun e w' => e = .returned (.bool true) ∧ Below w.heap.size w w' := by
  obtain ⟨p, cap, rfl, h1, h2, hr1⟩ := ha
  obtain ⟨p', cap', rfl, h1', h2', hr2⟩ := hb
  by_cases h0 : q = []
  · subst h0
    clear hr1 hr2
    go_enter Try.func23, Try.ntmps23
    go_wp2
    refine wp_loop_rounds 1 ?_
    rw [rounds_succ]
    go_wp2
    go_ret
    exact ⟨rfl, by (repeat (first | exact Below.refl _ _ | (refine Below.setCell ?_ (by (first | exact Nat.le_refl _ | omega | (simp <;> omega) | simp)) _) | (refine Below.alloc ?_ (by (first | exact Nat.le_refl _ | omega | (simp <;> omega) | simp)) _) | (refine below_draws ?_ _)))⟩
  · rcases hr1 with hx | ⟨g, o, rfl, hc⟩
    · exact absurd hx h0
    rcases hr2 with hx | ⟨g', o', rfl, hd⟩
    · exact absurd hx h0
    have HC := Lib.hid hc; clear hc
    have HD := Lib.hid hd; clear hd
    clear h0
    go_enter Try.func23, Try.ntmps23
    go_wp2
    go_loopw [5] (fun i wr => ∃ (k : Nat), k ≤ q.length ∧ i = .int .i64 k ∧ Below w.heap.size w wr) (fun i _ => q.length - (intOf i).toNat)
    case atStart => exact ⟨0, Nat.zero_le _, rfl, by (repeat (first | exact Below.refl _ _ | (refine Below.setCell ?_ (by (first | exact Nat.le_refl _ | omega | (simp <;> omega) | simp)) _) | (refine Below.alloc ?_ (by (first | exact Nat.le_refl _ | omega | (simp <;> omega) | simp)) _) | (refine below_draws ?_ _)))⟩
    case round =>
      obtain ⟨k, hk, rfl, hB⟩ := hrel
      by_cases hlt : k < q.length
      · have c0 := HC.out k hlt
        have d0 := HD.out k hlt
        have hg := World.block_lt_of_cell? w _ c0
        have hq := World.block_lt_of_cell? w _ d0
        have hS0 := hB.size
        rw [← hB.cell (p := ⟨g, o + k, none⟩) hg] at c0
        rw [← hB.cell (p := ⟨g', o' + k, none⟩) hq] at d0
        clear hg hq
        go_wp2
        go_quiet (fail)
        go_wp2
        go_roundw
        case rel => exact ⟨k + 1, by omega, by go_num, by (repeat (first | exact Below.refl _ _ | (refine Below.setCell ?_ (by (first | exact Nat.le_refl _ | omega | (simp <;> omega) | simp)) _) | (refine Below.alloc ?_ (by (first | exact Nat.le_refl _ | omega | (simp <;> omega) | simp)) _) | (refine below_draws ?_ _) | exact hB | (refine Below.trans ?_ (Below.mono hB (by (first | exact Nat.le_refl _ | omega | (simp <;> omega) | simp))))))⟩
        case measure => simp [intOf]; omega
      · obtain rfl : k = q.length := by omega
        go_wp2
        go_ret
        exact ⟨rfl, by (repeat (first | exact Below.refl _ _ | (refine Below.setCell ?_ (by (first | exact Nat.le_refl _ | omega | (simp <;> omega) | simp)) _) | (refine Below.alloc ?_ (by (first | exact Nat.le_refl _ | omega | (simp <;> omega) | simp)) _) | (refine below_draws ?_ _) | exact hB | (refine Below.trans ?_ (Below.mono hB (by (first | exact Nat.le_refl _ | omega | (simp <;> omega) | simp))))))⟩

/-- n running numbers from k on. -/
def nums (k n : Nat) : List Int := (List.range n).map fun i => ((k + i : Nat) : Int)
theorem nums_length (k n : Nat) : (nums k n).length = n := by simp [nums]
theorem nums_get (k n i : Nat) (h : i < (nums k n).length) : (nums k n)[i] = ((k + i : Nat) : Int) := by simp [nums]
theorem nums_take (k n i : Nat) (h : i ≤ n) : (nums k n).take i = nums k i := by
  unfold nums; rw [← List.map_take, List.take_range, Nat.min_eq_left h]

set_option maxHeartbeats 800000 in
theorem markIntS_any (v : Value) (n k : Nat) (xs : List Value) (base : Nat) (w : World) (hk : 1 ≤ k) (hkn : k + n ≤ 8000000) (h : w.ownsRow base 3 1 v n xs) :
    Calls Try.prog 42 #[v, .int .i64 k] w fun e w' => e = .returned (.int .i64 ((k + n : Nat) : Int)) ∧ w'.ownsRow base 3 1 v n (cellsI (nums k n)) ∧ w.grownBy w' v.ownBlock := by
  have hl := h.1
  have h0 := h
  rcases h.2 with ⟨rfl, rfl⟩ | ⟨g, cap, cur, rfl, hg, hh, hnc, hcm, _, _⟩
  · go_enter Try.func42, Try.ntmps42
    go_wp2
    refine wp_loop_rounds 1 ?_
    rw [rounds_succ]
    go_wp2
    go_ret
    exact ⟨rfl, World.ownsRow_nil _ _ _ _, World.grownBy.refl _ _⟩
  · unfold maxLen at hcm
    clear hh h
    have HL := Lib.hid hl; clear hl
    go_enter Try.func42, Try.ntmps42
    go_wp2
    go_loopw [1, 5] (fun q i wr => ∃ (j : Nat) (ys : List Value), j ≤ n ∧ i = .int .i64 j ∧ q = .int .i64 ((k + j : Nat) : Int) ∧ wr.ownsRow base 3 1 (.slice (some ⟨g, 0, none⟩) n cap) n ys ∧ Hid (ys.take j = cellsI (nums k j)) ∧ Hid (w.grownBy wr (some g))) (fun _ i _ => n - (intOf i).toNat)
    case atStart => exact ⟨0, xs, Nat.zero_le _, rfl, rfl, h0, rfl, Lib.hid (World.grownBy.refl _ _)⟩
    case round =>
      obtain ⟨j, ys, hj, rfl, rfl, hown, hh, hB⟩ := hrel
      by_cases hlt : j < n
      · have hyl : ys.length = n := by have := hown.1; omega
        have d0 := hown.cellAt j (by omega)
        rw [List.getElem?_eq_getElem (by omega)] at d0
        have f0 := hown.frozenAt j
        have s1 := hown.stored j (.int .i64 ((k + j : Nat) : Int))
        have HG : Hid (w.grownBy _ (some g)) := Lib.hid (grown_trans1 hB.out s1.2)
        have HT := Lib.hid (set1_take ys (nums k n) j (by rw [nums_length]; exact hlt) (by rw [nums_length]; exact hyl) (by rw [nums_take k n j (by omega)]; exact hh.out))
        rw [nums_get] at HT
        rw [nums_take k n (j + 1) (by omega)] at HT
        have HO := Lib.hid s1.1
        clear s1
        go_wp2
        go_roundw
        case rel =>
          refine ⟨j + 1, _, by omega, by go_num, by go_num, ?_, HT, ?_⟩
          · have := HO.out; simpa [Int.add_assoc] using this
          · have := HG.out; exact Lib.hid (by simpa [Int.add_assoc] using this)
        case measure => simp [intOf]; omega
      · have hyl : ys.length = n := by have := hown.1; omega
        go_wp2
        go_ret
        have hjn : j = n := by omega
        subst hjn
        refine ⟨by congr 1, ?_, hB.out⟩
        have e := hh.out
        rw [List.take_of_length_le (by omega)] at e
        rw [← e]; exact hown

set_option maxHeartbeats 800000 in
theorem heldIntS_any (v : Value) (n k : Nat) (w : World) (hk : 1 ≤ k) (hkn : k + n ≤ 8000000) (h : ReadsI w v (nums k n)) :
    Calls Try.prog 43 #[v, .int .i64 k] w fun e w' => e = .returned (.int .i64 ((k + n : Nat) : Int)) ∧ w = w' := by
  have hl := nums_length k n
  obtain ⟨p, cap, rfl, h1, h2, h3⟩ := h
  rcases h3 with hx | ⟨g, o, rfl, hc⟩
  · have hn : n = 0 := by rw [hx] at hl; simpa using hl.symm
    subst hn
    clear hl hx h1
    have e0 : (nums k 0).length = 0 := rfl
    rw [e0]
    clear e0
    go_enter Try.func43, Try.ntmps43
    go_wp2
    refine wp_loop_rounds 1 ?_
    rw [rounds_succ]
    go_wp2
    go_ret
    exact ⟨rfl, rfl⟩
  · have hc : ∀ j, j < n → w.cell? ⟨g, o + j, none⟩ = some (.int .i64 ((k + j : Nat) : Int)) := fun j hj => by
      have := hc j (by omega)
      rw [nums_get] at this
      exact this
    rw [hl] at h1 ⊢
    clear hl
    have HC := Lib.hid hc; clear hc
    go_enter Try.func43, Try.ntmps43
    go_wp2
    go_loopw [1, 5] (fun q i wr => ∃ (j : Nat), j ≤ n ∧ i = .int .i64 j ∧ q = .int .i64 ((k + j : Nat) : Int) ∧ wr = w) (fun _ i _ => n - (intOf i).toNat)
    case atStart => exact ⟨0, Nat.zero_le _, rfl, rfl, rfl⟩
    case round =>
      obtain ⟨j, hj, rfl, rfl, rfl⟩ := hrel
      by_cases hlt : j < n
      · have c0 := HC.out j hlt
        go_wp2
        go_roundw
        case rel => exact ⟨j + 1, by omega, by go_num, by go_num, by first | trivial | rfl⟩
        case measure => simp [intOf]; omega
      · go_wp2
        go_ret
        have hjn : j = n := by omega
        subst hjn
        exact ⟨by congr 1, by trivial⟩

/-! ### sizes -/
def szI (left : Int) (n : Nat) : Int := if left - n < 0 then -1 else left - n
theorem szIntS_any (v : Value) (q : List Int) (left : Int) (w : World) (h0 : 0 ≤ left) (h1 : left ≤ 1048576) (hr : ReadsI w v q) :
    Calls Try.prog 44 #[v, .int .i64 left] w fun e w' => e = .returned (.int .i64 (szI left q.length)) ∧ w = w' := by
  obtain ⟨p, cap, rfl, hl, hm⟩ := hr.shape
  clear hr
  by_cases hneg : left - q.length < 0
  · have HF : Hid (szI left q.length = -1) := Lib.hid (if_pos hneg)
    go_enter Try.func44, Try.ntmps44
    go_wp2
    go_ret
    exact ⟨ret_i HF.out.symm, rfl⟩
  · have HF : Hid (szI left q.length = left - q.length) := Lib.hid (if_neg hneg)
    go_enter Try.func44, Try.ntmps44
    go_wp2
    go_ret
    exact ⟨ret_i HF.out.symm, rfl⟩

/-! ### is a number in a list -/
set_option maxHeartbeats 800000 in
theorem has_reads (v : Value) (q : List Int) (x : Int) (w : World) (h : ReadsI w v q) :
    Calls Try.prog 63 #[v, .int .i64 x] w fun en w' => en = .returned (.bool (decide (x ∈ q))) ∧ w = w' := by
  obtain ⟨p, cap, rfl, h1, h2, h3⟩ := h
  rcases h3 with hx | ⟨g, o, rfl, hc⟩
  · subst hx
    have HF : Hid (decide (x ∈ ([] : List Int)) = false) := Lib.hid (by simp)
    simp only [List.length_nil]
    go_enter Try.func63, Try.ntmps63
    go_wp2
    refine wp_loop_rounds 1 ?_
    rw [rounds_succ]
    go_wp2
    go_ret
    exact ⟨ret_b HF.out.symm, rfl⟩
  · have HC := Lib.hid hc; clear hc
    by_cases hx : x ∈ q
    · obtain ⟨k1, hk1, hek⟩ := List.getElem_of_mem hx
      obtain ⟨k0, ⟨h0, he⟩, hmin⟩ := least (fun k => ∃ h : k < q.length, q[k] = x) k1 ⟨hk1, hek⟩
      clear hek hk1
      have HF : Hid (decide (x ∈ q) = true) := Lib.hid (by simpa using hx)
      have HE : Hid ((q[k0] == x) = true) := Lib.hid (by simpa using he)
      have HM : Hid (∀ j, (hj : j < k0) → (q[j] == x) = false) := Lib.hid fun j hj => by simpa using fun e => hmin j hj ⟨by omega, e⟩
      clear hx he hmin
      go_enter Try.func63, Try.ntmps63
      go_wp2
      go_loopw [9] (fun i wr => ∃ (k : Nat), k ≤ k0 ∧ i = .int .i64 k ∧ wr = w) (fun i _ => q.length - (intOf i).toNat)
      case atStart => exact ⟨0, Nat.zero_le _, rfl, rfl⟩
      case round =>
        obtain ⟨k, hk, rfl, rfl⟩ := hrel
        have hlt : k < q.length := by omega
        have c0 := HC.out k hlt
        by_cases hk0 : k < k0
        · have h1 := HM.out k hk0
          go_wp2
          go_roundw
          case rel => exact ⟨k + 1, by omega, by go_num, by first | trivial | rfl⟩
          case measure => simp [intOf]; omega
        · obtain rfl : k = k0 := by omega
          have h1 := HE.out
          go_wp2
          go_ret
          exact ⟨ret_b HF.out.symm, by first | trivial | rfl⟩
    · have HF : Hid (decide (x ∈ q) = false) := Lib.hid (by simpa using hx)
      have HM : Hid (∀ j, (hj : j < q.length) → (q[j] == x) = false) := Lib.hid fun j hj => by simpa using fun e => hx (by rw [← e]; exact List.getElem_mem hj)
      clear hx
      go_enter Try.func63, Try.ntmps63
      go_wp2
      go_loopw [9] (fun i wr => ∃ (k : Nat), k ≤ q.length ∧ i = .int .i64 k ∧ wr = w) (fun i _ => q.length - (intOf i).toNat)
      case atStart => exact ⟨0, Nat.zero_le _, rfl, rfl⟩
      case round =>
        obtain ⟨k, hk, rfl, rfl⟩ := hrel
        by_cases hlt : k < q.length
        · have c0 := HC.out k hlt
          have h1 := HM.out k hlt
          go_wp2
          go_roundw
          case rel => exact ⟨k + 1, by omega, by go_num, by first | trivial | rfl⟩
          case measure => simp [intOf]; omega
        · obtain rfl : k = q.length := by omega
          go_wp2
          go_ret
          exact ⟨ret_b HF.out.symm, by first | trivial | rfl⟩

theorem indexI_none (v : Value) (q : List Int) (x : Int) (w : World) (h : ReadsI w v q) (hx : x ∉ q) :
    Calls Try.prog 72 #[v, .int .i64 x] w fun en w' => en = .returned (.int .i64 (-1)) ∧ w = w' := by
  obtain ⟨p, cap, rfl, h1, h2, h3⟩ := h
  rcases h3 with hn | ⟨g, o, rfl, hc⟩
  · subst hn
    clear hx
    simp only [List.length_nil]
    go_enter Try.func72, Try.ntmps72
    go_wp2
    refine wp_loop_rounds 1 ?_
    rw [rounds_succ]
    go_wp2
    go_ret
    exact ⟨rfl, rfl⟩
  · have HC := Lib.hid hc; clear hc
    have HM : Hid (∀ j, (hj : j < q.length) → (x == q[j]) = false) := Lib.hid fun j hj => by simpa using fun e => hx (by rw [e]; exact List.getElem_mem hj)
    clear hx
    go_enter Try.func72, Try.ntmps72
    go_wp2
    go_loopw [8] (fun i wr => ∃ (k : Nat), k ≤ q.length ∧ i = .int .i64 k ∧ wr = w) (fun i _ => q.length - (intOf i).toNat)
    case atStart => exact ⟨0, Nat.zero_le _, rfl, rfl⟩
    case round =>
      obtain ⟨k, hk, rfl, rfl⟩ := hrel
      by_cases hlt : k < q.length
      · have c0 := HC.out k hlt
        have h1 := HM.out k hlt
        go_wp2
        go_roundw
        case rel => exact ⟨k + 1, by omega, by go_num, by first | trivial | rfl⟩
        case measure => simp [intOf]; omega
      · obtain rfl : k = q.length := by omega
        go_wp2
        go_ret
        exact ⟨rfl, by first | trivial | rfl⟩
theorem indexI_some (v : Value) (q : List Int) (x : Int) (w : World) (h : ReadsI w v q) (hx : x ∈ q) :
    Calls Try.prog 72 #[v, .int .i64 x] w fun en w' => ∃ k : Nat, en = .returned (.int .i64 k) ∧ w = w' := by
  obtain ⟨p, cap, rfl, h1, h2, h3⟩ := h
  rcases h3 with hn | ⟨g, o, rfl, hc⟩
  · subst hn; simp at hx
  · have HC := Lib.hid hc; clear hc
    obtain ⟨k1, hk1, hek⟩ := List.getElem_of_mem hx
    obtain ⟨k0, ⟨h0, he⟩, hmin⟩ := least (fun k => ∃ h : k < q.length, q[k] = x) k1 ⟨hk1, hek⟩
    clear hek hk1
    have HE : Hid ((x == q[k0]) = true) := Lib.hid (by simpa using he.symm)
    have HM : Hid (∀ j, (hj : j < k0) → (x == q[j]) = false) := Lib.hid fun j hj => by simpa using fun e => hmin j hj ⟨by omega, e.symm⟩
    clear hx he hmin
    go_enter Try.func72, Try.ntmps72
    go_wp2
    go_loopw [8] (fun i wr => ∃ (k : Nat), k ≤ k0 ∧ i = .int .i64 k ∧ wr = w) (fun i _ => q.length - (intOf i).toNat)
    case atStart => exact ⟨0, Nat.zero_le _, rfl, rfl⟩
    case round =>
      obtain ⟨k, hk, rfl, rfl⟩ := hrel
      have hlt : k < q.length := by omega
      have c0 := HC.out k hlt
      by_cases hk0 : k < k0
      · have h1 := HM.out k hk0
        go_wp2
        go_roundw
        case rel => exact ⟨k + 1, by omega, by go_num, by first | trivial | rfl⟩
        case measure => simp [intOf]; omega
      · obtain rfl : k = k0 := by omega
        have h1 := HE.out
        go_wp2
        go_ret
        exact ⟨k, rfl, by first | trivial | rfl⟩
theorem containsI_any (v : Value) (q : List Int) (x : Int) (w : World) (h : ReadsI w v q) :
    Calls Try.prog 67 #[v, .int .i64 x] w fun en w' => en = .returned (.bool (decide (x ∈ q))) ∧ w = w' := by
  by_cases hx : x ∈ q
  · have HF : Hid (decide (x ∈ q) = true) := Lib.hid (by simpa using hx)
    have hc := indexI_some v q x w h hx
    clear hx h
    go_enter Try.func67, Try.ntmps67
    go_wp2_with fail
    refine hc.mono ?_
    rintro en w1 ⟨k, rfl, rfl⟩
    go_wp2
    go_ret
    exact ⟨ret_b HF.out.symm, rfl⟩
  · have HF : Hid (decide (x ∈ q) = false) := Lib.hid (by simpa using hx)
    have hc := indexI_none v q x w h hx
    clear hx h
    go_enter Try.func67, Try.ntmps67
    go_wp2_with fail
    refine hc.mono ?_
    rintro en w1 ⟨rfl, rfl⟩
    go_wp2
    go_ret
    exact ⟨ret_b HF.out.symm, rfl⟩
end Go.Proofs.Ytidgggdgblfanaa
