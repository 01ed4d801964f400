/-
  Slices of numbers: how they read; the laws' copies, comparisons, marks and sizes of them.
-/
import Derived.Test.YtnbbmpilpeakiaaReach
namespace Go.Proofs.Ytnbbmpilpeakiaa
open Go.RowKit

/-- The slice v reads as the numbers q. -/
def ReadsI (w : World) (v : Value) (q : List Int) : Prop :=
  ∃ p cap, v = .slice p q.length cap ∧ q.length ≤ cap ∧ cap ≤ 9223372036854775807 ∧ (q = [] ∨ ∃ g o, p = some ⟨g, o, none⟩ ∧ ∀ k (h : k < q.length), w.cell? ⟨g, o + k, none⟩ = some (.int .i64 q[k]))

theorem ReadsI.later {w w' : World} {v : Value} {q : List Int} (h : ReadsI w v q) (hB : Below w.heap.size w w') : ReadsI w' v q := by
  obtain ⟨p, cap, rfl, h1, h2, h3⟩ := h
  refine ⟨p, cap, rfl, h1, h2, ?_⟩
  rcases h3 with h0 | ⟨g, o, rfl, hc⟩
  · exact .inl h0
  · exact .inr ⟨g, o, rfl, fun k hk => by
      have a := hc k hk
      rw [hB.cell (p := ⟨g, o + k, none⟩) (World.block_lt_of_cell? w _ a)]; exact a⟩
theorem ReadsI.same {w w' : World} {v : Value} {q : List Int} (h : ReadsI w v q) (hB : ∀ b o u, w.cell? ⟨b, o, none⟩ = some u → w'.cell? ⟨b, o, none⟩ = some u) : ReadsI w' v q := by
  obtain ⟨p, cap, rfl, h1, h2, h3⟩ := h
  refine ⟨p, cap, rfl, h1, h2, ?_⟩
  rcases h3 with h0 | ⟨g, o, rfl, hc⟩
  · exact .inl h0
  · exact .inr ⟨g, o, rfl, fun k hk => hB _ _ _ (hc k hk)⟩
theorem ReadsI.kept {w w' : World} {row : Option Nat} {v : Value} {q : List Int} (h : ReadsI w v q) (hg : w.grownBy w' row) (hne : v.ownBlock = none ∨ v.ownBlock ≠ row) : ReadsI w' v q := by
  obtain ⟨p, cap, rfl, h1, h2, h3⟩ := h
  refine ⟨p, cap, rfl, h1, h2, ?_⟩
  rcases h3 with h0 | ⟨g, o, rfl, hc⟩
  · exact .inl h0
  · have hr : some g ≠ row := by
      rcases hne with h | h
      · exact absurd h (by simp [Value.ownBlock])
      · exact h
    exact .inr ⟨g, o, rfl, fun k hk => hg.cell (hc k hk) hr⟩
theorem ReadsI.of_own {w : World} {base : Nat} {v : Value} {q : List Int} (h : w.ownsRow base 3 1 v q.length (cellsI q)) : ReadsI w v q := by
  have hh := h
  obtain ⟨hl, h2⟩ := h
  rcases h2 with ⟨rfl, hn⟩ | ⟨g, cap, cur, rfl, hb, hg, hnc, hcm, hcs, ht⟩
  · rw [List.eq_nil_of_length_eq_zero hn]
    exact ⟨none, 0, rfl, Nat.le_refl _, by omega, .inl rfl⟩
  · unfold maxLen at hcm
    refine ⟨_, cap, rfl, hnc, by omega, .inr ⟨g, 0, rfl, fun k hk => ?_⟩⟩
    have := hh.cellAt k (by omega)
    rw [cellsI_get q k hk] at this
    simpa using this
theorem ReadsI.shape {w : World} {v : Value} {q : List Int} (h : ReadsI w v q) : ∃ p cap, v = .slice p q.length cap ∧ q.length ≤ cap ∧ cap ≤ 9223372036854775807 := by
  obtain ⟨p, cap, rfl, h1, h2, h3⟩ := h
  exact ⟨p, cap, rfl, h1, h2⟩
theorem ReadsI.nil (w : World) (p : Option Addr) (cap : Nat) (h : cap ≤ 9223372036854775807) : ReadsI w (.slice p 0 cap) [] := ⟨p, cap, rfl, Nat.zero_le _, h, .inl rfl⟩
theorem ReadsI.at {w : World} {g o n cap : Nat} {q : List Int} (h : ReadsI w (.slice (some ⟨g, o, none⟩) n cap) q) (k : Nat) (hk : k < q.length) : w.cell? ⟨g, o + k, none⟩ = some (.int .i64 q[k]) := by
  obtain ⟨p, c, he, h1, h2, h3⟩ := h
  rcases h3 with h0 | ⟨g', o', rfl, hc⟩
  · subst h0; simp at hk
  · simp only [Value.slice.injEq, Option.some.injEq, Addr.mk.injEq] at he
    obtain ⟨⟨rfl, rfl, -⟩, -, -⟩ := he
    exact hc k hk
theorem ReadsI.pos {w : World} {v : Value} {q : List Int} (h : ReadsI w v q) (hq : 0 < q.length) : ∃ g o cap, v = .slice (some ⟨g, o, none⟩) q.length cap ∧ q.length ≤ cap ∧ cap ≤ 9223372036854775807 ∧ g < w.heap.size ∧ ∀ k (h : k < q.length), w.cell? ⟨g, o + k, none⟩ = some (.int .i64 q[k]) := by
  obtain ⟨p, cap, rfl, h1, h2, h3⟩ := h
  rcases h3 with h0 | ⟨g, o, rfl, hc⟩
  · subst h0; simp at hq
  · exact ⟨g, o, cap, rfl, h1, h2, World.block_lt_of_cell? w _ (hc 0 hq), hc⟩
/-- The first i of them. -/
theorem ReadsI.take {w : World} {g o n cap : Nat} {q : List Int} (h : ReadsI w (.slice (some ⟨g, o, none⟩) n cap) q) (i : Nat) (hi : i ≤ q.length) : ReadsI w (.slice (some ⟨g, o, none⟩) i cap) (q.take i) := by
  have hat := fun k hk => h.at k hk
  obtain ⟨p, c, he, h1, h2, h3⟩ := h
  simp only [Value.slice.injEq] at he
  obtain ⟨-, rfl, rfl⟩ := he
  have hl : (q.take i).length = i := by simp; omega
  refine ⟨_, cap, by rw [hl], by omega, h2, .inr ⟨g, o, rfl, fun k hk => ?_⟩⟩
  rw [List.getElem_take]
  exact hat k (by omega)
/-- All behind the first i. -/
theorem ReadsI.drop {w : World} {g o n cap : Nat} {q : List Int} (h : ReadsI w (.slice (some ⟨g, o, none⟩) n cap) q) (i : Nat) (hi : i ≤ q.length) : ReadsI w (.slice (some ⟨g, o + i, none⟩) (n - i) (cap - i)) (q.drop i) := by
  have hat := fun k hk => h.at k hk
  obtain ⟨p, c, he, h1, h2, h3⟩ := h
  simp only [Value.slice.injEq] at he
  obtain ⟨-, rfl, rfl⟩ := he
  have hl : (q.drop i).length = q.length - i := by simp
  refine ⟨_, cap - i, by rw [hl], by omega, by omega, .inr ⟨g, o + i, rfl, fun k hk => ?_⟩⟩
  rw [List.getElem_drop, Nat.add_assoc]
  exact hat (i + k) (by omega)

/-! ### the laws' copies and comparisons -/
theorem cellsI_snoc (l : List Int) (x : Int) : cellsI (l ++ [x]) = cellsI l ++ [.int .i64 x] := by simp [cellsI]
theorem grown_trans1 {a b c : World} {row : Option Nat} (h : a.grownBy b row) (k : b.grownBy c row) : a.grownBy c row :=
  ⟨k.os.trans h.os, k.tape.trans h.tape, k.output.trans h.output, Nat.le_trans h.size k.size, fun i hi hr => (k.block i (Nat.lt_of_lt_of_le hi h.size) hr).trans (h.block i hi hr)⟩
theorem set1_take (ys : List Value) (q : List Int) (k : Nat) (hk : k < q.length) (hy : ys.length = q.length) (h : ys.take k = cellsI (q.take k)) :
    (ys.set k (.int .i64 q[k])).take (k + 1) = cellsI (q.take (k + 1)) := by
  rw [List.take_succ_eq_append_getElem hk]
  rw [cellsI_snoc, ← h, List.take_succ_eq_append_getElem (by simp; omega)]
  simp [List.take_set_of_le]

/-- n running numbers from k on. -/
def nums (k n : Nat) : List Int := (List.range n).map fun i => ((k + i : Nat) : Int)
theorem nums_length (k n : Nat) : (nums k n).length = n := by simp [nums]
theorem nums_get (k n i : Nat) (h : i < (nums k n).length) : (nums k n)[i] = ((k + i : Nat) : Int) := by simp [nums]
theorem nums_take (k n i : Nat) (h : i ≤ n) : (nums k n).take i = nums k i := by
  unfold nums; rw [← List.map_take, List.take_range, Nat.min_eq_left h]

/-! ### sizes -/
def szI (left : Int) (n : Nat) : Int := if left - n < 0 then -1 else left - n
/-! ### is a number in a list -/
set_option maxHeartbeats 800000 in
theorem has_reads (v : Value) (q : List Int) (x : Int) (w : World) (h : ReadsI w v q) :
    Calls Try.prog 111 #[v, .int .i64 x] w fun en w' => en = .returned (.bool (decide (x ∈ q))) ∧ w = w' := by
  obtain ⟨p, cap, rfl, h1, h2, h3⟩ := h
  rcases h3 with hx | ⟨g, o, rfl, hc⟩
  · subst hx
    have HF : Hid (decide (x ∈ ([] : List Int)) = false) := Lib.hid (by simp)
    simp only [List.length_nil]
    go_enter Try.func111, Try.ntmps111
    go_wp2
    refine wp_loop_rounds 1 ?_
    rw [rounds_succ]
    go_wp2
    go_ret
    exact ⟨ret_b HF.out.symm, rfl⟩
  · have HC := Lib.hid hc; clear hc
    by_cases hx : x ∈ q
    · obtain ⟨k1, hk1, hek⟩ := List.getElem_of_mem hx
      obtain ⟨k0, ⟨h0, he⟩, hmin⟩ := least (fun k => ∃ h : k < q.length, q[k] = x) k1 ⟨hk1, hek⟩
      clear hek hk1
      have HF : Hid (decide (x ∈ q) = true) := Lib.hid (by simpa using hx)
      have HE : Hid ((q[k0] == x) = true) := Lib.hid (by simpa using he)
      have HM : Hid (∀ j, (hj : j < k0) → (q[j] == x) = false) := Lib.hid fun j hj => by simpa using fun e => hmin j hj ⟨by omega, e⟩
      clear hx he hmin
      go_enter Try.func111, Try.ntmps111
      go_wp2
      go_loopw [9] (fun i wr => ∃ (k : Nat), k ≤ k0 ∧ i = .int .i64 k ∧ wr = w) (fun i _ => q.length - (intOf i).toNat)
      case atStart => exact ⟨0, Nat.zero_le _, rfl, rfl⟩
      case round =>
        obtain ⟨k, hk, rfl, rfl⟩ := hrel
        have hlt : k < q.length := by omega
        have c0 := HC.out k hlt
        by_cases hk0 : k < k0
        · have h1 := HM.out k hk0
          go_wp2
          go_roundw
          case rel => exact ⟨k + 1, by omega, by go_num, by first | trivial | rfl⟩
          case measure => simp [intOf]; omega
        · obtain rfl : k = k0 := by omega
          have h1 := HE.out
          go_wp2
          go_ret
          exact ⟨ret_b HF.out.symm, by first | trivial | rfl⟩
    · have HF : Hid (decide (x ∈ q) = false) := Lib.hid (by simpa using hx)
      have HM : Hid (∀ j, (hj : j < q.length) → (q[j] == x) = false) := Lib.hid fun j hj => by simpa using fun e => hx (by rw [← e]; exact List.getElem_mem hj)
      clear hx
      go_enter Try.func111, Try.ntmps111
      go_wp2
      go_loopw [9] (fun i wr => ∃ (k : Nat), k ≤ q.length ∧ i = .int .i64 k ∧ wr = w) (fun i _ => q.length - (intOf i).toNat)
      case atStart => exact ⟨0, Nat.zero_le _, rfl, rfl⟩
      case round =>
        obtain ⟨k, hk, rfl, rfl⟩ := hrel
        by_cases hlt : k < q.length
        · have c0 := HC.out k hlt
          have h1 := HM.out k hlt
          go_wp2
          go_roundw
          case rel => exact ⟨k + 1, by omega, by go_num, by first | trivial | rfl⟩
          case measure => simp [intOf]; omega
        · obtain rfl : k = q.length := by omega
          go_wp2
          go_ret
          exact ⟨ret_b HF.out.symm, by first | trivial | rfl⟩

theorem indexI_none (v : Value) (q : List Int) (x : Int) (w : World) (h : ReadsI w v q) (hx : x ∉ q) :
    Calls Try.prog 115 #[v, .int .i64 x] w fun en w' => en = .returned (.int .i64 (-1)) ∧ w = w' := by
  obtain ⟨p, cap, rfl, h1, h2, h3⟩ := h
  rcases h3 with hn | ⟨g, o, rfl, hc⟩
  · subst hn
    clear hx
    simp only [List.length_nil]
    go_enter Try.func115, Try.ntmps115
    go_wp2
    refine wp_loop_rounds 1 ?_
    rw [rounds_succ]
    go_wp2
    go_ret
    exact ⟨rfl, rfl⟩
  · have HC := Lib.hid hc; clear hc
    have HM : Hid (∀ j, (hj : j < q.length) → (x == q[j]) = false) := Lib.hid fun j hj => by simpa using fun e => hx (by rw [e]; exact List.getElem_mem hj)
    clear hx
    go_enter Try.func115, Try.ntmps115
    go_wp2
    go_loopw [8] (fun i wr => ∃ (k : Nat), k ≤ q.length ∧ i = .int .i64 k ∧ wr = w) (fun i _ => q.length - (intOf i).toNat)
    case atStart => exact ⟨0, Nat.zero_le _, rfl, rfl⟩
    case round =>
      obtain ⟨k, hk, rfl, rfl⟩ := hrel
      by_cases hlt : k < q.length
      · have c0 := HC.out k hlt
        have h1 := HM.out k hlt
        go_wp2
        go_roundw
        case rel => exact ⟨k + 1, by omega, by go_num, by first | trivial | rfl⟩
        case measure => simp [intOf]; omega
      · obtain rfl : k = q.length := by omega
        go_wp2
        go_ret
        exact ⟨rfl, by first | trivial | rfl⟩
theorem indexI_some (v : Value) (q : List Int) (x : Int) (w : World) (h : ReadsI w v q) (hx : x ∈ q) :
    Calls Try.prog 115 #[v, .int .i64 x] w fun en w' => ∃ k : Nat, en = .returned (.int .i64 k) ∧ w = w' := by
  obtain ⟨p, cap, rfl, h1, h2, h3⟩ := h
  rcases h3 with hn | ⟨g, o, rfl, hc⟩
  · subst hn; simp at hx
  · have HC := Lib.hid hc; clear hc
    obtain ⟨k1, hk1, hek⟩ := List.getElem_of_mem hx
    obtain ⟨k0, ⟨h0, he⟩, hmin⟩ := least (fun k => ∃ h : k < q.length, q[k] = x) k1 ⟨hk1, hek⟩
    clear hek hk1
    have HE : Hid ((x == q[k0]) = true) := Lib.hid (by simpa using he.symm)
    have HM : Hid (∀ j, (hj : j < k0) → (x == q[j]) = false) := Lib.hid fun j hj => by simpa using fun e => hmin j hj ⟨by omega, e.symm⟩
    clear hx he hmin
    go_enter Try.func115, Try.ntmps115
    go_wp2
    go_loopw [8] (fun i wr => ∃ (k : Nat), k ≤ k0 ∧ i = .int .i64 k ∧ wr = w) (fun i _ => q.length - (intOf i).toNat)
    case atStart => exact ⟨0, Nat.zero_le _, rfl, rfl⟩
    case round =>
      obtain ⟨k, hk, rfl, rfl⟩ := hrel
      have hlt : k < q.length := by omega
      have c0 := HC.out k hlt
      by_cases hk0 : k < k0
      · have h1 := HM.out k hk0
        go_wp2
        go_roundw
        case rel => exact ⟨k + 1, by omega, by go_num, by first | trivial | rfl⟩
        case measure => simp [intOf]; omega
      · obtain rfl : k = k0 := by omega
        have h1 := HE.out
        go_wp2
        go_ret
        exact ⟨k, rfl, by first | trivial | rfl⟩
theorem containsI_any (v : Value) (q : List Int) (x : Int) (w : World) (h : ReadsI w v q) :
    Calls Try.prog 103 #[v, .int .i64 x] w fun en w' => en = .returned (.bool (decide (x ∈ q))) ∧ w = w' := by
  by_cases hx : x ∈ q
  · have HF : Hid (decide (x ∈ q) = true) := Lib.hid (by simpa using hx)
    have hc := indexI_some v q x w h hx
    clear hx h
    go_enter Try.func103, Try.ntmps103
    go_wp2_with fail
    refine hc.mono ?_
    rintro en w1 ⟨k, rfl, rfl⟩
    go_wp2
    go_ret
    exact ⟨ret_b HF.out.symm, rfl⟩
  · have HF : Hid (decide (x ∈ q) = false) := Lib.hid (by simpa using hx)
    have hc := indexI_none v q x w h hx
    clear hx h
    go_enter Try.func103, Try.ntmps103
    go_wp2_with fail
    refine hc.mono ?_
    rintro en w1 ⟨rfl, rfl⟩
    go_wp2
    go_ret
    exact ⟨ret_b HF.out.symm, rfl⟩
end Go.Proofs.Ytnbbmpilpeakiaa
